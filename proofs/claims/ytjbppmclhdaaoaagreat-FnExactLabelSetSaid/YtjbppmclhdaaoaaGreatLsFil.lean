/- Labels without one: as the model makes them; a row of which one leaf is written. -/
import Derived.Test.YtjbppmclhdaaoaaGreatLsAdd
import Derived.Test.YtjbppmclhdaaoaaGreatLsStep
import Derived.Test.YtjbppmclhdaaoaaGreatGrS
namespace Go.Proofs.YtjbppmclhdaaoaaGreat
open Go.RowKit Go.Deep

/-- Of the first k texts those that are others. -/
def filS (l : List ByteArray) (s : ByteArray) (k : Nat) : List ByteArray := (l.take k).filter fun x => !(x.toList == s.toList)
theorem filS_succ {l : List ByteArray} {s : ByteArray} {k : Nat} (h : k < l.length) : filS l s (k + 1) = filS l s k ++ (if (l[k].toList == s.toList) then [] else [l[k]]) := by
  unfold filS
  rw [List.take_add_one, List.getElem?_eq_getElem h, List.filter_append]
  congr 1
  cases e : (l[k].toList == s.toList) <;> simp [e]
theorem filS_len (l : List ByteArray) (s : ByteArray) (k : Nat) : (filS l s k).length ≤ l.length := by
  unfold filS
  exact Nat.le_trans (List.length_filter_le _ _) (by simp; omega)
theorem fil_set {l : List ByteArray} (h : AscS l) (s : ByteArray) : (l.filter fun x => !(x.toList == s.toList)) = setL l s false := by
  induction l with
  | nil => rfl
  | cons a l ih =>
    obtain ⟨h1, h2⟩ := List.pairwise_cons.1 h
    have ih := ih h2
    unfold setL at ih ⊢
    simp only [Bool.false_eq_true, if_false, List.nil_append] at ih ⊢
    by_cases ha : ltB a s = true
    · have hne : (a.toList == s.toList) = false := by
        rw [beq_eq_false_iff_ne]
        intro e
        rw [ba_ext e, lt_irr] at ha
        cases ha
      rw [List.filter_cons, List.filter_cons, List.filter_cons, if_pos (by rw [hne]; rfl), if_pos ha, if_neg (by rw [lt_as ha]; exact Bool.false_ne_true), ih]
      rfl
    · have hf : ltB a s = false := by simpa using ha
      have hgt : ∀ x ∈ l, ltB s x = true := fun x hx => by
        cases e : ltB s a with
        | true => exact lt_tr e (h1 x hx)
        | false => rw [lt_to e hf]; exact h1 x hx
      have hno : (l.filter fun x => ltB x s) = [] := List.filter_eq_nil_iff.2 fun x hx => by simp [lt_as (hgt x hx)]
      have hall : (l.filter fun x => ltB s x) = l := List.filter_eq_self.2 fun x hx => hgt x hx
      rw [hno, hall, List.nil_append] at ih
      rw [List.filter_cons, List.filter_cons, List.filter_cons, if_neg ha, hno, hall, ih, List.nil_append]
      by_cases he : a = s
      · subst he
        rw [if_neg (by simp), if_neg (by rw [lt_irr]; exact Bool.false_ne_true)]
      · have hsa : ltB s a = true := by
          cases e : ltB s a with
          | true => rfl
          | false => exact absurd (lt_to hf e) he
        have hne : (a.toList == s.toList) = false := by
          rw [beq_eq_false_iff_ne]
          exact fun e => he (ba_ext e)
        rw [if_pos (by rw [hne]; rfl), if_pos hsa]
theorem set_set (l : List ByteArray) (s : ByteArray) : setL (setL l s false) s true = setL l s true := by
  unfold setL
  simp only [Bool.false_eq_true, if_false, List.nil_append, if_true, List.filter_append, List.filter_filter]
  have e1 : (l.filter fun x => ltB x s && ltB x s) = l.filter fun x => ltB x s := List.filter_congr fun x _ => by simp
  have e2 : (l.filter fun x => ltB x s && ltB s x) = [] := List.filter_eq_nil_iff.2 fun x _ => by
    cases e : ltB x s
    · simp
    · simp [lt_as e]
  have e3 : (l.filter fun x => ltB s x && ltB x s) = [] := List.filter_eq_nil_iff.2 fun x _ => by
    cases e : ltB x s
    · simp
    · simp [lt_as e]
  have e4 : (l.filter fun x => ltB s x && ltB s x) = l.filter fun x => ltB s x := List.filter_congr fun x _ => by simp
  rw [e1, e2, e3, e4, List.append_nil, List.nil_append]
theorem fil_asc {l : List ByteArray} (h : AscS l) (s : ByteArray) : AscS (l.filter fun x => !(x.toList == s.toList)) := List.Pairwise.filter _ h
theorem fil_ne (l : List ByteArray) (s : ByteArray) : ∀ x ∈ (l.filter fun x => !(x.toList == s.toList)), x ≠ s := fun x hx e => by
  have := (List.mem_filter.1 hx).2
  rw [e] at this
  simp at this
/-- One leaf of a row is written. -/
theorem GRow.set {w : World} {S Q : Nat → Prop} {base : Nat} {T : TypeId} {n : Nat} {f : Nat → Nat → D} {len : Nat} {a : Option Addr} {cap : Nat} {cs : List Value} (h : GRow w S base T n f len (.slice a len cap) cs) {i0 j0 : Nat} (hi0 : i0 < len) (hj0 : j0 < n) {v : D} {vL : Value} (hv : DIn Q w v vL) (hQS : ∀ x, Q x → ¬ S x) (hl : len ≤ maxLen) :
    ∃ g, a = some ⟨g, 0, none⟩ ∧ S g ∧ (∃ u, w.cell? ⟨g, i0 * n + j0, none⟩ = some u) ∧ (∀ o, w.frozen? ⟨g, o, none⟩ = false) ∧ DIn (fun x => S x ∨ Q x) (w.setCell ⟨g, i0 * n + j0, none⟩ vL) (.list n len (setF f i0 j0 v)) (.slice a len cap) := by
  obtain ⟨hr, hub, hs, P, hlv, hd⟩ := h
  rcases hr.2 with ⟨e, e2⟩ | ⟨g, cap', cur, e, hb, hg, hn, hm, hsz, ht⟩
  · omega
  · injection e with e1 _ e3
    subst e1 e3
    have hgS : S g := hub g rfl
    have hglt : g < w.heap.size := lt_of_block hg
    have hcell : ∀ (o : Nat) (c : Value), cs[o]? = some c → w.cell? ⟨g, o, none⟩ = some c := fun o c hc => by
      have := hr.cells (g := g) rfl o c hc
      rw [Go.WideShapes.add_plain] at this
      simpa using this
    have hoff : ∀ i j, i < len → j < n → (i * n + j = i0 * n + j0 ↔ i = i0 ∧ j = j0) := fun i j hi hj => by
      constructor
      · intro h
        have h1 : i = i0 := by
          have e1 : (i * n + j) / n = i := by rw [Nat.mul_comm, Nat.mul_add_div (by omega), Nat.div_eq_of_lt hj]; omega
          have e2 : (i0 * n + j0) / n = i0 := by rw [Nat.mul_comm, Nat.mul_add_div (by omega), Nat.div_eq_of_lt hj0]; omega
          rw [← e1, ← e2, h]
        subst h1
        exact ⟨rfl, by omega⟩
      · rintro ⟨rfl, rfl⟩; rfl
    obtain ⟨c0, hc0, _⟩ := hlv i0 hi0 j0 hj0
    refine ⟨g, rfl, hgS, ⟨c0, hcell _ _ hc0⟩, fun o => by simp [World.frozen?, hg], ⟨_, cap, g, 0, rfl, hl, fun _ => ⟨rfl, .inl hgS, by simpa using hglt⟩, fun i hi j hj => ?_⟩⟩
    have hidx : 0 + i * n + j = i * n + j := by omega
    rw [hidx]
    by_cases hij : i = i0 ∧ j = j0
    · obtain ⟨rfl, rfl⟩ := hij
      refine ⟨vL, ?_, ?_⟩
      · exact World.cell?_setCell_same _ _ _ (hcell _ _ hc0)
      · rw [setF_at]
        exact (hv.setCell (fun hq => hQS _ hq hgS) _).mono (fun x hx => .inr hx)
    · obtain ⟨c, h1, h2, h3, h4⟩ := hlv i hi j hj
      refine ⟨c, ?_, ?_⟩
      · rw [World.cell?_setCell_other]
        · exact hcell _ _ h1
        · intro e
          injection e with _ e2 _
          exact hij ((hoff i j hi hj).1 e2.symm)
      · rw [setF_ne hij]
        have := h2.setCell (p := ⟨g, i0 * n + j0, none⟩) (fun hq => (h4 _ hq).2 rfl) vL
        exact this.mono (fun x hx => Or.inl (h4 x hx).1)
end Go.Proofs.YtjbppmclhdaaoaaGreat
