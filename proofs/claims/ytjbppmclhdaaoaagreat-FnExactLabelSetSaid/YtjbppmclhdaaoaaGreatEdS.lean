/- The answer of EdgeDrop, as data. -/
import Derived.Test.YtjbppmclhdaaoaaGreatGDef
import Derived.Test.YtjbppmclhdaaoaaGreatNetThy
import Derived.Test.YtjbppmclhdaaoaaGreatDMs
import Derived.Test.YtjbppmclhdaaoaaGreatNetEnd
namespace Go.Proofs.YtjbppmclhdaaoaaGreat
open Go.RowKit Go.Deep

/-- A list without its element k. -/
def dropF (f : Nat → Nat → D) (k : Nat) : Nat → Nat → D := fun i => if i < k then f i else f (i + 1)
/-- Where an edge stands. -/
def edK (d1 : D) (id : Int) : Option Nat := (List.range d1.len!).find? fun i => (d1.at! i 0).int! == id
def edD0 (g : Bool) (d0 : D) : D := if g then d0 else noneL 3
def edD1 (g : Bool) (d1 : D) (id : Int) : D := if g then (match edK d1 id with | some k => .list 5 (d1.len! - 1) (dropF d1.at! k) | none => d1) else noneL 5
def edX (g : Bool) (x : Int) : Int := if g then x else 0
def edB (g : Bool) (d1 : D) (id : Int) : Bool := g && (edK d1 id).isSome
def edL (d1 : D) (a : Option Nat) : D := match a with | some k => .list 5 (d1.len! - 1) (dropF d1.at! k) | none => d1
theorem edD1_eq {d1 : D} {id : Int} {a : Option Nat} (h : edK d1 id = a) : edD1 true d1 id = edL d1 a := by subst h; rfl
theorem mem_ids {f : Nat → Nat → D} {len i : Nat} (h : i < len) : (f i 0).int! ∈ idsOf f len := List.mem_map.2 ⟨i, List.mem_range.2 h, rfl⟩
theorem edK_some {d1 : D} {id : Int} {k : Nat} (h : edK d1 id = some k) : k < d1.len! ∧ (d1.at! k 0).int! = id ∧ ∀ j, j < k → (d1.at! j 0).int! ≠ id := by
  rw [edK, List.find?_range_eq_some] at h
  exact ⟨by simpa using h.2.1, by simpa using h.1, fun j hj => by simpa using h.2.2 j hj⟩
theorem edK_none {d1 : D} {id : Int} (h : edK d1 id = none) : ∀ j, j < d1.len! → (d1.at! j 0).int! ≠ id := by
  rw [edK, List.find?_range_eq_none] at h
  exact fun j hj => by simpa using h j hj
theorem dropF_row {f : Nat → Nat → D} {len k : Nat} (hk : k < len) (h : ∀ i, i < len → HasRow 5 (f i)) : ∀ i, i < len - 1 → HasRow 5 (dropF f k i) := fun i hi => by
  unfold dropF
  split
  · exact h i (by omega)
  · exact h (i + 1) (by omega)
theorem edD0_has {g : Bool} {d0 : D} (H0 : Has d0 (.list 4)) : Has (edD0 g d0) (.list 4) := by
  unfold edD0
  cases g
  · exact ⟨4, rfl, rfl, fun i hi => by omega⟩
  · exact H0
theorem edD1_has {g : Bool} {d1 : D} {id : Int} (H1 : Has d1 (.list 5)) : Has (edD1 g d1 id) (.list 5) := by
  unfold edD1
  cases g
  · exact ⟨5, rfl, rfl, fun i hi => by omega⟩
  · cases h : edK d1 id with
    | none => exact H1
    | some k =>
      obtain ⟨len, f, rfl, HR⟩ := H1.list
      exact ⟨5, rfl, rfl, fun i hi j hj => dropF_row (edK_some h).1 HR i hi j hj⟩
theorem edD0_lenOk {g : Bool} {d0 : D} (s0 : SmallD d0) : LenOk (edD0 g d0) := by
  unfold edD0
  cases g
  · exact ⟨Nat.zero_le _, fun i hi => by omega⟩
  · exact small_lenOk _ s0
theorem edD1_lenOk {g : Bool} {d1 : D} {id : Int} (H1 : Has d1 (.list 5)) (s1 : SmallD d1) : LenOk (edD1 g d1 id) := by
  unfold edD1
  cases g
  · exact ⟨Nat.zero_le _, fun i hi => by omega⟩
  · cases h : edK d1 id with
    | none => exact small_lenOk _ s1
    | some k =>
      obtain ⟨len, f, rfl, _⟩ := H1.list
      have hs := small_lenOk _ s1
      have hl := hs.1
      have hk := (edK_some h).1
      change k < len at hk
      refine ⟨by show len - 1 ≤ _; omega, fun i hi j hj => ?_⟩
      change i < len - 1 at hi
      show LenOk (dropF f k i j)
      unfold dropF
      split
      · exact hs.2 i (by omega) j hj
      · exact hs.2 (i + 1) (by omega) j hj
theorem edD0_cnt {g : Bool} {d0 : D} : cntD (edD0 g d0) ≤ cntD d0 := by
  unfold edD0
  cases g
  · simp [noneL, cntD, sumN]
  · exact Nat.le_refl _
theorem sumN_drop (g : Nat → Nat) (k m : Nat) : sumN (fun i => if i < k then g i else g (i + 1)) m ≤ sumN g (m + 1) := by
  induction m with
  | zero => simp [sumN]
  | succ m ih =>
    by_cases h : m + 1 ≤ k
    · have e : sumN (fun i => if i < k then g i else g (i + 1)) (m + 1) = sumN g (m + 1) := sumN_congr fun i hi => by rw [if_pos (by omega)]
      rw [e]
      simp only [sumN]
      omega
    · have e : (if m < k then g m else g (m + 1)) = g (m + 1) := by rw [if_neg (by omega)]
      simp only [sumN] at ih ⊢
      rw [e]
      omega
theorem edD1_cnt {g : Bool} {d1 : D} {id : Int} (H1 : Has d1 (.list 5)) : cntD (edD1 g d1 id) ≤ cntD d1 := by
  unfold edD1
  cases g
  · simp [noneL, cntD, sumN]
  · cases h : edK d1 id with
    | none => exact Nat.le_refl _
    | some k =>
      obtain ⟨len, f, rfl, _⟩ := H1.list
      have hk := (edK_some h).1
      change k < len at hk
      show sumN (fun i => sumN (fun j => cntD (dropF f k i j)) 5) (len - 1) ≤ sumN (fun i => sumN (fun j => cntD (f i j)) 5) len
      have hd := sumN_drop (fun i => sumN (fun j => cntD (f i j)) 5) k (len - 1)
      rw [show len - 1 + 1 = len by omega] at hd
      refine Nat.le_trans (Nat.le_of_eq (sumN_congr fun i hi => ?_)) hd
      unfold dropF
      split <;> rfl
/-- The numbers of what is left. -/
theorem ids_drop {f : Nat → Nat → D} {len k : Nat} (hk : k < len) : idsOf (dropF f k) (len - 1) = (idsOf f len).eraseIdx k := by
  apply List.ext_getElem?
  intro i
  rw [List.getElem?_eraseIdx]
  unfold idsOf
  simp only [List.getElem?_map]
  by_cases h1 : i < k
  · rw [if_pos h1, List.getElem?_range (by omega), List.getElem?_range (by omega)]
    simp [dropF, h1]
  · rw [if_neg h1]
    by_cases h2 : i + 1 < len
    · rw [List.getElem?_range (by omega), List.getElem?_range h2]
      simp [dropF, h1]
    · rw [List.getElem?_eq_none (by simp; omega), List.getElem?_eq_none (by simp; omega)]
      rfl
theorem ids_nodup {f : Nat → Nat → D} {len : Nat} (h : ∀ i j, i < j → j < len → (f i 0).int! < (f j 0).int!) : (idsOf f len).Nodup := by
  unfold idsOf
  refine List.pairwise_iff_getElem.2 fun i j hi hj hij => ?_
  have hj' : j < len := by simpa using hj
  have := h i j hij hj'
  simp only [List.getElem_map, List.getElem_range]
  omega
theorem graph_inc {d0 d1 : D} {x2 x3 : Int} (h : graphB d0 d1 x2 x3 = true) : ∀ i j, i < j → j < d1.len! → (d1.at! i 0).int! < (d1.at! j 0).int! := by
  simp only [graphB, Bool.and_eq_true, List.all_eq_true, List.mem_range] at h
  exact edge_inc h.1.2
end Go.Proofs.YtjbppmclhdaaoaaGreat

/- A net and the data that it stands for; where a node or an edge stands. -/
namespace Go.Proofs.YtjbppmclhdaaoaaGreat
open Go.RowKit Go.Deep

def incD (d : D) : Prop := ∀ i j, i < j → j < d.len! → (d.at! i 0).int! < (d.at! j 0).int!
theorem edK_in {d : D} {id : Int} (h : id ∈ idsOf d.at! d.len!) : ∃ k, edK d id = some k := by
  cases e : edK d id with
  | some k => exact ⟨k, rfl⟩
  | none =>
    obtain ⟨i, hi, e2⟩ := List.mem_map.1 h
    exact absurd e2 (edK_none e i (List.mem_range.1 hi))
theorem node_incD {d0 d1 : D} {x2 x3 : Int} (h : graphB d0 d1 x2 x3 = true) : incD d0 := by
  simp only [graphB, Bool.and_eq_true, List.all_eq_true, List.mem_range] at h
  exact node_inc h.1.1
theorem hasId_in {d0 : D} {id : Int} (h : hasId d0 id = true) : ∃ k, edK d0 id = some k := by
  unfold hasId at h
  rw [List.any_eq_true] at h
  obtain ⟨i, hi, e⟩ := h
  exact edK_in (List.mem_map.2 ⟨i, hi, by simpa using e⟩)
theorem hasId_mem {d0 : D} {id : Int} (h : hasId d0 id = false) : id ∉ idsOf d0.at! d0.len! := fun hm => by
  obtain ⟨i, hi, e⟩ := List.mem_map.1 hm
  unfold hasId at h
  rw [List.any_eq_false] at h
  exact h i hi (by simpa using e)
theorem hasId_edK {d0 : D} {id : Int} (h : edK d0 id = none) : hasId d0 id = false := by
  cases e : hasId d0 id with
  | false => rfl
  | true =>
    obtain ⟨k, hk⟩ := hasId_in e
    rw [h] at hk
    cases hk
theorem edK_hasId {d0 : D} {id : Int} {k : Nat} (h : edK d0 id = some k) : hasId d0 id = true := by
  cases e : hasId d0 id with
  | true => rfl
  | false =>
    obtain ⟨h1, h2, _⟩ := edK_some h
    exact absurd (h2 ▸ mem_ids h1) (hasId_mem e)
/-- A net that has these nodes and edges. -/
structure NetDat (w : World) (base : Nat) (N : NetD) (S0 S1 : Nat → Prop) (d0 d1 : D) : Prop where
  net : NetIn w base 100 N
  ln : N.lists .n = idsOf d0.at! d0.len!
  le : N.lists .e = idsOf d1.at! d1.len!
  kn : ∀ x, x ∈ N.keys .n ↔ x ∈ idsOf d0.at! d0.len!
  ke : ∀ x, x ∈ N.keys .e ↔ x ∈ idsOf d1.at! d1.len!
  rn : RowsS w N S0 .n 3 d0.at! d0.len!
  re : RowsS w N S1 .e 5 d1.at! d1.len!
theorem NetDat.ext {w w' : World} {base : Nat} {N : NetD} {S0 S1 : Nat → Prop} {d0 d1 : D} (h : NetDat w base N S0 S1 d0 d1) (e : Ext w w') : NetDat w' base N S0 S1 d0 d1 :=
  ⟨h.net.ext e, h.ln, h.le, h.kn, h.ke, h.rn.step (NStep.ext N e) (fun _ _ => rfl), h.re.step (NStep.ext N e) (fun _ _ => rfl)⟩
/-- What a method leaves that turns a net's nodes or edges. -/
inductive NdPost (w : World) (base : Nat) (N : NetD) (S0 S1 : Nat → Prop) (d0 d1 : D) (b : Bool) : Ending → World → Prop
  | mk (N' : NetD) (w' : World) (S0' S1' : Nat → Prop) (h0 : ∀ x, S0' x → S0 x ∨ w.heap.size ≤ x) (h1 : ∀ x, S1' x → S1 x ∨ w.heap.size ≤ x) (hd : ∀ x, S0' x → ¬ S1' x) (hD : NetDat w' base N' S0' S1' d0 d1) (st : NStep w N w' N') (hn : N'.nb = N.nb ∧ N'.nn = N.nn ∧ N'.ne = N.ne) : NdPost w base N S0 S1 d0 d1 b (.returned (.bool b)) w'
theorem blk4 {W : World} {b : Nat} {c0 c1 c2 c3 : Value} {T : TypeId} (h : W.heap[b]? = some (.cells #[c0, c1, c2, c3] T (0, 0))) :
    (W.cell? ⟨b, 0, none⟩ = some c0 ∧ W.cell? ⟨b, 1, none⟩ = some c1 ∧ W.cell? ⟨b, 2, none⟩ = some c2 ∧ W.cell? ⟨b, 3, none⟩ = some c3) ∧ ∀ o, W.frozen? ⟨b, o, none⟩ = false := by
  refine ⟨⟨?_, ?_, ?_, ?_⟩, fun o => ?_⟩
  all_goals first | (simp [World.cell?, h]; done) | (simp [World.frozen?, h]; done)
/-- Four cells of a box are written. -/
theorem blk4_set {W : World} {b : Nat} {c0 c1 c2 c3 : Value} {T : TypeId} (h : W.heap[b]? = some (.cells #[c0, c1, c2, c3] T (0, 0))) (v0 v1 v2 v3 : Value) :
    (((((W.setCell ⟨b, 0, none⟩ (v0)).setCell ⟨b, 1, none⟩ (v1)).setCell ⟨b, 2, none⟩ (v2)).setCell ⟨b, 3, none⟩ (v3))).heap[b]? = some (.cells #[v0, v1, v2, v3] T (0, 0)) := by
  have h0 := heap_set_same W b 0 _ T v0 h
  have h1 := heap_set_same _ b 1 _ T v1 h0
  have h2 := heap_set_same _ b 2 _ T v2 h1
  have h3 := heap_set_same _ b 3 _ T v3 h2
  rw [h3]
  simp
theorem chg4 {W : World} {b : Nat} (v0 v1 v2 v3 : Value) : Chg (fun x => x = b) W ((((W.setCell ⟨b, 0, none⟩ (v0)).setCell ⟨b, 1, none⟩ (v1)).setCell ⟨b, 2, none⟩ (v2)).setCell ⟨b, 3, none⟩ (v3)) := ((((Chg.refl (fun x => x = b) W).setCell (p := ⟨b, 0, none⟩) rfl _).setCell (p := ⟨b, 1, none⟩) rfl _).setCell (p := ⟨b, 2, none⟩) rfl _).setCell (p := ⟨b, 3, none⟩) rfl _
end Go.Proofs.YtjbppmclhdaaoaaGreat
