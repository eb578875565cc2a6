/- The answer of EdgeDrop, as data. -/
import Derived.Test.YtbhmblkappmfjaaGreatGDef
import Derived.Test.YtbhmblkappmfjaaGreatNetThy
import Derived.Test.YtbhmblkappmfjaaGreatDMs
import Derived.Test.YtbhmblkappmfjaaGreatNetD
namespace Go.Proofs.YtbhmblkappmfjaaGreat
open Go.RowKit Go.Deep

/-- A list without its element k. -/
def dropF (f : Nat → Nat → D) (k : Nat) : Nat → Nat → D := fun i => if i < k then f i else f (i + 1)
/-- Where an edge stands. -/
def edK (d1 : D) (id : Int) : Option Nat := (List.range d1.len!).find? fun i => (d1.at! i 0).int! == id
def edL (d1 : D) (a : Option Nat) : D := match a with | some k => .list 5 (d1.len! - 1) (dropF d1.at! k) | none => d1
theorem edK_some {d1 : D} {id : Int} {k : Nat} (h : edK d1 id = some k) : k < d1.len! ∧ (d1.at! k 0).int! = id ∧ ∀ j, j < k → (d1.at! j 0).int! ≠ id := by
  rw [edK, List.find?_range_eq_some] at h
  exact ⟨by simpa using h.2.1, by simpa using h.1, fun j hj => by simpa using h.2.2 j hj⟩
theorem edK_none {d1 : D} {id : Int} (h : edK d1 id = none) : ∀ j, j < d1.len! → (d1.at! j 0).int! ≠ id := by
  rw [edK, List.find?_range_eq_none] at h
  exact fun j hj => by simpa using h j hj
theorem sumN_drop (g : Nat → Nat) (k m : Nat) : sumN (fun i => if i < k then g i else g (i + 1)) m ≤ sumN g (m + 1) := by
  induction m with
  | zero => simp [sumN]
  | succ m ih =>
    by_cases h : m + 1 ≤ k
    · have e : sumN (fun i => if i < k then g i else g (i + 1)) (m + 1) = sumN g (m + 1) := sumN_congr fun i hi => by rw [if_pos (by omega)]
      rw [e]
      simp only [sumN]
      omega
    · have e : (if m < k then g m else g (m + 1)) = g (m + 1) := by rw [if_neg (by omega)]
      simp only [sumN] at ih ⊢
      rw [e]
      omega
theorem graph_inc {d0 d1 : D} {x2 x3 : Int} (h : graphB d0 d1 x2 x3 = true) : ∀ i j, i < j → j < d1.len! → (d1.at! i 0).int! < (d1.at! j 0).int! := by
  simp only [graphB, Bool.and_eq_true, List.all_eq_true, List.mem_range] at h
  exact edge_inc h.1.2
end Go.Proofs.YtbhmblkappmfjaaGreat

/- A net and the data that it stands for; where a node or an edge stands. -/
namespace Go.Proofs.YtbhmblkappmfjaaGreat
open Go.RowKit Go.Deep

def incD (d : D) : Prop := ∀ i j, i < j → j < d.len! → (d.at! i 0).int! < (d.at! j 0).int!
theorem edK_in {d : D} {id : Int} (h : id ∈ idsOf d.at! d.len!) : ∃ k, edK d id = some k := by
  cases e : edK d id with
  | some k => exact ⟨k, rfl⟩
  | none =>
    obtain ⟨i, hi, e2⟩ := List.mem_map.1 h
    exact absurd e2 (edK_none e i (List.mem_range.1 hi))
theorem node_incD {d0 d1 : D} {x2 x3 : Int} (h : graphB d0 d1 x2 x3 = true) : incD d0 := by
  simp only [graphB, Bool.and_eq_true, List.all_eq_true, List.mem_range] at h
  exact node_inc h.1.1
theorem hasId_in {d0 : D} {id : Int} (h : hasId d0 id = true) : ∃ k, edK d0 id = some k := by
  unfold hasId at h
  rw [List.any_eq_true] at h
  obtain ⟨i, hi, e⟩ := h
  exact edK_in (List.mem_map.2 ⟨i, hi, by simpa using e⟩)
/-- A net that has these nodes and edges. -/
structure NetDat (w : World) (base : Nat) (N : NetD) (S0 S1 : Nat → Prop) (d0 d1 : D) : Prop where
  net : NetIn w base 100 N
  ln : N.lists .n = idsOf d0.at! d0.len!
  le : N.lists .e = idsOf d1.at! d1.len!
  kn : ∀ x, x ∈ N.keys .n ↔ x ∈ idsOf d0.at! d0.len!
  ke : ∀ x, x ∈ N.keys .e ↔ x ∈ idsOf d1.at! d1.len!
  rn : RowsS w N S0 .n 3 d0.at! d0.len!
  re : RowsS w N S1 .e 5 d1.at! d1.len!
theorem NetDat.ext {w w' : World} {base : Nat} {N : NetD} {S0 S1 : Nat → Prop} {d0 d1 : D} (h : NetDat w base N S0 S1 d0 d1) (e : Ext w w') : NetDat w' base N S0 S1 d0 d1 :=
  ⟨h.net.ext e, h.ln, h.le, h.kn, h.ke, h.rn.step (NStep.ext N e) (fun _ _ => rfl), h.re.step (NStep.ext N e) (fun _ _ => rfl)⟩
theorem blk4 {W : World} {b : Nat} {c0 c1 c2 c3 : Value} {T : TypeId} (h : W.heap[b]? = some (.cells #[c0, c1, c2, c3] T (0, 0))) :
    (W.cell? ⟨b, 0, none⟩ = some c0 ∧ W.cell? ⟨b, 1, none⟩ = some c1 ∧ W.cell? ⟨b, 2, none⟩ = some c2 ∧ W.cell? ⟨b, 3, none⟩ = some c3) ∧ ∀ o, W.frozen? ⟨b, o, none⟩ = false := by
  refine ⟨⟨?_, ?_, ?_, ?_⟩, fun o => ?_⟩
  all_goals first | (simp [World.cell?, h]; done) | (simp [World.frozen?, h]; done)
/-- Four cells of a box are written. -/
theorem blk4_set {W : World} {b : Nat} {c0 c1 c2 c3 : Value} {T : TypeId} (h : W.heap[b]? = some (.cells #[c0, c1, c2, c3] T (0, 0))) (v0 v1 v2 v3 : Value) :
    (((((W.setCell ⟨b, 0, none⟩ (v0)).setCell ⟨b, 1, none⟩ (v1)).setCell ⟨b, 2, none⟩ (v2)).setCell ⟨b, 3, none⟩ (v3))).heap[b]? = some (.cells #[v0, v1, v2, v3] T (0, 0)) := by
  have h0 := heap_set_same W b 0 _ T v0 h
  have h1 := heap_set_same _ b 1 _ T v1 h0
  have h2 := heap_set_same _ b 2 _ T v2 h1
  have h3 := heap_set_same _ b 3 _ T v3 h2
  rw [h3]
  simp
theorem chg4 {W : World} {b : Nat} (v0 v1 v2 v3 : Value) : Chg (fun x => x = b) W ((((W.setCell ⟨b, 0, none⟩ (v0)).setCell ⟨b, 1, none⟩ (v1)).setCell ⟨b, 2, none⟩ (v2)).setCell ⟨b, 3, none⟩ (v3)) := ((((Chg.refl (fun x => x = b) W).setCell (p := ⟨b, 0, none⟩) rfl _).setCell (p := ⟨b, 1, none⟩) rfl _).setCell (p := ⟨b, 2, none⟩) rfl _).setCell (p := ⟨b, 3, none⟩) rfl _
end Go.Proofs.YtbhmblkappmfjaaGreat
