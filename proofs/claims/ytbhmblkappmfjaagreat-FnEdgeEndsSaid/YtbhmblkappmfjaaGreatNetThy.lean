/- What the net's rows say of a graph that is ok. -/
import Derived.Test.YtbhmblkappmfjaaGreatNetD
import Derived.Test.YtbhmblkappmfjaaGreatGSpec4
namespace Go.Proofs.YtbhmblkappmfjaaGreat
open Go.RowKit Go.Deep

/-- The numbers of the first k rows. -/
def idsOf (f : Nat → Nat → D) (k : Nat) : List Int := (List.range k).map fun i => (f i 0).int!
theorem ids_succ (f : Nat → Nat → D) (k : Nat) : idsOf f (k + 1) = idsOf f k ++ [(f k 0).int!] := by simp [idsOf, List.range_succ]
theorem ids_last (f : Nat → Nat → D) (m : Nat) : (idsOf f (m + 1)).getLast?.getD (-1) = (f m 0).int! := by rw [ids_succ]; simp
theorem okPut_ids {f : Nat → Nat → D} {k : Nat} {nx : Int} (h0 : 0 ≤ nx) (h1 : nx ≤ 1000000000) (hprev : ∀ m, k = m + 1 → 0 ≤ (f m 0).int!) :
    okPut (idsOf f k) nx (f k 0).int! = (inB (f k 0).int! 0 (IntKind.i64.wrap (nx - 1)) && (k == 0 || decide ((f (k - 1) 0).int! < (f k 0).int!))) := by
  have iw : IntKind.i64.wrap (nx - 1) = nx - 1 := wrap_i64 (by omega) (by omega)
  rw [iw, okPut, inB, Bool.eq_iff_iff]
  cases k with
  | zero =>
    have e0 : (idsOf f 0).getLast?.getD (-1) = -1 := rfl
    rw [e0]
    simp only [Bool.and_eq_true, decide_eq_true_eq, beq_self_eq_true, Bool.true_or, and_true]
    omega
  | succ m =>
    have := hprev m rfl
    rw [ids_last]
    simp
    omega
theorem node_ok {f : Nat → Nat → D} {k : Nat} {nx : Int} (h0 : 0 ≤ nx) (h1 : nx ≤ 1000000000) (hall : ∀ j, j < k → nodeB f nx j = true) :
    (labelsB (f k 1) && propsB (f k 2) && okPut (idsOf f k) nx (f k 0).int!) = nodeB f nx k := by
  rw [okPut_ids h0 h1 (fun m hm => ?_), nodeB]
  · cases labelsB (f k 1) <;> cases propsB (f k 2) <;> cases inB (f k 0).int! 0 (IntKind.i64.wrap (nx - 1)) <;> simp
  · subst hm
    have := hall m (by omega)
    simp only [nodeB, Bool.and_eq_true, inB, decide_eq_true_eq] at this
    exact this.1.1.1.1
theorem has_ids (n len : Nat) (f : Nat → Nat → D) (x : Int) : hasId (.list n len f) x = decide (x ∈ idsOf f len) := by
  rw [Bool.eq_iff_iff, decide_eq_true_eq]
  show ((List.range len).any fun i => (f i 0).int! == x) = true ↔ _
  simp [idsOf]
theorem edge_ok {f : Nat → Nat → D} {d0 : D} {k : Nat} {nx : Int} (h0 : 0 ≤ nx) (h1 : nx ≤ 1000000000) (hall : ∀ j, j < k → edgeB f d0 nx j = true) :
    (propsB (f k 4) && nameB (f k 1).str! && hasId d0 (f k 2).int! && hasId d0 (f k 3).int! && okPut (idsOf f k) nx (f k 0).int!) = edgeB f d0 nx k := by
  rw [okPut_ids h0 h1 (fun m hm => ?_), edgeB]
  · cases propsB (f k 4) <;> cases nameB (f k 1).str! <;> cases hasId d0 (f k 2).int! <;> cases hasId d0 (f k 3).int! <;> cases inB (f k 0).int! 0 (IntKind.i64.wrap (nx - 1)) <;> simp
  · subst hm
    have := hall m (by omega)
    simp only [edgeB, Bool.and_eq_true, inB, decide_eq_true_eq] at this
    exact this.1.1.1.1.1.1
theorem inc_of {f : Nat → Nat → D} {k : Nat} (h : ∀ j, j + 1 < k → (f j 0).int! < (f (j + 1) 0).int!) : ∀ i j, i < j → j < k → (f i 0).int! < (f j 0).int! := by
  intro i j hij
  induction j with
  | zero => omega
  | succ j ih =>
    intro hj
    have h1 := h j hj
    rcases Nat.lt_succ_iff_lt_or_eq.1 hij with h2 | h2
    · have := ih h2 (by omega); omega
    · subst h2; exact h1
theorem node_inc {f : Nat → Nat → D} {k : Nat} {nx : Int} (hall : ∀ j, j < k → nodeB f nx j = true) : ∀ i j, i < j → j < k → (f i 0).int! < (f j 0).int! :=
  inc_of fun j hj => by
    have := hall (j + 1) hj
    simp [nodeB] at this
    exact this.2
theorem edge_inc {f : Nat → Nat → D} {d0 : D} {k : Nat} {nx : Int} (hall : ∀ j, j < k → edgeB f d0 nx j = true) : ∀ i j, i < j → j < k → (f i 0).int! < (f j 0).int! :=
  inc_of fun j hj => by
    have := hall (j + 1) hj
    simp [edgeB] at this
    exact this.2
end Go.Proofs.YtbhmblkappmfjaaGreat
