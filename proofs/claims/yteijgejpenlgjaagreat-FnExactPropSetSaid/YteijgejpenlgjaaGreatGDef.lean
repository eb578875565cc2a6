/- Lists without anything; the limits of a graph that is ok. -/
import Derived.Test.YteijgejpenlgjaaGreatGSpec4
import Derived.Test.YteijgejpenlgjaaGreatDOwn
namespace Go.Proofs.YteijgejpenlgjaaGreat
open Go.RowKit Go.Deep

def noneL (n : Nat) : D := .list n 0 (fun _ _ => .int 0)
theorem noneL_in (n : Nat) (S : Nat → Prop) (w : World) : DIn S w (noneL n) (.slice none 0 0) ∧ Own w (noneL n) S (.slice none 0 0) :=
 ⟨⟨none, 0, 0, 0, rfl, Nat.zero_le _, fun h => by omega, fun i hi => by omega⟩, ⟨none, 0, 0, 0, fun _ _ _ => False, rfl, fun h => by omega, fun i _ hi => by omega, fun i _ _ _ hi => by omega, fun i hi => by omega⟩⟩
theorem graph_len {d0 d1 : D} {x2 x3 : Int} (h : graphB d0 d1 x2 x3 = true) : d0.len! ≤ 12 ∧ d1.len! ≤ 16 ∧ (0 ≤ x2 ∧ x2 ≤ 1000000000) ∧ 0 ≤ x3 ∧ x3 ≤ 1000000000 := by
 simp only [graphB, Bool.and_eq_true, decide_eq_true_eq, inB] at h
 simp at h
 omega
end Go.Proofs.YteijgejpenlgjaaGreat
