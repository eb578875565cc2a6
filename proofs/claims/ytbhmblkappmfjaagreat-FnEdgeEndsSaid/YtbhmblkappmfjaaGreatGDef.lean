/- Lists without anything; the limits of a graph that is ok. -/
import Derived.Test.YtbhmblkappmfjaaGreatGSpec4
import Derived.Test.YtbhmblkappmfjaaGreatDa
namespace Go.Proofs.YtbhmblkappmfjaaGreat
open Go.RowKit Go.Deep

theorem graph_len {d0 d1 : D} {x2 x3 : Int} (h : graphB d0 d1 x2 x3 = true) : d0.len! ≤ 12 ∧ d1.len! ≤ 16 ∧ (0 ≤ x2 ∧ x2 ≤ 1000000000) ∧ 0 ≤ x3 ∧ x3 ≤ 1000000000 := by
  simp only [graphB, Bool.and_eq_true, decide_eq_true_eq, inB] at h
  simp at h
  omega
end Go.Proofs.YtbhmblkappmfjaaGreat
