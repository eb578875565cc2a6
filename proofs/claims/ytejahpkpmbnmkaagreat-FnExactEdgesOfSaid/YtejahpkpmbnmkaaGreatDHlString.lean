/- What the laws' functions held.. answer: the marks are read back. -/
import Derived.Test.YtejahpkpmbnmkaaGreatDMs
import Derived.Deep.RegionHeld3
namespace Go.Proofs.YtejahpkpmbnmkaaGreat
open Go.RowKit Go.Deep

theorem held_shape {S : Nat → Prop} {w : World} {r K : Nat} {d : D} {v : Value} (H : Has d (.list r)) (h : DIn S w (markD d K) v) : ∃ a cap, v = .slice a d.len! cap := by
  obtain ⟨len, f, rfl, _⟩ := H.list
  obtain ⟨a, cap, hv, _⟩ := DIn.list_eq h
  exact ⟨a, cap, hv⟩

end Go.Proofs.YtejahpkpmbnmkaaGreat
