/- How many marks data take; numbers as data. -/
import Derived.Test.YtejahpkpmbnmkaaGreatWithSpec
import Derived.Test.YtejahpkpmbnmkaaGreatDMs
namespace Go.Proofs.YtejahpkpmbnmkaaGreat
open Go.RowKit Go.Deep

theorem ints_has (l : List Int) : Has (intsD l) (.list 1) := by
  refine ⟨1, rfl, rfl, fun i hi j hj => ?_⟩
  have : j = 0 := by have : j < 1 := hj; omega
  subst this
  exact rfl
theorem ints_cnt (l : List Int) : cntD (intsD l) = l.length := by
  show sumN (fun i => sumN (fun _ => 1) 1) l.length = l.length
  have : ∀ m, sumN (fun _ => sumN (fun _ => 1) 1) m = m := by
    intro m
    induction m with
    | zero => rfl
    | succ m ih => rw [sumN, ih]; rfl
  exact this _
theorem ints_lenOk (l : List Int) (h : l.length ≤ 1000) : LenOk (intsD l) := ⟨by unfold maxLen; omega, fun i hi j hj => trivial⟩
end Go.Proofs.YtejahpkpmbnmkaaGreat
