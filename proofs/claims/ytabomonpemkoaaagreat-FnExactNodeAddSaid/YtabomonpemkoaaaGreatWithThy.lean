/- How many marks data take; numbers as data. -/
import Derived.Test.YtabomonpemkoaaaGreatWithSpec
import Derived.Test.YtabomonpemkoaaaGreatDMkString
namespace Go.Proofs.YtabomonpemkoaaaGreat
open Go.RowKit Go.Deep

theorem sumN_le {g h : Nat → Nat} {m : Nat} (e : ∀ i, i < m → g i ≤ h i) : sumN g m ≤ sumN h m := by
  induction m with
  | zero => exact Nat.le_refl _
  | succ m ih => simp only [sumN]; have := ih (fun i hi => e i (by omega)); have := e m (by omega); omega
theorem sumN_lin (a b : Nat) (g : Nat → Nat) (m : Nat) : sumN (fun i => a + b * g i) m = a * m + b * sumN g m := by
  induction m with
  | zero => simp [sumN]
  | succ m ih => simp only [sumN, ih, Nat.mul_add, Nat.mul_one]; omega
/-- A list takes at most 24 marks for each element of a list within. -/
theorem cnt_le : ∀ (d : D), SmallD d → cntD d ≤ 1 + 24 * lenD d ∧ (∀ n len f, d = .list n len f → cntD d ≤ 24 * lenD d) := by
  intro d
  induction d with
  | int _ => intro _; exact ⟨by simp [cntD], fun _ _ _ h => by cases h⟩
  | bool _ => intro _; exact ⟨by simp [cntD], fun _ _ _ h => by cases h⟩
  | str _ => intro _; exact ⟨by simp [cntD], fun _ _ _ h => by cases h⟩
  | list n len f ih =>
    rintro ⟨hn, _, hs⟩
    have key : cntD (.list n len f) ≤ 24 * lenD (.list n len f) := by
      show sumN (fun i => sumN (fun j => cntD (f i j)) n) len ≤ 24 * (len + sumN (fun i => sumN (fun j => lenD (f i j)) n) len)
      have h1 : ∀ i, i < len → sumN (fun j => cntD (f i j)) n ≤ 24 + 24 * sumN (fun j => lenD (f i j)) n := by
        intro i hi
        have h2 : sumN (fun j => cntD (f i j)) n ≤ sumN (fun j => 1 + 24 * lenD (f i j)) n := sumN_le (fun j hj => (ih i j (hs i hi j hj)).1)
        rw [sumN_lin] at h2
        omega
      have h3 := sumN_le h1
      rw [sumN_lin] at h3
      omega
    exact ⟨by omega, fun _ _ _ _ => key⟩
theorem cnt_list {d : D} {r : Nat} (H : Has d (.list r)) (hs : SmallD d) : cntD d ≤ 24 * lenD d := by
  obtain ⟨len, f, rfl, _⟩ := H.list
  exact (cnt_le _ hs).2 _ _ _ rfl
theorem small_lenOk : ∀ (d : D), SmallD d → LenOk d := by
  intro d
  induction d with
  | int _ => intro _; trivial
  | bool _ => intro _; trivial
  | str _ => intro _; trivial
  | list n len f ih =>
    rintro ⟨_, hl, hs⟩
    exact ⟨by unfold maxLen; omega, fun i hi j hj => ih i j (hs i hi j hj)⟩
theorem ints_has (l : List Int) : Has (intsD l) (.list 1) := by
  refine ⟨1, rfl, rfl, fun i hi j hj => ?_⟩
  have : j = 0 := by have : j < 1 := hj; omega
  subst this
  exact rfl
theorem ints_cnt (l : List Int) : cntD (intsD l) = l.length := by
  show sumN (fun i => sumN (fun _ => 1) 1) l.length = l.length
  have : ∀ m, sumN (fun _ => sumN (fun _ => 1) 1) m = m := by
    intro m
    induction m with
    | zero => rfl
    | succ m ih => rw [sumN, ih]; rfl
  exact this _
theorem ints_lenOk (l : List Int) (h : l.length ≤ 1000) : LenOk (intsD l) := ⟨by unfold maxLen; omega, fun i hi j hj => trivial⟩
end Go.Proofs.YtabomonpemkoaaaGreat
