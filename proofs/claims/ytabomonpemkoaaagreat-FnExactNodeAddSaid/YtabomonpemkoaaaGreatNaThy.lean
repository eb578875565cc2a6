/- How many marks the answer of NodeAdd takes. -/
import Derived.Test.YtabomonpemkoaaaGreatNaS
import Derived.Test.YtabomonpemkoaaaGreatWithThy
namespace Go.Proofs.YtabomonpemkoaaaGreat
open Go.RowKit Go.Deep

theorem naD0_cnt {g a : Bool} {d0 : D} {x2 : Int} {dL dP : D} (H0 : Has d0 (.list 4)) : cntD (naD0 g a d0 x2 dL dP) ≤ cntD d0 + 1 + cntD dL + cntD dP := by
  unfold naD0
  cases g
  · simp [noneL, cntD, sumN]
  · cases a
    · simp only [if_true, Bool.false_eq_true, if_false]; omega
    · obtain ⟨len, f, rfl, _⟩ := H0.list
      simp only [if_true]
      show sumN (fun i => sumN (fun j => cntD (addF f len x2 dL dP i j)) 3) (len + 1) ≤ sumN (fun i => sumN (fun j => cntD (f i j)) 3) len + 1 + cntD dL + cntD dP
      rw [show sumN (fun i => sumN (fun j => cntD (addF f len x2 dL dP i j)) 3) (len + 1) = sumN (fun i => sumN (fun j => cntD (addF f len x2 dL dP i j)) 3) len + sumN (fun j => cntD (addF f len x2 dL dP len j)) 3 from rfl]
      rw [sumN_congr (fun i hi => by rw [addF_lt f len x2 dL dP hi])]
      simp only [sumN, addF_at0, addF_at1, addF_at2, cntD]
      omega
theorem naD1_cnt {g : Bool} {d1 : D} : cntD (naD1 g d1) ≤ cntD d1 := by
  unfold naD1
  cases g
  · simp [noneL, cntD, sumN]
  · exact Nat.le_refl _
theorem naD0_lenOk {g a : Bool} {d0 : D} {x2 : Int} {dL dP : D} (H0 : Has d0 (.list 4)) (s0 : SmallD d0) (sL : SmallD dL) (sP : SmallD dP) : LenOk (naD0 g a d0 x2 dL dP) := by
  unfold naD0
  cases g
  · exact ⟨Nat.zero_le _, fun i hi => by omega⟩
  · cases a
    · exact small_lenOk _ s0
    · obtain ⟨len, f, rfl, _⟩ := H0.list
      have h := small_lenOk _ s0
      have hl := s0.2.1
      refine ⟨by unfold maxLen; show len + 1 ≤ _; omega, fun i hi j hj => ?_⟩
      change i < len + 1 at hi
      by_cases e : i = len
      · subst e
        have hj' : j = 0 ∨ j = 1 ∨ j = 2 := by omega
        rcases hj' with rfl | rfl | rfl
        · show LenOk (addF f i x2 dL dP i 0); rw [addF_at0]; trivial
        · show LenOk (addF f i x2 dL dP i 1); rw [addF_at1]; exact small_lenOk _ sL
        · show LenOk (addF f i x2 dL dP i 2); rw [addF_at2]; exact small_lenOk _ sP
      · show LenOk (addF f len x2 dL dP i j)
        rw [addF_lt f len x2 dL dP (show i < len by omega)]
        exact h.2 i (by omega) j hj
theorem naD1_lenOk {g : Bool} {d1 : D} (s1 : SmallD d1) : LenOk (naD1 g d1) := by
  unfold naD1
  cases g
  · exact ⟨Nat.zero_le _, fun i hi => by omega⟩
  · exact small_lenOk _ s1
end Go.Proofs.YtabomonpemkoaaaGreat
