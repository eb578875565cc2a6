/- Which of two values is less. -/
import Derived.Test.YtkngihmfknmnaaaOrdThy
import Derived.Test.YtkngihmfknmnaaaLessImpl
namespace Go.Proofs.Ytkngihmfknmnaaa
open Go.RowKit Go.Deep

theorem wf_lessK' (x y : V) : (Lit.int .i64 (lessK x y)).wf = true := by unfold lessK; split <;> rfl
theorem wf_lessN' (x y : V) : (Lit.int .i64 (lessN x y)).wf = true := by unfold lessN; split; cases decide (ordV x y < 0) <;> rfl; rfl
theorem lessB_symm (x y : V) : lessB y x = lessB x y := by
  unfold lessB
  congr 1
  refine propext ⟨fun ⟨h1, h2⟩ => ⟨h1.symm, by rw [h1] at h2; exact h2⟩, fun ⟨h1, h2⟩ => ⟨h1.symm, by rw [h1] at h2; exact h2⟩⟩
theorem lessK_symm (x y : V) : lessK y x = lessK x y := by
  unfold lessK
  rw [lessB_symm]
  by_cases h : okN 3 x = true ∧ okN 3 y = true ∧ lessB x y = true
  · rw [if_pos h, if_pos ⟨h.2.1, h.1, h.2.2⟩]
  · rw [if_neg h, if_neg (fun k => h ⟨k.2.1, k.1, k.2.2⟩)]
theorem less_law {x y : V} (hx : okN 3 x = true) (hy : okN 3 y = true) :
    (lessK x y = 0 ∧ (¬ x.kind = y.kind ∨ x.kind = 0 ∨ 3 < x.kind)) ∨ (lessK x y = 1 ∧ x.kind = y.kind ∧ (lessN x y = 0 ∨ lessN x y = 1) ∧ (lessN y x = 0 ∨ lessN y x = 1) ∧ lessN x y + lessN y x ≤ 1 ∧ (lessN x y = 1 ↔ ordOk x y < 0)) := by
  have hk : x.kind = 0 ∨ x.kind = 1 ∨ x.kind = 2 ∨ x.kind = 3 ∨ x.kind = 4 ∨ x.kind = 5 ∨ x.kind = 6 := by
    cases neat_okN hx with
    | mk k n t l hk _ _ => exact hk
  cases hb : lessB x y
  · left
    refine ⟨by unfold lessK; rw [if_neg (fun h => by rw [hb] at h; cases h.2.2)], ?_⟩
    rcases lessB_no hb with h | h
    · exact .inl h
    · right
      omega
  · right
    have hb' : lessB y x = true := by rw [lessB_symm]; exact hb
    have hyes := of_decide_eq_true hb
    have e1 : lessN x y = b01 (decide (ordV x y < 0)) := by unfold lessN; rw [if_pos ⟨hx, hy, hb⟩]
    have e2 : lessN y x = b01 (decide (ordV y x < 0)) := by unfold lessN; rw [if_pos ⟨hy, hx, hb'⟩]
    have e3 : ordOk x y = ordV x y := by unfold ordOk; rw [if_pos ⟨hx, hy⟩]
    have e4 := ordV_neg x y
    refine ⟨by unfold lessK; rw [if_pos ⟨hx, hy, hb⟩], hyes.1, ?_⟩
    rw [e1, e2, e3, e4]
    have b1 : ∀ o : Int, b01 (decide (o < 0)) = if o < 0 then 1 else 0 := fun o => by unfold b01; by_cases h : o < 0 <;> simp [h]
    rw [b1, b1]
    split <;> split <;> omega
end Go.Proofs.Ytkngihmfknmnaaa
