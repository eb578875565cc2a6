/- What spec.l2Kept answers: whether a text is one of the kept words; it makes one new block and turns nothing old. -/
import Derived.Test.YtejahpkpmbnmkaaGreatLeaf
namespace Go.Proofs.YtejahpkpmbnmkaaGreat
open Go.RowKit
def keptA (k : Nat) : ByteArray := ⟨(kept.getD k []).toArray⟩

theorem keptA_list (k : Nat) : (keptA k).toList = kept.getD k [] := by
  have : (keptA k).toList = (keptA k).data.toList := by exact ByteArray.toList_eq _
  rw [this]; simp [keptA]
theorem kept_len : kept.length = 29 := rfl
theorem kept_some (s : ByteArray) (k : Nat) (hk : k < 29) (h : ((keptA k).toList == s.toList) = true) : true = keptB s := by
  rw [keptA_list] at h
  have h2 : s.toList = kept.getD k [] := (eq_of_beq h).symm
  symm
  unfold keptB
  rw [List.any_eq_true]
  refine ⟨kept.getD k [], ?_, by rw [h2]; exact beq_self_eq_true _⟩
  rw [List.getD_eq_getElem?_getD, List.getElem?_eq_getElem (by rw [kept_len]; exact hk)]
  exact List.getElem_mem _
theorem kept_next (s : ByteArray) (k : Nat) (h : ((keptA k).toList == s.toList) = false) : (s.toList == kept.getD k []) = false := by
  rw [keptA_list] at h
  rw [BEq.comm]; exact h
theorem kept_none (s : ByteArray) (k : Nat) (hk : ¬ k < 29) (h : ∀ j, j < k → (s.toList == kept.getD j []) = false) : false = keptB s := by
  symm
  unfold keptB
  rw [List.any_eq_false]
  intro x hx
  obtain ⟨j, hj, rfl⟩ := List.getElem_of_mem hx
  have := h j (by rw [kept_len] at hj; omega)
  rw [List.getD_eq_getElem?_getD, List.getElem?_eq_getElem hj] at this
  simpa using this

set_option maxHeartbeats 1000000 in
theorem l2Kept_any (s : ByteArray) (w : World) : Calls Tryz.prog 51 #[.string s] w fun e w' => e = .returned (.bool (keptB s)) ∧ Ext w w' := by
  go_enter Tryz.func51, Tryz.ntmps51
  go_wp2
  generalize hW1 : w.alloc _ = W1
  have hcell : ∀ k, k < 29 → W1.cell? ⟨w.heap.size, k, none⟩ = some (.string (keptA k)) := by
    subst hW1
    intro k hk
    repeat (rcases k with _ | k; (simp; rfl))
    omega
  have hg : Ext w W1 := by subst hW1; exact (Ext.refl _).alloc _
  clear hW1
  go_loop [4] (fun i => ∃ k : Nat, k ≤ 29 ∧ i = .int .i64 k ∧ ∀ j, j < k → (s.toList == kept.getD j []) = false) (fun i => 29 - (intOf i).toNat)
  case atStart => exact ⟨0, Nat.zero_le _, rfl, fun j h => by omega⟩
  case round =>
    obtain ⟨k, hk, rfl, hno⟩ := hrel
    by_cases hlt : k < 29
    · have hc := hcell k hlt
      clear hcell
      go_wp2
      · go_ret
        exact ⟨ret_bool (kept_some s k hlt ‹_›), hg⟩
      · go_round
        case rel =>
          refine ⟨k + 1, by omega, by go_num, fun j hj => ?_⟩
          rcases Nat.lt_succ_iff_lt_or_eq.1 hj with h | h
          · exact hno j h
          · subst h; exact kept_next s _ ‹_›
        case measure => simp [intOf]; omega
    · go_wp2
      go_ret
      exact ⟨ret_bool (kept_none s k hlt hno), hg⟩
end Go.Proofs.YtejahpkpmbnmkaaGreat
