/- What spec.l1Num answers: a text as a number. -/
import Derived.Test.YtjladmfcnajpnaaFrThy
namespace Go.Proofs.Ytjladmfcnajpnaa
open Go.RowKit

theorem num_none {t : ByteArray} (h : ¬ ((∀ j, j < t.size → figB (chr t j) = true) ∧ t.size ≤ 10 ∧ t.size ≠ 0 ∧ ¬ (1 < t.size ∧ chr t 0 = 48))) : l1NumV t = -1 := by unfold l1NumV; rw [if_neg h]
theorem num_some {t : ByteArray} (h1 : Figs t t.size) (h2 : t.size ≤ 10) (h3 : t.size ≠ 0) (h4 : ¬ (1 < t.size ∧ chr t 0 = 48)) : l1NumV t = numV t t.size := by unfold l1NumV; rw [if_pos ⟨h1, h2, h3, h4⟩]
theorem num_fits {t : ByteArray} {k : Nat} (h : Figs t k) (hk : k ≤ 10) : 0 ≤ numV t k ∧ numV t k < 10000000000 := by
  refine ⟨numV_nonneg h k (Nat.le_refl _), ?_⟩
  have h1 := numV_top h k (Nat.le_refl _)
  have h2 : (10 : Int) ^ k ≤ 10 ^ 10 := by exact_mod_cast Nat.pow_le_pow_right (by decide) hk
  omega

set_option maxHeartbeats 1000000 in
theorem l1Num_any (t : ByteArray) (w : World) (hs : t.size ≤ maxLen) : Calls Try.prog 6 #[.string t] w fun e w' => e = .returned (.int .i64 (l1NumV t)) ∧ w' = w := by
  unfold maxLen at hs
  go_enter Try.func6, Try.ntmps6
  go_wp2
  go_loop [3, 4] (fun n i => ∃ k : Nat, k ≤ t.size ∧ k ≤ 10 ∧ n = .int .i64 (numV t k) ∧ i = .int .i64 k ∧ Figs t k) (fun _ i => t.size - (intOf i).toNat)
  case atStart => exact ⟨0, Nat.zero_le _, Nat.zero_le _, rfl, rfl, fun j h => by omega⟩
  case round =>
    obtain ⟨k, hk, hk10, rfl, rfl, hf⟩ := hrel
    have hb := num_fits hf hk10
    by_cases hlt : k < t.size
    · by_cases hbad : (t[k].toNat : Int) < 48 ∨ 57 < (t[k].toNat : Int) ∨ k = 10
      · have hfin : Hid (l1NumV t = -1) := by
          refine num_none fun h => ?_
          rcases hbad with h1 | h1 | h1
          · have := (figB_iff _).1 (h.1 k hlt); rw [chr_eq t k hlt] at this; omega
          · have := (figB_iff _).1 (h.1 k hlt); rw [chr_eq t k hlt] at this; omega
          · have := h.2.1; omega
        generalize numV t k = n at *
        rcases Classical.em ((t[k].toNat : Int) < 48) with h1 | h1
        · clear hbad
          go_wp2
          go_ret
          exact ⟨ret_int hfin.out.symm, rfl⟩
        · rcases Classical.em (57 < (t[k].toNat : Int)) with h2 | h2
          · clear hbad
            go_wp2
            go_ret
            exact ⟨ret_int hfin.out.symm, rfl⟩
          · have h3 : k = 10 := by omega
            subst h3
            clear hbad
            go_wp2
            go_ret
            exact ⟨ret_int hfin.out.symm, rfl⟩
      · have h1 : 48 ≤ (t[k].toNat : Int) := by omega
        have h2 : (t[k].toNat : Int) ≤ 57 := by omega
        have h3 : k < 10 := by omega
        have hfk : Hid (Figs t (k + 1)) := hf.succ ((figB_iff _).2 (by rw [chr_eq t k hlt]; exact ⟨h1, h2⟩))
        have hnk : Hid (numV t (k + 1) = numV t k * 10 + ((t[k].toNat : Int) - 48)) := by show _ = _; simp only [numV]; rw [chr_eq t k hlt]
        clear hbad
        generalize numV t k = n at *
        go_wp2
        go_round
        case rel => exact ⟨k + 1, by omega, by omega, by rw [hnk.out], by go_num, hfk.out⟩
        case measure => simp [intOf]; omega
    · obtain rfl : k = t.size := by omega
      by_cases h0 : t.size = 0
      · have hfin : Hid (l1NumV t = -1) := num_none fun h => h.2.2.1 h0
        generalize numV t t.size = n at *
        go_wp2
        go_ret
        exact ⟨ret_int hfin.out.symm, rfl⟩
      · by_cases h1 : 1 < t.size
        · have hc0 : chr t 0 = (t[0].toNat : Int) := chr_eq t 0 (by omega)
          by_cases h2 : (t[0].toNat : Int) = 48
          · have hfin : Hid (l1NumV t = -1) := num_none fun h => h.2.2.2 ⟨h1, by rw [hc0]; exact h2⟩
            generalize numV t t.size = n at *
            clear hc0
            go_wp2
            go_ret
            exact ⟨ret_int hfin.out.symm, rfl⟩
          · have hfin : Hid (l1NumV t = numV t t.size) := num_some hf hk10 h0 fun h => h2 (by rw [← hc0]; exact h.2)
            have h2b : ((t[0].toNat : Int) == 48) = false := by simp [h2]
            generalize numV t t.size = n at *
            clear hc0
            go_wp2
            go_ret
            exact ⟨ret_int hfin.out.symm, rfl⟩
        · have hfin : Hid (l1NumV t = numV t t.size) := num_some hf hk10 h0 fun h => h1 h.1
          generalize numV t t.size = n at *
          go_wp2
          go_ret
          exact ⟨ret_int hfin.out.symm, rfl⟩
end Go.Proofs.Ytjladmfcnajpnaa
