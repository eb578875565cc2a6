/- What the laws' functions mark.. do: a list is marked, and its own memory alone turns. -/
import Derived.Test.YtbapbcdkmhkigaaDMkString
import Derived.Test.YtbapbcdkmhkigaaDAcc
namespace Go.Proofs.Ytbapbcdkmhkigaa
open Go.RowKit Go.Deep

set_option maxRecDepth 100000 in
set_option maxHeartbeats 8000000 in
theorem markRuleS_list (len : Nat) (f : Nat → Nat → D) (HRa : ∀ i, i < len → HasRow 7 (f i)) (hLO : LenOk (.list 2 len f)) : MkD 10 (.list 2 len f) := by
  intro S v w K k hK hown hlen hbd
  subst hK
  change len ≤ maxLen at hlen
  have hlen' := hlen
  unfold maxLen at hlen
  by_cases h0 : len = 0
  · have hnil := mark_nil hown h0 K
    obtain ⟨a, cap, rfl⟩ := own_len hown
    subst h0
    go_enter Try.func10, Try.ntmps10
    go_wp2
    go_loopw [1, 5] (fun q i wr => q = .int .i64 (K : Int) ∧ i = .int .i64 0 ∧ wr = w) (fun _ _ _ => 0)
    case atStart => exact ⟨rfl, rfl, rfl⟩
    case round =>
      obtain ⟨rfl, rfl, rfl⟩ := hrel
      go_wp2
      go_ret
      exact ⟨ret_int (by simp [cntD, sumN]), OnlyS.refl _ _, hnil⟩
  obtain ⟨cap, b, off, P, G, rfl, o, hM0⟩ := MSt.start hown (by omega) K
  go_enter Try.func10, Try.ntmps10
  go_wp2
  go_loopw [1, 5] (fun q i wr => ∃ (kk : Nat) (m : Int), kk ≤ len ∧ i = .int .i64 kk ∧ q = .int .i64 m ∧ Hid (m = (preK 2 f K kk 0 : Nat)) ∧ MSt S b off 2 len f P G K w wr kk 0) (fun _ i _ => len - (intOf i).toNat)
  case atStart => exact ⟨0, _, Nat.zero_le _, rfl, rfl, (rfl : (K : Int) = (preK 2 f K 0 0 : Nat)), hM0⟩
  case round =>
    obtain ⟨kk, m, hk, rfl, rfl, hm, hM⟩ := hrel
    by_cases hlt : kk < len
    · have HR := HRa kk hlt
      have hp_0 : preK 2 f K kk 0 ≤ 1000000000 := Nat.le_trans (preK_le hlt (by decide)) hbd
      have hm0 : 0 ≤ m := by have := hm.out; omega
      have hm1 : m ≤ 1000000000 := by have := hm.out; omega
      have q0 : Hid (m = (preK 2 f K kk 0 : Nat)) := hm
      have hM_0 := hM
      clear hM
      obtain ⟨x0, hd0⟩ := (show Has (f kk 0) .str from HR 0 (by decide)).str
      have hp_1 : preK 2 f K kk 1 = preK 2 f K kk 0 + 1 := by rw [preK_succ, hd0]; rfl
      have hb_1 : preK 2 f K kk 1 ≤ 1000000000 := Nat.le_trans (preK_le hlt (by decide)) hbd
      have q1 : Hid (m + 1 = (preK 2 f K kk 1 : Nat)) := by show _ = _; have := q0.out; omega
      go_wp2_with fail
      refine (markText_mark _ _ (by omega) (by have := q0.out; omega)).mono ?_
      rintro e v1 ⟨rfl, X1⟩
      have hM_0b := hM_0.ext X1
      have z0 : v1.cell? ⟨b, off + kk * 2, none⟩ = some (G kk 0) := by have := hM_0b.row kk hlt 0 (by decide); rw [show bef kk 0 kk 0 = false by simp [bef]] at this; simpa using this
      have fz0 : v1.frozen? ⟨b, off + kk * 2, none⟩ = false := hM_0b.frz _
      have hM_1 := hM_0b.scal o hlt (by decide) (fun W => by rw [hd0]; exact mk_str (by omega))
      rw [show mkCell (f kk 0) (preK 2 f K kk 0) (G kk 0) = .string (markM (m)) by rw [hd0, q0.out]; rfl] at hM_1
      obtain ⟨x1, hd1⟩ := (show Has (f kk 1) .str from HR 1 (by decide)).str
      have hp_2 : preK 2 f K kk 2 = preK 2 f K kk 1 + 1 := by rw [preK_succ, hd1]; rfl
      have hb_2 : preK 2 f K kk 2 ≤ 1000000000 := Nat.le_trans (preK_le hlt (by decide)) hbd
      have q2 : Hid (m + 1 + 1 = (preK 2 f K kk 2 : Nat)) := by show _ = _; have := q1.out; omega
      go_wp2_with fail
      refine (markText_mark _ _ (by omega) (by have := q1.out; omega)).mono ?_
      rintro e v2 ⟨rfl, X2⟩
      have hM_1b := hM_1.ext X2
      have z1 : v2.cell? ⟨b, off + kk * 2 + 1, none⟩ = some (G kk 1) := by have := hM_1b.row kk hlt 1 (by decide); rw [show bef kk 1 kk 1 = false by simp [bef]] at this; simpa using this
      have fz1 : v2.frozen? ⟨b, off + kk * 2 + 1, none⟩ = false := hM_1b.frz _
      have hM_2 := hM_1b.scal o hlt (by decide) (fun W => by rw [hd1]; exact mk_str (by omega))
      rw [show mkCell (f kk 1) (preK 2 f K kk 1) (G kk 1) = .string (markM (m + 1)) by rw [hd1, q1.out]; rfl] at hM_2
      go_wp2
      go_roundw
      case rel => exact ⟨kk + 1, _, by omega, by go_num, rfl, by show _ = _; rw [preK_next]; exact q2.out, hM_2.next⟩
      case measure => simp [intOf]; omega
    · have hkx : kk = len := by omega
      subst hkx
      have hend := preK_end 2 kk f K
      go_wp2
      go_ret
      exact ⟨ret_int (by have := hm.out; omega), hM.only, hM.fin o hlen' _⟩

theorem markRuleS_any (d : D) (H : Has d (.list 7)) (hL : LenOk d) : MkD 10 d := by
  obtain ⟨len, f, rfl, HRa⟩ := H.list
  exact markRuleS_list len f HRa hL

end Go.Proofs.Ytbapbcdkmhkigaa
