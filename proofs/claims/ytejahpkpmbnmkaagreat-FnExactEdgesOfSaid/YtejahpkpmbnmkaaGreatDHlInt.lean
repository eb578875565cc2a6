/- What the laws' function heldIntS answers. -/
import Derived.Test.YtejahpkpmbnmkaaGreatDHlString
import Derived.Test.YtejahpkpmbnmkaaGreatDMk
import Derived.Deep.RegionHeld3
namespace Go.Proofs.YtejahpkpmbnmkaaGreat
open Go.RowKit Go.Deep

-- @IF{laws.heldIntS}
set_option maxRecDepth 100000 in
set_option maxHeartbeats 8000000 in
theorem heldIntS_list (len : Nat) (f : Nat → Nat → D) (HRa : ∀ i, i < len → HasRow 1 (f i)) : HlD 12 (.list 1 len f) := by
  intro S v w K k hK hv hbd
  subst hK
  change DIn S w (.list 1 len fun i j => markD (f i j) (preK 1 f K i j)) v at hv
  obtain ⟨a, cap, rfl, hlen⟩ := hv.list_eq
  unfold maxLen at hlen
  go_enter Tryz.func12, Tryz.ntmps12
  go_wp2
  go_loopw [1, 5] (fun q i wr => ∃ (kk : Nat) (m : Int), kk ≤ len ∧ i = .int .i64 kk ∧ q = .int .i64 m ∧ Hid (m = (preK 1 f K kk 0 : Nat)) ∧ Ext w wr) (fun _ i _ => len - (intOf i).toNat)
  case atStart => exact ⟨0, _, Nat.zero_le _, rfl, rfl, (rfl : (K : Int) = (preK 1 f K 0 0 : Nat)), Ext.refl _⟩
  case round =>
    obtain ⟨kk, m, hk, rfl, rfl, hm, hE⟩ := hrel
    by_cases hlt : kk < len
    · have HR := HRa kk hlt
      obtain ⟨cap2, b, off, C, hsl, _, hb, ec, hx⟩ := (hv.ext hE).at hlt
      cases hsl
      have hp_0 : preK 1 f K kk 0 ≤ 1000000000 := Nat.le_trans (preK_le hlt (by decide)) hbd
      have hm0 : 0 ≤ m := by have := hm.out; omega
      have hm1 : m ≤ 1000000000 := by have := hm.out; omega
      have q0 : Hid (m = (preK 1 f K kk 0 : Nat)) := hm
      have e0 := ec 0 (by decide)
      have h0 := hx 0 (by decide)
      dsimp only at h0
      obtain ⟨x0, hd0⟩ := (show Has (f kk 0) .int from HR 0 (by decide)).int
      rw [hd0] at h0
      have y0 : C 0 = .int .i64 (m) := by rw [q0.out]; exact h0.1
      rw [y0] at e0
      have hp_1 : preK 1 f K kk 1 = preK 1 f K kk 0 + 1 := by rw [preK_succ, hd0]; rfl
      have hb_1 : preK 1 f K kk 1 ≤ 1000000000 := Nat.le_trans (preK_le hlt (by decide)) hbd
      have q1 : Hid (m + 1 = (preK 1 f K kk 1 : Nat)) := by show _ = _; have := q0.out; omega
      clear h0 y0
      simp only [Nat.add_zero, Nat.mul_one] at e0
      clear hx ec HR
      have HC : Hid (∀ W, Ext wr W → W.cell? ⟨b, off + kk, none⟩ = some (.int .i64 (m))) := fun W hW => by
        rw [hW.cell hb]; exact e0
      clear e0
      have hcur : Ext wr wr := Ext.refl _
      have e0 := HC.out _ hcur
      go_wp2
      go_roundw
      case rel => exact ⟨kk + 1, _, by omega, by go_num, rfl, by show _ = _; rw [preK_next]; exact q1.out, hE.trans hcur⟩
      case measure => simp [intOf]; omega
    · have hkx : kk = len := by omega
      subst hkx
      have hend := preK_end 1 kk f K
      go_wp2
      go_ret
      exact ⟨ret_int (by have := hm.out; omega), hE⟩

theorem heldIntS_any (d : D) (H : Has d (.list 1)) : HlD 12 d := by
  obtain ⟨len, f, rfl, HRa⟩ := H.list
  exact heldIntS_list len f HRa

-- @FI
end Go.Proofs.YtejahpkpmbnmkaaGreat
