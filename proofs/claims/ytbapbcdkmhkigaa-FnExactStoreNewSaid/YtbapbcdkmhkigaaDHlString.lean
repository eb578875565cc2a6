/- What the laws' functions held.. answer: the marks are read back. -/
import Derived.Test.YtbapbcdkmhkigaaDMkString
import Derived.Deep.RegionHeld3
namespace Go.Proofs.Ytbapbcdkmhkigaa
open Go.RowKit Go.Deep

theorem held_shape {S : Nat → Prop} {w : World} {r K : Nat} {d : D} {v : Value} (H : Has d (.list r)) (h : DIn S w (markD d K) v) : ∃ a cap, v = .slice a d.len! cap := by
  obtain ⟨len, f, rfl, _⟩ := H.list
  obtain ⟨a, cap, hv, _⟩ := DIn.list_eq h
  exact ⟨a, cap, hv⟩

set_option maxRecDepth 100000 in
set_option maxHeartbeats 8000000 in
theorem heldStringS_list (len : Nat) (f : Nat → Nat → D) (HRa : ∀ i, i < len → HasRow 0 (f i)) : HlD 54 (.list 1 len f) := by
  intro S v w K k hK hv hbd
  subst hK
  change DIn S w (.list 1 len fun i j => markD (f i j) (preK 1 f K i j)) v at hv
  obtain ⟨a, cap, rfl, hlen⟩ := hv.list_eq
  unfold maxLen at hlen
  go_enter Try.func54, Try.ntmps54
  go_wp2
  go_loopw [1, 5] (fun q i wr => ∃ (kk : Nat) (m : Int), kk ≤ len ∧ i = .int .i64 kk ∧ q = .int .i64 m ∧ Hid (m = (preK 1 f K kk 0 : Nat)) ∧ Ext w wr) (fun _ i _ => len - (intOf i).toNat)
  case atStart => exact ⟨0, _, Nat.zero_le _, rfl, rfl, (rfl : (K : Int) = (preK 1 f K 0 0 : Nat)), Ext.refl _⟩
  case round =>
    obtain ⟨kk, m, hk, rfl, rfl, hm, hE⟩ := hrel
    by_cases hlt : kk < len
    · have HR := HRa kk hlt
      obtain ⟨cap2, b, off, C, hsl, _, hb, ec, hx⟩ := (hv.ext hE).at hlt
      cases hsl
      have hp_0 : preK 1 f K kk 0 ≤ 1000000000 := Nat.le_trans (preK_le hlt (by decide)) hbd
      have hm0 : 0 ≤ m := by have := hm.out; omega
      have hm1 : m ≤ 1000000000 := by have := hm.out; omega
      have q0 : Hid (m = (preK 1 f K kk 0 : Nat)) := hm
      have e0 := ec 0 (by decide)
      have h0 := hx 0 (by decide)
      dsimp only at h0
      obtain ⟨x0, hd0⟩ := (show Has (f kk 0) .str from HR 0 (by decide)).str
      rw [hd0] at h0
      have y0 : C 0 = .string (markM (m)) := by rw [q0.out]; exact h0.1
      rw [y0] at e0
      have hp_1 : preK 1 f K kk 1 = preK 1 f K kk 0 + 1 := by rw [preK_succ, hd0]; rfl
      have hb_1 : preK 1 f K kk 1 ≤ 1000000000 := Nat.le_trans (preK_le hlt (by decide)) hbd
      have q1 : Hid (m + 1 = (preK 1 f K kk 1 : Nat)) := by show _ = _; have := q0.out; omega
      clear h0 y0
      simp only [Nat.add_zero, Nat.mul_one] at e0
      clear hx ec HR
      have HC : Hid (∀ W, Ext wr W → W.cell? ⟨b, off + kk, none⟩ = some (.string (markM (m)))) := fun W hW => by
        rw [hW.cell hb]; exact e0
      clear e0
      have hcur : Ext wr wr := Ext.refl _
      have e0 := HC.out _ hcur
      go_wp2_with fail
      clear e0
      have HK : Hid (∀ W, Ext wr W → W.cell? ⟨b, off + kk, none⟩ = some (.string (markM (m)))) := HC
      replace hcur := hcur.drew
      refine wp_region_held_drew (S := (fun W => W.cell? ⟨b, off + kk, none⟩ = some (.string (markM (m))))) (by kernel_rfl) (HK.out _ hcur) (fun hHeld => ?_)
      refine wpAnyH_take (i := 0) (oi := ⟨some 12, .move (.tmp 0), 74, "exact.go:642", #[], none⟩) (v := ?_) rfl (by kernel_rfl) (by kernel_rfl) (by kernel_rfl) (fun _ _ _ h => h) (Or.inl ⟨by rfl, ?yyH00⟩) hHeld ?rrH00
      case yyH00 => (intro w hSw; (try dsimp only at hSw); go_simp; first | done | with_reducible rfl)
      try simp only [Act.put, List.setIfInBounds_toArray, List.set_cons_zero, List.set_cons_succ]
      refine wpAnyH_take (i := 1) (oi := ⟨some 13, .move (.tmp 5), 3, "exact.go:642", #[], none⟩) (v := ?_) rfl (by kernel_rfl) (by kernel_rfl) (by kernel_rfl) (fun _ _ _ h => h) (Or.inl ⟨by rfl, ?yyH01⟩) hHeld ?rrH01
      case yyH01 => (intro w hSw; (try dsimp only at hSw); go_simp; first | done | with_reducible rfl)
      try simp only [Act.put, List.setIfInBounds_toArray, List.set_cons_zero, List.set_cons_succ]
      refine wpAnyH_take (i := 2) (oi := ⟨some 14, .indexAddr 74 (.tmp 12) (.tmp 13), 0, "exact.go:642", #[⟨0, .data⟩, ⟨1, .data⟩], none⟩) (v := ?_) rfl (by kernel_rfl) (by kernel_rfl) (by kernel_rfl) (fun _ _ _ h => h) (Or.inl ⟨by rfl, ?yyH02⟩) hHeld ?rrH02
      case yyH02 => (intro w hSw; (try dsimp only at hSw); go_simp; first | done | with_reducible rfl)
      try simp only [Act.put, List.setIfInBounds_toArray, List.set_cons_zero, List.set_cons_succ]
      refine wpAnyH_take (i := 3) (oi := ⟨some 15, .load 9 (.tmp 14), 9, "exact.go:642", #[⟨2, .data⟩], none⟩) (v := ?_) rfl (by kernel_rfl) (by kernel_rfl) (by kernel_rfl) (fun _ _ _ h => h) (Or.inl ⟨by rfl, ?yyH03⟩) hHeld ?rrH03
      case yyH03 => (intro w hSw; (try dsimp only at hSw); go_simp; first | done | with_reducible rfl)
      try simp only [Act.put, List.setIfInBounds_toArray, List.set_cons_zero, List.set_cons_succ]
      refine wpAnyH_take (i := 4) (oi := ⟨some 16, .move (.tmp 1), 3, "exact.go:642", #[], none⟩) (v := ?_) rfl (by kernel_rfl) (by kernel_rfl) (by kernel_rfl) (fun _ _ _ h => h) (Or.inl ⟨by rfl, ?yyH04⟩) hHeld ?rrH04
      case yyH04 => (intro w hSw; (try dsimp only at hSw); go_simp; first | done | with_reducible rfl)
      try simp only [Act.put, List.setIfInBounds_toArray, List.set_cons_zero, List.set_cons_succ]
      refine wpAnyH_ready (rs := [5]) (by kernel_rfl) (by simp) ?_
      refine AllReadyH.cons (o := ⟨some 17, .call { callee := .value (.func 22), args := #[.tmp 16], argTypes := #[3] }, 9, "exact.go:642", #[⟨4, .data⟩], none⟩) rfl (fun K hK => ?_) AllReadyH.nil
      go_simp
      refine (markText_mark _ _ (by omega) (by have := q0.out; omega)).mono ?_
      rintro e vs0 ⟨rfl, X0⟩
      replace hcur := hcur.trans X0
      go_wp2_with fail
      refine hK.out _ _ (HK.out _ hcur) (fun hHeld => ?_)
      clear hK K
      try simp only [Act.put, List.setIfInBounds_toArray, List.set_cons_zero, List.set_cons_succ]
      refine wpAnyH_take (i := 6) (oi := ⟨some 18, .binOp .neq 9 (.tmp 15) (.tmp 17) 9, 4, "exact.go:642", #[⟨3, .data⟩, ⟨5, .data⟩], none⟩) (v := ?_) rfl (by kernel_rfl) (by kernel_rfl) (by kernel_rfl) (fun _ _ _ h => h) (Or.inl ⟨by rfl, ?yyH06⟩) hHeld ?rrH06
      case yyH06 => (intro w hSw; (try dsimp only at hSw); go_simp; first | done | with_reducible rfl)
      try simp only [Act.put, List.setIfInBounds_toArray, List.set_cons_zero, List.set_cons_succ]
      refine wpAnyH_done (by kernel_rfl) ?_ _
      clear HK
      have e0 := HC.out _ hcur
      go_wp2
      go_roundw
      case rel => exact ⟨kk + 1, _, by omega, by go_num, rfl, by show _ = _; rw [preK_next]; exact q1.out, hE.trans hcur⟩
      case measure => simp [intOf]; omega
    · have hkx : kk = len := by omega
      subst hkx
      have hend := preK_end 1 kk f K
      go_wp2
      go_ret
      exact ⟨ret_int (by have := hm.out; omega), hE⟩

theorem heldStringS_any (d : D) (H : Has d (.list 0)) : HlD 54 d := by
  obtain ⟨len, f, rfl, HRa⟩ := H.list
  exact heldStringS_list len f HRa

end Go.Proofs.Ytbapbcdkmhkigaa
