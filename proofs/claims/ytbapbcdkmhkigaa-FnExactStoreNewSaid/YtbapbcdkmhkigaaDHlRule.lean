/- What the laws' functions held.. answer: the marks are read back. -/
import Derived.Test.YtbapbcdkmhkigaaDHlString
import Derived.Deep.RegionHeld3
namespace Go.Proofs.Ytbapbcdkmhkigaa
open Go.RowKit Go.Deep

set_option maxRecDepth 100000 in
set_option maxHeartbeats 8000000 in
theorem heldRuleS_list (len : Nat) (f : Nat → Nat → D) (HRa : ∀ i, i < len → HasRow 7 (f i)) : HlD 27 (.list 2 len f) := by
  intro S v w K k hK hv hbd
  subst hK
  change DIn S w (.list 2 len fun i j => markD (f i j) (preK 2 f K i j)) v at hv
  obtain ⟨a, cap, rfl, hlen⟩ := hv.list_eq
  unfold maxLen at hlen
  go_enter Try.func27, Try.ntmps27
  go_wp2
  go_loopw [1, 5] (fun q i wr => ∃ (kk : Nat) (m : Int), kk ≤ len ∧ i = .int .i64 kk ∧ q = .int .i64 m ∧ Hid (m = (preK 2 f K kk 0 : Nat)) ∧ Ext w wr) (fun _ i _ => len - (intOf i).toNat)
  case atStart => exact ⟨0, _, Nat.zero_le _, rfl, rfl, (rfl : (K : Int) = (preK 2 f K 0 0 : Nat)), Ext.refl _⟩
  case round =>
    obtain ⟨kk, m, hk, rfl, rfl, hm, hE⟩ := hrel
    by_cases hlt : kk < len
    · have HR := HRa kk hlt
      obtain ⟨cap2, b, off, C, hsl, _, hb, ec, hx⟩ := (hv.ext hE).at hlt
      cases hsl
      have hp_0 : preK 2 f K kk 0 ≤ 1000000000 := Nat.le_trans (preK_le hlt (by decide)) hbd
      have hm0 : 0 ≤ m := by have := hm.out; omega
      have hm1 : m ≤ 1000000000 := by have := hm.out; omega
      have q0 : Hid (m = (preK 2 f K kk 0 : Nat)) := hm
      have e0 := ec 0 (by decide)
      have h0 := hx 0 (by decide)
      dsimp only at h0
      obtain ⟨x0, hd0⟩ := (show Has (f kk 0) .str from HR 0 (by decide)).str
      rw [hd0] at h0
      have y0 : C 0 = .string (markM (m)) := by rw [q0.out]; exact h0.1
      rw [y0] at e0
      have hp_1 : preK 2 f K kk 1 = preK 2 f K kk 0 + 1 := by rw [preK_succ, hd0]; rfl
      have hb_1 : preK 2 f K kk 1 ≤ 1000000000 := Nat.le_trans (preK_le hlt (by decide)) hbd
      have q1 : Hid (m + 1 = (preK 2 f K kk 1 : Nat)) := by show _ = _; have := q0.out; omega
      clear h0 y0
      have e1 := ec 1 (by decide)
      have h1 := hx 1 (by decide)
      dsimp only at h1
      obtain ⟨x1, hd1⟩ := (show Has (f kk 1) .str from HR 1 (by decide)).str
      rw [hd1] at h1
      have y1 : C 1 = .string (markM (m + 1)) := by rw [q1.out]; exact h1.1
      rw [y1] at e1
      have hp_2 : preK 2 f K kk 2 = preK 2 f K kk 1 + 1 := by rw [preK_succ, hd1]; rfl
      have hb_2 : preK 2 f K kk 2 ≤ 1000000000 := Nat.le_trans (preK_le hlt (by decide)) hbd
      have q2 : Hid (m + 1 + 1 = (preK 2 f K kk 2 : Nat)) := by show _ = _; have := q1.out; omega
      clear h1 y1
      simp only [Nat.add_zero] at e0
      clear hx ec HR
      have HC : Hid (∀ W, Ext wr W → W.cell? ⟨b, off + kk * 2, none⟩ = some (.string (markM (m))) ∧ W.cell? ⟨b, off + kk * 2 + 1, none⟩ = some (.string (markM (m + 1)))) := fun W hW => by
        rw [hW.cell hb, hW.cell hb]; exact ⟨e0, e1⟩
      clear e0 e1
      have hcur : Ext wr wr := Ext.refl _
      obtain ⟨e0, e1⟩ := HC.out _ hcur
      go_wp2_with fail
      clear e0 e1
      have HK : Hid (∀ W, Ext wr W → W.cell? ⟨b, off + kk * 2, none⟩ = some (.string (markM (m))) ∧ W.cell? ⟨b, off + kk * 2 + 1, none⟩ = some (.string (markM (m + 1)))) := HC
      replace hcur := hcur.drew
      refine wp_region_held_drew (S := (fun W => W.cell? ⟨b, off + kk * 2, none⟩ = some (.string (markM (m))) ∧ W.cell? ⟨b, off + kk * 2 + 1, none⟩ = some (.string (markM (m + 1))))) (by kernel_rfl) (HK.out _ hcur) (fun hHeld => ?_)
      refine wpAnyH_take (i := 0) (oi := ⟨some 12, .move (.tmp 0), 28, "exact.go:662", #[], none⟩) (v := ?_) rfl (by kernel_rfl) (by kernel_rfl) (by kernel_rfl) (fun _ _ _ h => h) (Or.inl ⟨by rfl, ?yyH00⟩) hHeld ?rrH00
      case yyH00 => (intro w hSw; (try dsimp only at hSw); go_simp; first | done | with_reducible rfl)
      try simp only [Act.put, List.setIfInBounds_toArray, List.set_cons_zero, List.set_cons_succ]
      refine wpAnyH_take (i := 1) (oi := ⟨some 13, .move (.tmp 5), 3, "exact.go:662", #[], none⟩) (v := ?_) rfl (by kernel_rfl) (by kernel_rfl) (by kernel_rfl) (fun _ _ _ h => h) (Or.inl ⟨by rfl, ?yyH01⟩) hHeld ?rrH01
      case yyH01 => (intro w hSw; (try dsimp only at hSw); go_simp; first | done | with_reducible rfl)
      try simp only [Act.put, List.setIfInBounds_toArray, List.set_cons_zero, List.set_cons_succ]
      refine wpAnyH_take (i := 2) (oi := ⟨some 14, .indexAddr 28 (.tmp 12) (.tmp 13), 0, "exact.go:662", #[⟨0, .data⟩, ⟨1, .data⟩], none⟩) (v := ?_) rfl (by kernel_rfl) (by kernel_rfl) (by kernel_rfl) (fun _ _ _ h => h) (Or.inl ⟨by rfl, ?yyH02⟩) hHeld ?rrH02
      case yyH02 => (intro w hSw; (try dsimp only at hSw); go_simp; first | done | with_reducible rfl)
      try simp only [Act.put, List.setIfInBounds_toArray, List.set_cons_zero, List.set_cons_succ]
      refine wpAnyH_take (i := 3) (oi := ⟨some 15, .fieldAddr 45 (.tmp 14) 0, 0, "exact.go:662", #[⟨2, .data⟩], none⟩) (v := ?_) rfl (by kernel_rfl) (by kernel_rfl) (by kernel_rfl) (fun _ _ _ h => h) (Or.inl ⟨by rfl, ?yyH03⟩) hHeld ?rrH03
      case yyH03 => (intro w hSw; (try dsimp only at hSw); go_simp; first | done | with_reducible rfl)
      try simp only [Act.put, List.setIfInBounds_toArray, List.set_cons_zero, List.set_cons_succ]
      refine wpAnyH_take (i := 4) (oi := ⟨some 16, .load 9 (.tmp 15), 9, "exact.go:662", #[⟨3, .data⟩], none⟩) (v := ?_) rfl (by kernel_rfl) (by kernel_rfl) (by kernel_rfl) (fun _ _ _ h => h) (Or.inl ⟨by rfl, ?yyH04⟩) hHeld ?rrH04
      case yyH04 => (intro w hSw; (try dsimp only at hSw); go_simp; first | done | with_reducible rfl)
      try simp only [Act.put, List.setIfInBounds_toArray, List.set_cons_zero, List.set_cons_succ]
      refine wpAnyH_take (i := 5) (oi := ⟨some 17, .move (.tmp 1), 3, "exact.go:662", #[], none⟩) (v := ?_) rfl (by kernel_rfl) (by kernel_rfl) (by kernel_rfl) (fun _ _ _ h => h) (Or.inl ⟨by rfl, ?yyH05⟩) hHeld ?rrH05
      case yyH05 => (intro w hSw; (try dsimp only at hSw); go_simp; first | done | with_reducible rfl)
      try simp only [Act.put, List.setIfInBounds_toArray, List.set_cons_zero, List.set_cons_succ]
      refine wpAnyH_ready (rs := [6]) (by kernel_rfl) (by simp) ?_
      refine AllReadyH.cons (o := ⟨some 18, .call { callee := .value (.func 22), args := #[.tmp 17], argTypes := #[3] }, 9, "exact.go:662", #[⟨5, .data⟩], none⟩) rfl (fun K hK => ?_) AllReadyH.nil
      go_simp
      refine (markText_mark _ _ (by omega) (by have := q0.out; omega)).mono ?_
      rintro e vs0 ⟨rfl, X0⟩
      replace hcur := hcur.trans X0
      go_wp2_with fail
      refine hK.out _ _ (HK.out _ hcur) (fun hHeld => ?_)
      clear hK K
      try simp only [Act.put, List.setIfInBounds_toArray, List.set_cons_zero, List.set_cons_succ]
      refine wpAnyH_take (i := 7) (oi := ⟨some 19, .binOp .neq 9 (.tmp 16) (.tmp 18) 9, 4, "exact.go:662", #[⟨4, .data⟩, ⟨6, .data⟩], none⟩) (v := ?_) rfl (by kernel_rfl) (by kernel_rfl) (by kernel_rfl) (fun _ _ _ h => h) (Or.inl ⟨by rfl, ?yyH07⟩) hHeld ?rrH07
      case yyH07 => (intro w hSw; (try dsimp only at hSw); go_simp; first | done | with_reducible rfl)
      try simp only [Act.put, List.setIfInBounds_toArray, List.set_cons_zero, List.set_cons_succ]
      refine wpAnyH_done (by kernel_rfl) ?_ _
      clear HK
      obtain ⟨e0, e1⟩ := HC.out _ hcur
      go_wp2_with fail
      clear e0 e1
      have HK : Hid (∀ W, Ext wr W → W.cell? ⟨b, off + kk * 2, none⟩ = some (.string (markM (m))) ∧ W.cell? ⟨b, off + kk * 2 + 1, none⟩ = some (.string (markM (m + 1)))) := HC
      replace hcur := hcur.drew
      refine wp_region_held_drew (S := (fun W => W.cell? ⟨b, off + kk * 2, none⟩ = some (.string (markM (m))) ∧ W.cell? ⟨b, off + kk * 2 + 1, none⟩ = some (.string (markM (m + 1))))) (by kernel_rfl) (HK.out _ hcur) (fun hHeld => ?_)
      refine wpAnyH_take (i := 0) (oi := ⟨some 22, .move (.tmp 0), 28, "exact.go:666", #[], none⟩) (v := ?_) rfl (by kernel_rfl) (by kernel_rfl) (by kernel_rfl) (fun _ _ _ h => h) (Or.inl ⟨by rfl, ?yyH10⟩) hHeld ?rrH10
      case yyH10 => (intro w hSw; (try dsimp only at hSw); go_simp; first | done | with_reducible rfl)
      try simp only [Act.put, List.setIfInBounds_toArray, List.set_cons_zero, List.set_cons_succ]
      refine wpAnyH_take (i := 1) (oi := ⟨some 23, .move (.tmp 5), 3, "exact.go:666", #[], none⟩) (v := ?_) rfl (by kernel_rfl) (by kernel_rfl) (by kernel_rfl) (fun _ _ _ h => h) (Or.inl ⟨by rfl, ?yyH11⟩) hHeld ?rrH11
      case yyH11 => (intro w hSw; (try dsimp only at hSw); go_simp; first | done | with_reducible rfl)
      try simp only [Act.put, List.setIfInBounds_toArray, List.set_cons_zero, List.set_cons_succ]
      refine wpAnyH_take (i := 2) (oi := ⟨some 24, .indexAddr 28 (.tmp 22) (.tmp 23), 0, "exact.go:666", #[⟨0, .data⟩, ⟨1, .data⟩], none⟩) (v := ?_) rfl (by kernel_rfl) (by kernel_rfl) (by kernel_rfl) (fun _ _ _ h => h) (Or.inl ⟨by rfl, ?yyH12⟩) hHeld ?rrH12
      case yyH12 => (intro w hSw; (try dsimp only at hSw); go_simp; first | done | with_reducible rfl)
      try simp only [Act.put, List.setIfInBounds_toArray, List.set_cons_zero, List.set_cons_succ]
      refine wpAnyH_take (i := 3) (oi := ⟨some 25, .fieldAddr 45 (.tmp 24) 1, 0, "exact.go:666", #[⟨2, .data⟩], none⟩) (v := ?_) rfl (by kernel_rfl) (by kernel_rfl) (by kernel_rfl) (fun _ _ _ h => h) (Or.inl ⟨by rfl, ?yyH13⟩) hHeld ?rrH13
      case yyH13 => (intro w hSw; (try dsimp only at hSw); go_simp; first | done | with_reducible rfl)
      try simp only [Act.put, List.setIfInBounds_toArray, List.set_cons_zero, List.set_cons_succ]
      refine wpAnyH_take (i := 4) (oi := ⟨some 26, .load 9 (.tmp 25), 9, "exact.go:666", #[⟨3, .data⟩], none⟩) (v := ?_) rfl (by kernel_rfl) (by kernel_rfl) (by kernel_rfl) (fun _ _ _ h => h) (Or.inl ⟨by rfl, ?yyH14⟩) hHeld ?rrH14
      case yyH14 => (intro w hSw; (try dsimp only at hSw); go_simp; first | done | with_reducible rfl)
      try simp only [Act.put, List.setIfInBounds_toArray, List.set_cons_zero, List.set_cons_succ]
      refine wpAnyH_take (i := 5) (oi := ⟨some 27, .move (.tmp 1), 3, "exact.go:666", #[], none⟩) (v := ?_) rfl (by kernel_rfl) (by kernel_rfl) (by kernel_rfl) (fun _ _ _ h => h) (Or.inl ⟨by rfl, ?yyH15⟩) hHeld ?rrH15
      case yyH15 => (intro w hSw; (try dsimp only at hSw); go_simp; first | done | with_reducible rfl)
      try simp only [Act.put, List.setIfInBounds_toArray, List.set_cons_zero, List.set_cons_succ]
      refine wpAnyH_ready (rs := [6]) (by kernel_rfl) (by simp) ?_
      refine AllReadyH.cons (o := ⟨some 28, .call { callee := .value (.func 22), args := #[.tmp 27], argTypes := #[3] }, 9, "exact.go:666", #[⟨5, .data⟩], none⟩) rfl (fun K hK => ?_) AllReadyH.nil
      go_simp
      refine (markText_mark _ _ (by omega) (by have := q1.out; omega)).mono ?_
      rintro e vs1 ⟨rfl, X1⟩
      replace hcur := hcur.trans X1
      go_wp2_with fail
      refine hK.out _ _ (HK.out _ hcur) (fun hHeld => ?_)
      clear hK K
      try simp only [Act.put, List.setIfInBounds_toArray, List.set_cons_zero, List.set_cons_succ]
      refine wpAnyH_take (i := 7) (oi := ⟨some 29, .binOp .neq 9 (.tmp 26) (.tmp 28) 9, 4, "exact.go:666", #[⟨4, .data⟩, ⟨6, .data⟩], none⟩) (v := ?_) rfl (by kernel_rfl) (by kernel_rfl) (by kernel_rfl) (fun _ _ _ h => h) (Or.inl ⟨by rfl, ?yyH17⟩) hHeld ?rrH17
      case yyH17 => (intro w hSw; (try dsimp only at hSw); go_simp; first | done | with_reducible rfl)
      try simp only [Act.put, List.setIfInBounds_toArray, List.set_cons_zero, List.set_cons_succ]
      refine wpAnyH_done (by kernel_rfl) ?_ _
      clear HK
      obtain ⟨e0, e1⟩ := HC.out _ hcur
      go_wp2
      go_roundw
      case rel => exact ⟨kk + 1, _, by omega, by go_num, rfl, by show _ = _; rw [preK_next]; exact q2.out, hE.trans hcur⟩
      case measure => simp [intOf]; omega
    · have hkx : kk = len := by omega
      subst hkx
      have hend := preK_end 2 kk f K
      go_wp2
      go_ret
      exact ⟨ret_int (by have := hm.out; omega), hE⟩

theorem heldRuleS_any (d : D) (H : Has d (.list 7)) : HlD 27 d := by
  obtain ⟨len, f, rfl, HRa⟩ := H.list
  exact heldRuleS_list len f HRa

end Go.Proofs.Ytbapbcdkmhkigaa
