/- What the laws' functions held.. answer: the marks are read back. -/
import Derived.Test.YteijgejpenlgjaaGreatTk
import Derived.Test.YteijgejpenlgjaaGreatDMs
import Derived.Deep.RegionHeld3
import Derived.Test.YteijgejpenlgjaaGreatDMk
namespace Go.Proofs.YteijgejpenlgjaaGreat
open Go.RowKit Go.Deep

theorem held_shape {S : Nat → Prop} {w : World} {r K : Nat} {d : D} {v : Value} (H : Has d (.list r)) (h : DIn S w (markD d K) v) : ∃ a cap, v = .slice a d.len! cap := by
 obtain ⟨len, f, rfl, _⟩ := H.list
 obtain ⟨a, cap, hv, _⟩ := DIn.list_eq h
 exact ⟨a, cap, hv⟩

set_option maxRecDepth 100000 in
set_option maxHeartbeats 8000000 in
theorem heldStringS_list (len : Nat) (f : Nat → Nat → D) (HRa : ∀ i, i < len → HasRow 0 (f i)) : HlD 69 (.list 1 len f) := by
 intro S v w K k hK hv hbd
 subst hK
 change DIn S w (.list 1 len fun i j => markD (f i j) (preK 1 f K i j)) v at hv
 obtain ⟨a, cap, rfl, hlen⟩ := hv.list_eq
 unfold maxLen at hlen
 go_enter Tryz.func69, Tryz.ntmps69
 go_wp2
 go_loopw [1, 5] (fun q i wr => ∃ (kk : Nat) (m : Int), kk ≤ len ∧ i = .int .i64 kk ∧ q = .int .i64 m ∧ Hid (m = (preK 1 f K kk 0 : Nat)) ∧ Ext w wr) (fun _ i _ => len - (intOf i).toNat)
 case atStart => exact ⟨0, _, Nat.zero_le _, rfl, rfl, (rfl : (K : Int) = (preK 1 f K 0 0 : Nat)), Ext.refl _⟩
 case round =>
  obtain ⟨kk, m, hk, rfl, rfl, hm, hE⟩ := hrel
  by_cases hlt : kk < len
  ·
   have HR := HRa kk hlt
   obtain ⟨cap2, b, off, C, hsl, _, hb, ec, hx⟩ := (hv.ext hE).at hlt
   cases hsl
   have hp_0 : preK 1 f K kk 0 ≤ 1000000000 := Nat.le_trans (preK_le hlt (by decide)) hbd
   have hm0 : 0 ≤ m := by have := hm.out; omega
   have hm1 : m ≤ 1000000000 := by have := hm.out; omega
   have q0 : Hid (m = (preK 1 f K kk 0 : Nat)) := hm
   have e0 := ec 0 (by decide)
   have h0 := hx 0 (by decide)
   dsimp only at h0
   obtain ⟨x0, hd0⟩ := (show Has (f kk 0) .str from HR 0 (by decide)).str
   rw [hd0] at h0
   have y0 : C 0 = .string (markM (m)) := by rw [q0.out]; exact h0.1
   rw [y0] at e0
   have hp_1 : preK 1 f K kk 1 = preK 1 f K kk 0 + 1 := by rw [preK_succ, hd0]; rfl
   have hb_1 : preK 1 f K kk 1 ≤ 1000000000 := Nat.le_trans (preK_le hlt (by decide)) hbd
   have q1 : Hid (m + 1 = (preK 1 f K kk 1 : Nat)) := by show _ = _; have := q0.out; omega
   clear h0 y0
   simp only [Nat.add_zero, Nat.mul_one] at e0
   clear hx ec HR
   have HC : Hid (∀ W, Ext wr W → W.cell? ⟨b, off + kk, none⟩ = some (.string (markM (m)))) := fun W hW => by
    rw [hW.cell hb]; exact e0
   clear e0
   have hcur : Ext wr wr := Ext.refl _
   have e0 := HC.out _ hcur
   go_wp2_with fail
   clear e0
   have HK : Hid (∀ W, Ext wr W → W.cell? ⟨b, off + kk, none⟩ = some (.string (markM (m)))) := HC
   replace hcur := hcur.drew
   refine wp_region_held_drew (S := (fun W => W.cell? ⟨b, off + kk, none⟩ = some (.string (markM (m))))) (by kernel_rfl) (HK.out _ hcur) (fun hHeld => ?_)
   refine tkL 0 ⟨some 12, .move (.tmp 0), 72, _, #[], none⟩ ?_ hHeld ?yyH00 ?rrH00
   case yyH00 => (intro w hSw; (try dsimp only at hSw); go_simp; try with_reducible rfl)
   try simp only [Act.put, putA, putB, putC]
   refine tkL 1 ⟨some 13, .move (.tmp 5), 3, _, #[], none⟩ ?_ hHeld ?yyH01 ?rrH01
   case yyH01 => (intro w hSw; (try dsimp only at hSw); go_simp; try with_reducible rfl)
   try simp only [Act.put, putA, putB, putC]
   refine tkL 2 ⟨some 14, .indexAddr 72 (.tmp 12) (.tmp 13), 0, _, #[⟨0, .data⟩, ⟨1, .data⟩], none⟩ ?_ hHeld ?yyH02 ?rrH02
   case yyH02 => (intro w hSw; (try dsimp only at hSw); go_simp; try with_reducible rfl)
   try simp only [Act.put, putA, putB, putC]
   refine tkL 3 ⟨some 15, .load 9 (.tmp 14), 9, _, #[⟨2, .data⟩], none⟩ ?_ hHeld ?yyH03 ?rrH03
   case yyH03 => (intro w hSw; (try dsimp only at hSw); go_simp; try with_reducible rfl)
   try simp only [Act.put, putA, putB, putC]
   refine tkL 4 ⟨some 16, .move (.tmp 1), 3, _, #[], none⟩ ?_ hHeld ?yyH04 ?rrH04
   case yyH04 => (intro w hSw; (try dsimp only at hSw); go_simp; try with_reducible rfl)
   try simp only [Act.put, putA, putB, putC]
   refine wpAnyH_ready (rs := [5]) (by kernel_rfl) (by simp) ?_
   refine AllReadyH.cons (o := ⟨some 17, .call { callee := .value (.func 68), args := #[.tmp 16], argTypes := #[3] }, 9, _, #[⟨4, .data⟩], none⟩) rfl (fun K hK => ?_) AllReadyH.nil
   go_simp
   refine (markText_mark _ _ (by omega) (by have := q0.out; omega)).mono ?_
   rintro e vs0 ⟨rfl, X0⟩
   replace hcur := hcur.trans X0
   go_wp2_with fail
   refine hK.out _ _ (HK.out _ hcur) (fun hHeld => ?_)
   clear hK K
   try simp only [Act.put, putA, putB, putC]
   refine tkL 6 ⟨some 18, .binOp .neq 9 (.tmp 15) (.tmp 17) 9, 4, _, #[⟨3, .data⟩, ⟨5, .data⟩], none⟩ ?_ hHeld ?yyH06 ?rrH06
   case yyH06 => (intro w hSw; (try dsimp only at hSw); go_simp; try with_reducible rfl)
   try simp only [Act.put, putA, putB, putC]
   refine wpAnyH_done (by kernel_rfl) ?_ _
   clear HK
   have e0 := HC.out _ hcur
   go_wp2
   go_roundw
   case rel => exact ⟨kk + 1, _, by omega, by go_num, rfl, by show _ = _; rw [preK_next]; exact q1.out, hE.trans hcur⟩
   case measure => simp [intOf]; omega
  ·
   have hkx : kk = len := by omega
   subst hkx
   have hend := preK_end 1 kk f K
   go_wp2
   go_ret
   exact ⟨ret_int (by have := hm.out; omega), hE⟩

theorem heldStringS_any (d : D) (H : Has d (.list 0)) : HlD 69 d := by
 obtain ⟨len, f, rfl, HRa⟩ := H.list
 exact heldStringS_list len f HRa

end Go.Proofs.YteijgejpenlgjaaGreat

/- What the laws' functions held.. answer: the marks are read back. -/
namespace Go.Proofs.YteijgejpenlgjaaGreat
open Go.RowKit Go.Deep

set_option maxRecDepth 100000 in
set_option maxHeartbeats 8000000 in
theorem heldValueS_of (len : Nat) (f : Nat → Nat → D) (HRa : ∀ i, i < len → HasRow 2 (f i)) (hS3 : ∀ i, i < len → HlD 94 (f i 3)) : HlD 94 (.list 4 len f) := by
 intro S v w K k hK hv hbd
 subst hK
 change DIn S w (.list 4 len fun i j => markD (f i j) (preK 4 f K i j)) v at hv
 obtain ⟨a, cap, rfl, hlen⟩ := hv.list_eq
 unfold maxLen at hlen
 go_enter Tryz.func94, Tryz.ntmps94
 go_wp2
 go_loopw [1, 5] (fun q i wr => ∃ (kk : Nat) (m : Int), kk ≤ len ∧ i = .int .i64 kk ∧ q = .int .i64 m ∧ Hid (m = (preK 4 f K kk 0 : Nat)) ∧ Ext w wr) (fun _ i _ => len - (intOf i).toNat)
 case atStart => exact ⟨0, _, Nat.zero_le _, rfl, rfl, (rfl : (K : Int) = (preK 4 f K 0 0 : Nat)), Ext.refl _⟩
 case round =>
  obtain ⟨kk, m, hk, rfl, rfl, hm, hE⟩ := hrel
  by_cases hlt : kk < len
  ·
   have HR := HRa kk hlt
   obtain ⟨cap2, b, off, C, hsl, _, hb, ec, hx⟩ := (hv.ext hE).at hlt
   cases hsl
   have hp_0 : preK 4 f K kk 0 ≤ 1000000000 := Nat.le_trans (preK_le hlt (by decide)) hbd
   have hm0 : 0 ≤ m := by have := hm.out; omega
   have hm1 : m ≤ 1000000000 := by have := hm.out; omega
   have q0 : Hid (m = (preK 4 f K kk 0 : Nat)) := hm
   have hT3 := hS3 kk hlt
   clear hS3
   have e0 := ec 0 (by decide)
   have h0 := hx 0 (by decide)
   dsimp only at h0
   obtain ⟨x0, hd0⟩ := (show Has (f kk 0) .int from HR 0 (by decide)).int
   rw [hd0] at h0
   have y0 : C 0 = .int .i64 (m) := by rw [q0.out]; exact h0.1
   rw [y0] at e0
   have hp_1 : preK 4 f K kk 1 = preK 4 f K kk 0 + 1 := by rw [preK_succ, hd0]; rfl
   have hb_1 : preK 4 f K kk 1 ≤ 1000000000 := Nat.le_trans (preK_le hlt (by decide)) hbd
   have q1 : Hid (m + 1 = (preK 4 f K kk 1 : Nat)) := by show _ = _; have := q0.out; omega
   clear h0 y0
   have e1 := ec 1 (by decide)
   have h1 := hx 1 (by decide)
   dsimp only at h1
   obtain ⟨x1, hd1⟩ := (show Has (f kk 1) .int from HR 1 (by decide)).int
   rw [hd1] at h1
   have y1 : C 1 = .int .i64 (m + 1) := by rw [q1.out]; exact h1.1
   rw [y1] at e1
   have hp_2 : preK 4 f K kk 2 = preK 4 f K kk 1 + 1 := by rw [preK_succ, hd1]; rfl
   have hb_2 : preK 4 f K kk 2 ≤ 1000000000 := Nat.le_trans (preK_le hlt (by decide)) hbd
   have q2 : Hid (m + 1 + 1 = (preK 4 f K kk 2 : Nat)) := by show _ = _; have := q1.out; omega
   clear h1 y1
   have e2 := ec 2 (by decide)
   have h2 := hx 2 (by decide)
   dsimp only at h2
   obtain ⟨x2, hd2⟩ := (show Has (f kk 2) .str from HR 2 (by decide)).str
   rw [hd2] at h2
   have y2 : C 2 = .string (markM (m + 1 + 1)) := by rw [q2.out]; exact h2.1
   rw [y2] at e2
   have hp_3 : preK 4 f K kk 3 = preK 4 f K kk 2 + 1 := by rw [preK_succ, hd2]; rfl
   have hb_3 : preK 4 f K kk 3 ≤ 1000000000 := Nat.le_trans (preK_le hlt (by decide)) hbd
   have q3 : Hid (m + 1 + 1 + 1 = (preK 4 f K kk 3 : Nat)) := by show _ = _; have := q2.out; omega
   clear h2 y2
   have e3 := ec 3 (by decide)
   have h3 := hx 3 (by decide)
   dsimp only at h3
   have H3 : Has (f kk 3) (.list 2) := HR 3 (by decide)
   have hp_4 : preK 4 f K kk 4 = preK 4 f K kk 3 + cntD (f kk 3) := preK_succ _ _ _ _ _
   have hb_4 : preK 4 f K kk 4 ≤ 1000000000 := Nat.le_trans (preK_le hlt (by decide)) hbd
   obtain ⟨ga3, gc3, hG3⟩ := held_shape H3 h3
   have q4 : Hid ((m + 1 + 1 + 1 + (cntD (f kk 3) : Nat)) = (preK 4 f K kk 4 : Nat)) := by show _ = _; have := q3.out; omega
   simp only [Nat.add_zero] at e0
   clear hx ec HR
   have HC : Hid (∀ W, Ext wr W → W.cell? ⟨b, off + kk * 4, none⟩ = some (.int .i64 (m)) ∧ W.cell? ⟨b, off + kk * 4 + 1, none⟩ = some (.int .i64 (m + 1)) ∧ W.cell? ⟨b, off + kk * 4 + 2, none⟩ = some (.string (markM (m + 1 + 1))) ∧ W.cell? ⟨b, off + kk * 4 + 3, none⟩ = some (C 3)) := fun W hW => by
    rw [hW.cell hb, hW.cell hb, hW.cell hb, hW.cell hb]; exact ⟨e0, e1, e2, e3⟩
   clear e0 e1 e2 e3
   have hcur : Ext wr wr := Ext.refl _
   obtain ⟨e0, e1, e2, e3⟩ := HC.out _ hcur
   go_wp2_with fail
   clear e0 e1 e2 e3
   have HK : Hid (∀ W, Ext wr W → W.cell? ⟨b, off + kk * 4, none⟩ = some (.int .i64 (m)) ∧ W.cell? ⟨b, off + kk * 4 + 1, none⟩ = some (.int .i64 (m + 1)) ∧ W.cell? ⟨b, off + kk * 4 + 2, none⟩ = some (.string (markM (m + 1 + 1))) ∧ W.cell? ⟨b, off + kk * 4 + 3, none⟩ = some (C 3)) := HC
   replace hcur := hcur.drew
   refine wp_region_held_drew (S := (fun W => W.cell? ⟨b, off + kk * 4, none⟩ = some (.int .i64 (m)) ∧ W.cell? ⟨b, off + kk * 4 + 1, none⟩ = some (.int .i64 (m + 1)) ∧ W.cell? ⟨b, off + kk * 4 + 2, none⟩ = some (.string (markM (m + 1 + 1))) ∧ W.cell? ⟨b, off + kk * 4 + 3, none⟩ = some (C 3))) (by kernel_rfl) (HK.out _ hcur) (fun hHeld => ?_)
   refine tkL 0 ⟨some 30, .move (.tmp 0), 38, _, #[], none⟩ ?_ hHeld ?yyH00 ?rrH00
   case yyH00 => (intro w hSw; (try dsimp only at hSw); go_simp; try with_reducible rfl)
   try simp only [Act.put, putA, putB, putC]
   refine tkL 1 ⟨some 31, .move (.tmp 5), 3, _, #[], none⟩ ?_ hHeld ?yyH01 ?rrH01
   case yyH01 => (intro w hSw; (try dsimp only at hSw); go_simp; try with_reducible rfl)
   try simp only [Act.put, putA, putB, putC]
   refine tkL 2 ⟨some 32, .indexAddr 38 (.tmp 30) (.tmp 31), 0, _, #[⟨0, .data⟩, ⟨1, .data⟩], none⟩ ?_ hHeld ?yyH02 ?rrH02
   case yyH02 => (intro w hSw; (try dsimp only at hSw); go_simp; try with_reducible rfl)
   try simp only [Act.put, putA, putB, putC]
   refine tkL 3 ⟨some 33, .fieldAddr 40 (.tmp 32) 2, 0, _, #[⟨2, .data⟩], none⟩ ?_ hHeld ?yyH03 ?rrH03
   case yyH03 => (intro w hSw; (try dsimp only at hSw); go_simp; try with_reducible rfl)
   try simp only [Act.put, putA, putB, putC]
   refine tkL 4 ⟨some 34, .load 9 (.tmp 33), 9, _, #[⟨3, .data⟩], none⟩ ?_ hHeld ?yyH04 ?rrH04
   case yyH04 => (intro w hSw; (try dsimp only at hSw); go_simp; try with_reducible rfl)
   try simp only [Act.put, putA, putB, putC]
   refine tkL 5 ⟨some 35, .move (.tmp 1), 3, _, #[], none⟩ ?_ hHeld ?yyH05 ?rrH05
   case yyH05 => (intro w hSw; (try dsimp only at hSw); go_simp; try with_reducible rfl)
   try simp only [Act.put, putA, putB, putC]
   refine wpAnyH_ready (rs := [6]) (by kernel_rfl) (by simp) ?_
   refine AllReadyH.cons (o := ⟨some 36, .call { callee := .value (.func 68), args := #[.tmp 35], argTypes := #[3] }, 9, _, #[⟨5, .data⟩], none⟩) rfl (fun K hK => ?_) AllReadyH.nil
   go_simp
   refine (markText_mark _ _ (by omega) (by have := q2.out; omega)).mono ?_
   rintro e vs0 ⟨rfl, X0⟩
   replace hcur := hcur.trans X0
   go_wp2_with fail
   refine hK.out _ _ (HK.out _ hcur) (fun hHeld => ?_)
   clear hK K
   try simp only [Act.put, putA, putB, putC]
   refine tkL 7 ⟨some 37, .binOp .neq 9 (.tmp 34) (.tmp 36) 9, 4, _, #[⟨4, .data⟩, ⟨6, .data⟩], none⟩ ?_ hHeld ?yyH07 ?rrH07
   case yyH07 => (intro w hSw; (try dsimp only at hSw); go_simp; try with_reducible rfl)
   try simp only [Act.put, putA, putB, putC]
   refine wpAnyH_done (by kernel_rfl) ?_ _
   clear HK
   obtain ⟨e0, e1, e2, e3⟩ := HC.out _ hcur
   have hcall3 := hT3 S (C 3) _ (preK 4 f K kk 3) (m + 1 + 1 + 1) q3.out (h3.ext hcur) (by omega)
   rw [hG3] at hcall3 e3
   go_wp2_with fail
   refine hcall3.mono ?_
   rintro e vl3 ⟨rfl, XL3⟩
   replace hcur := hcur.trans XL3
   clear e0 e1 e2 e3 hcall3
   obtain ⟨e0, e1, e2, e3⟩ := HC.out _ hcur
   have nn3 : decide (m + 1 + 1 + 1 + (cntD (f kk 3) : Nat) < 0) = false := decide_eq_false (by omega)
   go_wp2
   go_roundw
   case rel => exact ⟨kk + 1, _, by omega, by go_num, rfl, by show _ = _; rw [preK_next]; exact q4.out, hE.trans hcur⟩
   case measure => simp [intOf]; omega
  ·
   have hkx : kk = len := by omega
   subst hkx
   clear hS3
   have hend := preK_end 4 kk f K
   go_wp2
   go_ret
   exact ⟨ret_int (by have := hm.out; omega), hE⟩

theorem heldValueS_any (d : D) (H : Has d (.list 2)) : HlD 94 d := by
 induction d with
 | list n len f ih =>
  obtain ⟨r, h1, rfl, h3⟩ := H
  cases h1
  exact heldValueS_of len f (fun i hi j hj => h3 i hi j hj) (fun i hi => ih i 3 (h3 i hi 3 (by decide)))
 | int _ => cases H
 | bool _ => cases H
 | str _ => cases H

end Go.Proofs.YteijgejpenlgjaaGreat

/- What the laws' functions markValue and heldValue do with a value: its list is marked, and read back. -/
namespace Go.Proofs.YteijgejpenlgjaaGreat
open Go.RowKit Go.Deep

set_option maxRecDepth 100000 in
set_option maxHeartbeats 1000000 in
theorem markValue_any (x0 x1 : Int) (x2 : ByteArray) (d3 : D) (u3 : Value) (Q : Nat → Prop) (w : World) (K : Nat) (k : Int) (hK : k = K) (H3 : Has d3 (.list 2)) (o3 : Own w d3 Q u3) (L3 : LenOk d3) (hb : K + cntD d3 ≤ 1000000000) :
  Calls Tryz.prog 13 #[.agg #[.int .i64 x0, .int .i64 x1, .string x2, u3], .int .i64 k] w fun e w' => e = .returned (.int .i64 (k + cntD d3)) ∧ OnlyS Q w w' ∧ DIn Q w' (markD d3 K) u3 := by
 have hE0 : Ext w (w.alloc (.cells #[.int .i64 x0, .int .i64 x1, .string x2, u3] 40)) := (Ext.refl _).alloc _
 have hc0 := markValueS_any d3 H3 L3 Q u3 _ K k hK (o3.ext hE0) L3.len hb
 have HKK : Hid (k = K) := hK
 clear hK
 obtain ⟨a3, cap3, rfl⟩ := own_shape H3 o3
 go_enter Tryz.func13, Tryz.ntmps13
 go_wp2_with fail
 refine hc0.mono ?_
 rintro e w1 ⟨rfl, hO1, hx1⟩
 have hx1 := (show Hid _ from hx1)
 go_wp2
 go_ret
 exact ⟨rfl, (OnlyS.of_ext hE0).trans hO1, hx1.out⟩

end Go.Proofs.YteijgejpenlgjaaGreat

/- What the laws' functions held.. answer: the marks are read back. -/
namespace Go.Proofs.YteijgejpenlgjaaGreat
open Go.RowKit Go.Deep

set_option maxRecDepth 100000 in
set_option maxHeartbeats 8000000 in
theorem heldPropS_list (len : Nat) (f : Nat → Nat → D) (HRa : ∀ i, i < len → HasRow 3 (f i)) : HlD 70 (.list 5 len f) := by
 intro S v w K k hK hv hbd
 subst hK
 change DIn S w (.list 5 len fun i j => markD (f i j) (preK 5 f K i j)) v at hv
 obtain ⟨a, cap, rfl, hlen⟩ := hv.list_eq
 unfold maxLen at hlen
 go_enter Tryz.func70, Tryz.ntmps70
 go_wp2
 go_loopw [1, 5] (fun q i wr => ∃ (kk : Nat) (m : Int), kk ≤ len ∧ i = .int .i64 kk ∧ q = .int .i64 m ∧ Hid (m = (preK 5 f K kk 0 : Nat)) ∧ Ext w wr) (fun _ i _ => len - (intOf i).toNat)
 case atStart => exact ⟨0, _, Nat.zero_le _, rfl, rfl, (rfl : (K : Int) = (preK 5 f K 0 0 : Nat)), Ext.refl _⟩
 case round =>
  obtain ⟨kk, m, hk, rfl, rfl, hm, hE⟩ := hrel
  by_cases hlt : kk < len
  ·
   have HR := HRa kk hlt
   obtain ⟨cap2, b, off, C, hsl, _, hb, ec, hx⟩ := (hv.ext hE).at hlt
   cases hsl
   have hp_0 : preK 5 f K kk 0 ≤ 1000000000 := Nat.le_trans (preK_le hlt (by decide)) hbd
   have hm0 : 0 ≤ m := by have := hm.out; omega
   have hm1 : m ≤ 1000000000 := by have := hm.out; omega
   have q0 : Hid (m = (preK 5 f K kk 0 : Nat)) := hm
   have e0 := ec 0 (by decide)
   have h0 := hx 0 (by decide)
   dsimp only at h0
   obtain ⟨x0, hd0⟩ := (show Has (f kk 0) .str from HR 0 (by decide)).str
   rw [hd0] at h0
   have y0 : C 0 = .string (markM (m)) := by rw [q0.out]; exact h0.1
   rw [y0] at e0
   have hp_1 : preK 5 f K kk 1 = preK 5 f K kk 0 + 1 := by rw [preK_succ, hd0]; rfl
   have hb_1 : preK 5 f K kk 1 ≤ 1000000000 := Nat.le_trans (preK_le hlt (by decide)) hbd
   have q1 : Hid (m + 1 = (preK 5 f K kk 1 : Nat)) := by show _ = _; have := q0.out; omega
   clear h0 y0
   have e1 := ec 1 (by decide)
   have h1 := hx 1 (by decide)
   dsimp only at h1
   obtain ⟨x1, hd1⟩ := (show Has (f kk 1) .int from HR 1 (by decide)).int
   rw [hd1] at h1
   have y1 : C 1 = .int .i64 (m + 1) := by rw [q1.out]; exact h1.1
   rw [y1] at e1
   have hp_2 : preK 5 f K kk 2 = preK 5 f K kk 1 + 1 := by rw [preK_succ, hd1]; rfl
   have hb_2 : preK 5 f K kk 2 ≤ 1000000000 := Nat.le_trans (preK_le hlt (by decide)) hbd
   have q2 : Hid (m + 1 + 1 = (preK 5 f K kk 2 : Nat)) := by show _ = _; have := q1.out; omega
   clear h1 y1
   have e2 := ec 2 (by decide)
   have h2 := hx 2 (by decide)
   dsimp only at h2
   obtain ⟨x2, hd2⟩ := (show Has (f kk 2) .int from HR 2 (by decide)).int
   rw [hd2] at h2
   have y2 : C 2 = .int .i64 (m + 1 + 1) := by rw [q2.out]; exact h2.1
   rw [y2] at e2
   have hp_3 : preK 5 f K kk 3 = preK 5 f K kk 2 + 1 := by rw [preK_succ, hd2]; rfl
   have hb_3 : preK 5 f K kk 3 ≤ 1000000000 := Nat.le_trans (preK_le hlt (by decide)) hbd
   have q3 : Hid (m + 1 + 1 + 1 = (preK 5 f K kk 3 : Nat)) := by show _ = _; have := q2.out; omega
   clear h2 y2
   have e3 := ec 3 (by decide)
   have h3 := hx 3 (by decide)
   dsimp only at h3
   obtain ⟨x3, hd3⟩ := (show Has (f kk 3) .str from HR 3 (by decide)).str
   rw [hd3] at h3
   have y3 : C 3 = .string (markM (m + 1 + 1 + 1)) := by rw [q3.out]; exact h3.1
   rw [y3] at e3
   have hp_4 : preK 5 f K kk 4 = preK 5 f K kk 3 + 1 := by rw [preK_succ, hd3]; rfl
   have hb_4 : preK 5 f K kk 4 ≤ 1000000000 := Nat.le_trans (preK_le hlt (by decide)) hbd
   have q4 : Hid (m + 1 + 1 + 1 + 1 = (preK 5 f K kk 4 : Nat)) := by show _ = _; have := q3.out; omega
   clear h3 y3
   have e4 := ec 4 (by decide)
   have h4 := hx 4 (by decide)
   dsimp only at h4
   have H4 : Has (f kk 4) (.list 2) := HR 4 (by decide)
   have hp_5 : preK 5 f K kk 5 = preK 5 f K kk 4 + cntD (f kk 4) := preK_succ _ _ _ _ _
   have hb_5 : preK 5 f K kk 5 ≤ 1000000000 := Nat.le_trans (preK_le hlt (by decide)) hbd
   obtain ⟨ga4, gc4, hG4⟩ := held_shape H4 h4
   have q5 : Hid ((m + 1 + 1 + 1 + 1 + (cntD (f kk 4) : Nat)) = (preK 5 f K kk 5 : Nat)) := by show _ = _; have := q4.out; omega
   simp only [Nat.add_zero] at e0
   clear hx ec HR
   have HC : Hid (∀ W, Ext wr W → W.cell? ⟨b, off + kk * 5, none⟩ = some (.string (markM (m))) ∧ W.cell? ⟨b, off + kk * 5 + 1, none⟩ = some (.int .i64 (m + 1)) ∧ W.cell? ⟨b, off + kk * 5 + 2, none⟩ = some (.int .i64 (m + 1 + 1)) ∧ W.cell? ⟨b, off + kk * 5 + 3, none⟩ = some (.string (markM (m + 1 + 1 + 1))) ∧ W.cell? ⟨b, off + kk * 5 + 4, none⟩ = some (C 4)) := fun W hW => by
    rw [hW.cell hb, hW.cell hb, hW.cell hb, hW.cell hb, hW.cell hb]; exact ⟨e0, e1, e2, e3, e4⟩
   clear e0 e1 e2 e3 e4
   have hcur : Ext wr wr := Ext.refl _
   obtain ⟨e0, e1, e2, e3, e4⟩ := HC.out _ hcur
   go_wp2_with fail
   clear e0 e1 e2 e3 e4
   have HK : Hid (∀ W, Ext wr W → W.cell? ⟨b, off + kk * 5, none⟩ = some (.string (markM (m))) ∧ W.cell? ⟨b, off + kk * 5 + 1, none⟩ = some (.int .i64 (m + 1)) ∧ W.cell? ⟨b, off + kk * 5 + 2, none⟩ = some (.int .i64 (m + 1 + 1)) ∧ W.cell? ⟨b, off + kk * 5 + 3, none⟩ = some (.string (markM (m + 1 + 1 + 1))) ∧ W.cell? ⟨b, off + kk * 5 + 4, none⟩ = some (C 4)) := HC
   replace hcur := hcur.drew
   refine wp_region_held_drew (S := (fun W => W.cell? ⟨b, off + kk * 5, none⟩ = some (.string (markM (m))) ∧ W.cell? ⟨b, off + kk * 5 + 1, none⟩ = some (.int .i64 (m + 1)) ∧ W.cell? ⟨b, off + kk * 5 + 2, none⟩ = some (.int .i64 (m + 1 + 1)) ∧ W.cell? ⟨b, off + kk * 5 + 3, none⟩ = some (.string (markM (m + 1 + 1 + 1))) ∧ W.cell? ⟨b, off + kk * 5 + 4, none⟩ = some (C 4))) (by kernel_rfl) (HK.out _ hcur) (fun hHeld => ?_)
   refine tkL 0 ⟨some 12, .move (.tmp 0), 79, _, #[], none⟩ ?_ hHeld ?yyH00 ?rrH00
   case yyH00 => (intro w hSw; (try dsimp only at hSw); go_simp; try with_reducible rfl)
   try simp only [Act.put, putA, putB, putC]
   refine tkL 1 ⟨some 13, .move (.tmp 5), 3, _, #[], none⟩ ?_ hHeld ?yyH01 ?rrH01
   case yyH01 => (intro w hSw; (try dsimp only at hSw); go_simp; try with_reducible rfl)
   try simp only [Act.put, putA, putB, putC]
   refine tkL 2 ⟨some 14, .indexAddr 79 (.tmp 12) (.tmp 13), 0, _, #[⟨0, .data⟩, ⟨1, .data⟩], none⟩ ?_ hHeld ?yyH02 ?rrH02
   case yyH02 => (intro w hSw; (try dsimp only at hSw); go_simp; try with_reducible rfl)
   try simp only [Act.put, putA, putB, putC]
   refine tkL 3 ⟨some 15, .fieldAddr 127 (.tmp 14) 0, 0, _, #[⟨2, .data⟩], none⟩ ?_ hHeld ?yyH03 ?rrH03
   case yyH03 => (intro w hSw; (try dsimp only at hSw); go_simp; try with_reducible rfl)
   try simp only [Act.put, putA, putB, putC]
   refine tkL 4 ⟨some 16, .load 9 (.tmp 15), 9, _, #[⟨3, .data⟩], none⟩ ?_ hHeld ?yyH04 ?rrH04
   case yyH04 => (intro w hSw; (try dsimp only at hSw); go_simp; try with_reducible rfl)
   try simp only [Act.put, putA, putB, putC]
   refine tkL 5 ⟨some 17, .move (.tmp 1), 3, _, #[], none⟩ ?_ hHeld ?yyH05 ?rrH05
   case yyH05 => (intro w hSw; (try dsimp only at hSw); go_simp; try with_reducible rfl)
   try simp only [Act.put, putA, putB, putC]
   refine wpAnyH_ready (rs := [6]) (by kernel_rfl) (by simp) ?_
   refine AllReadyH.cons (o := ⟨some 18, .call { callee := .value (.func 68), args := #[.tmp 17], argTypes := #[3] }, 9, _, #[⟨5, .data⟩], none⟩) rfl (fun K hK => ?_) AllReadyH.nil
   go_simp
   refine (markText_mark _ _ (by omega) (by have := q0.out; omega)).mono ?_
   rintro e vs0 ⟨rfl, X0⟩
   replace hcur := hcur.trans X0
   go_wp2_with fail
   refine hK.out _ _ (HK.out _ hcur) (fun hHeld => ?_)
   clear hK K
   try simp only [Act.put, putA, putB, putC]
   refine tkL 7 ⟨some 19, .binOp .neq 9 (.tmp 16) (.tmp 18) 9, 4, _, #[⟨4, .data⟩, ⟨6, .data⟩], none⟩ ?_ hHeld ?yyH07 ?rrH07
   case yyH07 => (intro w hSw; (try dsimp only at hSw); go_simp; try with_reducible rfl)
   try simp only [Act.put, putA, putB, putC]
   refine wpAnyH_done (by kernel_rfl) ?_ _
   clear HK
   obtain ⟨e0, e1, e2, e3, e4⟩ := HC.out _ hcur
   go_wp2_with fail
   clear e0 e1 e2 e3 e4
   have HK : Hid (∀ W, Ext wr W → W.cell? ⟨b, off + kk * 5, none⟩ = some (.string (markM (m))) ∧ W.cell? ⟨b, off + kk * 5 + 1, none⟩ = some (.int .i64 (m + 1)) ∧ W.cell? ⟨b, off + kk * 5 + 2, none⟩ = some (.int .i64 (m + 1 + 1)) ∧ W.cell? ⟨b, off + kk * 5 + 3, none⟩ = some (.string (markM (m + 1 + 1 + 1))) ∧ W.cell? ⟨b, off + kk * 5 + 4, none⟩ = some (C 4)) := HC
   replace hcur := hcur.drew
   refine wp_region_held_drew (S := (fun W => W.cell? ⟨b, off + kk * 5, none⟩ = some (.string (markM (m))) ∧ W.cell? ⟨b, off + kk * 5 + 1, none⟩ = some (.int .i64 (m + 1)) ∧ W.cell? ⟨b, off + kk * 5 + 2, none⟩ = some (.int .i64 (m + 1 + 1)) ∧ W.cell? ⟨b, off + kk * 5 + 3, none⟩ = some (.string (markM (m + 1 + 1 + 1))) ∧ W.cell? ⟨b, off + kk * 5 + 4, none⟩ = some (C 4))) (by kernel_rfl) (HK.out _ hcur) (fun hHeld => ?_)
   refine tkL 0 ⟨some 42, .move (.tmp 0), 79, _, #[], none⟩ ?_ hHeld ?yyH10 ?rrH10
   case yyH10 => (intro w hSw; (try dsimp only at hSw); go_simp; try with_reducible rfl)
   try simp only [Act.put, putA, putB, putC]
   refine tkL 1 ⟨some 43, .move (.tmp 5), 3, _, #[], none⟩ ?_ hHeld ?yyH11 ?rrH11
   case yyH11 => (intro w hSw; (try dsimp only at hSw); go_simp; try with_reducible rfl)
   try simp only [Act.put, putA, putB, putC]
   refine tkL 2 ⟨some 44, .indexAddr 79 (.tmp 42) (.tmp 43), 0, _, #[⟨0, .data⟩, ⟨1, .data⟩], none⟩ ?_ hHeld ?yyH12 ?rrH12
   case yyH12 => (intro w hSw; (try dsimp only at hSw); go_simp; try with_reducible rfl)
   try simp only [Act.put, putA, putB, putC]
   refine tkL 3 ⟨some 45, .fieldAddr 127 (.tmp 44) 1, 0, _, #[⟨2, .data⟩], none⟩ ?_ hHeld ?yyH13 ?rrH13
   case yyH13 => (intro w hSw; (try dsimp only at hSw); go_simp; try with_reducible rfl)
   try simp only [Act.put, putA, putB, putC]
   refine tkL 4 ⟨some 46, .fieldAddr 40 (.tmp 45) 2, 0, _, #[⟨3, .data⟩], none⟩ ?_ hHeld ?yyH14 ?rrH14
   case yyH14 => (intro w hSw; (try dsimp only at hSw); go_simp; try with_reducible rfl)
   try simp only [Act.put, putA, putB, putC]
   refine tkL 5 ⟨some 47, .load 9 (.tmp 46), 9, _, #[⟨4, .data⟩], none⟩ ?_ hHeld ?yyH15 ?rrH15
   case yyH15 => (intro w hSw; (try dsimp only at hSw); go_simp; try with_reducible rfl)
   try simp only [Act.put, putA, putB, putC]
   refine tkL 6 ⟨some 48, .move (.tmp 1), 3, _, #[], none⟩ ?_ hHeld ?yyH16 ?rrH16
   case yyH16 => (intro w hSw; (try dsimp only at hSw); go_simp; try with_reducible rfl)
   try simp only [Act.put, putA, putB, putC]
   refine wpAnyH_ready (rs := [7]) (by kernel_rfl) (by simp) ?_
   refine AllReadyH.cons (o := ⟨some 49, .call { callee := .value (.func 68), args := #[.tmp 48], argTypes := #[3] }, 9, _, #[⟨6, .data⟩], none⟩) rfl (fun K hK => ?_) AllReadyH.nil
   go_simp
   refine (markText_mark _ _ (by omega) (by have := q3.out; omega)).mono ?_
   rintro e vs1 ⟨rfl, X1⟩
   replace hcur := hcur.trans X1
   go_wp2_with fail
   refine hK.out _ _ (HK.out _ hcur) (fun hHeld => ?_)
   clear hK K
   try simp only [Act.put, putA, putB, putC]
   refine tkL 8 ⟨some 50, .binOp .neq 9 (.tmp 47) (.tmp 49) 9, 4, _, #[⟨5, .data⟩, ⟨7, .data⟩], none⟩ ?_ hHeld ?yyH18 ?rrH18
   case yyH18 => (intro w hSw; (try dsimp only at hSw); go_simp; try with_reducible rfl)
   try simp only [Act.put, putA, putB, putC]
   refine wpAnyH_done (by kernel_rfl) ?_ _
   clear HK
   obtain ⟨e0, e1, e2, e3, e4⟩ := HC.out _ hcur
   have hcall4 := heldValueS_any (f kk 4) H4 S (C 4) _ (preK 5 f K kk 4) (m + 1 + 1 + 1 + 1) q4.out (h4.ext hcur) (by omega)
   rw [hG4] at hcall4 e4
   go_wp2_with fail
   refine hcall4.mono ?_
   rintro e vl4 ⟨rfl, XL4⟩
   replace hcur := hcur.trans XL4
   clear e0 e1 e2 e3 e4 hcall4
   obtain ⟨e0, e1, e2, e3, e4⟩ := HC.out _ hcur
   have nn4 : decide (m + 1 + 1 + 1 + 1 + (cntD (f kk 4) : Nat) < 0) = false := decide_eq_false (by omega)
   go_wp2
   go_roundw
   case rel => exact ⟨kk + 1, _, by omega, by go_num, rfl, by show _ = _; rw [preK_next]; exact q5.out, hE.trans hcur⟩
   case measure => simp [intOf]; omega
  ·
   have hkx : kk = len := by omega
   subst hkx
   have hend := preK_end 5 kk f K
   go_wp2
   go_ret
   exact ⟨ret_int (by have := hm.out; omega), hE⟩

theorem heldPropS_any (d : D) (H : Has d (.list 3)) : HlD 70 d := by
 obtain ⟨len, f, rfl, HRa⟩ := H.list
 exact heldPropS_list len f HRa

end Go.Proofs.YteijgejpenlgjaaGreat

/- What the laws' functions held.. answer: the marks are read back. -/
namespace Go.Proofs.YteijgejpenlgjaaGreat
open Go.RowKit Go.Deep

end Go.Proofs.YteijgejpenlgjaaGreat

/- What the laws' functions held.. answer: the marks are read back. -/
namespace Go.Proofs.YteijgejpenlgjaaGreat
open Go.RowKit Go.Deep

set_option maxRecDepth 100000 in
set_option maxHeartbeats 8000000 in
theorem heldNodeS_list (len : Nat) (f : Nat → Nat → D) (HRa : ∀ i, i < len → HasRow 4 (f i)) : HlD 35 (.list 3 len f) := by
 intro S v w K k hK hv hbd
 subst hK
 change DIn S w (.list 3 len fun i j => markD (f i j) (preK 3 f K i j)) v at hv
 obtain ⟨a, cap, rfl, hlen⟩ := hv.list_eq
 unfold maxLen at hlen
 go_enter Tryz.func35, Tryz.ntmps35
 go_wp2
 go_loopw [1, 5] (fun q i wr => ∃ (kk : Nat) (m : Int), kk ≤ len ∧ i = .int .i64 kk ∧ q = .int .i64 m ∧ Hid (m = (preK 3 f K kk 0 : Nat)) ∧ Ext w wr) (fun _ i _ => len - (intOf i).toNat)
 case atStart => exact ⟨0, _, Nat.zero_le _, rfl, rfl, (rfl : (K : Int) = (preK 3 f K 0 0 : Nat)), Ext.refl _⟩
 case round =>
  obtain ⟨kk, m, hk, rfl, rfl, hm, hE⟩ := hrel
  by_cases hlt : kk < len
  ·
   have HR := HRa kk hlt
   obtain ⟨cap2, b, off, C, hsl, _, hb, ec, hx⟩ := (hv.ext hE).at hlt
   cases hsl
   have hp_0 : preK 3 f K kk 0 ≤ 1000000000 := Nat.le_trans (preK_le hlt (by decide)) hbd
   have hm0 : 0 ≤ m := by have := hm.out; omega
   have hm1 : m ≤ 1000000000 := by have := hm.out; omega
   have q0 : Hid (m = (preK 3 f K kk 0 : Nat)) := hm
   have e0 := ec 0 (by decide)
   have h0 := hx 0 (by decide)
   dsimp only at h0
   obtain ⟨x0, hd0⟩ := (show Has (f kk 0) .int from HR 0 (by decide)).int
   rw [hd0] at h0
   have y0 : C 0 = .int .i64 (m) := by rw [q0.out]; exact h0.1
   rw [y0] at e0
   have hp_1 : preK 3 f K kk 1 = preK 3 f K kk 0 + 1 := by rw [preK_succ, hd0]; rfl
   have hb_1 : preK 3 f K kk 1 ≤ 1000000000 := Nat.le_trans (preK_le hlt (by decide)) hbd
   have q1 : Hid (m + 1 = (preK 3 f K kk 1 : Nat)) := by show _ = _; have := q0.out; omega
   clear h0 y0
   have e1 := ec 1 (by decide)
   have h1 := hx 1 (by decide)
   dsimp only at h1
   have H1 : Has (f kk 1) (.list 0) := HR 1 (by decide)
   have hp_2 : preK 3 f K kk 2 = preK 3 f K kk 1 + cntD (f kk 1) := preK_succ _ _ _ _ _
   have hb_2 : preK 3 f K kk 2 ≤ 1000000000 := Nat.le_trans (preK_le hlt (by decide)) hbd
   obtain ⟨ga1, gc1, hG1⟩ := held_shape H1 h1
   have q2 : Hid ((m + 1 + (cntD (f kk 1) : Nat)) = (preK 3 f K kk 2 : Nat)) := by show _ = _; have := q1.out; omega
   have e2 := ec 2 (by decide)
   have h2 := hx 2 (by decide)
   dsimp only at h2
   have H2 : Has (f kk 2) (.list 3) := HR 2 (by decide)
   have hp_3 : preK 3 f K kk 3 = preK 3 f K kk 2 + cntD (f kk 2) := preK_succ _ _ _ _ _
   have hb_3 : preK 3 f K kk 3 ≤ 1000000000 := Nat.le_trans (preK_le hlt (by decide)) hbd
   obtain ⟨ga2, gc2, hG2⟩ := held_shape H2 h2
   have q3 : Hid (((m + 1 + (cntD (f kk 1) : Nat)) + (cntD (f kk 2) : Nat)) = (preK 3 f K kk 3 : Nat)) := by show _ = _; have := q2.out; omega
   simp only [Nat.add_zero] at e0
   clear hx ec HR
   have HC : Hid (∀ W, Ext wr W → W.cell? ⟨b, off + kk * 3, none⟩ = some (.int .i64 (m)) ∧ W.cell? ⟨b, off + kk * 3 + 1, none⟩ = some (C 1) ∧ W.cell? ⟨b, off + kk * 3 + 2, none⟩ = some (C 2)) := fun W hW => by
    rw [hW.cell hb, hW.cell hb, hW.cell hb]; exact ⟨e0, e1, e2⟩
   clear e0 e1 e2
   have hcur : Ext wr wr := Ext.refl _
   obtain ⟨e0, e1, e2⟩ := HC.out _ hcur
   have hcall1 := heldStringS_any (f kk 1) H1 S (C 1) _ (preK 3 f K kk 1) (m + 1) q1.out (h1.ext hcur) (by omega)
   rw [hG1] at hcall1 e1
   go_wp2_with fail
   refine hcall1.mono ?_
   rintro e vl1 ⟨rfl, XL1⟩
   replace hcur := hcur.trans XL1
   clear e0 e1 e2 hcall1
   obtain ⟨e0, e1, e2⟩ := HC.out _ hcur
   have nn1 : decide (m + 1 + (cntD (f kk 1) : Nat) < 0) = false := decide_eq_false (by omega)
   have hcall2 := heldPropS_any (f kk 2) H2 S (C 2) _ (preK 3 f K kk 2) ((m + 1 + (cntD (f kk 1) : Nat))) q2.out (h2.ext hcur) (by omega)
   rw [hG2] at hcall2 e2
   go_wp2_with fail
   refine hcall2.mono ?_
   rintro e vl2 ⟨rfl, XL2⟩
   replace hcur := hcur.trans XL2
   clear e0 e1 e2 hcall2
   obtain ⟨e0, e1, e2⟩ := HC.out _ hcur
   have nn2 : decide ((m + 1 + (cntD (f kk 1) : Nat)) + (cntD (f kk 2) : Nat) < 0) = false := decide_eq_false (by omega)
   go_wp2
   go_roundw
   case rel => exact ⟨kk + 1, _, by omega, by go_num, rfl, by show _ = _; rw [preK_next]; exact q3.out, hE.trans hcur⟩
   case measure => simp [intOf]; omega
  ·
   have hkx : kk = len := by omega
   subst hkx
   have hend := preK_end 3 kk f K
   go_wp2
   go_ret
   exact ⟨ret_int (by have := hm.out; omega), hE⟩

theorem heldNodeS_any (d : D) (H : Has d (.list 4)) : HlD 35 d := by
 obtain ⟨len, f, rfl, HRa⟩ := H.list
 exact heldNodeS_list len f HRa

end Go.Proofs.YteijgejpenlgjaaGreat

/- What the laws' functions held.. answer: the marks are read back. -/
namespace Go.Proofs.YteijgejpenlgjaaGreat
open Go.RowKit Go.Deep

set_option maxRecDepth 100000 in
set_option maxHeartbeats 8000000 in
theorem heldEdgeS_list (len : Nat) (f : Nat → Nat → D) (HRa : ∀ i, i < len → HasRow 5 (f i)) : HlD 36 (.list 5 len f) := by
 intro S v w K k hK hv hbd
 subst hK
 change DIn S w (.list 5 len fun i j => markD (f i j) (preK 5 f K i j)) v at hv
 obtain ⟨a, cap, rfl, hlen⟩ := hv.list_eq
 unfold maxLen at hlen
 go_enter Tryz.func36, Tryz.ntmps36
 go_wp2
 go_loopw [1, 5] (fun q i wr => ∃ (kk : Nat) (m : Int), kk ≤ len ∧ i = .int .i64 kk ∧ q = .int .i64 m ∧ Hid (m = (preK 5 f K kk 0 : Nat)) ∧ Ext w wr) (fun _ i _ => len - (intOf i).toNat)
 case atStart => exact ⟨0, _, Nat.zero_le _, rfl, rfl, (rfl : (K : Int) = (preK 5 f K 0 0 : Nat)), Ext.refl _⟩
 case round =>
  obtain ⟨kk, m, hk, rfl, rfl, hm, hE⟩ := hrel
  by_cases hlt : kk < len
  ·
   have HR := HRa kk hlt
   obtain ⟨cap2, b, off, C, hsl, _, hb, ec, hx⟩ := (hv.ext hE).at hlt
   cases hsl
   have hp_0 : preK 5 f K kk 0 ≤ 1000000000 := Nat.le_trans (preK_le hlt (by decide)) hbd
   have hm0 : 0 ≤ m := by have := hm.out; omega
   have hm1 : m ≤ 1000000000 := by have := hm.out; omega
   have q0 : Hid (m = (preK 5 f K kk 0 : Nat)) := hm
   have e0 := ec 0 (by decide)
   have h0 := hx 0 (by decide)
   dsimp only at h0
   obtain ⟨x0, hd0⟩ := (show Has (f kk 0) .int from HR 0 (by decide)).int
   rw [hd0] at h0
   have y0 : C 0 = .int .i64 (m) := by rw [q0.out]; exact h0.1
   rw [y0] at e0
   have hp_1 : preK 5 f K kk 1 = preK 5 f K kk 0 + 1 := by rw [preK_succ, hd0]; rfl
   have hb_1 : preK 5 f K kk 1 ≤ 1000000000 := Nat.le_trans (preK_le hlt (by decide)) hbd
   have q1 : Hid (m + 1 = (preK 5 f K kk 1 : Nat)) := by show _ = _; have := q0.out; omega
   clear h0 y0
   have e1 := ec 1 (by decide)
   have h1 := hx 1 (by decide)
   dsimp only at h1
   obtain ⟨x1, hd1⟩ := (show Has (f kk 1) .str from HR 1 (by decide)).str
   rw [hd1] at h1
   have y1 : C 1 = .string (markM (m + 1)) := by rw [q1.out]; exact h1.1
   rw [y1] at e1
   have hp_2 : preK 5 f K kk 2 = preK 5 f K kk 1 + 1 := by rw [preK_succ, hd1]; rfl
   have hb_2 : preK 5 f K kk 2 ≤ 1000000000 := Nat.le_trans (preK_le hlt (by decide)) hbd
   have q2 : Hid (m + 1 + 1 = (preK 5 f K kk 2 : Nat)) := by show _ = _; have := q1.out; omega
   clear h1 y1
   have e2 := ec 2 (by decide)
   have h2 := hx 2 (by decide)
   dsimp only at h2
   obtain ⟨x2, hd2⟩ := (show Has (f kk 2) .int from HR 2 (by decide)).int
   rw [hd2] at h2
   have y2 : C 2 = .int .i64 (m + 1 + 1) := by rw [q2.out]; exact h2.1
   rw [y2] at e2
   have hp_3 : preK 5 f K kk 3 = preK 5 f K kk 2 + 1 := by rw [preK_succ, hd2]; rfl
   have hb_3 : preK 5 f K kk 3 ≤ 1000000000 := Nat.le_trans (preK_le hlt (by decide)) hbd
   have q3 : Hid (m + 1 + 1 + 1 = (preK 5 f K kk 3 : Nat)) := by show _ = _; have := q2.out; omega
   clear h2 y2
   have e3 := ec 3 (by decide)
   have h3 := hx 3 (by decide)
   dsimp only at h3
   obtain ⟨x3, hd3⟩ := (show Has (f kk 3) .int from HR 3 (by decide)).int
   rw [hd3] at h3
   have y3 : C 3 = .int .i64 (m + 1 + 1 + 1) := by rw [q3.out]; exact h3.1
   rw [y3] at e3
   have hp_4 : preK 5 f K kk 4 = preK 5 f K kk 3 + 1 := by rw [preK_succ, hd3]; rfl
   have hb_4 : preK 5 f K kk 4 ≤ 1000000000 := Nat.le_trans (preK_le hlt (by decide)) hbd
   have q4 : Hid (m + 1 + 1 + 1 + 1 = (preK 5 f K kk 4 : Nat)) := by show _ = _; have := q3.out; omega
   clear h3 y3
   have e4 := ec 4 (by decide)
   have h4 := hx 4 (by decide)
   dsimp only at h4
   have H4 : Has (f kk 4) (.list 3) := HR 4 (by decide)
   have hp_5 : preK 5 f K kk 5 = preK 5 f K kk 4 + cntD (f kk 4) := preK_succ _ _ _ _ _
   have hb_5 : preK 5 f K kk 5 ≤ 1000000000 := Nat.le_trans (preK_le hlt (by decide)) hbd
   obtain ⟨ga4, gc4, hG4⟩ := held_shape H4 h4
   have q5 : Hid ((m + 1 + 1 + 1 + 1 + (cntD (f kk 4) : Nat)) = (preK 5 f K kk 5 : Nat)) := by show _ = _; have := q4.out; omega
   simp only [Nat.add_zero] at e0
   clear hx ec HR
   have HC : Hid (∀ W, Ext wr W → W.cell? ⟨b, off + kk * 5, none⟩ = some (.int .i64 (m)) ∧ W.cell? ⟨b, off + kk * 5 + 1, none⟩ = some (.string (markM (m + 1))) ∧ W.cell? ⟨b, off + kk * 5 + 2, none⟩ = some (.int .i64 (m + 1 + 1)) ∧ W.cell? ⟨b, off + kk * 5 + 3, none⟩ = some (.int .i64 (m + 1 + 1 + 1)) ∧ W.cell? ⟨b, off + kk * 5 + 4, none⟩ = some (C 4)) := fun W hW => by
    rw [hW.cell hb, hW.cell hb, hW.cell hb, hW.cell hb, hW.cell hb]; exact ⟨e0, e1, e2, e3, e4⟩
   clear e0 e1 e2 e3 e4
   have hcur : Ext wr wr := Ext.refl _
   obtain ⟨e0, e1, e2, e3, e4⟩ := HC.out _ hcur
   go_wp2_with fail
   clear e0 e1 e2 e3 e4
   have HK : Hid (∀ W, Ext wr W → W.cell? ⟨b, off + kk * 5, none⟩ = some (.int .i64 (m)) ∧ W.cell? ⟨b, off + kk * 5 + 1, none⟩ = some (.string (markM (m + 1))) ∧ W.cell? ⟨b, off + kk * 5 + 2, none⟩ = some (.int .i64 (m + 1 + 1)) ∧ W.cell? ⟨b, off + kk * 5 + 3, none⟩ = some (.int .i64 (m + 1 + 1 + 1)) ∧ W.cell? ⟨b, off + kk * 5 + 4, none⟩ = some (C 4)) := HC
   replace hcur := hcur.drew
   refine wp_region_held_drew (S := (fun W => W.cell? ⟨b, off + kk * 5, none⟩ = some (.int .i64 (m)) ∧ W.cell? ⟨b, off + kk * 5 + 1, none⟩ = some (.string (markM (m + 1))) ∧ W.cell? ⟨b, off + kk * 5 + 2, none⟩ = some (.int .i64 (m + 1 + 1)) ∧ W.cell? ⟨b, off + kk * 5 + 3, none⟩ = some (.int .i64 (m + 1 + 1 + 1)) ∧ W.cell? ⟨b, off + kk * 5 + 4, none⟩ = some (C 4))) (by kernel_rfl) (HK.out _ hcur) (fun hHeld => ?_)
   refine tkL 0 ⟨some 21, .move (.tmp 0), 32, _, #[], none⟩ ?_ hHeld ?yyH00 ?rrH00
   case yyH00 => (intro w hSw; (try dsimp only at hSw); go_simp; try with_reducible rfl)
   try simp only [Act.put, putA, putB, putC]
   refine tkL 1 ⟨some 22, .move (.tmp 5), 3, _, #[], none⟩ ?_ hHeld ?yyH01 ?rrH01
   case yyH01 => (intro w hSw; (try dsimp only at hSw); go_simp; try with_reducible rfl)
   try simp only [Act.put, putA, putB, putC]
   refine tkL 2 ⟨some 23, .indexAddr 32 (.tmp 21) (.tmp 22), 0, _, #[⟨0, .data⟩, ⟨1, .data⟩], none⟩ ?_ hHeld ?yyH02 ?rrH02
   case yyH02 => (intro w hSw; (try dsimp only at hSw); go_simp; try with_reducible rfl)
   try simp only [Act.put, putA, putB, putC]
   refine tkL 3 ⟨some 24, .fieldAddr 86 (.tmp 23) 1, 0, _, #[⟨2, .data⟩], none⟩ ?_ hHeld ?yyH03 ?rrH03
   case yyH03 => (intro w hSw; (try dsimp only at hSw); go_simp; try with_reducible rfl)
   try simp only [Act.put, putA, putB, putC]
   refine tkL 4 ⟨some 25, .load 9 (.tmp 24), 9, _, #[⟨3, .data⟩], none⟩ ?_ hHeld ?yyH04 ?rrH04
   case yyH04 => (intro w hSw; (try dsimp only at hSw); go_simp; try with_reducible rfl)
   try simp only [Act.put, putA, putB, putC]
   refine tkL 5 ⟨some 26, .move (.tmp 1), 3, _, #[], none⟩ ?_ hHeld ?yyH05 ?rrH05
   case yyH05 => (intro w hSw; (try dsimp only at hSw); go_simp; try with_reducible rfl)
   try simp only [Act.put, putA, putB, putC]
   refine wpAnyH_ready (rs := [6]) (by kernel_rfl) (by simp) ?_
   refine AllReadyH.cons (o := ⟨some 27, .call { callee := .value (.func 68), args := #[.tmp 26], argTypes := #[3] }, 9, _, #[⟨5, .data⟩], none⟩) rfl (fun K hK => ?_) AllReadyH.nil
   go_simp
   refine (markText_mark _ _ (by omega) (by have := q1.out; omega)).mono ?_
   rintro e vs0 ⟨rfl, X0⟩
   replace hcur := hcur.trans X0
   go_wp2_with fail
   refine hK.out _ _ (HK.out _ hcur) (fun hHeld => ?_)
   clear hK K
   try simp only [Act.put, putA, putB, putC]
   refine tkL 7 ⟨some 28, .binOp .neq 9 (.tmp 25) (.tmp 27) 9, 4, _, #[⟨4, .data⟩, ⟨6, .data⟩], none⟩ ?_ hHeld ?yyH07 ?rrH07
   case yyH07 => (intro w hSw; (try dsimp only at hSw); go_simp; try with_reducible rfl)
   try simp only [Act.put, putA, putB, putC]
   refine wpAnyH_done (by kernel_rfl) ?_ _
   clear HK
   obtain ⟨e0, e1, e2, e3, e4⟩ := HC.out _ hcur
   have hcall4 := heldPropS_any (f kk 4) H4 S (C 4) _ (preK 5 f K kk 4) (m + 1 + 1 + 1 + 1) q4.out (h4.ext hcur) (by omega)
   rw [hG4] at hcall4 e4
   go_wp2_with fail
   refine hcall4.mono ?_
   rintro e vl4 ⟨rfl, XL4⟩
   replace hcur := hcur.trans XL4
   clear e0 e1 e2 e3 e4 hcall4
   obtain ⟨e0, e1, e2, e3, e4⟩ := HC.out _ hcur
   have nn4 : decide (m + 1 + 1 + 1 + 1 + (cntD (f kk 4) : Nat) < 0) = false := decide_eq_false (by omega)
   go_wp2
   go_roundw
   case rel => exact ⟨kk + 1, _, by omega, by go_num, rfl, by show _ = _; rw [preK_next]; exact q5.out, hE.trans hcur⟩
   case measure => simp [intOf]; omega
  ·
   have hkx : kk = len := by omega
   subst hkx
   have hend := preK_end 5 kk f K
   go_wp2
   go_ret
   exact ⟨ret_int (by have := hm.out; omega), hE⟩

theorem heldEdgeS_any (d : D) (H : Has d (.list 5)) : HlD 36 d := by
 obtain ⟨len, f, rfl, HRa⟩ := H.list
 exact heldEdgeS_list len f HRa

end Go.Proofs.YteijgejpenlgjaaGreat

/- What the laws' function heldGraph answers: the marks of both lists are read back. -/
namespace Go.Proofs.YteijgejpenlgjaaGreat
open Go.RowKit Go.Deep

set_option maxRecDepth 100000 in
set_option maxHeartbeats 1000000 in
theorem heldGraph_any (d0 d1 : D) (u0 u1 : Value) (x2 x3 : Int) (S0 S1 : Nat → Prop) (w : World) (K : Nat) (k : Int) (hK : k = K) (H0 : Has d0 (.list 4)) (H1 : Has d1 (.list 5)) (h0 : DIn S0 w (markD d0 K) u0) (h1 : DIn S1 w (markD d1 (K + cntD d0)) u1) (hb : K + cntD d0 + cntD d1 ≤ 1000000000) :
  Calls Tryz.prog 14 #[.agg #[u0, u1, .int .i64 x2, .int .i64 x3], .int .i64 k] w fun e w' => e = .returned (.int .i64 (k + cntD d0 + cntD d1)) ∧ Ext w w' := by
 have hE0 : Ext w (w.alloc (.cells #[u0, u1, .int .i64 x2, .int .i64 x3] 34)) := (Ext.refl _).alloc _
 have hc0 := heldNodeS_any d0 H0 S0 u0 _ K k hK (h0.ext hE0) (by omega)
 have hc1 := fun (W : World) (hW : Ext w W) (k' : Int) (hk : k' = ((K + cntD d0 : Nat) : Int)) => heldEdgeS_any d1 H1 S1 u1 W (K + cntD d0) k' hk (h1.ext hW) hb
 have HKK : Hid (k = K) := hK
 clear hK
 obtain ⟨a0, cap0, rfl⟩ := held_shape H0 h0
 obtain ⟨a1, cap1, rfl⟩ := held_shape H1 h1
 have hn0 : ¬ (k + (cntD d0 : Int)) < 0 := by have := HKK.out; omega
 have hn1 : ¬ (k + (cntD d0 : Int) + (cntD d1 : Int)) < 0 := by have := HKK.out; omega
 go_enter Tryz.func14, Tryz.ntmps14
 go_wp2_with fail
 refine hc0.mono ?_
 rintro e w1 ⟨rfl, hE1⟩
 have p1 := box_cell hE1 1 _ rfl
 clear hc0
 go_wp2_with fail
 refine (hc1 _ (hE0.trans hE1) _ (by have := HKK.out; omega)).mono ?_
 rintro e w2 ⟨rfl, hE2⟩
 go_wp2
 go_ret
 exact ⟨ret_int (by omega), (hE0.trans hE1).trans hE2⟩
end Go.Proofs.YteijgejpenlgjaaGreat
