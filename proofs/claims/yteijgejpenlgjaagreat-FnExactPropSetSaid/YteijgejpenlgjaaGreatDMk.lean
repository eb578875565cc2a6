/- What the laws' functions mark.. do: a list is marked, and its own memory alone turns. -/
import Derived.Test.YteijgejpenlgjaaGreatDMs
import Derived.Test.YteijgejpenlgjaaGreatDa
namespace Go.Proofs.YteijgejpenlgjaaGreat
open Go.RowKit Go.Deep

set_option maxRecDepth 100000 in
set_option maxHeartbeats 8000000 in
theorem markValueS_of (len : Nat) (f : Nat → Nat → D) (HRa : ∀ i, i < len → HasRow 2 (f i)) (hLO : LenOk (.list 4 len f)) (hS3 : ∀ i, i < len → MkD 34 (f i 3)) : MkD 34 (.list 4 len f) := by
 intro S v w K k hK hown hlen hbd
 subst hK
 change len ≤ maxLen at hlen
 have hlen' := hlen
 unfold maxLen at hlen
 by_cases h0 : len = 0
 ·
  have hnil := mark_nil hown h0 K
  obtain ⟨a, cap, rfl⟩ := own_len hown
  subst h0
  go_enter Tryz.func34, Tryz.ntmps34
  go_wp2
  go_loopw [1, 5] (fun q i wr => q = .int .i64 (K : Int) ∧ i = .int .i64 0 ∧ wr = w) (fun _ _ _ => 0)
  case atStart => exact ⟨rfl, rfl, rfl⟩
  case round =>
   obtain ⟨rfl, rfl, rfl⟩ := hrel
   go_wp2
   go_ret
   exact ⟨ret_int (by simp [cntD, sumN]), OnlyS.refl _ _, hnil⟩
 obtain ⟨cap, b, off, P, G, rfl, o, hM0⟩ := MSt.start hown (by omega) K
 go_enter Tryz.func34, Tryz.ntmps34
 go_wp2
 go_loopw [1, 5] (fun q i wr => ∃ (kk : Nat) (m : Int), kk ≤ len ∧ i = .int .i64 kk ∧ q = .int .i64 m ∧ Hid (m = (preK 4 f K kk 0 : Nat)) ∧ MSt S b off 4 len f P G K w wr kk 0) (fun _ i _ => len - (intOf i).toNat)
 case atStart => exact ⟨0, _, Nat.zero_le _, rfl, rfl, (rfl : (K : Int) = (preK 4 f K 0 0 : Nat)), hM0⟩
 case round =>
  obtain ⟨kk, m, hk, rfl, rfl, hm, hM⟩ := hrel
  by_cases hlt : kk < len
  ·
   have HR := HRa kk hlt
   have hp_0 : preK 4 f K kk 0 ≤ 1000000000 := Nat.le_trans (preK_le hlt (by decide)) hbd
   have hm0 : 0 ≤ m := by have := hm.out; omega
   have hm1 : m ≤ 1000000000 := by have := hm.out; omega
   have q0 : Hid (m = (preK 4 f K kk 0 : Nat)) := hm
   have hT3 := hS3 kk hlt
   clear hS3
   have hM_0 := hM
   clear hM
   obtain ⟨x0, hd0⟩ := (show Has (f kk 0) .int from HR 0 (by decide)).int
   have hp_1 : preK 4 f K kk 1 = preK 4 f K kk 0 + 1 := by rw [preK_succ, hd0]; rfl
   have hb_1 : preK 4 f K kk 1 ≤ 1000000000 := Nat.le_trans (preK_le hlt (by decide)) hbd
   have q1 : Hid (m + 1 = (preK 4 f K kk 1 : Nat)) := by show _ = _; have := q0.out; omega
   have z0 : wr.cell? ⟨b, off + kk * 4, none⟩ = some (G kk 0) := by have := hM_0.row kk hlt 0 (by decide); rw [show bef kk 0 kk 0 = false by simp [bef]] at this; simpa using this
   have fz0 : wr.frozen? ⟨b, off + kk * 4, none⟩ = false := hM_0.frz _
   have hM_1 := hM_0.scal o hlt (by decide) (fun W => by rw [hd0]; exact mk_int (by omega))
   rw [show mkCell (f kk 0) (preK 4 f K kk 0) (G kk 0) = .int .i64 (m) by rw [hd0, q0.out]; rfl] at hM_1
   obtain ⟨x1, hd1⟩ := (show Has (f kk 1) .int from HR 1 (by decide)).int
   have hp_2 : preK 4 f K kk 2 = preK 4 f K kk 1 + 1 := by rw [preK_succ, hd1]; rfl
   have hb_2 : preK 4 f K kk 2 ≤ 1000000000 := Nat.le_trans (preK_le hlt (by decide)) hbd
   have q2 : Hid (m + 1 + 1 = (preK 4 f K kk 2 : Nat)) := by show _ = _; have := q1.out; omega
   have z1 : wr.cell? ⟨b, off + kk * 4 + 1, none⟩ = some (G kk 1) := by have := hM_0.row kk hlt 1 (by decide); rw [show bef kk 1 kk 0 = false by simp [bef]] at this; simpa using this
   have fz1 : wr.frozen? ⟨b, off + kk * 4 + 1, none⟩ = false := hM_0.frz _
   have hM_2 := hM_1.scal o hlt (by decide) (fun W => by rw [hd1]; exact mk_int (by omega))
   rw [show mkCell (f kk 1) (preK 4 f K kk 1) (G kk 1) = .int .i64 (m + 1) by rw [hd1, q1.out]; rfl] at hM_2
   obtain ⟨x2, hd2⟩ := (show Has (f kk 2) .str from HR 2 (by decide)).str
   have hp_3 : preK 4 f K kk 3 = preK 4 f K kk 2 + 1 := by rw [preK_succ, hd2]; rfl
   have hb_3 : preK 4 f K kk 3 ≤ 1000000000 := Nat.le_trans (preK_le hlt (by decide)) hbd
   have q3 : Hid (m + 1 + 1 + 1 = (preK 4 f K kk 3 : Nat)) := by show _ = _; have := q2.out; omega
   go_wp2_with fail
   refine (markText_mark _ _ (by omega) (by have := q2.out; omega)).mono ?_
   rintro e v1 ⟨rfl, X1⟩
   have hM_2b := hM_2.ext X1
   have z2 : v1.cell? ⟨b, off + kk * 4 + 2, none⟩ = some (G kk 2) := by have := hM_2b.row kk hlt 2 (by decide); rw [show bef kk 2 kk 2 = false by simp [bef]] at this; simpa using this
   have fz2 : v1.frozen? ⟨b, off + kk * 4 + 2, none⟩ = false := hM_2b.frz _
   have hM_3 := hM_2b.scal o hlt (by decide) (fun W => by rw [hd2]; exact mk_str (by omega))
   rw [show mkCell (f kk 2) (preK 4 f K kk 2) (G kk 2) = .string (markM (m + 1 + 1)) by rw [hd2, q2.out]; rfl] at hM_3
   have H3 : Has (f kk 3) (.list 2) := HR 3 (by decide)
   have hp_4 : preK 4 f K kk 4 = preK 4 f K kk 3 + cntD (f kk 3) := preK_succ _ _ _ _ _
   have hb_4 : preK 4 f K kk 4 ≤ 1000000000 := Nat.le_trans (preK_le hlt (by decide)) hbd
   have z3 : v1.cell? ⟨b, off + kk * 4 + 3, none⟩ = some (G kk 3) := by have := hM_2b.row kk hlt 3 (by decide); rw [show bef kk 3 kk 2 = false by simp [bef]] at this; simpa using this
   have fz3 : v1.frozen? ⟨b, off + kk * 4 + 3, none⟩ = false := hM_2b.frz _
   have ow3 := hM_3.fut kk hlt 3 (by decide) bef_self
   have hcall3 := hT3 (P kk 3) (G kk 3) _ (preK 4 f K kk 3) (m + 1 + 1 + 1) q3.out ow3 (hLO.2 kk hlt 3 (by decide)).len (by omega)
   obtain ⟨ga3, gc3, hG3⟩ := own_shape H3 ow3
   rw [hG3] at z3 hcall3
   go_wp2_with fail
   refine hcall3.mono ?_
   rintro e v2 ⟨rfl, X2, Y2⟩
   rw [← hG3] at Y2
   have hM_4 := hM_3.lst o hlt (by decide) (mkCell_list H3 _ _) X2 Y2
   clear hcall3
   have q4 : Hid ((m + 1 + 1 + 1 + (cntD (f kk 3) : Nat)) = (preK 4 f K kk 4 : Nat)) := by show _ = _; have := q3.out; omega
   go_wp2
   go_roundw
   case rel => exact ⟨kk + 1, _, by omega, by go_num, rfl, by show _ = _; rw [preK_next]; exact q4.out, hM_4.next⟩
   case measure => simp [intOf]; omega
  ·
   have hkx : kk = len := by omega
   subst hkx
   clear hS3
   have hend := preK_end 4 kk f K
   go_wp2
   go_ret
   exact ⟨ret_int (by have := hm.out; omega), hM.only, hM.fin o hlen' _⟩

theorem markValueS_any (d : D) (H : Has d (.list 2)) (hL : LenOk d) : MkD 34 d := by
 induction d with
 | list n len f ih =>
  obtain ⟨r, h1, rfl, h3⟩ := H
  cases h1
  exact markValueS_of len f (fun i hi j hj => h3 i hi j hj) hL (fun i hi => ih i 3 (h3 i hi 3 (by decide)) (hL.2 i hi 3 (by decide)))
 | int _ => cases H
 | bool _ => cases H
 | str _ => cases H

end Go.Proofs.YteijgejpenlgjaaGreat

/- What the laws' functions mark.. do: a list is marked, and its own memory alone turns. -/
namespace Go.Proofs.YteijgejpenlgjaaGreat
open Go.RowKit Go.Deep

set_option maxRecDepth 100000 in
set_option maxHeartbeats 8000000 in
theorem markPropS_list (len : Nat) (f : Nat → Nat → D) (HRa : ∀ i, i < len → HasRow 3 (f i)) (hLO : LenOk (.list 5 len f)) : MkD 67 (.list 5 len f) := by
 intro S v w K k hK hown hlen hbd
 subst hK
 change len ≤ maxLen at hlen
 have hlen' := hlen
 unfold maxLen at hlen
 by_cases h0 : len = 0
 ·
  have hnil := mark_nil hown h0 K
  obtain ⟨a, cap, rfl⟩ := own_len hown
  subst h0
  go_enter Tryz.func67, Tryz.ntmps67
  go_wp2
  go_loopw [1, 5] (fun q i wr => q = .int .i64 (K : Int) ∧ i = .int .i64 0 ∧ wr = w) (fun _ _ _ => 0)
  case atStart => exact ⟨rfl, rfl, rfl⟩
  case round =>
   obtain ⟨rfl, rfl, rfl⟩ := hrel
   go_wp2
   go_ret
   exact ⟨ret_int (by simp [cntD, sumN]), OnlyS.refl _ _, hnil⟩
 obtain ⟨cap, b, off, P, G, rfl, o, hM0⟩ := MSt.start hown (by omega) K
 go_enter Tryz.func67, Tryz.ntmps67
 go_wp2
 go_loopw [1, 5] (fun q i wr => ∃ (kk : Nat) (m : Int), kk ≤ len ∧ i = .int .i64 kk ∧ q = .int .i64 m ∧ Hid (m = (preK 5 f K kk 0 : Nat)) ∧ MSt S b off 5 len f P G K w wr kk 0) (fun _ i _ => len - (intOf i).toNat)
 case atStart => exact ⟨0, _, Nat.zero_le _, rfl, rfl, (rfl : (K : Int) = (preK 5 f K 0 0 : Nat)), hM0⟩
 case round =>
  obtain ⟨kk, m, hk, rfl, rfl, hm, hM⟩ := hrel
  by_cases hlt : kk < len
  ·
   have HR := HRa kk hlt
   have hp_0 : preK 5 f K kk 0 ≤ 1000000000 := Nat.le_trans (preK_le hlt (by decide)) hbd
   have hm0 : 0 ≤ m := by have := hm.out; omega
   have hm1 : m ≤ 1000000000 := by have := hm.out; omega
   have q0 : Hid (m = (preK 5 f K kk 0 : Nat)) := hm
   have hM_0 := hM
   clear hM
   obtain ⟨x0, hd0⟩ := (show Has (f kk 0) .str from HR 0 (by decide)).str
   have hp_1 : preK 5 f K kk 1 = preK 5 f K kk 0 + 1 := by rw [preK_succ, hd0]; rfl
   have hb_1 : preK 5 f K kk 1 ≤ 1000000000 := Nat.le_trans (preK_le hlt (by decide)) hbd
   have q1 : Hid (m + 1 = (preK 5 f K kk 1 : Nat)) := by show _ = _; have := q0.out; omega
   go_wp2_with fail
   refine (markText_mark _ _ (by omega) (by have := q0.out; omega)).mono ?_
   rintro e v1 ⟨rfl, X1⟩
   have hM_0b := hM_0.ext X1
   have z0 : v1.cell? ⟨b, off + kk * 5, none⟩ = some (G kk 0) := by have := hM_0b.row kk hlt 0 (by decide); rw [show bef kk 0 kk 0 = false by simp [bef]] at this; simpa using this
   have fz0 : v1.frozen? ⟨b, off + kk * 5, none⟩ = false := hM_0b.frz _
   have hM_1 := hM_0b.scal o hlt (by decide) (fun W => by rw [hd0]; exact mk_str (by omega))
   rw [show mkCell (f kk 0) (preK 5 f K kk 0) (G kk 0) = .string (markM (m)) by rw [hd0, q0.out]; rfl] at hM_1
   obtain ⟨x1, hd1⟩ := (show Has (f kk 1) .int from HR 1 (by decide)).int
   have hp_2 : preK 5 f K kk 2 = preK 5 f K kk 1 + 1 := by rw [preK_succ, hd1]; rfl
   have hb_2 : preK 5 f K kk 2 ≤ 1000000000 := Nat.le_trans (preK_le hlt (by decide)) hbd
   have q2 : Hid (m + 1 + 1 = (preK 5 f K kk 2 : Nat)) := by show _ = _; have := q1.out; omega
   have z1 : v1.cell? ⟨b, off + kk * 5 + 1, none⟩ = some (G kk 1) := by have := hM_0b.row kk hlt 1 (by decide); rw [show bef kk 1 kk 0 = false by simp [bef]] at this; simpa using this
   have fz1 : v1.frozen? ⟨b, off + kk * 5 + 1, none⟩ = false := hM_0b.frz _
   have hM_2 := hM_1.scal o hlt (by decide) (fun W => by rw [hd1]; exact mk_int (by omega))
   rw [show mkCell (f kk 1) (preK 5 f K kk 1) (G kk 1) = .int .i64 (m + 1) by rw [hd1, q1.out]; rfl] at hM_2
   obtain ⟨x2, hd2⟩ := (show Has (f kk 2) .int from HR 2 (by decide)).int
   have hp_3 : preK 5 f K kk 3 = preK 5 f K kk 2 + 1 := by rw [preK_succ, hd2]; rfl
   have hb_3 : preK 5 f K kk 3 ≤ 1000000000 := Nat.le_trans (preK_le hlt (by decide)) hbd
   have q3 : Hid (m + 1 + 1 + 1 = (preK 5 f K kk 3 : Nat)) := by show _ = _; have := q2.out; omega
   have z2 : v1.cell? ⟨b, off + kk * 5 + 2, none⟩ = some (G kk 2) := by have := hM_0b.row kk hlt 2 (by decide); rw [show bef kk 2 kk 0 = false by simp [bef]] at this; simpa using this
   have fz2 : v1.frozen? ⟨b, off + kk * 5 + 2, none⟩ = false := hM_0b.frz _
   have hM_3 := hM_2.scal o hlt (by decide) (fun W => by rw [hd2]; exact mk_int (by omega))
   rw [show mkCell (f kk 2) (preK 5 f K kk 2) (G kk 2) = .int .i64 (m + 1 + 1) by rw [hd2, q2.out]; rfl] at hM_3
   obtain ⟨x3, hd3⟩ := (show Has (f kk 3) .str from HR 3 (by decide)).str
   have hp_4 : preK 5 f K kk 4 = preK 5 f K kk 3 + 1 := by rw [preK_succ, hd3]; rfl
   have hb_4 : preK 5 f K kk 4 ≤ 1000000000 := Nat.le_trans (preK_le hlt (by decide)) hbd
   have q4 : Hid (m + 1 + 1 + 1 + 1 = (preK 5 f K kk 4 : Nat)) := by show _ = _; have := q3.out; omega
   go_wp2_with fail
   refine (markText_mark _ _ (by omega) (by have := q3.out; omega)).mono ?_
   rintro e v2 ⟨rfl, X2⟩
   have hM_3b := hM_3.ext X2
   have z3 : v2.cell? ⟨b, off + kk * 5 + 3, none⟩ = some (G kk 3) := by have := hM_3b.row kk hlt 3 (by decide); rw [show bef kk 3 kk 3 = false by simp [bef]] at this; simpa using this
   have fz3 : v2.frozen? ⟨b, off + kk * 5 + 3, none⟩ = false := hM_3b.frz _
   have hM_4 := hM_3b.scal o hlt (by decide) (fun W => by rw [hd3]; exact mk_str (by omega))
   rw [show mkCell (f kk 3) (preK 5 f K kk 3) (G kk 3) = .string (markM (m + 1 + 1 + 1)) by rw [hd3, q3.out]; rfl] at hM_4
   have H4 : Has (f kk 4) (.list 2) := HR 4 (by decide)
   have hp_5 : preK 5 f K kk 5 = preK 5 f K kk 4 + cntD (f kk 4) := preK_succ _ _ _ _ _
   have hb_5 : preK 5 f K kk 5 ≤ 1000000000 := Nat.le_trans (preK_le hlt (by decide)) hbd
   have z4 : v2.cell? ⟨b, off + kk * 5 + 4, none⟩ = some (G kk 4) := by have := hM_3b.row kk hlt 4 (by decide); rw [show bef kk 4 kk 3 = false by simp [bef]] at this; simpa using this
   have fz4 : v2.frozen? ⟨b, off + kk * 5 + 4, none⟩ = false := hM_3b.frz _
   have ow4 := hM_4.fut kk hlt 4 (by decide) bef_self
   have hcall4 := markValueS_any (f kk 4) H4 (hLO.2 kk hlt 4 (by decide)) (P kk 4) (G kk 4) _ (preK 5 f K kk 4) (m + 1 + 1 + 1 + 1) q4.out ow4 (hLO.2 kk hlt 4 (by decide)).len (by omega)
   obtain ⟨ga4, gc4, hG4⟩ := own_shape H4 ow4
   rw [hG4] at z4 hcall4
   go_wp2_with fail
   refine hcall4.mono ?_
   rintro e v3 ⟨rfl, X3, Y3⟩
   rw [← hG4] at Y3
   have hM_5 := hM_4.lst o hlt (by decide) (mkCell_list H4 _ _) X3 Y3
   clear hcall4
   have q5 : Hid ((m + 1 + 1 + 1 + 1 + (cntD (f kk 4) : Nat)) = (preK 5 f K kk 5 : Nat)) := by show _ = _; have := q4.out; omega
   go_wp2
   go_roundw
   case rel => exact ⟨kk + 1, _, by omega, by go_num, rfl, by show _ = _; rw [preK_next]; exact q5.out, hM_5.next⟩
   case measure => simp [intOf]; omega
  ·
   have hkx : kk = len := by omega
   subst hkx
   have hend := preK_end 5 kk f K
   go_wp2
   go_ret
   exact ⟨ret_int (by have := hm.out; omega), hM.only, hM.fin o hlen' _⟩

theorem markPropS_any (d : D) (H : Has d (.list 3)) (hL : LenOk d) : MkD 67 d := by
 obtain ⟨len, f, rfl, HRa⟩ := H.list
 exact markPropS_list len f HRa hL

end Go.Proofs.YteijgejpenlgjaaGreat

/- What the laws' functions mark.. do: a list is marked, and its own memory alone turns. -/
namespace Go.Proofs.YteijgejpenlgjaaGreat
open Go.RowKit Go.Deep

end Go.Proofs.YteijgejpenlgjaaGreat

/- What the laws' functions mark.. do: a list is marked, and its own memory alone turns. -/
namespace Go.Proofs.YteijgejpenlgjaaGreat
open Go.RowKit Go.Deep

set_option maxRecDepth 100000 in
set_option maxHeartbeats 8000000 in
theorem markNodeS_list (len : Nat) (f : Nat → Nat → D) (HRa : ∀ i, i < len → HasRow 4 (f i)) (hLO : LenOk (.list 3 len f)) : MkD 32 (.list 3 len f) := by
 intro S v w K k hK hown hlen hbd
 subst hK
 change len ≤ maxLen at hlen
 have hlen' := hlen
 unfold maxLen at hlen
 by_cases h0 : len = 0
 ·
  have hnil := mark_nil hown h0 K
  obtain ⟨a, cap, rfl⟩ := own_len hown
  subst h0
  go_enter Tryz.func32, Tryz.ntmps32
  go_wp2
  go_loopw [1, 5] (fun q i wr => q = .int .i64 (K : Int) ∧ i = .int .i64 0 ∧ wr = w) (fun _ _ _ => 0)
  case atStart => exact ⟨rfl, rfl, rfl⟩
  case round =>
   obtain ⟨rfl, rfl, rfl⟩ := hrel
   go_wp2
   go_ret
   exact ⟨ret_int (by simp [cntD, sumN]), OnlyS.refl _ _, hnil⟩
 obtain ⟨cap, b, off, P, G, rfl, o, hM0⟩ := MSt.start hown (by omega) K
 go_enter Tryz.func32, Tryz.ntmps32
 go_wp2
 go_loopw [1, 5] (fun q i wr => ∃ (kk : Nat) (m : Int), kk ≤ len ∧ i = .int .i64 kk ∧ q = .int .i64 m ∧ Hid (m = (preK 3 f K kk 0 : Nat)) ∧ MSt S b off 3 len f P G K w wr kk 0) (fun _ i _ => len - (intOf i).toNat)
 case atStart => exact ⟨0, _, Nat.zero_le _, rfl, rfl, (rfl : (K : Int) = (preK 3 f K 0 0 : Nat)), hM0⟩
 case round =>
  obtain ⟨kk, m, hk, rfl, rfl, hm, hM⟩ := hrel
  by_cases hlt : kk < len
  ·
   have HR := HRa kk hlt
   have hp_0 : preK 3 f K kk 0 ≤ 1000000000 := Nat.le_trans (preK_le hlt (by decide)) hbd
   have hm0 : 0 ≤ m := by have := hm.out; omega
   have hm1 : m ≤ 1000000000 := by have := hm.out; omega
   have q0 : Hid (m = (preK 3 f K kk 0 : Nat)) := hm
   have hM_0 := hM
   clear hM
   obtain ⟨x0, hd0⟩ := (show Has (f kk 0) .int from HR 0 (by decide)).int
   have hp_1 : preK 3 f K kk 1 = preK 3 f K kk 0 + 1 := by rw [preK_succ, hd0]; rfl
   have hb_1 : preK 3 f K kk 1 ≤ 1000000000 := Nat.le_trans (preK_le hlt (by decide)) hbd
   have q1 : Hid (m + 1 = (preK 3 f K kk 1 : Nat)) := by show _ = _; have := q0.out; omega
   have z0 : wr.cell? ⟨b, off + kk * 3, none⟩ = some (G kk 0) := by have := hM_0.row kk hlt 0 (by decide); rw [show bef kk 0 kk 0 = false by simp [bef]] at this; simpa using this
   have fz0 : wr.frozen? ⟨b, off + kk * 3, none⟩ = false := hM_0.frz _
   have hM_1 := hM_0.scal o hlt (by decide) (fun W => by rw [hd0]; exact mk_int (by omega))
   rw [show mkCell (f kk 0) (preK 3 f K kk 0) (G kk 0) = .int .i64 (m) by rw [hd0, q0.out]; rfl] at hM_1
   have H1 : Has (f kk 1) (.list 0) := HR 1 (by decide)
   have hp_2 : preK 3 f K kk 2 = preK 3 f K kk 1 + cntD (f kk 1) := preK_succ _ _ _ _ _
   have hb_2 : preK 3 f K kk 2 ≤ 1000000000 := Nat.le_trans (preK_le hlt (by decide)) hbd
   have z1 : wr.cell? ⟨b, off + kk * 3 + 1, none⟩ = some (G kk 1) := by have := hM_0.row kk hlt 1 (by decide); rw [show bef kk 1 kk 0 = false by simp [bef]] at this; simpa using this
   have fz1 : wr.frozen? ⟨b, off + kk * 3 + 1, none⟩ = false := hM_0.frz _
   have ow1 := hM_1.fut kk hlt 1 (by decide) bef_self
   have hcall1 := markStringS_any (f kk 1) H1 (hLO.2 kk hlt 1 (by decide)) (P kk 1) (G kk 1) _ (preK 3 f K kk 1) (m + 1) q1.out ow1 (hLO.2 kk hlt 1 (by decide)).len (by omega)
   obtain ⟨ga1, gc1, hG1⟩ := own_shape H1 ow1
   rw [hG1] at z1 hcall1
   go_wp2_with fail
   refine hcall1.mono ?_
   rintro e v1 ⟨rfl, X1, Y1⟩
   rw [← hG1] at Y1
   have hM_2 := hM_1.lst o hlt (by decide) (mkCell_list H1 _ _) X1 Y1
   clear hcall1
   have q2 : Hid ((m + 1 + (cntD (f kk 1) : Nat)) = (preK 3 f K kk 2 : Nat)) := by show _ = _; have := q1.out; omega
   have H2 : Has (f kk 2) (.list 3) := HR 2 (by decide)
   have hp_3 : preK 3 f K kk 3 = preK 3 f K kk 2 + cntD (f kk 2) := preK_succ _ _ _ _ _
   have hb_3 : preK 3 f K kk 3 ≤ 1000000000 := Nat.le_trans (preK_le hlt (by decide)) hbd
   have z2 : v1.cell? ⟨b, off + kk * 3 + 2, none⟩ = some (G kk 2) := by have := hM_2.row kk hlt 2 (by decide); rw [show bef kk 2 kk 2 = false by simp [bef]] at this; simpa using this
   have fz2 : v1.frozen? ⟨b, off + kk * 3 + 2, none⟩ = false := hM_2.frz _
   have ow2 := hM_2.fut kk hlt 2 (by decide) bef_self
   have hcall2 := markPropS_any (f kk 2) H2 (hLO.2 kk hlt 2 (by decide)) (P kk 2) (G kk 2) _ (preK 3 f K kk 2) ((m + 1 + (cntD (f kk 1) : Nat))) q2.out ow2 (hLO.2 kk hlt 2 (by decide)).len (by omega)
   obtain ⟨ga2, gc2, hG2⟩ := own_shape H2 ow2
   rw [hG2] at z2 hcall2
   go_wp2_with fail
   refine hcall2.mono ?_
   rintro e v2 ⟨rfl, X2, Y2⟩
   rw [← hG2] at Y2
   have hM_3 := hM_2.lst o hlt (by decide) (mkCell_list H2 _ _) X2 Y2
   clear hcall2
   have q3 : Hid (((m + 1 + (cntD (f kk 1) : Nat)) + (cntD (f kk 2) : Nat)) = (preK 3 f K kk 3 : Nat)) := by show _ = _; have := q2.out; omega
   go_wp2
   go_roundw
   case rel => exact ⟨kk + 1, _, by omega, by go_num, rfl, by show _ = _; rw [preK_next]; exact q3.out, hM_3.next⟩
   case measure => simp [intOf]; omega
  ·
   have hkx : kk = len := by omega
   subst hkx
   have hend := preK_end 3 kk f K
   go_wp2
   go_ret
   exact ⟨ret_int (by have := hm.out; omega), hM.only, hM.fin o hlen' _⟩

theorem markNodeS_any (d : D) (H : Has d (.list 4)) (hL : LenOk d) : MkD 32 d := by
 obtain ⟨len, f, rfl, HRa⟩ := H.list
 exact markNodeS_list len f HRa hL

end Go.Proofs.YteijgejpenlgjaaGreat

/- What the laws' functions mark.. do: a list is marked, and its own memory alone turns. -/
namespace Go.Proofs.YteijgejpenlgjaaGreat
open Go.RowKit Go.Deep

set_option maxRecDepth 100000 in
set_option maxHeartbeats 8000000 in
theorem markEdgeS_list (len : Nat) (f : Nat → Nat → D) (HRa : ∀ i, i < len → HasRow 5 (f i)) (hLO : LenOk (.list 5 len f)) : MkD 33 (.list 5 len f) := by
 intro S v w K k hK hown hlen hbd
 subst hK
 change len ≤ maxLen at hlen
 have hlen' := hlen
 unfold maxLen at hlen
 by_cases h0 : len = 0
 ·
  have hnil := mark_nil hown h0 K
  obtain ⟨a, cap, rfl⟩ := own_len hown
  subst h0
  go_enter Tryz.func33, Tryz.ntmps33
  go_wp2
  go_loopw [1, 5] (fun q i wr => q = .int .i64 (K : Int) ∧ i = .int .i64 0 ∧ wr = w) (fun _ _ _ => 0)
  case atStart => exact ⟨rfl, rfl, rfl⟩
  case round =>
   obtain ⟨rfl, rfl, rfl⟩ := hrel
   go_wp2
   go_ret
   exact ⟨ret_int (by simp [cntD, sumN]), OnlyS.refl _ _, hnil⟩
 obtain ⟨cap, b, off, P, G, rfl, o, hM0⟩ := MSt.start hown (by omega) K
 go_enter Tryz.func33, Tryz.ntmps33
 go_wp2
 go_loopw [1, 5] (fun q i wr => ∃ (kk : Nat) (m : Int), kk ≤ len ∧ i = .int .i64 kk ∧ q = .int .i64 m ∧ Hid (m = (preK 5 f K kk 0 : Nat)) ∧ MSt S b off 5 len f P G K w wr kk 0) (fun _ i _ => len - (intOf i).toNat)
 case atStart => exact ⟨0, _, Nat.zero_le _, rfl, rfl, (rfl : (K : Int) = (preK 5 f K 0 0 : Nat)), hM0⟩
 case round =>
  obtain ⟨kk, m, hk, rfl, rfl, hm, hM⟩ := hrel
  by_cases hlt : kk < len
  ·
   have HR := HRa kk hlt
   have hp_0 : preK 5 f K kk 0 ≤ 1000000000 := Nat.le_trans (preK_le hlt (by decide)) hbd
   have hm0 : 0 ≤ m := by have := hm.out; omega
   have hm1 : m ≤ 1000000000 := by have := hm.out; omega
   have q0 : Hid (m = (preK 5 f K kk 0 : Nat)) := hm
   have hM_0 := hM
   clear hM
   obtain ⟨x0, hd0⟩ := (show Has (f kk 0) .int from HR 0 (by decide)).int
   have hp_1 : preK 5 f K kk 1 = preK 5 f K kk 0 + 1 := by rw [preK_succ, hd0]; rfl
   have hb_1 : preK 5 f K kk 1 ≤ 1000000000 := Nat.le_trans (preK_le hlt (by decide)) hbd
   have q1 : Hid (m + 1 = (preK 5 f K kk 1 : Nat)) := by show _ = _; have := q0.out; omega
   have z0 : wr.cell? ⟨b, off + kk * 5, none⟩ = some (G kk 0) := by have := hM_0.row kk hlt 0 (by decide); rw [show bef kk 0 kk 0 = false by simp [bef]] at this; simpa using this
   have fz0 : wr.frozen? ⟨b, off + kk * 5, none⟩ = false := hM_0.frz _
   have hM_1 := hM_0.scal o hlt (by decide) (fun W => by rw [hd0]; exact mk_int (by omega))
   rw [show mkCell (f kk 0) (preK 5 f K kk 0) (G kk 0) = .int .i64 (m) by rw [hd0, q0.out]; rfl] at hM_1
   obtain ⟨x1, hd1⟩ := (show Has (f kk 1) .str from HR 1 (by decide)).str
   have hp_2 : preK 5 f K kk 2 = preK 5 f K kk 1 + 1 := by rw [preK_succ, hd1]; rfl
   have hb_2 : preK 5 f K kk 2 ≤ 1000000000 := Nat.le_trans (preK_le hlt (by decide)) hbd
   have q2 : Hid (m + 1 + 1 = (preK 5 f K kk 2 : Nat)) := by show _ = _; have := q1.out; omega
   go_wp2_with fail
   refine (markText_mark _ _ (by omega) (by have := q1.out; omega)).mono ?_
   rintro e v1 ⟨rfl, X1⟩
   have hM_1b := hM_1.ext X1
   have z1 : v1.cell? ⟨b, off + kk * 5 + 1, none⟩ = some (G kk 1) := by have := hM_1b.row kk hlt 1 (by decide); rw [show bef kk 1 kk 1 = false by simp [bef]] at this; simpa using this
   have fz1 : v1.frozen? ⟨b, off + kk * 5 + 1, none⟩ = false := hM_1b.frz _
   have hM_2 := hM_1b.scal o hlt (by decide) (fun W => by rw [hd1]; exact mk_str (by omega))
   rw [show mkCell (f kk 1) (preK 5 f K kk 1) (G kk 1) = .string (markM (m + 1)) by rw [hd1, q1.out]; rfl] at hM_2
   obtain ⟨x2, hd2⟩ := (show Has (f kk 2) .int from HR 2 (by decide)).int
   have hp_3 : preK 5 f K kk 3 = preK 5 f K kk 2 + 1 := by rw [preK_succ, hd2]; rfl
   have hb_3 : preK 5 f K kk 3 ≤ 1000000000 := Nat.le_trans (preK_le hlt (by decide)) hbd
   have q3 : Hid (m + 1 + 1 + 1 = (preK 5 f K kk 3 : Nat)) := by show _ = _; have := q2.out; omega
   have z2 : v1.cell? ⟨b, off + kk * 5 + 2, none⟩ = some (G kk 2) := by have := hM_1b.row kk hlt 2 (by decide); rw [show bef kk 2 kk 1 = false by simp [bef]] at this; simpa using this
   have fz2 : v1.frozen? ⟨b, off + kk * 5 + 2, none⟩ = false := hM_1b.frz _
   have hM_3 := hM_2.scal o hlt (by decide) (fun W => by rw [hd2]; exact mk_int (by omega))
   rw [show mkCell (f kk 2) (preK 5 f K kk 2) (G kk 2) = .int .i64 (m + 1 + 1) by rw [hd2, q2.out]; rfl] at hM_3
   obtain ⟨x3, hd3⟩ := (show Has (f kk 3) .int from HR 3 (by decide)).int
   have hp_4 : preK 5 f K kk 4 = preK 5 f K kk 3 + 1 := by rw [preK_succ, hd3]; rfl
   have hb_4 : preK 5 f K kk 4 ≤ 1000000000 := Nat.le_trans (preK_le hlt (by decide)) hbd
   have q4 : Hid (m + 1 + 1 + 1 + 1 = (preK 5 f K kk 4 : Nat)) := by show _ = _; have := q3.out; omega
   have z3 : v1.cell? ⟨b, off + kk * 5 + 3, none⟩ = some (G kk 3) := by have := hM_1b.row kk hlt 3 (by decide); rw [show bef kk 3 kk 1 = false by simp [bef]] at this; simpa using this
   have fz3 : v1.frozen? ⟨b, off + kk * 5 + 3, none⟩ = false := hM_1b.frz _
   have hM_4 := hM_3.scal o hlt (by decide) (fun W => by rw [hd3]; exact mk_int (by omega))
   rw [show mkCell (f kk 3) (preK 5 f K kk 3) (G kk 3) = .int .i64 (m + 1 + 1 + 1) by rw [hd3, q3.out]; rfl] at hM_4
   have H4 : Has (f kk 4) (.list 3) := HR 4 (by decide)
   have hp_5 : preK 5 f K kk 5 = preK 5 f K kk 4 + cntD (f kk 4) := preK_succ _ _ _ _ _
   have hb_5 : preK 5 f K kk 5 ≤ 1000000000 := Nat.le_trans (preK_le hlt (by decide)) hbd
   have z4 : v1.cell? ⟨b, off + kk * 5 + 4, none⟩ = some (G kk 4) := by have := hM_1b.row kk hlt 4 (by decide); rw [show bef kk 4 kk 1 = false by simp [bef]] at this; simpa using this
   have fz4 : v1.frozen? ⟨b, off + kk * 5 + 4, none⟩ = false := hM_1b.frz _
   have ow4 := hM_4.fut kk hlt 4 (by decide) bef_self
   have hcall4 := markPropS_any (f kk 4) H4 (hLO.2 kk hlt 4 (by decide)) (P kk 4) (G kk 4) _ (preK 5 f K kk 4) (m + 1 + 1 + 1 + 1) q4.out ow4 (hLO.2 kk hlt 4 (by decide)).len (by omega)
   obtain ⟨ga4, gc4, hG4⟩ := own_shape H4 ow4
   rw [hG4] at z4 hcall4
   go_wp2_with fail
   refine hcall4.mono ?_
   rintro e v2 ⟨rfl, X2, Y2⟩
   rw [← hG4] at Y2
   have hM_5 := hM_4.lst o hlt (by decide) (mkCell_list H4 _ _) X2 Y2
   clear hcall4
   have q5 : Hid ((m + 1 + 1 + 1 + 1 + (cntD (f kk 4) : Nat)) = (preK 5 f K kk 5 : Nat)) := by show _ = _; have := q4.out; omega
   go_wp2
   go_roundw
   case rel => exact ⟨kk + 1, _, by omega, by go_num, rfl, by show _ = _; rw [preK_next]; exact q5.out, hM_5.next⟩
   case measure => simp [intOf]; omega
  ·
   have hkx : kk = len := by omega
   subst hkx
   have hend := preK_end 5 kk f K
   go_wp2
   go_ret
   exact ⟨ret_int (by have := hm.out; omega), hM.only, hM.fin o hlen' _⟩

theorem markEdgeS_any (d : D) (H : Has d (.list 5)) (hL : LenOk d) : MkD 33 d := by
 obtain ⟨len, f, rfl, HRa⟩ := H.list
 exact markEdgeS_list len f HRa hL

end Go.Proofs.YteijgejpenlgjaaGreat

/- What the laws' function markGraph does: both lists are marked, and read so; their own memory alone turns. -/
namespace Go.Proofs.YteijgejpenlgjaaGreat
open Go.RowKit Go.Deep

set_option maxRecDepth 100000 in
set_option maxHeartbeats 1000000 in
theorem markGraph_own (d0 d1 : D) (u0 u1 : Value) (x2 x3 : Int) (Q0 Q1 : Nat → Prop) (w : World) (K : Nat) (k : Int) (hK : k = K) (H0 : Has d0 (.list 4)) (H1 : Has d1 (.list 5)) (o0 : Own w d0 Q0 u0) (o1 : Own w d1 Q1 u1) (L0 : LenOk d0) (L1 : LenOk d1) (hq : ∀ x, Q0 x → x < w.heap.size) (hd : ∀ x, Q0 x → ¬ Q1 x) (hb : K + cntD d0 + cntD d1 ≤ 1000000000) :
  Calls Tryz.prog 12 #[.agg #[u0, u1, .int .i64 x2, .int .i64 x3], .int .i64 k] w fun e w' => e = .returned (.int .i64 (k + cntD d0 + cntD d1)) ∧ OnlyS (fun x => Q0 x ∨ Q1 x) w w' ∧ DIn Q0 w' (markD d0 K) u0 ∧ DIn Q1 w' (markD d1 (K + cntD d0)) u1 := by
 have hE0 : Ext w (w.alloc (.cells #[u0, u1, .int .i64 x2, .int .i64 x3] 34)) := (Ext.refl _).alloc _
 have hc0 := markNodeS_any d0 H0 L0 Q0 u0 _ K k hK (o0.ext hE0) L0.len (by omega)
 have hc1 := fun (W : World) (k' : Int) (hk : k' = ((K + cntD d0 : Nat) : Int)) (o : Own W d1 Q1 u1) => markEdgeS_any d1 H1 L1 Q1 u1 W (K + cntD d0) k' hk o L1.len hb
 have HKK : Hid (k = K) := hK
 clear hK
 obtain ⟨a0, cap0, rfl⟩ := own_shape H0 o0
 obtain ⟨a1, cap1, rfl⟩ := own_shape H1 o1
 go_enter Tryz.func12, Tryz.ntmps12
 go_wp2_with fail
 refine hc0.mono ?_
 rintro e w1 ⟨rfl, hO1, hx1⟩
 have hbk := hO1.block w.heap.size (by simp) (fun hx => by have := hq _ hx; omega)
 have p1 : w1.cell? ⟨w.heap.size, 1, none⟩ = some (.slice a1 d1.len! cap1) := by rw [World.cell?_of_block hbk]; simp
 clear hc0
 go_wp2_with fail
 refine (hc1 _ _ (by have := HKK.out; omega) ((o1.ext hE0).only hO1 (fun x hx hx0 => hd x hx0 hx))).mono ?_
 rintro e w2 ⟨rfl, hO2, hx2⟩
 have hx1' := hx1.only hO2 (fun x hx h => hd x hx h)
 go_wp2
 go_ret
 exact ⟨ret_int (by omega), ((OnlyS.of_ext hE0).trans (hO1.mono (fun x hx => .inl hx))).trans (hO2.mono (fun x hx => .inr hx)), hx1', hx2⟩
end Go.Proofs.YteijgejpenlgjaaGreat
