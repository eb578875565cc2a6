/- What the laws' functions held.. answer: the marks are read back. -/
import Derived.Test.YtggnfhicgpleeaaGreatDMs
import Derived.Deep.RegionHeld3
import Derived.Test.YtggnfhicgpleeaaGreatDMk
namespace Go.Proofs.YtggnfhicgpleeaaGreat
open Go.RowKit Go.Deep

theorem held_shape {S : Nat → Prop} {w : World} {r K : Nat} {d : D} {v : Value} (H : Has d (.list r)) (h : DIn S w (markD d K) v) : ∃ a cap, v = .slice a d.len! cap := by
  obtain ⟨len, f, rfl, _⟩ := H.list
  obtain ⟨a, cap, hv, _⟩ := DIn.list_eq h
  exact ⟨a, cap, hv⟩

end Go.Proofs.YtggnfhicgpleeaaGreat

/- What the laws' functions held.. answer: the marks are read back. -/
namespace Go.Proofs.YtggnfhicgpleeaaGreat
open Go.RowKit Go.Deep

set_option maxRecDepth 100000 in
set_option maxHeartbeats 8000000 in
theorem heldValueS_of (len : Nat) (f : Nat → Nat → D) (HRa : ∀ i, i < len → HasRow 2 (f i)) (hS3 : ∀ i, i < len → HlD 33 (f i 3)) : HlD 33 (.list 4 len f) := by
  intro S v w K k hK hv hbd
  subst hK
  change DIn S w (.list 4 len fun i j => markD (f i j) (preK 4 f K i j)) v at hv
  obtain ⟨a, cap, rfl, hlen⟩ := hv.list_eq
  unfold maxLen at hlen
  go_enter Tryz.func33, Tryz.ntmps33
  go_wp2
  go_loopw [1, 5] (fun q i wr => ∃ (kk : Nat) (m : Int), kk ≤ len ∧ i = .int .i64 kk ∧ q = .int .i64 m ∧ Hid (m = (preK 4 f K kk 0 : Nat)) ∧ Ext w wr) (fun _ i _ => len - (intOf i).toNat)
  case atStart => exact ⟨0, _, Nat.zero_le _, rfl, rfl, (rfl : (K : Int) = (preK 4 f K 0 0 : Nat)), Ext.refl _⟩
  case round =>
    obtain ⟨kk, m, hk, rfl, rfl, hm, hE⟩ := hrel
    by_cases hlt : kk < len
    · have HR := HRa kk hlt
      obtain ⟨cap2, b, off, C, hsl, _, hb, ec, hx⟩ := (hv.ext hE).at hlt
      cases hsl
      have hp_0 : preK 4 f K kk 0 ≤ 1000000000 := Nat.le_trans (preK_le hlt (by decide)) hbd
      have hm0 : 0 ≤ m := by have := hm.out; omega
      have hm1 : m ≤ 1000000000 := by have := hm.out; omega
      have q0 : Hid (m = (preK 4 f K kk 0 : Nat)) := hm
      have hT3 := hS3 kk hlt
      clear hS3
      have e0 := ec 0 (by decide)
      have h0 := hx 0 (by decide)
      dsimp only at h0
      obtain ⟨x0, hd0⟩ := (show Has (f kk 0) .int from HR 0 (by decide)).int
      rw [hd0] at h0
      have y0 : C 0 = .int .i64 (m) := by rw [q0.out]; exact h0.1
      rw [y0] at e0
      have hp_1 : preK 4 f K kk 1 = preK 4 f K kk 0 + 1 := by rw [preK_succ, hd0]; rfl
      have hb_1 : preK 4 f K kk 1 ≤ 1000000000 := Nat.le_trans (preK_le hlt (by decide)) hbd
      have q1 : Hid (m + 1 = (preK 4 f K kk 1 : Nat)) := by show _ = _; have := q0.out; omega
      clear h0 y0
      have e1 := ec 1 (by decide)
      have h1 := hx 1 (by decide)
      dsimp only at h1
      obtain ⟨x1, hd1⟩ := (show Has (f kk 1) .int from HR 1 (by decide)).int
      rw [hd1] at h1
      have y1 : C 1 = .int .i64 (m + 1) := by rw [q1.out]; exact h1.1
      rw [y1] at e1
      have hp_2 : preK 4 f K kk 2 = preK 4 f K kk 1 + 1 := by rw [preK_succ, hd1]; rfl
      have hb_2 : preK 4 f K kk 2 ≤ 1000000000 := Nat.le_trans (preK_le hlt (by decide)) hbd
      have q2 : Hid (m + 1 + 1 = (preK 4 f K kk 2 : Nat)) := by show _ = _; have := q1.out; omega
      clear h1 y1
      have e2 := ec 2 (by decide)
      have h2 := hx 2 (by decide)
      dsimp only at h2
      obtain ⟨x2, hd2⟩ := (show Has (f kk 2) .str from HR 2 (by decide)).str
      rw [hd2] at h2
      have y2 : C 2 = .string (markM (m + 1 + 1)) := by rw [q2.out]; exact h2.1
      rw [y2] at e2
      have hp_3 : preK 4 f K kk 3 = preK 4 f K kk 2 + 1 := by rw [preK_succ, hd2]; rfl
      have hb_3 : preK 4 f K kk 3 ≤ 1000000000 := Nat.le_trans (preK_le hlt (by decide)) hbd
      have q3 : Hid (m + 1 + 1 + 1 = (preK 4 f K kk 3 : Nat)) := by show _ = _; have := q2.out; omega
      clear h2 y2
      have e3 := ec 3 (by decide)
      have h3 := hx 3 (by decide)
      dsimp only at h3
      have H3 : Has (f kk 3) (.list 2) := HR 3 (by decide)
      have hp_4 : preK 4 f K kk 4 = preK 4 f K kk 3 + cntD (f kk 3) := preK_succ _ _ _ _ _
      have hb_4 : preK 4 f K kk 4 ≤ 1000000000 := Nat.le_trans (preK_le hlt (by decide)) hbd
      obtain ⟨ga3, gc3, hG3⟩ := held_shape H3 h3
      have q4 : Hid ((m + 1 + 1 + 1 + (cntD (f kk 3) : Nat)) = (preK 4 f K kk 4 : Nat)) := by show _ = _; have := q3.out; omega
      simp only [Nat.add_zero] at e0
      clear hx ec HR
      have HC : Hid (∀ W, Ext wr W → W.cell? ⟨b, off + kk * 4, none⟩ = some (.int .i64 (m)) ∧ W.cell? ⟨b, off + kk * 4 + 1, none⟩ = some (.int .i64 (m + 1)) ∧ W.cell? ⟨b, off + kk * 4 + 2, none⟩ = some (.string (markM (m + 1 + 1))) ∧ W.cell? ⟨b, off + kk * 4 + 3, none⟩ = some (C 3)) := fun W hW => by
        rw [hW.cell hb, hW.cell hb, hW.cell hb, hW.cell hb]; exact ⟨e0, e1, e2, e3⟩
      clear e0 e1 e2 e3
      have hcur : Ext wr wr := Ext.refl _
      obtain ⟨e0, e1, e2, e3⟩ := HC.out _ hcur
      go_wp2_with fail
      clear e0 e1 e2 e3
      have HK : Hid (∀ W, Ext wr W → W.cell? ⟨b, off + kk * 4, none⟩ = some (.int .i64 (m)) ∧ W.cell? ⟨b, off + kk * 4 + 1, none⟩ = some (.int .i64 (m + 1)) ∧ W.cell? ⟨b, off + kk * 4 + 2, none⟩ = some (.string (markM (m + 1 + 1))) ∧ W.cell? ⟨b, off + kk * 4 + 3, none⟩ = some (C 3)) := HC
      replace hcur := hcur.drew
      refine wp_region_held_drew (S := (fun W => W.cell? ⟨b, off + kk * 4, none⟩ = some (.int .i64 (m)) ∧ W.cell? ⟨b, off + kk * 4 + 1, none⟩ = some (.int .i64 (m + 1)) ∧ W.cell? ⟨b, off + kk * 4 + 2, none⟩ = some (.string (markM (m + 1 + 1))) ∧ W.cell? ⟨b, off + kk * 4 + 3, none⟩ = some (C 3))) (by kernel_rfl) (HK.out _ hcur) (fun hHeld => ?_)
      refine wpAnyH_take (i := 0) (oi := ⟨some 30, .move (.tmp 0), 31, _, #[], none⟩) (v := ?_) rfl (by kernel_rfl) (by kernel_rfl) (by kernel_rfl) (fun _ _ _ h => h) (Or.inl ⟨by rfl, ?yyH00⟩) hHeld ?rrH00
      case yyH00 => (intro w hSw; (try dsimp only at hSw); go_simp; first | done | with_reducible rfl)
      try simp only [Act.put, putA, putB, putC]
      refine wpAnyH_take (i := 1) (oi := ⟨some 31, .move (.tmp 5), 3, _, #[], none⟩) (v := ?_) rfl (by kernel_rfl) (by kernel_rfl) (by kernel_rfl) (fun _ _ _ h => h) (Or.inl ⟨by rfl, ?yyH01⟩) hHeld ?rrH01
      case yyH01 => (intro w hSw; (try dsimp only at hSw); go_simp; first | done | with_reducible rfl)
      try simp only [Act.put, putA, putB, putC]
      refine wpAnyH_take (i := 2) (oi := ⟨some 32, .indexAddr 31 (.tmp 30) (.tmp 31), 0, _, #[⟨0, .data⟩, ⟨1, .data⟩], none⟩) (v := ?_) rfl (by kernel_rfl) (by kernel_rfl) (by kernel_rfl) (fun _ _ _ h => h) (Or.inl ⟨by rfl, ?yyH02⟩) hHeld ?rrH02
      case yyH02 => (intro w hSw; (try dsimp only at hSw); go_simp; first | done | with_reducible rfl)
      try simp only [Act.put, putA, putB, putC]
      refine wpAnyH_take (i := 3) (oi := ⟨some 33, .fieldAddr 33 (.tmp 32) 2, 0, _, #[⟨2, .data⟩], none⟩) (v := ?_) rfl (by kernel_rfl) (by kernel_rfl) (by kernel_rfl) (fun _ _ _ h => h) (Or.inl ⟨by rfl, ?yyH03⟩) hHeld ?rrH03
      case yyH03 => (intro w hSw; (try dsimp only at hSw); go_simp; first | done | with_reducible rfl)
      try simp only [Act.put, putA, putB, putC]
      refine wpAnyH_take (i := 4) (oi := ⟨some 34, .load 9 (.tmp 33), 9, _, #[⟨3, .data⟩], none⟩) (v := ?_) rfl (by kernel_rfl) (by kernel_rfl) (by kernel_rfl) (fun _ _ _ h => h) (Or.inl ⟨by rfl, ?yyH04⟩) hHeld ?rrH04
      case yyH04 => (intro w hSw; (try dsimp only at hSw); go_simp; first | done | with_reducible rfl)
      try simp only [Act.put, putA, putB, putC]
      refine wpAnyH_take (i := 5) (oi := ⟨some 35, .move (.tmp 1), 3, _, #[], none⟩) (v := ?_) rfl (by kernel_rfl) (by kernel_rfl) (by kernel_rfl) (fun _ _ _ h => h) (Or.inl ⟨by rfl, ?yyH05⟩) hHeld ?rrH05
      case yyH05 => (intro w hSw; (try dsimp only at hSw); go_simp; first | done | with_reducible rfl)
      try simp only [Act.put, putA, putB, putC]
      refine wpAnyH_ready (rs := [6]) (by kernel_rfl) (by simp) ?_
      refine AllReadyH.cons (o := ⟨some 36, .call { callee := .value (.func 57), args := #[.tmp 35], argTypes := #[3] }, 9, _, #[⟨5, .data⟩], none⟩) rfl (fun K hK => ?_) AllReadyH.nil
      go_simp
      refine (markText_mark _ _ (by omega) (by have := q2.out; omega)).mono ?_
      rintro e vs0 ⟨rfl, X0⟩
      replace hcur := hcur.trans X0
      go_wp2_with fail
      refine hK.out _ _ (HK.out _ hcur) (fun hHeld => ?_)
      clear hK K
      try simp only [Act.put, putA, putB, putC]
      refine wpAnyH_take (i := 7) (oi := ⟨some 37, .binOp .neq 9 (.tmp 34) (.tmp 36) 9, 4, _, #[⟨4, .data⟩, ⟨6, .data⟩], none⟩) (v := ?_) rfl (by kernel_rfl) (by kernel_rfl) (by kernel_rfl) (fun _ _ _ h => h) (Or.inl ⟨by rfl, ?yyH07⟩) hHeld ?rrH07
      case yyH07 => (intro w hSw; (try dsimp only at hSw); go_simp; first | done | with_reducible rfl)
      try simp only [Act.put, putA, putB, putC]
      refine wpAnyH_done (by kernel_rfl) ?_ _
      clear HK
      obtain ⟨e0, e1, e2, e3⟩ := HC.out _ hcur
      have hcall3 := hT3 S (C 3) _ (preK 4 f K kk 3) (m + 1 + 1 + 1) q3.out (h3.ext hcur) (by omega)
      rw [hG3] at hcall3 e3
      go_wp2_with fail
      refine hcall3.mono ?_
      rintro e vl3 ⟨rfl, XL3⟩
      replace hcur := hcur.trans XL3
      clear e0 e1 e2 e3 hcall3
      obtain ⟨e0, e1, e2, e3⟩ := HC.out _ hcur
      have nn3 : decide (m + 1 + 1 + 1 + (cntD (f kk 3) : Nat) < 0) = false := decide_eq_false (by omega)
      go_wp2
      go_roundw
      case rel => exact ⟨kk + 1, _, by omega, by go_num, rfl, by show _ = _; rw [preK_next]; exact q4.out, hE.trans hcur⟩
      case measure => simp [intOf]; omega
    · have hkx : kk = len := by omega
      subst hkx
      clear hS3
      have hend := preK_end 4 kk f K
      go_wp2
      go_ret
      exact ⟨ret_int (by have := hm.out; omega), hE⟩

theorem heldValueS_any (d : D) (H : Has d (.list 2)) : HlD 33 d := by
  induction d with
  | list n len f ih =>
    obtain ⟨r, h1, rfl, h3⟩ := H
    cases h1
    exact heldValueS_of len f (fun i hi j hj => h3 i hi j hj) (fun i hi => ih i 3 (h3 i hi 3 (by decide)))
  | int _ => cases H
  | bool _ => cases H
  | str _ => cases H

end Go.Proofs.YtggnfhicgpleeaaGreat

/- What the laws' functions markValue and heldValue do with a value: its list is marked, and read back. -/
namespace Go.Proofs.YtggnfhicgpleeaaGreat
open Go.RowKit Go.Deep

set_option maxRecDepth 100000 in
set_option maxHeartbeats 1000000 in
theorem markValue_any (x0 x1 : Int) (x2 : ByteArray) (d3 : D) (u3 : Value) (Q : Nat → Prop) (w : World) (K : Nat) (k : Int) (hK : k = K) (H3 : Has d3 (.list 2)) (o3 : Own w d3 Q u3) (L3 : LenOk d3) (hb : K + cntD d3 ≤ 1000000000) :
    Calls Tryz.prog 13 #[.agg #[.int .i64 x0, .int .i64 x1, .string x2, u3], .int .i64 k] w fun e w' => e = .returned (.int .i64 (k + cntD d3)) ∧ OnlyS Q w w' ∧ DIn Q w' (markD d3 K) u3 := by
  have hE0 : Ext w (w.alloc (.cells #[.int .i64 x0, .int .i64 x1, .string x2, u3] 33)) := (Ext.refl _).alloc _
  have hc0 := markValueS_any d3 H3 L3 Q u3 _ K k hK (o3.ext hE0) L3.len hb
  have HKK : Hid (k = K) := hK
  clear hK
  obtain ⟨a3, cap3, rfl⟩ := own_shape H3 o3
  go_enter Tryz.func13, Tryz.ntmps13
  go_wp2_with fail
  refine hc0.mono ?_
  rintro e w1 ⟨rfl, hO1, hx1⟩
  have hx1 := (show Hid _ from hx1)
  go_wp2
  go_ret
  exact ⟨rfl, (OnlyS.of_ext hE0).trans hO1, hx1.out⟩

set_option maxRecDepth 100000 in
set_option maxHeartbeats 1000000 in
theorem heldValue_any (x0 x1 : Int) (x2 : ByteArray) (d3 : D) (u3 : Value) (Q : Nat → Prop) (w : World) (K : Nat) (k : Int) (hK : k = K) (H3 : Has d3 (.list 2)) (h3 : DIn Q w (markD d3 K) u3) (hb : K + cntD d3 ≤ 1000000000) :
    Calls Tryz.prog 14 #[.agg #[.int .i64 x0, .int .i64 x1, .string x2, u3], .int .i64 k] w fun e w' => e = .returned (.int .i64 (k + cntD d3)) ∧ Ext w w' := by
  have hE0 : Ext w (w.alloc (.cells #[.int .i64 x0, .int .i64 x1, .string x2, u3] 33)) := (Ext.refl _).alloc _
  have hc0 := heldValueS_any d3 H3 Q u3 _ K k hK (h3.ext hE0) hb
  have hn : ¬ k + (cntD d3 : Int) < 0 := by omega
  obtain ⟨a3, cap3, rfl⟩ := held_shape H3 h3
  clear hK h3
  go_enter Tryz.func14, Tryz.ntmps14
  go_wp2_with fail
  refine hc0.mono ?_
  rintro e w1 ⟨rfl, hE1⟩
  go_wp2
  go_ret
  exact ⟨rfl, hE0.trans hE1⟩
end Go.Proofs.YtggnfhicgpleeaaGreat
