/- What spec.l2Labels answers. -/
import Derived.Test.YtbhmblkappmfjaaGreatTk
import Derived.Test.YtbhmblkappmfjaaGreatDa
import Derived.Test.YtbhmblkappmfjaaGreatLf
import Derived.BigRegion
import Derived.Deep.RegionWith
import Derived.Deep.RegionHeld3
import Derived.Laws.Cover1
namespace Go.Proofs.YtbhmblkappmfjaaGreat
open Go.RowKit Go.Deep

/-- Labels are names, ascending: the i-th. -/
def labelB (f : Nat → Nat → D) (i : Nat) : Bool := nameB (f i 0).str! && (i == 0 || ltS (f (i - 1) 0).str! (f i 0).str!)
def labelsB (d : D) : Bool := (List.range d.len!).all (labelB d.at!) && decide (d.len! ≤ 3)

set_option maxHeartbeats 2000000 in
theorem l2Labels_any (d : D) (H : Has d (.list 0)) (S : Nat → Prop) (v : Value) (w : World) (hv : DIn S w d v) :
    Calls Tryz.prog 12 #[v] w fun e w' => e = .returned (.bool (labelsB d)) ∧ Ext w w' := by
  obtain ⟨len, f, rfl, HRa⟩ := H.list
  change DIn S w (.list 1 len f) v at hv
  obtain ⟨a, cap, rfl, hm⟩ := hv.list_eq
  unfold maxLen at hm
  have HB : Hid (labelsB (.list 1 len f) = ((List.range len).all (labelB f) && decide (len ≤ 3))) := rfl
  go_enter Tryz.func12, Tryz.ntmps12
  go_wp2
  go_loopw [3] (fun i wr => ∃ k : Nat, k ≤ len ∧ i = .int .i64 k ∧ Ext w wr ∧ ∀ j, j < k → labelB f j = true) (fun i _ => len - (intOf i).toNat)
  case atStart => exact ⟨0, Nat.zero_le _, rfl, Ext.refl _, fun j h => by omega⟩
  case round =>
    obtain ⟨k, hk, rfl, hE, hno⟩ := hrel
    by_cases hlt : k < len
    · obtain ⟨cap2, b, off, C, hsl, _, hb, ec, hx⟩ := (hv.ext hE).at hlt
      cases hsl
      have HR := HRa k hlt
      obtain ⟨x0, hd0⟩ := (show Has (f k 0) .str from HR 0 (by decide)).str
      have h0 := hx 0 (by decide)
      have e0 := ec 0 (by decide)
      rw [hd0] at h0
      obtain ⟨y0, z0⟩ := h0.str_eq
      rw [y0] at e0
      have e0 : wr.cell? ⟨b, off + k, none⟩ = some (.string x0) := by simpa using e0
      clear y0 hx ec HR
      have hLk : Hid (labelB f k = (nameB x0 && (k == 0 || ltS (f (k - 1) 0).str! x0))) := by show _ = _; simp [labelB, hd0, D.str!]
      have hS0 : ∀ W, Ext wr W → W.cell? ⟨b, off + k, none⟩ = some (.string x0) := fun W hW => by rw [hW.cell hb]; exact e0
      clear e0
      go_wp2_with fail
      cases hn : nameB x0
      · have hfin : Hid (labelsB (.list 1 len f) = false) := by show _ = _; rw [HB.out, all_no hlt (by rw [hLk.out, hn]; rfl)]; rfl
        have HK : Hid (∀ W, Ext wr W → W.cell? ⟨b, off + k, none⟩ = some (.string x0)) := hS0
        clear hS0
        have hcur : Ext wr wr.drew := (Ext.refl _).drew
        refine wp_region_held_drew (S := (fun W => W.cell? ⟨b, off + k, none⟩ = some (.string x0))) (by kernel_rfl) (HK.out _ hcur) (fun hHeld => ?_)
        refine tkL 0 ⟨some 10, .move (.tmp 0), 31, _, #[], none⟩ ?_ hHeld ?yyA0 ?rrA0
        case yyA0 => (intro w hSw; (try dsimp only at hSw); go_simp; try with_reducible rfl)
        try simp only [Act.put, putA, putB, putC]
        refine tkL 1 ⟨some 11, .move (.tmp 3), 3, _, #[], none⟩ ?_ hHeld ?yyA1 ?rrA1
        case yyA1 => (intro w hSw; (try dsimp only at hSw); go_simp; try with_reducible rfl)
        try simp only [Act.put, putA, putB, putC]
        refine tkL 2 ⟨some 12, .indexAddr 31 (.tmp 10) (.tmp 11), 0, _, #[⟨0, .data⟩, ⟨1, .data⟩], none⟩ ?_ hHeld ?yyA2 ?rrA2
        case yyA2 => (intro w hSw; (try dsimp only at hSw); go_simp; try with_reducible rfl)
        try simp only [Act.put, putA, putB, putC]
        refine tkL 3 ⟨some 13, .load 9 (.tmp 12), 9, _, #[⟨2, .data⟩], none⟩ ?_ hHeld ?yyA3 ?rrA3
        case yyA3 => (intro w hSw; (try dsimp only at hSw); go_simp; try with_reducible rfl)
        try simp only [Act.put, putA, putB, putC]
        refine wpAnyH_ready (rs := [4]) (by kernel_rfl) (by simp) ?_
        refine AllReadyH.cons (o := ⟨some 14, .call { callee := .value (.func 14), args := #[.tmp 13], argTypes := #[9] }, 4, _, #[⟨3, .data⟩], none⟩) rfl (fun K hK => ?_) AllReadyH.nil
        go_simp
        refine (l2Name_any _ _ z0).mono ?_
        rintro e w' ⟨rfl, hE2⟩
        rw [hn]
        replace hcur := hcur.trans hE2
        go_wp2_with fail
        refine hK.out _ _ (HK.out _ hcur) (fun hHeld => ?_)
        clear hK K
        try simp only [Act.put, putA, putB, putC]
        refine tkL 5 ⟨some 15, .unOp .not 4 (.tmp 14), 4, _, #[⟨4, .data⟩], none⟩ ?_ hHeld ?yyA5 ?rrA5
        case yyA5 => (intro w hSw; (try dsimp only at hSw); go_simp; try with_reducible rfl)
        try simp only [Act.put, putA, putB, putC]
        refine tkL 6 ⟨some 16, .move (.tmp 15), 4, _, #[⟨5, .data⟩, ⟨4, .chain⟩], none⟩ ?_ hHeld ?yyA6 ?rrA6
        case yyA6 => (intro w hSw; (try dsimp only at hSw); go_simp; try with_reducible rfl)
        try simp only [Act.put, putA, putB, putC]
        refine tkR 7 ⟨some 17, .move (.tmp 3), 3, _, #[⟨6, .guard⟩], some (6, false)⟩ hHeld ?_
        try simp only [Act.put, putA, putB, putC]
        refine tkR 8 ⟨some 18, .binOp .gtr 3 (.tmp 17) (.const (.int .i64 0)) 3, 4, _, #[⟨7, .data⟩, ⟨6, .guard⟩], some (6, false)⟩ hHeld ?_
        try simp only [Act.put, putA, putB, putC]
        refine tkR 9 ⟨some 19, .move (.tmp 18), 4, _, #[⟨8, .data⟩, ⟨6, .chain⟩, ⟨6, .guard⟩], some (6, false)⟩ hHeld ?_
        try simp only [Act.put, putA, putB, putC]
        refine tkR 10 ⟨some 20, .move (.tmp 0), 31, _, #[⟨9, .guard⟩], some (9, true)⟩ hHeld ?_
        try simp only [Act.put, putA, putB, putC]
        refine tkR 11 ⟨some 21, .move (.tmp 3), 3, _, #[⟨9, .guard⟩], some (9, true)⟩ hHeld ?_
        try simp only [Act.put, putA, putB, putC]
        refine tkR 12 ⟨some 22, .binOp .sub 3 (.tmp 21) (.const (.int .i64 1)) 3, 3, _, #[⟨11, .data⟩, ⟨9, .guard⟩], some (9, true)⟩ hHeld ?_
        try simp only [Act.put, putA, putB, putC]
        refine tkR 13 ⟨some 23, .indexAddr 31 (.tmp 20) (.tmp 22), 0, _, #[⟨10, .data⟩, ⟨12, .data⟩, ⟨9, .guard⟩], some (9, true)⟩ hHeld ?_
        try simp only [Act.put, putA, putB, putC]
        refine tkR 14 ⟨some 24, .load 9 (.tmp 23), 9, _, #[⟨13, .data⟩, ⟨9, .guard⟩], some (9, true)⟩ hHeld ?_
        try simp only [Act.put, putA, putB, putC]
        refine tkR 15 ⟨some 25, .move (.tmp 0), 31, _, #[⟨9, .guard⟩], some (9, true)⟩ hHeld ?_
        try simp only [Act.put, putA, putB, putC]
        refine tkR 16 ⟨some 26, .move (.tmp 3), 3, _, #[⟨9, .guard⟩], some (9, true)⟩ hHeld ?_
        try simp only [Act.put, putA, putB, putC]
        refine tkR 17 ⟨some 27, .indexAddr 31 (.tmp 25) (.tmp 26), 0, _, #[⟨15, .data⟩, ⟨16, .data⟩, ⟨9, .guard⟩], some (9, true)⟩ hHeld ?_
        try simp only [Act.put, putA, putB, putC]
        refine tkR 18 ⟨some 28, .load 9 (.tmp 27), 9, _, #[⟨17, .data⟩, ⟨9, .guard⟩], some (9, true)⟩ hHeld ?_
        try simp only [Act.put, putA, putB, putC]
        refine tkR 19 ⟨some 29, .binOp .geq 9 (.tmp 24) (.tmp 28) 9, 4, _, #[⟨14, .data⟩, ⟨18, .data⟩, ⟨9, .guard⟩], some (9, true)⟩ hHeld ?_
        try simp only [Act.put, putA, putB, putC]
        refine tkR 20 ⟨some 30, .pick (.tmp 19) (.tmp 29) (.const (.bool false)), 4, _, #[⟨9, .data⟩, ⟨19, .data⟩, ⟨6, .guard⟩], some (6, false)⟩ hHeld ?_
        try simp only [Act.put, putA, putB, putC]
        refine tkL 21 ⟨some 31, .pick (.tmp 16) (.const (.bool true)) (.tmp 30), 4, _, #[⟨6, .data⟩, ⟨20, .data⟩], none⟩ ?_ hHeld ?yyA21 ?rrA21
        case yyA21 => (intro w hSw; (try dsimp only at hSw); go_simp; try with_reducible rfl)
        try simp only [Act.put, putA, putB, putC]
        refine wpAnyH_done (by kernel_rfl) ?_ _
        go_wp2
        go_ret
        exact ⟨ret_bool hfin.out.symm, hE.trans hcur⟩
      · by_cases hk0 : k = 0
        · subst hk0
          have hok : Hid (labelB f 0 = true) := by show _ = _; rw [hLk.out, hn]; rfl
          have HK : Hid (∀ W, Ext wr W → W.cell? ⟨b, off, none⟩ = some (.string x0)) := hS0
          clear hS0
          have hcur : Ext wr wr.drew := (Ext.refl _).drew
          refine wp_region_held_drew (S := (fun W => W.cell? ⟨b, off, none⟩ = some (.string x0))) (by kernel_rfl) (HK.out _ hcur) (fun hHeld => ?_)
          refine tkL 0 ⟨some 10, .move (.tmp 0), 31, _, #[], none⟩ ?_ hHeld ?yyB0 ?rrB0
          case yyB0 => (intro w hSw; (try dsimp only at hSw); go_simp; try with_reducible rfl)
          try simp only [Act.put, putA, putB, putC]
          refine tkL 1 ⟨some 11, .move (.tmp 3), 3, _, #[], none⟩ ?_ hHeld ?yyB1 ?rrB1
          case yyB1 => (intro w hSw; (try dsimp only at hSw); go_simp; try with_reducible rfl)
          try simp only [Act.put, putA, putB, putC]
          refine tkL 2 ⟨some 12, .indexAddr 31 (.tmp 10) (.tmp 11), 0, _, #[⟨0, .data⟩, ⟨1, .data⟩], none⟩ ?_ hHeld ?yyB2 ?rrB2
          case yyB2 => (intro w hSw; (try dsimp only at hSw); go_simp; try with_reducible rfl)
          try simp only [Act.put, putA, putB, putC]
          refine tkL 3 ⟨some 13, .load 9 (.tmp 12), 9, _, #[⟨2, .data⟩], none⟩ ?_ hHeld ?yyB3 ?rrB3
          case yyB3 => (intro w hSw; (try dsimp only at hSw); go_simp; try with_reducible rfl)
          try simp only [Act.put, putA, putB, putC]
          refine wpAnyH_ready (rs := [4]) (by kernel_rfl) (by simp) ?_
          refine AllReadyH.cons (o := ⟨some 14, .call { callee := .value (.func 14), args := #[.tmp 13], argTypes := #[9] }, 4, _, #[⟨3, .data⟩], none⟩) rfl (fun K hK => ?_) AllReadyH.nil
          go_simp
          refine (l2Name_any _ _ z0).mono ?_
          rintro e w' ⟨rfl, hE2⟩
          rw [hn]
          replace hcur := hcur.trans hE2
          go_wp2_with fail
          refine hK.out _ _ (HK.out _ hcur) (fun hHeld => ?_)
          clear hK K
          try simp only [Act.put, putA, putB, putC]
          refine tkL 5 ⟨some 15, .unOp .not 4 (.tmp 14), 4, _, #[⟨4, .data⟩], none⟩ ?_ hHeld ?yyB5 ?rrB5
          case yyB5 => (intro w hSw; (try dsimp only at hSw); go_simp; try with_reducible rfl)
          try simp only [Act.put, putA, putB, putC]
          refine tkL 6 ⟨some 16, .move (.tmp 15), 4, _, #[⟨5, .data⟩, ⟨4, .chain⟩], none⟩ ?_ hHeld ?yyB6 ?rrB6
          case yyB6 => (intro w hSw; (try dsimp only at hSw); go_simp; try with_reducible rfl)
          try simp only [Act.put, putA, putB, putC]
          refine tkL 7 ⟨some 17, .move (.tmp 3), 3, _, #[⟨6, .guard⟩], some (6, false)⟩ ?_ hHeld ?yyB7 ?rrB7
          case yyB7 => (intro w hSw; (try dsimp only at hSw); go_simp; try with_reducible rfl)
          try simp only [Act.put, putA, putB, putC]
          refine tkL 8 ⟨some 18, .binOp .gtr 3 (.tmp 17) (.const (.int .i64 0)) 3, 4, _, #[⟨7, .data⟩, ⟨6, .guard⟩], some (6, false)⟩ ?_ hHeld ?yyB8 ?rrB8
          case yyB8 => (intro w hSw; (try dsimp only at hSw); go_simp; try with_reducible rfl)
          try simp only [Act.put, putA, putB, putC]
          refine tkL 9 ⟨some 19, .move (.tmp 18), 4, _, #[⟨8, .data⟩, ⟨6, .chain⟩, ⟨6, .guard⟩], some (6, false)⟩ ?_ hHeld ?yyB9 ?rrB9
          case yyB9 => (intro w hSw; (try dsimp only at hSw); go_simp; try with_reducible rfl)
          try simp only [Act.put, putA, putB, putC]
          refine tkR 10 ⟨some 20, .move (.tmp 0), 31, _, #[⟨9, .guard⟩], some (9, true)⟩ hHeld ?_
          try simp only [Act.put, putA, putB, putC]
          refine tkR 11 ⟨some 21, .move (.tmp 3), 3, _, #[⟨9, .guard⟩], some (9, true)⟩ hHeld ?_
          try simp only [Act.put, putA, putB, putC]
          refine tkR 12 ⟨some 22, .binOp .sub 3 (.tmp 21) (.const (.int .i64 1)) 3, 3, _, #[⟨11, .data⟩, ⟨9, .guard⟩], some (9, true)⟩ hHeld ?_
          try simp only [Act.put, putA, putB, putC]
          refine tkR 13 ⟨some 23, .indexAddr 31 (.tmp 20) (.tmp 22), 0, _, #[⟨10, .data⟩, ⟨12, .data⟩, ⟨9, .guard⟩], some (9, true)⟩ hHeld ?_
          try simp only [Act.put, putA, putB, putC]
          refine tkR 14 ⟨some 24, .load 9 (.tmp 23), 9, _, #[⟨13, .data⟩, ⟨9, .guard⟩], some (9, true)⟩ hHeld ?_
          try simp only [Act.put, putA, putB, putC]
          refine tkR 15 ⟨some 25, .move (.tmp 0), 31, _, #[⟨9, .guard⟩], some (9, true)⟩ hHeld ?_
          try simp only [Act.put, putA, putB, putC]
          refine tkR 16 ⟨some 26, .move (.tmp 3), 3, _, #[⟨9, .guard⟩], some (9, true)⟩ hHeld ?_
          try simp only [Act.put, putA, putB, putC]
          refine tkR 17 ⟨some 27, .indexAddr 31 (.tmp 25) (.tmp 26), 0, _, #[⟨15, .data⟩, ⟨16, .data⟩, ⟨9, .guard⟩], some (9, true)⟩ hHeld ?_
          try simp only [Act.put, putA, putB, putC]
          refine tkR 18 ⟨some 28, .load 9 (.tmp 27), 9, _, #[⟨17, .data⟩, ⟨9, .guard⟩], some (9, true)⟩ hHeld ?_
          try simp only [Act.put, putA, putB, putC]
          refine tkR 19 ⟨some 29, .binOp .geq 9 (.tmp 24) (.tmp 28) 9, 4, _, #[⟨14, .data⟩, ⟨18, .data⟩, ⟨9, .guard⟩], some (9, true)⟩ hHeld ?_
          try simp only [Act.put, putA, putB, putC]
          refine tkL 20 ⟨some 30, .pick (.tmp 19) (.tmp 29) (.const (.bool false)), 4, _, #[⟨9, .data⟩, ⟨19, .data⟩, ⟨6, .guard⟩], some (6, false)⟩ ?_ hHeld ?yyB20 ?rrB20
          case yyB20 => (intro w hSw; (try dsimp only at hSw); go_simp; try with_reducible rfl)
          try simp only [Act.put, putA, putB, putC]
          refine tkL 21 ⟨some 31, .pick (.tmp 16) (.const (.bool true)) (.tmp 30), 4, _, #[⟨6, .data⟩, ⟨20, .data⟩], none⟩ ?_ hHeld ?yyB21 ?rrB21
          case yyB21 => (intro w hSw; (try dsimp only at hSw); go_simp; try with_reducible rfl)
          try simp only [Act.put, putA, putB, putC]
          refine wpAnyH_done (by kernel_rfl) ?_ _
          go_wp2
          go_roundw
          case rel => exact ⟨1, by omega, by go_num, hE.trans hcur, upto_succ hno hok.out⟩
          case measure => simp [intOf]; omega
        · obtain ⟨m, rfl⟩ : ∃ m, k = m + 1 := ⟨k - 1, by omega⟩
          obtain ⟨cap3, b3, off3, C3, hsl, _, hb3, ec3, hx3⟩ := (hv.ext hE).at (i := m) (by omega)
          cases hsl
          have HR := HRa m (by omega)
          obtain ⟨x1, hd1⟩ := (show Has (f m 0) .str from HR 0 (by decide)).str
          have h1 := hx3 0 (by decide)
          have e1 := ec3 0 (by decide)
          rw [hd1] at h1
          rw [h1.str_eq.1] at e1
          clear hx3 ec3 HR
          have e1 : wr.cell? ⟨b, off + m, none⟩ = some (.string x1) := by simpa using e1
          have hLk2 : Hid (labelB f (m + 1) = ltS x1 x0) := by show _ = _; rw [hLk.out, hn]; simp [hd1, D.str!]
          have HK : Hid (∀ W, Ext wr W → W.cell? ⟨b, off + (m + 1), none⟩ = some (.string x0) ∧ W.cell? ⟨b, off + m, none⟩ = some (.string x1)) := fun W hW => ⟨hS0 W hW, by rw [hW.cell hb]; exact e1⟩
          clear hS0 e1 hLk
          have i0 : 0 ≤ (m : Int) + 1 := by omega
          have i1 : (m : Int) + 1 < (len : Int) := by omega
          have i2 : (m : Int) < (len : Int) := by omega
          have iw : IntKind.i64.wrap (m : Int) = m := wrap_i64 (by omega) (by omega)
          have hcur : Ext wr wr.drew := (Ext.refl _).drew
          refine wp_region_held_drew (S := (fun W => W.cell? ⟨b, off + (m + 1), none⟩ = some (.string x0) ∧ W.cell? ⟨b, off + m, none⟩ = some (.string x1))) (by kernel_rfl) (HK.out _ hcur) (fun hHeld => ?_)
          refine tkL 0 ⟨some 10, .move (.tmp 0), 31, _, #[], none⟩ ?_ hHeld ?yyC0 ?rrC0
          case yyC0 => (intro w hSw; (try dsimp only at hSw); go_simp; try with_reducible rfl)
          try simp only [Act.put, putA, putB, putC]
          refine tkL 1 ⟨some 11, .move (.tmp 3), 3, _, #[], none⟩ ?_ hHeld ?yyC1 ?rrC1
          case yyC1 => (intro w hSw; (try dsimp only at hSw); go_simp; try with_reducible rfl)
          try simp only [Act.put, putA, putB, putC]
          refine tkL 2 ⟨some 12, .indexAddr 31 (.tmp 10) (.tmp 11), 0, _, #[⟨0, .data⟩, ⟨1, .data⟩], none⟩ ?_ hHeld ?yyC2 ?rrC2
          case yyC2 => (intro w hSw; (try dsimp only at hSw); go_simp; try with_reducible rfl)
          try simp only [Act.put, putA, putB, putC]
          refine tkL 3 ⟨some 13, .load 9 (.tmp 12), 9, _, #[⟨2, .data⟩], none⟩ ?_ hHeld ?yyC3 ?rrC3
          case yyC3 => (intro w hSw; (try dsimp only at hSw); go_simp; try with_reducible rfl)
          try simp only [Act.put, putA, putB, putC]
          refine wpAnyH_ready (rs := [4]) (by kernel_rfl) (by simp) ?_
          refine AllReadyH.cons (o := ⟨some 14, .call { callee := .value (.func 14), args := #[.tmp 13], argTypes := #[9] }, 4, _, #[⟨3, .data⟩], none⟩) rfl (fun K hK => ?_) AllReadyH.nil
          go_simp
          refine (l2Name_any _ _ z0).mono ?_
          rintro e w' ⟨rfl, hE2⟩
          rw [hn]
          replace hcur := hcur.trans hE2
          go_wp2_with fail
          refine hK.out _ _ (HK.out _ hcur) (fun hHeld => ?_)
          clear hK K
          try simp only [Act.put, putA, putB, putC]
          refine tkL 5 ⟨some 15, .unOp .not 4 (.tmp 14), 4, _, #[⟨4, .data⟩], none⟩ ?_ hHeld ?yyC5 ?rrC5
          case yyC5 => (intro w hSw; (try dsimp only at hSw); go_simp; try with_reducible rfl)
          try simp only [Act.put, putA, putB, putC]
          refine tkL 6 ⟨some 16, .move (.tmp 15), 4, _, #[⟨5, .data⟩, ⟨4, .chain⟩], none⟩ ?_ hHeld ?yyC6 ?rrC6
          case yyC6 => (intro w hSw; (try dsimp only at hSw); go_simp; try with_reducible rfl)
          try simp only [Act.put, putA, putB, putC]
          refine tkL 7 ⟨some 17, .move (.tmp 3), 3, _, #[⟨6, .guard⟩], some (6, false)⟩ ?_ hHeld ?yyC7 ?rrC7
          case yyC7 => (intro w hSw; (try dsimp only at hSw); go_simp; try with_reducible rfl)
          try simp only [Act.put, putA, putB, putC]
          refine tkL 8 ⟨some 18, .binOp .gtr 3 (.tmp 17) (.const (.int .i64 0)) 3, 4, _, #[⟨7, .data⟩, ⟨6, .guard⟩], some (6, false)⟩ ?_ hHeld ?yyC8 ?rrC8
          case yyC8 => (intro w hSw; (try dsimp only at hSw); go_simp; try with_reducible rfl)
          try simp only [Act.put, putA, putB, putC]
          refine tkL 9 ⟨some 19, .move (.tmp 18), 4, _, #[⟨8, .data⟩, ⟨6, .chain⟩, ⟨6, .guard⟩], some (6, false)⟩ ?_ hHeld ?yyC9 ?rrC9
          case yyC9 => (intro w hSw; (try dsimp only at hSw); go_simp; try with_reducible rfl)
          try simp only [Act.put, putA, putB, putC]
          refine tkL 10 ⟨some 20, .move (.tmp 0), 31, _, #[⟨9, .guard⟩], some (9, true)⟩ ?_ hHeld ?yyC10 ?rrC10
          case yyC10 => (intro w hSw; (try dsimp only at hSw); go_simp; try with_reducible rfl)
          try simp only [Act.put, putA, putB, putC]
          refine tkL 11 ⟨some 21, .move (.tmp 3), 3, _, #[⟨9, .guard⟩], some (9, true)⟩ ?_ hHeld ?yyC11 ?rrC11
          case yyC11 => (intro w hSw; (try dsimp only at hSw); go_simp; try with_reducible rfl)
          try simp only [Act.put, putA, putB, putC]
          refine tkL 12 ⟨some 22, .binOp .sub 3 (.tmp 21) (.const (.int .i64 1)) 3, 3, _, #[⟨11, .data⟩, ⟨9, .guard⟩], some (9, true)⟩ ?_ hHeld ?yyC12 ?rrC12
          case yyC12 => (intro w hSw; (try dsimp only at hSw); go_simp; try with_reducible rfl)
          try simp only [Act.put, putA, putB, putC]
          refine tkL 13 ⟨some 23, .indexAddr 31 (.tmp 20) (.tmp 22), 0, _, #[⟨10, .data⟩, ⟨12, .data⟩, ⟨9, .guard⟩], some (9, true)⟩ ?_ hHeld ?yyC13 ?rrC13
          case yyC13 => (intro w hSw; (try dsimp only at hSw); go_simp; try with_reducible rfl)
          try simp only [Act.put, putA, putB, putC]
          refine tkL 14 ⟨some 24, .load 9 (.tmp 23), 9, _, #[⟨13, .data⟩, ⟨9, .guard⟩], some (9, true)⟩ ?_ hHeld ?yyC14 ?rrC14
          case yyC14 => (intro w hSw; (try dsimp only at hSw); go_simp; try with_reducible rfl)
          try simp only [Act.put, putA, putB, putC]
          refine tkL 15 ⟨some 25, .move (.tmp 0), 31, _, #[⟨9, .guard⟩], some (9, true)⟩ ?_ hHeld ?yyC15 ?rrC15
          case yyC15 => (intro w hSw; (try dsimp only at hSw); go_simp; try with_reducible rfl)
          try simp only [Act.put, putA, putB, putC]
          refine tkL 16 ⟨some 26, .move (.tmp 3), 3, _, #[⟨9, .guard⟩], some (9, true)⟩ ?_ hHeld ?yyC16 ?rrC16
          case yyC16 => (intro w hSw; (try dsimp only at hSw); go_simp; try with_reducible rfl)
          try simp only [Act.put, putA, putB, putC]
          refine tkL 17 ⟨some 27, .indexAddr 31 (.tmp 25) (.tmp 26), 0, _, #[⟨15, .data⟩, ⟨16, .data⟩, ⟨9, .guard⟩], some (9, true)⟩ ?_ hHeld ?yyC17 ?rrC17
          case yyC17 => (intro w hSw; (try dsimp only at hSw); go_simp; try with_reducible rfl)
          try simp only [Act.put, putA, putB, putC]
          refine tkL 18 ⟨some 28, .load 9 (.tmp 27), 9, _, #[⟨17, .data⟩, ⟨9, .guard⟩], some (9, true)⟩ ?_ hHeld ?yyC18 ?rrC18
          case yyC18 => (intro w hSw; (try dsimp only at hSw); go_simp; try with_reducible rfl)
          try simp only [Act.put, putA, putB, putC]
          refine tkL 19 ⟨some 29, .binOp .geq 9 (.tmp 24) (.tmp 28) 9, 4, _, #[⟨14, .data⟩, ⟨18, .data⟩, ⟨9, .guard⟩], some (9, true)⟩ ?_ hHeld ?yyC19 ?rrC19
          case yyC19 => (intro w hSw; (try dsimp only at hSw); go_simp; try with_reducible rfl)
          try simp only [Act.put, putA, putB, putC]
          refine tkL 20 ⟨some 30, .pick (.tmp 19) (.tmp 29) (.const (.bool false)), 4, _, #[⟨9, .data⟩, ⟨19, .data⟩, ⟨6, .guard⟩], some (6, false)⟩ ?_ hHeld ?yyC20 ?rrC20
          case yyC20 => (intro w hSw; (try dsimp only at hSw); go_simp; try with_reducible rfl)
          try simp only [Act.put, putA, putB, putC]
          refine tkL 21 ⟨some 31, .pick (.tmp 16) (.const (.bool true)) (.tmp 30), 4, _, #[⟨6, .data⟩, ⟨20, .data⟩], none⟩ ?_ hHeld ?yyC21 ?rrC21
          case yyC21 => (intro w hSw; (try dsimp only at hSw); go_simp; try with_reducible rfl)
          try simp only [Act.put, putA, putB, putC]
          refine wpAnyH_done (by kernel_rfl) ?_ _
          cases hcmp : Op.bytesLess x1.toList x0.toList
          · have hfin : Hid (labelsB (.list 1 len f) = false) := by show _ = _; rw [HB.out, all_no hlt (by rw [hLk2.out]; exact hcmp)]; rfl
            go_wp2
            go_ret
            exact ⟨ret_bool hfin.out.symm, hE.trans hcur⟩
          · have hok : Hid (labelB f (m + 1) = true) := by show _ = _; rw [hLk2.out]; exact hcmp
            go_wp2
            go_roundw
            case rel => exact ⟨m + 1 + 1, by omega, by go_num, hE.trans hcur, upto_succ hno hok.out⟩
            case measure => simp [intOf]; omega
    · have hkx : k = len := by omega
      subst hkx
      go_wp2
      go_ret
      refine ⟨ret_bool ?_, hE⟩
      show _ = labelsB (.list 1 k f)
      rw [HB.out, all_yes hno, Bool.true_and, Bool.eq_iff_iff]
      simp
      omega
end Go.Proofs.YtbhmblkappmfjaaGreat
