/- What spec.l2Props answers. -/
import Derived.Test.YtbhmblkappmfjaaGreatTk
import Derived.Test.YtbhmblkappmfjaaGreatGSpec1
import Derived.Test.YtbhmblkappmfjaaGreatGVal
import Derived.Test.YtbhmblkappmfjaaGreatVa
namespace Go.Proofs.YtbhmblkappmfjaaGreat
open Go.RowKit Go.Deep Go.WideShapes

/-- The value of a prop. -/
def pvalOf (d : Nat → D) : V := .mk (d 1).int! (d 2).int! (d 3).str! (vsOf (d 4))
/-- Props have names, ascending, and values that are ok and may be props: the i-th. -/
def propB (f : Nat → Nat → D) (i : Nat) : Bool := nameB (f i 0).str! && okN 3 (pvalOf (f i)) && plainB (pvalOf (f i)) && (i == 0 || ltS (f (i - 1) 0).str! (f i 0).str!)
def propsB (d : D) : Bool := (List.range d.len!).all (propB d.at!) && decide (d.len! ≤ 4)

set_option maxRecDepth 100000 in
set_option maxHeartbeats 4000000 in
theorem l2Props_any (d : D) (H : Has d (.list 3)) (S : Nat → Prop) (v : Value) (w : World) (hv : DIn S w d v) :
    Calls Tryz.prog 13 #[v] w fun e w' => e = .returned (.bool (propsB d)) ∧ Ext w w' := by
  obtain ⟨len, f, rfl, HRa⟩ := H.list
  change DIn S w (.list 5 len f) v at hv
  obtain ⟨a, cap, rfl, hm⟩ := hv.list_eq
  unfold maxLen at hm
  have HB : Hid (propsB (.list 5 len f) = ((List.range len).all (propB f) && decide (len ≤ 4))) := rfl
  go_enter Tryz.func13, Tryz.ntmps13
  go_wp2
  go_loopw [3] (fun i wr => ∃ k : Nat, k ≤ len ∧ i = .int .i64 k ∧ Ext w wr ∧ ∀ j, j < k → propB f j = true) (fun i _ => len - (intOf i).toNat)
  case atStart => exact ⟨0, Nat.zero_le _, rfl, Ext.refl _, fun j h => by omega⟩
  case round =>
    obtain ⟨k, hk, rfl, hE, hno⟩ := hrel
    by_cases hlt : k < len
    · obtain ⟨cap2, b, off, C, hsl, _, hb, ec, hx⟩ := (hv.ext hE).at hlt
      cases hsl
      have HR := HRa k hlt
      obtain ⟨x0, hd0⟩ := (show Has (f k 0) .str from HR 0 (by decide)).str
      have h0 := hx 0 (by decide)
      have e0 := ec 0 (by decide)
      rw [hd0] at h0
      obtain ⟨y0, z0⟩ := h0.str_eq
      rw [y0] at e0
      clear y0
      obtain ⟨x1, hd1⟩ := (show Has (f k 1) .int from HR 1 (by decide)).int
      have h1 := hx 1 (by decide)
      have e1 := ec 1 (by decide)
      rw [hd1] at h1
      obtain ⟨y1, z1⟩ := h1.int_eq
      rw [y1] at e1
      clear y1
      obtain ⟨x2, hd2⟩ := (show Has (f k 2) .int from HR 2 (by decide)).int
      have h2 := hx 2 (by decide)
      have e2 := ec 2 (by decide)
      rw [hd2] at h2
      obtain ⟨y2, z2⟩ := h2.int_eq
      rw [y2] at e2
      clear y2
      obtain ⟨x3, hd3⟩ := (show Has (f k 3) .str from HR 3 (by decide)).str
      have h3 := hx 3 (by decide)
      have e3 := ec 3 (by decide)
      rw [hd3] at h3
      obtain ⟨y3, z3⟩ := h3.str_eq
      rw [y3] at e3
      clear y3
      have H4 : Has (f k 4) (.list 2) := HR 4 (by decide)
      have h4 := hx 4 (by decide)
      have e4 := ec 4 (by decide)
      simp only [Nat.add_zero] at e0
      clear hx ec
      obtain ⟨X, hX⟩ : ∃ X, X = pvalOf (f k) := ⟨_, rfl⟩
      have hXe : X = .mk x1 x2 x3 (vsOf (f k 4)) := by rw [hX, pvalOf, hd1, hd2, hd3]; rfl
      have hval : ∀ W, Ext wr W → ValIn 0 W X (.agg #[.int .i64 x1, .int .i64 x2, .string x3, C 4]) := fun W hW => by rw [hXe]; exact valIn_of z1 z2 z3 H4 (h4.ext hW)
      obtain ⟨a4, cap4, l4, f4, _, hC4, _, _⟩ := list_shape H4 h4
      have hLk : Hid (propB f k = (nameB x0 && okN 3 X && plainB X && (k == 0 || ltS (f (k - 1) 0).str! x0))) := by show _ = _; rw [propB, ← hX, hd0]; rfl
      have hS0 : ∀ W, Ext wr W → W.cell? ⟨b, off + k * 5, none⟩ = some (.string x0) ∧ W.cell? ⟨b, off + k * 5 + 1, none⟩ = some (.int .i64 x1) ∧ W.cell? ⟨b, off + k * 5 + 2, none⟩ = some (.int .i64 x2) ∧ W.cell? ⟨b, off + k * 5 + 3, none⟩ = some (.string x3) ∧ W.cell? ⟨b, off + k * 5 + 4, none⟩ = some (C 4) := fun W hW => by
        rw [hW.cell hb, hW.cell hb, hW.cell hb, hW.cell hb, hW.cell hb]; exact ⟨e0, e1, e2, e3, e4⟩
      clear e0 e1 e2 e3 e4 HR hX hXe h4 H4
      rw [hC4] at hS0 hval
      clear hC4
      go_wp2_with fail
      cases hn : nameB x0
      · have hfin : Hid (propsB (.list 5 len f) = false) := by show _ = _; rw [HB.out, all_no hlt (by rw [hLk.out, hn]; rfl)]; rfl
        have HK : Hid (∀ W, Ext wr W → W.cell? ⟨b, off + k * 5, none⟩ = some (.string x0) ∧ W.cell? ⟨b, off + k * 5 + 1, none⟩ = some (.int .i64 x1) ∧ W.cell? ⟨b, off + k * 5 + 2, none⟩ = some (.int .i64 x2) ∧ W.cell? ⟨b, off + k * 5 + 3, none⟩ = some (.string x3) ∧ W.cell? ⟨b, off + k * 5 + 4, none⟩ = some (.slice a4 l4 cap4)) := hS0
        clear hS0
        have hcur : Ext wr wr.drew := (Ext.refl _).drew
        refine wp_region_held_drew (S := (fun W => W.cell? ⟨b, off + k * 5, none⟩ = some (.string x0) ∧ W.cell? ⟨b, off + k * 5 + 1, none⟩ = some (.int .i64 x1) ∧ W.cell? ⟨b, off + k * 5 + 2, none⟩ = some (.int .i64 x2) ∧ W.cell? ⟨b, off + k * 5 + 3, none⟩ = some (.string x3) ∧ W.cell? ⟨b, off + k * 5 + 4, none⟩ = some (.slice a4 l4 cap4))) (by kernel_rfl) (HK.out _ hcur) (fun hHeld => ?_)
        refine tkL 0 ⟨some 10, .move (.tmp 0), 32, _, #[], none⟩ ?_ hHeld ?yyA0 ?rrA0
        case yyA0 => (intro w hSw; (try dsimp only at hSw); go_simp; try with_reducible rfl)
        try simp only [Act.put, putA, putB, putC]
        refine tkL 1 ⟨some 11, .move (.tmp 3), 3, _, #[], none⟩ ?_ hHeld ?yyA1 ?rrA1
        case yyA1 => (intro w hSw; (try dsimp only at hSw); go_simp; try with_reducible rfl)
        try simp only [Act.put, putA, putB, putC]
        refine tkL 2 ⟨some 12, .indexAddr 32 (.tmp 10) (.tmp 11), 0, _, #[⟨0, .data⟩, ⟨1, .data⟩], none⟩ ?_ hHeld ?yyA2 ?rrA2
        case yyA2 => (intro w hSw; (try dsimp only at hSw); go_simp; try with_reducible rfl)
        try simp only [Act.put, putA, putB, putC]
        refine tkL 3 ⟨some 13, .fieldAddr 75 (.tmp 12) 0, 0, _, #[⟨2, .data⟩], none⟩ ?_ hHeld ?yyA3 ?rrA3
        case yyA3 => (intro w hSw; (try dsimp only at hSw); go_simp; try with_reducible rfl)
        try simp only [Act.put, putA, putB, putC]
        refine tkL 4 ⟨some 14, .load 9 (.tmp 13), 9, _, #[⟨3, .data⟩], none⟩ ?_ hHeld ?yyA4 ?rrA4
        case yyA4 => (intro w hSw; (try dsimp only at hSw); go_simp; try with_reducible rfl)
        try simp only [Act.put, putA, putB, putC]
        refine wpAnyH_ready (rs := [5]) (by kernel_rfl) (by simp) ?_
        refine AllReadyH.cons (o := ⟨some 15, .call { callee := .value (.func 14), args := #[.tmp 14], argTypes := #[9] }, 4, _, #[⟨4, .data⟩], none⟩) rfl (fun K hK => ?_) AllReadyH.nil
        go_simp
        refine (l2Name_any _ _ z0).mono ?_
        rintro e w1 ⟨rfl, hE2⟩
        rw [hn]
        replace hcur := hcur.trans hE2
        go_wp2_with fail
        refine hK.out _ _ (HK.out _ hcur) (fun hHeld => ?_)
        clear hK K
        try simp only [Act.put, putA, putB, putC]
        refine tkL 6 ⟨some 16, .unOp .not 4 (.tmp 15), 4, _, #[⟨5, .data⟩], none⟩ ?_ hHeld ?yyA6 ?rrA6
        case yyA6 => (intro w hSw; (try dsimp only at hSw); go_simp; try with_reducible rfl)
        try simp only [Act.put, putA, putB, putC]
        refine tkL 7 ⟨some 17, .move (.tmp 16), 4, _, #[⟨6, .data⟩, ⟨5, .chain⟩], none⟩ ?_ hHeld ?yyA7 ?rrA7
        case yyA7 => (intro w hSw; (try dsimp only at hSw); go_simp; try with_reducible rfl)
        try simp only [Act.put, putA, putB, putC]
        refine tkR 8 ⟨some 18, .move (.tmp 0), 32, _, #[⟨7, .guard⟩], some (7, false)⟩ hHeld ?_
        try simp only [Act.put, putA, putB, putC]
        refine tkR 9 ⟨some 19, .move (.tmp 3), 3, _, #[⟨7, .guard⟩], some (7, false)⟩ hHeld ?_
        try simp only [Act.put, putA, putB, putC]
        refine tkR 10 ⟨some 20, .indexAddr 32 (.tmp 18) (.tmp 19), 0, _, #[⟨8, .data⟩, ⟨9, .data⟩, ⟨7, .guard⟩], some (7, false)⟩ hHeld ?_
        try simp only [Act.put, putA, putB, putC]
        refine tkR 11 ⟨some 21, .fieldAddr 75 (.tmp 20) 1, 0, _, #[⟨10, .data⟩, ⟨7, .guard⟩], some (7, false)⟩ hHeld ?_
        try simp only [Act.put, putA, putB, putC]
        refine tkR 12 ⟨some 22, .load 73 (.tmp 21), 73, _, #[⟨11, .data⟩, ⟨7, .guard⟩], some (7, false)⟩ hHeld ?_
        try simp only [Act.put, putA, putB, putC]
        refine wpAnyH_ready (rs := [13]) (by kernel_rfl) (by simp) ?_
        refine AllReadyH.cons (o := ⟨some 23, .call { callee := .value (.func 28), args := #[.tmp 22], argTypes := #[73] }, 4, _, #[⟨12, .data⟩, ⟨7, .chain⟩, ⟨7, .guard⟩], some (7, false)⟩) rfl (fun K hK => ?_) AllReadyH.nil
        rw [if_neg (by simp [Region.wanted, yielded])]
        refine hK.out _ _ hHeld (fun hHeld => ?_)
        clear hK K
        try simp only [Act.put, putA, putB, putC]
        refine tkR 14 ⟨some 24, .unOp .not 4 (.tmp 23), 4, _, #[⟨13, .data⟩, ⟨7, .guard⟩], some (7, false)⟩ hHeld ?_
        try simp only [Act.put, putA, putB, putC]
        refine tkL 15 ⟨some 25, .pick (.tmp 17) (.const (.bool true)) (.tmp 24), 4, _, #[⟨7, .data⟩, ⟨14, .data⟩], none⟩ ?_ hHeld ?yyA15 ?rrA15
        case yyA15 => (intro w hSw; (try dsimp only at hSw); go_simp; try with_reducible rfl)
        try simp only [Act.put, putA, putB, putC]
        refine tkL 16 ⟨some 26, .move (.tmp 25), 4, _, #[⟨15, .data⟩, ⟨13, .chain⟩], none⟩ ?_ hHeld ?yyA16 ?rrA16
        case yyA16 => (intro w hSw; (try dsimp only at hSw); go_simp; try with_reducible rfl)
        try simp only [Act.put, putA, putB, putC]
        refine tkR 17 ⟨some 27, .move (.tmp 0), 32, _, #[⟨16, .guard⟩], some (16, false)⟩ hHeld ?_
        try simp only [Act.put, putA, putB, putC]
        refine tkR 18 ⟨some 28, .move (.tmp 3), 3, _, #[⟨16, .guard⟩], some (16, false)⟩ hHeld ?_
        try simp only [Act.put, putA, putB, putC]
        refine tkR 19 ⟨some 29, .indexAddr 32 (.tmp 27) (.tmp 28), 0, _, #[⟨17, .data⟩, ⟨18, .data⟩, ⟨16, .guard⟩], some (16, false)⟩ hHeld ?_
        try simp only [Act.put, putA, putB, putC]
        refine tkR 20 ⟨some 30, .fieldAddr 75 (.tmp 29) 1, 0, _, #[⟨19, .data⟩, ⟨16, .guard⟩], some (16, false)⟩ hHeld ?_
        try simp only [Act.put, putA, putB, putC]
        refine tkR 21 ⟨some 31, .load 73 (.tmp 30), 73, _, #[⟨20, .data⟩, ⟨16, .guard⟩], some (16, false)⟩ hHeld ?_
        try simp only [Act.put, putA, putB, putC]
        refine wpAnyH_ready (rs := [22]) (by kernel_rfl) (by simp) ?_
        refine AllReadyH.cons (o := ⟨some 32, .call { callee := .value (.func 29), args := #[.tmp 31], argTypes := #[73] }, 4, _, #[⟨21, .data⟩, ⟨16, .chain⟩, ⟨16, .guard⟩], some (16, false)⟩) rfl (fun K hK => ?_) AllReadyH.nil
        rw [if_neg (by simp [Region.wanted, yielded])]
        refine hK.out _ _ hHeld (fun hHeld => ?_)
        clear hK K
        try simp only [Act.put, putA, putB, putC]
        refine tkR 23 ⟨some 33, .unOp .not 4 (.tmp 32), 4, _, #[⟨22, .data⟩, ⟨16, .guard⟩], some (16, false)⟩ hHeld ?_
        try simp only [Act.put, putA, putB, putC]
        refine tkL 24 ⟨some 34, .pick (.tmp 26) (.const (.bool true)) (.tmp 33), 4, _, #[⟨16, .data⟩, ⟨23, .data⟩], none⟩ ?_ hHeld ?yyA24 ?rrA24
        case yyA24 => (intro w hSw; (try dsimp only at hSw); go_simp; try with_reducible rfl)
        try simp only [Act.put, putA, putB, putC]
        refine tkL 25 ⟨some 35, .move (.tmp 34), 4, _, #[⟨24, .data⟩, ⟨22, .chain⟩], none⟩ ?_ hHeld ?yyA25 ?rrA25
        case yyA25 => (intro w hSw; (try dsimp only at hSw); go_simp; try with_reducible rfl)
        try simp only [Act.put, putA, putB, putC]
        refine tkR 26 ⟨some 36, .move (.tmp 3), 3, _, #[⟨25, .guard⟩], some (25, false)⟩ hHeld ?_
        try simp only [Act.put, putA, putB, putC]
        refine tkR 27 ⟨some 37, .binOp .gtr 3 (.tmp 36) (.const (.int .i64 0)) 3, 4, _, #[⟨26, .data⟩, ⟨25, .guard⟩], some (25, false)⟩ hHeld ?_
        try simp only [Act.put, putA, putB, putC]
        refine tkR 28 ⟨some 38, .move (.tmp 37), 4, _, #[⟨27, .data⟩, ⟨25, .chain⟩, ⟨25, .guard⟩], some (25, false)⟩ hHeld ?_
        try simp only [Act.put, putA, putB, putC]
        refine tkR 29 ⟨some 39, .move (.tmp 0), 32, _, #[⟨28, .guard⟩], some (28, true)⟩ hHeld ?_
        try simp only [Act.put, putA, putB, putC]
        refine tkR 30 ⟨some 40, .move (.tmp 3), 3, _, #[⟨28, .guard⟩], some (28, true)⟩ hHeld ?_
        try simp only [Act.put, putA, putB, putC]
        refine tkR 31 ⟨some 41, .binOp .sub 3 (.tmp 40) (.const (.int .i64 1)) 3, 3, _, #[⟨30, .data⟩, ⟨28, .guard⟩], some (28, true)⟩ hHeld ?_
        try simp only [Act.put, putA, putB, putC]
        refine tkR 32 ⟨some 42, .indexAddr 32 (.tmp 39) (.tmp 41), 0, _, #[⟨29, .data⟩, ⟨31, .data⟩, ⟨28, .guard⟩], some (28, true)⟩ hHeld ?_
        try simp only [Act.put, putA, putB, putC]
        refine tkR 33 ⟨some 43, .fieldAddr 75 (.tmp 42) 0, 0, _, #[⟨32, .data⟩, ⟨28, .guard⟩], some (28, true)⟩ hHeld ?_
        try simp only [Act.put, putA, putB, putC]
        refine tkR 34 ⟨some 44, .load 9 (.tmp 43), 9, _, #[⟨33, .data⟩, ⟨28, .guard⟩], some (28, true)⟩ hHeld ?_
        try simp only [Act.put, putA, putB, putC]
        refine tkR 35 ⟨some 45, .move (.tmp 0), 32, _, #[⟨28, .guard⟩], some (28, true)⟩ hHeld ?_
        try simp only [Act.put, putA, putB, putC]
        refine tkR 36 ⟨some 46, .move (.tmp 3), 3, _, #[⟨28, .guard⟩], some (28, true)⟩ hHeld ?_
        try simp only [Act.put, putA, putB, putC]
        refine tkR 37 ⟨some 47, .indexAddr 32 (.tmp 45) (.tmp 46), 0, _, #[⟨35, .data⟩, ⟨36, .data⟩, ⟨28, .guard⟩], some (28, true)⟩ hHeld ?_
        try simp only [Act.put, putA, putB, putC]
        refine tkR 38 ⟨some 48, .fieldAddr 75 (.tmp 47) 0, 0, _, #[⟨37, .data⟩, ⟨28, .guard⟩], some (28, true)⟩ hHeld ?_
        try simp only [Act.put, putA, putB, putC]
        refine tkR 39 ⟨some 49, .load 9 (.tmp 48), 9, _, #[⟨38, .data⟩, ⟨28, .guard⟩], some (28, true)⟩ hHeld ?_
        try simp only [Act.put, putA, putB, putC]
        refine tkR 40 ⟨some 50, .binOp .geq 9 (.tmp 44) (.tmp 49) 9, 4, _, #[⟨34, .data⟩, ⟨39, .data⟩, ⟨28, .guard⟩], some (28, true)⟩ hHeld ?_
        try simp only [Act.put, putA, putB, putC]
        refine tkR 41 ⟨some 51, .pick (.tmp 38) (.tmp 50) (.const (.bool false)), 4, _, #[⟨28, .data⟩, ⟨40, .data⟩, ⟨25, .guard⟩], some (25, false)⟩ hHeld ?_
        try simp only [Act.put, putA, putB, putC]
        refine tkL 42 ⟨some 52, .pick (.tmp 35) (.const (.bool true)) (.tmp 51), 4, _, #[⟨25, .data⟩, ⟨41, .data⟩], none⟩ ?_ hHeld ?yyA42 ?rrA42
        case yyA42 => (intro w hSw; (try dsimp only at hSw); go_simp; try with_reducible rfl)
        try simp only [Act.put, putA, putB, putC]
        refine wpAnyH_done (by kernel_rfl) ?_ _
        go_wp2
        go_ret
        exact ⟨ret_bool hfin.out.symm, hE.trans hcur⟩
      · cases ho : okN 3 X
        · have hfin : Hid (propsB (.list 5 len f) = false) := by show _ = _; rw [HB.out, all_no hlt (by rw [hLk.out, hn, ho]; rfl)]; rfl
          have HK : Hid (∀ W, Ext wr W → W.cell? ⟨b, off + k * 5, none⟩ = some (.string x0) ∧ W.cell? ⟨b, off + k * 5 + 1, none⟩ = some (.int .i64 x1) ∧ W.cell? ⟨b, off + k * 5 + 2, none⟩ = some (.int .i64 x2) ∧ W.cell? ⟨b, off + k * 5 + 3, none⟩ = some (.string x3) ∧ W.cell? ⟨b, off + k * 5 + 4, none⟩ = some (.slice a4 l4 cap4)) := hS0
          clear hS0
          have hcur : Ext wr wr.drew := (Ext.refl _).drew
          refine wp_region_held_drew (S := (fun W => W.cell? ⟨b, off + k * 5, none⟩ = some (.string x0) ∧ W.cell? ⟨b, off + k * 5 + 1, none⟩ = some (.int .i64 x1) ∧ W.cell? ⟨b, off + k * 5 + 2, none⟩ = some (.int .i64 x2) ∧ W.cell? ⟨b, off + k * 5 + 3, none⟩ = some (.string x3) ∧ W.cell? ⟨b, off + k * 5 + 4, none⟩ = some (.slice a4 l4 cap4))) (by kernel_rfl) (HK.out _ hcur) (fun hHeld => ?_)
          refine tkL 0 ⟨some 10, .move (.tmp 0), 32, _, #[], none⟩ ?_ hHeld ?yyB0 ?rrB0
          case yyB0 => (intro w hSw; (try dsimp only at hSw); go_simp; try with_reducible rfl)
          try simp only [Act.put, putA, putB, putC]
          refine tkL 1 ⟨some 11, .move (.tmp 3), 3, _, #[], none⟩ ?_ hHeld ?yyB1 ?rrB1
          case yyB1 => (intro w hSw; (try dsimp only at hSw); go_simp; try with_reducible rfl)
          try simp only [Act.put, putA, putB, putC]
          refine tkL 2 ⟨some 12, .indexAddr 32 (.tmp 10) (.tmp 11), 0, _, #[⟨0, .data⟩, ⟨1, .data⟩], none⟩ ?_ hHeld ?yyB2 ?rrB2
          case yyB2 => (intro w hSw; (try dsimp only at hSw); go_simp; try with_reducible rfl)
          try simp only [Act.put, putA, putB, putC]
          refine tkL 3 ⟨some 13, .fieldAddr 75 (.tmp 12) 0, 0, _, #[⟨2, .data⟩], none⟩ ?_ hHeld ?yyB3 ?rrB3
          case yyB3 => (intro w hSw; (try dsimp only at hSw); go_simp; try with_reducible rfl)
          try simp only [Act.put, putA, putB, putC]
          refine tkL 4 ⟨some 14, .load 9 (.tmp 13), 9, _, #[⟨3, .data⟩], none⟩ ?_ hHeld ?yyB4 ?rrB4
          case yyB4 => (intro w hSw; (try dsimp only at hSw); go_simp; try with_reducible rfl)
          try simp only [Act.put, putA, putB, putC]
          refine wpAnyH_ready (rs := [5]) (by kernel_rfl) (by simp) ?_
          refine AllReadyH.cons (o := ⟨some 15, .call { callee := .value (.func 14), args := #[.tmp 14], argTypes := #[9] }, 4, _, #[⟨4, .data⟩], none⟩) rfl (fun K hK => ?_) AllReadyH.nil
          go_simp
          refine (l2Name_any _ _ z0).mono ?_
          rintro e w1 ⟨rfl, hE2⟩
          rw [hn]
          replace hcur := hcur.trans hE2
          go_wp2_with fail
          refine hK.out _ _ (HK.out _ hcur) (fun hHeld => ?_)
          clear hK K
          try simp only [Act.put, putA, putB, putC]
          refine tkL 6 ⟨some 16, .unOp .not 4 (.tmp 15), 4, _, #[⟨5, .data⟩], none⟩ ?_ hHeld ?yyB6 ?rrB6
          case yyB6 => (intro w hSw; (try dsimp only at hSw); go_simp; try with_reducible rfl)
          try simp only [Act.put, putA, putB, putC]
          refine tkL 7 ⟨some 17, .move (.tmp 16), 4, _, #[⟨6, .data⟩, ⟨5, .chain⟩], none⟩ ?_ hHeld ?yyB7 ?rrB7
          case yyB7 => (intro w hSw; (try dsimp only at hSw); go_simp; try with_reducible rfl)
          try simp only [Act.put, putA, putB, putC]
          refine tkL 8 ⟨some 18, .move (.tmp 0), 32, _, #[⟨7, .guard⟩], some (7, false)⟩ ?_ hHeld ?yyB8 ?rrB8
          case yyB8 => (intro w hSw; (try dsimp only at hSw); go_simp; try with_reducible rfl)
          try simp only [Act.put, putA, putB, putC]
          refine tkL 9 ⟨some 19, .move (.tmp 3), 3, _, #[⟨7, .guard⟩], some (7, false)⟩ ?_ hHeld ?yyB9 ?rrB9
          case yyB9 => (intro w hSw; (try dsimp only at hSw); go_simp; try with_reducible rfl)
          try simp only [Act.put, putA, putB, putC]
          refine tkL 10 ⟨some 20, .indexAddr 32 (.tmp 18) (.tmp 19), 0, _, #[⟨8, .data⟩, ⟨9, .data⟩, ⟨7, .guard⟩], some (7, false)⟩ ?_ hHeld ?yyB10 ?rrB10
          case yyB10 => (intro w hSw; (try dsimp only at hSw); go_simp; try with_reducible rfl)
          try simp only [Act.put, putA, putB, putC]
          refine tkL 11 ⟨some 21, .fieldAddr 75 (.tmp 20) 1, 0, _, #[⟨10, .data⟩, ⟨7, .guard⟩], some (7, false)⟩ ?_ hHeld ?yyB11 ?rrB11
          case yyB11 => (intro w hSw; (try dsimp only at hSw); go_simp; try with_reducible rfl)
          try simp only [Act.put, putA, putB, putC]
          refine tkL 12 ⟨some 22, .load 73 (.tmp 21), 73, _, #[⟨11, .data⟩, ⟨7, .guard⟩], some (7, false)⟩ ?_ hHeld ?yyB12 ?rrB12
          case yyB12 => (intro w hSw; (try dsimp only at hSw); go_simp; try with_reducible rfl)
          try simp only [Act.put, putA, putB, putC]
          refine wpAnyH_ready (rs := [13]) (by kernel_rfl) (by simp) ?_
          refine AllReadyH.cons (o := ⟨some 23, .call { callee := .value (.func 28), args := #[.tmp 22], argTypes := #[73] }, 4, _, #[⟨12, .data⟩, ⟨7, .chain⟩, ⟨7, .guard⟩], some (7, false)⟩) rfl (fun K hK => ?_) AllReadyH.nil
          go_simp
          refine (specValueOk_any X 0 _ _ (hval _ hcur)).mono ?_
          rintro e w2 ⟨rfl, hE3⟩
          rw [ho]
          replace hcur := hcur.trans hE3
          go_wp2_with fail
          refine hK.out _ _ (HK.out _ hcur) (fun hHeld => ?_)
          clear hK K
          try simp only [Act.put, putA, putB, putC]
          refine tkL 14 ⟨some 24, .unOp .not 4 (.tmp 23), 4, _, #[⟨13, .data⟩, ⟨7, .guard⟩], some (7, false)⟩ ?_ hHeld ?yyB14 ?rrB14
          case yyB14 => (intro w hSw; (try dsimp only at hSw); go_simp; try with_reducible rfl)
          try simp only [Act.put, putA, putB, putC]
          refine tkL 15 ⟨some 25, .pick (.tmp 17) (.const (.bool true)) (.tmp 24), 4, _, #[⟨7, .data⟩, ⟨14, .data⟩], none⟩ ?_ hHeld ?yyB15 ?rrB15
          case yyB15 => (intro w hSw; (try dsimp only at hSw); go_simp; try with_reducible rfl)
          try simp only [Act.put, putA, putB, putC]
          refine tkL 16 ⟨some 26, .move (.tmp 25), 4, _, #[⟨15, .data⟩, ⟨13, .chain⟩], none⟩ ?_ hHeld ?yyB16 ?rrB16
          case yyB16 => (intro w hSw; (try dsimp only at hSw); go_simp; try with_reducible rfl)
          try simp only [Act.put, putA, putB, putC]
          refine tkR 17 ⟨some 27, .move (.tmp 0), 32, _, #[⟨16, .guard⟩], some (16, false)⟩ hHeld ?_
          try simp only [Act.put, putA, putB, putC]
          refine tkR 18 ⟨some 28, .move (.tmp 3), 3, _, #[⟨16, .guard⟩], some (16, false)⟩ hHeld ?_
          try simp only [Act.put, putA, putB, putC]
          refine tkR 19 ⟨some 29, .indexAddr 32 (.tmp 27) (.tmp 28), 0, _, #[⟨17, .data⟩, ⟨18, .data⟩, ⟨16, .guard⟩], some (16, false)⟩ hHeld ?_
          try simp only [Act.put, putA, putB, putC]
          refine tkR 20 ⟨some 30, .fieldAddr 75 (.tmp 29) 1, 0, _, #[⟨19, .data⟩, ⟨16, .guard⟩], some (16, false)⟩ hHeld ?_
          try simp only [Act.put, putA, putB, putC]
          refine tkR 21 ⟨some 31, .load 73 (.tmp 30), 73, _, #[⟨20, .data⟩, ⟨16, .guard⟩], some (16, false)⟩ hHeld ?_
          try simp only [Act.put, putA, putB, putC]
          refine wpAnyH_ready (rs := [22]) (by kernel_rfl) (by simp) ?_
          refine AllReadyH.cons (o := ⟨some 32, .call { callee := .value (.func 29), args := #[.tmp 31], argTypes := #[73] }, 4, _, #[⟨21, .data⟩, ⟨16, .chain⟩, ⟨16, .guard⟩], some (16, false)⟩) rfl (fun K hK => ?_) AllReadyH.nil
          rw [if_neg (by simp [Region.wanted, yielded])]
          refine hK.out _ _ hHeld (fun hHeld => ?_)
          clear hK K
          try simp only [Act.put, putA, putB, putC]
          refine tkR 23 ⟨some 33, .unOp .not 4 (.tmp 32), 4, _, #[⟨22, .data⟩, ⟨16, .guard⟩], some (16, false)⟩ hHeld ?_
          try simp only [Act.put, putA, putB, putC]
          refine tkL 24 ⟨some 34, .pick (.tmp 26) (.const (.bool true)) (.tmp 33), 4, _, #[⟨16, .data⟩, ⟨23, .data⟩], none⟩ ?_ hHeld ?yyB24 ?rrB24
          case yyB24 => (intro w hSw; (try dsimp only at hSw); go_simp; try with_reducible rfl)
          try simp only [Act.put, putA, putB, putC]
          refine tkL 25 ⟨some 35, .move (.tmp 34), 4, _, #[⟨24, .data⟩, ⟨22, .chain⟩], none⟩ ?_ hHeld ?yyB25 ?rrB25
          case yyB25 => (intro w hSw; (try dsimp only at hSw); go_simp; try with_reducible rfl)
          try simp only [Act.put, putA, putB, putC]
          refine tkR 26 ⟨some 36, .move (.tmp 3), 3, _, #[⟨25, .guard⟩], some (25, false)⟩ hHeld ?_
          try simp only [Act.put, putA, putB, putC]
          refine tkR 27 ⟨some 37, .binOp .gtr 3 (.tmp 36) (.const (.int .i64 0)) 3, 4, _, #[⟨26, .data⟩, ⟨25, .guard⟩], some (25, false)⟩ hHeld ?_
          try simp only [Act.put, putA, putB, putC]
          refine tkR 28 ⟨some 38, .move (.tmp 37), 4, _, #[⟨27, .data⟩, ⟨25, .chain⟩, ⟨25, .guard⟩], some (25, false)⟩ hHeld ?_
          try simp only [Act.put, putA, putB, putC]
          refine tkR 29 ⟨some 39, .move (.tmp 0), 32, _, #[⟨28, .guard⟩], some (28, true)⟩ hHeld ?_
          try simp only [Act.put, putA, putB, putC]
          refine tkR 30 ⟨some 40, .move (.tmp 3), 3, _, #[⟨28, .guard⟩], some (28, true)⟩ hHeld ?_
          try simp only [Act.put, putA, putB, putC]
          refine tkR 31 ⟨some 41, .binOp .sub 3 (.tmp 40) (.const (.int .i64 1)) 3, 3, _, #[⟨30, .data⟩, ⟨28, .guard⟩], some (28, true)⟩ hHeld ?_
          try simp only [Act.put, putA, putB, putC]
          refine tkR 32 ⟨some 42, .indexAddr 32 (.tmp 39) (.tmp 41), 0, _, #[⟨29, .data⟩, ⟨31, .data⟩, ⟨28, .guard⟩], some (28, true)⟩ hHeld ?_
          try simp only [Act.put, putA, putB, putC]
          refine tkR 33 ⟨some 43, .fieldAddr 75 (.tmp 42) 0, 0, _, #[⟨32, .data⟩, ⟨28, .guard⟩], some (28, true)⟩ hHeld ?_
          try simp only [Act.put, putA, putB, putC]
          refine tkR 34 ⟨some 44, .load 9 (.tmp 43), 9, _, #[⟨33, .data⟩, ⟨28, .guard⟩], some (28, true)⟩ hHeld ?_
          try simp only [Act.put, putA, putB, putC]
          refine tkR 35 ⟨some 45, .move (.tmp 0), 32, _, #[⟨28, .guard⟩], some (28, true)⟩ hHeld ?_
          try simp only [Act.put, putA, putB, putC]
          refine tkR 36 ⟨some 46, .move (.tmp 3), 3, _, #[⟨28, .guard⟩], some (28, true)⟩ hHeld ?_
          try simp only [Act.put, putA, putB, putC]
          refine tkR 37 ⟨some 47, .indexAddr 32 (.tmp 45) (.tmp 46), 0, _, #[⟨35, .data⟩, ⟨36, .data⟩, ⟨28, .guard⟩], some (28, true)⟩ hHeld ?_
          try simp only [Act.put, putA, putB, putC]
          refine tkR 38 ⟨some 48, .fieldAddr 75 (.tmp 47) 0, 0, _, #[⟨37, .data⟩, ⟨28, .guard⟩], some (28, true)⟩ hHeld ?_
          try simp only [Act.put, putA, putB, putC]
          refine tkR 39 ⟨some 49, .load 9 (.tmp 48), 9, _, #[⟨38, .data⟩, ⟨28, .guard⟩], some (28, true)⟩ hHeld ?_
          try simp only [Act.put, putA, putB, putC]
          refine tkR 40 ⟨some 50, .binOp .geq 9 (.tmp 44) (.tmp 49) 9, 4, _, #[⟨34, .data⟩, ⟨39, .data⟩, ⟨28, .guard⟩], some (28, true)⟩ hHeld ?_
          try simp only [Act.put, putA, putB, putC]
          refine tkR 41 ⟨some 51, .pick (.tmp 38) (.tmp 50) (.const (.bool false)), 4, _, #[⟨28, .data⟩, ⟨40, .data⟩, ⟨25, .guard⟩], some (25, false)⟩ hHeld ?_
          try simp only [Act.put, putA, putB, putC]
          refine tkL 42 ⟨some 52, .pick (.tmp 35) (.const (.bool true)) (.tmp 51), 4, _, #[⟨25, .data⟩, ⟨41, .data⟩], none⟩ ?_ hHeld ?yyB42 ?rrB42
          case yyB42 => (intro w hSw; (try dsimp only at hSw); go_simp; try with_reducible rfl)
          try simp only [Act.put, putA, putB, putC]
          refine wpAnyH_done (by kernel_rfl) ?_ _
          go_wp2
          go_ret
          exact ⟨ret_bool hfin.out.symm, hE.trans hcur⟩
        · cases hp : plainB X
          · have hfin : Hid (propsB (.list 5 len f) = false) := by show _ = _; rw [HB.out, all_no hlt (by rw [hLk.out, hn, ho, hp]; rfl)]; rfl
            have HK : Hid (∀ W, Ext wr W → W.cell? ⟨b, off + k * 5, none⟩ = some (.string x0) ∧ W.cell? ⟨b, off + k * 5 + 1, none⟩ = some (.int .i64 x1) ∧ W.cell? ⟨b, off + k * 5 + 2, none⟩ = some (.int .i64 x2) ∧ W.cell? ⟨b, off + k * 5 + 3, none⟩ = some (.string x3) ∧ W.cell? ⟨b, off + k * 5 + 4, none⟩ = some (.slice a4 l4 cap4)) := hS0
            clear hS0
            have hcur : Ext wr wr.drew := (Ext.refl _).drew
            refine wp_region_held_drew (S := (fun W => W.cell? ⟨b, off + k * 5, none⟩ = some (.string x0) ∧ W.cell? ⟨b, off + k * 5 + 1, none⟩ = some (.int .i64 x1) ∧ W.cell? ⟨b, off + k * 5 + 2, none⟩ = some (.int .i64 x2) ∧ W.cell? ⟨b, off + k * 5 + 3, none⟩ = some (.string x3) ∧ W.cell? ⟨b, off + k * 5 + 4, none⟩ = some (.slice a4 l4 cap4))) (by kernel_rfl) (HK.out _ hcur) (fun hHeld => ?_)
            refine tkL 0 ⟨some 10, .move (.tmp 0), 32, _, #[], none⟩ ?_ hHeld ?yyC0 ?rrC0
            case yyC0 => (intro w hSw; (try dsimp only at hSw); go_simp; try with_reducible rfl)
            try simp only [Act.put, putA, putB, putC]
            refine tkL 1 ⟨some 11, .move (.tmp 3), 3, _, #[], none⟩ ?_ hHeld ?yyC1 ?rrC1
            case yyC1 => (intro w hSw; (try dsimp only at hSw); go_simp; try with_reducible rfl)
            try simp only [Act.put, putA, putB, putC]
            refine tkL 2 ⟨some 12, .indexAddr 32 (.tmp 10) (.tmp 11), 0, _, #[⟨0, .data⟩, ⟨1, .data⟩], none⟩ ?_ hHeld ?yyC2 ?rrC2
            case yyC2 => (intro w hSw; (try dsimp only at hSw); go_simp; try with_reducible rfl)
            try simp only [Act.put, putA, putB, putC]
            refine tkL 3 ⟨some 13, .fieldAddr 75 (.tmp 12) 0, 0, _, #[⟨2, .data⟩], none⟩ ?_ hHeld ?yyC3 ?rrC3
            case yyC3 => (intro w hSw; (try dsimp only at hSw); go_simp; try with_reducible rfl)
            try simp only [Act.put, putA, putB, putC]
            refine tkL 4 ⟨some 14, .load 9 (.tmp 13), 9, _, #[⟨3, .data⟩], none⟩ ?_ hHeld ?yyC4 ?rrC4
            case yyC4 => (intro w hSw; (try dsimp only at hSw); go_simp; try with_reducible rfl)
            try simp only [Act.put, putA, putB, putC]
            refine wpAnyH_ready (rs := [5]) (by kernel_rfl) (by simp) ?_
            refine AllReadyH.cons (o := ⟨some 15, .call { callee := .value (.func 14), args := #[.tmp 14], argTypes := #[9] }, 4, _, #[⟨4, .data⟩], none⟩) rfl (fun K hK => ?_) AllReadyH.nil
            go_simp
            refine (l2Name_any _ _ z0).mono ?_
            rintro e w1 ⟨rfl, hE2⟩
            rw [hn]
            replace hcur := hcur.trans hE2
            go_wp2_with fail
            refine hK.out _ _ (HK.out _ hcur) (fun hHeld => ?_)
            clear hK K
            try simp only [Act.put, putA, putB, putC]
            refine tkL 6 ⟨some 16, .unOp .not 4 (.tmp 15), 4, _, #[⟨5, .data⟩], none⟩ ?_ hHeld ?yyC6 ?rrC6
            case yyC6 => (intro w hSw; (try dsimp only at hSw); go_simp; try with_reducible rfl)
            try simp only [Act.put, putA, putB, putC]
            refine tkL 7 ⟨some 17, .move (.tmp 16), 4, _, #[⟨6, .data⟩, ⟨5, .chain⟩], none⟩ ?_ hHeld ?yyC7 ?rrC7
            case yyC7 => (intro w hSw; (try dsimp only at hSw); go_simp; try with_reducible rfl)
            try simp only [Act.put, putA, putB, putC]
            refine tkL 8 ⟨some 18, .move (.tmp 0), 32, _, #[⟨7, .guard⟩], some (7, false)⟩ ?_ hHeld ?yyC8 ?rrC8
            case yyC8 => (intro w hSw; (try dsimp only at hSw); go_simp; try with_reducible rfl)
            try simp only [Act.put, putA, putB, putC]
            refine tkL 9 ⟨some 19, .move (.tmp 3), 3, _, #[⟨7, .guard⟩], some (7, false)⟩ ?_ hHeld ?yyC9 ?rrC9
            case yyC9 => (intro w hSw; (try dsimp only at hSw); go_simp; try with_reducible rfl)
            try simp only [Act.put, putA, putB, putC]
            refine tkL 10 ⟨some 20, .indexAddr 32 (.tmp 18) (.tmp 19), 0, _, #[⟨8, .data⟩, ⟨9, .data⟩, ⟨7, .guard⟩], some (7, false)⟩ ?_ hHeld ?yyC10 ?rrC10
            case yyC10 => (intro w hSw; (try dsimp only at hSw); go_simp; try with_reducible rfl)
            try simp only [Act.put, putA, putB, putC]
            refine tkL 11 ⟨some 21, .fieldAddr 75 (.tmp 20) 1, 0, _, #[⟨10, .data⟩, ⟨7, .guard⟩], some (7, false)⟩ ?_ hHeld ?yyC11 ?rrC11
            case yyC11 => (intro w hSw; (try dsimp only at hSw); go_simp; try with_reducible rfl)
            try simp only [Act.put, putA, putB, putC]
            refine tkL 12 ⟨some 22, .load 73 (.tmp 21), 73, _, #[⟨11, .data⟩, ⟨7, .guard⟩], some (7, false)⟩ ?_ hHeld ?yyC12 ?rrC12
            case yyC12 => (intro w hSw; (try dsimp only at hSw); go_simp; try with_reducible rfl)
            try simp only [Act.put, putA, putB, putC]
            refine wpAnyH_ready (rs := [13]) (by kernel_rfl) (by simp) ?_
            refine AllReadyH.cons (o := ⟨some 23, .call { callee := .value (.func 28), args := #[.tmp 22], argTypes := #[73] }, 4, _, #[⟨12, .data⟩, ⟨7, .chain⟩, ⟨7, .guard⟩], some (7, false)⟩) rfl (fun K hK => ?_) AllReadyH.nil
            go_simp
            refine (specValueOk_any X 0 _ _ (hval _ hcur)).mono ?_
            rintro e w2 ⟨rfl, hE3⟩
            rw [ho]
            replace hcur := hcur.trans hE3
            go_wp2_with fail
            refine hK.out _ _ (HK.out _ hcur) (fun hHeld => ?_)
            clear hK K
            try simp only [Act.put, putA, putB, putC]
            refine tkL 14 ⟨some 24, .unOp .not 4 (.tmp 23), 4, _, #[⟨13, .data⟩, ⟨7, .guard⟩], some (7, false)⟩ ?_ hHeld ?yyC14 ?rrC14
            case yyC14 => (intro w hSw; (try dsimp only at hSw); go_simp; try with_reducible rfl)
            try simp only [Act.put, putA, putB, putC]
            refine tkL 15 ⟨some 25, .pick (.tmp 17) (.const (.bool true)) (.tmp 24), 4, _, #[⟨7, .data⟩, ⟨14, .data⟩], none⟩ ?_ hHeld ?yyC15 ?rrC15
            case yyC15 => (intro w hSw; (try dsimp only at hSw); go_simp; try with_reducible rfl)
            try simp only [Act.put, putA, putB, putC]
            refine tkL 16 ⟨some 26, .move (.tmp 25), 4, _, #[⟨15, .data⟩, ⟨13, .chain⟩], none⟩ ?_ hHeld ?yyC16 ?rrC16
            case yyC16 => (intro w hSw; (try dsimp only at hSw); go_simp; try with_reducible rfl)
            try simp only [Act.put, putA, putB, putC]
            refine tkL 17 ⟨some 27, .move (.tmp 0), 32, _, #[⟨16, .guard⟩], some (16, false)⟩ ?_ hHeld ?yyC17 ?rrC17
            case yyC17 => (intro w hSw; (try dsimp only at hSw); go_simp; try with_reducible rfl)
            try simp only [Act.put, putA, putB, putC]
            refine tkL 18 ⟨some 28, .move (.tmp 3), 3, _, #[⟨16, .guard⟩], some (16, false)⟩ ?_ hHeld ?yyC18 ?rrC18
            case yyC18 => (intro w hSw; (try dsimp only at hSw); go_simp; try with_reducible rfl)
            try simp only [Act.put, putA, putB, putC]
            refine tkL 19 ⟨some 29, .indexAddr 32 (.tmp 27) (.tmp 28), 0, _, #[⟨17, .data⟩, ⟨18, .data⟩, ⟨16, .guard⟩], some (16, false)⟩ ?_ hHeld ?yyC19 ?rrC19
            case yyC19 => (intro w hSw; (try dsimp only at hSw); go_simp; try with_reducible rfl)
            try simp only [Act.put, putA, putB, putC]
            refine tkL 20 ⟨some 30, .fieldAddr 75 (.tmp 29) 1, 0, _, #[⟨19, .data⟩, ⟨16, .guard⟩], some (16, false)⟩ ?_ hHeld ?yyC20 ?rrC20
            case yyC20 => (intro w hSw; (try dsimp only at hSw); go_simp; try with_reducible rfl)
            try simp only [Act.put, putA, putB, putC]
            refine tkL 21 ⟨some 31, .load 73 (.tmp 30), 73, _, #[⟨20, .data⟩, ⟨16, .guard⟩], some (16, false)⟩ ?_ hHeld ?yyC21 ?rrC21
            case yyC21 => (intro w hSw; (try dsimp only at hSw); go_simp; try with_reducible rfl)
            try simp only [Act.put, putA, putB, putC]
            refine wpAnyH_ready (rs := [22]) (by kernel_rfl) (by simp) ?_
            refine AllReadyH.cons (o := ⟨some 32, .call { callee := .value (.func 29), args := #[.tmp 31], argTypes := #[73] }, 4, _, #[⟨21, .data⟩, ⟨16, .chain⟩, ⟨16, .guard⟩], some (16, false)⟩) rfl (fun K hK => ?_) AllReadyH.nil
            go_simp
            refine (l2Plain_any X 0 _ _ (hval _ hcur)).mono ?_
            rintro e w3 ⟨rfl, hE4⟩
            rw [hp]
            replace hcur := hcur.trans hE4
            go_wp2_with fail
            refine hK.out _ _ (HK.out _ hcur) (fun hHeld => ?_)
            clear hK K
            try simp only [Act.put, putA, putB, putC]
            refine tkL 23 ⟨some 33, .unOp .not 4 (.tmp 32), 4, _, #[⟨22, .data⟩, ⟨16, .guard⟩], some (16, false)⟩ ?_ hHeld ?yyC23 ?rrC23
            case yyC23 => (intro w hSw; (try dsimp only at hSw); go_simp; try with_reducible rfl)
            try simp only [Act.put, putA, putB, putC]
            refine tkL 24 ⟨some 34, .pick (.tmp 26) (.const (.bool true)) (.tmp 33), 4, _, #[⟨16, .data⟩, ⟨23, .data⟩], none⟩ ?_ hHeld ?yyC24 ?rrC24
            case yyC24 => (intro w hSw; (try dsimp only at hSw); go_simp; try with_reducible rfl)
            try simp only [Act.put, putA, putB, putC]
            refine tkL 25 ⟨some 35, .move (.tmp 34), 4, _, #[⟨24, .data⟩, ⟨22, .chain⟩], none⟩ ?_ hHeld ?yyC25 ?rrC25
            case yyC25 => (intro w hSw; (try dsimp only at hSw); go_simp; try with_reducible rfl)
            try simp only [Act.put, putA, putB, putC]
            refine tkR 26 ⟨some 36, .move (.tmp 3), 3, _, #[⟨25, .guard⟩], some (25, false)⟩ hHeld ?_
            try simp only [Act.put, putA, putB, putC]
            refine tkR 27 ⟨some 37, .binOp .gtr 3 (.tmp 36) (.const (.int .i64 0)) 3, 4, _, #[⟨26, .data⟩, ⟨25, .guard⟩], some (25, false)⟩ hHeld ?_
            try simp only [Act.put, putA, putB, putC]
            refine tkR 28 ⟨some 38, .move (.tmp 37), 4, _, #[⟨27, .data⟩, ⟨25, .chain⟩, ⟨25, .guard⟩], some (25, false)⟩ hHeld ?_
            try simp only [Act.put, putA, putB, putC]
            refine tkR 29 ⟨some 39, .move (.tmp 0), 32, _, #[⟨28, .guard⟩], some (28, true)⟩ hHeld ?_
            try simp only [Act.put, putA, putB, putC]
            refine tkR 30 ⟨some 40, .move (.tmp 3), 3, _, #[⟨28, .guard⟩], some (28, true)⟩ hHeld ?_
            try simp only [Act.put, putA, putB, putC]
            refine tkR 31 ⟨some 41, .binOp .sub 3 (.tmp 40) (.const (.int .i64 1)) 3, 3, _, #[⟨30, .data⟩, ⟨28, .guard⟩], some (28, true)⟩ hHeld ?_
            try simp only [Act.put, putA, putB, putC]
            refine tkR 32 ⟨some 42, .indexAddr 32 (.tmp 39) (.tmp 41), 0, _, #[⟨29, .data⟩, ⟨31, .data⟩, ⟨28, .guard⟩], some (28, true)⟩ hHeld ?_
            try simp only [Act.put, putA, putB, putC]
            refine tkR 33 ⟨some 43, .fieldAddr 75 (.tmp 42) 0, 0, _, #[⟨32, .data⟩, ⟨28, .guard⟩], some (28, true)⟩ hHeld ?_
            try simp only [Act.put, putA, putB, putC]
            refine tkR 34 ⟨some 44, .load 9 (.tmp 43), 9, _, #[⟨33, .data⟩, ⟨28, .guard⟩], some (28, true)⟩ hHeld ?_
            try simp only [Act.put, putA, putB, putC]
            refine tkR 35 ⟨some 45, .move (.tmp 0), 32, _, #[⟨28, .guard⟩], some (28, true)⟩ hHeld ?_
            try simp only [Act.put, putA, putB, putC]
            refine tkR 36 ⟨some 46, .move (.tmp 3), 3, _, #[⟨28, .guard⟩], some (28, true)⟩ hHeld ?_
            try simp only [Act.put, putA, putB, putC]
            refine tkR 37 ⟨some 47, .indexAddr 32 (.tmp 45) (.tmp 46), 0, _, #[⟨35, .data⟩, ⟨36, .data⟩, ⟨28, .guard⟩], some (28, true)⟩ hHeld ?_
            try simp only [Act.put, putA, putB, putC]
            refine tkR 38 ⟨some 48, .fieldAddr 75 (.tmp 47) 0, 0, _, #[⟨37, .data⟩, ⟨28, .guard⟩], some (28, true)⟩ hHeld ?_
            try simp only [Act.put, putA, putB, putC]
            refine tkR 39 ⟨some 49, .load 9 (.tmp 48), 9, _, #[⟨38, .data⟩, ⟨28, .guard⟩], some (28, true)⟩ hHeld ?_
            try simp only [Act.put, putA, putB, putC]
            refine tkR 40 ⟨some 50, .binOp .geq 9 (.tmp 44) (.tmp 49) 9, 4, _, #[⟨34, .data⟩, ⟨39, .data⟩, ⟨28, .guard⟩], some (28, true)⟩ hHeld ?_
            try simp only [Act.put, putA, putB, putC]
            refine tkR 41 ⟨some 51, .pick (.tmp 38) (.tmp 50) (.const (.bool false)), 4, _, #[⟨28, .data⟩, ⟨40, .data⟩, ⟨25, .guard⟩], some (25, false)⟩ hHeld ?_
            try simp only [Act.put, putA, putB, putC]
            refine tkL 42 ⟨some 52, .pick (.tmp 35) (.const (.bool true)) (.tmp 51), 4, _, #[⟨25, .data⟩, ⟨41, .data⟩], none⟩ ?_ hHeld ?yyC42 ?rrC42
            case yyC42 => (intro w hSw; (try dsimp only at hSw); go_simp; try with_reducible rfl)
            try simp only [Act.put, putA, putB, putC]
            refine wpAnyH_done (by kernel_rfl) ?_ _
            go_wp2
            go_ret
            exact ⟨ret_bool hfin.out.symm, hE.trans hcur⟩
          · by_cases hk0 : k = 0
            · subst hk0
              have hok : Hid (propB f 0 = true) := by show _ = _; rw [hLk.out, hn, ho, hp]; rfl
              simp only [Nat.zero_mul, Nat.add_zero] at hS0
              have HK : Hid (∀ W, Ext wr W → W.cell? ⟨b, off, none⟩ = some (.string x0) ∧ W.cell? ⟨b, off + 1, none⟩ = some (.int .i64 x1) ∧ W.cell? ⟨b, off + 2, none⟩ = some (.int .i64 x2) ∧ W.cell? ⟨b, off + 3, none⟩ = some (.string x3) ∧ W.cell? ⟨b, off + 4, none⟩ = some (.slice a4 l4 cap4)) := hS0
              clear hS0
              have hcur : Ext wr wr.drew := (Ext.refl _).drew
              refine wp_region_held_drew (S := (fun W => W.cell? ⟨b, off, none⟩ = some (.string x0) ∧ W.cell? ⟨b, off + 1, none⟩ = some (.int .i64 x1) ∧ W.cell? ⟨b, off + 2, none⟩ = some (.int .i64 x2) ∧ W.cell? ⟨b, off + 3, none⟩ = some (.string x3) ∧ W.cell? ⟨b, off + 4, none⟩ = some (.slice a4 l4 cap4))) (by kernel_rfl) (HK.out _ hcur) (fun hHeld => ?_)
              refine tkL 0 ⟨some 10, .move (.tmp 0), 32, _, #[], none⟩ ?_ hHeld ?yyD0 ?rrD0
              case yyD0 => (intro w hSw; (try dsimp only at hSw); go_simp; try with_reducible rfl)
              try simp only [Act.put, putA, putB, putC]
              refine tkL 1 ⟨some 11, .move (.tmp 3), 3, _, #[], none⟩ ?_ hHeld ?yyD1 ?rrD1
              case yyD1 => (intro w hSw; (try dsimp only at hSw); go_simp; try with_reducible rfl)
              try simp only [Act.put, putA, putB, putC]
              refine tkL 2 ⟨some 12, .indexAddr 32 (.tmp 10) (.tmp 11), 0, _, #[⟨0, .data⟩, ⟨1, .data⟩], none⟩ ?_ hHeld ?yyD2 ?rrD2
              case yyD2 => (intro w hSw; (try dsimp only at hSw); go_simp; try with_reducible rfl)
              try simp only [Act.put, putA, putB, putC]
              refine tkL 3 ⟨some 13, .fieldAddr 75 (.tmp 12) 0, 0, _, #[⟨2, .data⟩], none⟩ ?_ hHeld ?yyD3 ?rrD3
              case yyD3 => (intro w hSw; (try dsimp only at hSw); go_simp; try with_reducible rfl)
              try simp only [Act.put, putA, putB, putC]
              refine tkL 4 ⟨some 14, .load 9 (.tmp 13), 9, _, #[⟨3, .data⟩], none⟩ ?_ hHeld ?yyD4 ?rrD4
              case yyD4 => (intro w hSw; (try dsimp only at hSw); go_simp; try with_reducible rfl)
              try simp only [Act.put, putA, putB, putC]
              refine wpAnyH_ready (rs := [5]) (by kernel_rfl) (by simp) ?_
              refine AllReadyH.cons (o := ⟨some 15, .call { callee := .value (.func 14), args := #[.tmp 14], argTypes := #[9] }, 4, _, #[⟨4, .data⟩], none⟩) rfl (fun K hK => ?_) AllReadyH.nil
              go_simp
              refine (l2Name_any _ _ z0).mono ?_
              rintro e w1 ⟨rfl, hE2⟩
              rw [hn]
              replace hcur := hcur.trans hE2
              go_wp2_with fail
              refine hK.out _ _ (HK.out _ hcur) (fun hHeld => ?_)
              clear hK K
              try simp only [Act.put, putA, putB, putC]
              refine tkL 6 ⟨some 16, .unOp .not 4 (.tmp 15), 4, _, #[⟨5, .data⟩], none⟩ ?_ hHeld ?yyD6 ?rrD6
              case yyD6 => (intro w hSw; (try dsimp only at hSw); go_simp; try with_reducible rfl)
              try simp only [Act.put, putA, putB, putC]
              refine tkL 7 ⟨some 17, .move (.tmp 16), 4, _, #[⟨6, .data⟩, ⟨5, .chain⟩], none⟩ ?_ hHeld ?yyD7 ?rrD7
              case yyD7 => (intro w hSw; (try dsimp only at hSw); go_simp; try with_reducible rfl)
              try simp only [Act.put, putA, putB, putC]
              refine tkL 8 ⟨some 18, .move (.tmp 0), 32, _, #[⟨7, .guard⟩], some (7, false)⟩ ?_ hHeld ?yyD8 ?rrD8
              case yyD8 => (intro w hSw; (try dsimp only at hSw); go_simp; try with_reducible rfl)
              try simp only [Act.put, putA, putB, putC]
              refine tkL 9 ⟨some 19, .move (.tmp 3), 3, _, #[⟨7, .guard⟩], some (7, false)⟩ ?_ hHeld ?yyD9 ?rrD9
              case yyD9 => (intro w hSw; (try dsimp only at hSw); go_simp; try with_reducible rfl)
              try simp only [Act.put, putA, putB, putC]
              refine tkL 10 ⟨some 20, .indexAddr 32 (.tmp 18) (.tmp 19), 0, _, #[⟨8, .data⟩, ⟨9, .data⟩, ⟨7, .guard⟩], some (7, false)⟩ ?_ hHeld ?yyD10 ?rrD10
              case yyD10 => (intro w hSw; (try dsimp only at hSw); go_simp; try with_reducible rfl)
              try simp only [Act.put, putA, putB, putC]
              refine tkL 11 ⟨some 21, .fieldAddr 75 (.tmp 20) 1, 0, _, #[⟨10, .data⟩, ⟨7, .guard⟩], some (7, false)⟩ ?_ hHeld ?yyD11 ?rrD11
              case yyD11 => (intro w hSw; (try dsimp only at hSw); go_simp; try with_reducible rfl)
              try simp only [Act.put, putA, putB, putC]
              refine tkL 12 ⟨some 22, .load 73 (.tmp 21), 73, _, #[⟨11, .data⟩, ⟨7, .guard⟩], some (7, false)⟩ ?_ hHeld ?yyD12 ?rrD12
              case yyD12 => (intro w hSw; (try dsimp only at hSw); go_simp; try with_reducible rfl)
              try simp only [Act.put, putA, putB, putC]
              refine wpAnyH_ready (rs := [13]) (by kernel_rfl) (by simp) ?_
              refine AllReadyH.cons (o := ⟨some 23, .call { callee := .value (.func 28), args := #[.tmp 22], argTypes := #[73] }, 4, _, #[⟨12, .data⟩, ⟨7, .chain⟩, ⟨7, .guard⟩], some (7, false)⟩) rfl (fun K hK => ?_) AllReadyH.nil
              go_simp
              refine (specValueOk_any X 0 _ _ (hval _ hcur)).mono ?_
              rintro e w2 ⟨rfl, hE3⟩
              rw [ho]
              replace hcur := hcur.trans hE3
              go_wp2_with fail
              refine hK.out _ _ (HK.out _ hcur) (fun hHeld => ?_)
              clear hK K
              try simp only [Act.put, putA, putB, putC]
              refine tkL 14 ⟨some 24, .unOp .not 4 (.tmp 23), 4, _, #[⟨13, .data⟩, ⟨7, .guard⟩], some (7, false)⟩ ?_ hHeld ?yyD14 ?rrD14
              case yyD14 => (intro w hSw; (try dsimp only at hSw); go_simp; try with_reducible rfl)
              try simp only [Act.put, putA, putB, putC]
              refine tkL 15 ⟨some 25, .pick (.tmp 17) (.const (.bool true)) (.tmp 24), 4, _, #[⟨7, .data⟩, ⟨14, .data⟩], none⟩ ?_ hHeld ?yyD15 ?rrD15
              case yyD15 => (intro w hSw; (try dsimp only at hSw); go_simp; try with_reducible rfl)
              try simp only [Act.put, putA, putB, putC]
              refine tkL 16 ⟨some 26, .move (.tmp 25), 4, _, #[⟨15, .data⟩, ⟨13, .chain⟩], none⟩ ?_ hHeld ?yyD16 ?rrD16
              case yyD16 => (intro w hSw; (try dsimp only at hSw); go_simp; try with_reducible rfl)
              try simp only [Act.put, putA, putB, putC]
              refine tkL 17 ⟨some 27, .move (.tmp 0), 32, _, #[⟨16, .guard⟩], some (16, false)⟩ ?_ hHeld ?yyD17 ?rrD17
              case yyD17 => (intro w hSw; (try dsimp only at hSw); go_simp; try with_reducible rfl)
              try simp only [Act.put, putA, putB, putC]
              refine tkL 18 ⟨some 28, .move (.tmp 3), 3, _, #[⟨16, .guard⟩], some (16, false)⟩ ?_ hHeld ?yyD18 ?rrD18
              case yyD18 => (intro w hSw; (try dsimp only at hSw); go_simp; try with_reducible rfl)
              try simp only [Act.put, putA, putB, putC]
              refine tkL 19 ⟨some 29, .indexAddr 32 (.tmp 27) (.tmp 28), 0, _, #[⟨17, .data⟩, ⟨18, .data⟩, ⟨16, .guard⟩], some (16, false)⟩ ?_ hHeld ?yyD19 ?rrD19
              case yyD19 => (intro w hSw; (try dsimp only at hSw); go_simp; try with_reducible rfl)
              try simp only [Act.put, putA, putB, putC]
              refine tkL 20 ⟨some 30, .fieldAddr 75 (.tmp 29) 1, 0, _, #[⟨19, .data⟩, ⟨16, .guard⟩], some (16, false)⟩ ?_ hHeld ?yyD20 ?rrD20
              case yyD20 => (intro w hSw; (try dsimp only at hSw); go_simp; try with_reducible rfl)
              try simp only [Act.put, putA, putB, putC]
              refine tkL 21 ⟨some 31, .load 73 (.tmp 30), 73, _, #[⟨20, .data⟩, ⟨16, .guard⟩], some (16, false)⟩ ?_ hHeld ?yyD21 ?rrD21
              case yyD21 => (intro w hSw; (try dsimp only at hSw); go_simp; try with_reducible rfl)
              try simp only [Act.put, putA, putB, putC]
              refine wpAnyH_ready (rs := [22]) (by kernel_rfl) (by simp) ?_
              refine AllReadyH.cons (o := ⟨some 32, .call { callee := .value (.func 29), args := #[.tmp 31], argTypes := #[73] }, 4, _, #[⟨21, .data⟩, ⟨16, .chain⟩, ⟨16, .guard⟩], some (16, false)⟩) rfl (fun K hK => ?_) AllReadyH.nil
              go_simp
              refine (l2Plain_any X 0 _ _ (hval _ hcur)).mono ?_
              rintro e w3 ⟨rfl, hE4⟩
              rw [hp]
              replace hcur := hcur.trans hE4
              go_wp2_with fail
              refine hK.out _ _ (HK.out _ hcur) (fun hHeld => ?_)
              clear hK K
              try simp only [Act.put, putA, putB, putC]
              refine tkL 23 ⟨some 33, .unOp .not 4 (.tmp 32), 4, _, #[⟨22, .data⟩, ⟨16, .guard⟩], some (16, false)⟩ ?_ hHeld ?yyD23 ?rrD23
              case yyD23 => (intro w hSw; (try dsimp only at hSw); go_simp; try with_reducible rfl)
              try simp only [Act.put, putA, putB, putC]
              refine tkL 24 ⟨some 34, .pick (.tmp 26) (.const (.bool true)) (.tmp 33), 4, _, #[⟨16, .data⟩, ⟨23, .data⟩], none⟩ ?_ hHeld ?yyD24 ?rrD24
              case yyD24 => (intro w hSw; (try dsimp only at hSw); go_simp; try with_reducible rfl)
              try simp only [Act.put, putA, putB, putC]
              refine tkL 25 ⟨some 35, .move (.tmp 34), 4, _, #[⟨24, .data⟩, ⟨22, .chain⟩], none⟩ ?_ hHeld ?yyD25 ?rrD25
              case yyD25 => (intro w hSw; (try dsimp only at hSw); go_simp; try with_reducible rfl)
              try simp only [Act.put, putA, putB, putC]
              refine tkL 26 ⟨some 36, .move (.tmp 3), 3, _, #[⟨25, .guard⟩], some (25, false)⟩ ?_ hHeld ?yyD26 ?rrD26
              case yyD26 => (intro w hSw; (try dsimp only at hSw); go_simp; try with_reducible rfl)
              try simp only [Act.put, putA, putB, putC]
              refine tkL 27 ⟨some 37, .binOp .gtr 3 (.tmp 36) (.const (.int .i64 0)) 3, 4, _, #[⟨26, .data⟩, ⟨25, .guard⟩], some (25, false)⟩ ?_ hHeld ?yyD27 ?rrD27
              case yyD27 => (intro w hSw; (try dsimp only at hSw); go_simp; try with_reducible rfl)
              try simp only [Act.put, putA, putB, putC]
              refine tkL 28 ⟨some 38, .move (.tmp 37), 4, _, #[⟨27, .data⟩, ⟨25, .chain⟩, ⟨25, .guard⟩], some (25, false)⟩ ?_ hHeld ?yyD28 ?rrD28
              case yyD28 => (intro w hSw; (try dsimp only at hSw); go_simp; try with_reducible rfl)
              try simp only [Act.put, putA, putB, putC]
              refine tkR 29 ⟨some 39, .move (.tmp 0), 32, _, #[⟨28, .guard⟩], some (28, true)⟩ hHeld ?_
              try simp only [Act.put, putA, putB, putC]
              refine tkR 30 ⟨some 40, .move (.tmp 3), 3, _, #[⟨28, .guard⟩], some (28, true)⟩ hHeld ?_
              try simp only [Act.put, putA, putB, putC]
              refine tkR 31 ⟨some 41, .binOp .sub 3 (.tmp 40) (.const (.int .i64 1)) 3, 3, _, #[⟨30, .data⟩, ⟨28, .guard⟩], some (28, true)⟩ hHeld ?_
              try simp only [Act.put, putA, putB, putC]
              refine tkR 32 ⟨some 42, .indexAddr 32 (.tmp 39) (.tmp 41), 0, _, #[⟨29, .data⟩, ⟨31, .data⟩, ⟨28, .guard⟩], some (28, true)⟩ hHeld ?_
              try simp only [Act.put, putA, putB, putC]
              refine tkR 33 ⟨some 43, .fieldAddr 75 (.tmp 42) 0, 0, _, #[⟨32, .data⟩, ⟨28, .guard⟩], some (28, true)⟩ hHeld ?_
              try simp only [Act.put, putA, putB, putC]
              refine tkR 34 ⟨some 44, .load 9 (.tmp 43), 9, _, #[⟨33, .data⟩, ⟨28, .guard⟩], some (28, true)⟩ hHeld ?_
              try simp only [Act.put, putA, putB, putC]
              refine tkR 35 ⟨some 45, .move (.tmp 0), 32, _, #[⟨28, .guard⟩], some (28, true)⟩ hHeld ?_
              try simp only [Act.put, putA, putB, putC]
              refine tkR 36 ⟨some 46, .move (.tmp 3), 3, _, #[⟨28, .guard⟩], some (28, true)⟩ hHeld ?_
              try simp only [Act.put, putA, putB, putC]
              refine tkR 37 ⟨some 47, .indexAddr 32 (.tmp 45) (.tmp 46), 0, _, #[⟨35, .data⟩, ⟨36, .data⟩, ⟨28, .guard⟩], some (28, true)⟩ hHeld ?_
              try simp only [Act.put, putA, putB, putC]
              refine tkR 38 ⟨some 48, .fieldAddr 75 (.tmp 47) 0, 0, _, #[⟨37, .data⟩, ⟨28, .guard⟩], some (28, true)⟩ hHeld ?_
              try simp only [Act.put, putA, putB, putC]
              refine tkR 39 ⟨some 49, .load 9 (.tmp 48), 9, _, #[⟨38, .data⟩, ⟨28, .guard⟩], some (28, true)⟩ hHeld ?_
              try simp only [Act.put, putA, putB, putC]
              refine tkR 40 ⟨some 50, .binOp .geq 9 (.tmp 44) (.tmp 49) 9, 4, _, #[⟨34, .data⟩, ⟨39, .data⟩, ⟨28, .guard⟩], some (28, true)⟩ hHeld ?_
              try simp only [Act.put, putA, putB, putC]
              refine tkL 41 ⟨some 51, .pick (.tmp 38) (.tmp 50) (.const (.bool false)), 4, _, #[⟨28, .data⟩, ⟨40, .data⟩, ⟨25, .guard⟩], some (25, false)⟩ ?_ hHeld ?yyD41 ?rrD41
              case yyD41 => (intro w hSw; (try dsimp only at hSw); go_simp; try with_reducible rfl)
              try simp only [Act.put, putA, putB, putC]
              refine tkL 42 ⟨some 52, .pick (.tmp 35) (.const (.bool true)) (.tmp 51), 4, _, #[⟨25, .data⟩, ⟨41, .data⟩], none⟩ ?_ hHeld ?yyD42 ?rrD42
              case yyD42 => (intro w hSw; (try dsimp only at hSw); go_simp; try with_reducible rfl)
              try simp only [Act.put, putA, putB, putC]
              refine wpAnyH_done (by kernel_rfl) ?_ _
              go_wp2
              go_roundw
              case rel => exact ⟨1, by omega, by go_num, hE.trans hcur, upto_succ hno hok.out⟩
              case measure => simp [intOf]; omega
            · obtain ⟨m, rfl⟩ : ∃ m, k = m + 1 := ⟨k - 1, by omega⟩
              obtain ⟨cap3, b3, off3, C3, hsl, _, hb3, ec3, hx3⟩ := (hv.ext hE).at (i := m) (by omega)
              cases hsl
              have HR := HRa m (by omega)
              obtain ⟨xp, hdp⟩ := (show Has (f m 0) .str from HR 0 (by decide)).str
              have h1 := hx3 0 (by decide)
              have f0 := ec3 0 (by decide)
              rw [hdp] at h1
              rw [h1.str_eq.1] at f0
              simp only [Nat.add_zero] at f0
              clear hx3 ec3 HR h1
              have hLk2 : Hid (propB f (m + 1) = ltS xp x0) := by show _ = _; rw [hLk.out, hn, ho, hp]; simp [hdp, D.str!]
              have i0 : 0 ≤ (m : Int) + 1 := by omega
              have i1 : (m : Int) + 1 < (len : Int) := by omega
              have i2 : (m : Int) < (len : Int) := by omega
              have iw : IntKind.i64.wrap (m : Int) = m := wrap_i64 (by omega) (by omega)
              have HK : Hid (∀ W, Ext wr W → (W.cell? ⟨b, off + (m + 1) * 5, none⟩ = some (.string x0) ∧ W.cell? ⟨b, off + (m + 1) * 5 + 1, none⟩ = some (.int .i64 x1) ∧ W.cell? ⟨b, off + (m + 1) * 5 + 2, none⟩ = some (.int .i64 x2) ∧ W.cell? ⟨b, off + (m + 1) * 5 + 3, none⟩ = some (.string x3) ∧ W.cell? ⟨b, off + (m + 1) * 5 + 4, none⟩ = some (.slice a4 l4 cap4)) ∧ W.cell? ⟨b, off + m * 5, none⟩ = some (.string xp)) := fun W hW => ⟨hS0 W hW, by rw [hW.cell hb]; exact f0⟩
              clear hS0
              have hcur : Ext wr wr.drew := (Ext.refl _).drew
              refine wp_region_held_drew (S := (fun W => (W.cell? ⟨b, off + (m + 1) * 5, none⟩ = some (.string x0) ∧ W.cell? ⟨b, off + (m + 1) * 5 + 1, none⟩ = some (.int .i64 x1) ∧ W.cell? ⟨b, off + (m + 1) * 5 + 2, none⟩ = some (.int .i64 x2) ∧ W.cell? ⟨b, off + (m + 1) * 5 + 3, none⟩ = some (.string x3) ∧ W.cell? ⟨b, off + (m + 1) * 5 + 4, none⟩ = some (.slice a4 l4 cap4)) ∧ W.cell? ⟨b, off + m * 5, none⟩ = some (.string xp))) (by kernel_rfl) (HK.out _ hcur) (fun hHeld => ?_)
              refine tkL 0 ⟨some 10, .move (.tmp 0), 32, _, #[], none⟩ ?_ hHeld ?yyE0 ?rrE0
              case yyE0 => (intro w hSw; (try dsimp only at hSw); go_simp; try with_reducible rfl)
              try simp only [Act.put, putA, putB, putC]
              refine tkL 1 ⟨some 11, .move (.tmp 3), 3, _, #[], none⟩ ?_ hHeld ?yyE1 ?rrE1
              case yyE1 => (intro w hSw; (try dsimp only at hSw); go_simp; try with_reducible rfl)
              try simp only [Act.put, putA, putB, putC]
              refine tkL 2 ⟨some 12, .indexAddr 32 (.tmp 10) (.tmp 11), 0, _, #[⟨0, .data⟩, ⟨1, .data⟩], none⟩ ?_ hHeld ?yyE2 ?rrE2
              case yyE2 => (intro w hSw; (try dsimp only at hSw); go_simp; try with_reducible rfl)
              try simp only [Act.put, putA, putB, putC]
              refine tkL 3 ⟨some 13, .fieldAddr 75 (.tmp 12) 0, 0, _, #[⟨2, .data⟩], none⟩ ?_ hHeld ?yyE3 ?rrE3
              case yyE3 => (intro w hSw; (try dsimp only at hSw); go_simp; try with_reducible rfl)
              try simp only [Act.put, putA, putB, putC]
              refine tkL 4 ⟨some 14, .load 9 (.tmp 13), 9, _, #[⟨3, .data⟩], none⟩ ?_ hHeld ?yyE4 ?rrE4
              case yyE4 => (intro w hSw; (try dsimp only at hSw); go_simp; try with_reducible rfl)
              try simp only [Act.put, putA, putB, putC]
              refine wpAnyH_ready (rs := [5]) (by kernel_rfl) (by simp) ?_
              refine AllReadyH.cons (o := ⟨some 15, .call { callee := .value (.func 14), args := #[.tmp 14], argTypes := #[9] }, 4, _, #[⟨4, .data⟩], none⟩) rfl (fun K hK => ?_) AllReadyH.nil
              go_simp
              refine (l2Name_any _ _ z0).mono ?_
              rintro e w1 ⟨rfl, hE2⟩
              rw [hn]
              replace hcur := hcur.trans hE2
              go_wp2_with fail
              refine hK.out _ _ (HK.out _ hcur) (fun hHeld => ?_)
              clear hK K
              try simp only [Act.put, putA, putB, putC]
              refine tkL 6 ⟨some 16, .unOp .not 4 (.tmp 15), 4, _, #[⟨5, .data⟩], none⟩ ?_ hHeld ?yyE6 ?rrE6
              case yyE6 => (intro w hSw; (try dsimp only at hSw); go_simp; try with_reducible rfl)
              try simp only [Act.put, putA, putB, putC]
              refine tkL 7 ⟨some 17, .move (.tmp 16), 4, _, #[⟨6, .data⟩, ⟨5, .chain⟩], none⟩ ?_ hHeld ?yyE7 ?rrE7
              case yyE7 => (intro w hSw; (try dsimp only at hSw); go_simp; try with_reducible rfl)
              try simp only [Act.put, putA, putB, putC]
              refine tkL 8 ⟨some 18, .move (.tmp 0), 32, _, #[⟨7, .guard⟩], some (7, false)⟩ ?_ hHeld ?yyE8 ?rrE8
              case yyE8 => (intro w hSw; (try dsimp only at hSw); go_simp; try with_reducible rfl)
              try simp only [Act.put, putA, putB, putC]
              refine tkL 9 ⟨some 19, .move (.tmp 3), 3, _, #[⟨7, .guard⟩], some (7, false)⟩ ?_ hHeld ?yyE9 ?rrE9
              case yyE9 => (intro w hSw; (try dsimp only at hSw); go_simp; try with_reducible rfl)
              try simp only [Act.put, putA, putB, putC]
              refine tkL 10 ⟨some 20, .indexAddr 32 (.tmp 18) (.tmp 19), 0, _, #[⟨8, .data⟩, ⟨9, .data⟩, ⟨7, .guard⟩], some (7, false)⟩ ?_ hHeld ?yyE10 ?rrE10
              case yyE10 => (intro w hSw; (try dsimp only at hSw); go_simp; try with_reducible rfl)
              try simp only [Act.put, putA, putB, putC]
              refine tkL 11 ⟨some 21, .fieldAddr 75 (.tmp 20) 1, 0, _, #[⟨10, .data⟩, ⟨7, .guard⟩], some (7, false)⟩ ?_ hHeld ?yyE11 ?rrE11
              case yyE11 => (intro w hSw; (try dsimp only at hSw); go_simp; try with_reducible rfl)
              try simp only [Act.put, putA, putB, putC]
              refine tkL 12 ⟨some 22, .load 73 (.tmp 21), 73, _, #[⟨11, .data⟩, ⟨7, .guard⟩], some (7, false)⟩ ?_ hHeld ?yyE12 ?rrE12
              case yyE12 => (intro w hSw; (try dsimp only at hSw); go_simp; try with_reducible rfl)
              try simp only [Act.put, putA, putB, putC]
              refine wpAnyH_ready (rs := [13]) (by kernel_rfl) (by simp) ?_
              refine AllReadyH.cons (o := ⟨some 23, .call { callee := .value (.func 28), args := #[.tmp 22], argTypes := #[73] }, 4, _, #[⟨12, .data⟩, ⟨7, .chain⟩, ⟨7, .guard⟩], some (7, false)⟩) rfl (fun K hK => ?_) AllReadyH.nil
              go_simp
              refine (specValueOk_any X 0 _ _ (hval _ hcur)).mono ?_
              rintro e w2 ⟨rfl, hE3⟩
              rw [ho]
              replace hcur := hcur.trans hE3
              go_wp2_with fail
              refine hK.out _ _ (HK.out _ hcur) (fun hHeld => ?_)
              clear hK K
              try simp only [Act.put, putA, putB, putC]
              refine tkL 14 ⟨some 24, .unOp .not 4 (.tmp 23), 4, _, #[⟨13, .data⟩, ⟨7, .guard⟩], some (7, false)⟩ ?_ hHeld ?yyE14 ?rrE14
              case yyE14 => (intro w hSw; (try dsimp only at hSw); go_simp; try with_reducible rfl)
              try simp only [Act.put, putA, putB, putC]
              refine tkL 15 ⟨some 25, .pick (.tmp 17) (.const (.bool true)) (.tmp 24), 4, _, #[⟨7, .data⟩, ⟨14, .data⟩], none⟩ ?_ hHeld ?yyE15 ?rrE15
              case yyE15 => (intro w hSw; (try dsimp only at hSw); go_simp; try with_reducible rfl)
              try simp only [Act.put, putA, putB, putC]
              refine tkL 16 ⟨some 26, .move (.tmp 25), 4, _, #[⟨15, .data⟩, ⟨13, .chain⟩], none⟩ ?_ hHeld ?yyE16 ?rrE16
              case yyE16 => (intro w hSw; (try dsimp only at hSw); go_simp; try with_reducible rfl)
              try simp only [Act.put, putA, putB, putC]
              refine tkL 17 ⟨some 27, .move (.tmp 0), 32, _, #[⟨16, .guard⟩], some (16, false)⟩ ?_ hHeld ?yyE17 ?rrE17
              case yyE17 => (intro w hSw; (try dsimp only at hSw); go_simp; try with_reducible rfl)
              try simp only [Act.put, putA, putB, putC]
              refine tkL 18 ⟨some 28, .move (.tmp 3), 3, _, #[⟨16, .guard⟩], some (16, false)⟩ ?_ hHeld ?yyE18 ?rrE18
              case yyE18 => (intro w hSw; (try dsimp only at hSw); go_simp; try with_reducible rfl)
              try simp only [Act.put, putA, putB, putC]
              refine tkL 19 ⟨some 29, .indexAddr 32 (.tmp 27) (.tmp 28), 0, _, #[⟨17, .data⟩, ⟨18, .data⟩, ⟨16, .guard⟩], some (16, false)⟩ ?_ hHeld ?yyE19 ?rrE19
              case yyE19 => (intro w hSw; (try dsimp only at hSw); go_simp; try with_reducible rfl)
              try simp only [Act.put, putA, putB, putC]
              refine tkL 20 ⟨some 30, .fieldAddr 75 (.tmp 29) 1, 0, _, #[⟨19, .data⟩, ⟨16, .guard⟩], some (16, false)⟩ ?_ hHeld ?yyE20 ?rrE20
              case yyE20 => (intro w hSw; (try dsimp only at hSw); go_simp; try with_reducible rfl)
              try simp only [Act.put, putA, putB, putC]
              refine tkL 21 ⟨some 31, .load 73 (.tmp 30), 73, _, #[⟨20, .data⟩, ⟨16, .guard⟩], some (16, false)⟩ ?_ hHeld ?yyE21 ?rrE21
              case yyE21 => (intro w hSw; (try dsimp only at hSw); go_simp; try with_reducible rfl)
              try simp only [Act.put, putA, putB, putC]
              refine wpAnyH_ready (rs := [22]) (by kernel_rfl) (by simp) ?_
              refine AllReadyH.cons (o := ⟨some 32, .call { callee := .value (.func 29), args := #[.tmp 31], argTypes := #[73] }, 4, _, #[⟨21, .data⟩, ⟨16, .chain⟩, ⟨16, .guard⟩], some (16, false)⟩) rfl (fun K hK => ?_) AllReadyH.nil
              go_simp
              refine (l2Plain_any X 0 _ _ (hval _ hcur)).mono ?_
              rintro e w3 ⟨rfl, hE4⟩
              rw [hp]
              replace hcur := hcur.trans hE4
              go_wp2_with fail
              refine hK.out _ _ (HK.out _ hcur) (fun hHeld => ?_)
              clear hK K
              try simp only [Act.put, putA, putB, putC]
              refine tkL 23 ⟨some 33, .unOp .not 4 (.tmp 32), 4, _, #[⟨22, .data⟩, ⟨16, .guard⟩], some (16, false)⟩ ?_ hHeld ?yyE23 ?rrE23
              case yyE23 => (intro w hSw; (try dsimp only at hSw); go_simp; try with_reducible rfl)
              try simp only [Act.put, putA, putB, putC]
              refine tkL 24 ⟨some 34, .pick (.tmp 26) (.const (.bool true)) (.tmp 33), 4, _, #[⟨16, .data⟩, ⟨23, .data⟩], none⟩ ?_ hHeld ?yyE24 ?rrE24
              case yyE24 => (intro w hSw; (try dsimp only at hSw); go_simp; try with_reducible rfl)
              try simp only [Act.put, putA, putB, putC]
              refine tkL 25 ⟨some 35, .move (.tmp 34), 4, _, #[⟨24, .data⟩, ⟨22, .chain⟩], none⟩ ?_ hHeld ?yyE25 ?rrE25
              case yyE25 => (intro w hSw; (try dsimp only at hSw); go_simp; try with_reducible rfl)
              try simp only [Act.put, putA, putB, putC]
              refine tkL 26 ⟨some 36, .move (.tmp 3), 3, _, #[⟨25, .guard⟩], some (25, false)⟩ ?_ hHeld ?yyE26 ?rrE26
              case yyE26 => (intro w hSw; (try dsimp only at hSw); go_simp; try with_reducible rfl)
              try simp only [Act.put, putA, putB, putC]
              refine tkL 27 ⟨some 37, .binOp .gtr 3 (.tmp 36) (.const (.int .i64 0)) 3, 4, _, #[⟨26, .data⟩, ⟨25, .guard⟩], some (25, false)⟩ ?_ hHeld ?yyE27 ?rrE27
              case yyE27 => (intro w hSw; (try dsimp only at hSw); go_simp; try with_reducible rfl)
              try simp only [Act.put, putA, putB, putC]
              refine tkL 28 ⟨some 38, .move (.tmp 37), 4, _, #[⟨27, .data⟩, ⟨25, .chain⟩, ⟨25, .guard⟩], some (25, false)⟩ ?_ hHeld ?yyE28 ?rrE28
              case yyE28 => (intro w hSw; (try dsimp only at hSw); go_simp; try with_reducible rfl)
              try simp only [Act.put, putA, putB, putC]
              refine tkL 29 ⟨some 39, .move (.tmp 0), 32, _, #[⟨28, .guard⟩], some (28, true)⟩ ?_ hHeld ?yyE29 ?rrE29
              case yyE29 => (intro w hSw; (try dsimp only at hSw); go_simp; try with_reducible rfl)
              try simp only [Act.put, putA, putB, putC]
              refine tkL 30 ⟨some 40, .move (.tmp 3), 3, _, #[⟨28, .guard⟩], some (28, true)⟩ ?_ hHeld ?yyE30 ?rrE30
              case yyE30 => (intro w hSw; (try dsimp only at hSw); go_simp; try with_reducible rfl)
              try simp only [Act.put, putA, putB, putC]
              refine tkL 31 ⟨some 41, .binOp .sub 3 (.tmp 40) (.const (.int .i64 1)) 3, 3, _, #[⟨30, .data⟩, ⟨28, .guard⟩], some (28, true)⟩ ?_ hHeld ?yyE31 ?rrE31
              case yyE31 => (intro w hSw; (try dsimp only at hSw); go_simp; try with_reducible rfl)
              try simp only [Act.put, putA, putB, putC]
              refine tkL 32 ⟨some 42, .indexAddr 32 (.tmp 39) (.tmp 41), 0, _, #[⟨29, .data⟩, ⟨31, .data⟩, ⟨28, .guard⟩], some (28, true)⟩ ?_ hHeld ?yyE32 ?rrE32
              case yyE32 => (intro w hSw; (try dsimp only at hSw); go_simp; try with_reducible rfl)
              try simp only [Act.put, putA, putB, putC]
              refine tkL 33 ⟨some 43, .fieldAddr 75 (.tmp 42) 0, 0, _, #[⟨32, .data⟩, ⟨28, .guard⟩], some (28, true)⟩ ?_ hHeld ?yyE33 ?rrE33
              case yyE33 => (intro w hSw; (try dsimp only at hSw); go_simp; try with_reducible rfl)
              try simp only [Act.put, putA, putB, putC]
              refine tkL 34 ⟨some 44, .load 9 (.tmp 43), 9, _, #[⟨33, .data⟩, ⟨28, .guard⟩], some (28, true)⟩ ?_ hHeld ?yyE34 ?rrE34
              case yyE34 => (intro w hSw; (try dsimp only at hSw); go_simp; try with_reducible rfl)
              try simp only [Act.put, putA, putB, putC]
              refine tkL 35 ⟨some 45, .move (.tmp 0), 32, _, #[⟨28, .guard⟩], some (28, true)⟩ ?_ hHeld ?yyE35 ?rrE35
              case yyE35 => (intro w hSw; (try dsimp only at hSw); go_simp; try with_reducible rfl)
              try simp only [Act.put, putA, putB, putC]
              refine tkL 36 ⟨some 46, .move (.tmp 3), 3, _, #[⟨28, .guard⟩], some (28, true)⟩ ?_ hHeld ?yyE36 ?rrE36
              case yyE36 => (intro w hSw; (try dsimp only at hSw); go_simp; try with_reducible rfl)
              try simp only [Act.put, putA, putB, putC]
              refine tkL 37 ⟨some 47, .indexAddr 32 (.tmp 45) (.tmp 46), 0, _, #[⟨35, .data⟩, ⟨36, .data⟩, ⟨28, .guard⟩], some (28, true)⟩ ?_ hHeld ?yyE37 ?rrE37
              case yyE37 => (intro w hSw; (try dsimp only at hSw); go_simp; try with_reducible rfl)
              try simp only [Act.put, putA, putB, putC]
              refine tkL 38 ⟨some 48, .fieldAddr 75 (.tmp 47) 0, 0, _, #[⟨37, .data⟩, ⟨28, .guard⟩], some (28, true)⟩ ?_ hHeld ?yyE38 ?rrE38
              case yyE38 => (intro w hSw; (try dsimp only at hSw); go_simp; try with_reducible rfl)
              try simp only [Act.put, putA, putB, putC]
              refine tkL 39 ⟨some 49, .load 9 (.tmp 48), 9, _, #[⟨38, .data⟩, ⟨28, .guard⟩], some (28, true)⟩ ?_ hHeld ?yyE39 ?rrE39
              case yyE39 => (intro w hSw; (try dsimp only at hSw); go_simp; try with_reducible rfl)
              try simp only [Act.put, putA, putB, putC]
              refine tkL 40 ⟨some 50, .binOp .geq 9 (.tmp 44) (.tmp 49) 9, 4, _, #[⟨34, .data⟩, ⟨39, .data⟩, ⟨28, .guard⟩], some (28, true)⟩ ?_ hHeld ?yyE40 ?rrE40
              case yyE40 => (intro w hSw; (try dsimp only at hSw); go_simp; try with_reducible rfl)
              try simp only [Act.put, putA, putB, putC]
              refine tkL 41 ⟨some 51, .pick (.tmp 38) (.tmp 50) (.const (.bool false)), 4, _, #[⟨28, .data⟩, ⟨40, .data⟩, ⟨25, .guard⟩], some (25, false)⟩ ?_ hHeld ?yyE41 ?rrE41
              case yyE41 => (intro w hSw; (try dsimp only at hSw); go_simp; try with_reducible rfl)
              try simp only [Act.put, putA, putB, putC]
              refine tkL 42 ⟨some 52, .pick (.tmp 35) (.const (.bool true)) (.tmp 51), 4, _, #[⟨25, .data⟩, ⟨41, .data⟩], none⟩ ?_ hHeld ?yyE42 ?rrE42
              case yyE42 => (intro w hSw; (try dsimp only at hSw); go_simp; try with_reducible rfl)
              try simp only [Act.put, putA, putB, putC]
              refine wpAnyH_done (by kernel_rfl) ?_ _
              cases hcmp : Op.bytesLess xp.toList x0.toList
              · have hfin : Hid (propsB (.list 5 len f) = false) := by show _ = _; rw [HB.out, all_no hlt (by rw [hLk2.out]; exact hcmp)]; rfl
                go_wp2
                go_ret
                exact ⟨ret_bool hfin.out.symm, hE.trans hcur⟩
              · have hok : Hid (propB f (m + 1) = true) := by show _ = _; rw [hLk2.out]; exact hcmp
                go_wp2
                go_roundw
                case rel => exact ⟨m + 1 + 1, by omega, by go_num, hE.trans hcur, upto_succ hno hok.out⟩
                case measure => simp [intOf]; omega
    · have hkx : k = len := by omega
      subst hkx
      go_wp2
      go_ret
      refine ⟨ret_bool ?_, hE⟩
      show _ = propsB (.list 5 k f)
      rw [HB.out, all_yes hno, Bool.true_and, Bool.eq_iff_iff]
      simp
      omega
end Go.Proofs.YtbhmblkappmfjaaGreat
