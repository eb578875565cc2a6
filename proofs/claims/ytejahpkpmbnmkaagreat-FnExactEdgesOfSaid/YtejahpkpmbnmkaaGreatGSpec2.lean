/- What spec.l2Props answers. -/
import Derived.Test.YtejahpkpmbnmkaaGreatGSpec1
import Derived.Test.YtejahpkpmbnmkaaGreatGVal
import Derived.Test.YtejahpkpmbnmkaaGreatValL1Ok
namespace Go.Proofs.YtejahpkpmbnmkaaGreat
open Go.RowKit Go.Deep Go.WideShapes

/-- The value of a prop. -/
def pvalOf (d : Nat → D) : V := .mk (d 1).int! (d 2).int! (d 3).str! (vsOf (d 4))
/-- Props have names, ascending, and values that are ok and may be props: the i-th. -/
def propB (f : Nat → Nat → D) (i : Nat) : Bool := nameB (f i 0).str! && okN 3 (pvalOf (f i)) && plainB (pvalOf (f i)) && (i == 0 || ltS (f (i - 1) 0).str! (f i 0).str!)
def propsB (d : D) : Bool := (List.range d.len!).all (propB d.at!) && decide (d.len! ≤ 4)

set_option maxRecDepth 100000 in
set_option maxHeartbeats 4000000 in
theorem l2Props_any (d : D) (H : Has d (.list 3)) (S : Nat → Prop) (v : Value) (w : World) (hv : DIn S w d v) :
    Calls Tryz.prog 30 #[v] w fun e w' => e = .returned (.bool (propsB d)) ∧ Ext w w' := by
  obtain ⟨len, f, rfl, HRa⟩ := H.list
  change DIn S w (.list 5 len f) v at hv
  obtain ⟨a, cap, rfl, hm⟩ := hv.list_eq
  unfold maxLen at hm
  have HB : Hid (propsB (.list 5 len f) = ((List.range len).all (propB f) && decide (len ≤ 4))) := rfl
  go_enter Tryz.func30, Tryz.ntmps30
  go_wp2
  go_loopw [3] (fun i wr => ∃ k : Nat, k ≤ len ∧ i = .int .i64 k ∧ Ext w wr ∧ ∀ j, j < k → propB f j = true) (fun i _ => len - (intOf i).toNat)
  case atStart => exact ⟨0, Nat.zero_le _, rfl, Ext.refl _, fun j h => by omega⟩
  case round =>
    obtain ⟨k, hk, rfl, hE, hno⟩ := hrel
    by_cases hlt : k < len
    · obtain ⟨cap2, b, off, C, hsl, _, hb, ec, hx⟩ := (hv.ext hE).at hlt
      cases hsl
      have HR := HRa k hlt
      obtain ⟨x0, hd0⟩ := (show Has (f k 0) .str from HR 0 (by decide)).str
      have h0 := hx 0 (by decide)
      have e0 := ec 0 (by decide)
      rw [hd0] at h0
      obtain ⟨y0, z0⟩ := h0.str_eq
      rw [y0] at e0
      clear y0
      obtain ⟨x1, hd1⟩ := (show Has (f k 1) .int from HR 1 (by decide)).int
      have h1 := hx 1 (by decide)
      have e1 := ec 1 (by decide)
      rw [hd1] at h1
      obtain ⟨y1, z1⟩ := h1.int_eq
      rw [y1] at e1
      clear y1
      obtain ⟨x2, hd2⟩ := (show Has (f k 2) .int from HR 2 (by decide)).int
      have h2 := hx 2 (by decide)
      have e2 := ec 2 (by decide)
      rw [hd2] at h2
      obtain ⟨y2, z2⟩ := h2.int_eq
      rw [y2] at e2
      clear y2
      obtain ⟨x3, hd3⟩ := (show Has (f k 3) .str from HR 3 (by decide)).str
      have h3 := hx 3 (by decide)
      have e3 := ec 3 (by decide)
      rw [hd3] at h3
      obtain ⟨y3, z3⟩ := h3.str_eq
      rw [y3] at e3
      clear y3
      have H4 : Has (f k 4) (.list 2) := HR 4 (by decide)
      have h4 := hx 4 (by decide)
      have e4 := ec 4 (by decide)
      simp only [Nat.add_zero] at e0
      clear hx ec
      obtain ⟨X, hX⟩ : ∃ X, X = pvalOf (f k) := ⟨_, rfl⟩
      have hXe : X = .mk x1 x2 x3 (vsOf (f k 4)) := by rw [hX, pvalOf, hd1, hd2, hd3]; rfl
      have hval : ∀ W, Ext wr W → ValIn 0 W X (.agg #[.int .i64 x1, .int .i64 x2, .string x3, C 4]) := fun W hW => by rw [hXe]; exact valIn_of z1 z2 z3 H4 (h4.ext hW)
      obtain ⟨a4, cap4, l4, f4, _, hC4, _, _⟩ := list_shape H4 h4
      have hLk : Hid (propB f k = (nameB x0 && okN 3 X && plainB X && (k == 0 || ltS (f (k - 1) 0).str! x0))) := by show _ = _; rw [propB, ← hX, hd0]; rfl
      have hS0 : ∀ W, Ext wr W → W.cell? ⟨b, off + k * 5, none⟩ = some (.string x0) ∧ W.cell? ⟨b, off + k * 5 + 1, none⟩ = some (.int .i64 x1) ∧ W.cell? ⟨b, off + k * 5 + 2, none⟩ = some (.int .i64 x2) ∧ W.cell? ⟨b, off + k * 5 + 3, none⟩ = some (.string x3) ∧ W.cell? ⟨b, off + k * 5 + 4, none⟩ = some (C 4) := fun W hW => by
        rw [hW.cell hb, hW.cell hb, hW.cell hb, hW.cell hb, hW.cell hb]; exact ⟨e0, e1, e2, e3, e4⟩
      clear e0 e1 e2 e3 e4 HR hX hXe h4 H4
      rw [hC4] at hS0 hval
      clear hC4
      go_wp2_with fail
      cases hn : nameB x0
      · have hfin : Hid (propsB (.list 5 len f) = false) := by show _ = _; rw [HB.out, all_no hlt (by rw [hLk.out, hn]; rfl)]; rfl
        have HK : Hid (∀ W, Ext wr W → W.cell? ⟨b, off + k * 5, none⟩ = some (.string x0) ∧ W.cell? ⟨b, off + k * 5 + 1, none⟩ = some (.int .i64 x1) ∧ W.cell? ⟨b, off + k * 5 + 2, none⟩ = some (.int .i64 x2) ∧ W.cell? ⟨b, off + k * 5 + 3, none⟩ = some (.string x3) ∧ W.cell? ⟨b, off + k * 5 + 4, none⟩ = some (.slice a4 l4 cap4)) := hS0
        clear hS0
        have hcur : Ext wr wr.drew := (Ext.refl _).drew
        refine wp_region_held_drew (S := (fun W => W.cell? ⟨b, off + k * 5, none⟩ = some (.string x0) ∧ W.cell? ⟨b, off + k * 5 + 1, none⟩ = some (.int .i64 x1) ∧ W.cell? ⟨b, off + k * 5 + 2, none⟩ = some (.int .i64 x2) ∧ W.cell? ⟨b, off + k * 5 + 3, none⟩ = some (.string x3) ∧ W.cell? ⟨b, off + k * 5 + 4, none⟩ = some (.slice a4 l4 cap4))) (by kernel_rfl) (HK.out _ hcur) (fun hHeld => ?_)
        refine wpAnyH_take (i := 0) (oi := ⟨some 10, .move (.tmp 0), 61, _, #[], none⟩) (v := ?_) rfl (by kernel_rfl) (by kernel_rfl) (by kernel_rfl) (fun _ _ _ h => h) (Or.inl ⟨by rfl, ?yyA0⟩) hHeld ?rrA0
        case yyA0 => (intro w hSw; (try dsimp only at hSw); go_simp; first | done | with_reducible rfl)
        try simp only [Act.put, putA, putB, putC]
        refine wpAnyH_take (i := 1) (oi := ⟨some 11, .move (.tmp 3), 3, _, #[], none⟩) (v := ?_) rfl (by kernel_rfl) (by kernel_rfl) (by kernel_rfl) (fun _ _ _ h => h) (Or.inl ⟨by rfl, ?yyA1⟩) hHeld ?rrA1
        case yyA1 => (intro w hSw; (try dsimp only at hSw); go_simp; first | done | with_reducible rfl)
        try simp only [Act.put, putA, putB, putC]
        refine wpAnyH_take (i := 2) (oi := ⟨some 12, .indexAddr 61 (.tmp 10) (.tmp 11), 0, _, #[⟨0, .data⟩, ⟨1, .data⟩], none⟩) (v := ?_) rfl (by kernel_rfl) (by kernel_rfl) (by kernel_rfl) (fun _ _ _ h => h) (Or.inl ⟨by rfl, ?yyA2⟩) hHeld ?rrA2
        case yyA2 => (intro w hSw; (try dsimp only at hSw); go_simp; first | done | with_reducible rfl)
        try simp only [Act.put, putA, putB, putC]
        refine wpAnyH_take (i := 3) (oi := ⟨some 13, .fieldAddr 97 (.tmp 12) 0, 0, _, #[⟨2, .data⟩], none⟩) (v := ?_) rfl (by kernel_rfl) (by kernel_rfl) (by kernel_rfl) (fun _ _ _ h => h) (Or.inl ⟨by rfl, ?yyA3⟩) hHeld ?rrA3
        case yyA3 => (intro w hSw; (try dsimp only at hSw); go_simp; first | done | with_reducible rfl)
        try simp only [Act.put, putA, putB, putC]
        refine wpAnyH_take (i := 4) (oi := ⟨some 14, .load 9 (.tmp 13), 9, _, #[⟨3, .data⟩], none⟩) (v := ?_) rfl (by kernel_rfl) (by kernel_rfl) (by kernel_rfl) (fun _ _ _ h => h) (Or.inl ⟨by rfl, ?yyA4⟩) hHeld ?rrA4
        case yyA4 => (intro w hSw; (try dsimp only at hSw); go_simp; first | done | with_reducible rfl)
        try simp only [Act.put, putA, putB, putC]
        refine wpAnyH_ready (rs := [5]) (by kernel_rfl) (by simp) ?_
        refine AllReadyH.cons (o := ⟨some 15, .call { callee := .value (.func 31), args := #[.tmp 14], argTypes := #[9] }, 4, _, #[⟨4, .data⟩], none⟩) rfl (fun K hK => ?_) AllReadyH.nil
        go_simp
        refine (l2Name_any _ _ z0).mono ?_
        rintro e w1 ⟨rfl, hE2⟩
        rw [hn]
        replace hcur := hcur.trans hE2
        go_wp2_with fail
        refine hK.out _ _ (HK.out _ hcur) (fun hHeld => ?_)
        clear hK K
        try simp only [Act.put, putA, putB, putC]
        refine wpAnyH_take (i := 6) (oi := ⟨some 16, .unOp .not 4 (.tmp 15), 4, _, #[⟨5, .data⟩], none⟩) (v := ?_) rfl (by kernel_rfl) (by kernel_rfl) (by kernel_rfl) (fun _ _ _ h => h) (Or.inl ⟨by rfl, ?yyA6⟩) hHeld ?rrA6
        case yyA6 => (intro w hSw; (try dsimp only at hSw); go_simp; first | done | with_reducible rfl)
        try simp only [Act.put, putA, putB, putC]
        refine wpAnyH_take (i := 7) (oi := ⟨some 17, .move (.tmp 16), 4, _, #[⟨6, .data⟩, ⟨5, .chain⟩], none⟩) (v := ?_) rfl (by kernel_rfl) (by kernel_rfl) (by kernel_rfl) (fun _ _ _ h => h) (Or.inl ⟨by rfl, ?yyA7⟩) hHeld ?rrA7
        case yyA7 => (intro w hSw; (try dsimp only at hSw); go_simp; first | done | with_reducible rfl)
        try simp only [Act.put, putA, putB, putC]
        refine wpAnyH_take (i := 8) (oi := ⟨some 18, .move (.tmp 0), 61, _, #[⟨7, .guard⟩], some (7, false)⟩) (v := undef) rfl (by kernel_rfl) (by kernel_rfl) (by kernel_rfl) (fun _ _ _ h => h) (Or.inr ⟨by rfl, rfl⟩) hHeld ?_
        try simp only [Act.put, putA, putB, putC]
        refine wpAnyH_take (i := 9) (oi := ⟨some 19, .move (.tmp 3), 3, _, #[⟨7, .guard⟩], some (7, false)⟩) (v := undef) rfl (by kernel_rfl) (by kernel_rfl) (by kernel_rfl) (fun _ _ _ h => h) (Or.inr ⟨by rfl, rfl⟩) hHeld ?_
        try simp only [Act.put, putA, putB, putC]
        refine wpAnyH_take (i := 10) (oi := ⟨some 20, .indexAddr 61 (.tmp 18) (.tmp 19), 0, _, #[⟨8, .data⟩, ⟨9, .data⟩, ⟨7, .guard⟩], some (7, false)⟩) (v := undef) rfl (by kernel_rfl) (by kernel_rfl) (by kernel_rfl) (fun _ _ _ h => h) (Or.inr ⟨by rfl, rfl⟩) hHeld ?_
        try simp only [Act.put, putA, putB, putC]
        refine wpAnyH_take (i := 11) (oi := ⟨some 21, .fieldAddr 97 (.tmp 20) 1, 0, _, #[⟨10, .data⟩, ⟨7, .guard⟩], some (7, false)⟩) (v := undef) rfl (by kernel_rfl) (by kernel_rfl) (by kernel_rfl) (fun _ _ _ h => h) (Or.inr ⟨by rfl, rfl⟩) hHeld ?_
        try simp only [Act.put, putA, putB, putC]
        refine wpAnyH_take (i := 12) (oi := ⟨some 22, .load 95 (.tmp 21), 95, _, #[⟨11, .data⟩, ⟨7, .guard⟩], some (7, false)⟩) (v := undef) rfl (by kernel_rfl) (by kernel_rfl) (by kernel_rfl) (fun _ _ _ h => h) (Or.inr ⟨by rfl, rfl⟩) hHeld ?_
        try simp only [Act.put, putA, putB, putC]
        refine wpAnyH_ready (rs := [13]) (by kernel_rfl) (by simp) ?_
        refine AllReadyH.cons (o := ⟨some 23, .call { callee := .value (.func 48), args := #[.tmp 22], argTypes := #[95] }, 4, _, #[⟨12, .data⟩, ⟨7, .chain⟩, ⟨7, .guard⟩], some (7, false)⟩) rfl (fun K hK => ?_) AllReadyH.nil
        rw [if_neg (by simp [Region.wanted, yielded])]
        refine hK.out _ _ hHeld (fun hHeld => ?_)
        clear hK K
        try simp only [Act.put, putA, putB, putC]
        refine wpAnyH_take (i := 14) (oi := ⟨some 24, .unOp .not 4 (.tmp 23), 4, _, #[⟨13, .data⟩, ⟨7, .guard⟩], some (7, false)⟩) (v := undef) rfl (by kernel_rfl) (by kernel_rfl) (by kernel_rfl) (fun _ _ _ h => h) (Or.inr ⟨by rfl, rfl⟩) hHeld ?_
        try simp only [Act.put, putA, putB, putC]
        refine wpAnyH_take (i := 15) (oi := ⟨some 25, .pick (.tmp 17) (.const (.bool true)) (.tmp 24), 4, _, #[⟨7, .data⟩, ⟨14, .data⟩], none⟩) (v := ?_) rfl (by kernel_rfl) (by kernel_rfl) (by kernel_rfl) (fun _ _ _ h => h) (Or.inl ⟨by rfl, ?yyA15⟩) hHeld ?rrA15
        case yyA15 => (intro w hSw; (try dsimp only at hSw); go_simp; first | done | with_reducible rfl)
        try simp only [Act.put, putA, putB, putC]
        refine wpAnyH_take (i := 16) (oi := ⟨some 26, .move (.tmp 25), 4, _, #[⟨15, .data⟩, ⟨13, .chain⟩], none⟩) (v := ?_) rfl (by kernel_rfl) (by kernel_rfl) (by kernel_rfl) (fun _ _ _ h => h) (Or.inl ⟨by rfl, ?yyA16⟩) hHeld ?rrA16
        case yyA16 => (intro w hSw; (try dsimp only at hSw); go_simp; first | done | with_reducible rfl)
        try simp only [Act.put, putA, putB, putC]
        refine wpAnyH_take (i := 17) (oi := ⟨some 27, .move (.tmp 0), 61, _, #[⟨16, .guard⟩], some (16, false)⟩) (v := undef) rfl (by kernel_rfl) (by kernel_rfl) (by kernel_rfl) (fun _ _ _ h => h) (Or.inr ⟨by rfl, rfl⟩) hHeld ?_
        try simp only [Act.put, putA, putB, putC]
        refine wpAnyH_take (i := 18) (oi := ⟨some 28, .move (.tmp 3), 3, _, #[⟨16, .guard⟩], some (16, false)⟩) (v := undef) rfl (by kernel_rfl) (by kernel_rfl) (by kernel_rfl) (fun _ _ _ h => h) (Or.inr ⟨by rfl, rfl⟩) hHeld ?_
        try simp only [Act.put, putA, putB, putC]
        refine wpAnyH_take (i := 19) (oi := ⟨some 29, .indexAddr 61 (.tmp 27) (.tmp 28), 0, _, #[⟨17, .data⟩, ⟨18, .data⟩, ⟨16, .guard⟩], some (16, false)⟩) (v := undef) rfl (by kernel_rfl) (by kernel_rfl) (by kernel_rfl) (fun _ _ _ h => h) (Or.inr ⟨by rfl, rfl⟩) hHeld ?_
        try simp only [Act.put, putA, putB, putC]
        refine wpAnyH_take (i := 20) (oi := ⟨some 30, .fieldAddr 97 (.tmp 29) 1, 0, _, #[⟨19, .data⟩, ⟨16, .guard⟩], some (16, false)⟩) (v := undef) rfl (by kernel_rfl) (by kernel_rfl) (by kernel_rfl) (fun _ _ _ h => h) (Or.inr ⟨by rfl, rfl⟩) hHeld ?_
        try simp only [Act.put, putA, putB, putC]
        refine wpAnyH_take (i := 21) (oi := ⟨some 31, .load 95 (.tmp 30), 95, _, #[⟨20, .data⟩, ⟨16, .guard⟩], some (16, false)⟩) (v := undef) rfl (by kernel_rfl) (by kernel_rfl) (by kernel_rfl) (fun _ _ _ h => h) (Or.inr ⟨by rfl, rfl⟩) hHeld ?_
        try simp only [Act.put, putA, putB, putC]
        refine wpAnyH_ready (rs := [22]) (by kernel_rfl) (by simp) ?_
        refine AllReadyH.cons (o := ⟨some 32, .call { callee := .value (.func 49), args := #[.tmp 31], argTypes := #[95] }, 4, _, #[⟨21, .data⟩, ⟨16, .chain⟩, ⟨16, .guard⟩], some (16, false)⟩) rfl (fun K hK => ?_) AllReadyH.nil
        rw [if_neg (by simp [Region.wanted, yielded])]
        refine hK.out _ _ hHeld (fun hHeld => ?_)
        clear hK K
        try simp only [Act.put, putA, putB, putC]
        refine wpAnyH_take (i := 23) (oi := ⟨some 33, .unOp .not 4 (.tmp 32), 4, _, #[⟨22, .data⟩, ⟨16, .guard⟩], some (16, false)⟩) (v := undef) rfl (by kernel_rfl) (by kernel_rfl) (by kernel_rfl) (fun _ _ _ h => h) (Or.inr ⟨by rfl, rfl⟩) hHeld ?_
        try simp only [Act.put, putA, putB, putC]
        refine wpAnyH_take (i := 24) (oi := ⟨some 34, .pick (.tmp 26) (.const (.bool true)) (.tmp 33), 4, _, #[⟨16, .data⟩, ⟨23, .data⟩], none⟩) (v := ?_) rfl (by kernel_rfl) (by kernel_rfl) (by kernel_rfl) (fun _ _ _ h => h) (Or.inl ⟨by rfl, ?yyA24⟩) hHeld ?rrA24
        case yyA24 => (intro w hSw; (try dsimp only at hSw); go_simp; first | done | with_reducible rfl)
        try simp only [Act.put, putA, putB, putC]
        refine wpAnyH_take (i := 25) (oi := ⟨some 35, .move (.tmp 34), 4, _, #[⟨24, .data⟩, ⟨22, .chain⟩], none⟩) (v := ?_) rfl (by kernel_rfl) (by kernel_rfl) (by kernel_rfl) (fun _ _ _ h => h) (Or.inl ⟨by rfl, ?yyA25⟩) hHeld ?rrA25
        case yyA25 => (intro w hSw; (try dsimp only at hSw); go_simp; first | done | with_reducible rfl)
        try simp only [Act.put, putA, putB, putC]
        refine wpAnyH_take (i := 26) (oi := ⟨some 36, .move (.tmp 3), 3, _, #[⟨25, .guard⟩], some (25, false)⟩) (v := undef) rfl (by kernel_rfl) (by kernel_rfl) (by kernel_rfl) (fun _ _ _ h => h) (Or.inr ⟨by rfl, rfl⟩) hHeld ?_
        try simp only [Act.put, putA, putB, putC]
        refine wpAnyH_take (i := 27) (oi := ⟨some 37, .binOp .gtr 3 (.tmp 36) (.const (.int .i64 0)) 3, 4, _, #[⟨26, .data⟩, ⟨25, .guard⟩], some (25, false)⟩) (v := undef) rfl (by kernel_rfl) (by kernel_rfl) (by kernel_rfl) (fun _ _ _ h => h) (Or.inr ⟨by rfl, rfl⟩) hHeld ?_
        try simp only [Act.put, putA, putB, putC]
        refine wpAnyH_take (i := 28) (oi := ⟨some 38, .move (.tmp 37), 4, _, #[⟨27, .data⟩, ⟨25, .chain⟩, ⟨25, .guard⟩], some (25, false)⟩) (v := undef) rfl (by kernel_rfl) (by kernel_rfl) (by kernel_rfl) (fun _ _ _ h => h) (Or.inr ⟨by rfl, rfl⟩) hHeld ?_
        try simp only [Act.put, putA, putB, putC]
        refine wpAnyH_take (i := 29) (oi := ⟨some 39, .move (.tmp 0), 61, _, #[⟨28, .guard⟩], some (28, true)⟩) (v := undef) rfl (by kernel_rfl) (by kernel_rfl) (by kernel_rfl) (fun _ _ _ h => h) (Or.inr ⟨by rfl, rfl⟩) hHeld ?_
        try simp only [Act.put, putA, putB, putC]
        refine wpAnyH_take (i := 30) (oi := ⟨some 40, .move (.tmp 3), 3, _, #[⟨28, .guard⟩], some (28, true)⟩) (v := undef) rfl (by kernel_rfl) (by kernel_rfl) (by kernel_rfl) (fun _ _ _ h => h) (Or.inr ⟨by rfl, rfl⟩) hHeld ?_
        try simp only [Act.put, putA, putB, putC]
        refine wpAnyH_take (i := 31) (oi := ⟨some 41, .binOp .sub 3 (.tmp 40) (.const (.int .i64 1)) 3, 3, _, #[⟨30, .data⟩, ⟨28, .guard⟩], some (28, true)⟩) (v := undef) rfl (by kernel_rfl) (by kernel_rfl) (by kernel_rfl) (fun _ _ _ h => h) (Or.inr ⟨by rfl, rfl⟩) hHeld ?_
        try simp only [Act.put, putA, putB, putC]
        refine wpAnyH_take (i := 32) (oi := ⟨some 42, .indexAddr 61 (.tmp 39) (.tmp 41), 0, _, #[⟨29, .data⟩, ⟨31, .data⟩, ⟨28, .guard⟩], some (28, true)⟩) (v := undef) rfl (by kernel_rfl) (by kernel_rfl) (by kernel_rfl) (fun _ _ _ h => h) (Or.inr ⟨by rfl, rfl⟩) hHeld ?_
        try simp only [Act.put, putA, putB, putC]
        refine wpAnyH_take (i := 33) (oi := ⟨some 43, .fieldAddr 97 (.tmp 42) 0, 0, _, #[⟨32, .data⟩, ⟨28, .guard⟩], some (28, true)⟩) (v := undef) rfl (by kernel_rfl) (by kernel_rfl) (by kernel_rfl) (fun _ _ _ h => h) (Or.inr ⟨by rfl, rfl⟩) hHeld ?_
        try simp only [Act.put, putA, putB, putC]
        refine wpAnyH_take (i := 34) (oi := ⟨some 44, .load 9 (.tmp 43), 9, _, #[⟨33, .data⟩, ⟨28, .guard⟩], some (28, true)⟩) (v := undef) rfl (by kernel_rfl) (by kernel_rfl) (by kernel_rfl) (fun _ _ _ h => h) (Or.inr ⟨by rfl, rfl⟩) hHeld ?_
        try simp only [Act.put, putA, putB, putC]
        refine wpAnyH_take (i := 35) (oi := ⟨some 45, .move (.tmp 0), 61, _, #[⟨28, .guard⟩], some (28, true)⟩) (v := undef) rfl (by kernel_rfl) (by kernel_rfl) (by kernel_rfl) (fun _ _ _ h => h) (Or.inr ⟨by rfl, rfl⟩) hHeld ?_
        try simp only [Act.put, putA, putB, putC]
        refine wpAnyH_take (i := 36) (oi := ⟨some 46, .move (.tmp 3), 3, _, #[⟨28, .guard⟩], some (28, true)⟩) (v := undef) rfl (by kernel_rfl) (by kernel_rfl) (by kernel_rfl) (fun _ _ _ h => h) (Or.inr ⟨by rfl, rfl⟩) hHeld ?_
        try simp only [Act.put, putA, putB, putC]
        refine wpAnyH_take (i := 37) (oi := ⟨some 47, .indexAddr 61 (.tmp 45) (.tmp 46), 0, _, #[⟨35, .data⟩, ⟨36, .data⟩, ⟨28, .guard⟩], some (28, true)⟩) (v := undef) rfl (by kernel_rfl) (by kernel_rfl) (by kernel_rfl) (fun _ _ _ h => h) (Or.inr ⟨by rfl, rfl⟩) hHeld ?_
        try simp only [Act.put, putA, putB, putC]
        refine wpAnyH_take (i := 38) (oi := ⟨some 48, .fieldAddr 97 (.tmp 47) 0, 0, _, #[⟨37, .data⟩, ⟨28, .guard⟩], some (28, true)⟩) (v := undef) rfl (by kernel_rfl) (by kernel_rfl) (by kernel_rfl) (fun _ _ _ h => h) (Or.inr ⟨by rfl, rfl⟩) hHeld ?_
        try simp only [Act.put, putA, putB, putC]
        refine wpAnyH_take (i := 39) (oi := ⟨some 49, .load 9 (.tmp 48), 9, _, #[⟨38, .data⟩, ⟨28, .guard⟩], some (28, true)⟩) (v := undef) rfl (by kernel_rfl) (by kernel_rfl) (by kernel_rfl) (fun _ _ _ h => h) (Or.inr ⟨by rfl, rfl⟩) hHeld ?_
        try simp only [Act.put, putA, putB, putC]
        refine wpAnyH_take (i := 40) (oi := ⟨some 50, .binOp .geq 9 (.tmp 44) (.tmp 49) 9, 4, _, #[⟨34, .data⟩, ⟨39, .data⟩, ⟨28, .guard⟩], some (28, true)⟩) (v := undef) rfl (by kernel_rfl) (by kernel_rfl) (by kernel_rfl) (fun _ _ _ h => h) (Or.inr ⟨by rfl, rfl⟩) hHeld ?_
        try simp only [Act.put, putA, putB, putC]
        refine wpAnyH_take (i := 41) (oi := ⟨some 51, .pick (.tmp 38) (.tmp 50) (.const (.bool false)), 4, _, #[⟨28, .data⟩, ⟨40, .data⟩, ⟨25, .guard⟩], some (25, false)⟩) (v := undef) rfl (by kernel_rfl) (by kernel_rfl) (by kernel_rfl) (fun _ _ _ h => h) (Or.inr ⟨by rfl, rfl⟩) hHeld ?_
        try simp only [Act.put, putA, putB, putC]
        refine wpAnyH_take (i := 42) (oi := ⟨some 52, .pick (.tmp 35) (.const (.bool true)) (.tmp 51), 4, _, #[⟨25, .data⟩, ⟨41, .data⟩], none⟩) (v := ?_) rfl (by kernel_rfl) (by kernel_rfl) (by kernel_rfl) (fun _ _ _ h => h) (Or.inl ⟨by rfl, ?yyA42⟩) hHeld ?rrA42
        case yyA42 => (intro w hSw; (try dsimp only at hSw); go_simp; first | done | with_reducible rfl)
        try simp only [Act.put, putA, putB, putC]
        refine wpAnyH_done (by kernel_rfl) ?_ _
        go_wp2
        go_ret
        exact ⟨ret_bool hfin.out.symm, hE.trans hcur⟩
      · cases ho : okN 3 X
        · have hfin : Hid (propsB (.list 5 len f) = false) := by show _ = _; rw [HB.out, all_no hlt (by rw [hLk.out, hn, ho]; rfl)]; rfl
          have HK : Hid (∀ W, Ext wr W → W.cell? ⟨b, off + k * 5, none⟩ = some (.string x0) ∧ W.cell? ⟨b, off + k * 5 + 1, none⟩ = some (.int .i64 x1) ∧ W.cell? ⟨b, off + k * 5 + 2, none⟩ = some (.int .i64 x2) ∧ W.cell? ⟨b, off + k * 5 + 3, none⟩ = some (.string x3) ∧ W.cell? ⟨b, off + k * 5 + 4, none⟩ = some (.slice a4 l4 cap4)) := hS0
          clear hS0
          have hcur : Ext wr wr.drew := (Ext.refl _).drew
          refine wp_region_held_drew (S := (fun W => W.cell? ⟨b, off + k * 5, none⟩ = some (.string x0) ∧ W.cell? ⟨b, off + k * 5 + 1, none⟩ = some (.int .i64 x1) ∧ W.cell? ⟨b, off + k * 5 + 2, none⟩ = some (.int .i64 x2) ∧ W.cell? ⟨b, off + k * 5 + 3, none⟩ = some (.string x3) ∧ W.cell? ⟨b, off + k * 5 + 4, none⟩ = some (.slice a4 l4 cap4))) (by kernel_rfl) (HK.out _ hcur) (fun hHeld => ?_)
          refine wpAnyH_take (i := 0) (oi := ⟨some 10, .move (.tmp 0), 61, _, #[], none⟩) (v := ?_) rfl (by kernel_rfl) (by kernel_rfl) (by kernel_rfl) (fun _ _ _ h => h) (Or.inl ⟨by rfl, ?yyB0⟩) hHeld ?rrB0
          case yyB0 => (intro w hSw; (try dsimp only at hSw); go_simp; first | done | with_reducible rfl)
          try simp only [Act.put, putA, putB, putC]
          refine wpAnyH_take (i := 1) (oi := ⟨some 11, .move (.tmp 3), 3, _, #[], none⟩) (v := ?_) rfl (by kernel_rfl) (by kernel_rfl) (by kernel_rfl) (fun _ _ _ h => h) (Or.inl ⟨by rfl, ?yyB1⟩) hHeld ?rrB1
          case yyB1 => (intro w hSw; (try dsimp only at hSw); go_simp; first | done | with_reducible rfl)
          try simp only [Act.put, putA, putB, putC]
          refine wpAnyH_take (i := 2) (oi := ⟨some 12, .indexAddr 61 (.tmp 10) (.tmp 11), 0, _, #[⟨0, .data⟩, ⟨1, .data⟩], none⟩) (v := ?_) rfl (by kernel_rfl) (by kernel_rfl) (by kernel_rfl) (fun _ _ _ h => h) (Or.inl ⟨by rfl, ?yyB2⟩) hHeld ?rrB2
          case yyB2 => (intro w hSw; (try dsimp only at hSw); go_simp; first | done | with_reducible rfl)
          try simp only [Act.put, putA, putB, putC]
          refine wpAnyH_take (i := 3) (oi := ⟨some 13, .fieldAddr 97 (.tmp 12) 0, 0, _, #[⟨2, .data⟩], none⟩) (v := ?_) rfl (by kernel_rfl) (by kernel_rfl) (by kernel_rfl) (fun _ _ _ h => h) (Or.inl ⟨by rfl, ?yyB3⟩) hHeld ?rrB3
          case yyB3 => (intro w hSw; (try dsimp only at hSw); go_simp; first | done | with_reducible rfl)
          try simp only [Act.put, putA, putB, putC]
          refine wpAnyH_take (i := 4) (oi := ⟨some 14, .load 9 (.tmp 13), 9, _, #[⟨3, .data⟩], none⟩) (v := ?_) rfl (by kernel_rfl) (by kernel_rfl) (by kernel_rfl) (fun _ _ _ h => h) (Or.inl ⟨by rfl, ?yyB4⟩) hHeld ?rrB4
          case yyB4 => (intro w hSw; (try dsimp only at hSw); go_simp; first | done | with_reducible rfl)
          try simp only [Act.put, putA, putB, putC]
          refine wpAnyH_ready (rs := [5]) (by kernel_rfl) (by simp) ?_
          refine AllReadyH.cons (o := ⟨some 15, .call { callee := .value (.func 31), args := #[.tmp 14], argTypes := #[9] }, 4, _, #[⟨4, .data⟩], none⟩) rfl (fun K hK => ?_) AllReadyH.nil
          go_simp
          refine (l2Name_any _ _ z0).mono ?_
          rintro e w1 ⟨rfl, hE2⟩
          rw [hn]
          replace hcur := hcur.trans hE2
          go_wp2_with fail
          refine hK.out _ _ (HK.out _ hcur) (fun hHeld => ?_)
          clear hK K
          try simp only [Act.put, putA, putB, putC]
          refine wpAnyH_take (i := 6) (oi := ⟨some 16, .unOp .not 4 (.tmp 15), 4, _, #[⟨5, .data⟩], none⟩) (v := ?_) rfl (by kernel_rfl) (by kernel_rfl) (by kernel_rfl) (fun _ _ _ h => h) (Or.inl ⟨by rfl, ?yyB6⟩) hHeld ?rrB6
          case yyB6 => (intro w hSw; (try dsimp only at hSw); go_simp; first | done | with_reducible rfl)
          try simp only [Act.put, putA, putB, putC]
          refine wpAnyH_take (i := 7) (oi := ⟨some 17, .move (.tmp 16), 4, _, #[⟨6, .data⟩, ⟨5, .chain⟩], none⟩) (v := ?_) rfl (by kernel_rfl) (by kernel_rfl) (by kernel_rfl) (fun _ _ _ h => h) (Or.inl ⟨by rfl, ?yyB7⟩) hHeld ?rrB7
          case yyB7 => (intro w hSw; (try dsimp only at hSw); go_simp; first | done | with_reducible rfl)
          try simp only [Act.put, putA, putB, putC]
          refine wpAnyH_take (i := 8) (oi := ⟨some 18, .move (.tmp 0), 61, _, #[⟨7, .guard⟩], some (7, false)⟩) (v := ?_) rfl (by kernel_rfl) (by kernel_rfl) (by kernel_rfl) (fun _ _ _ h => h) (Or.inl ⟨by rfl, ?yyB8⟩) hHeld ?rrB8
          case yyB8 => (intro w hSw; (try dsimp only at hSw); go_simp; first | done | with_reducible rfl)
          try simp only [Act.put, putA, putB, putC]
          refine wpAnyH_take (i := 9) (oi := ⟨some 19, .move (.tmp 3), 3, _, #[⟨7, .guard⟩], some (7, false)⟩) (v := ?_) rfl (by kernel_rfl) (by kernel_rfl) (by kernel_rfl) (fun _ _ _ h => h) (Or.inl ⟨by rfl, ?yyB9⟩) hHeld ?rrB9
          case yyB9 => (intro w hSw; (try dsimp only at hSw); go_simp; first | done | with_reducible rfl)
          try simp only [Act.put, putA, putB, putC]
          refine wpAnyH_take (i := 10) (oi := ⟨some 20, .indexAddr 61 (.tmp 18) (.tmp 19), 0, _, #[⟨8, .data⟩, ⟨9, .data⟩, ⟨7, .guard⟩], some (7, false)⟩) (v := ?_) rfl (by kernel_rfl) (by kernel_rfl) (by kernel_rfl) (fun _ _ _ h => h) (Or.inl ⟨by rfl, ?yyB10⟩) hHeld ?rrB10
          case yyB10 => (intro w hSw; (try dsimp only at hSw); go_simp; first | done | with_reducible rfl)
          try simp only [Act.put, putA, putB, putC]
          refine wpAnyH_take (i := 11) (oi := ⟨some 21, .fieldAddr 97 (.tmp 20) 1, 0, _, #[⟨10, .data⟩, ⟨7, .guard⟩], some (7, false)⟩) (v := ?_) rfl (by kernel_rfl) (by kernel_rfl) (by kernel_rfl) (fun _ _ _ h => h) (Or.inl ⟨by rfl, ?yyB11⟩) hHeld ?rrB11
          case yyB11 => (intro w hSw; (try dsimp only at hSw); go_simp; first | done | with_reducible rfl)
          try simp only [Act.put, putA, putB, putC]
          refine wpAnyH_take (i := 12) (oi := ⟨some 22, .load 95 (.tmp 21), 95, _, #[⟨11, .data⟩, ⟨7, .guard⟩], some (7, false)⟩) (v := ?_) rfl (by kernel_rfl) (by kernel_rfl) (by kernel_rfl) (fun _ _ _ h => h) (Or.inl ⟨by rfl, ?yyB12⟩) hHeld ?rrB12
          case yyB12 => (intro w hSw; (try dsimp only at hSw); go_simp; first | done | with_reducible rfl)
          try simp only [Act.put, putA, putB, putC]
          refine wpAnyH_ready (rs := [13]) (by kernel_rfl) (by simp) ?_
          refine AllReadyH.cons (o := ⟨some 23, .call { callee := .value (.func 48), args := #[.tmp 22], argTypes := #[95] }, 4, _, #[⟨12, .data⟩, ⟨7, .chain⟩, ⟨7, .guard⟩], some (7, false)⟩) rfl (fun K hK => ?_) AllReadyH.nil
          go_simp
          refine (specValueOk_any X 0 _ _ (hval _ hcur)).mono ?_
          rintro e w2 ⟨rfl, hE3⟩
          rw [ho]
          replace hcur := hcur.trans hE3
          go_wp2_with fail
          refine hK.out _ _ (HK.out _ hcur) (fun hHeld => ?_)
          clear hK K
          try simp only [Act.put, putA, putB, putC]
          refine wpAnyH_take (i := 14) (oi := ⟨some 24, .unOp .not 4 (.tmp 23), 4, _, #[⟨13, .data⟩, ⟨7, .guard⟩], some (7, false)⟩) (v := ?_) rfl (by kernel_rfl) (by kernel_rfl) (by kernel_rfl) (fun _ _ _ h => h) (Or.inl ⟨by rfl, ?yyB14⟩) hHeld ?rrB14
          case yyB14 => (intro w hSw; (try dsimp only at hSw); go_simp; first | done | with_reducible rfl)
          try simp only [Act.put, putA, putB, putC]
          refine wpAnyH_take (i := 15) (oi := ⟨some 25, .pick (.tmp 17) (.const (.bool true)) (.tmp 24), 4, _, #[⟨7, .data⟩, ⟨14, .data⟩], none⟩) (v := ?_) rfl (by kernel_rfl) (by kernel_rfl) (by kernel_rfl) (fun _ _ _ h => h) (Or.inl ⟨by rfl, ?yyB15⟩) hHeld ?rrB15
          case yyB15 => (intro w hSw; (try dsimp only at hSw); go_simp; first | done | with_reducible rfl)
          try simp only [Act.put, putA, putB, putC]
          refine wpAnyH_take (i := 16) (oi := ⟨some 26, .move (.tmp 25), 4, _, #[⟨15, .data⟩, ⟨13, .chain⟩], none⟩) (v := ?_) rfl (by kernel_rfl) (by kernel_rfl) (by kernel_rfl) (fun _ _ _ h => h) (Or.inl ⟨by rfl, ?yyB16⟩) hHeld ?rrB16
          case yyB16 => (intro w hSw; (try dsimp only at hSw); go_simp; first | done | with_reducible rfl)
          try simp only [Act.put, putA, putB, putC]
          refine wpAnyH_take (i := 17) (oi := ⟨some 27, .move (.tmp 0), 61, _, #[⟨16, .guard⟩], some (16, false)⟩) (v := undef) rfl (by kernel_rfl) (by kernel_rfl) (by kernel_rfl) (fun _ _ _ h => h) (Or.inr ⟨by rfl, rfl⟩) hHeld ?_
          try simp only [Act.put, putA, putB, putC]
          refine wpAnyH_take (i := 18) (oi := ⟨some 28, .move (.tmp 3), 3, _, #[⟨16, .guard⟩], some (16, false)⟩) (v := undef) rfl (by kernel_rfl) (by kernel_rfl) (by kernel_rfl) (fun _ _ _ h => h) (Or.inr ⟨by rfl, rfl⟩) hHeld ?_
          try simp only [Act.put, putA, putB, putC]
          refine wpAnyH_take (i := 19) (oi := ⟨some 29, .indexAddr 61 (.tmp 27) (.tmp 28), 0, _, #[⟨17, .data⟩, ⟨18, .data⟩, ⟨16, .guard⟩], some (16, false)⟩) (v := undef) rfl (by kernel_rfl) (by kernel_rfl) (by kernel_rfl) (fun _ _ _ h => h) (Or.inr ⟨by rfl, rfl⟩) hHeld ?_
          try simp only [Act.put, putA, putB, putC]
          refine wpAnyH_take (i := 20) (oi := ⟨some 30, .fieldAddr 97 (.tmp 29) 1, 0, _, #[⟨19, .data⟩, ⟨16, .guard⟩], some (16, false)⟩) (v := undef) rfl (by kernel_rfl) (by kernel_rfl) (by kernel_rfl) (fun _ _ _ h => h) (Or.inr ⟨by rfl, rfl⟩) hHeld ?_
          try simp only [Act.put, putA, putB, putC]
          refine wpAnyH_take (i := 21) (oi := ⟨some 31, .load 95 (.tmp 30), 95, _, #[⟨20, .data⟩, ⟨16, .guard⟩], some (16, false)⟩) (v := undef) rfl (by kernel_rfl) (by kernel_rfl) (by kernel_rfl) (fun _ _ _ h => h) (Or.inr ⟨by rfl, rfl⟩) hHeld ?_
          try simp only [Act.put, putA, putB, putC]
          refine wpAnyH_ready (rs := [22]) (by kernel_rfl) (by simp) ?_
          refine AllReadyH.cons (o := ⟨some 32, .call { callee := .value (.func 49), args := #[.tmp 31], argTypes := #[95] }, 4, _, #[⟨21, .data⟩, ⟨16, .chain⟩, ⟨16, .guard⟩], some (16, false)⟩) rfl (fun K hK => ?_) AllReadyH.nil
          rw [if_neg (by simp [Region.wanted, yielded])]
          refine hK.out _ _ hHeld (fun hHeld => ?_)
          clear hK K
          try simp only [Act.put, putA, putB, putC]
          refine wpAnyH_take (i := 23) (oi := ⟨some 33, .unOp .not 4 (.tmp 32), 4, _, #[⟨22, .data⟩, ⟨16, .guard⟩], some (16, false)⟩) (v := undef) rfl (by kernel_rfl) (by kernel_rfl) (by kernel_rfl) (fun _ _ _ h => h) (Or.inr ⟨by rfl, rfl⟩) hHeld ?_
          try simp only [Act.put, putA, putB, putC]
          refine wpAnyH_take (i := 24) (oi := ⟨some 34, .pick (.tmp 26) (.const (.bool true)) (.tmp 33), 4, _, #[⟨16, .data⟩, ⟨23, .data⟩], none⟩) (v := ?_) rfl (by kernel_rfl) (by kernel_rfl) (by kernel_rfl) (fun _ _ _ h => h) (Or.inl ⟨by rfl, ?yyB24⟩) hHeld ?rrB24
          case yyB24 => (intro w hSw; (try dsimp only at hSw); go_simp; first | done | with_reducible rfl)
          try simp only [Act.put, putA, putB, putC]
          refine wpAnyH_take (i := 25) (oi := ⟨some 35, .move (.tmp 34), 4, _, #[⟨24, .data⟩, ⟨22, .chain⟩], none⟩) (v := ?_) rfl (by kernel_rfl) (by kernel_rfl) (by kernel_rfl) (fun _ _ _ h => h) (Or.inl ⟨by rfl, ?yyB25⟩) hHeld ?rrB25
          case yyB25 => (intro w hSw; (try dsimp only at hSw); go_simp; first | done | with_reducible rfl)
          try simp only [Act.put, putA, putB, putC]
          refine wpAnyH_take (i := 26) (oi := ⟨some 36, .move (.tmp 3), 3, _, #[⟨25, .guard⟩], some (25, false)⟩) (v := undef) rfl (by kernel_rfl) (by kernel_rfl) (by kernel_rfl) (fun _ _ _ h => h) (Or.inr ⟨by rfl, rfl⟩) hHeld ?_
          try simp only [Act.put, putA, putB, putC]
          refine wpAnyH_take (i := 27) (oi := ⟨some 37, .binOp .gtr 3 (.tmp 36) (.const (.int .i64 0)) 3, 4, _, #[⟨26, .data⟩, ⟨25, .guard⟩], some (25, false)⟩) (v := undef) rfl (by kernel_rfl) (by kernel_rfl) (by kernel_rfl) (fun _ _ _ h => h) (Or.inr ⟨by rfl, rfl⟩) hHeld ?_
          try simp only [Act.put, putA, putB, putC]
          refine wpAnyH_take (i := 28) (oi := ⟨some 38, .move (.tmp 37), 4, _, #[⟨27, .data⟩, ⟨25, .chain⟩, ⟨25, .guard⟩], some (25, false)⟩) (v := undef) rfl (by kernel_rfl) (by kernel_rfl) (by kernel_rfl) (fun _ _ _ h => h) (Or.inr ⟨by rfl, rfl⟩) hHeld ?_
          try simp only [Act.put, putA, putB, putC]
          refine wpAnyH_take (i := 29) (oi := ⟨some 39, .move (.tmp 0), 61, _, #[⟨28, .guard⟩], some (28, true)⟩) (v := undef) rfl (by kernel_rfl) (by kernel_rfl) (by kernel_rfl) (fun _ _ _ h => h) (Or.inr ⟨by rfl, rfl⟩) hHeld ?_
          try simp only [Act.put, putA, putB, putC]
          refine wpAnyH_take (i := 30) (oi := ⟨some 40, .move (.tmp 3), 3, _, #[⟨28, .guard⟩], some (28, true)⟩) (v := undef) rfl (by kernel_rfl) (by kernel_rfl) (by kernel_rfl) (fun _ _ _ h => h) (Or.inr ⟨by rfl, rfl⟩) hHeld ?_
          try simp only [Act.put, putA, putB, putC]
          refine wpAnyH_take (i := 31) (oi := ⟨some 41, .binOp .sub 3 (.tmp 40) (.const (.int .i64 1)) 3, 3, _, #[⟨30, .data⟩, ⟨28, .guard⟩], some (28, true)⟩) (v := undef) rfl (by kernel_rfl) (by kernel_rfl) (by kernel_rfl) (fun _ _ _ h => h) (Or.inr ⟨by rfl, rfl⟩) hHeld ?_
          try simp only [Act.put, putA, putB, putC]
          refine wpAnyH_take (i := 32) (oi := ⟨some 42, .indexAddr 61 (.tmp 39) (.tmp 41), 0, _, #[⟨29, .data⟩, ⟨31, .data⟩, ⟨28, .guard⟩], some (28, true)⟩) (v := undef) rfl (by kernel_rfl) (by kernel_rfl) (by kernel_rfl) (fun _ _ _ h => h) (Or.inr ⟨by rfl, rfl⟩) hHeld ?_
          try simp only [Act.put, putA, putB, putC]
          refine wpAnyH_take (i := 33) (oi := ⟨some 43, .fieldAddr 97 (.tmp 42) 0, 0, _, #[⟨32, .data⟩, ⟨28, .guard⟩], some (28, true)⟩) (v := undef) rfl (by kernel_rfl) (by kernel_rfl) (by kernel_rfl) (fun _ _ _ h => h) (Or.inr ⟨by rfl, rfl⟩) hHeld ?_
          try simp only [Act.put, putA, putB, putC]
          refine wpAnyH_take (i := 34) (oi := ⟨some 44, .load 9 (.tmp 43), 9, _, #[⟨33, .data⟩, ⟨28, .guard⟩], some (28, true)⟩) (v := undef) rfl (by kernel_rfl) (by kernel_rfl) (by kernel_rfl) (fun _ _ _ h => h) (Or.inr ⟨by rfl, rfl⟩) hHeld ?_
          try simp only [Act.put, putA, putB, putC]
          refine wpAnyH_take (i := 35) (oi := ⟨some 45, .move (.tmp 0), 61, _, #[⟨28, .guard⟩], some (28, true)⟩) (v := undef) rfl (by kernel_rfl) (by kernel_rfl) (by kernel_rfl) (fun _ _ _ h => h) (Or.inr ⟨by rfl, rfl⟩) hHeld ?_
          try simp only [Act.put, putA, putB, putC]
          refine wpAnyH_take (i := 36) (oi := ⟨some 46, .move (.tmp 3), 3, _, #[⟨28, .guard⟩], some (28, true)⟩) (v := undef) rfl (by kernel_rfl) (by kernel_rfl) (by kernel_rfl) (fun _ _ _ h => h) (Or.inr ⟨by rfl, rfl⟩) hHeld ?_
          try simp only [Act.put, putA, putB, putC]
          refine wpAnyH_take (i := 37) (oi := ⟨some 47, .indexAddr 61 (.tmp 45) (.tmp 46), 0, _, #[⟨35, .data⟩, ⟨36, .data⟩, ⟨28, .guard⟩], some (28, true)⟩) (v := undef) rfl (by kernel_rfl) (by kernel_rfl) (by kernel_rfl) (fun _ _ _ h => h) (Or.inr ⟨by rfl, rfl⟩) hHeld ?_
          try simp only [Act.put, putA, putB, putC]
          refine wpAnyH_take (i := 38) (oi := ⟨some 48, .fieldAddr 97 (.tmp 47) 0, 0, _, #[⟨37, .data⟩, ⟨28, .guard⟩], some (28, true)⟩) (v := undef) rfl (by kernel_rfl) (by kernel_rfl) (by kernel_rfl) (fun _ _ _ h => h) (Or.inr ⟨by rfl, rfl⟩) hHeld ?_
          try simp only [Act.put, putA, putB, putC]
          refine wpAnyH_take (i := 39) (oi := ⟨some 49, .load 9 (.tmp 48), 9, _, #[⟨38, .data⟩, ⟨28, .guard⟩], some (28, true)⟩) (v := undef) rfl (by kernel_rfl) (by kernel_rfl) (by kernel_rfl) (fun _ _ _ h => h) (Or.inr ⟨by rfl, rfl⟩) hHeld ?_
          try simp only [Act.put, putA, putB, putC]
          refine wpAnyH_take (i := 40) (oi := ⟨some 50, .binOp .geq 9 (.tmp 44) (.tmp 49) 9, 4, _, #[⟨34, .data⟩, ⟨39, .data⟩, ⟨28, .guard⟩], some (28, true)⟩) (v := undef) rfl (by kernel_rfl) (by kernel_rfl) (by kernel_rfl) (fun _ _ _ h => h) (Or.inr ⟨by rfl, rfl⟩) hHeld ?_
          try simp only [Act.put, putA, putB, putC]
          refine wpAnyH_take (i := 41) (oi := ⟨some 51, .pick (.tmp 38) (.tmp 50) (.const (.bool false)), 4, _, #[⟨28, .data⟩, ⟨40, .data⟩, ⟨25, .guard⟩], some (25, false)⟩) (v := undef) rfl (by kernel_rfl) (by kernel_rfl) (by kernel_rfl) (fun _ _ _ h => h) (Or.inr ⟨by rfl, rfl⟩) hHeld ?_
          try simp only [Act.put, putA, putB, putC]
          refine wpAnyH_take (i := 42) (oi := ⟨some 52, .pick (.tmp 35) (.const (.bool true)) (.tmp 51), 4, _, #[⟨25, .data⟩, ⟨41, .data⟩], none⟩) (v := ?_) rfl (by kernel_rfl) (by kernel_rfl) (by kernel_rfl) (fun _ _ _ h => h) (Or.inl ⟨by rfl, ?yyB42⟩) hHeld ?rrB42
          case yyB42 => (intro w hSw; (try dsimp only at hSw); go_simp; first | done | with_reducible rfl)
          try simp only [Act.put, putA, putB, putC]
          refine wpAnyH_done (by kernel_rfl) ?_ _
          go_wp2
          go_ret
          exact ⟨ret_bool hfin.out.symm, hE.trans hcur⟩
        · cases hp : plainB X
          · have hfin : Hid (propsB (.list 5 len f) = false) := by show _ = _; rw [HB.out, all_no hlt (by rw [hLk.out, hn, ho, hp]; rfl)]; rfl
            have HK : Hid (∀ W, Ext wr W → W.cell? ⟨b, off + k * 5, none⟩ = some (.string x0) ∧ W.cell? ⟨b, off + k * 5 + 1, none⟩ = some (.int .i64 x1) ∧ W.cell? ⟨b, off + k * 5 + 2, none⟩ = some (.int .i64 x2) ∧ W.cell? ⟨b, off + k * 5 + 3, none⟩ = some (.string x3) ∧ W.cell? ⟨b, off + k * 5 + 4, none⟩ = some (.slice a4 l4 cap4)) := hS0
            clear hS0
            have hcur : Ext wr wr.drew := (Ext.refl _).drew
            refine wp_region_held_drew (S := (fun W => W.cell? ⟨b, off + k * 5, none⟩ = some (.string x0) ∧ W.cell? ⟨b, off + k * 5 + 1, none⟩ = some (.int .i64 x1) ∧ W.cell? ⟨b, off + k * 5 + 2, none⟩ = some (.int .i64 x2) ∧ W.cell? ⟨b, off + k * 5 + 3, none⟩ = some (.string x3) ∧ W.cell? ⟨b, off + k * 5 + 4, none⟩ = some (.slice a4 l4 cap4))) (by kernel_rfl) (HK.out _ hcur) (fun hHeld => ?_)
            refine wpAnyH_take (i := 0) (oi := ⟨some 10, .move (.tmp 0), 61, _, #[], none⟩) (v := ?_) rfl (by kernel_rfl) (by kernel_rfl) (by kernel_rfl) (fun _ _ _ h => h) (Or.inl ⟨by rfl, ?yyC0⟩) hHeld ?rrC0
            case yyC0 => (intro w hSw; (try dsimp only at hSw); go_simp; first | done | with_reducible rfl)
            try simp only [Act.put, putA, putB, putC]
            refine wpAnyH_take (i := 1) (oi := ⟨some 11, .move (.tmp 3), 3, _, #[], none⟩) (v := ?_) rfl (by kernel_rfl) (by kernel_rfl) (by kernel_rfl) (fun _ _ _ h => h) (Or.inl ⟨by rfl, ?yyC1⟩) hHeld ?rrC1
            case yyC1 => (intro w hSw; (try dsimp only at hSw); go_simp; first | done | with_reducible rfl)
            try simp only [Act.put, putA, putB, putC]
            refine wpAnyH_take (i := 2) (oi := ⟨some 12, .indexAddr 61 (.tmp 10) (.tmp 11), 0, _, #[⟨0, .data⟩, ⟨1, .data⟩], none⟩) (v := ?_) rfl (by kernel_rfl) (by kernel_rfl) (by kernel_rfl) (fun _ _ _ h => h) (Or.inl ⟨by rfl, ?yyC2⟩) hHeld ?rrC2
            case yyC2 => (intro w hSw; (try dsimp only at hSw); go_simp; first | done | with_reducible rfl)
            try simp only [Act.put, putA, putB, putC]
            refine wpAnyH_take (i := 3) (oi := ⟨some 13, .fieldAddr 97 (.tmp 12) 0, 0, _, #[⟨2, .data⟩], none⟩) (v := ?_) rfl (by kernel_rfl) (by kernel_rfl) (by kernel_rfl) (fun _ _ _ h => h) (Or.inl ⟨by rfl, ?yyC3⟩) hHeld ?rrC3
            case yyC3 => (intro w hSw; (try dsimp only at hSw); go_simp; first | done | with_reducible rfl)
            try simp only [Act.put, putA, putB, putC]
            refine wpAnyH_take (i := 4) (oi := ⟨some 14, .load 9 (.tmp 13), 9, _, #[⟨3, .data⟩], none⟩) (v := ?_) rfl (by kernel_rfl) (by kernel_rfl) (by kernel_rfl) (fun _ _ _ h => h) (Or.inl ⟨by rfl, ?yyC4⟩) hHeld ?rrC4
            case yyC4 => (intro w hSw; (try dsimp only at hSw); go_simp; first | done | with_reducible rfl)
            try simp only [Act.put, putA, putB, putC]
            refine wpAnyH_ready (rs := [5]) (by kernel_rfl) (by simp) ?_
            refine AllReadyH.cons (o := ⟨some 15, .call { callee := .value (.func 31), args := #[.tmp 14], argTypes := #[9] }, 4, _, #[⟨4, .data⟩], none⟩) rfl (fun K hK => ?_) AllReadyH.nil
            go_simp
            refine (l2Name_any _ _ z0).mono ?_
            rintro e w1 ⟨rfl, hE2⟩
            rw [hn]
            replace hcur := hcur.trans hE2
            go_wp2_with fail
            refine hK.out _ _ (HK.out _ hcur) (fun hHeld => ?_)
            clear hK K
            try simp only [Act.put, putA, putB, putC]
            refine wpAnyH_take (i := 6) (oi := ⟨some 16, .unOp .not 4 (.tmp 15), 4, _, #[⟨5, .data⟩], none⟩) (v := ?_) rfl (by kernel_rfl) (by kernel_rfl) (by kernel_rfl) (fun _ _ _ h => h) (Or.inl ⟨by rfl, ?yyC6⟩) hHeld ?rrC6
            case yyC6 => (intro w hSw; (try dsimp only at hSw); go_simp; first | done | with_reducible rfl)
            try simp only [Act.put, putA, putB, putC]
            refine wpAnyH_take (i := 7) (oi := ⟨some 17, .move (.tmp 16), 4, _, #[⟨6, .data⟩, ⟨5, .chain⟩], none⟩) (v := ?_) rfl (by kernel_rfl) (by kernel_rfl) (by kernel_rfl) (fun _ _ _ h => h) (Or.inl ⟨by rfl, ?yyC7⟩) hHeld ?rrC7
            case yyC7 => (intro w hSw; (try dsimp only at hSw); go_simp; first | done | with_reducible rfl)
            try simp only [Act.put, putA, putB, putC]
            refine wpAnyH_take (i := 8) (oi := ⟨some 18, .move (.tmp 0), 61, _, #[⟨7, .guard⟩], some (7, false)⟩) (v := ?_) rfl (by kernel_rfl) (by kernel_rfl) (by kernel_rfl) (fun _ _ _ h => h) (Or.inl ⟨by rfl, ?yyC8⟩) hHeld ?rrC8
            case yyC8 => (intro w hSw; (try dsimp only at hSw); go_simp; first | done | with_reducible rfl)
            try simp only [Act.put, putA, putB, putC]
            refine wpAnyH_take (i := 9) (oi := ⟨some 19, .move (.tmp 3), 3, _, #[⟨7, .guard⟩], some (7, false)⟩) (v := ?_) rfl (by kernel_rfl) (by kernel_rfl) (by kernel_rfl) (fun _ _ _ h => h) (Or.inl ⟨by rfl, ?yyC9⟩) hHeld ?rrC9
            case yyC9 => (intro w hSw; (try dsimp only at hSw); go_simp; first | done | with_reducible rfl)
            try simp only [Act.put, putA, putB, putC]
            refine wpAnyH_take (i := 10) (oi := ⟨some 20, .indexAddr 61 (.tmp 18) (.tmp 19), 0, _, #[⟨8, .data⟩, ⟨9, .data⟩, ⟨7, .guard⟩], some (7, false)⟩) (v := ?_) rfl (by kernel_rfl) (by kernel_rfl) (by kernel_rfl) (fun _ _ _ h => h) (Or.inl ⟨by rfl, ?yyC10⟩) hHeld ?rrC10
            case yyC10 => (intro w hSw; (try dsimp only at hSw); go_simp; first | done | with_reducible rfl)
            try simp only [Act.put, putA, putB, putC]
            refine wpAnyH_take (i := 11) (oi := ⟨some 21, .fieldAddr 97 (.tmp 20) 1, 0, _, #[⟨10, .data⟩, ⟨7, .guard⟩], some (7, false)⟩) (v := ?_) rfl (by kernel_rfl) (by kernel_rfl) (by kernel_rfl) (fun _ _ _ h => h) (Or.inl ⟨by rfl, ?yyC11⟩) hHeld ?rrC11
            case yyC11 => (intro w hSw; (try dsimp only at hSw); go_simp; first | done | with_reducible rfl)
            try simp only [Act.put, putA, putB, putC]
            refine wpAnyH_take (i := 12) (oi := ⟨some 22, .load 95 (.tmp 21), 95, _, #[⟨11, .data⟩, ⟨7, .guard⟩], some (7, false)⟩) (v := ?_) rfl (by kernel_rfl) (by kernel_rfl) (by kernel_rfl) (fun _ _ _ h => h) (Or.inl ⟨by rfl, ?yyC12⟩) hHeld ?rrC12
            case yyC12 => (intro w hSw; (try dsimp only at hSw); go_simp; first | done | with_reducible rfl)
            try simp only [Act.put, putA, putB, putC]
            refine wpAnyH_ready (rs := [13]) (by kernel_rfl) (by simp) ?_
            refine AllReadyH.cons (o := ⟨some 23, .call { callee := .value (.func 48), args := #[.tmp 22], argTypes := #[95] }, 4, _, #[⟨12, .data⟩, ⟨7, .chain⟩, ⟨7, .guard⟩], some (7, false)⟩) rfl (fun K hK => ?_) AllReadyH.nil
            go_simp
            refine (specValueOk_any X 0 _ _ (hval _ hcur)).mono ?_
            rintro e w2 ⟨rfl, hE3⟩
            rw [ho]
            replace hcur := hcur.trans hE3
            go_wp2_with fail
            refine hK.out _ _ (HK.out _ hcur) (fun hHeld => ?_)
            clear hK K
            try simp only [Act.put, putA, putB, putC]
            refine wpAnyH_take (i := 14) (oi := ⟨some 24, .unOp .not 4 (.tmp 23), 4, _, #[⟨13, .data⟩, ⟨7, .guard⟩], some (7, false)⟩) (v := ?_) rfl (by kernel_rfl) (by kernel_rfl) (by kernel_rfl) (fun _ _ _ h => h) (Or.inl ⟨by rfl, ?yyC14⟩) hHeld ?rrC14
            case yyC14 => (intro w hSw; (try dsimp only at hSw); go_simp; first | done | with_reducible rfl)
            try simp only [Act.put, putA, putB, putC]
            refine wpAnyH_take (i := 15) (oi := ⟨some 25, .pick (.tmp 17) (.const (.bool true)) (.tmp 24), 4, _, #[⟨7, .data⟩, ⟨14, .data⟩], none⟩) (v := ?_) rfl (by kernel_rfl) (by kernel_rfl) (by kernel_rfl) (fun _ _ _ h => h) (Or.inl ⟨by rfl, ?yyC15⟩) hHeld ?rrC15
            case yyC15 => (intro w hSw; (try dsimp only at hSw); go_simp; first | done | with_reducible rfl)
            try simp only [Act.put, putA, putB, putC]
            refine wpAnyH_take (i := 16) (oi := ⟨some 26, .move (.tmp 25), 4, _, #[⟨15, .data⟩, ⟨13, .chain⟩], none⟩) (v := ?_) rfl (by kernel_rfl) (by kernel_rfl) (by kernel_rfl) (fun _ _ _ h => h) (Or.inl ⟨by rfl, ?yyC16⟩) hHeld ?rrC16
            case yyC16 => (intro w hSw; (try dsimp only at hSw); go_simp; first | done | with_reducible rfl)
            try simp only [Act.put, putA, putB, putC]
            refine wpAnyH_take (i := 17) (oi := ⟨some 27, .move (.tmp 0), 61, _, #[⟨16, .guard⟩], some (16, false)⟩) (v := ?_) rfl (by kernel_rfl) (by kernel_rfl) (by kernel_rfl) (fun _ _ _ h => h) (Or.inl ⟨by rfl, ?yyC17⟩) hHeld ?rrC17
            case yyC17 => (intro w hSw; (try dsimp only at hSw); go_simp; first | done | with_reducible rfl)
            try simp only [Act.put, putA, putB, putC]
            refine wpAnyH_take (i := 18) (oi := ⟨some 28, .move (.tmp 3), 3, _, #[⟨16, .guard⟩], some (16, false)⟩) (v := ?_) rfl (by kernel_rfl) (by kernel_rfl) (by kernel_rfl) (fun _ _ _ h => h) (Or.inl ⟨by rfl, ?yyC18⟩) hHeld ?rrC18
            case yyC18 => (intro w hSw; (try dsimp only at hSw); go_simp; first | done | with_reducible rfl)
            try simp only [Act.put, putA, putB, putC]
            refine wpAnyH_take (i := 19) (oi := ⟨some 29, .indexAddr 61 (.tmp 27) (.tmp 28), 0, _, #[⟨17, .data⟩, ⟨18, .data⟩, ⟨16, .guard⟩], some (16, false)⟩) (v := ?_) rfl (by kernel_rfl) (by kernel_rfl) (by kernel_rfl) (fun _ _ _ h => h) (Or.inl ⟨by rfl, ?yyC19⟩) hHeld ?rrC19
            case yyC19 => (intro w hSw; (try dsimp only at hSw); go_simp; first | done | with_reducible rfl)
            try simp only [Act.put, putA, putB, putC]
            refine wpAnyH_take (i := 20) (oi := ⟨some 30, .fieldAddr 97 (.tmp 29) 1, 0, _, #[⟨19, .data⟩, ⟨16, .guard⟩], some (16, false)⟩) (v := ?_) rfl (by kernel_rfl) (by kernel_rfl) (by kernel_rfl) (fun _ _ _ h => h) (Or.inl ⟨by rfl, ?yyC20⟩) hHeld ?rrC20
            case yyC20 => (intro w hSw; (try dsimp only at hSw); go_simp; first | done | with_reducible rfl)
            try simp only [Act.put, putA, putB, putC]
            refine wpAnyH_take (i := 21) (oi := ⟨some 31, .load 95 (.tmp 30), 95, _, #[⟨20, .data⟩, ⟨16, .guard⟩], some (16, false)⟩) (v := ?_) rfl (by kernel_rfl) (by kernel_rfl) (by kernel_rfl) (fun _ _ _ h => h) (Or.inl ⟨by rfl, ?yyC21⟩) hHeld ?rrC21
            case yyC21 => (intro w hSw; (try dsimp only at hSw); go_simp; first | done | with_reducible rfl)
            try simp only [Act.put, putA, putB, putC]
            refine wpAnyH_ready (rs := [22]) (by kernel_rfl) (by simp) ?_
            refine AllReadyH.cons (o := ⟨some 32, .call { callee := .value (.func 49), args := #[.tmp 31], argTypes := #[95] }, 4, _, #[⟨21, .data⟩, ⟨16, .chain⟩, ⟨16, .guard⟩], some (16, false)⟩) rfl (fun K hK => ?_) AllReadyH.nil
            go_simp
            refine (l2Plain_any X 0 _ _ (hval _ hcur)).mono ?_
            rintro e w3 ⟨rfl, hE4⟩
            rw [hp]
            replace hcur := hcur.trans hE4
            go_wp2_with fail
            refine hK.out _ _ (HK.out _ hcur) (fun hHeld => ?_)
            clear hK K
            try simp only [Act.put, putA, putB, putC]
            refine wpAnyH_take (i := 23) (oi := ⟨some 33, .unOp .not 4 (.tmp 32), 4, _, #[⟨22, .data⟩, ⟨16, .guard⟩], some (16, false)⟩) (v := ?_) rfl (by kernel_rfl) (by kernel_rfl) (by kernel_rfl) (fun _ _ _ h => h) (Or.inl ⟨by rfl, ?yyC23⟩) hHeld ?rrC23
            case yyC23 => (intro w hSw; (try dsimp only at hSw); go_simp; first | done | with_reducible rfl)
            try simp only [Act.put, putA, putB, putC]
            refine wpAnyH_take (i := 24) (oi := ⟨some 34, .pick (.tmp 26) (.const (.bool true)) (.tmp 33), 4, _, #[⟨16, .data⟩, ⟨23, .data⟩], none⟩) (v := ?_) rfl (by kernel_rfl) (by kernel_rfl) (by kernel_rfl) (fun _ _ _ h => h) (Or.inl ⟨by rfl, ?yyC24⟩) hHeld ?rrC24
            case yyC24 => (intro w hSw; (try dsimp only at hSw); go_simp; first | done | with_reducible rfl)
            try simp only [Act.put, putA, putB, putC]
            refine wpAnyH_take (i := 25) (oi := ⟨some 35, .move (.tmp 34), 4, _, #[⟨24, .data⟩, ⟨22, .chain⟩], none⟩) (v := ?_) rfl (by kernel_rfl) (by kernel_rfl) (by kernel_rfl) (fun _ _ _ h => h) (Or.inl ⟨by rfl, ?yyC25⟩) hHeld ?rrC25
            case yyC25 => (intro w hSw; (try dsimp only at hSw); go_simp; first | done | with_reducible rfl)
            try simp only [Act.put, putA, putB, putC]
            refine wpAnyH_take (i := 26) (oi := ⟨some 36, .move (.tmp 3), 3, _, #[⟨25, .guard⟩], some (25, false)⟩) (v := undef) rfl (by kernel_rfl) (by kernel_rfl) (by kernel_rfl) (fun _ _ _ h => h) (Or.inr ⟨by rfl, rfl⟩) hHeld ?_
            try simp only [Act.put, putA, putB, putC]
            refine wpAnyH_take (i := 27) (oi := ⟨some 37, .binOp .gtr 3 (.tmp 36) (.const (.int .i64 0)) 3, 4, _, #[⟨26, .data⟩, ⟨25, .guard⟩], some (25, false)⟩) (v := undef) rfl (by kernel_rfl) (by kernel_rfl) (by kernel_rfl) (fun _ _ _ h => h) (Or.inr ⟨by rfl, rfl⟩) hHeld ?_
            try simp only [Act.put, putA, putB, putC]
            refine wpAnyH_take (i := 28) (oi := ⟨some 38, .move (.tmp 37), 4, _, #[⟨27, .data⟩, ⟨25, .chain⟩, ⟨25, .guard⟩], some (25, false)⟩) (v := undef) rfl (by kernel_rfl) (by kernel_rfl) (by kernel_rfl) (fun _ _ _ h => h) (Or.inr ⟨by rfl, rfl⟩) hHeld ?_
            try simp only [Act.put, putA, putB, putC]
            refine wpAnyH_take (i := 29) (oi := ⟨some 39, .move (.tmp 0), 61, _, #[⟨28, .guard⟩], some (28, true)⟩) (v := undef) rfl (by kernel_rfl) (by kernel_rfl) (by kernel_rfl) (fun _ _ _ h => h) (Or.inr ⟨by rfl, rfl⟩) hHeld ?_
            try simp only [Act.put, putA, putB, putC]
            refine wpAnyH_take (i := 30) (oi := ⟨some 40, .move (.tmp 3), 3, _, #[⟨28, .guard⟩], some (28, true)⟩) (v := undef) rfl (by kernel_rfl) (by kernel_rfl) (by kernel_rfl) (fun _ _ _ h => h) (Or.inr ⟨by rfl, rfl⟩) hHeld ?_
            try simp only [Act.put, putA, putB, putC]
            refine wpAnyH_take (i := 31) (oi := ⟨some 41, .binOp .sub 3 (.tmp 40) (.const (.int .i64 1)) 3, 3, _, #[⟨30, .data⟩, ⟨28, .guard⟩], some (28, true)⟩) (v := undef) rfl (by kernel_rfl) (by kernel_rfl) (by kernel_rfl) (fun _ _ _ h => h) (Or.inr ⟨by rfl, rfl⟩) hHeld ?_
            try simp only [Act.put, putA, putB, putC]
            refine wpAnyH_take (i := 32) (oi := ⟨some 42, .indexAddr 61 (.tmp 39) (.tmp 41), 0, _, #[⟨29, .data⟩, ⟨31, .data⟩, ⟨28, .guard⟩], some (28, true)⟩) (v := undef) rfl (by kernel_rfl) (by kernel_rfl) (by kernel_rfl) (fun _ _ _ h => h) (Or.inr ⟨by rfl, rfl⟩) hHeld ?_
            try simp only [Act.put, putA, putB, putC]
            refine wpAnyH_take (i := 33) (oi := ⟨some 43, .fieldAddr 97 (.tmp 42) 0, 0, _, #[⟨32, .data⟩, ⟨28, .guard⟩], some (28, true)⟩) (v := undef) rfl (by kernel_rfl) (by kernel_rfl) (by kernel_rfl) (fun _ _ _ h => h) (Or.inr ⟨by rfl, rfl⟩) hHeld ?_
            try simp only [Act.put, putA, putB, putC]
            refine wpAnyH_take (i := 34) (oi := ⟨some 44, .load 9 (.tmp 43), 9, _, #[⟨33, .data⟩, ⟨28, .guard⟩], some (28, true)⟩) (v := undef) rfl (by kernel_rfl) (by kernel_rfl) (by kernel_rfl) (fun _ _ _ h => h) (Or.inr ⟨by rfl, rfl⟩) hHeld ?_
            try simp only [Act.put, putA, putB, putC]
            refine wpAnyH_take (i := 35) (oi := ⟨some 45, .move (.tmp 0), 61, _, #[⟨28, .guard⟩], some (28, true)⟩) (v := undef) rfl (by kernel_rfl) (by kernel_rfl) (by kernel_rfl) (fun _ _ _ h => h) (Or.inr ⟨by rfl, rfl⟩) hHeld ?_
            try simp only [Act.put, putA, putB, putC]
            refine wpAnyH_take (i := 36) (oi := ⟨some 46, .move (.tmp 3), 3, _, #[⟨28, .guard⟩], some (28, true)⟩) (v := undef) rfl (by kernel_rfl) (by kernel_rfl) (by kernel_rfl) (fun _ _ _ h => h) (Or.inr ⟨by rfl, rfl⟩) hHeld ?_
            try simp only [Act.put, putA, putB, putC]
            refine wpAnyH_take (i := 37) (oi := ⟨some 47, .indexAddr 61 (.tmp 45) (.tmp 46), 0, _, #[⟨35, .data⟩, ⟨36, .data⟩, ⟨28, .guard⟩], some (28, true)⟩) (v := undef) rfl (by kernel_rfl) (by kernel_rfl) (by kernel_rfl) (fun _ _ _ h => h) (Or.inr ⟨by rfl, rfl⟩) hHeld ?_
            try simp only [Act.put, putA, putB, putC]
            refine wpAnyH_take (i := 38) (oi := ⟨some 48, .fieldAddr 97 (.tmp 47) 0, 0, _, #[⟨37, .data⟩, ⟨28, .guard⟩], some (28, true)⟩) (v := undef) rfl (by kernel_rfl) (by kernel_rfl) (by kernel_rfl) (fun _ _ _ h => h) (Or.inr ⟨by rfl, rfl⟩) hHeld ?_
            try simp only [Act.put, putA, putB, putC]
            refine wpAnyH_take (i := 39) (oi := ⟨some 49, .load 9 (.tmp 48), 9, _, #[⟨38, .data⟩, ⟨28, .guard⟩], some (28, true)⟩) (v := undef) rfl (by kernel_rfl) (by kernel_rfl) (by kernel_rfl) (fun _ _ _ h => h) (Or.inr ⟨by rfl, rfl⟩) hHeld ?_
            try simp only [Act.put, putA, putB, putC]
            refine wpAnyH_take (i := 40) (oi := ⟨some 50, .binOp .geq 9 (.tmp 44) (.tmp 49) 9, 4, _, #[⟨34, .data⟩, ⟨39, .data⟩, ⟨28, .guard⟩], some (28, true)⟩) (v := undef) rfl (by kernel_rfl) (by kernel_rfl) (by kernel_rfl) (fun _ _ _ h => h) (Or.inr ⟨by rfl, rfl⟩) hHeld ?_
            try simp only [Act.put, putA, putB, putC]
            refine wpAnyH_take (i := 41) (oi := ⟨some 51, .pick (.tmp 38) (.tmp 50) (.const (.bool false)), 4, _, #[⟨28, .data⟩, ⟨40, .data⟩, ⟨25, .guard⟩], some (25, false)⟩) (v := undef) rfl (by kernel_rfl) (by kernel_rfl) (by kernel_rfl) (fun _ _ _ h => h) (Or.inr ⟨by rfl, rfl⟩) hHeld ?_
            try simp only [Act.put, putA, putB, putC]
            refine wpAnyH_take (i := 42) (oi := ⟨some 52, .pick (.tmp 35) (.const (.bool true)) (.tmp 51), 4, _, #[⟨25, .data⟩, ⟨41, .data⟩], none⟩) (v := ?_) rfl (by kernel_rfl) (by kernel_rfl) (by kernel_rfl) (fun _ _ _ h => h) (Or.inl ⟨by rfl, ?yyC42⟩) hHeld ?rrC42
            case yyC42 => (intro w hSw; (try dsimp only at hSw); go_simp; first | done | with_reducible rfl)
            try simp only [Act.put, putA, putB, putC]
            refine wpAnyH_done (by kernel_rfl) ?_ _
            go_wp2
            go_ret
            exact ⟨ret_bool hfin.out.symm, hE.trans hcur⟩
          · by_cases hk0 : k = 0
            · subst hk0
              have hok : Hid (propB f 0 = true) := by show _ = _; rw [hLk.out, hn, ho, hp]; rfl
              simp only [Nat.zero_mul, Nat.add_zero] at hS0
              have HK : Hid (∀ W, Ext wr W → W.cell? ⟨b, off, none⟩ = some (.string x0) ∧ W.cell? ⟨b, off + 1, none⟩ = some (.int .i64 x1) ∧ W.cell? ⟨b, off + 2, none⟩ = some (.int .i64 x2) ∧ W.cell? ⟨b, off + 3, none⟩ = some (.string x3) ∧ W.cell? ⟨b, off + 4, none⟩ = some (.slice a4 l4 cap4)) := hS0
              clear hS0
              have hcur : Ext wr wr.drew := (Ext.refl _).drew
              refine wp_region_held_drew (S := (fun W => W.cell? ⟨b, off, none⟩ = some (.string x0) ∧ W.cell? ⟨b, off + 1, none⟩ = some (.int .i64 x1) ∧ W.cell? ⟨b, off + 2, none⟩ = some (.int .i64 x2) ∧ W.cell? ⟨b, off + 3, none⟩ = some (.string x3) ∧ W.cell? ⟨b, off + 4, none⟩ = some (.slice a4 l4 cap4))) (by kernel_rfl) (HK.out _ hcur) (fun hHeld => ?_)
              refine wpAnyH_take (i := 0) (oi := ⟨some 10, .move (.tmp 0), 61, _, #[], none⟩) (v := ?_) rfl (by kernel_rfl) (by kernel_rfl) (by kernel_rfl) (fun _ _ _ h => h) (Or.inl ⟨by rfl, ?yyD0⟩) hHeld ?rrD0
              case yyD0 => (intro w hSw; (try dsimp only at hSw); go_simp; first | done | with_reducible rfl)
              try simp only [Act.put, putA, putB, putC]
              refine wpAnyH_take (i := 1) (oi := ⟨some 11, .move (.tmp 3), 3, _, #[], none⟩) (v := ?_) rfl (by kernel_rfl) (by kernel_rfl) (by kernel_rfl) (fun _ _ _ h => h) (Or.inl ⟨by rfl, ?yyD1⟩) hHeld ?rrD1
              case yyD1 => (intro w hSw; (try dsimp only at hSw); go_simp; first | done | with_reducible rfl)
              try simp only [Act.put, putA, putB, putC]
              refine wpAnyH_take (i := 2) (oi := ⟨some 12, .indexAddr 61 (.tmp 10) (.tmp 11), 0, _, #[⟨0, .data⟩, ⟨1, .data⟩], none⟩) (v := ?_) rfl (by kernel_rfl) (by kernel_rfl) (by kernel_rfl) (fun _ _ _ h => h) (Or.inl ⟨by rfl, ?yyD2⟩) hHeld ?rrD2
              case yyD2 => (intro w hSw; (try dsimp only at hSw); go_simp; first | done | with_reducible rfl)
              try simp only [Act.put, putA, putB, putC]
              refine wpAnyH_take (i := 3) (oi := ⟨some 13, .fieldAddr 97 (.tmp 12) 0, 0, _, #[⟨2, .data⟩], none⟩) (v := ?_) rfl (by kernel_rfl) (by kernel_rfl) (by kernel_rfl) (fun _ _ _ h => h) (Or.inl ⟨by rfl, ?yyD3⟩) hHeld ?rrD3
              case yyD3 => (intro w hSw; (try dsimp only at hSw); go_simp; first | done | with_reducible rfl)
              try simp only [Act.put, putA, putB, putC]
              refine wpAnyH_take (i := 4) (oi := ⟨some 14, .load 9 (.tmp 13), 9, _, #[⟨3, .data⟩], none⟩) (v := ?_) rfl (by kernel_rfl) (by kernel_rfl) (by kernel_rfl) (fun _ _ _ h => h) (Or.inl ⟨by rfl, ?yyD4⟩) hHeld ?rrD4
              case yyD4 => (intro w hSw; (try dsimp only at hSw); go_simp; first | done | with_reducible rfl)
              try simp only [Act.put, putA, putB, putC]
              refine wpAnyH_ready (rs := [5]) (by kernel_rfl) (by simp) ?_
              refine AllReadyH.cons (o := ⟨some 15, .call { callee := .value (.func 31), args := #[.tmp 14], argTypes := #[9] }, 4, _, #[⟨4, .data⟩], none⟩) rfl (fun K hK => ?_) AllReadyH.nil
              go_simp
              refine (l2Name_any _ _ z0).mono ?_
              rintro e w1 ⟨rfl, hE2⟩
              rw [hn]
              replace hcur := hcur.trans hE2
              go_wp2_with fail
              refine hK.out _ _ (HK.out _ hcur) (fun hHeld => ?_)
              clear hK K
              try simp only [Act.put, putA, putB, putC]
              refine wpAnyH_take (i := 6) (oi := ⟨some 16, .unOp .not 4 (.tmp 15), 4, _, #[⟨5, .data⟩], none⟩) (v := ?_) rfl (by kernel_rfl) (by kernel_rfl) (by kernel_rfl) (fun _ _ _ h => h) (Or.inl ⟨by rfl, ?yyD6⟩) hHeld ?rrD6
              case yyD6 => (intro w hSw; (try dsimp only at hSw); go_simp; first | done | with_reducible rfl)
              try simp only [Act.put, putA, putB, putC]
              refine wpAnyH_take (i := 7) (oi := ⟨some 17, .move (.tmp 16), 4, _, #[⟨6, .data⟩, ⟨5, .chain⟩], none⟩) (v := ?_) rfl (by kernel_rfl) (by kernel_rfl) (by kernel_rfl) (fun _ _ _ h => h) (Or.inl ⟨by rfl, ?yyD7⟩) hHeld ?rrD7
              case yyD7 => (intro w hSw; (try dsimp only at hSw); go_simp; first | done | with_reducible rfl)
              try simp only [Act.put, putA, putB, putC]
              refine wpAnyH_take (i := 8) (oi := ⟨some 18, .move (.tmp 0), 61, _, #[⟨7, .guard⟩], some (7, false)⟩) (v := ?_) rfl (by kernel_rfl) (by kernel_rfl) (by kernel_rfl) (fun _ _ _ h => h) (Or.inl ⟨by rfl, ?yyD8⟩) hHeld ?rrD8
              case yyD8 => (intro w hSw; (try dsimp only at hSw); go_simp; first | done | with_reducible rfl)
              try simp only [Act.put, putA, putB, putC]
              refine wpAnyH_take (i := 9) (oi := ⟨some 19, .move (.tmp 3), 3, _, #[⟨7, .guard⟩], some (7, false)⟩) (v := ?_) rfl (by kernel_rfl) (by kernel_rfl) (by kernel_rfl) (fun _ _ _ h => h) (Or.inl ⟨by rfl, ?yyD9⟩) hHeld ?rrD9
              case yyD9 => (intro w hSw; (try dsimp only at hSw); go_simp; first | done | with_reducible rfl)
              try simp only [Act.put, putA, putB, putC]
              refine wpAnyH_take (i := 10) (oi := ⟨some 20, .indexAddr 61 (.tmp 18) (.tmp 19), 0, _, #[⟨8, .data⟩, ⟨9, .data⟩, ⟨7, .guard⟩], some (7, false)⟩) (v := ?_) rfl (by kernel_rfl) (by kernel_rfl) (by kernel_rfl) (fun _ _ _ h => h) (Or.inl ⟨by rfl, ?yyD10⟩) hHeld ?rrD10
              case yyD10 => (intro w hSw; (try dsimp only at hSw); go_simp; first | done | with_reducible rfl)
              try simp only [Act.put, putA, putB, putC]
              refine wpAnyH_take (i := 11) (oi := ⟨some 21, .fieldAddr 97 (.tmp 20) 1, 0, _, #[⟨10, .data⟩, ⟨7, .guard⟩], some (7, false)⟩) (v := ?_) rfl (by kernel_rfl) (by kernel_rfl) (by kernel_rfl) (fun _ _ _ h => h) (Or.inl ⟨by rfl, ?yyD11⟩) hHeld ?rrD11
              case yyD11 => (intro w hSw; (try dsimp only at hSw); go_simp; first | done | with_reducible rfl)
              try simp only [Act.put, putA, putB, putC]
              refine wpAnyH_take (i := 12) (oi := ⟨some 22, .load 95 (.tmp 21), 95, _, #[⟨11, .data⟩, ⟨7, .guard⟩], some (7, false)⟩) (v := ?_) rfl (by kernel_rfl) (by kernel_rfl) (by kernel_rfl) (fun _ _ _ h => h) (Or.inl ⟨by rfl, ?yyD12⟩) hHeld ?rrD12
              case yyD12 => (intro w hSw; (try dsimp only at hSw); go_simp; first | done | with_reducible rfl)
              try simp only [Act.put, putA, putB, putC]
              refine wpAnyH_ready (rs := [13]) (by kernel_rfl) (by simp) ?_
              refine AllReadyH.cons (o := ⟨some 23, .call { callee := .value (.func 48), args := #[.tmp 22], argTypes := #[95] }, 4, _, #[⟨12, .data⟩, ⟨7, .chain⟩, ⟨7, .guard⟩], some (7, false)⟩) rfl (fun K hK => ?_) AllReadyH.nil
              go_simp
              refine (specValueOk_any X 0 _ _ (hval _ hcur)).mono ?_
              rintro e w2 ⟨rfl, hE3⟩
              rw [ho]
              replace hcur := hcur.trans hE3
              go_wp2_with fail
              refine hK.out _ _ (HK.out _ hcur) (fun hHeld => ?_)
              clear hK K
              try simp only [Act.put, putA, putB, putC]
              refine wpAnyH_take (i := 14) (oi := ⟨some 24, .unOp .not 4 (.tmp 23), 4, _, #[⟨13, .data⟩, ⟨7, .guard⟩], some (7, false)⟩) (v := ?_) rfl (by kernel_rfl) (by kernel_rfl) (by kernel_rfl) (fun _ _ _ h => h) (Or.inl ⟨by rfl, ?yyD14⟩) hHeld ?rrD14
              case yyD14 => (intro w hSw; (try dsimp only at hSw); go_simp; first | done | with_reducible rfl)
              try simp only [Act.put, putA, putB, putC]
              refine wpAnyH_take (i := 15) (oi := ⟨some 25, .pick (.tmp 17) (.const (.bool true)) (.tmp 24), 4, _, #[⟨7, .data⟩, ⟨14, .data⟩], none⟩) (v := ?_) rfl (by kernel_rfl) (by kernel_rfl) (by kernel_rfl) (fun _ _ _ h => h) (Or.inl ⟨by rfl, ?yyD15⟩) hHeld ?rrD15
              case yyD15 => (intro w hSw; (try dsimp only at hSw); go_simp; first | done | with_reducible rfl)
              try simp only [Act.put, putA, putB, putC]
              refine wpAnyH_take (i := 16) (oi := ⟨some 26, .move (.tmp 25), 4, _, #[⟨15, .data⟩, ⟨13, .chain⟩], none⟩) (v := ?_) rfl (by kernel_rfl) (by kernel_rfl) (by kernel_rfl) (fun _ _ _ h => h) (Or.inl ⟨by rfl, ?yyD16⟩) hHeld ?rrD16
              case yyD16 => (intro w hSw; (try dsimp only at hSw); go_simp; first | done | with_reducible rfl)
              try simp only [Act.put, putA, putB, putC]
              refine wpAnyH_take (i := 17) (oi := ⟨some 27, .move (.tmp 0), 61, _, #[⟨16, .guard⟩], some (16, false)⟩) (v := ?_) rfl (by kernel_rfl) (by kernel_rfl) (by kernel_rfl) (fun _ _ _ h => h) (Or.inl ⟨by rfl, ?yyD17⟩) hHeld ?rrD17
              case yyD17 => (intro w hSw; (try dsimp only at hSw); go_simp; first | done | with_reducible rfl)
              try simp only [Act.put, putA, putB, putC]
              refine wpAnyH_take (i := 18) (oi := ⟨some 28, .move (.tmp 3), 3, _, #[⟨16, .guard⟩], some (16, false)⟩) (v := ?_) rfl (by kernel_rfl) (by kernel_rfl) (by kernel_rfl) (fun _ _ _ h => h) (Or.inl ⟨by rfl, ?yyD18⟩) hHeld ?rrD18
              case yyD18 => (intro w hSw; (try dsimp only at hSw); go_simp; first | done | with_reducible rfl)
              try simp only [Act.put, putA, putB, putC]
              refine wpAnyH_take (i := 19) (oi := ⟨some 29, .indexAddr 61 (.tmp 27) (.tmp 28), 0, _, #[⟨17, .data⟩, ⟨18, .data⟩, ⟨16, .guard⟩], some (16, false)⟩) (v := ?_) rfl (by kernel_rfl) (by kernel_rfl) (by kernel_rfl) (fun _ _ _ h => h) (Or.inl ⟨by rfl, ?yyD19⟩) hHeld ?rrD19
              case yyD19 => (intro w hSw; (try dsimp only at hSw); go_simp; first | done | with_reducible rfl)
              try simp only [Act.put, putA, putB, putC]
              refine wpAnyH_take (i := 20) (oi := ⟨some 30, .fieldAddr 97 (.tmp 29) 1, 0, _, #[⟨19, .data⟩, ⟨16, .guard⟩], some (16, false)⟩) (v := ?_) rfl (by kernel_rfl) (by kernel_rfl) (by kernel_rfl) (fun _ _ _ h => h) (Or.inl ⟨by rfl, ?yyD20⟩) hHeld ?rrD20
              case yyD20 => (intro w hSw; (try dsimp only at hSw); go_simp; first | done | with_reducible rfl)
              try simp only [Act.put, putA, putB, putC]
              refine wpAnyH_take (i := 21) (oi := ⟨some 31, .load 95 (.tmp 30), 95, _, #[⟨20, .data⟩, ⟨16, .guard⟩], some (16, false)⟩) (v := ?_) rfl (by kernel_rfl) (by kernel_rfl) (by kernel_rfl) (fun _ _ _ h => h) (Or.inl ⟨by rfl, ?yyD21⟩) hHeld ?rrD21
              case yyD21 => (intro w hSw; (try dsimp only at hSw); go_simp; first | done | with_reducible rfl)
              try simp only [Act.put, putA, putB, putC]
              refine wpAnyH_ready (rs := [22]) (by kernel_rfl) (by simp) ?_
              refine AllReadyH.cons (o := ⟨some 32, .call { callee := .value (.func 49), args := #[.tmp 31], argTypes := #[95] }, 4, _, #[⟨21, .data⟩, ⟨16, .chain⟩, ⟨16, .guard⟩], some (16, false)⟩) rfl (fun K hK => ?_) AllReadyH.nil
              go_simp
              refine (l2Plain_any X 0 _ _ (hval _ hcur)).mono ?_
              rintro e w3 ⟨rfl, hE4⟩
              rw [hp]
              replace hcur := hcur.trans hE4
              go_wp2_with fail
              refine hK.out _ _ (HK.out _ hcur) (fun hHeld => ?_)
              clear hK K
              try simp only [Act.put, putA, putB, putC]
              refine wpAnyH_take (i := 23) (oi := ⟨some 33, .unOp .not 4 (.tmp 32), 4, _, #[⟨22, .data⟩, ⟨16, .guard⟩], some (16, false)⟩) (v := ?_) rfl (by kernel_rfl) (by kernel_rfl) (by kernel_rfl) (fun _ _ _ h => h) (Or.inl ⟨by rfl, ?yyD23⟩) hHeld ?rrD23
              case yyD23 => (intro w hSw; (try dsimp only at hSw); go_simp; first | done | with_reducible rfl)
              try simp only [Act.put, putA, putB, putC]
              refine wpAnyH_take (i := 24) (oi := ⟨some 34, .pick (.tmp 26) (.const (.bool true)) (.tmp 33), 4, _, #[⟨16, .data⟩, ⟨23, .data⟩], none⟩) (v := ?_) rfl (by kernel_rfl) (by kernel_rfl) (by kernel_rfl) (fun _ _ _ h => h) (Or.inl ⟨by rfl, ?yyD24⟩) hHeld ?rrD24
              case yyD24 => (intro w hSw; (try dsimp only at hSw); go_simp; first | done | with_reducible rfl)
              try simp only [Act.put, putA, putB, putC]
              refine wpAnyH_take (i := 25) (oi := ⟨some 35, .move (.tmp 34), 4, _, #[⟨24, .data⟩, ⟨22, .chain⟩], none⟩) (v := ?_) rfl (by kernel_rfl) (by kernel_rfl) (by kernel_rfl) (fun _ _ _ h => h) (Or.inl ⟨by rfl, ?yyD25⟩) hHeld ?rrD25
              case yyD25 => (intro w hSw; (try dsimp only at hSw); go_simp; first | done | with_reducible rfl)
              try simp only [Act.put, putA, putB, putC]
              refine wpAnyH_take (i := 26) (oi := ⟨some 36, .move (.tmp 3), 3, _, #[⟨25, .guard⟩], some (25, false)⟩) (v := ?_) rfl (by kernel_rfl) (by kernel_rfl) (by kernel_rfl) (fun _ _ _ h => h) (Or.inl ⟨by rfl, ?yyD26⟩) hHeld ?rrD26
              case yyD26 => (intro w hSw; (try dsimp only at hSw); go_simp; first | done | with_reducible rfl)
              try simp only [Act.put, putA, putB, putC]
              refine wpAnyH_take (i := 27) (oi := ⟨some 37, .binOp .gtr 3 (.tmp 36) (.const (.int .i64 0)) 3, 4, _, #[⟨26, .data⟩, ⟨25, .guard⟩], some (25, false)⟩) (v := ?_) rfl (by kernel_rfl) (by kernel_rfl) (by kernel_rfl) (fun _ _ _ h => h) (Or.inl ⟨by rfl, ?yyD27⟩) hHeld ?rrD27
              case yyD27 => (intro w hSw; (try dsimp only at hSw); go_simp; first | done | with_reducible rfl)
              try simp only [Act.put, putA, putB, putC]
              refine wpAnyH_take (i := 28) (oi := ⟨some 38, .move (.tmp 37), 4, _, #[⟨27, .data⟩, ⟨25, .chain⟩, ⟨25, .guard⟩], some (25, false)⟩) (v := ?_) rfl (by kernel_rfl) (by kernel_rfl) (by kernel_rfl) (fun _ _ _ h => h) (Or.inl ⟨by rfl, ?yyD28⟩) hHeld ?rrD28
              case yyD28 => (intro w hSw; (try dsimp only at hSw); go_simp; first | done | with_reducible rfl)
              try simp only [Act.put, putA, putB, putC]
              refine wpAnyH_take (i := 29) (oi := ⟨some 39, .move (.tmp 0), 61, _, #[⟨28, .guard⟩], some (28, true)⟩) (v := undef) rfl (by kernel_rfl) (by kernel_rfl) (by kernel_rfl) (fun _ _ _ h => h) (Or.inr ⟨by rfl, rfl⟩) hHeld ?_
              try simp only [Act.put, putA, putB, putC]
              refine wpAnyH_take (i := 30) (oi := ⟨some 40, .move (.tmp 3), 3, _, #[⟨28, .guard⟩], some (28, true)⟩) (v := undef) rfl (by kernel_rfl) (by kernel_rfl) (by kernel_rfl) (fun _ _ _ h => h) (Or.inr ⟨by rfl, rfl⟩) hHeld ?_
              try simp only [Act.put, putA, putB, putC]
              refine wpAnyH_take (i := 31) (oi := ⟨some 41, .binOp .sub 3 (.tmp 40) (.const (.int .i64 1)) 3, 3, _, #[⟨30, .data⟩, ⟨28, .guard⟩], some (28, true)⟩) (v := undef) rfl (by kernel_rfl) (by kernel_rfl) (by kernel_rfl) (fun _ _ _ h => h) (Or.inr ⟨by rfl, rfl⟩) hHeld ?_
              try simp only [Act.put, putA, putB, putC]
              refine wpAnyH_take (i := 32) (oi := ⟨some 42, .indexAddr 61 (.tmp 39) (.tmp 41), 0, _, #[⟨29, .data⟩, ⟨31, .data⟩, ⟨28, .guard⟩], some (28, true)⟩) (v := undef) rfl (by kernel_rfl) (by kernel_rfl) (by kernel_rfl) (fun _ _ _ h => h) (Or.inr ⟨by rfl, rfl⟩) hHeld ?_
              try simp only [Act.put, putA, putB, putC]
              refine wpAnyH_take (i := 33) (oi := ⟨some 43, .fieldAddr 97 (.tmp 42) 0, 0, _, #[⟨32, .data⟩, ⟨28, .guard⟩], some (28, true)⟩) (v := undef) rfl (by kernel_rfl) (by kernel_rfl) (by kernel_rfl) (fun _ _ _ h => h) (Or.inr ⟨by rfl, rfl⟩) hHeld ?_
              try simp only [Act.put, putA, putB, putC]
              refine wpAnyH_take (i := 34) (oi := ⟨some 44, .load 9 (.tmp 43), 9, _, #[⟨33, .data⟩, ⟨28, .guard⟩], some (28, true)⟩) (v := undef) rfl (by kernel_rfl) (by kernel_rfl) (by kernel_rfl) (fun _ _ _ h => h) (Or.inr ⟨by rfl, rfl⟩) hHeld ?_
              try simp only [Act.put, putA, putB, putC]
              refine wpAnyH_take (i := 35) (oi := ⟨some 45, .move (.tmp 0), 61, _, #[⟨28, .guard⟩], some (28, true)⟩) (v := undef) rfl (by kernel_rfl) (by kernel_rfl) (by kernel_rfl) (fun _ _ _ h => h) (Or.inr ⟨by rfl, rfl⟩) hHeld ?_
              try simp only [Act.put, putA, putB, putC]
              refine wpAnyH_take (i := 36) (oi := ⟨some 46, .move (.tmp 3), 3, _, #[⟨28, .guard⟩], some (28, true)⟩) (v := undef) rfl (by kernel_rfl) (by kernel_rfl) (by kernel_rfl) (fun _ _ _ h => h) (Or.inr ⟨by rfl, rfl⟩) hHeld ?_
              try simp only [Act.put, putA, putB, putC]
              refine wpAnyH_take (i := 37) (oi := ⟨some 47, .indexAddr 61 (.tmp 45) (.tmp 46), 0, _, #[⟨35, .data⟩, ⟨36, .data⟩, ⟨28, .guard⟩], some (28, true)⟩) (v := undef) rfl (by kernel_rfl) (by kernel_rfl) (by kernel_rfl) (fun _ _ _ h => h) (Or.inr ⟨by rfl, rfl⟩) hHeld ?_
              try simp only [Act.put, putA, putB, putC]
              refine wpAnyH_take (i := 38) (oi := ⟨some 48, .fieldAddr 97 (.tmp 47) 0, 0, _, #[⟨37, .data⟩, ⟨28, .guard⟩], some (28, true)⟩) (v := undef) rfl (by kernel_rfl) (by kernel_rfl) (by kernel_rfl) (fun _ _ _ h => h) (Or.inr ⟨by rfl, rfl⟩) hHeld ?_
              try simp only [Act.put, putA, putB, putC]
              refine wpAnyH_take (i := 39) (oi := ⟨some 49, .load 9 (.tmp 48), 9, _, #[⟨38, .data⟩, ⟨28, .guard⟩], some (28, true)⟩) (v := undef) rfl (by kernel_rfl) (by kernel_rfl) (by kernel_rfl) (fun _ _ _ h => h) (Or.inr ⟨by rfl, rfl⟩) hHeld ?_
              try simp only [Act.put, putA, putB, putC]
              refine wpAnyH_take (i := 40) (oi := ⟨some 50, .binOp .geq 9 (.tmp 44) (.tmp 49) 9, 4, _, #[⟨34, .data⟩, ⟨39, .data⟩, ⟨28, .guard⟩], some (28, true)⟩) (v := undef) rfl (by kernel_rfl) (by kernel_rfl) (by kernel_rfl) (fun _ _ _ h => h) (Or.inr ⟨by rfl, rfl⟩) hHeld ?_
              try simp only [Act.put, putA, putB, putC]
              refine wpAnyH_take (i := 41) (oi := ⟨some 51, .pick (.tmp 38) (.tmp 50) (.const (.bool false)), 4, _, #[⟨28, .data⟩, ⟨40, .data⟩, ⟨25, .guard⟩], some (25, false)⟩) (v := ?_) rfl (by kernel_rfl) (by kernel_rfl) (by kernel_rfl) (fun _ _ _ h => h) (Or.inl ⟨by rfl, ?yyD41⟩) hHeld ?rrD41
              case yyD41 => (intro w hSw; (try dsimp only at hSw); go_simp; first | done | with_reducible rfl)
              try simp only [Act.put, putA, putB, putC]
              refine wpAnyH_take (i := 42) (oi := ⟨some 52, .pick (.tmp 35) (.const (.bool true)) (.tmp 51), 4, _, #[⟨25, .data⟩, ⟨41, .data⟩], none⟩) (v := ?_) rfl (by kernel_rfl) (by kernel_rfl) (by kernel_rfl) (fun _ _ _ h => h) (Or.inl ⟨by rfl, ?yyD42⟩) hHeld ?rrD42
              case yyD42 => (intro w hSw; (try dsimp only at hSw); go_simp; first | done | with_reducible rfl)
              try simp only [Act.put, putA, putB, putC]
              refine wpAnyH_done (by kernel_rfl) ?_ _
              go_wp2
              go_roundw
              case rel => exact ⟨1, by omega, by go_num, hE.trans hcur, upto_succ hno hok.out⟩
              case measure => simp [intOf]; omega
            · obtain ⟨m, rfl⟩ : ∃ m, k = m + 1 := ⟨k - 1, by omega⟩
              obtain ⟨cap3, b3, off3, C3, hsl, _, hb3, ec3, hx3⟩ := (hv.ext hE).at (i := m) (by omega)
              cases hsl
              have HR := HRa m (by omega)
              obtain ⟨xp, hdp⟩ := (show Has (f m 0) .str from HR 0 (by decide)).str
              have h1 := hx3 0 (by decide)
              have f0 := ec3 0 (by decide)
              rw [hdp] at h1
              rw [h1.str_eq.1] at f0
              simp only [Nat.add_zero] at f0
              clear hx3 ec3 HR h1
              have hLk2 : Hid (propB f (m + 1) = ltS xp x0) := by show _ = _; rw [hLk.out, hn, ho, hp]; simp [hdp, D.str!]
              have i0 : 0 ≤ (m : Int) + 1 := by omega
              have i1 : (m : Int) + 1 < (len : Int) := by omega
              have i2 : (m : Int) < (len : Int) := by omega
              have iw : IntKind.i64.wrap (m : Int) = m := wrap_i64 (by omega) (by omega)
              have HK : Hid (∀ W, Ext wr W → (W.cell? ⟨b, off + (m + 1) * 5, none⟩ = some (.string x0) ∧ W.cell? ⟨b, off + (m + 1) * 5 + 1, none⟩ = some (.int .i64 x1) ∧ W.cell? ⟨b, off + (m + 1) * 5 + 2, none⟩ = some (.int .i64 x2) ∧ W.cell? ⟨b, off + (m + 1) * 5 + 3, none⟩ = some (.string x3) ∧ W.cell? ⟨b, off + (m + 1) * 5 + 4, none⟩ = some (.slice a4 l4 cap4)) ∧ W.cell? ⟨b, off + m * 5, none⟩ = some (.string xp)) := fun W hW => ⟨hS0 W hW, by rw [hW.cell hb]; exact f0⟩
              clear hS0
              have hcur : Ext wr wr.drew := (Ext.refl _).drew
              refine wp_region_held_drew (S := (fun W => (W.cell? ⟨b, off + (m + 1) * 5, none⟩ = some (.string x0) ∧ W.cell? ⟨b, off + (m + 1) * 5 + 1, none⟩ = some (.int .i64 x1) ∧ W.cell? ⟨b, off + (m + 1) * 5 + 2, none⟩ = some (.int .i64 x2) ∧ W.cell? ⟨b, off + (m + 1) * 5 + 3, none⟩ = some (.string x3) ∧ W.cell? ⟨b, off + (m + 1) * 5 + 4, none⟩ = some (.slice a4 l4 cap4)) ∧ W.cell? ⟨b, off + m * 5, none⟩ = some (.string xp))) (by kernel_rfl) (HK.out _ hcur) (fun hHeld => ?_)
              refine wpAnyH_take (i := 0) (oi := ⟨some 10, .move (.tmp 0), 61, _, #[], none⟩) (v := ?_) rfl (by kernel_rfl) (by kernel_rfl) (by kernel_rfl) (fun _ _ _ h => h) (Or.inl ⟨by rfl, ?yyE0⟩) hHeld ?rrE0
              case yyE0 => (intro w hSw; (try dsimp only at hSw); go_simp; first | done | with_reducible rfl)
              try simp only [Act.put, putA, putB, putC]
              refine wpAnyH_take (i := 1) (oi := ⟨some 11, .move (.tmp 3), 3, _, #[], none⟩) (v := ?_) rfl (by kernel_rfl) (by kernel_rfl) (by kernel_rfl) (fun _ _ _ h => h) (Or.inl ⟨by rfl, ?yyE1⟩) hHeld ?rrE1
              case yyE1 => (intro w hSw; (try dsimp only at hSw); go_simp; first | done | with_reducible rfl)
              try simp only [Act.put, putA, putB, putC]
              refine wpAnyH_take (i := 2) (oi := ⟨some 12, .indexAddr 61 (.tmp 10) (.tmp 11), 0, _, #[⟨0, .data⟩, ⟨1, .data⟩], none⟩) (v := ?_) rfl (by kernel_rfl) (by kernel_rfl) (by kernel_rfl) (fun _ _ _ h => h) (Or.inl ⟨by rfl, ?yyE2⟩) hHeld ?rrE2
              case yyE2 => (intro w hSw; (try dsimp only at hSw); go_simp; first | done | with_reducible rfl)
              try simp only [Act.put, putA, putB, putC]
              refine wpAnyH_take (i := 3) (oi := ⟨some 13, .fieldAddr 97 (.tmp 12) 0, 0, _, #[⟨2, .data⟩], none⟩) (v := ?_) rfl (by kernel_rfl) (by kernel_rfl) (by kernel_rfl) (fun _ _ _ h => h) (Or.inl ⟨by rfl, ?yyE3⟩) hHeld ?rrE3
              case yyE3 => (intro w hSw; (try dsimp only at hSw); go_simp; first | done | with_reducible rfl)
              try simp only [Act.put, putA, putB, putC]
              refine wpAnyH_take (i := 4) (oi := ⟨some 14, .load 9 (.tmp 13), 9, _, #[⟨3, .data⟩], none⟩) (v := ?_) rfl (by kernel_rfl) (by kernel_rfl) (by kernel_rfl) (fun _ _ _ h => h) (Or.inl ⟨by rfl, ?yyE4⟩) hHeld ?rrE4
              case yyE4 => (intro w hSw; (try dsimp only at hSw); go_simp; first | done | with_reducible rfl)
              try simp only [Act.put, putA, putB, putC]
              refine wpAnyH_ready (rs := [5]) (by kernel_rfl) (by simp) ?_
              refine AllReadyH.cons (o := ⟨some 15, .call { callee := .value (.func 31), args := #[.tmp 14], argTypes := #[9] }, 4, _, #[⟨4, .data⟩], none⟩) rfl (fun K hK => ?_) AllReadyH.nil
              go_simp
              refine (l2Name_any _ _ z0).mono ?_
              rintro e w1 ⟨rfl, hE2⟩
              rw [hn]
              replace hcur := hcur.trans hE2
              go_wp2_with fail
              refine hK.out _ _ (HK.out _ hcur) (fun hHeld => ?_)
              clear hK K
              try simp only [Act.put, putA, putB, putC]
              refine wpAnyH_take (i := 6) (oi := ⟨some 16, .unOp .not 4 (.tmp 15), 4, _, #[⟨5, .data⟩], none⟩) (v := ?_) rfl (by kernel_rfl) (by kernel_rfl) (by kernel_rfl) (fun _ _ _ h => h) (Or.inl ⟨by rfl, ?yyE6⟩) hHeld ?rrE6
              case yyE6 => (intro w hSw; (try dsimp only at hSw); go_simp; first | done | with_reducible rfl)
              try simp only [Act.put, putA, putB, putC]
              refine wpAnyH_take (i := 7) (oi := ⟨some 17, .move (.tmp 16), 4, _, #[⟨6, .data⟩, ⟨5, .chain⟩], none⟩) (v := ?_) rfl (by kernel_rfl) (by kernel_rfl) (by kernel_rfl) (fun _ _ _ h => h) (Or.inl ⟨by rfl, ?yyE7⟩) hHeld ?rrE7
              case yyE7 => (intro w hSw; (try dsimp only at hSw); go_simp; first | done | with_reducible rfl)
              try simp only [Act.put, putA, putB, putC]
              refine wpAnyH_take (i := 8) (oi := ⟨some 18, .move (.tmp 0), 61, _, #[⟨7, .guard⟩], some (7, false)⟩) (v := ?_) rfl (by kernel_rfl) (by kernel_rfl) (by kernel_rfl) (fun _ _ _ h => h) (Or.inl ⟨by rfl, ?yyE8⟩) hHeld ?rrE8
              case yyE8 => (intro w hSw; (try dsimp only at hSw); go_simp; first | done | with_reducible rfl)
              try simp only [Act.put, putA, putB, putC]
              refine wpAnyH_take (i := 9) (oi := ⟨some 19, .move (.tmp 3), 3, _, #[⟨7, .guard⟩], some (7, false)⟩) (v := ?_) rfl (by kernel_rfl) (by kernel_rfl) (by kernel_rfl) (fun _ _ _ h => h) (Or.inl ⟨by rfl, ?yyE9⟩) hHeld ?rrE9
              case yyE9 => (intro w hSw; (try dsimp only at hSw); go_simp; first | done | with_reducible rfl)
              try simp only [Act.put, putA, putB, putC]
              refine wpAnyH_take (i := 10) (oi := ⟨some 20, .indexAddr 61 (.tmp 18) (.tmp 19), 0, _, #[⟨8, .data⟩, ⟨9, .data⟩, ⟨7, .guard⟩], some (7, false)⟩) (v := ?_) rfl (by kernel_rfl) (by kernel_rfl) (by kernel_rfl) (fun _ _ _ h => h) (Or.inl ⟨by rfl, ?yyE10⟩) hHeld ?rrE10
              case yyE10 => (intro w hSw; (try dsimp only at hSw); go_simp; first | done | with_reducible rfl)
              try simp only [Act.put, putA, putB, putC]
              refine wpAnyH_take (i := 11) (oi := ⟨some 21, .fieldAddr 97 (.tmp 20) 1, 0, _, #[⟨10, .data⟩, ⟨7, .guard⟩], some (7, false)⟩) (v := ?_) rfl (by kernel_rfl) (by kernel_rfl) (by kernel_rfl) (fun _ _ _ h => h) (Or.inl ⟨by rfl, ?yyE11⟩) hHeld ?rrE11
              case yyE11 => (intro w hSw; (try dsimp only at hSw); go_simp; first | done | with_reducible rfl)
              try simp only [Act.put, putA, putB, putC]
              refine wpAnyH_take (i := 12) (oi := ⟨some 22, .load 95 (.tmp 21), 95, _, #[⟨11, .data⟩, ⟨7, .guard⟩], some (7, false)⟩) (v := ?_) rfl (by kernel_rfl) (by kernel_rfl) (by kernel_rfl) (fun _ _ _ h => h) (Or.inl ⟨by rfl, ?yyE12⟩) hHeld ?rrE12
              case yyE12 => (intro w hSw; (try dsimp only at hSw); go_simp; first | done | with_reducible rfl)
              try simp only [Act.put, putA, putB, putC]
              refine wpAnyH_ready (rs := [13]) (by kernel_rfl) (by simp) ?_
              refine AllReadyH.cons (o := ⟨some 23, .call { callee := .value (.func 48), args := #[.tmp 22], argTypes := #[95] }, 4, _, #[⟨12, .data⟩, ⟨7, .chain⟩, ⟨7, .guard⟩], some (7, false)⟩) rfl (fun K hK => ?_) AllReadyH.nil
              go_simp
              refine (specValueOk_any X 0 _ _ (hval _ hcur)).mono ?_
              rintro e w2 ⟨rfl, hE3⟩
              rw [ho]
              replace hcur := hcur.trans hE3
              go_wp2_with fail
              refine hK.out _ _ (HK.out _ hcur) (fun hHeld => ?_)
              clear hK K
              try simp only [Act.put, putA, putB, putC]
              refine wpAnyH_take (i := 14) (oi := ⟨some 24, .unOp .not 4 (.tmp 23), 4, _, #[⟨13, .data⟩, ⟨7, .guard⟩], some (7, false)⟩) (v := ?_) rfl (by kernel_rfl) (by kernel_rfl) (by kernel_rfl) (fun _ _ _ h => h) (Or.inl ⟨by rfl, ?yyE14⟩) hHeld ?rrE14
              case yyE14 => (intro w hSw; (try dsimp only at hSw); go_simp; first | done | with_reducible rfl)
              try simp only [Act.put, putA, putB, putC]
              refine wpAnyH_take (i := 15) (oi := ⟨some 25, .pick (.tmp 17) (.const (.bool true)) (.tmp 24), 4, _, #[⟨7, .data⟩, ⟨14, .data⟩], none⟩) (v := ?_) rfl (by kernel_rfl) (by kernel_rfl) (by kernel_rfl) (fun _ _ _ h => h) (Or.inl ⟨by rfl, ?yyE15⟩) hHeld ?rrE15
              case yyE15 => (intro w hSw; (try dsimp only at hSw); go_simp; first | done | with_reducible rfl)
              try simp only [Act.put, putA, putB, putC]
              refine wpAnyH_take (i := 16) (oi := ⟨some 26, .move (.tmp 25), 4, _, #[⟨15, .data⟩, ⟨13, .chain⟩], none⟩) (v := ?_) rfl (by kernel_rfl) (by kernel_rfl) (by kernel_rfl) (fun _ _ _ h => h) (Or.inl ⟨by rfl, ?yyE16⟩) hHeld ?rrE16
              case yyE16 => (intro w hSw; (try dsimp only at hSw); go_simp; first | done | with_reducible rfl)
              try simp only [Act.put, putA, putB, putC]
              refine wpAnyH_take (i := 17) (oi := ⟨some 27, .move (.tmp 0), 61, _, #[⟨16, .guard⟩], some (16, false)⟩) (v := ?_) rfl (by kernel_rfl) (by kernel_rfl) (by kernel_rfl) (fun _ _ _ h => h) (Or.inl ⟨by rfl, ?yyE17⟩) hHeld ?rrE17
              case yyE17 => (intro w hSw; (try dsimp only at hSw); go_simp; first | done | with_reducible rfl)
              try simp only [Act.put, putA, putB, putC]
              refine wpAnyH_take (i := 18) (oi := ⟨some 28, .move (.tmp 3), 3, _, #[⟨16, .guard⟩], some (16, false)⟩) (v := ?_) rfl (by kernel_rfl) (by kernel_rfl) (by kernel_rfl) (fun _ _ _ h => h) (Or.inl ⟨by rfl, ?yyE18⟩) hHeld ?rrE18
              case yyE18 => (intro w hSw; (try dsimp only at hSw); go_simp; first | done | with_reducible rfl)
              try simp only [Act.put, putA, putB, putC]
              refine wpAnyH_take (i := 19) (oi := ⟨some 29, .indexAddr 61 (.tmp 27) (.tmp 28), 0, _, #[⟨17, .data⟩, ⟨18, .data⟩, ⟨16, .guard⟩], some (16, false)⟩) (v := ?_) rfl (by kernel_rfl) (by kernel_rfl) (by kernel_rfl) (fun _ _ _ h => h) (Or.inl ⟨by rfl, ?yyE19⟩) hHeld ?rrE19
              case yyE19 => (intro w hSw; (try dsimp only at hSw); go_simp; first | done | with_reducible rfl)
              try simp only [Act.put, putA, putB, putC]
              refine wpAnyH_take (i := 20) (oi := ⟨some 30, .fieldAddr 97 (.tmp 29) 1, 0, _, #[⟨19, .data⟩, ⟨16, .guard⟩], some (16, false)⟩) (v := ?_) rfl (by kernel_rfl) (by kernel_rfl) (by kernel_rfl) (fun _ _ _ h => h) (Or.inl ⟨by rfl, ?yyE20⟩) hHeld ?rrE20
              case yyE20 => (intro w hSw; (try dsimp only at hSw); go_simp; first | done | with_reducible rfl)
              try simp only [Act.put, putA, putB, putC]
              refine wpAnyH_take (i := 21) (oi := ⟨some 31, .load 95 (.tmp 30), 95, _, #[⟨20, .data⟩, ⟨16, .guard⟩], some (16, false)⟩) (v := ?_) rfl (by kernel_rfl) (by kernel_rfl) (by kernel_rfl) (fun _ _ _ h => h) (Or.inl ⟨by rfl, ?yyE21⟩) hHeld ?rrE21
              case yyE21 => (intro w hSw; (try dsimp only at hSw); go_simp; first | done | with_reducible rfl)
              try simp only [Act.put, putA, putB, putC]
              refine wpAnyH_ready (rs := [22]) (by kernel_rfl) (by simp) ?_
              refine AllReadyH.cons (o := ⟨some 32, .call { callee := .value (.func 49), args := #[.tmp 31], argTypes := #[95] }, 4, _, #[⟨21, .data⟩, ⟨16, .chain⟩, ⟨16, .guard⟩], some (16, false)⟩) rfl (fun K hK => ?_) AllReadyH.nil
              go_simp
              refine (l2Plain_any X 0 _ _ (hval _ hcur)).mono ?_
              rintro e w3 ⟨rfl, hE4⟩
              rw [hp]
              replace hcur := hcur.trans hE4
              go_wp2_with fail
              refine hK.out _ _ (HK.out _ hcur) (fun hHeld => ?_)
              clear hK K
              try simp only [Act.put, putA, putB, putC]
              refine wpAnyH_take (i := 23) (oi := ⟨some 33, .unOp .not 4 (.tmp 32), 4, _, #[⟨22, .data⟩, ⟨16, .guard⟩], some (16, false)⟩) (v := ?_) rfl (by kernel_rfl) (by kernel_rfl) (by kernel_rfl) (fun _ _ _ h => h) (Or.inl ⟨by rfl, ?yyE23⟩) hHeld ?rrE23
              case yyE23 => (intro w hSw; (try dsimp only at hSw); go_simp; first | done | with_reducible rfl)
              try simp only [Act.put, putA, putB, putC]
              refine wpAnyH_take (i := 24) (oi := ⟨some 34, .pick (.tmp 26) (.const (.bool true)) (.tmp 33), 4, _, #[⟨16, .data⟩, ⟨23, .data⟩], none⟩) (v := ?_) rfl (by kernel_rfl) (by kernel_rfl) (by kernel_rfl) (fun _ _ _ h => h) (Or.inl ⟨by rfl, ?yyE24⟩) hHeld ?rrE24
              case yyE24 => (intro w hSw; (try dsimp only at hSw); go_simp; first | done | with_reducible rfl)
              try simp only [Act.put, putA, putB, putC]
              refine wpAnyH_take (i := 25) (oi := ⟨some 35, .move (.tmp 34), 4, _, #[⟨24, .data⟩, ⟨22, .chain⟩], none⟩) (v := ?_) rfl (by kernel_rfl) (by kernel_rfl) (by kernel_rfl) (fun _ _ _ h => h) (Or.inl ⟨by rfl, ?yyE25⟩) hHeld ?rrE25
              case yyE25 => (intro w hSw; (try dsimp only at hSw); go_simp; first | done | with_reducible rfl)
              try simp only [Act.put, putA, putB, putC]
              refine wpAnyH_take (i := 26) (oi := ⟨some 36, .move (.tmp 3), 3, _, #[⟨25, .guard⟩], some (25, false)⟩) (v := ?_) rfl (by kernel_rfl) (by kernel_rfl) (by kernel_rfl) (fun _ _ _ h => h) (Or.inl ⟨by rfl, ?yyE26⟩) hHeld ?rrE26
              case yyE26 => (intro w hSw; (try dsimp only at hSw); go_simp; first | done | with_reducible rfl)
              try simp only [Act.put, putA, putB, putC]
              refine wpAnyH_take (i := 27) (oi := ⟨some 37, .binOp .gtr 3 (.tmp 36) (.const (.int .i64 0)) 3, 4, _, #[⟨26, .data⟩, ⟨25, .guard⟩], some (25, false)⟩) (v := ?_) rfl (by kernel_rfl) (by kernel_rfl) (by kernel_rfl) (fun _ _ _ h => h) (Or.inl ⟨by rfl, ?yyE27⟩) hHeld ?rrE27
              case yyE27 => (intro w hSw; (try dsimp only at hSw); go_simp; first | done | with_reducible rfl)
              try simp only [Act.put, putA, putB, putC]
              refine wpAnyH_take (i := 28) (oi := ⟨some 38, .move (.tmp 37), 4, _, #[⟨27, .data⟩, ⟨25, .chain⟩, ⟨25, .guard⟩], some (25, false)⟩) (v := ?_) rfl (by kernel_rfl) (by kernel_rfl) (by kernel_rfl) (fun _ _ _ h => h) (Or.inl ⟨by rfl, ?yyE28⟩) hHeld ?rrE28
              case yyE28 => (intro w hSw; (try dsimp only at hSw); go_simp; first | done | with_reducible rfl)
              try simp only [Act.put, putA, putB, putC]
              refine wpAnyH_take (i := 29) (oi := ⟨some 39, .move (.tmp 0), 61, _, #[⟨28, .guard⟩], some (28, true)⟩) (v := ?_) rfl (by kernel_rfl) (by kernel_rfl) (by kernel_rfl) (fun _ _ _ h => h) (Or.inl ⟨by rfl, ?yyE29⟩) hHeld ?rrE29
              case yyE29 => (intro w hSw; (try dsimp only at hSw); go_simp; first | done | with_reducible rfl)
              try simp only [Act.put, putA, putB, putC]
              refine wpAnyH_take (i := 30) (oi := ⟨some 40, .move (.tmp 3), 3, _, #[⟨28, .guard⟩], some (28, true)⟩) (v := ?_) rfl (by kernel_rfl) (by kernel_rfl) (by kernel_rfl) (fun _ _ _ h => h) (Or.inl ⟨by rfl, ?yyE30⟩) hHeld ?rrE30
              case yyE30 => (intro w hSw; (try dsimp only at hSw); go_simp; first | done | with_reducible rfl)
              try simp only [Act.put, putA, putB, putC]
              refine wpAnyH_take (i := 31) (oi := ⟨some 41, .binOp .sub 3 (.tmp 40) (.const (.int .i64 1)) 3, 3, _, #[⟨30, .data⟩, ⟨28, .guard⟩], some (28, true)⟩) (v := ?_) rfl (by kernel_rfl) (by kernel_rfl) (by kernel_rfl) (fun _ _ _ h => h) (Or.inl ⟨by rfl, ?yyE31⟩) hHeld ?rrE31
              case yyE31 => (intro w hSw; (try dsimp only at hSw); go_simp; first | done | with_reducible rfl)
              try simp only [Act.put, putA, putB, putC]
              refine wpAnyH_take (i := 32) (oi := ⟨some 42, .indexAddr 61 (.tmp 39) (.tmp 41), 0, _, #[⟨29, .data⟩, ⟨31, .data⟩, ⟨28, .guard⟩], some (28, true)⟩) (v := ?_) rfl (by kernel_rfl) (by kernel_rfl) (by kernel_rfl) (fun _ _ _ h => h) (Or.inl ⟨by rfl, ?yyE32⟩) hHeld ?rrE32
              case yyE32 => (intro w hSw; (try dsimp only at hSw); go_simp; first | done | with_reducible rfl)
              try simp only [Act.put, putA, putB, putC]
              refine wpAnyH_take (i := 33) (oi := ⟨some 43, .fieldAddr 97 (.tmp 42) 0, 0, _, #[⟨32, .data⟩, ⟨28, .guard⟩], some (28, true)⟩) (v := ?_) rfl (by kernel_rfl) (by kernel_rfl) (by kernel_rfl) (fun _ _ _ h => h) (Or.inl ⟨by rfl, ?yyE33⟩) hHeld ?rrE33
              case yyE33 => (intro w hSw; (try dsimp only at hSw); go_simp; first | done | with_reducible rfl)
              try simp only [Act.put, putA, putB, putC]
              refine wpAnyH_take (i := 34) (oi := ⟨some 44, .load 9 (.tmp 43), 9, _, #[⟨33, .data⟩, ⟨28, .guard⟩], some (28, true)⟩) (v := ?_) rfl (by kernel_rfl) (by kernel_rfl) (by kernel_rfl) (fun _ _ _ h => h) (Or.inl ⟨by rfl, ?yyE34⟩) hHeld ?rrE34
              case yyE34 => (intro w hSw; (try dsimp only at hSw); go_simp; first | done | with_reducible rfl)
              try simp only [Act.put, putA, putB, putC]
              refine wpAnyH_take (i := 35) (oi := ⟨some 45, .move (.tmp 0), 61, _, #[⟨28, .guard⟩], some (28, true)⟩) (v := ?_) rfl (by kernel_rfl) (by kernel_rfl) (by kernel_rfl) (fun _ _ _ h => h) (Or.inl ⟨by rfl, ?yyE35⟩) hHeld ?rrE35
              case yyE35 => (intro w hSw; (try dsimp only at hSw); go_simp; first | done | with_reducible rfl)
              try simp only [Act.put, putA, putB, putC]
              refine wpAnyH_take (i := 36) (oi := ⟨some 46, .move (.tmp 3), 3, _, #[⟨28, .guard⟩], some (28, true)⟩) (v := ?_) rfl (by kernel_rfl) (by kernel_rfl) (by kernel_rfl) (fun _ _ _ h => h) (Or.inl ⟨by rfl, ?yyE36⟩) hHeld ?rrE36
              case yyE36 => (intro w hSw; (try dsimp only at hSw); go_simp; first | done | with_reducible rfl)
              try simp only [Act.put, putA, putB, putC]
              refine wpAnyH_take (i := 37) (oi := ⟨some 47, .indexAddr 61 (.tmp 45) (.tmp 46), 0, _, #[⟨35, .data⟩, ⟨36, .data⟩, ⟨28, .guard⟩], some (28, true)⟩) (v := ?_) rfl (by kernel_rfl) (by kernel_rfl) (by kernel_rfl) (fun _ _ _ h => h) (Or.inl ⟨by rfl, ?yyE37⟩) hHeld ?rrE37
              case yyE37 => (intro w hSw; (try dsimp only at hSw); go_simp; first | done | with_reducible rfl)
              try simp only [Act.put, putA, putB, putC]
              refine wpAnyH_take (i := 38) (oi := ⟨some 48, .fieldAddr 97 (.tmp 47) 0, 0, _, #[⟨37, .data⟩, ⟨28, .guard⟩], some (28, true)⟩) (v := ?_) rfl (by kernel_rfl) (by kernel_rfl) (by kernel_rfl) (fun _ _ _ h => h) (Or.inl ⟨by rfl, ?yyE38⟩) hHeld ?rrE38
              case yyE38 => (intro w hSw; (try dsimp only at hSw); go_simp; first | done | with_reducible rfl)
              try simp only [Act.put, putA, putB, putC]
              refine wpAnyH_take (i := 39) (oi := ⟨some 49, .load 9 (.tmp 48), 9, _, #[⟨38, .data⟩, ⟨28, .guard⟩], some (28, true)⟩) (v := ?_) rfl (by kernel_rfl) (by kernel_rfl) (by kernel_rfl) (fun _ _ _ h => h) (Or.inl ⟨by rfl, ?yyE39⟩) hHeld ?rrE39
              case yyE39 => (intro w hSw; (try dsimp only at hSw); go_simp; first | done | with_reducible rfl)
              try simp only [Act.put, putA, putB, putC]
              refine wpAnyH_take (i := 40) (oi := ⟨some 50, .binOp .geq 9 (.tmp 44) (.tmp 49) 9, 4, _, #[⟨34, .data⟩, ⟨39, .data⟩, ⟨28, .guard⟩], some (28, true)⟩) (v := ?_) rfl (by kernel_rfl) (by kernel_rfl) (by kernel_rfl) (fun _ _ _ h => h) (Or.inl ⟨by rfl, ?yyE40⟩) hHeld ?rrE40
              case yyE40 => (intro w hSw; (try dsimp only at hSw); go_simp; first | done | with_reducible rfl)
              try simp only [Act.put, putA, putB, putC]
              refine wpAnyH_take (i := 41) (oi := ⟨some 51, .pick (.tmp 38) (.tmp 50) (.const (.bool false)), 4, _, #[⟨28, .data⟩, ⟨40, .data⟩, ⟨25, .guard⟩], some (25, false)⟩) (v := ?_) rfl (by kernel_rfl) (by kernel_rfl) (by kernel_rfl) (fun _ _ _ h => h) (Or.inl ⟨by rfl, ?yyE41⟩) hHeld ?rrE41
              case yyE41 => (intro w hSw; (try dsimp only at hSw); go_simp; first | done | with_reducible rfl)
              try simp only [Act.put, putA, putB, putC]
              refine wpAnyH_take (i := 42) (oi := ⟨some 52, .pick (.tmp 35) (.const (.bool true)) (.tmp 51), 4, _, #[⟨25, .data⟩, ⟨41, .data⟩], none⟩) (v := ?_) rfl (by kernel_rfl) (by kernel_rfl) (by kernel_rfl) (fun _ _ _ h => h) (Or.inl ⟨by rfl, ?yyE42⟩) hHeld ?rrE42
              case yyE42 => (intro w hSw; (try dsimp only at hSw); go_simp; first | done | with_reducible rfl)
              try simp only [Act.put, putA, putB, putC]
              refine wpAnyH_done (by kernel_rfl) ?_ _
              cases hcmp : Op.bytesLess xp.toList x0.toList
              · have hfin : Hid (propsB (.list 5 len f) = false) := by show _ = _; rw [HB.out, all_no hlt (by rw [hLk2.out]; exact hcmp)]; rfl
                go_wp2
                go_ret
                exact ⟨ret_bool hfin.out.symm, hE.trans hcur⟩
              · have hok : Hid (propB f (m + 1) = true) := by show _ = _; rw [hLk2.out]; exact hcmp
                go_wp2
                go_roundw
                case rel => exact ⟨m + 1 + 1, by omega, by go_num, hE.trans hcur, upto_succ hno hok.out⟩
                case measure => simp [intOf]; omega
    · have hkx : k = len := by omega
      subst hkx
      go_wp2
      go_ret
      refine ⟨ret_bool ?_, hE⟩
      show _ = propsB (.list 5 k f)
      rw [HB.out, all_yes hno, Bool.true_and, Bool.eq_iff_iff]
      simp
      omega
end Go.Proofs.YtejahpkpmbnmkaaGreat
