/- What spec.l2Labels answers. -/
import Derived.Test.YtejahpkpmbnmkaaGreatDAcc
import Derived.Test.YtejahpkpmbnmkaaGreatName
import Derived.BigRegion
import Derived.Deep.RegionWith
import Derived.Deep.RegionHeld3
import Derived.Laws.Cover1
namespace Go.Proofs.YtejahpkpmbnmkaaGreat
open Go.RowKit Go.Deep

/-- Labels are names, ascending: the i-th. -/
def labelB (f : Nat → Nat → D) (i : Nat) : Bool := nameB (f i 0).str! && (i == 0 || ltS (f (i - 1) 0).str! (f i 0).str!)
def labelsB (d : D) : Bool := (List.range d.len!).all (labelB d.at!) && decide (d.len! ≤ 3)

set_option maxHeartbeats 2000000 in
theorem l2Labels_any (d : D) (H : Has d (.list 0)) (S : Nat → Prop) (v : Value) (w : World) (hv : DIn S w d v) :
    Calls Tryz.prog 29 #[v] w fun e w' => e = .returned (.bool (labelsB d)) ∧ Ext w w' := by
  obtain ⟨len, f, rfl, HRa⟩ := H.list
  change DIn S w (.list 1 len f) v at hv
  obtain ⟨a, cap, rfl, hm⟩ := hv.list_eq
  unfold maxLen at hm
  have HB : Hid (labelsB (.list 1 len f) = ((List.range len).all (labelB f) && decide (len ≤ 3))) := rfl
  go_enter Tryz.func29, Tryz.ntmps29
  go_wp2
  go_loopw [3] (fun i wr => ∃ k : Nat, k ≤ len ∧ i = .int .i64 k ∧ Ext w wr ∧ ∀ j, j < k → labelB f j = true) (fun i _ => len - (intOf i).toNat)
  case atStart => exact ⟨0, Nat.zero_le _, rfl, Ext.refl _, fun j h => by omega⟩
  case round =>
    obtain ⟨k, hk, rfl, hE, hno⟩ := hrel
    by_cases hlt : k < len
    · obtain ⟨cap2, b, off, C, hsl, _, hb, ec, hx⟩ := (hv.ext hE).at hlt
      cases hsl
      have HR := HRa k hlt
      obtain ⟨x0, hd0⟩ := (show Has (f k 0) .str from HR 0 (by decide)).str
      have h0 := hx 0 (by decide)
      have e0 := ec 0 (by decide)
      rw [hd0] at h0
      obtain ⟨y0, z0⟩ := h0.str_eq
      rw [y0] at e0
      have e0 : wr.cell? ⟨b, off + k, none⟩ = some (.string x0) := by simpa using e0
      clear y0 hx ec HR
      have hLk : Hid (labelB f k = (nameB x0 && (k == 0 || ltS (f (k - 1) 0).str! x0))) := by show _ = _; simp [labelB, hd0, D.str!]
      have hS0 : ∀ W, Ext wr W → W.cell? ⟨b, off + k, none⟩ = some (.string x0) := fun W hW => by rw [hW.cell hb]; exact e0
      clear e0
      go_wp2_with fail
      cases hn : nameB x0
      · have hfin : Hid (labelsB (.list 1 len f) = false) := by show _ = _; rw [HB.out, all_no hlt (by rw [hLk.out, hn]; rfl)]; rfl
        have HK : Hid (∀ W, Ext wr W → W.cell? ⟨b, off + k, none⟩ = some (.string x0)) := hS0
        clear hS0
        have hcur : Ext wr wr.drew := (Ext.refl _).drew
        refine wp_region_held_drew (S := (fun W => W.cell? ⟨b, off + k, none⟩ = some (.string x0))) (by kernel_rfl) (HK.out _ hcur) (fun hHeld => ?_)
        refine wpAnyH_take (i := 0) (oi := ⟨some 10, .move (.tmp 0), 54, _, #[], none⟩) (v := ?_) rfl (by kernel_rfl) (by kernel_rfl) (by kernel_rfl) (fun _ _ _ h => h) (Or.inl ⟨by rfl, ?yyA0⟩) hHeld ?rrA0
        case yyA0 => (intro w hSw; (try dsimp only at hSw); go_simp; first | done | with_reducible rfl)
        try simp only [Act.put, putA, putB, putC]
        refine wpAnyH_take (i := 1) (oi := ⟨some 11, .move (.tmp 3), 3, _, #[], none⟩) (v := ?_) rfl (by kernel_rfl) (by kernel_rfl) (by kernel_rfl) (fun _ _ _ h => h) (Or.inl ⟨by rfl, ?yyA1⟩) hHeld ?rrA1
        case yyA1 => (intro w hSw; (try dsimp only at hSw); go_simp; first | done | with_reducible rfl)
        try simp only [Act.put, putA, putB, putC]
        refine wpAnyH_take (i := 2) (oi := ⟨some 12, .indexAddr 54 (.tmp 10) (.tmp 11), 0, _, #[⟨0, .data⟩, ⟨1, .data⟩], none⟩) (v := ?_) rfl (by kernel_rfl) (by kernel_rfl) (by kernel_rfl) (fun _ _ _ h => h) (Or.inl ⟨by rfl, ?yyA2⟩) hHeld ?rrA2
        case yyA2 => (intro w hSw; (try dsimp only at hSw); go_simp; first | done | with_reducible rfl)
        try simp only [Act.put, putA, putB, putC]
        refine wpAnyH_take (i := 3) (oi := ⟨some 13, .load 9 (.tmp 12), 9, _, #[⟨2, .data⟩], none⟩) (v := ?_) rfl (by kernel_rfl) (by kernel_rfl) (by kernel_rfl) (fun _ _ _ h => h) (Or.inl ⟨by rfl, ?yyA3⟩) hHeld ?rrA3
        case yyA3 => (intro w hSw; (try dsimp only at hSw); go_simp; first | done | with_reducible rfl)
        try simp only [Act.put, putA, putB, putC]
        refine wpAnyH_ready (rs := [4]) (by kernel_rfl) (by simp) ?_
        refine AllReadyH.cons (o := ⟨some 14, .call { callee := .value (.func 31), args := #[.tmp 13], argTypes := #[9] }, 4, _, #[⟨3, .data⟩], none⟩) rfl (fun K hK => ?_) AllReadyH.nil
        go_simp
        refine (l2Name_any _ _ z0).mono ?_
        rintro e w' ⟨rfl, hE2⟩
        rw [hn]
        replace hcur := hcur.trans hE2
        go_wp2_with fail
        refine hK.out _ _ (HK.out _ hcur) (fun hHeld => ?_)
        clear hK K
        try simp only [Act.put, putA, putB, putC]
        refine wpAnyH_take (i := 5) (oi := ⟨some 15, .unOp .not 4 (.tmp 14), 4, _, #[⟨4, .data⟩], none⟩) (v := ?_) rfl (by kernel_rfl) (by kernel_rfl) (by kernel_rfl) (fun _ _ _ h => h) (Or.inl ⟨by rfl, ?yyA5⟩) hHeld ?rrA5
        case yyA5 => (intro w hSw; (try dsimp only at hSw); go_simp; first | done | with_reducible rfl)
        try simp only [Act.put, putA, putB, putC]
        refine wpAnyH_take (i := 6) (oi := ⟨some 16, .move (.tmp 15), 4, _, #[⟨5, .data⟩, ⟨4, .chain⟩], none⟩) (v := ?_) rfl (by kernel_rfl) (by kernel_rfl) (by kernel_rfl) (fun _ _ _ h => h) (Or.inl ⟨by rfl, ?yyA6⟩) hHeld ?rrA6
        case yyA6 => (intro w hSw; (try dsimp only at hSw); go_simp; first | done | with_reducible rfl)
        try simp only [Act.put, putA, putB, putC]
        refine wpAnyH_take (i := 7) (oi := ⟨some 17, .move (.tmp 3), 3, _, #[⟨6, .guard⟩], some (6, false)⟩) (v := undef) rfl (by kernel_rfl) (by kernel_rfl) (by kernel_rfl) (fun _ _ _ h => h) (Or.inr ⟨by rfl, rfl⟩) hHeld ?_
        try simp only [Act.put, putA, putB, putC]
        refine wpAnyH_take (i := 8) (oi := ⟨some 18, .binOp .gtr 3 (.tmp 17) (.const (.int .i64 0)) 3, 4, _, #[⟨7, .data⟩, ⟨6, .guard⟩], some (6, false)⟩) (v := undef) rfl (by kernel_rfl) (by kernel_rfl) (by kernel_rfl) (fun _ _ _ h => h) (Or.inr ⟨by rfl, rfl⟩) hHeld ?_
        try simp only [Act.put, putA, putB, putC]
        refine wpAnyH_take (i := 9) (oi := ⟨some 19, .move (.tmp 18), 4, _, #[⟨8, .data⟩, ⟨6, .chain⟩, ⟨6, .guard⟩], some (6, false)⟩) (v := undef) rfl (by kernel_rfl) (by kernel_rfl) (by kernel_rfl) (fun _ _ _ h => h) (Or.inr ⟨by rfl, rfl⟩) hHeld ?_
        try simp only [Act.put, putA, putB, putC]
        refine wpAnyH_take (i := 10) (oi := ⟨some 20, .move (.tmp 0), 54, _, #[⟨9, .guard⟩], some (9, true)⟩) (v := undef) rfl (by kernel_rfl) (by kernel_rfl) (by kernel_rfl) (fun _ _ _ h => h) (Or.inr ⟨by rfl, rfl⟩) hHeld ?_
        try simp only [Act.put, putA, putB, putC]
        refine wpAnyH_take (i := 11) (oi := ⟨some 21, .move (.tmp 3), 3, _, #[⟨9, .guard⟩], some (9, true)⟩) (v := undef) rfl (by kernel_rfl) (by kernel_rfl) (by kernel_rfl) (fun _ _ _ h => h) (Or.inr ⟨by rfl, rfl⟩) hHeld ?_
        try simp only [Act.put, putA, putB, putC]
        refine wpAnyH_take (i := 12) (oi := ⟨some 22, .binOp .sub 3 (.tmp 21) (.const (.int .i64 1)) 3, 3, _, #[⟨11, .data⟩, ⟨9, .guard⟩], some (9, true)⟩) (v := undef) rfl (by kernel_rfl) (by kernel_rfl) (by kernel_rfl) (fun _ _ _ h => h) (Or.inr ⟨by rfl, rfl⟩) hHeld ?_
        try simp only [Act.put, putA, putB, putC]
        refine wpAnyH_take (i := 13) (oi := ⟨some 23, .indexAddr 54 (.tmp 20) (.tmp 22), 0, _, #[⟨10, .data⟩, ⟨12, .data⟩, ⟨9, .guard⟩], some (9, true)⟩) (v := undef) rfl (by kernel_rfl) (by kernel_rfl) (by kernel_rfl) (fun _ _ _ h => h) (Or.inr ⟨by rfl, rfl⟩) hHeld ?_
        try simp only [Act.put, putA, putB, putC]
        refine wpAnyH_take (i := 14) (oi := ⟨some 24, .load 9 (.tmp 23), 9, _, #[⟨13, .data⟩, ⟨9, .guard⟩], some (9, true)⟩) (v := undef) rfl (by kernel_rfl) (by kernel_rfl) (by kernel_rfl) (fun _ _ _ h => h) (Or.inr ⟨by rfl, rfl⟩) hHeld ?_
        try simp only [Act.put, putA, putB, putC]
        refine wpAnyH_take (i := 15) (oi := ⟨some 25, .move (.tmp 0), 54, _, #[⟨9, .guard⟩], some (9, true)⟩) (v := undef) rfl (by kernel_rfl) (by kernel_rfl) (by kernel_rfl) (fun _ _ _ h => h) (Or.inr ⟨by rfl, rfl⟩) hHeld ?_
        try simp only [Act.put, putA, putB, putC]
        refine wpAnyH_take (i := 16) (oi := ⟨some 26, .move (.tmp 3), 3, _, #[⟨9, .guard⟩], some (9, true)⟩) (v := undef) rfl (by kernel_rfl) (by kernel_rfl) (by kernel_rfl) (fun _ _ _ h => h) (Or.inr ⟨by rfl, rfl⟩) hHeld ?_
        try simp only [Act.put, putA, putB, putC]
        refine wpAnyH_take (i := 17) (oi := ⟨some 27, .indexAddr 54 (.tmp 25) (.tmp 26), 0, _, #[⟨15, .data⟩, ⟨16, .data⟩, ⟨9, .guard⟩], some (9, true)⟩) (v := undef) rfl (by kernel_rfl) (by kernel_rfl) (by kernel_rfl) (fun _ _ _ h => h) (Or.inr ⟨by rfl, rfl⟩) hHeld ?_
        try simp only [Act.put, putA, putB, putC]
        refine wpAnyH_take (i := 18) (oi := ⟨some 28, .load 9 (.tmp 27), 9, _, #[⟨17, .data⟩, ⟨9, .guard⟩], some (9, true)⟩) (v := undef) rfl (by kernel_rfl) (by kernel_rfl) (by kernel_rfl) (fun _ _ _ h => h) (Or.inr ⟨by rfl, rfl⟩) hHeld ?_
        try simp only [Act.put, putA, putB, putC]
        refine wpAnyH_take (i := 19) (oi := ⟨some 29, .binOp .geq 9 (.tmp 24) (.tmp 28) 9, 4, _, #[⟨14, .data⟩, ⟨18, .data⟩, ⟨9, .guard⟩], some (9, true)⟩) (v := undef) rfl (by kernel_rfl) (by kernel_rfl) (by kernel_rfl) (fun _ _ _ h => h) (Or.inr ⟨by rfl, rfl⟩) hHeld ?_
        try simp only [Act.put, putA, putB, putC]
        refine wpAnyH_take (i := 20) (oi := ⟨some 30, .pick (.tmp 19) (.tmp 29) (.const (.bool false)), 4, _, #[⟨9, .data⟩, ⟨19, .data⟩, ⟨6, .guard⟩], some (6, false)⟩) (v := undef) rfl (by kernel_rfl) (by kernel_rfl) (by kernel_rfl) (fun _ _ _ h => h) (Or.inr ⟨by rfl, rfl⟩) hHeld ?_
        try simp only [Act.put, putA, putB, putC]
        refine wpAnyH_take (i := 21) (oi := ⟨some 31, .pick (.tmp 16) (.const (.bool true)) (.tmp 30), 4, _, #[⟨6, .data⟩, ⟨20, .data⟩], none⟩) (v := ?_) rfl (by kernel_rfl) (by kernel_rfl) (by kernel_rfl) (fun _ _ _ h => h) (Or.inl ⟨by rfl, ?yyA21⟩) hHeld ?rrA21
        case yyA21 => (intro w hSw; (try dsimp only at hSw); go_simp; first | done | with_reducible rfl)
        try simp only [Act.put, putA, putB, putC]
        refine wpAnyH_done (by kernel_rfl) ?_ _
        go_wp2
        go_ret
        exact ⟨ret_bool hfin.out.symm, hE.trans hcur⟩
      · by_cases hk0 : k = 0
        · subst hk0
          have hok : Hid (labelB f 0 = true) := by show _ = _; rw [hLk.out, hn]; rfl
          have HK : Hid (∀ W, Ext wr W → W.cell? ⟨b, off, none⟩ = some (.string x0)) := hS0
          clear hS0
          have hcur : Ext wr wr.drew := (Ext.refl _).drew
          refine wp_region_held_drew (S := (fun W => W.cell? ⟨b, off, none⟩ = some (.string x0))) (by kernel_rfl) (HK.out _ hcur) (fun hHeld => ?_)
          refine wpAnyH_take (i := 0) (oi := ⟨some 10, .move (.tmp 0), 54, _, #[], none⟩) (v := ?_) rfl (by kernel_rfl) (by kernel_rfl) (by kernel_rfl) (fun _ _ _ h => h) (Or.inl ⟨by rfl, ?yyB0⟩) hHeld ?rrB0
          case yyB0 => (intro w hSw; (try dsimp only at hSw); go_simp; first | done | with_reducible rfl)
          try simp only [Act.put, putA, putB, putC]
          refine wpAnyH_take (i := 1) (oi := ⟨some 11, .move (.tmp 3), 3, _, #[], none⟩) (v := ?_) rfl (by kernel_rfl) (by kernel_rfl) (by kernel_rfl) (fun _ _ _ h => h) (Or.inl ⟨by rfl, ?yyB1⟩) hHeld ?rrB1
          case yyB1 => (intro w hSw; (try dsimp only at hSw); go_simp; first | done | with_reducible rfl)
          try simp only [Act.put, putA, putB, putC]
          refine wpAnyH_take (i := 2) (oi := ⟨some 12, .indexAddr 54 (.tmp 10) (.tmp 11), 0, _, #[⟨0, .data⟩, ⟨1, .data⟩], none⟩) (v := ?_) rfl (by kernel_rfl) (by kernel_rfl) (by kernel_rfl) (fun _ _ _ h => h) (Or.inl ⟨by rfl, ?yyB2⟩) hHeld ?rrB2
          case yyB2 => (intro w hSw; (try dsimp only at hSw); go_simp; first | done | with_reducible rfl)
          try simp only [Act.put, putA, putB, putC]
          refine wpAnyH_take (i := 3) (oi := ⟨some 13, .load 9 (.tmp 12), 9, _, #[⟨2, .data⟩], none⟩) (v := ?_) rfl (by kernel_rfl) (by kernel_rfl) (by kernel_rfl) (fun _ _ _ h => h) (Or.inl ⟨by rfl, ?yyB3⟩) hHeld ?rrB3
          case yyB3 => (intro w hSw; (try dsimp only at hSw); go_simp; first | done | with_reducible rfl)
          try simp only [Act.put, putA, putB, putC]
          refine wpAnyH_ready (rs := [4]) (by kernel_rfl) (by simp) ?_
          refine AllReadyH.cons (o := ⟨some 14, .call { callee := .value (.func 31), args := #[.tmp 13], argTypes := #[9] }, 4, _, #[⟨3, .data⟩], none⟩) rfl (fun K hK => ?_) AllReadyH.nil
          go_simp
          refine (l2Name_any _ _ z0).mono ?_
          rintro e w' ⟨rfl, hE2⟩
          rw [hn]
          replace hcur := hcur.trans hE2
          go_wp2_with fail
          refine hK.out _ _ (HK.out _ hcur) (fun hHeld => ?_)
          clear hK K
          try simp only [Act.put, putA, putB, putC]
          refine wpAnyH_take (i := 5) (oi := ⟨some 15, .unOp .not 4 (.tmp 14), 4, _, #[⟨4, .data⟩], none⟩) (v := ?_) rfl (by kernel_rfl) (by kernel_rfl) (by kernel_rfl) (fun _ _ _ h => h) (Or.inl ⟨by rfl, ?yyB5⟩) hHeld ?rrB5
          case yyB5 => (intro w hSw; (try dsimp only at hSw); go_simp; first | done | with_reducible rfl)
          try simp only [Act.put, putA, putB, putC]
          refine wpAnyH_take (i := 6) (oi := ⟨some 16, .move (.tmp 15), 4, _, #[⟨5, .data⟩, ⟨4, .chain⟩], none⟩) (v := ?_) rfl (by kernel_rfl) (by kernel_rfl) (by kernel_rfl) (fun _ _ _ h => h) (Or.inl ⟨by rfl, ?yyB6⟩) hHeld ?rrB6
          case yyB6 => (intro w hSw; (try dsimp only at hSw); go_simp; first | done | with_reducible rfl)
          try simp only [Act.put, putA, putB, putC]
          refine wpAnyH_take (i := 7) (oi := ⟨some 17, .move (.tmp 3), 3, _, #[⟨6, .guard⟩], some (6, false)⟩) (v := ?_) rfl (by kernel_rfl) (by kernel_rfl) (by kernel_rfl) (fun _ _ _ h => h) (Or.inl ⟨by rfl, ?yyB7⟩) hHeld ?rrB7
          case yyB7 => (intro w hSw; (try dsimp only at hSw); go_simp; first | done | with_reducible rfl)
          try simp only [Act.put, putA, putB, putC]
          refine wpAnyH_take (i := 8) (oi := ⟨some 18, .binOp .gtr 3 (.tmp 17) (.const (.int .i64 0)) 3, 4, _, #[⟨7, .data⟩, ⟨6, .guard⟩], some (6, false)⟩) (v := ?_) rfl (by kernel_rfl) (by kernel_rfl) (by kernel_rfl) (fun _ _ _ h => h) (Or.inl ⟨by rfl, ?yyB8⟩) hHeld ?rrB8
          case yyB8 => (intro w hSw; (try dsimp only at hSw); go_simp; first | done | with_reducible rfl)
          try simp only [Act.put, putA, putB, putC]
          refine wpAnyH_take (i := 9) (oi := ⟨some 19, .move (.tmp 18), 4, _, #[⟨8, .data⟩, ⟨6, .chain⟩, ⟨6, .guard⟩], some (6, false)⟩) (v := ?_) rfl (by kernel_rfl) (by kernel_rfl) (by kernel_rfl) (fun _ _ _ h => h) (Or.inl ⟨by rfl, ?yyB9⟩) hHeld ?rrB9
          case yyB9 => (intro w hSw; (try dsimp only at hSw); go_simp; first | done | with_reducible rfl)
          try simp only [Act.put, putA, putB, putC]
          refine wpAnyH_take (i := 10) (oi := ⟨some 20, .move (.tmp 0), 54, _, #[⟨9, .guard⟩], some (9, true)⟩) (v := undef) rfl (by kernel_rfl) (by kernel_rfl) (by kernel_rfl) (fun _ _ _ h => h) (Or.inr ⟨by rfl, rfl⟩) hHeld ?_
          try simp only [Act.put, putA, putB, putC]
          refine wpAnyH_take (i := 11) (oi := ⟨some 21, .move (.tmp 3), 3, _, #[⟨9, .guard⟩], some (9, true)⟩) (v := undef) rfl (by kernel_rfl) (by kernel_rfl) (by kernel_rfl) (fun _ _ _ h => h) (Or.inr ⟨by rfl, rfl⟩) hHeld ?_
          try simp only [Act.put, putA, putB, putC]
          refine wpAnyH_take (i := 12) (oi := ⟨some 22, .binOp .sub 3 (.tmp 21) (.const (.int .i64 1)) 3, 3, _, #[⟨11, .data⟩, ⟨9, .guard⟩], some (9, true)⟩) (v := undef) rfl (by kernel_rfl) (by kernel_rfl) (by kernel_rfl) (fun _ _ _ h => h) (Or.inr ⟨by rfl, rfl⟩) hHeld ?_
          try simp only [Act.put, putA, putB, putC]
          refine wpAnyH_take (i := 13) (oi := ⟨some 23, .indexAddr 54 (.tmp 20) (.tmp 22), 0, _, #[⟨10, .data⟩, ⟨12, .data⟩, ⟨9, .guard⟩], some (9, true)⟩) (v := undef) rfl (by kernel_rfl) (by kernel_rfl) (by kernel_rfl) (fun _ _ _ h => h) (Or.inr ⟨by rfl, rfl⟩) hHeld ?_
          try simp only [Act.put, putA, putB, putC]
          refine wpAnyH_take (i := 14) (oi := ⟨some 24, .load 9 (.tmp 23), 9, _, #[⟨13, .data⟩, ⟨9, .guard⟩], some (9, true)⟩) (v := undef) rfl (by kernel_rfl) (by kernel_rfl) (by kernel_rfl) (fun _ _ _ h => h) (Or.inr ⟨by rfl, rfl⟩) hHeld ?_
          try simp only [Act.put, putA, putB, putC]
          refine wpAnyH_take (i := 15) (oi := ⟨some 25, .move (.tmp 0), 54, _, #[⟨9, .guard⟩], some (9, true)⟩) (v := undef) rfl (by kernel_rfl) (by kernel_rfl) (by kernel_rfl) (fun _ _ _ h => h) (Or.inr ⟨by rfl, rfl⟩) hHeld ?_
          try simp only [Act.put, putA, putB, putC]
          refine wpAnyH_take (i := 16) (oi := ⟨some 26, .move (.tmp 3), 3, _, #[⟨9, .guard⟩], some (9, true)⟩) (v := undef) rfl (by kernel_rfl) (by kernel_rfl) (by kernel_rfl) (fun _ _ _ h => h) (Or.inr ⟨by rfl, rfl⟩) hHeld ?_
          try simp only [Act.put, putA, putB, putC]
          refine wpAnyH_take (i := 17) (oi := ⟨some 27, .indexAddr 54 (.tmp 25) (.tmp 26), 0, _, #[⟨15, .data⟩, ⟨16, .data⟩, ⟨9, .guard⟩], some (9, true)⟩) (v := undef) rfl (by kernel_rfl) (by kernel_rfl) (by kernel_rfl) (fun _ _ _ h => h) (Or.inr ⟨by rfl, rfl⟩) hHeld ?_
          try simp only [Act.put, putA, putB, putC]
          refine wpAnyH_take (i := 18) (oi := ⟨some 28, .load 9 (.tmp 27), 9, _, #[⟨17, .data⟩, ⟨9, .guard⟩], some (9, true)⟩) (v := undef) rfl (by kernel_rfl) (by kernel_rfl) (by kernel_rfl) (fun _ _ _ h => h) (Or.inr ⟨by rfl, rfl⟩) hHeld ?_
          try simp only [Act.put, putA, putB, putC]
          refine wpAnyH_take (i := 19) (oi := ⟨some 29, .binOp .geq 9 (.tmp 24) (.tmp 28) 9, 4, _, #[⟨14, .data⟩, ⟨18, .data⟩, ⟨9, .guard⟩], some (9, true)⟩) (v := undef) rfl (by kernel_rfl) (by kernel_rfl) (by kernel_rfl) (fun _ _ _ h => h) (Or.inr ⟨by rfl, rfl⟩) hHeld ?_
          try simp only [Act.put, putA, putB, putC]
          refine wpAnyH_take (i := 20) (oi := ⟨some 30, .pick (.tmp 19) (.tmp 29) (.const (.bool false)), 4, _, #[⟨9, .data⟩, ⟨19, .data⟩, ⟨6, .guard⟩], some (6, false)⟩) (v := ?_) rfl (by kernel_rfl) (by kernel_rfl) (by kernel_rfl) (fun _ _ _ h => h) (Or.inl ⟨by rfl, ?yyB20⟩) hHeld ?rrB20
          case yyB20 => (intro w hSw; (try dsimp only at hSw); go_simp; first | done | with_reducible rfl)
          try simp only [Act.put, putA, putB, putC]
          refine wpAnyH_take (i := 21) (oi := ⟨some 31, .pick (.tmp 16) (.const (.bool true)) (.tmp 30), 4, _, #[⟨6, .data⟩, ⟨20, .data⟩], none⟩) (v := ?_) rfl (by kernel_rfl) (by kernel_rfl) (by kernel_rfl) (fun _ _ _ h => h) (Or.inl ⟨by rfl, ?yyB21⟩) hHeld ?rrB21
          case yyB21 => (intro w hSw; (try dsimp only at hSw); go_simp; first | done | with_reducible rfl)
          try simp only [Act.put, putA, putB, putC]
          refine wpAnyH_done (by kernel_rfl) ?_ _
          go_wp2
          go_roundw
          case rel => exact ⟨1, by omega, by go_num, hE.trans hcur, upto_succ hno hok.out⟩
          case measure => simp [intOf]; omega
        · obtain ⟨m, rfl⟩ : ∃ m, k = m + 1 := ⟨k - 1, by omega⟩
          obtain ⟨cap3, b3, off3, C3, hsl, _, hb3, ec3, hx3⟩ := (hv.ext hE).at (i := m) (by omega)
          cases hsl
          have HR := HRa m (by omega)
          obtain ⟨x1, hd1⟩ := (show Has (f m 0) .str from HR 0 (by decide)).str
          have h1 := hx3 0 (by decide)
          have e1 := ec3 0 (by decide)
          rw [hd1] at h1
          rw [h1.str_eq.1] at e1
          clear hx3 ec3 HR
          have e1 : wr.cell? ⟨b, off + m, none⟩ = some (.string x1) := by simpa using e1
          have hLk2 : Hid (labelB f (m + 1) = ltS x1 x0) := by show _ = _; rw [hLk.out, hn]; simp [hd1, D.str!]
          have HK : Hid (∀ W, Ext wr W → W.cell? ⟨b, off + (m + 1), none⟩ = some (.string x0) ∧ W.cell? ⟨b, off + m, none⟩ = some (.string x1)) := fun W hW => ⟨hS0 W hW, by rw [hW.cell hb]; exact e1⟩
          clear hS0 e1 hLk
          have i0 : 0 ≤ (m : Int) + 1 := by omega
          have i1 : (m : Int) + 1 < (len : Int) := by omega
          have i2 : (m : Int) < (len : Int) := by omega
          have iw : IntKind.i64.wrap (m : Int) = m := wrap_i64 (by omega) (by omega)
          have hcur : Ext wr wr.drew := (Ext.refl _).drew
          refine wp_region_held_drew (S := (fun W => W.cell? ⟨b, off + (m + 1), none⟩ = some (.string x0) ∧ W.cell? ⟨b, off + m, none⟩ = some (.string x1))) (by kernel_rfl) (HK.out _ hcur) (fun hHeld => ?_)
          refine wpAnyH_take (i := 0) (oi := ⟨some 10, .move (.tmp 0), 54, _, #[], none⟩) (v := ?_) rfl (by kernel_rfl) (by kernel_rfl) (by kernel_rfl) (fun _ _ _ h => h) (Or.inl ⟨by rfl, ?yyC0⟩) hHeld ?rrC0
          case yyC0 => (intro w hSw; (try dsimp only at hSw); go_simp; first | done | with_reducible rfl)
          try simp only [Act.put, putA, putB, putC]
          refine wpAnyH_take (i := 1) (oi := ⟨some 11, .move (.tmp 3), 3, _, #[], none⟩) (v := ?_) rfl (by kernel_rfl) (by kernel_rfl) (by kernel_rfl) (fun _ _ _ h => h) (Or.inl ⟨by rfl, ?yyC1⟩) hHeld ?rrC1
          case yyC1 => (intro w hSw; (try dsimp only at hSw); go_simp; first | done | with_reducible rfl)
          try simp only [Act.put, putA, putB, putC]
          refine wpAnyH_take (i := 2) (oi := ⟨some 12, .indexAddr 54 (.tmp 10) (.tmp 11), 0, _, #[⟨0, .data⟩, ⟨1, .data⟩], none⟩) (v := ?_) rfl (by kernel_rfl) (by kernel_rfl) (by kernel_rfl) (fun _ _ _ h => h) (Or.inl ⟨by rfl, ?yyC2⟩) hHeld ?rrC2
          case yyC2 => (intro w hSw; (try dsimp only at hSw); go_simp; first | done | with_reducible rfl)
          try simp only [Act.put, putA, putB, putC]
          refine wpAnyH_take (i := 3) (oi := ⟨some 13, .load 9 (.tmp 12), 9, _, #[⟨2, .data⟩], none⟩) (v := ?_) rfl (by kernel_rfl) (by kernel_rfl) (by kernel_rfl) (fun _ _ _ h => h) (Or.inl ⟨by rfl, ?yyC3⟩) hHeld ?rrC3
          case yyC3 => (intro w hSw; (try dsimp only at hSw); go_simp; first | done | with_reducible rfl)
          try simp only [Act.put, putA, putB, putC]
          refine wpAnyH_ready (rs := [4]) (by kernel_rfl) (by simp) ?_
          refine AllReadyH.cons (o := ⟨some 14, .call { callee := .value (.func 31), args := #[.tmp 13], argTypes := #[9] }, 4, _, #[⟨3, .data⟩], none⟩) rfl (fun K hK => ?_) AllReadyH.nil
          go_simp
          refine (l2Name_any _ _ z0).mono ?_
          rintro e w' ⟨rfl, hE2⟩
          rw [hn]
          replace hcur := hcur.trans hE2
          go_wp2_with fail
          refine hK.out _ _ (HK.out _ hcur) (fun hHeld => ?_)
          clear hK K
          try simp only [Act.put, putA, putB, putC]
          refine wpAnyH_take (i := 5) (oi := ⟨some 15, .unOp .not 4 (.tmp 14), 4, _, #[⟨4, .data⟩], none⟩) (v := ?_) rfl (by kernel_rfl) (by kernel_rfl) (by kernel_rfl) (fun _ _ _ h => h) (Or.inl ⟨by rfl, ?yyC5⟩) hHeld ?rrC5
          case yyC5 => (intro w hSw; (try dsimp only at hSw); go_simp; first | done | with_reducible rfl)
          try simp only [Act.put, putA, putB, putC]
          refine wpAnyH_take (i := 6) (oi := ⟨some 16, .move (.tmp 15), 4, _, #[⟨5, .data⟩, ⟨4, .chain⟩], none⟩) (v := ?_) rfl (by kernel_rfl) (by kernel_rfl) (by kernel_rfl) (fun _ _ _ h => h) (Or.inl ⟨by rfl, ?yyC6⟩) hHeld ?rrC6
          case yyC6 => (intro w hSw; (try dsimp only at hSw); go_simp; first | done | with_reducible rfl)
          try simp only [Act.put, putA, putB, putC]
          refine wpAnyH_take (i := 7) (oi := ⟨some 17, .move (.tmp 3), 3, _, #[⟨6, .guard⟩], some (6, false)⟩) (v := ?_) rfl (by kernel_rfl) (by kernel_rfl) (by kernel_rfl) (fun _ _ _ h => h) (Or.inl ⟨by rfl, ?yyC7⟩) hHeld ?rrC7
          case yyC7 => (intro w hSw; (try dsimp only at hSw); go_simp; first | done | with_reducible rfl)
          try simp only [Act.put, putA, putB, putC]
          refine wpAnyH_take (i := 8) (oi := ⟨some 18, .binOp .gtr 3 (.tmp 17) (.const (.int .i64 0)) 3, 4, _, #[⟨7, .data⟩, ⟨6, .guard⟩], some (6, false)⟩) (v := ?_) rfl (by kernel_rfl) (by kernel_rfl) (by kernel_rfl) (fun _ _ _ h => h) (Or.inl ⟨by rfl, ?yyC8⟩) hHeld ?rrC8
          case yyC8 => (intro w hSw; (try dsimp only at hSw); go_simp; first | done | with_reducible rfl)
          try simp only [Act.put, putA, putB, putC]
          refine wpAnyH_take (i := 9) (oi := ⟨some 19, .move (.tmp 18), 4, _, #[⟨8, .data⟩, ⟨6, .chain⟩, ⟨6, .guard⟩], some (6, false)⟩) (v := ?_) rfl (by kernel_rfl) (by kernel_rfl) (by kernel_rfl) (fun _ _ _ h => h) (Or.inl ⟨by rfl, ?yyC9⟩) hHeld ?rrC9
          case yyC9 => (intro w hSw; (try dsimp only at hSw); go_simp; first | done | with_reducible rfl)
          try simp only [Act.put, putA, putB, putC]
          refine wpAnyH_take (i := 10) (oi := ⟨some 20, .move (.tmp 0), 54, _, #[⟨9, .guard⟩], some (9, true)⟩) (v := ?_) rfl (by kernel_rfl) (by kernel_rfl) (by kernel_rfl) (fun _ _ _ h => h) (Or.inl ⟨by rfl, ?yyC10⟩) hHeld ?rrC10
          case yyC10 => (intro w hSw; (try dsimp only at hSw); go_simp; first | done | with_reducible rfl)
          try simp only [Act.put, putA, putB, putC]
          refine wpAnyH_take (i := 11) (oi := ⟨some 21, .move (.tmp 3), 3, _, #[⟨9, .guard⟩], some (9, true)⟩) (v := ?_) rfl (by kernel_rfl) (by kernel_rfl) (by kernel_rfl) (fun _ _ _ h => h) (Or.inl ⟨by rfl, ?yyC11⟩) hHeld ?rrC11
          case yyC11 => (intro w hSw; (try dsimp only at hSw); go_simp; first | done | with_reducible rfl)
          try simp only [Act.put, putA, putB, putC]
          refine wpAnyH_take (i := 12) (oi := ⟨some 22, .binOp .sub 3 (.tmp 21) (.const (.int .i64 1)) 3, 3, _, #[⟨11, .data⟩, ⟨9, .guard⟩], some (9, true)⟩) (v := ?_) rfl (by kernel_rfl) (by kernel_rfl) (by kernel_rfl) (fun _ _ _ h => h) (Or.inl ⟨by rfl, ?yyC12⟩) hHeld ?rrC12
          case yyC12 => (intro w hSw; (try dsimp only at hSw); go_simp; first | done | with_reducible rfl)
          try simp only [Act.put, putA, putB, putC]
          refine wpAnyH_take (i := 13) (oi := ⟨some 23, .indexAddr 54 (.tmp 20) (.tmp 22), 0, _, #[⟨10, .data⟩, ⟨12, .data⟩, ⟨9, .guard⟩], some (9, true)⟩) (v := ?_) rfl (by kernel_rfl) (by kernel_rfl) (by kernel_rfl) (fun _ _ _ h => h) (Or.inl ⟨by rfl, ?yyC13⟩) hHeld ?rrC13
          case yyC13 => (intro w hSw; (try dsimp only at hSw); go_simp; first | done | with_reducible rfl)
          try simp only [Act.put, putA, putB, putC]
          refine wpAnyH_take (i := 14) (oi := ⟨some 24, .load 9 (.tmp 23), 9, _, #[⟨13, .data⟩, ⟨9, .guard⟩], some (9, true)⟩) (v := ?_) rfl (by kernel_rfl) (by kernel_rfl) (by kernel_rfl) (fun _ _ _ h => h) (Or.inl ⟨by rfl, ?yyC14⟩) hHeld ?rrC14
          case yyC14 => (intro w hSw; (try dsimp only at hSw); go_simp; first | done | with_reducible rfl)
          try simp only [Act.put, putA, putB, putC]
          refine wpAnyH_take (i := 15) (oi := ⟨some 25, .move (.tmp 0), 54, _, #[⟨9, .guard⟩], some (9, true)⟩) (v := ?_) rfl (by kernel_rfl) (by kernel_rfl) (by kernel_rfl) (fun _ _ _ h => h) (Or.inl ⟨by rfl, ?yyC15⟩) hHeld ?rrC15
          case yyC15 => (intro w hSw; (try dsimp only at hSw); go_simp; first | done | with_reducible rfl)
          try simp only [Act.put, putA, putB, putC]
          refine wpAnyH_take (i := 16) (oi := ⟨some 26, .move (.tmp 3), 3, _, #[⟨9, .guard⟩], some (9, true)⟩) (v := ?_) rfl (by kernel_rfl) (by kernel_rfl) (by kernel_rfl) (fun _ _ _ h => h) (Or.inl ⟨by rfl, ?yyC16⟩) hHeld ?rrC16
          case yyC16 => (intro w hSw; (try dsimp only at hSw); go_simp; first | done | with_reducible rfl)
          try simp only [Act.put, putA, putB, putC]
          refine wpAnyH_take (i := 17) (oi := ⟨some 27, .indexAddr 54 (.tmp 25) (.tmp 26), 0, _, #[⟨15, .data⟩, ⟨16, .data⟩, ⟨9, .guard⟩], some (9, true)⟩) (v := ?_) rfl (by kernel_rfl) (by kernel_rfl) (by kernel_rfl) (fun _ _ _ h => h) (Or.inl ⟨by rfl, ?yyC17⟩) hHeld ?rrC17
          case yyC17 => (intro w hSw; (try dsimp only at hSw); go_simp; first | done | with_reducible rfl)
          try simp only [Act.put, putA, putB, putC]
          refine wpAnyH_take (i := 18) (oi := ⟨some 28, .load 9 (.tmp 27), 9, _, #[⟨17, .data⟩, ⟨9, .guard⟩], some (9, true)⟩) (v := ?_) rfl (by kernel_rfl) (by kernel_rfl) (by kernel_rfl) (fun _ _ _ h => h) (Or.inl ⟨by rfl, ?yyC18⟩) hHeld ?rrC18
          case yyC18 => (intro w hSw; (try dsimp only at hSw); go_simp; first | done | with_reducible rfl)
          try simp only [Act.put, putA, putB, putC]
          refine wpAnyH_take (i := 19) (oi := ⟨some 29, .binOp .geq 9 (.tmp 24) (.tmp 28) 9, 4, _, #[⟨14, .data⟩, ⟨18, .data⟩, ⟨9, .guard⟩], some (9, true)⟩) (v := ?_) rfl (by kernel_rfl) (by kernel_rfl) (by kernel_rfl) (fun _ _ _ h => h) (Or.inl ⟨by rfl, ?yyC19⟩) hHeld ?rrC19
          case yyC19 => (intro w hSw; (try dsimp only at hSw); go_simp; first | done | with_reducible rfl)
          try simp only [Act.put, putA, putB, putC]
          refine wpAnyH_take (i := 20) (oi := ⟨some 30, .pick (.tmp 19) (.tmp 29) (.const (.bool false)), 4, _, #[⟨9, .data⟩, ⟨19, .data⟩, ⟨6, .guard⟩], some (6, false)⟩) (v := ?_) rfl (by kernel_rfl) (by kernel_rfl) (by kernel_rfl) (fun _ _ _ h => h) (Or.inl ⟨by rfl, ?yyC20⟩) hHeld ?rrC20
          case yyC20 => (intro w hSw; (try dsimp only at hSw); go_simp; first | done | with_reducible rfl)
          try simp only [Act.put, putA, putB, putC]
          refine wpAnyH_take (i := 21) (oi := ⟨some 31, .pick (.tmp 16) (.const (.bool true)) (.tmp 30), 4, _, #[⟨6, .data⟩, ⟨20, .data⟩], none⟩) (v := ?_) rfl (by kernel_rfl) (by kernel_rfl) (by kernel_rfl) (fun _ _ _ h => h) (Or.inl ⟨by rfl, ?yyC21⟩) hHeld ?rrC21
          case yyC21 => (intro w hSw; (try dsimp only at hSw); go_simp; first | done | with_reducible rfl)
          try simp only [Act.put, putA, putB, putC]
          refine wpAnyH_done (by kernel_rfl) ?_ _
          cases hcmp : Op.bytesLess x1.toList x0.toList
          · have hfin : Hid (labelsB (.list 1 len f) = false) := by show _ = _; rw [HB.out, all_no hlt (by rw [hLk2.out]; exact hcmp)]; rfl
            go_wp2
            go_ret
            exact ⟨ret_bool hfin.out.symm, hE.trans hcur⟩
          · have hok : Hid (labelB f (m + 1) = true) := by show _ = _; rw [hLk2.out]; exact hcmp
            go_wp2
            go_roundw
            case rel => exact ⟨m + 1 + 1, by omega, by go_num, hE.trans hcur, upto_succ hno hok.out⟩
            case measure => simp [intOf]; omega
    · have hkx : k = len := by omega
      subst hkx
      go_wp2
      go_ret
      refine ⟨ret_bool ?_, hE⟩
      show _ = labelsB (.list 1 k f)
      rw [HB.out, all_yes hno, Bool.true_and, Bool.eq_iff_iff]
      simp
      omega
end Go.Proofs.YtejahpkpmbnmkaaGreat
