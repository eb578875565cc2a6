/- At every code the law FnNodesWith answers true: nodes with a label are those that have it. -/
import Derived.Test.YtdbblajcciakoaaTk
import Derived.Test.YtdbblajcciakoaaCodeRow
import Derived.Test.YtdbblajcciakoaaDwG
import Derived.Test.YtdbblajcciakoaaWiX
import Derived.Test.YtdbblajcciakoaaAsInts
namespace Go.Proofs.Ytdbblajcciakoaa.fnNodesWith
open Go.RowKit Go.Deep

theorem with_pre (f : Nat → Nat → D) (s : ByteArray) {k m : Nat} (h : k ≤ m) : ∃ t, withIds f s m = withIds f s k ++ t := by
  induction m with
  | zero => exact ⟨[], by rw [show k = 0 by omega]; simp⟩
  | succ m ih =>
    by_cases e : k = m + 1
    · exact ⟨[], by rw [e]; simp⟩
    · obtain ⟨t, ht⟩ := ih (by omega)
      exact ⟨_, by rw [with_succ, ht, List.append_assoc]⟩
theorem with_next {f : Nat → Nat → D} {s : ByteArray} {k len : Nat} (hk : k < len) (hb : withB f s k = true) : (withIds f s k).length < (withIds f s len).length ∧ (withIds f s len).getD (withIds f s k).length 0 = (f k 0).int! ∧ (withIds f s (k + 1)).length = (withIds f s k).length + 1 := by
  obtain ⟨t, ht⟩ := with_pre f s (show k + 1 ≤ len from hk)
  rw [with_succ, if_pos hb] at ht
  refine ⟨?_, ?_, ?_⟩
  · rw [ht]; simp
  · rw [ht]; simp [List.getD_eq_getElem?_getD]
  · rw [with_succ, if_pos hb]; simp
theorem with_skip {f : Nat → Nat → D} {s : ByteArray} {k : Nat} (hb : withB f s k = false) : (withIds f s (k + 1)).length = (withIds f s k).length := by
  rw [with_succ, if_neg (by rw [hb]; decide)]; simp

set_option maxRecDepth 100000 in
set_option maxHeartbeats 8000000 in
theorem walk (a0 : Option Addr) (len0 cap0 : Nat) (w : World) (h0 : CodeIn w a0 len0 cap0) :
    Calls Try.prog 3 #[.slice a0 len0 cap0] w fun e w' => e = .returned (.bool true) ∧ Ext w w' := by
  have hl0 := h0.len
  have g0 : decide ((len0 : Int) > 1048576) = false := decide_eq_false (by omega)
  go_enter Try.func3, Try.ntmps3
  go_wp2_with fail
  refine (drawNodesWith_any a0 len0 cap0 w h0).mono ?_
  rintro e w1 ⟨d0, d1, u0, u1, x2, x3, s, rfl, ⟨H0, hD0⟩, ⟨H1, hD1⟩, hss, hE1⟩
  obtain ⟨ua, ucap, ul, _, hq_, rfl, _, _⟩ := list_shape H0 hD0
  clear hq_
  obtain ⟨va, vcap, vl, _, hq_, rfl, _, _⟩ := list_shape H1 hD1
  clear hq_
  have hb := FBox.new w1 (.slice ua ul ucap) (.slice va vl vcap) (.int .i64 x2) (.int .i64 x3) 26
  have hE2 : Ext w1 (w1.alloc (.cells #[.slice ua ul ucap, .slice va vl vcap, .int .i64 x2, .int .i64 x3] 26)) := (Ext.refl _).alloc _
  have hEw := hE1.trans hE2
  replace hD0 := hD0.ext hE2
  replace hD1 := hD1.ext hE2
  obtain ⟨⟨y0, y1, y2, y3⟩, _⟩ := hb.four
  go_wp2_with fail
  clear y0 y1 y2 y3
  obtain ⟨gb, hgb⟩ : ∃ gb, gb = w1.heap.size := ⟨_, rfl⟩
  rw [← hgb] at hb ⊢
  clear hgb hE1 hE2 h0 g0 hl0
  generalize w1.alloc (.cells #[.slice ua ul ucap, .slice va vl vcap, .int .i64 x2, .int .i64 x3] 26) = w2 at *
  refine (implNodesWith_any anyB d0 d1 _ _ x2 x3 s w2 H0 hD0 H1 hD1).mono ?_
  rintro e w3 ⟨la, ll, lc, rfl, hL, _, hE3⟩
  obtain ⟨la', lc', hsl, hLm⟩ := hL.list_eq
  cases hsl
  have hEw3 := hEw.trans hE3
  replace hD0 := hD0.ext hE3
  replace hD1 := hD1.ext hE3
  replace hb := hb.ext hE3
  clear hE3 hEw
  obtain ⟨⟨y0, y1, y2, y3⟩, _⟩ := hb.four
  go_wp2_with fail
  clear y0 y1 y2 y3
  refine (specNodesWith_any anyB d0 d1 _ _ x2 x3 s w3 H0 hD0 H1 hD1).mono ?_
  rintro e w4 ⟨ma, ml, mc, rfl, hM, hE4⟩
  have hM' : DIn _ w4 (intsD (withAns d0 d1 x2 x3 s)) (.slice ma ml mc) := hM
  have hEw4 := hEw3.trans hE4
  replace hD0 := hD0.ext hE4
  replace hD1 := hD1.ext hE4
  replace hb := hb.ext hE4
  replace hL := hL.ext hE4
  clear hE4 hEw3 hM
  go_wp2_with fail
  refine (asInts_any (withAns d0 d1 x2 x3 s) _ _ _ _ w4 hL hM').mono ?_
  rintro e w5 ⟨rfl, hE5⟩
  have hEw5 := hEw4.trans hE5
  replace hD0 := hD0.ext hE5
  replace hD1 := hD1.ext hE5
  replace hb := hb.ext hE5
  replace hL := hL.ext hE5
  clear hE5 hEw4 hM'
  obtain ⟨⟨y0, y1, y2, y3⟩, _⟩ := hb.four
  go_wp2_with fail
  clear y0 y1 y2 y3
  refine (specGraphOk_any anyB d0 d1 _ _ x2 x3 w5 H0 hD0 H1 hD1).mono ?_
  rintro e w6 ⟨rfl, hE6⟩
  have hEw6 := hEw5.trans hE6
  replace hD0 := hD0.ext hE6
  replace hD1 := hD1.ext hE6
  replace hb := hb.ext hE6
  replace hL := hL.ext hE6
  clear hE6 hEw5
  cases hg : graphB d0 d1 x2 x3
  · obtain ⟨⟨y0, y1, y2, y3⟩, _⟩ := hb.four
    go_wp2_with fail
    clear y0 y1 y2 y3
    refine (specNodesWith_any anyB d0 d1 _ _ x2 x3 s w6 H0 hD0 H1 hD1).mono ?_
    rintro e w7 ⟨ma, ml, mc, rfl, hM, hE7⟩
    have hM' : DIn _ w7 (intsD (withAns d0 d1 x2 x3 s)) (.slice ma ml mc) := hM
    replace hL := hL.ext hE7
    clear hM
    go_wp2_with fail
    refine (asInts_any (withAns d0 d1 x2 x3 s) _ _ _ _ w7 hL hM').mono ?_
    rintro e w8 ⟨rfl, hE8⟩
    go_wp2
    go_ret
    exact ⟨rfl, (hEw6.trans hE7).trans hE8⟩
  · have hans : withAns d0 d1 x2 x3 s = withIds d0.at! s d0.len! := by unfold withAns; rw [hg, if_pos rfl]
    obtain ⟨LL, hLL0⟩ : ∃ LL, LL = withAns d0 d1 x2 x3 s := ⟨_, rfl⟩
    rw [← hLL0] at hL hLm ⊢
    rw [hans] at hLL0
    obtain ⟨len, f, rfl, HR⟩ := H0.list
    change DIn anyB w6 (.list 3 len f) _ at hD0
    have hLL : withIds f s len = LL := hLL0.symm
    clear hg hans hD1 H1 hLL0
    obtain ⟨na, ncap, hna, hnm⟩ := hD0.list_eq
    have hul : ul = len := by cases hna; rfl
    clear hna
    subst hul
    obtain ⟨len, hlen⟩ : ∃ len, len = ul := ⟨_, rfl⟩
    subst hlen
    have hLLH : Hid (withIds f s len = LL) := hLL
    clear hLL
    unfold maxLen at hnm hLm
    have hb0 : Hid (∀ W, Ext w6 W → W.cell? ⟨gb, 0, none⟩ = some (.slice ua len ucap)) := fun W hW => ((hb.ext hW).four).1.1
    have hw6 := (show Hid _ from hEw6)
    go_wp2_with fail
    go_loopw [6, 7] (fun u i wr => ∃ k : Nat, k ≤ len ∧ u = .int .i64 (withIds f s k).length ∧ i = .int .i64 k ∧ Ext w6 wr) (fun _ i _ => len - (intOf i).toNat)
    case atStart => exact ⟨0, Nat.zero_le _, rfl, rfl, Ext.refl _⟩
    case round =>
      obtain ⟨k, hk, rfl, rfl, hE⟩ := hrel
      have p0 := hb0.out wr hE
      by_cases hlt : k < len
      · obtain ⟨cap2, b, off, C, hsl, _, hbl, ec, hx⟩ := (hD0.ext hE).at hlt
        cases hsl
        obtain ⟨id, hd⟩ := (show Has (f k 0) .int from HR k hlt 0 (by decide)).int
        have HLk : Has (f k 1) (.list 0) := HR k hlt 1 (by decide)
        have h1 := hx 1 (by decide)
        have h0 := hx 0 (by decide)
        have e0 := ec 0 (by decide)
        have e1 := ec 1 (by decide)
        rw [hd] at h0
        rw [h0.int_eq.1] at e0
        simp only [Nat.add_zero] at e0
        have hcall := asHas_any (f k 1) HLk anyB (C 1) s wr h1
        obtain ⟨aL, capL, lL, _, hq_, hCL, _, _⟩ := list_shape HLk h1
        clear hq_
        rw [hCL] at e1 hcall
        have hidv : (f k 0).int! = id := by rw [hd]; rfl
        have hwb : withB f s k = ((s.toList == []) || hasLab (f k 1) s) := rfl
        clear ec hx h0 h1 hCL hd
        cases hwk : withB f s k
        · have hskip := with_skip hwk
          rw [hwb] at hwk
          have hs0 : (s.toList == []) = false := by cases h : (s.toList == []); rfl; rw [h] at hwk; cases hwk
          have hh : hasLab (f k 1) s = false := by rw [hs0] at hwk; simpa using hwk
          rw [hh] at hcall
          have hskipH : Hid _ := hskip
          clear hwb hskip
          go_wp2_with (go_at_call 9; refine hcall.mono ?_; rintro e wx ⟨rfl, hEx⟩)
          go_roundw
          case rel => exact ⟨k + 1, by omega, by rw [hskipH.out], by go_num, hE.trans hEx⟩
          case measure => simp [intOf]; omega
        · obtain ⟨hn1, hn2, hn3⟩ := with_next hlt hwk
          rw [hLLH.out] at hn1 hn2
          rw [hidv] at hn2
          have hn3H : Hid _ := hn3
          generalize hln : (withIds f s k).length = ln at *
          obtain ⟨cap4, b4, off4, C4, hsl4, _, hbl4, ec4, hx4⟩ := (hL.ext hE).at hn1
          cases hsl4
          have q0 := ec4 0 (by decide)
          have qd : DIn _ wr (.int (LL.getD ln 0)) (C4 0) := hx4 0 (by decide)
          rw [qd.int_eq.1, hn2] at q0
          simp only [Nat.add_zero, Nat.mul_one] at q0
          have HK : Hid (∀ W, Ext wr W → W.cell? ⟨gb, 0, none⟩ = some (.slice (some ⟨b, off, none⟩) len ucap) ∧ W.cell? ⟨b, off + k * 3, none⟩ = some (.int .i64 id) ∧ W.cell? ⟨b4, off4 + ln, none⟩ = some (.int .i64 id)) := fun W hW => ⟨hb0.out W (hE.trans hW), by rw [hW.cell hbl]; exact e0, by rw [hW.cell hbl4]; exact q0⟩
          have hge : ¬ (LL.length : Int) ≤ (ln : Int) := by omega
          have hge2 : ¬ LL.length ≤ ln := by omega
          have hn1' : ln < LL.length := hn1
          clear ec4 hx4 qd hn2 hn3
          rw [hwb] at hwk
          cases hs0 : (s.toList == [])
          · have hh : hasLab (f k 1) s = true := by rw [hs0] at hwk; simpa using hwk
            rw [hh] at hcall
            clear hwb hwk hh
            go_wp2_with fail
            refine hcall.mono ?_
            rintro e wx ⟨rfl, hEx⟩
            clear hcall
            go_wp2_with fail
            have hcur : Ext wr wx.drew := hEx.drew
            refine wp_region_held_drew (S := (fun W => W.cell? ⟨gb, 0, none⟩ = some (.slice (some ⟨b, off, none⟩) len ucap) ∧ W.cell? ⟨b, off + k * 3, none⟩ = some (.int .i64 id) ∧ W.cell? ⟨b4, off4 + ln, none⟩ = some (.int .i64 id))) (by kernel_rfl) (HK.out _ hcur) (fun hHeld => ?_)
            refine tkL 0 ⟨some 54, .move (.tmp 6), 3, _, #[], none⟩ ?_ hHeld ?yyA0 ?rrA0
            case yyA0 => (intro w hSw; (try dsimp only at hSw); go_simp; try with_reducible rfl)
            try simp only [Act.put, putA, putB, putC]
            refine tkL 1 ⟨some 55, .move (.tmp 5), 29, _, #[], none⟩ ?_ hHeld ?yyA1 ?rrA1
            case yyA1 => (intro w hSw; (try dsimp only at hSw); go_simp; try with_reducible rfl)
            try simp only [Act.put, putA, putB, putC]
            refine tkL 2 ⟨some 56, .call { callee := .builtin .len, args := #[.tmp 55], argTypes := #[29] }, 3, _, #[⟨1, .data⟩], none⟩ ?_ hHeld ?yyA2 ?rrA2
            case yyA2 => (intro w hSw; (try dsimp only at hSw); go_simp; try with_reducible rfl)
            try simp only [Act.put, putA, putB, putC]
            refine tkL 3 ⟨some 57, .binOp .geq 3 (.tmp 54) (.tmp 56) 3, 4, _, #[⟨0, .data⟩, ⟨2, .data⟩], none⟩ ?_ hHeld ?yyA3 ?rrA3
            case yyA3 => (intro w hSw; (try dsimp only at hSw); go_simp; try with_reducible rfl)
            try simp only [Act.put, putA, putB, putC]
            refine tkL 4 ⟨some 58, .move (.tmp 57), 4, _, #[⟨3, .data⟩], none⟩ ?_ hHeld ?yyA4 ?rrA4
            case yyA4 => (intro w hSw; (try dsimp only at hSw); go_simp; try with_reducible rfl)
            try simp only [Act.put, putA, putB, putC]
            refine tkL 5 ⟨some 59, .move (.tmp 5), 29, _, #[⟨4, .guard⟩], some (4, false)⟩ ?_ hHeld ?yyA5 ?rrA5
            case yyA5 => (intro w hSw; (try dsimp only at hSw); go_simp; try with_reducible rfl)
            try simp only [Act.put, putA, putB, putC]
            refine tkL 6 ⟨some 60, .move (.tmp 6), 3, _, #[⟨4, .guard⟩], some (4, false)⟩ ?_ hHeld ?yyA6 ?rrA6
            case yyA6 => (intro w hSw; (try dsimp only at hSw); go_simp; try with_reducible rfl)
            try simp only [Act.put, putA, putB, putC]
            refine tkL 7 ⟨some 61, .indexAddr 29 (.tmp 59) (.tmp 60), 0, _, #[⟨5, .data⟩, ⟨6, .data⟩, ⟨4, .guard⟩], some (4, false)⟩ ?_ hHeld ?yyA7 ?rrA7
            case yyA7 => (intro w hSw; (try dsimp only at hSw); go_simp; try with_reducible rfl)
            try simp only [Act.put, putA, putB, putC]
            refine tkL 8 ⟨some 62, .load 3 (.tmp 61), 3, _, #[⟨7, .data⟩, ⟨4, .guard⟩], some (4, false)⟩ ?_ hHeld ?yyA8 ?rrA8
            case yyA8 => (intro w hSw; (try dsimp only at hSw); go_simp; try with_reducible rfl)
            try simp only [Act.put, putA, putB, putC]
            refine tkL 9 ⟨some 63, .fieldAddr 26 (.tmp 3) 0, 0, _, #[⟨4, .guard⟩], some (4, false)⟩ ?_ hHeld ?yyA9 ?rrA9
            case yyA9 => (intro w hSw; (try dsimp only at hSw); go_simp; try with_reducible rfl)
            try simp only [Act.put, putA, putB, putC]
            refine tkL 10 ⟨some 64, .load 23 (.tmp 63), 23, _, #[⟨9, .data⟩, ⟨4, .guard⟩], some (4, false)⟩ ?_ hHeld ?yyA10 ?rrA10
            case yyA10 => (intro w hSw; (try dsimp only at hSw); go_simp; try with_reducible rfl)
            try simp only [Act.put, putA, putB, putC]
            refine tkL 11 ⟨some 65, .move (.tmp 7), 3, _, #[⟨4, .guard⟩], some (4, false)⟩ ?_ hHeld ?yyA11 ?rrA11
            case yyA11 => (intro w hSw; (try dsimp only at hSw); go_simp; try with_reducible rfl)
            try simp only [Act.put, putA, putB, putC]
            refine tkL 12 ⟨some 66, .indexAddr 23 (.tmp 64) (.tmp 65), 0, _, #[⟨10, .data⟩, ⟨11, .data⟩, ⟨4, .guard⟩], some (4, false)⟩ ?_ hHeld ?yyA12 ?rrA12
            case yyA12 => (intro w hSw; (try dsimp only at hSw); go_simp; try with_reducible rfl)
            try simp only [Act.put, putA, putB, putC]
            refine tkL 13 ⟨some 67, .fieldAddr 37 (.tmp 66) 0, 0, _, #[⟨12, .data⟩, ⟨4, .guard⟩], some (4, false)⟩ ?_ hHeld ?yyA13 ?rrA13
            case yyA13 => (intro w hSw; (try dsimp only at hSw); go_simp; try with_reducible rfl)
            try simp only [Act.put, putA, putB, putC]
            refine tkL 14 ⟨some 68, .load 3 (.tmp 67), 3, _, #[⟨13, .data⟩, ⟨4, .guard⟩], some (4, false)⟩ ?_ hHeld ?yyA14 ?rrA14
            case yyA14 => (intro w hSw; (try dsimp only at hSw); go_simp; try with_reducible rfl)
            try simp only [Act.put, putA, putB, putC]
            refine tkL 15 ⟨some 69, .binOp .neq 3 (.tmp 62) (.tmp 68) 3, 4, _, #[⟨8, .data⟩, ⟨14, .data⟩, ⟨4, .guard⟩], some (4, false)⟩ ?_ hHeld ?yyA15 ?rrA15
            case yyA15 => (intro w hSw; (try dsimp only at hSw); go_simp; try with_reducible rfl)
            try simp only [Act.put, putA, putB, putC]
            refine tkL 16 ⟨some 70, .pick (.tmp 58) (.const (.bool true)) (.tmp 69), 4, _, #[⟨4, .data⟩, ⟨15, .data⟩], none⟩ ?_ hHeld ?yyA16 ?rrA16
            case yyA16 => (intro w hSw; (try dsimp only at hSw); go_simp; try with_reducible rfl)
            try simp only [Act.put, putA, putB, putC]
            refine wpAnyH_done (by kernel_rfl) ?_ _
            go_wp2
            go_roundw
            case rel => exact ⟨k + 1, by omega, by rw [hn3H.out]; go_num, by go_num, hE.trans hcur⟩
            case measure => simp [intOf]; omega
          · clear hcall hwb hwk
            go_wp2_with fail
            have hcur : Ext wr wr.drew := (Ext.refl _).drew
            refine wp_region_held_drew (S := (fun W => W.cell? ⟨gb, 0, none⟩ = some (.slice (some ⟨b, off, none⟩) len ucap) ∧ W.cell? ⟨b, off + k * 3, none⟩ = some (.int .i64 id) ∧ W.cell? ⟨b4, off4 + ln, none⟩ = some (.int .i64 id))) (by kernel_rfl) (HK.out _ hcur) (fun hHeld => ?_)
            refine tkL 0 ⟨some 54, .move (.tmp 6), 3, _, #[], none⟩ ?_ hHeld ?yyB0 ?rrB0
            case yyB0 => (intro w hSw; (try dsimp only at hSw); go_simp; try with_reducible rfl)
            try simp only [Act.put, putA, putB, putC]
            refine tkL 1 ⟨some 55, .move (.tmp 5), 29, _, #[], none⟩ ?_ hHeld ?yyB1 ?rrB1
            case yyB1 => (intro w hSw; (try dsimp only at hSw); go_simp; try with_reducible rfl)
            try simp only [Act.put, putA, putB, putC]
            refine tkL 2 ⟨some 56, .call { callee := .builtin .len, args := #[.tmp 55], argTypes := #[29] }, 3, _, #[⟨1, .data⟩], none⟩ ?_ hHeld ?yyB2 ?rrB2
            case yyB2 => (intro w hSw; (try dsimp only at hSw); go_simp; try with_reducible rfl)
            try simp only [Act.put, putA, putB, putC]
            refine tkL 3 ⟨some 57, .binOp .geq 3 (.tmp 54) (.tmp 56) 3, 4, _, #[⟨0, .data⟩, ⟨2, .data⟩], none⟩ ?_ hHeld ?yyB3 ?rrB3
            case yyB3 => (intro w hSw; (try dsimp only at hSw); go_simp; try with_reducible rfl)
            try simp only [Act.put, putA, putB, putC]
            refine tkL 4 ⟨some 58, .move (.tmp 57), 4, _, #[⟨3, .data⟩], none⟩ ?_ hHeld ?yyB4 ?rrB4
            case yyB4 => (intro w hSw; (try dsimp only at hSw); go_simp; try with_reducible rfl)
            try simp only [Act.put, putA, putB, putC]
            refine tkL 5 ⟨some 59, .move (.tmp 5), 29, _, #[⟨4, .guard⟩], some (4, false)⟩ ?_ hHeld ?yyB5 ?rrB5
            case yyB5 => (intro w hSw; (try dsimp only at hSw); go_simp; try with_reducible rfl)
            try simp only [Act.put, putA, putB, putC]
            refine tkL 6 ⟨some 60, .move (.tmp 6), 3, _, #[⟨4, .guard⟩], some (4, false)⟩ ?_ hHeld ?yyB6 ?rrB6
            case yyB6 => (intro w hSw; (try dsimp only at hSw); go_simp; try with_reducible rfl)
            try simp only [Act.put, putA, putB, putC]
            refine tkL 7 ⟨some 61, .indexAddr 29 (.tmp 59) (.tmp 60), 0, _, #[⟨5, .data⟩, ⟨6, .data⟩, ⟨4, .guard⟩], some (4, false)⟩ ?_ hHeld ?yyB7 ?rrB7
            case yyB7 => (intro w hSw; (try dsimp only at hSw); go_simp; try with_reducible rfl)
            try simp only [Act.put, putA, putB, putC]
            refine tkL 8 ⟨some 62, .load 3 (.tmp 61), 3, _, #[⟨7, .data⟩, ⟨4, .guard⟩], some (4, false)⟩ ?_ hHeld ?yyB8 ?rrB8
            case yyB8 => (intro w hSw; (try dsimp only at hSw); go_simp; try with_reducible rfl)
            try simp only [Act.put, putA, putB, putC]
            refine tkL 9 ⟨some 63, .fieldAddr 26 (.tmp 3) 0, 0, _, #[⟨4, .guard⟩], some (4, false)⟩ ?_ hHeld ?yyB9 ?rrB9
            case yyB9 => (intro w hSw; (try dsimp only at hSw); go_simp; try with_reducible rfl)
            try simp only [Act.put, putA, putB, putC]
            refine tkL 10 ⟨some 64, .load 23 (.tmp 63), 23, _, #[⟨9, .data⟩, ⟨4, .guard⟩], some (4, false)⟩ ?_ hHeld ?yyB10 ?rrB10
            case yyB10 => (intro w hSw; (try dsimp only at hSw); go_simp; try with_reducible rfl)
            try simp only [Act.put, putA, putB, putC]
            refine tkL 11 ⟨some 65, .move (.tmp 7), 3, _, #[⟨4, .guard⟩], some (4, false)⟩ ?_ hHeld ?yyB11 ?rrB11
            case yyB11 => (intro w hSw; (try dsimp only at hSw); go_simp; try with_reducible rfl)
            try simp only [Act.put, putA, putB, putC]
            refine tkL 12 ⟨some 66, .indexAddr 23 (.tmp 64) (.tmp 65), 0, _, #[⟨10, .data⟩, ⟨11, .data⟩, ⟨4, .guard⟩], some (4, false)⟩ ?_ hHeld ?yyB12 ?rrB12
            case yyB12 => (intro w hSw; (try dsimp only at hSw); go_simp; try with_reducible rfl)
            try simp only [Act.put, putA, putB, putC]
            refine tkL 13 ⟨some 67, .fieldAddr 37 (.tmp 66) 0, 0, _, #[⟨12, .data⟩, ⟨4, .guard⟩], some (4, false)⟩ ?_ hHeld ?yyB13 ?rrB13
            case yyB13 => (intro w hSw; (try dsimp only at hSw); go_simp; try with_reducible rfl)
            try simp only [Act.put, putA, putB, putC]
            refine tkL 14 ⟨some 68, .load 3 (.tmp 67), 3, _, #[⟨13, .data⟩, ⟨4, .guard⟩], some (4, false)⟩ ?_ hHeld ?yyB14 ?rrB14
            case yyB14 => (intro w hSw; (try dsimp only at hSw); go_simp; try with_reducible rfl)
            try simp only [Act.put, putA, putB, putC]
            refine tkL 15 ⟨some 69, .binOp .neq 3 (.tmp 62) (.tmp 68) 3, 4, _, #[⟨8, .data⟩, ⟨14, .data⟩, ⟨4, .guard⟩], some (4, false)⟩ ?_ hHeld ?yyB15 ?rrB15
            case yyB15 => (intro w hSw; (try dsimp only at hSw); go_simp; try with_reducible rfl)
            try simp only [Act.put, putA, putB, putC]
            refine tkL 16 ⟨some 70, .pick (.tmp 58) (.const (.bool true)) (.tmp 69), 4, _, #[⟨4, .data⟩, ⟨15, .data⟩], none⟩ ?_ hHeld ?yyB16 ?rrB16
            case yyB16 => (intro w hSw; (try dsimp only at hSw); go_simp; try with_reducible rfl)
            try simp only [Act.put, putA, putB, putC]
            refine wpAnyH_done (by kernel_rfl) ?_ _
            go_wp2
            go_roundw
            case rel => exact ⟨k + 1, by omega, by rw [hn3H.out]; go_num, by go_num, hE.trans hcur⟩
            case measure => simp [intOf]; omega
      · have hke : k = len := by omega
        subst hke
        rw [hLLH.out]
        go_wp2
        go_ret
        exact ⟨by simp, (show Ext w w6 from hw6.out).trans hE⟩
end Go.Proofs.Ytdbblajcciakoaa.fnNodesWith
