/- At every code the law FnEdgesOf answers true: edges of a node are those out of it, and those into it. -/
import Derived.Test.YtdmkpekmmpeneaaGreatTk
import Derived.Test.YtdmkpekmmpeneaaGreatCodeRow
import Derived.Test.YtdmkpekmmpeneaaGreatDwG
import Derived.Test.YtdmkpekmmpeneaaGreatNgThy
import Derived.Test.YtdmkpekmmpeneaaGreatEoX
import Derived.Test.YtdmkpekmmpeneaaGreatAsInts
namespace Go.Proofs.YtdmkpekmmpeneaaGreat.fnEdgesOf
open Go.RowKit Go.Deep

set_option maxRecDepth 100000 in
set_option maxHeartbeats 8000000 in
theorem walk (a0 : Option Addr) (len0 cap0 : Nat) (w : World) (h0 : CodeIn w a0 len0 cap0) :
    Calls Tryz.prog 3 #[.slice a0 len0 cap0] w fun e w' => e = .returned (.bool true) ∧ Ext w w' := by
  have hl0 := h0.len
  have g0 : decide ((len0 : Int) > 1048576) = false := decide_eq_false (by omega)
  go_enter Tryz.func3, Tryz.ntmps3
  go_wp2_with fail
  refine (drawEdgesOf_any a0 len0 cap0 w h0).mono ?_
  rintro e w1 ⟨d0, d1, u0, u1, x2, x3, m, k, s, rfl, ⟨H0, hD0⟩, ⟨H1, hD1⟩, ⟨hm, hk, hss⟩, hE1⟩
  obtain ⟨ua, ucap, ul, _, hq_, rfl, _, _⟩ := list_shape H0 hD0
  clear hq_
  obtain ⟨va, vcap, vl, _, hq_, rfl, _, _⟩ := list_shape H1 hD1
  clear hq_
  have hb := FBox.new w1 (.slice ua ul ucap) (.slice va vl vcap) (.int .i64 x2) (.int .i64 x3) 26
  have hE2 : Ext w1 (w1.alloc (.cells #[.slice ua ul ucap, .slice va vl vcap, .int .i64 x2, .int .i64 x3] 26)) := (Ext.refl _).alloc _
  have hEw := hE1.trans hE2
  replace hD0 := hD0.ext hE2
  replace hD1 := hD1.ext hE2
  obtain ⟨⟨y0, y1, y2, y3⟩, _⟩ := hb.four
  go_wp2_with fail
  clear y0 y1 y2 y3
  obtain ⟨gb, hgb⟩ : ∃ gb, gb = w1.heap.size := ⟨_, rfl⟩
  rw [← hgb] at hb ⊢
  clear hgb hE1 hE2 h0 g0 hl0
  generalize w1.alloc (.cells #[.slice ua ul ucap, .slice va vl vcap, .int .i64 x2, .int .i64 x3] 26) = w2 at *
  -- what the functions answer
  have zid : (Lit.int .i64 (m : Int)).wf = true := wf_of ⟨by omega, by omega⟩
  have him := fun (W : World) (hW : Ext w2 W) (way : Int) (s : ByteArray) => implEdgesOf_any anyB d0 d1 _ _ x2 x3 m way s zid W H0 (hD0.ext hW) H1 (hD1.ext hW)
  have hsp := fun (W : World) (hW : Ext w2 W) (way : Int) (s : ByteArray) => specEdgesOf_any anyB d0 d1 _ _ x2 x3 m way s W H0 (hD0.ext hW) H1 (hD1.ext hW)
  have hok := fun (W : World) (hW : Ext w2 W) => specGraphOk_any anyB d0 d1 _ _ x2 x3 W H0 (hD0.ext hW) H1 (hD1.ext hW)
  have hinc : graphB d0 d1 x2 x3 = true → _ := fun h => graph_inc h
  have hln : graphB d0 d1 x2 x3 = true → d1.len! ≤ 16 := fun h => (graph_len h).2.1
  have hbx := fun (W : World) (hW : Ext w2 W) => (hb.ext hW).four.1
  obtain ⟨nb, hnb⟩ : ∃ nb, nb = (graphB d0 d1 x2 x3 && hasId d0 m) := ⟨_, rfl⟩
  simp only [← hnb] at him hsp
  clear hnb hD0 hD1 hb zid H0 H1
  generalize graphB d0 d1 x2 x3 = gr at *
  obtain ⟨L, hL0⟩ : ∃ L, L = eoAns nb d1 m ((k : Int) - 1) s := ⟨_, rfl⟩
  have him0 := fun (W : World) (hW : Ext w2 W) => him W hW ((k : Int) - 1) s
  have hsp0 := fun (W : World) (hW : Ext w2 W) => hsp W hW ((k : Int) - 1) s
  rw [← hL0] at him0 hsp0
  clear hL0 hsp
  refine (him0 w2 (Ext.refl _)).mono ?_
  rintro e w3 ⟨la, ll, lc, rfl, hL, _, hE3⟩
  obtain ⟨la', lc', hsl, hLm⟩ := hL.list_eq
  cases hsl
  clear him0
  obtain ⟨y0, y1, y2, y3⟩ := hbx w3 hE3
  go_wp2_with fail
  clear y0 y1 y2 y3
  refine (hsp0 w3 hE3).mono ?_
  rintro e w4 ⟨ma, ml, mc, rfl, hM, hE4⟩
  have hE24 := hE3.trans hE4
  go_wp2_with fail
  refine (asInts_any L _ _ _ _ w4 (hL.ext hE4) hM).mono ?_
  rintro e w5 ⟨rfl, hE5⟩
  have hE25 := hE24.trans hE5
  have hL5 := (hL.ext hE4).ext hE5
  clear hL hM hE3 hE4 hE5 hE24
  obtain ⟨y0, y1, y2, y3⟩ := hbx w5 hE25
  go_wp2_with fail
  clear y0 y1 y2 y3
  refine (hok w5 hE25).mono ?_
  rintro e w6 ⟨rfl, hE6⟩
  have hE26 := hE25.trans hE6
  have hL6 := hL5.ext hE6
  clear hL5 hE25 hE6 hok
  cases gr
  · obtain ⟨y0, y1, y2, y3⟩ := hbx w6 hE26
    clear him
    go_wp2_with fail
    clear y0 y1 y2 y3
    refine (hsp0 w6 hE26).mono ?_
    rintro e w7 ⟨ma, ml, mc, rfl, hM, hE7⟩
    go_wp2_with fail
    refine (asInts_any L _ _ _ _ w7 (hL6.ext hE7) hM).mono ?_
    rintro e w8 ⟨rfl, hE8⟩
    go_wp2
    go_ret
    exact ⟨rfl, ((hEw.trans hE26).trans hE7).trans hE8⟩
  · clear hsp0 hL6 hLm
    have hsum := eo_sum (hinc rfl) nb m s
    have hle := eo_le (d := d1) nb m s
    have hl16 := hln rfl
    have ha1 := Nat.le_trans (eoAns_len (d := d1) nb m 1 s) hl16
    have ha2 := Nat.le_trans (eoAns_len (d := d1) nb m (-1) s) hl16
    have ha0 := Nat.le_trans (eoAns_len (d := d1) nb m 0 s) hl16
    have ha3 := Nat.le_trans (eoAns_len (d := d1) nb m 0 ⟨#[]⟩) hl16
    have c1 := fun (W : World) (hW : Ext w2 W) => him W hW 1 s
    have c2 := fun (W : World) (hW : Ext w2 W) => him W hW (-1) s
    have c0 := fun (W : World) (hW : Ext w2 W) => him W hW 0 s
    have c3 := fun (W : World) (hW : Ext w2 W) => him W hW 0 ⟨#[]⟩
    clear him hinc hln
    generalize eoAns nb d1 m 1 s = A1 at *
    generalize eoAns nb d1 m (-1) s = A2 at *
    generalize eoAns nb d1 m 0 s = A0 at *
    generalize eoAns nb d1 m 0 ⟨#[]⟩ = A3 at *
    obtain ⟨y0, y1, y2, y3⟩ := hbx w6 hE26
    go_wp2_with fail
    clear y0 y1 y2 y3
    refine (c1 w6 hE26).mono ?_
    rintro e w7 ⟨p1, q1, r1, rfl, hP, _, hE7⟩
    obtain ⟨p1', r1', hsl, _⟩ := hP.list_eq
    cases hsl
    have hE27 := hE26.trans hE7
    clear c1
    obtain ⟨y0, y1, y2, y3⟩ := hbx w7 hE27
    go_wp2_with fail
    clear y0 y1 y2 y3
    refine (c2 w7 hE27).mono ?_
    rintro e w8 ⟨p2, q2, r2, rfl, hQ, _, hE8⟩
    obtain ⟨p2', r2', hsl, _⟩ := hQ.list_eq
    cases hsl
    have hE28 := hE27.trans hE8
    replace hP := hP.ext hE8
    clear c2
    obtain ⟨y0, y1, y2, y3⟩ := hbx w8 hE28
    go_wp2_with fail
    clear y0 y1 y2 y3
    refine (c0 w8 hE28).mono ?_
    rintro e w9 ⟨p0, q0, r0, rfl, hZ, _, hE9⟩
    obtain ⟨p0', r0', hsl, _⟩ := hZ.list_eq
    cases hsl
    have hE29 := hE28.trans hE9
    replace hP := hP.ext hE9
    replace hQ := hQ.ext hE9
    clear c0 hZ hE7 hE8 hE9 hE27 hE28 hE26
    have hbnd : ∀ a, bothN (A1.take a) A2 ≤ 256 := fun a => Nat.le_trans both_le (Nat.le_trans (Nat.mul_le_mul (Nat.le_trans (by simp [List.length_take]; omega) ha1) ha2) (by decide))
    have hcnt : ∀ b x, (A2.take b).count x ≤ 16 := fun b x => Nat.le_trans List.count_le_length (by simp [List.length_take]; omega)
    have hall : bothN (A1.take A1.length) A2 = bothN A1 A2 := by rw [List.take_length]
    have hallc : ∀ x, (A2.take A2.length).count x = A2.count x := fun x => by rw [List.take_length]
    have HB : Hid _ := hbnd
    have HC : Hid _ := hcnt
    have HS : Hid _ := hsum
    have HL : Hid _ := hle
    clear hbnd hcnt hsum hle
    go_wp2_with fail
    go_loopw [11, 12, 13] (fun c i _ wr => ∃ a : Nat, a ≤ A1.length ∧ c = .int .i64 (bothN (A1.take a) A2 : Nat) ∧ i = .int .i64 a ∧ Ext w9 wr) (fun _ i _ _ => A1.length - (intOf i).toNat)
    case atStart => exact ⟨0, Nat.zero_le _, rfl, rfl, Ext.refl _⟩
    case round =>
      obtain ⟨a, ha, rfl, rfl, hE⟩ := hrel
      by_cases hlt : a < A1.length
      · have hx := both_take (m := A2) hlt
        obtain ⟨x, hxd⟩ : ∃ x, x = A1.getD a 0 := ⟨_, rfl⟩
        rw [← hxd] at hx
        obtain ⟨cap4, b4, off4, C4, hsl4, _, hbl4, ec4, hx4⟩ := (hP.ext hE).at hlt
        cases hsl4
        have q0 := ec4 0 (by decide)
        have qd : DIn _ wr (.int (A1.getD a 0)) (C4 0) := hx4 0 (by decide)
        rw [qd.int_eq.1, ← hxd] at q0
        simp only [Nat.add_zero, Nat.mul_one] at q0
        obtain ⟨T, hT⟩ : ∃ T, T = bothN (A1.take a) A2 := ⟨_, rfl⟩
        have hTb : T ≤ 256 := by rw [hT]; exact HB.out a
        rw [← hT] at hx ⊢
        have hxH : Hid (bothN (A1.take (a + 1)) A2 = T + A2.count x) := hx
        have hacx := hallc x
        have hacH : Hid _ := hacx
        clear hx hxd hT qd ec4 hx4 hacx hall
        go_wp2_with fail
        go_loopw [11, 13] (fun c z wr2 => ∃ b : Nat, b ≤ A2.length ∧ c = .int .i64 ((T + (A2.take b).count x : Nat) : Int) ∧ z = .int .i64 b ∧ Ext wr wr2) (fun _ z _ => A2.length - (intOf z).toNat)
        case atStart => exact ⟨0, Nat.zero_le _, by simp, rfl, Ext.refl _⟩
        case round =>
          obtain ⟨b, hb', rfl, rfl, hE'⟩ := hrel
          by_cases hlt2 : b < A2.length
          · have hy := count_take (a := x) hlt2
            obtain ⟨y, hyd⟩ : ∃ y, y = A2.getD b 0 := ⟨_, rfl⟩
            rw [← hyd] at hy
            obtain ⟨cap5, b5, off5, C5, hsl5, _, hbl5, ec5, hx5⟩ := ((hQ.ext hE).ext hE').at hlt2
            cases hsl5
            have r0 := ec5 0 (by decide)
            have rd : DIn _ _ (.int (A2.getD b 0)) (C5 0) := hx5 0 (by decide)
            rw [rd.int_eq.1, ← hyd] at r0
            simp only [Nat.add_zero, Nat.mul_one] at r0
            have HK : Hid (∀ W, Ext wr W → W.cell? ⟨b4, off4 + a, none⟩ = some (.int .i64 x) ∧ W.cell? ⟨b5, off5 + b, none⟩ = some (.int .i64 y)) := fun W hW => ⟨by rw [(hE'.trans hW).cell hbl4]; exact q0, by rw [hW.cell hbl5]; exact r0⟩
            obtain ⟨U, hU⟩ : ∃ U, U = (A2.take b).count x := ⟨_, rfl⟩
            have hUb : U ≤ 16 := by rw [hU]; exact HC.out b x
            rw [← hU] at hy ⊢
            have hyH : Hid ((A2.take (b + 1)).count x = U + (if x == y then 1 else 0)) := hy
            obtain ⟨V, hV⟩ : ∃ V, V = T + U := ⟨_, rfl⟩
            have hVb : V ≤ 272 := by omega
            have HV : Hid (V = T + U) := hV
            rw [← hV]
            clear hy hyd hU hV rd ec5 hx5
            have hcur : Ext wr wr.drew := (Ext.refl _).drew
            cases hxy : (x == y)
            · have hyy : Hid ((T + (A2.take (b + 1)).count x : Nat) = V) := by show _ = _; have h1 := hyH.out; have h2 := HV.out; rw [hxy] at h1; simp at h1; omega
              go_wp2_with fail
              refine wp_region_held_drew (S := (fun W => W.cell? ⟨b4, off4 + a, none⟩ = some (.int .i64 x) ∧ W.cell? ⟨b5, off5 + b, none⟩ = some (.int .i64 y))) (by kernel_rfl) (HK.out _ hcur) (fun hHeld => ?_)
              refine tkL 0 ⟨some 73, .move (.tmp 8), 29, _, #[], none⟩ ?_ hHeld ?yyA0 ?rrA0
              case yyA0 => (intro w hSw; (try dsimp only at hSw); go_simp; try with_reducible rfl)
              try simp only [Act.put, putA, putB, putC]
              refine tkL 1 ⟨some 74, .move (.tmp 12), 3, _, #[], none⟩ ?_ hHeld ?yyA1 ?rrA1
              case yyA1 => (intro w hSw; (try dsimp only at hSw); go_simp; try with_reducible rfl)
              try simp only [Act.put, putA, putB, putC]
              refine tkL 2 ⟨some 75, .indexAddr 29 (.tmp 73) (.tmp 74), 0, _, #[⟨0, .data⟩, ⟨1, .data⟩], none⟩ ?_ hHeld ?yyA2 ?rrA2
              case yyA2 => (intro w hSw; (try dsimp only at hSw); go_simp; try with_reducible rfl)
              try simp only [Act.put, putA, putB, putC]
              refine tkL 3 ⟨some 76, .load 3 (.tmp 75), 3, _, #[⟨2, .data⟩], none⟩ ?_ hHeld ?yyA3 ?rrA3
              case yyA3 => (intro w hSw; (try dsimp only at hSw); go_simp; try with_reducible rfl)
              try simp only [Act.put, putA, putB, putC]
              refine tkL 4 ⟨some 77, .move (.tmp 9), 29, _, #[], none⟩ ?_ hHeld ?yyA4 ?rrA4
              case yyA4 => (intro w hSw; (try dsimp only at hSw); go_simp; try with_reducible rfl)
              try simp only [Act.put, putA, putB, putC]
              refine tkL 5 ⟨some 78, .move (.tmp 13), 3, _, #[], none⟩ ?_ hHeld ?yyA5 ?rrA5
              case yyA5 => (intro w hSw; (try dsimp only at hSw); go_simp; try with_reducible rfl)
              try simp only [Act.put, putA, putB, putC]
              refine tkL 6 ⟨some 79, .indexAddr 29 (.tmp 77) (.tmp 78), 0, _, #[⟨4, .data⟩, ⟨5, .data⟩], none⟩ ?_ hHeld ?yyA6 ?rrA6
              case yyA6 => (intro w hSw; (try dsimp only at hSw); go_simp; try with_reducible rfl)
              try simp only [Act.put, putA, putB, putC]
              refine tkL 7 ⟨some 80, .load 3 (.tmp 79), 3, _, #[⟨6, .data⟩], none⟩ ?_ hHeld ?yyA7 ?rrA7
              case yyA7 => (intro w hSw; (try dsimp only at hSw); go_simp; try with_reducible rfl)
              try simp only [Act.put, putA, putB, putC]
              refine tkL 8 ⟨some 81, .binOp .eql 3 (.tmp 76) (.tmp 80) 3, 4, _, #[⟨3, .data⟩, ⟨7, .data⟩], none⟩ ?_ hHeld ?yyA8 ?rrA8
              case yyA8 => (intro w hSw; (try dsimp only at hSw); go_simp; try with_reducible rfl)
              try simp only [Act.put, putA, putB, putC]
              refine wpAnyH_done (by kernel_rfl) ?_ _
              go_wp2
              go_roundw
              case rel => exact ⟨b + 1, by omega, by rw [hyy.out], by go_num, hE'.trans hcur⟩
              case measure => simp [intOf]; omega
            · have hyy : Hid ((T + (A2.take (b + 1)).count x : Nat) = V + 1) := by show _ = _; have h1 := hyH.out; have h2 := HV.out; rw [hxy] at h1; simp at h1; omega
              go_wp2_with fail
              refine wp_region_held_drew (S := (fun W => W.cell? ⟨b4, off4 + a, none⟩ = some (.int .i64 x) ∧ W.cell? ⟨b5, off5 + b, none⟩ = some (.int .i64 y))) (by kernel_rfl) (HK.out _ hcur) (fun hHeld => ?_)
              refine tkL 0 ⟨some 73, .move (.tmp 8), 29, _, #[], none⟩ ?_ hHeld ?yyB0 ?rrB0
              case yyB0 => (intro w hSw; (try dsimp only at hSw); go_simp; try with_reducible rfl)
              try simp only [Act.put, putA, putB, putC]
              refine tkL 1 ⟨some 74, .move (.tmp 12), 3, _, #[], none⟩ ?_ hHeld ?yyB1 ?rrB1
              case yyB1 => (intro w hSw; (try dsimp only at hSw); go_simp; try with_reducible rfl)
              try simp only [Act.put, putA, putB, putC]
              refine tkL 2 ⟨some 75, .indexAddr 29 (.tmp 73) (.tmp 74), 0, _, #[⟨0, .data⟩, ⟨1, .data⟩], none⟩ ?_ hHeld ?yyB2 ?rrB2
              case yyB2 => (intro w hSw; (try dsimp only at hSw); go_simp; try with_reducible rfl)
              try simp only [Act.put, putA, putB, putC]
              refine tkL 3 ⟨some 76, .load 3 (.tmp 75), 3, _, #[⟨2, .data⟩], none⟩ ?_ hHeld ?yyB3 ?rrB3
              case yyB3 => (intro w hSw; (try dsimp only at hSw); go_simp; try with_reducible rfl)
              try simp only [Act.put, putA, putB, putC]
              refine tkL 4 ⟨some 77, .move (.tmp 9), 29, _, #[], none⟩ ?_ hHeld ?yyB4 ?rrB4
              case yyB4 => (intro w hSw; (try dsimp only at hSw); go_simp; try with_reducible rfl)
              try simp only [Act.put, putA, putB, putC]
              refine tkL 5 ⟨some 78, .move (.tmp 13), 3, _, #[], none⟩ ?_ hHeld ?yyB5 ?rrB5
              case yyB5 => (intro w hSw; (try dsimp only at hSw); go_simp; try with_reducible rfl)
              try simp only [Act.put, putA, putB, putC]
              refine tkL 6 ⟨some 79, .indexAddr 29 (.tmp 77) (.tmp 78), 0, _, #[⟨4, .data⟩, ⟨5, .data⟩], none⟩ ?_ hHeld ?yyB6 ?rrB6
              case yyB6 => (intro w hSw; (try dsimp only at hSw); go_simp; try with_reducible rfl)
              try simp only [Act.put, putA, putB, putC]
              refine tkL 7 ⟨some 80, .load 3 (.tmp 79), 3, _, #[⟨6, .data⟩], none⟩ ?_ hHeld ?yyB7 ?rrB7
              case yyB7 => (intro w hSw; (try dsimp only at hSw); go_simp; try with_reducible rfl)
              try simp only [Act.put, putA, putB, putC]
              refine tkL 8 ⟨some 81, .binOp .eql 3 (.tmp 76) (.tmp 80) 3, 4, _, #[⟨3, .data⟩, ⟨7, .data⟩], none⟩ ?_ hHeld ?yyB8 ?rrB8
              case yyB8 => (intro w hSw; (try dsimp only at hSw); go_simp; try with_reducible rfl)
              try simp only [Act.put, putA, putB, putC]
              refine wpAnyH_done (by kernel_rfl) ?_ _
              go_wp2
              go_roundw
              case rel => exact ⟨b + 1, by omega, by rw [hyy.out]; go_num, by go_num, hE'.trans hcur⟩
              case measure => simp [intOf]; omega
          · have hbe : b = A2.length := by omega
            subst hbe
            rw [hacH.out]
            obtain ⟨V, hV⟩ : ∃ V, V = T + A2.count x := ⟨_, rfl⟩
            have HV : Hid (V = T + A2.count x) := hV
            rw [← hV]
            have hVb : V ≤ 272 := by have h1 := HC.out A2.length x; rw [hacH.out] at h1; omega
            clear hV
            go_wp2
            go_roundw
            case rel => exact ⟨a + 1, by omega, by rw [hxH.out, ← HV.out], by go_num, hE.trans hE'⟩
            case measure => simp [intOf]; omega
      · have hae : a = A1.length := by omega
        subst hae
        rw [hall]
        have hTb : bothN A1 A2 ≤ 256 := by have := HB.out A1.length; rw [hall] at this; exact this
        have hs2 := HS.out
        have hl2 := HL.out
        clear hall hallc
        generalize bothN A1 A2 = T at *
        have hwr1 : IntKind.i64.wrap ((A0.length : Int) + (T : Int)) = (A0.length : Int) + (T : Int) := wrap_i64 (by omega) (by omega)
        have hwr2 : IntKind.i64.wrap ((A1.length : Int) + (A2.length : Int)) = (A1.length : Int) + (A2.length : Int) := wrap_i64 (by omega) (by omega)
        have hq : (((A0.length : Int) + (T : Int)) == ((A1.length : Int) + (A2.length : Int))) = true := by rw [beq_iff_eq]; omega
        have hsH : Hid (A0.length + T = A1.length + A2.length) := hs2
        clear hs2
        obtain ⟨y0, y1, y2, y3⟩ := hbx wr (hE29.trans hE)
        go_wp2_with fail
        clear y0 y1 y2 y3
        refine (c3 wr (hE29.trans hE)).mono ?_
        rintro e w10 ⟨p3, q3, r3, rfl, hW, _, hE10⟩
        obtain ⟨p3', r3', hsl, _⟩ := hW.list_eq
        cases hsl
        have hl3 : (A0.length : Int) ≤ (A3.length : Int) := by omega
        go_wp2
        go_ret
        exact ⟨rfl, ((hEw.trans hE29).trans hE).trans hE10⟩
end Go.Proofs.YtdmkpekmmpeneaaGreat.fnEdgesOf
