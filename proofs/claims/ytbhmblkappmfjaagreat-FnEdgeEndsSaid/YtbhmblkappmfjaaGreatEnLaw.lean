/- At every code the law FnEdgeEnds answers true: each edge is out of one node, and into one. -/
import Derived.Test.YtbhmblkappmfjaaGreatTk
import Derived.Test.YtbhmblkappmfjaaGreatCodeRow
import Derived.Test.YtbhmblkappmfjaaGreatDwG
import Derived.Test.YtbhmblkappmfjaaGreatEnX
import Derived.Test.YtbhmblkappmfjaaGreatEoX
import Derived.Test.YtbhmblkappmfjaaGreatNetOk
namespace Go.Proofs.YtbhmblkappmfjaaGreat.fnEdgeEnds
open Go.RowKit Go.Deep

set_option maxRecDepth 100000 in
set_option maxHeartbeats 8000000 in
theorem walk (a0 : Option Addr) (len0 cap0 : Nat) (w : World) (h0 : CodeIn w a0 len0 cap0) :
    Calls Tryz.prog 3 #[.slice a0 len0 cap0] w fun e w' => e = .returned (.bool true) ∧ Ext w w' := by
  have hl0 := h0.len
  have g0 : decide ((len0 : Int) > 1048576) = false := decide_eq_false (by omega)
  go_enter Tryz.func3, Tryz.ntmps3
  go_wp2_with fail
  refine (drawGraphOk_any a0 len0 cap0 w h0).mono ?_
  rintro e w1 ⟨d0, d1, u0, u1, x2, x3, rfl, ⟨H0, hD0⟩, ⟨H1, hD1⟩, hE1⟩
  obtain ⟨ua, ucap, ul, _, hq_, rfl, _, _⟩ := list_shape H0 hD0
  clear hq_
  obtain ⟨va, vcap, vl, _, hq_, rfl, _, _⟩ := list_shape H1 hD1
  clear hq_
  have hb := FBox.new w1 (.slice ua ul ucap) (.slice va vl vcap) (.int .i64 x2) (.int .i64 x3) 26
  have hE2 : Ext w1 (w1.alloc (.cells #[.slice ua ul ucap, .slice va vl vcap, .int .i64 x2, .int .i64 x3] 26)) := (Ext.refl _).alloc _
  have hEw := hE1.trans hE2
  replace hD0 := hD0.ext hE2
  replace hD1 := hD1.ext hE2
  obtain ⟨⟨y0, y1, y2, y3⟩, _⟩ := hb.four
  go_wp2_with fail
  clear y0 y1 y2 y3
  obtain ⟨gb, hgb⟩ : ∃ gb, gb = w1.heap.size := ⟨_, rfl⟩
  rw [← hgb] at hb ⊢
  clear hgb hE1 hE2 h0 g0 hl0
  generalize w1.alloc (.cells #[.slice ua ul ucap, .slice va vl vcap, .int .i64 x2, .int .i64 x3] 26) = w2 at *
  -- what the functions answer
  have him := fun (W : World) (hW : Ext w2 W) (id way : Int) (zid : (Lit.int .i64 id).wf = true) => implEdgesOf_any anyB d0 d1 _ _ x2 x3 id way ⟨#[]⟩ zid W H0 (hD0.ext hW) H1 (hD1.ext hW)
  have hoki := fun (W : World) (hW : Ext w2 W) => implGraphOk_any anyB d0 d1 _ _ x2 x3 W H0 (hD0.ext hW) H1 (hD1.ext hW)
  have hok := fun (W : World) (hW : Ext w2 W) => specGraphOk_any anyB d0 d1 _ _ x2 x3 W H0 (hD0.ext hW) H1 (hD1.ext hW)
  have hsum : graphB d0 d1 x2 x3 = true → _ := fun h => ends_sum h
  have hlen : graphB d0 d1 x2 x3 = true → ∀ k, k < d0.len! → _ := fun h k hk => ends_len h hk
  have hlim : graphB d0 d1 x2 x3 = true → d0.len! ≤ 12 ∧ d1.len! ≤ 16 := fun h => ⟨(graph_len h).1, (graph_len h).2.1⟩
  have hbx := fun (W : World) (hW : Ext w2 W) => (hb.ext hW).four.1
  clear hb
  generalize graphB d0 d1 x2 x3 = gr at *
  refine (hoki w2 (Ext.refl _)).mono ?_
  rintro e w3 ⟨rfl, hE3⟩
  clear hoki
  obtain ⟨y0, y1, y2, y3⟩ := hbx w3 hE3
  go_wp2_with fail
  clear y0 y1 y2 y3
  refine (hok w3 hE3).mono ?_
  rintro e w4 ⟨rfl, hE4⟩
  have hE24 := hE3.trans hE4
  clear hE3 hE4
  cases gr
  · obtain ⟨y0, y1, y2, y3⟩ := hbx w4 hE24
    clear him
    go_wp2_with fail
    clear y0 y1 y2 y3
    refine (hok w4 hE24).mono ?_
    rintro e w5 ⟨rfl, hE5⟩
    go_wp2
    go_ret
    exact ⟨rfl, (hEw.trans hE24).trans hE5⟩
  · obtain ⟨hs2, hs3⟩ := hsum rfl
    obtain ⟨hl12, hl16⟩ := hlim rfl
    have hln := hlen rfl
    clear hsum hlim hlen hok
    obtain ⟨n0, F, hn0, hF, HR, hDN⟩ : ∃ n F, n = d0.len! ∧ F = d0.at! ∧ (∀ i, i < n → HasRow 4 (F i)) ∧ DIn anyB w2 (.list 3 n F) (.slice ua ul ucap) := by
      obtain ⟨len, f, rfl, HR⟩ := H0.list
      exact ⟨len, f, rfl, rfl, HR, hD0⟩
    obtain ⟨n1, hn1, hvl⟩ : ∃ n, n = d1.len! ∧ vl = n := by
      obtain ⟨len, f, rfl, _⟩ := H1.list
      obtain ⟨_, _, hs, _⟩ := (show DIn anyB w2 (.list 5 len f) _ from hD1).list_eq
      cases hs
      exact ⟨_, rfl, rfl⟩
    have hul : ul = n0 := by obtain ⟨_, _, hs, _⟩ := hDN.list_eq; cases hs; rfl
    rw [← hn0] at hs2 hs3 hl12 hln
    rw [← hF] at hln
    rw [← hn1] at hs2 hs3 hl16 hln
    clear hn0 hF hn1 hD0 hD1 H0 H1
    subst hul hvl
    obtain ⟨n0, hnn0⟩ : ∃ n, n = ul := ⟨_, rfl⟩
    obtain ⟨n1, hnn1⟩ : ∃ n, n = vl := ⟨_, rfl⟩
    subst hnn0 hnn1
    generalize outP d0 d1 2 = P2 at *
    generalize outP d0 d1 3 = P3 at *
    have hb2 : ∀ k, k ≤ 12 → sumE P2 (List.range n1) k ≤ 192 := fun k hk => Nat.le_trans (sumE_le k) (by rw [List.length_range]; exact Nat.le_trans (Nat.mul_le_mul hk hl16) (by decide))
    have hb3 : ∀ k, k ≤ 12 → sumE P3 (List.range n1) k ≤ 192 := fun k hk => Nat.le_trans (sumE_le k) (by rw [List.length_range]; exact Nat.le_trans (Nat.mul_le_mul hk hl16) (by decide))
    have HS2 : Hid _ := hs2
    have HS3 : Hid _ := hs3
    have HB2 : Hid _ := hb2
    have HB3 : Hid _ := hb3
    clear hs2 hs3 hb2 hb3
    go_wp2_with fail
    go_loopw [5, 6, 7] (fun a b i wr => ∃ k : Nat, k ≤ n0 ∧ a = .int .i64 (sumE P2 (List.range n1) k : Nat) ∧ b = .int .i64 (sumE P3 (List.range n1) k : Nat) ∧ i = .int .i64 k ∧ Ext w4 wr) (fun _ _ i _ => n0 - (intOf i).toNat)
    case atStart => exact ⟨0, Nat.zero_le _, rfl, rfl, rfl, Ext.refl _⟩
    case round =>
      obtain ⟨k, hk, rfl, rfl, rfl, hE⟩ := hrel
      have hEr := hE24.trans hE
      by_cases hlt : k < n0
      · obtain ⟨cap2, b, off, C, hsl, _, hbl, ec, hx⟩ := (hDN.ext hEr).at hlt
        cases hsl
        obtain ⟨id, hd⟩ := (show Has (F k 0) .int from HR k hlt 0 (by decide)).int
        have q0 := hx 0 (by decide)
        have e0 := ec 0 (by decide)
        rw [hd] at q0
        rw [q0.int_eq.1] at e0
        simp only [Nat.add_zero] at e0
        have zid := q0.int_eq.2
        have hidv : (F k 0).int! = id := by rw [hd]; rfl
        obtain ⟨h1, h2⟩ := hln k hlt
        rw [hidv] at h1 h2
        have c1 := fun (W : World) (hW : Ext wr W) => him W (hEr.trans hW) id 1 zid
        have c2 := fun (W : World) (hW : Ext wr W) => him W (hEr.trans hW) id (-1) zid
        have hbw := fun (W : World) (hW : Ext wr W) => hbx W (hEr.trans hW)
        have HK : Hid (∀ W, Ext wr W → W.cell? ⟨gb, 0, none⟩ = some (.slice (some ⟨b, off, none⟩) n0 ucap) ∧ W.cell? ⟨gb, 1, none⟩ = some (.slice va n1 vcap) ∧ W.cell? ⟨gb, 2, none⟩ = some (.int .i64 x2) ∧ W.cell? ⟨gb, 3, none⟩ = some (.int .i64 x3) ∧ W.cell? ⟨b, off + k * 3, none⟩ = some (.int .i64 id)) := fun W hW => ⟨(hbw W hW).1, (hbw W hW).2.1, (hbw W hW).2.2.1, (hbw W hW).2.2.2, by rw [hW.cell hbl]; exact e0⟩
        clear ec hx q0 hd hidv e0 zid hbw
        generalize eoAns (true && hasId d0 id) d1 id 1 ⟨#[]⟩ = A at *
        generalize eoAns (true && hasId d0 id) d1 id (-1) ⟨#[]⟩ = B at *
        have hA2 : Hid (sumE P2 (List.range n1) (k + 1) = sumE P2 (List.range n1) k + A.length) := by show _ = _; rw [h1]; rfl
        have hA3 : Hid (sumE P3 (List.range n1) (k + 1) = sumE P3 (List.range n1) k + B.length) := by show _ = _; rw [h2]; rfl
        have t2 := HB2.out k (by omega)
        have t3 := HB3.out k (by omega)
        have t4 := HB2.out (k + 1) (by omega)
        have t5 := HB3.out (k + 1) (by omega)
        rw [hA2.out] at t4
        rw [hA3.out] at t5
        obtain ⟨U, hU⟩ : ∃ U, U = sumE P2 (List.range n1) k := ⟨_, rfl⟩
        obtain ⟨V, hV⟩ : ∃ V, V = sumE P3 (List.range n1) k := ⟨_, rfl⟩
        rw [← hU] at hA2 t2 t4 ⊢
        rw [← hV] at hA3 t3 t5 ⊢
        clear hU hV h1 h2
        have hw1 : IntKind.i64.wrap ((U : Int) + (A.length : Int)) = (U : Int) + (A.length : Int) := wrap_i64 (by omega) (by omega)
        have hw2 : IntKind.i64.wrap ((V : Int) + (B.length : Int)) = (V : Int) + (B.length : Int) := wrap_i64 (by omega) (by omega)
        go_wp2_with fail
        have hcur : Ext wr wr.drew := (Ext.refl _).drew
        refine wp_region_held_drew (S := (fun W => W.cell? ⟨gb, 0, none⟩ = some (.slice (some ⟨b, off, none⟩) n0 ucap) ∧ W.cell? ⟨gb, 1, none⟩ = some (.slice va n1 vcap) ∧ W.cell? ⟨gb, 2, none⟩ = some (.int .i64 x2) ∧ W.cell? ⟨gb, 3, none⟩ = some (.int .i64 x3) ∧ W.cell? ⟨b, off + k * 3, none⟩ = some (.int .i64 id))) (by kernel_rfl) (HK.out _ hcur) (fun hHeld => ?_)
        refine tkL 0 ⟨some 34, .move (.tmp 5), 3, _, #[], none⟩ ?_ hHeld ?yyA0 ?rrA0
        case yyA0 => (intro w hSw; (try dsimp only at hSw); go_simp; try with_reducible rfl)
        try simp only [Act.put, putA, putB, putC]
        refine tkL 1 ⟨some 35, .load 26 (.tmp 3), 26, _, #[], none⟩ ?_ hHeld ?yyA1 ?rrA1
        case yyA1 => (intro w hSw; (try dsimp only at hSw); go_simp; try with_reducible rfl)
        try simp only [Act.put, putA, putB, putC]
        refine tkL 2 ⟨some 36, .fieldAddr 26 (.tmp 3) 0, 0, _, #[], none⟩ ?_ hHeld ?yyA2 ?rrA2
        case yyA2 => (intro w hSw; (try dsimp only at hSw); go_simp; try with_reducible rfl)
        try simp only [Act.put, putA, putB, putC]
        refine tkL 3 ⟨some 37, .load 23 (.tmp 36), 23, _, #[⟨2, .data⟩], none⟩ ?_ hHeld ?yyA3 ?rrA3
        case yyA3 => (intro w hSw; (try dsimp only at hSw); go_simp; try with_reducible rfl)
        try simp only [Act.put, putA, putB, putC]
        refine tkL 4 ⟨some 38, .move (.tmp 7), 3, _, #[], none⟩ ?_ hHeld ?yyA4 ?rrA4
        case yyA4 => (intro w hSw; (try dsimp only at hSw); go_simp; try with_reducible rfl)
        try simp only [Act.put, putA, putB, putC]
        refine tkL 5 ⟨some 39, .indexAddr 23 (.tmp 37) (.tmp 38), 0, _, #[⟨3, .data⟩, ⟨4, .data⟩], none⟩ ?_ hHeld ?yyA5 ?rrA5
        case yyA5 => (intro w hSw; (try dsimp only at hSw); go_simp; try with_reducible rfl)
        try simp only [Act.put, putA, putB, putC]
        refine tkL 6 ⟨some 40, .fieldAddr 34 (.tmp 39) 0, 0, _, #[⟨5, .data⟩], none⟩ ?_ hHeld ?yyA6 ?rrA6
        case yyA6 => (intro w hSw; (try dsimp only at hSw); go_simp; try with_reducible rfl)
        try simp only [Act.put, putA, putB, putC]
        refine tkL 7 ⟨some 41, .load 3 (.tmp 40), 3, _, #[⟨6, .data⟩], none⟩ ?_ hHeld ?yyA7 ?rrA7
        case yyA7 => (intro w hSw; (try dsimp only at hSw); go_simp; try with_reducible rfl)
        try simp only [Act.put, putA, putB, putC]
        refine wpAnyH_ready (rs := [8]) (by kernel_rfl) (by simp) ?_
        refine AllReadyH.cons (o := ⟨some 42, .call { callee := .value (.func 7), args := #[.tmp 35, .tmp 41, .const (.int .i64 1), .const (.string { data := #[] })], argTypes := #[26, 3, 3, 9] }, 29, _, #[⟨1, .data⟩, ⟨7, .data⟩], none⟩) rfl (fun K hK => ?_) AllReadyH.nil
        go_simp
        refine (c1 _ hcur).mono ?_
        rintro e wA ⟨pa, pl, pc, rfl, hP, _, hx7⟩
        obtain ⟨pa', pc', hsl, _⟩ := hP.list_eq
        cases hsl
        replace hcur := hcur.trans hx7
        clear hP hx7
        go_wp2_with fail
        refine hK.out _ _ (HK.out _ hcur) (fun hHeld => ?_)
        clear hK K
        try simp only [Act.put, putA, putB, putC]
        refine tkL 9 ⟨some 43, .call { callee := .builtin .len, args := #[.tmp 42], argTypes := #[29] }, 3, _, #[⟨8, .data⟩], none⟩ ?_ hHeld ?yyA9 ?rrA9
        case yyA9 => (intro w hSw; (try dsimp only at hSw); go_simp; try with_reducible rfl)
        try simp only [Act.put, putA, putB, putC]
        refine tkL 10 ⟨some 44, .binOp .add 3 (.tmp 34) (.tmp 43) 3, 3, _, #[⟨0, .data⟩, ⟨9, .data⟩], none⟩ ?_ hHeld ?yyA10 ?rrA10
        case yyA10 => (intro w hSw; (try dsimp only at hSw); go_simp; try with_reducible rfl)
        try simp only [Act.put, putA, putB, putC]
        refine tkL 11 ⟨some 5, .assign (.tmp 44), 3, _, #[⟨10, .data⟩, ⟨8, .chain⟩, ⟨0, .phase⟩, ⟨1, .phase⟩, ⟨2, .phase⟩, ⟨3, .phase⟩, ⟨4, .phase⟩, ⟨5, .phase⟩, ⟨6, .phase⟩, ⟨7, .phase⟩, ⟨8, .phase⟩, ⟨9, .phase⟩, ⟨10, .phase⟩], none⟩ ?_ hHeld ?yyA11 ?rrA11
        case yyA11 => (intro w hSw; (try dsimp only at hSw); go_simp; try with_reducible rfl)
        try simp only [Act.put, putA, putB, putC]
        refine wpAnyH_done (by kernel_rfl) ?_ _
        clear hHeld
        go_wp2_with fail
        have hcurA := hcur
        clear hcur c1
        have hcur : Ext wr wA.drew := hcurA.drew
        refine wp_region_held_drew (S := (fun W => W.cell? ⟨gb, 0, none⟩ = some (.slice (some ⟨b, off, none⟩) n0 ucap) ∧ W.cell? ⟨gb, 1, none⟩ = some (.slice va n1 vcap) ∧ W.cell? ⟨gb, 2, none⟩ = some (.int .i64 x2) ∧ W.cell? ⟨gb, 3, none⟩ = some (.int .i64 x3) ∧ W.cell? ⟨b, off + k * 3, none⟩ = some (.int .i64 id))) (by kernel_rfl) (HK.out _ hcur) (fun hHeld => ?_)
        refine tkL 0 ⟨some 45, .move (.tmp 6), 3, _, #[], none⟩ ?_ hHeld ?yyB0 ?rrB0
        case yyB0 => (intro w hSw; (try dsimp only at hSw); go_simp; try with_reducible rfl)
        try simp only [Act.put, putA, putB, putC]
        refine tkL 1 ⟨some 46, .load 26 (.tmp 3), 26, _, #[], none⟩ ?_ hHeld ?yyB1 ?rrB1
        case yyB1 => (intro w hSw; (try dsimp only at hSw); go_simp; try with_reducible rfl)
        try simp only [Act.put, putA, putB, putC]
        refine tkL 2 ⟨some 47, .fieldAddr 26 (.tmp 3) 0, 0, _, #[], none⟩ ?_ hHeld ?yyB2 ?rrB2
        case yyB2 => (intro w hSw; (try dsimp only at hSw); go_simp; try with_reducible rfl)
        try simp only [Act.put, putA, putB, putC]
        refine tkL 3 ⟨some 48, .load 23 (.tmp 47), 23, _, #[⟨2, .data⟩], none⟩ ?_ hHeld ?yyB3 ?rrB3
        case yyB3 => (intro w hSw; (try dsimp only at hSw); go_simp; try with_reducible rfl)
        try simp only [Act.put, putA, putB, putC]
        refine tkL 4 ⟨some 49, .move (.tmp 7), 3, _, #[], none⟩ ?_ hHeld ?yyB4 ?rrB4
        case yyB4 => (intro w hSw; (try dsimp only at hSw); go_simp; try with_reducible rfl)
        try simp only [Act.put, putA, putB, putC]
        refine tkL 5 ⟨some 50, .indexAddr 23 (.tmp 48) (.tmp 49), 0, _, #[⟨3, .data⟩, ⟨4, .data⟩], none⟩ ?_ hHeld ?yyB5 ?rrB5
        case yyB5 => (intro w hSw; (try dsimp only at hSw); go_simp; try with_reducible rfl)
        try simp only [Act.put, putA, putB, putC]
        refine tkL 6 ⟨some 51, .fieldAddr 34 (.tmp 50) 0, 0, _, #[⟨5, .data⟩], none⟩ ?_ hHeld ?yyB6 ?rrB6
        case yyB6 => (intro w hSw; (try dsimp only at hSw); go_simp; try with_reducible rfl)
        try simp only [Act.put, putA, putB, putC]
        refine tkL 7 ⟨some 52, .load 3 (.tmp 51), 3, _, #[⟨6, .data⟩], none⟩ ?_ hHeld ?yyB7 ?rrB7
        case yyB7 => (intro w hSw; (try dsimp only at hSw); go_simp; try with_reducible rfl)
        try simp only [Act.put, putA, putB, putC]
        refine wpAnyH_ready (rs := [8]) (by kernel_rfl) (by simp) ?_
        refine AllReadyH.cons (o := ⟨some 53, .call { callee := .value (.func 7), args := #[.tmp 46, .tmp 52, .const (.int .i64 (-1)), .const (.string { data := #[] })], argTypes := #[26, 3, 3, 9] }, 29, _, #[⟨1, .data⟩, ⟨7, .data⟩], none⟩) rfl (fun K hK => ?_) AllReadyH.nil
        go_simp
        refine (c2 _ hcur).mono ?_
        rintro e wB ⟨pa, pl, pc, rfl, hP, _, hx7⟩
        obtain ⟨pa', pc', hsl, _⟩ := hP.list_eq
        cases hsl
        replace hcur := hcur.trans hx7
        clear hP hx7
        go_wp2_with fail
        refine hK.out _ _ (HK.out _ hcur) (fun hHeld => ?_)
        clear hK K
        try simp only [Act.put, putA, putB, putC]
        refine tkL 9 ⟨some 54, .call { callee := .builtin .len, args := #[.tmp 53], argTypes := #[29] }, 3, _, #[⟨8, .data⟩], none⟩ ?_ hHeld ?yyB9 ?rrB9
        case yyB9 => (intro w hSw; (try dsimp only at hSw); go_simp; try with_reducible rfl)
        try simp only [Act.put, putA, putB, putC]
        refine tkL 10 ⟨some 55, .binOp .add 3 (.tmp 45) (.tmp 54) 3, 3, _, #[⟨0, .data⟩, ⟨9, .data⟩], none⟩ ?_ hHeld ?yyB10 ?rrB10
        case yyB10 => (intro w hSw; (try dsimp only at hSw); go_simp; try with_reducible rfl)
        try simp only [Act.put, putA, putB, putC]
        refine tkL 11 ⟨some 6, .assign (.tmp 55), 3, _, #[⟨10, .data⟩, ⟨8, .chain⟩, ⟨0, .phase⟩, ⟨1, .phase⟩, ⟨2, .phase⟩, ⟨3, .phase⟩, ⟨4, .phase⟩, ⟨5, .phase⟩, ⟨6, .phase⟩, ⟨7, .phase⟩, ⟨8, .phase⟩, ⟨9, .phase⟩, ⟨10, .phase⟩], none⟩ ?_ hHeld ?yyB11 ?rrB11
        case yyB11 => (intro w hSw; (try dsimp only at hSw); go_simp; try with_reducible rfl)
        try simp only [Act.put, putA, putB, putC]
        refine wpAnyH_done (by kernel_rfl) ?_ _
        clear hHeld
        go_wp2
        go_roundw
        case rel => exact ⟨k + 1, by omega, by rw [hA2.out]; rfl, by rw [hA3.out]; rfl, by go_num, hE.trans hcur⟩
        case measure => simp [intOf]; omega
      · have hke : k = n0 := by omega
        subst hke
        rw [HS2.out, HS3.out]
        obtain ⟨y0, y1, y2, y3⟩ := hbx wr hEr
        clear him
        go_wp2
        go_ret
        exact ⟨by simp, hEw.trans hEr⟩
end Go.Proofs.YtbhmblkappmfjaaGreat.fnEdgeEnds
