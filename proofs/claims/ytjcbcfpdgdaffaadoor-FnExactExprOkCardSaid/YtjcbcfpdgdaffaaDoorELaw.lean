/- At every expression the law FnExactExprOk answers true. -/
import Derived.Test.YtjcbcfpdgdaffaaDoorDSz
import Derived.Test.YtjcbcfpdgdaffaaDoorDToExpr
import Derived.Test.YtjcbcfpdgdaffaaDoorDEqExpr
import Derived.Test.YtjcbcfpdgdaffaaDoorESpec2
import Derived.Test.YtjcbcfpdgdaffaaDoorEWith
import Derived.Deep.RegionHeld3
namespace Go.Proofs.YtjcbcfpdgdaffaaDoor
open Go.RowKit Go.Deep

set_option maxRecDepth 100000 in
set_option maxHeartbeats 4000000 in
theorem exprLaw (x0 x1 x2 : Int) (x3 : ByteArray) (d4 : D) (c4 : Value) (x5 x6 : ByteArray) (d7 : D) (c7 : Value) (w : World) (hp : Pairs w) (z0 : (Lit.int .i64 x0).wf = true) (z1 : (Lit.int .i64 x1).wf = true) (z2 : (Lit.int .i64 x2).wf = true) (z3 : x3.size ≤ maxLen) (H4 : Has d4 (.list 2)) (h4 : DIn anyB w d4 c4) (z5 : x5.size ≤ maxLen) (z6 : x6.size ≤ maxLen) (H7 : Has d7 (.list 8)) (h7 : DIn anyB w d7 c7) :
    Calls Tryd.prog 3 #[.agg #[.int .i64 x0, .int .i64 x1, .int .i64 x2, .string x3, c4, .string x5, .string x6, c7]] w fun e w' => e = .returned (.bool true) ∧ Ext w w' := by
  obtain ⟨a4, cap4, l4, f4, hD4, hC4, _, _⟩ := list_shape H4 h4
  obtain ⟨a7, cap7, l7, f7, hD7, hC7, _, _⟩ := list_shape H7 h7
  subst hC4 hC7
  clear hD4 hD7
  have hE0 : Ext w (w.alloc (.cells #[.int .i64 x0, .int .i64 x1, .int .i64 x2, .string x3, .slice a4 l4 cap4, .string x5, .string x6, .slice a7 l7 cap7] 27)) := (Ext.refl _).alloc _
  go_enter Tryd.func3, Tryd.ntmps3
  go_wp2_with fail
  refine (szExpr_any anyB x0 x1 x2 x3 d4 _ x5 x6 d7 _ _ _ (szExprS_any d7 H7) z3 z5 z6 H4 (h4.ext hE0) H7 (h7.ext hE0) (by omega) (by omega)).mono ?_
  rintro e w1 ⟨r, rfl, hr1, hr2, hr, hE1⟩
  by_cases hr0 : r < 0
  · go_wp2
    go_ret
    exact ⟨rfl, hE0.trans hE1⟩
  · obtain ⟨_, _, _, s4, s7, _⟩ := hr (by omega)
    clear hr
    have hto := fun (W : World) (hW : Ext w W) => toExpr_any anyB x0 x1 x2 x3 d4 _ x5 x6 d7 _ W (toExprS_any d7 H7) H4 (h4.ext hW) s4 H7 (h7.ext hW) s7
    have p0 := box_cell hE1 0 _ rfl
    have p1 := box_cell hE1 1 _ rfl
    have p2 := box_cell hE1 2 _ rfl
    have p3 := box_cell hE1 3 _ rfl
    have p4 := box_cell hE1 4 _ rfl
    have p5 := box_cell hE1 5 _ rfl
    have p6 := box_cell hE1 6 _ rfl
    have p7 := box_cell hE1 7 _ rfl
    go_wp2_with fail
    refine (hto _ (hE0.trans hE1)).mono ?_
    rintro e w2 ⟨u4, u7, Q4, Q7, rfl, ⟨hu4, _, _⟩, ⟨hu7, _, _⟩, _, hE2⟩
    clear p0 p1 p2 p3 p4 p5 p6 p7
    obtain ⟨g4, gcap4, k4, _, hD4, hC4, _, _⟩ := list_shape H4 hu4
    obtain ⟨g7, gcap7, k7, _, hD7, hC7, _, _⟩ := list_shape H7 hu7
    subst hC4 hC7
    clear hD4 hD7
    have hsp := specExprOk_any anyB x0 x1 x2 x3 d4 _ x5 x6 d7 _ w2 z0 z1 z2 z3 H4 hu4.any z5 z6 H7 hu7.any
    have him := fun (W : World) (c4 c7 : Value) (hW : Ext w W) (k4 : DIn anyB W d4 c4) (k7 : DIn anyB W d7 c7) => implExprOk_any anyB x0 x1 x2 x3 d4 c4 x5 x6 d7 c7 W (hp.ext hW) z0 z1 z2 z3 H4 k4 z5 z6 H7 k7
    generalize eok 4 x0 (.mk x1 x2 x3 (vsOf d4)) x5 x6 d7 = R at hsp him
    go_wp2_with fail
    refine hsp.mono ?_
    rintro e w3 ⟨rfl, hE3⟩
    clear hsp hu4 hu7
    have hB3 := (hE1.trans hE2).trans hE3
    have p0 := box_cell hB3 0 _ rfl
    have p1 := box_cell hB3 1 _ rfl
    have p2 := box_cell hB3 2 _ rfl
    have p3 := box_cell hB3 3 _ rfl
    have p4 := box_cell hB3 4 _ rfl
    have p5 := box_cell hB3 5 _ rfl
    have p6 := box_cell hB3 6 _ rfl
    have p7 := box_cell hB3 7 _ rfl
    go_wp2_with fail
    refine (hto _ (hE0.trans hB3)).mono ?_
    rintro e w4 ⟨u4, u7, Q4, Q7, rfl, ⟨hu4, _, _⟩, ⟨hu7, _, _⟩, _, hE4⟩
    clear p0 p1 p2 p3 p4 p5 p6 p7
    obtain ⟨b4, bcap4, m4, _, hD4, hC4, _, _⟩ := list_shape H4 hu4
    obtain ⟨b7, bcap7, m7, _, hD7, hC7, _, _⟩ := list_shape H7 hu7
    subst hC4 hC7
    clear hD4 hD7
    have hE5 : Ext w4 (w4.alloc (.cells #[.int .i64 x0, .int .i64 x1, .int .i64 x2, .string x3, .slice b4 m4 bcap4, .string x5, .string x6, .slice b7 m7 bcap7] 35)) := (Ext.refl _).alloc _
    have hB5 := (hB3.trans hE4).trans hE5
    go_wp2_with fail
    refine (him _ _ _ (hE0.trans hB5) (hu4.any.ext hE5) (hu7.any.ext hE5)).mono ?_
    rintro e w6 ⟨rfl, hE6⟩
    have hB6 := hB5.trans hE6
    clear him
    have HK : Hid (∀ W, Ext w6 W → (W.cell? ⟨w.heap.size, 0, none⟩ = some (.int .i64 x0) ∧ W.cell? ⟨w.heap.size, 1, none⟩ = some (.int .i64 x1) ∧ W.cell? ⟨w.heap.size, 2, none⟩ = some (.int .i64 x2) ∧ W.cell? ⟨w.heap.size, 3, none⟩ = some (.string x3) ∧ W.cell? ⟨w.heap.size, 4, none⟩ = some (.slice a4 l4 cap4) ∧ W.cell? ⟨w.heap.size, 5, none⟩ = some (.string x5) ∧ W.cell? ⟨w.heap.size, 6, none⟩ = some (.string x6) ∧ W.cell? ⟨w.heap.size, 7, none⟩ = some (.slice a7 l7 cap7)) ∧ (W.cell? ⟨w4.heap.size, 0, none⟩ = some (.int .i64 x0) ∧ W.cell? ⟨w4.heap.size, 1, none⟩ = some (.int .i64 x1) ∧ W.cell? ⟨w4.heap.size, 2, none⟩ = some (.int .i64 x2) ∧ W.cell? ⟨w4.heap.size, 3, none⟩ = some (.string x3) ∧ W.cell? ⟨w4.heap.size, 4, none⟩ = some (.slice b4 m4 bcap4) ∧ W.cell? ⟨w4.heap.size, 5, none⟩ = some (.string x5) ∧ W.cell? ⟨w4.heap.size, 6, none⟩ = some (.string x6) ∧ W.cell? ⟨w4.heap.size, 7, none⟩ = some (.slice b7 m7 bcap7))) := fun W hW => by
      have hA := hB6.trans hW
      have hB := hE6.trans hW
      exact ⟨⟨box_cell hA 0 _ rfl, box_cell hA 1 _ rfl, box_cell hA 2 _ rfl, box_cell hA 3 _ rfl, box_cell hA 4 _ rfl, box_cell hA 5 _ rfl, box_cell hA 6 _ rfl, box_cell hA 7 _ rfl⟩, ⟨box_cell hB 0 _ rfl, box_cell hB 1 _ rfl, box_cell hB 2 _ rfl, box_cell hB 3 _ rfl, box_cell hB 4 _ rfl, box_cell hB 5 _ rfl, box_cell hB 6 _ rfl, box_cell hB 7 _ rfl⟩⟩
    have hv4 := fun (W : World) (hW : Ext w6 W) => hu4.any.ext ((hE5.trans hE6).trans hW)
    have hv7 := fun (W : World) (hW : Ext w6 W) => hu7.any.ext ((hE5.trans hE6).trans hW)
    have hA6 := hE0.trans hB6
    go_wp2_with fail
    have hcur : Ext w6 w6.drew := (Ext.refl _).drew
    refine wp_region_held_drew (S := (fun W => (W.cell? ⟨w.heap.size, 0, none⟩ = some (.int .i64 x0) ∧ W.cell? ⟨w.heap.size, 1, none⟩ = some (.int .i64 x1) ∧ W.cell? ⟨w.heap.size, 2, none⟩ = some (.int .i64 x2) ∧ W.cell? ⟨w.heap.size, 3, none⟩ = some (.string x3) ∧ W.cell? ⟨w.heap.size, 4, none⟩ = some (.slice a4 l4 cap4) ∧ W.cell? ⟨w.heap.size, 5, none⟩ = some (.string x5) ∧ W.cell? ⟨w.heap.size, 6, none⟩ = some (.string x6) ∧ W.cell? ⟨w.heap.size, 7, none⟩ = some (.slice a7 l7 cap7)) ∧ (W.cell? ⟨w4.heap.size, 0, none⟩ = some (.int .i64 x0) ∧ W.cell? ⟨w4.heap.size, 1, none⟩ = some (.int .i64 x1) ∧ W.cell? ⟨w4.heap.size, 2, none⟩ = some (.int .i64 x2) ∧ W.cell? ⟨w4.heap.size, 3, none⟩ = some (.string x3) ∧ W.cell? ⟨w4.heap.size, 4, none⟩ = some (.slice b4 m4 bcap4) ∧ W.cell? ⟨w4.heap.size, 5, none⟩ = some (.string x5) ∧ W.cell? ⟨w4.heap.size, 6, none⟩ = some (.string x6) ∧ W.cell? ⟨w4.heap.size, 7, none⟩ = some (.slice b7 m7 bcap7)))) (by kernel_rfl) (HK.out _ hcur) (fun hHeld => ?_)
    refine wpAnyH_take (i := 0) (oi := { dst := some 22, op := Op.load 35 (Operand.tmp 5), type := 35, pos := "exact.go:4634", after := #[], guard := none }) (v := ?_) rfl (by kernel_rfl) (by kernel_rfl) (by kernel_rfl) (fun _ _ _ h => h) (Or.inl ⟨by rfl, ?yyA0⟩) hHeld ?rrA0
    case yyA0 => first | (intro w hSw; (try dsimp only at hSw); go_simp; done) | (intro w hSw; (try dsimp only at hSw); go_simp; with_reducible rfl)
    try simp only [Act.put, List.setIfInBounds_toArray, List.set_cons_zero, List.set_cons_succ]
    refine wpAnyH_take (i := 1) (oi := { dst := some 23, op := Op.load 27 (Operand.tmp 1), type := 27, pos := "exact.go:4634", after := #[], guard := none }) (v := ?_) rfl (by kernel_rfl) (by kernel_rfl) (by kernel_rfl) (fun _ _ _ h => h) (Or.inl ⟨by rfl, ?yyA1⟩) hHeld ?rrA1
    case yyA1 => first | (intro w hSw; (try dsimp only at hSw); go_simp; done) | (intro w hSw; (try dsimp only at hSw); go_simp; with_reducible rfl)
    try simp only [Act.put, List.setIfInBounds_toArray, List.set_cons_zero, List.set_cons_succ]
    refine wpAnyH_ready (rs := [2]) (by kernel_rfl) (by simp) ?_
    refine AllReadyH.cons (o := { dst := some 24, op := Op.call { callee := Callee.value (Operand.func 6), args := #[Operand.tmp 23], argTypes := #[27] }, type := 35, pos := "exact.go:4634", after := #[{ on := 1, ground := Ground.data }], guard := none }) rfl (fun K hK => ?_) AllReadyH.nil
    go_simp
    refine (hto _ (hA6.trans hcur)).mono ?_
    rintro e w7 ⟨u4, u7, Q4', Q7', rfl, ⟨hu4', _, _⟩, ⟨hu7', _, _⟩, _, hE7⟩
    replace hcur := hcur.trans hE7
    obtain ⟨y4, ycap4, n4, _, hD4, hC4, _, _⟩ := list_shape H4 hu4'
    obtain ⟨y7, ycap7, n7, _, hD7, hC7, _, _⟩ := list_shape H7 hu7'
    subst hC4 hC7
    clear hD4 hD7
    go_wp2_with fail
    refine hK.out _ _ (HK.out _ hcur) (fun hHeld => ?_)
    clear hK K
    try simp only [Act.put, List.setIfInBounds_toArray, List.set_cons_zero, List.set_cons_succ]
    refine wpAnyH_ready (rs := [3]) (by kernel_rfl) (by simp) ?_
    refine AllReadyH.cons (o := { dst := some 25, op := Op.call { callee := Callee.value (Operand.func 8), args := #[Operand.tmp 22, Operand.tmp 24], argTypes := #[35, 35] }, type := 4, pos := "exact.go:4634", after := #[{ on := 0, ground := Ground.data }, { on := 2, ground := Ground.data }, { on := 2, ground := Ground.chain }], guard := none }) rfl (fun K hK => ?_) AllReadyH.nil
    go_simp
    refine (eqExpr_any anyB anyB x0 x1 x2 x3 d4 _ _ x5 x6 d7 _ _ _ (eqExprS_any d7 H7) H4 (hv4 _ hcur) hu4'.any H7 (hv7 _ hcur) hu7'.any).mono ?_
    rintro e w8 ⟨rfl, hE8⟩
    replace hcur := hcur.trans hE8
    go_wp2_with fail
    refine hK.out _ _ (HK.out _ hcur) (fun hHeld => ?_)
    clear hK K
    try simp only [Act.put, List.setIfInBounds_toArray, List.set_cons_zero, List.set_cons_succ]
    refine wpAnyH_take (i := 4) (oi := { dst := some 26, op := Op.unOp UnOp.not 4 (Operand.tmp 25), type := 4, pos := "exact.go:4634", after := #[{ on := 3, ground := Ground.data }], guard := none }) (v := ?_) rfl (by kernel_rfl) (by kernel_rfl) (by kernel_rfl) (fun _ _ _ h => h) (Or.inl ⟨by rfl, ?yyA4⟩) hHeld ?rrA4
    case yyA4 => first | (intro w hSw; (try dsimp only at hSw); go_simp; done) | (intro w hSw; (try dsimp only at hSw); go_simp; with_reducible rfl)
    try simp only [Act.put, List.setIfInBounds_toArray, List.set_cons_zero, List.set_cons_succ]
    refine wpAnyH_done (by kernel_rfl) ?_ _
    go_wp2
    go_ret
    exact ⟨rfl, hA6.trans hcur⟩
end Go.Proofs.YtjcbcfpdgdaffaaDoor
