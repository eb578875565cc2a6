/- At every graph the law FnExactGraphOk answers true. -/
import Derived.Test.YtnnohigijfkdkaaDSz
import Derived.Test.YtnnohigijfkdkaaDToGraph
import Derived.Test.YtnnohigijfkdkaaDEqGraph
import Derived.Test.YtnnohigijfkdkaaNetOk
import Derived.Deep.RegionHeld3
namespace Go.Proofs.Ytnnohigijfkdkaa
open Go.RowKit Go.Deep

set_option maxRecDepth 100000 in
set_option maxHeartbeats 4000000 in
theorem graphLaw (d0 d1 : D) (c0 c1 : Value) (x2 x3 : Int) (w : World) (H0 : Has d0 (.list 4)) (h0 : DIn anyB w d0 c0) (H1 : Has d1 (.list 5)) (h1 : DIn anyB w d1 c1) :
    Calls Try.prog 3 #[.agg #[c0, c1, .int .i64 x2, .int .i64 x3]] w fun e w' => e = .returned (.bool true) ∧ Ext w w' := by
  obtain ⟨a0, cap0, l0, f0, hD0, rfl, _, _⟩ := list_shape H0 h0
  obtain ⟨a1, cap1, l1, f1, hD1, rfl, _, _⟩ := list_shape H1 h1
  clear hD0 hD1
  have hE0 : Ext w (w.alloc (.cells #[.slice a0 l0 cap0, .slice a1 l1 cap1, .int .i64 x2, .int .i64 x3] 25)) := (Ext.refl _).alloc _
  go_enter Try.func3, Try.ntmps3
  go_wp2_with fail
  refine (szGraph_any anyB d0 _ d1 _ x2 x3 _ _ H0 (h0.ext hE0) H1 (h1.ext hE0) (by omega) (by omega)).mono ?_
  rintro e w1 ⟨r, rfl, hr1, hr2, hr, hE1⟩
  by_cases hr0 : r < 0
  · go_wp2
    go_ret
    exact ⟨rfl, hE0.trans hE1⟩
  · obtain ⟨s0, s1, _⟩ := hr (by omega)
    clear hr
    have hto := fun (W : World) (hW : Ext w W) => toGraph_any anyB d0 _ d1 _ x2 x3 W H0 (h0.ext hW) s0 H1 (h1.ext hW) s1
    have p0 := box_cell hE1 0 _ rfl
    have p1 := box_cell hE1 1 _ rfl
    have p2 := box_cell hE1 2 _ rfl
    have p3 := box_cell hE1 3 _ rfl
    go_wp2_with fail
    refine (hto _ (hE0.trans hE1)).mono ?_
    rintro e w2 ⟨u0, u1, Q0, Q1, rfl, ⟨hu0, _, _⟩, ⟨hu1, _, _⟩, _, hE2⟩
    clear p0 p1 p2 p3
    have hsp := specGraphOk_any anyB d0 d1 _ _ x2 x3 w2 H0 hu0.any H1 hu1.any
    have him := fun (W : World) (c0 c1 : Value) (k0 : DIn anyB W d0 c0) (k1 : DIn anyB W d1 c1) => implGraphOk_any anyB d0 d1 c0 c1 x2 x3 W H0 k0 H1 k1
    generalize graphB d0 d1 x2 x3 = R at hsp him
    obtain ⟨g0, gcap0, k0, _, hD0, hC0, _, _⟩ := list_shape H0 hu0
    obtain ⟨g1, gcap1, k1, _, hD1, hC1, _, _⟩ := list_shape H1 hu1
    subst hC0 hC1
    clear hD0 hD1
    go_wp2_with fail
    refine hsp.mono ?_
    rintro e w3 ⟨rfl, hE3⟩
    clear hsp hu0 hu1
    have hB3 := (hE1.trans hE2).trans hE3
    have p0 := box_cell hB3 0 _ rfl
    have p1 := box_cell hB3 1 _ rfl
    have p2 := box_cell hB3 2 _ rfl
    have p3 := box_cell hB3 3 _ rfl
    go_wp2_with fail
    refine (hto _ (hE0.trans hB3)).mono ?_
    rintro e w4 ⟨u0, u1, Q0', Q1', rfl, ⟨hu0, _, _⟩, ⟨hu1, _, _⟩, _, hE4⟩
    clear p0 p1 p2 p3
    obtain ⟨b0, bcap0, m0, _, hD0, hC0, _, _⟩ := list_shape H0 hu0
    obtain ⟨b1, bcap1, m1, _, hD1, hC1, _, _⟩ := list_shape H1 hu1
    subst hC0 hC1
    clear hD0 hD1
    have hE5 : Ext w4 (w4.alloc (.cells #[.slice b0 m0 bcap0, .slice b1 m1 bcap1, .int .i64 x2, .int .i64 x3] 31)) := (Ext.refl _).alloc _
    have hB5 := (hB3.trans hE4).trans hE5
    go_wp2_with fail
    refine (him _ _ _ (hu0.any.ext hE5) (hu1.any.ext hE5)).mono ?_
    rintro e w6 ⟨rfl, hE6⟩
    have hB6 := hB5.trans hE6
    clear him
    have HK : Hid (∀ W, Ext w6 W → (W.cell? ⟨w.heap.size, 0, none⟩ = some (.slice a0 l0 cap0) ∧ W.cell? ⟨w.heap.size, 1, none⟩ = some (.slice a1 l1 cap1) ∧ W.cell? ⟨w.heap.size, 2, none⟩ = some (.int .i64 x2) ∧ W.cell? ⟨w.heap.size, 3, none⟩ = some (.int .i64 x3)) ∧ (W.cell? ⟨w4.heap.size, 0, none⟩ = some (.slice b0 m0 bcap0) ∧ W.cell? ⟨w4.heap.size, 1, none⟩ = some (.slice b1 m1 bcap1) ∧ W.cell? ⟨w4.heap.size, 2, none⟩ = some (.int .i64 x2) ∧ W.cell? ⟨w4.heap.size, 3, none⟩ = some (.int .i64 x3))) := fun W hW => by
      have hA := hB6.trans hW
      have hB := hE6.trans hW
      exact ⟨⟨box_cell hA 0 _ rfl, box_cell hA 1 _ rfl, box_cell hA 2 _ rfl, box_cell hA 3 _ rfl⟩, ⟨box_cell hB 0 _ rfl, box_cell hB 1 _ rfl, box_cell hB 2 _ rfl, box_cell hB 3 _ rfl⟩⟩
    have hv0 := fun (W : World) (hW : Ext w6 W) => hu0.any.ext ((hE5.trans hE6).trans hW)
    have hv1 := fun (W : World) (hW : Ext w6 W) => hu1.any.ext ((hE5.trans hE6).trans hW)
    have hA6 := hE0.trans hB6
    go_wp2_with fail
    have hcur : Ext w6 w6.drew := (Ext.refl _).drew
    refine wp_region_held_drew (S := (fun W => (W.cell? ⟨w.heap.size, 0, none⟩ = some (.slice a0 l0 cap0) ∧ W.cell? ⟨w.heap.size, 1, none⟩ = some (.slice a1 l1 cap1) ∧ W.cell? ⟨w.heap.size, 2, none⟩ = some (.int .i64 x2) ∧ W.cell? ⟨w.heap.size, 3, none⟩ = some (.int .i64 x3)) ∧ (W.cell? ⟨w4.heap.size, 0, none⟩ = some (.slice b0 m0 bcap0) ∧ W.cell? ⟨w4.heap.size, 1, none⟩ = some (.slice b1 m1 bcap1) ∧ W.cell? ⟨w4.heap.size, 2, none⟩ = some (.int .i64 x2) ∧ W.cell? ⟨w4.heap.size, 3, none⟩ = some (.int .i64 x3)))) (by kernel_rfl) (HK.out _ hcur) (fun hHeld => ?_)
    refine wpAnyH_take (i := 0) (oi := ⟨some 22, .load 31 (.tmp 5), 31, "exact.go:3960", #[], none⟩) (v := ?_) rfl (by kernel_rfl) (by kernel_rfl) (by kernel_rfl) (fun _ _ _ h => h) (Or.inl ⟨by rfl, ?yyA0⟩) hHeld ?rrA0
    case yyA0 => (intro w hSw; (try dsimp only at hSw); go_simp; first | done | with_reducible rfl)
    try simp only [Act.put, List.setIfInBounds_toArray, List.set_cons_zero, List.set_cons_succ]
    refine wpAnyH_take (i := 1) (oi := ⟨some 23, .load 25 (.tmp 1), 25, "exact.go:3960", #[], none⟩) (v := ?_) rfl (by kernel_rfl) (by kernel_rfl) (by kernel_rfl) (fun _ _ _ h => h) (Or.inl ⟨by rfl, ?yyA1⟩) hHeld ?rrA1
    case yyA1 => (intro w hSw; (try dsimp only at hSw); go_simp; first | done | with_reducible rfl)
    try simp only [Act.put, List.setIfInBounds_toArray, List.set_cons_zero, List.set_cons_succ]
    refine wpAnyH_ready (rs := [2]) (by kernel_rfl) (by simp) ?_
    refine AllReadyH.cons (o := ⟨some 24, .call { callee := .value (.func 6), args := #[.tmp 23], argTypes := #[25] }, 31, "exact.go:3960", #[⟨1, .data⟩], none⟩) rfl (fun K hK => ?_) AllReadyH.nil
    go_simp
    refine (hto _ (hA6.trans hcur)).mono ?_
    rintro e w7 ⟨u0, u1, Q4, Q7, rfl, ⟨hu0', _, _⟩, ⟨hu1', _, _⟩, _, hE7⟩
    replace hcur := hcur.trans hE7
    obtain ⟨y0, ycap0, n0, _, hD0, hC0, _, _⟩ := list_shape H0 hu0'
    obtain ⟨y1, ycap1, n1, _, hD1, hC1, _, _⟩ := list_shape H1 hu1'
    subst hC0 hC1
    clear hD0 hD1
    go_wp2_with fail
    refine hK.out _ _ (HK.out _ hcur) (fun hHeld => ?_)
    clear hK K
    try simp only [Act.put, List.setIfInBounds_toArray, List.set_cons_zero, List.set_cons_succ]
    refine wpAnyH_ready (rs := [3]) (by kernel_rfl) (by simp) ?_
    refine AllReadyH.cons (o := ⟨some 25, .call { callee := .value (.func 8), args := #[.tmp 22, .tmp 24], argTypes := #[31, 31] }, 4, "exact.go:3960", #[⟨0, .data⟩, ⟨2, .data⟩, ⟨2, .chain⟩], none⟩) rfl (fun K hK => ?_) AllReadyH.nil
    go_simp
    refine (eqGraph_any anyB anyB d0 _ _ d1 _ _ x2 x3 _ H0 (hv0 _ hcur) hu0'.any H1 (hv1 _ hcur) hu1'.any).mono ?_
    rintro e w8 ⟨rfl, hE8⟩
    replace hcur := hcur.trans hE8
    go_wp2_with fail
    refine hK.out _ _ (HK.out _ hcur) (fun hHeld => ?_)
    clear hK K
    try simp only [Act.put, List.setIfInBounds_toArray, List.set_cons_zero, List.set_cons_succ]
    refine wpAnyH_take (i := 4) (oi := ⟨some 26, .unOp .not 4 (.tmp 25), 4, "exact.go:3960", #[⟨3, .data⟩], none⟩) (v := ?_) rfl (by kernel_rfl) (by kernel_rfl) (by kernel_rfl) (fun _ _ _ h => h) (Or.inl ⟨by rfl, ?yyA4⟩) hHeld ?rrA4
    case yyA4 => (intro w hSw; (try dsimp only at hSw); go_simp; first | done | with_reducible rfl)
    try simp only [Act.put, List.setIfInBounds_toArray, List.set_cons_zero, List.set_cons_succ]
    refine wpAnyH_done (by kernel_rfl) ?_ _
    go_wp2
    go_ret
    exact ⟨rfl, hA6.trans hcur⟩
end Go.Proofs.Ytnnohigijfkdkaa
