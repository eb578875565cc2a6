/- At everything that is said the law FnExactMsgOk answers true. -/
import Derived.Test.YtepfppncfeaeiaaDSz
import Derived.Test.YtepfppncfeaeiaaDToMsg
import Derived.Test.YtepfppncfeaeiaaDEqMsg
import Derived.Test.YtepfppncfeaeiaaMoMsg
import Derived.Deep.RegionHeld3
namespace Go.Proofs.Ytepfppncfeaeiaa
open Go.RowKit Go.Deep

set_option maxRecDepth 100000 in
set_option maxHeartbeats 4000000 in
theorem moLaw (x0 : Int) (x1 : ByteArray) (d2 : D) (c2 : Value) (x3 : Int) (w : World) (z1 : x1.size ≤ maxLen) (H2 : Has d2 (.list 3)) (h2 : DIn anyB w d2 c2) :
    Calls Try.prog 3 #[.agg #[.int .i64 x0, .string x1, c2, .int .i64 x3]] w fun e w' => e = .returned (.bool true) ∧ Ext w w' := by
  obtain ⟨a2, cap2, l2, f2, hD2, rfl, _, _⟩ := list_shape H2 h2
  clear hD2
  have hE0 : Ext w (w.alloc (.cells #[.int .i64 x0, .string x1, .slice a2 l2 cap2, .int .i64 x3] 24)) := (Ext.refl _).alloc _
  go_enter Try.func3, Try.ntmps3
  go_wp2_with fail
  refine (szMsg_any anyB x0 x1 d2 _ x3 _ _ z1 H2 (h2.ext hE0) (by omega) (by omega)).mono ?_
  rintro e w1 ⟨r, rfl, hr1, hr2, hr, hE1⟩
  by_cases hr0 : r < 0
  · go_wp2
    go_ret
    exact ⟨rfl, hE0.trans hE1⟩
  · obtain ⟨s1, s2, _⟩ := hr (by omega)
    clear hr
    have hto := fun (W : World) (hW : Ext w W) => toMsg_any anyB x0 x1 d2 _ x3 W H2 (h2.ext hW) s2
    have p0 := box_cell hE1 0 _ rfl
    have p1 := box_cell hE1 1 _ rfl
    have p2 := box_cell hE1 2 _ rfl
    have p3 := box_cell hE1 3 _ rfl
    go_wp2_with fail
    refine (hto _ (hE0.trans hE1)).mono ?_
    rintro e w2 ⟨u2, Q2, rfl, ⟨hu2, _, _⟩, hE2⟩
    clear p0 p1 p2 p3
    have hsp := specMsgOk_any anyB x0 x1 d2 _ x3 w2 z1 H2 (hu2.any)
    have him := fun (W : World) (c2 : Value) (k2 : DIn anyB W d2 c2) => implMsgOk_any anyB x0 x1 d2 c2 x3 W z1 H2 (k2)
    generalize msgB x0 x1 d2 x3 = R at hsp him
    obtain ⟨g2, gcap2, k2, _, hD2, hC2, _, _⟩ := list_shape H2 hu2
    subst hC2
    clear hD2
    go_wp2_with fail
    refine hsp.mono ?_
    rintro e w3 ⟨rfl, hE3⟩
    clear hsp hu2
    have hB3 := (hE1.trans hE2).trans hE3
    have p0 := box_cell hB3 0 _ rfl
    have p1 := box_cell hB3 1 _ rfl
    have p2 := box_cell hB3 2 _ rfl
    have p3 := box_cell hB3 3 _ rfl
    go_wp2_with fail
    refine (hto _ (hE0.trans hB3)).mono ?_
    rintro e w4 ⟨u2, Q'2, rfl, ⟨hu2, _, _⟩, hE4⟩
    clear p0 p1 p2 p3
    obtain ⟨b2, bcap2, m2, _, hD2, hC2, _, _⟩ := list_shape H2 hu2
    subst hC2
    clear hD2
    have hE5 : Ext w4 (w4.alloc (.cells #[.int .i64 x0, .string x1, .slice b2 m2 bcap2, .int .i64 x3] 29)) := (Ext.refl _).alloc _
    have hB5 := (hB3.trans hE4).trans hE5
    go_wp2_with fail
    refine (him _ _ (hu2.any.ext hE5)).mono ?_
    rintro e w6 ⟨rfl, hE6⟩
    have hB6 := hB5.trans hE6
    clear him
    have HK : Hid (∀ W, Ext w6 W → (W.cell? ⟨w.heap.size, 0, none⟩ = some (.int .i64 x0) ∧ W.cell? ⟨w.heap.size, 1, none⟩ = some (.string x1) ∧ W.cell? ⟨w.heap.size, 2, none⟩ = some (.slice a2 l2 cap2) ∧ W.cell? ⟨w.heap.size, 3, none⟩ = some (.int .i64 x3)) ∧ (W.cell? ⟨w4.heap.size, 0, none⟩ = some (.int .i64 x0) ∧ W.cell? ⟨w4.heap.size, 1, none⟩ = some (.string x1) ∧ W.cell? ⟨w4.heap.size, 2, none⟩ = some (.slice b2 m2 bcap2) ∧ W.cell? ⟨w4.heap.size, 3, none⟩ = some (.int .i64 x3))) := fun W hW => by
      have hA := hB6.trans hW
      have hB := hE6.trans hW
      exact ⟨⟨box_cell hA 0 _ rfl, box_cell hA 1 _ rfl, box_cell hA 2 _ rfl, box_cell hA 3 _ rfl⟩, ⟨box_cell hB 0 _ rfl, box_cell hB 1 _ rfl, box_cell hB 2 _ rfl, box_cell hB 3 _ rfl⟩⟩
    have hv2 := fun (W : World) (hW : Ext w6 W) => hu2.any.ext ((hE5.trans hE6).trans hW)
    have hA6 := hE0.trans hB6
    go_wp2_with fail
    have hcur : Ext w6 w6.drew := (Ext.refl _).drew
    refine wp_region_held_drew (S := (fun W => (W.cell? ⟨w.heap.size, 0, none⟩ = some (.int .i64 x0) ∧ W.cell? ⟨w.heap.size, 1, none⟩ = some (.string x1) ∧ W.cell? ⟨w.heap.size, 2, none⟩ = some (.slice a2 l2 cap2) ∧ W.cell? ⟨w.heap.size, 3, none⟩ = some (.int .i64 x3)) ∧ (W.cell? ⟨w4.heap.size, 0, none⟩ = some (.int .i64 x0) ∧ W.cell? ⟨w4.heap.size, 1, none⟩ = some (.string x1) ∧ W.cell? ⟨w4.heap.size, 2, none⟩ = some (.slice b2 m2 bcap2) ∧ W.cell? ⟨w4.heap.size, 3, none⟩ = some (.int .i64 x3)))) (by kernel_rfl) (HK.out _ hcur) (fun hHeld => ?_)
    refine wpAnyH_take (i := 0) (oi := ⟨some 22, .load 29 (.tmp 5), 29, _, #[], none⟩) (v := ?_) rfl (by kernel_rfl) (by kernel_rfl) (by kernel_rfl) (fun _ _ _ h => h) (Or.inl ⟨by rfl, ?yyA0⟩) hHeld ?rrA0
    case yyA0 => (intro w hSw; (try dsimp only at hSw); go_simp; first | done | with_reducible rfl)
    try simp only [Act.put, putA, putB, putC]
    refine wpAnyH_take (i := 1) (oi := ⟨some 23, .load 24 (.tmp 1), 24, _, #[], none⟩) (v := ?_) rfl (by kernel_rfl) (by kernel_rfl) (by kernel_rfl) (fun _ _ _ h => h) (Or.inl ⟨by rfl, ?yyA1⟩) hHeld ?rrA1
    case yyA1 => (intro w hSw; (try dsimp only at hSw); go_simp; first | done | with_reducible rfl)
    try simp only [Act.put, putA, putB, putC]
    refine wpAnyH_ready (rs := [2]) (by kernel_rfl) (by simp) ?_
    refine AllReadyH.cons (o := ⟨some 24, .call { callee := .value (.func 6), args := #[.tmp 23], argTypes := #[24] }, 29, _, #[⟨1, .data⟩], none⟩) rfl (fun K hK => ?_) AllReadyH.nil
    go_simp
    refine (hto _ (hA6.trans hcur)).mono ?_
    rintro e w7 ⟨u2, Q92, rfl, ⟨ku2, _, _⟩, hE7⟩
    replace hcur := hcur.trans hE7
    obtain ⟨y2, ycap2, n2, _, hD2, hC2, _, _⟩ := list_shape H2 ku2
    subst hC2
    clear hD2
    go_wp2_with fail
    refine hK.out _ _ (HK.out _ hcur) (fun hHeld => ?_)
    clear hK K
    try simp only [Act.put, putA, putB, putC]
    refine wpAnyH_ready (rs := [3]) (by kernel_rfl) (by simp) ?_
    refine AllReadyH.cons (o := ⟨some 25, .call { callee := .value (.func 8), args := #[.tmp 22, .tmp 24], argTypes := #[29, 29] }, 4, _, #[⟨0, .data⟩, ⟨2, .data⟩, ⟨2, .chain⟩], none⟩) rfl (fun K hK => ?_) AllReadyH.nil
    go_simp
    refine (eqMsg_any anyB anyB x0 x1 d2 _ _ x3 _ H2 (hv2 _ hcur) ku2.any).mono ?_
    rintro e w8 ⟨rfl, hE8⟩
    replace hcur := hcur.trans hE8
    go_wp2_with fail
    refine hK.out _ _ (HK.out _ hcur) (fun hHeld => ?_)
    clear hK K
    try simp only [Act.put, putA, putB, putC]
    refine wpAnyH_take (i := 4) (oi := ⟨some 26, .unOp .not 4 (.tmp 25), 4, _, #[⟨3, .data⟩], none⟩) (v := ?_) rfl (by kernel_rfl) (by kernel_rfl) (by kernel_rfl) (fun _ _ _ h => h) (Or.inl ⟨by rfl, ?yyA4⟩) hHeld ?rrA4
    case yyA4 => (intro w hSw; (try dsimp only at hSw); go_simp; first | done | with_reducible rfl)
    try simp only [Act.put, putA, putB, putC]
    refine wpAnyH_done (by kernel_rfl) ?_ _
    go_wp2
    go_ret
    exact ⟨rfl, hA6.trans hcur⟩
end Go.Proofs.Ytepfppncfeaeiaa
