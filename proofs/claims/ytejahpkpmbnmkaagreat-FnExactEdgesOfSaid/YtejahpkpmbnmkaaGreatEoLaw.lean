/- At every graph, all numbers and every text the law FnExactEdgesOf answers true. -/
import Derived.Test.YtejahpkpmbnmkaaGreatDSz
import Derived.Test.YtejahpkpmbnmkaaGreatDTo
import Derived.Test.YtejahpkpmbnmkaaGreatDEq
import Derived.Test.YtejahpkpmbnmkaaGreatDMk
import Derived.Test.YtejahpkpmbnmkaaGreatDHlInt
import Derived.Test.YtejahpkpmbnmkaaGreatEoS
import Derived.Test.YtejahpkpmbnmkaaGreatEoOk
import Derived.Test.YtejahpkpmbnmkaaGreatWithThy
import Derived.Deep.RegionHeld3
namespace Go.Proofs.YtejahpkpmbnmkaaGreat
open Go.RowKit Go.Deep

set_option maxRecDepth 100000 in
set_option maxHeartbeats 8000000 in
theorem eoLaw (d0 d1 : D) (c0 c1 : Value) (x2 x3 id way : Int) (s : ByteArray) (w : World) (zid : (Lit.int .i64 id).wf = true) (zs : s.size ≤ maxLen) (H0 : Has d0 (.list 4)) (h0 : DIn anyB w d0 c0) (H1 : Has d1 (.list 5)) (h1 : DIn anyB w d1 c1) :
    Calls Tryz.prog 3 #[.agg #[c0, c1, .int .i64 x2, .int .i64 x3], .int .i64 id, .int .i64 way, .string s] w fun e w' => e = .returned (.bool true) ∧ Ext w w' := by
  obtain ⟨a0, cap0, l0, f0, hD0, rfl, _, _⟩ := list_shape H0 h0
  obtain ⟨a1, cap1, l1, f1, hD1, rfl, _, _⟩ := list_shape H1 h1
  clear hD0 hD1
  unfold maxLen at zs
  have hE0 : Ext w (w.alloc (.cells #[.slice a0 l0 cap0, .slice a1 l1 cap1, .int .i64 x2, .int .i64 x3] 25)) := (Ext.refl _).alloc _
  by_cases hs0 : 1048576 < s.size
  · go_enter Tryz.func3, Tryz.ntmps3
    go_wp2
    go_ret
    exact ⟨rfl, hE0⟩
  have hs1 : ¬ (1048576 : Int) < (s.size : Int) := by omega
  go_enter Tryz.func3, Tryz.ntmps3
  go_wp2_with fail
  refine (szGraph_any anyB d0 _ d1 _ x2 x3 _ _ H0 (h0.ext hE0) H1 (h1.ext hE0) (by omega) (by omega)).mono ?_
  rintro e w1 ⟨r, rfl, hr1, hr2, hr, hE1⟩
  by_cases hr0 : r < 0
  · go_wp2
    go_ret
    exact ⟨rfl, hE0.trans hE1⟩
  obtain ⟨s0, s1, hlen⟩ := hr (by omega)
  clear hr
  have hcnt0 := cnt_list H0 s0
  have hcnt1 := cnt_list H1 s1
  have hcnt : Hid (1 + cntD d0 + cntD d1 ≤ 1000000000) := by show _ ≤ _; omega
  clear hcnt0 hcnt1 hlen
  have hto := fun (W : World) (hW : Ext w W) => toGraph_any anyB d0 _ d1 _ x2 x3 W H0 (h0.ext hW) s0 H1 (h1.ext hW) s1
  have hsp := fun (W : World) (c0 c1 : Value) (k0 : DIn anyB W d0 c0) (k1 : DIn anyB W d1 c1) => specEdgesOf_any anyB d0 d1 c0 c1 x2 x3 id way s W H0 k0 H1 k1
  have him := fun (W : World) (c0 c1 : Value) (k0 : DIn anyB W d0 c0) (k1 : DIn anyB W d1 c1) => implEdgesOf_any anyB d0 d1 c0 c1 x2 x3 id way s zid W H0 k0 H1 k1
  change ∀ (W : World) (c0 c1 : Value), DIn anyB W d0 c0 → DIn anyB W d1 c1 → Calls Tryz.prog 5 #[.agg #[c0, c1, .int .i64 x2, .int .i64 x3], .int .i64 id, .int .i64 way, .string s] W fun e w' => ∃ a l c, e = .returned (.slice a l c) ∧ DIn (New W.heap.size w'.heap.size) w' (intsD (eoAns (graphB d0 d1 x2 x3 && hasId d0 id) d1 id way s)) (.slice a l c) ∧ Ext W w' at hsp
  have hal : (eoAns (graphB d0 d1 x2 x3 && hasId d0 id) d1 id way s).length ≤ 16 := by
    unfold eoAns
    cases hg : graphB d0 d1 x2 x3
    · simp
    · have h16 := (graph_len hg).2.1
      have := eo_len d1.at! id way s d1.len!
      split
      · omega
      · simp
  generalize eoAns (graphB d0 d1 x2 x3 && hasId d0 id) d1 id way s = ans at *
  have heq := eqIntS_any (intsD ans) (ints_has ans)
  have hmk := markIntS_any (intsD ans) (ints_has ans) (ints_lenOk ans (by omega))
  have hhl := heldIntS_any (intsD ans) (ints_has ans)
  have hcn : Hid (cntD (intsD ans) = ans.length) := ints_cnt ans
  have hA : ∀ W : World, W.heap[w.heap.size]? = (w.alloc (.cells #[.slice a0 l0 cap0, .slice a1 l1 cap1, .int .i64 x2, .int .i64 x3] 25)).heap[w.heap.size]? → W.cell? ⟨w.heap.size, 0, none⟩ = some (.slice a0 l0 cap0) ∧ W.cell? ⟨w.heap.size, 1, none⟩ = some (.slice a1 l1 cap1) ∧ W.cell? ⟨w.heap.size, 2, none⟩ = some (.int .i64 x2) ∧ W.cell? ⟨w.heap.size, 3, none⟩ = some (.int .i64 x3) := fun W hW => by
    refine ⟨?_, ?_, ?_, ?_⟩ <;> (rw [World.cell?_of_block hW]; simp)
  have hAext : ∀ W : World, Ext (w.alloc (.cells #[.slice a0 l0 cap0, .slice a1 l1 cap1, .int .i64 x2, .int .i64 x3] 25)) W → W.heap[w.heap.size]? = (w.alloc (.cells #[.slice a0 l0 cap0, .slice a1 l1 cap1, .int .i64 x2, .int .i64 x3] 25)).heap[w.heap.size]? := fun W hW => Below.block hW _ (by simp)
  obtain ⟨p0, p1, p2, p3⟩ := hA w1 (hAext _ hE1)
  go_wp2_with fail
  refine (hto _ (hE0.trans hE1)).mono ?_
  rintro e w2 ⟨u0, u1, Q0, Q1, rfl, ⟨hu0, _, _⟩, ⟨hu1, _, _⟩, _, hE2⟩
  clear p0 p1 p2 p3
  have hsp2 := hsp w2 _ _ hu0.any hu1.any
  obtain ⟨g0, gcap0, k0, _, hD0, hC0, _, _⟩ := list_shape H0 hu0
  obtain ⟨g1, gcap1, k1, _, hD1, hC1, _, _⟩ := list_shape H1 hu1
  subst hC0 hC1
  clear hD0 hD1 hsp
  go_wp2_with fail
  refine hsp2.mono ?_
  rintro e w3 ⟨wa, wl, wk, rfl, hW0, hE3⟩
  clear hsp2 hu0 hu1
  have hB3 := (hE1.trans hE2).trans hE3
  obtain ⟨p0, p1, p2, p3⟩ := hA w3 (hAext _ hB3)
  go_wp2_with fail
  refine (hto _ (hE0.trans hB3)).mono ?_
  rintro e w4 ⟨u0, u1, Q0', Q1', rfl, ⟨hu0, ho0, hq0⟩, ⟨hu1, ho1, hq1⟩, hdq, hE4⟩
  clear p0 p1 p2 p3
  obtain ⟨b0, bcap0, m0, _, hD0, hC0, _, _⟩ := list_shape H0 hu0
  obtain ⟨b1, bcap1, m1, _, hD1, hC1, _, _⟩ := list_shape H1 hu1
  subst hC0 hC1
  clear hD0 hD1
  have hE5 : Ext w4 (w4.alloc (.cells #[.slice b0 m0 bcap0, .slice b1 m1 bcap1, .int .i64 x2, .int .i64 x3] 32)) := (Ext.refl _).alloc _
  have hB5 := (hB3.trans hE4).trans hE5
  have him5 := him _ _ _ (hu0.any.ext hE5) (hu1.any.ext hE5)
  go_wp2_with fail
  refine him5.mono ?_
  rintro e w6 ⟨ga, gl, gk, rfl, hgD, hgO, hE6⟩
  clear him5
  have hB6 := hB5.trans hE6
  have hzw := hE0.le
  have hz1 := hE1.le
  have hz2 := hE2.le
  have hz3 := hE3.le
  have hz4 := hE4.le
  have hz5 : (w4.alloc (.cells #[.slice b0 m0 bcap0, .slice b1 m1 bcap1, .int .i64 x2, .int .i64 x3] 32)).heap.size = w4.heap.size + 1 := by simp
  have hz6 := hE6.le
  rw [hz5] at hgD hgO hz6
  have hz0' : (w.alloc (.cells #[.slice a0 l0 cap0, .slice a1 l1 cap1, .int .i64 x2, .int .i64 x3] 25)).heap.size = w.heap.size + 1 := by simp
  rw [hz0'] at hz1
  clear hz5 hz0' hzw
  have hE36 := hE4.trans (hE5.trans hE6)
  have hq6 := heq _ _ _ _ w6 hgD (hW0.ext hE36)
  go_wp2_with fail
  refine hq6.mono ?_
  rintro e w7 ⟨rfl, hE7⟩
  clear hq6
  have HK : Hid (∀ W, Ext w7 W → (W.cell? ⟨w.heap.size, 0, none⟩ = some (.slice a0 l0 cap0) ∧ W.cell? ⟨w.heap.size, 1, none⟩ = some (.slice a1 l1 cap1) ∧ W.cell? ⟨w.heap.size, 2, none⟩ = some (.int .i64 x2) ∧ W.cell? ⟨w.heap.size, 3, none⟩ = some (.int .i64 x3)) ∧ (W.cell? ⟨w4.heap.size, 0, none⟩ = some (.slice b0 m0 bcap0) ∧ W.cell? ⟨w4.heap.size, 1, none⟩ = some (.slice b1 m1 bcap1) ∧ W.cell? ⟨w4.heap.size, 2, none⟩ = some (.int .i64 x2) ∧ W.cell? ⟨w4.heap.size, 3, none⟩ = some (.int .i64 x3))) := fun W hW => by
    have hB := hE6.trans (hE7.trans hW)
    exact ⟨hA W (hAext _ (hB6.trans (hE7.trans hW))), box_cell hB 0 _ rfl, box_cell hB 1 _ rfl, box_cell hB 2 _ rfl, box_cell hB 3 _ rfl⟩
  have hv0 := fun (W : World) (hW : Ext w7 W) => hu0.any.ext ((hE5.trans (hE6.trans hE7)).trans hW)
  have hv1 := fun (W : World) (hW : Ext w7 W) => hu1.any.ext ((hE5.trans (hE6.trans hE7)).trans hW)
  have hA7 := hE0.trans (hB6.trans hE7)
  go_wp2_with fail
  have hcur : Ext w7 w7.drew := (Ext.refl _).drew
  refine wp_region_held_drew (S := (fun W => (W.cell? ⟨w.heap.size, 0, none⟩ = some (.slice a0 l0 cap0) ∧ W.cell? ⟨w.heap.size, 1, none⟩ = some (.slice a1 l1 cap1) ∧ W.cell? ⟨w.heap.size, 2, none⟩ = some (.int .i64 x2) ∧ W.cell? ⟨w.heap.size, 3, none⟩ = some (.int .i64 x3)) ∧ (W.cell? ⟨w4.heap.size, 0, none⟩ = some (.slice b0 m0 bcap0) ∧ W.cell? ⟨w4.heap.size, 1, none⟩ = some (.slice b1 m1 bcap1) ∧ W.cell? ⟨w4.heap.size, 2, none⟩ = some (.int .i64 x2) ∧ W.cell? ⟨w4.heap.size, 3, none⟩ = some (.int .i64 x3)))) (by kernel_rfl) (HK.out _ hcur) (fun hHeld => ?_)
  refine wpAnyH_take (i := 0) (oi := ⟨some 42, .load 32 (.tmp 11), 32, _, #[], none⟩) (v := ?_) rfl (by kernel_rfl) (by kernel_rfl) (by kernel_rfl) (fun _ _ _ h => h) (Or.inl ⟨by rfl, ?yyA0⟩) hHeld ?rrA0
  case yyA0 => (intro w hSw; (try dsimp only at hSw); go_simp; first | done | with_reducible rfl)
  try simp only [Act.put, putA, putB, putC]
  refine wpAnyH_take (i := 1) (oi := ⟨some 43, .load 25 (.tmp 4), 25, _, #[], none⟩) (v := ?_) rfl (by kernel_rfl) (by kernel_rfl) (by kernel_rfl) (fun _ _ _ h => h) (Or.inl ⟨by rfl, ?yyA1⟩) hHeld ?rrA1
  case yyA1 => (intro w hSw; (try dsimp only at hSw); go_simp; first | done | with_reducible rfl)
  try simp only [Act.put, putA, putB, putC]
  refine wpAnyH_ready (rs := [2]) (by kernel_rfl) (by simp) ?_
  refine AllReadyH.cons (o := ⟨some 44, .call { callee := .value (.func 6), args := #[.tmp 43], argTypes := #[25] }, 32, _, #[⟨1, .data⟩], none⟩) rfl (fun K hK => ?_) AllReadyH.nil
  go_simp
  refine (hto _ (hA7.trans hcur)).mono ?_
  rintro e w8 ⟨u0, u1, Q4, Q7, rfl, ⟨hu0', _, _⟩, ⟨hu1', _, _⟩, _, hE8⟩
  replace hcur := hcur.trans hE8
  obtain ⟨y0, ycap0, n0, _, hD0, hC0, _, _⟩ := list_shape H0 hu0'
  obtain ⟨y1, ycap1, n1, _, hD1, hC1, _, _⟩ := list_shape H1 hu1'
  subst hC0 hC1
  clear hD0 hD1
  go_wp2_with fail
  refine hK.out _ _ (HK.out _ hcur) (fun hHeld => ?_)
  clear hK K
  try simp only [Act.put, putA, putB, putC]
  refine wpAnyH_ready (rs := [3]) (by kernel_rfl) (by simp) ?_
  refine AllReadyH.cons (o := ⟨some 45, .call { callee := .value (.func 9), args := #[.tmp 42, .tmp 44], argTypes := #[32, 32] }, 4, _, #[⟨0, .data⟩, ⟨2, .data⟩, ⟨2, .chain⟩], none⟩) rfl (fun K hK => ?_) AllReadyH.nil
  go_simp
  refine (eqGraph_any anyB anyB d0 _ _ d1 _ _ x2 x3 _ H0 (hv0 _ hcur) hu0'.any H1 (hv1 _ hcur) hu1'.any).mono ?_
  rintro e w9 ⟨rfl, hE9⟩
  replace hcur := hcur.trans hE9
  go_wp2_with fail
  refine hK.out _ _ (HK.out _ hcur) (fun hHeld => ?_)
  clear hK K
  try simp only [Act.put, putA, putB, putC]
  refine wpAnyH_take (i := 4) (oi := ⟨some 46, .unOp .not 4 (.tmp 45), 4, _, #[⟨3, .data⟩], none⟩) (v := ?_) rfl (by kernel_rfl) (by kernel_rfl) (by kernel_rfl) (fun _ _ _ h => h) (Or.inl ⟨by rfl, ?yyA4⟩) hHeld ?rrA4
  case yyA4 => (intro w hSw; (try dsimp only at hSw); go_simp; first | done | with_reducible rfl)
  try simp only [Act.put, putA, putB, putC]
  refine wpAnyH_done (by kernel_rfl) ?_ _
  obtain ⟨⟨p0, p1, p2, p3⟩, q0, q1, q2, q3⟩ := HK.out _ hcur
  clear hv0 hv1 hu0' hu1' HK hHeld
  have hE49 : Ext w4 w9 := hE5.trans (hE6.trans (hE7.trans hcur))
  have hE69 : Ext w6 w9 := hE7.trans hcur
  have hz9 := hE69.le
  have hmark := markGraph_any d0 d1 _ _ x2 x3 Q0' Q1' w9 1 1 rfl H0 H1 (ho0.ext hE49) (ho1.ext hE49) (small_lenOk _ s0) (small_lenOk _ s1) (fun x hx => by have := (hq0 x hx).2; omega) hdq hcnt.out
  have hqq : ∀ x, Q0' x ∨ Q1' x → w3.heap.size ≤ x ∧ x < w4.heap.size := fun x hx => hx.elim (hq0 x) (hq1 x)
  go_wp2_with fail
  refine hmark.mono ?_
  rintro e w10 ⟨rfl, hO10⟩
  clear hmark p0 p1 p2 p3 q0 q1 q2 q3
  have hz10 := hO10.size
  have hg10 := (hgD.ext hE69).only hO10 (fun x hx hx2 => by have h1 := (hqq x hx2).2; have h2 := hx.1; omega)
  have ho10 := (hgO.ext hE69).only hO10 (fun x hx hx2 => by have h1 := (hqq x hx2).2; have h2 := hx.1; omega)
  have hw10 := ((hW0.ext hE36).ext hE69).only hO10 (fun x hx hx2 => by have h1 := (hqq x hx2).1; have h2 := hx.2; omega)
  have hX10 : Ext w w10 := hO10.toExt (hA7.trans hcur) (fun x hx => by have := (hqq x hx).1; omega)
  have hA10 : w10.heap[w.heap.size]? = (w.alloc (.cells #[.slice a0 l0 cap0, .slice a1 l1 cap1, .int .i64 x2, .int .i64 x3] 25)).heap[w.heap.size]? := by
    rw [hO10.block _ (by omega) (fun hx => by have := (hqq _ hx).1; omega)]; exact hAext _ ((hB6.trans hE7).trans hcur)
  have hq10 := heq _ _ _ _ w10 hg10 hw10
  have hneg : ¬ (1 + (cntD d0 : Int) + (cntD d1 : Int)) < 0 := by omega
  clear hg10
  go_wp2_with fail
  refine hq10.mono ?_
  rintro e w11 ⟨rfl, hE11⟩
  clear hq10
  have hz11 := hE11.le
  have hmark := hmk _ _ w11 1 1 rfl (ho10.ext hE11) (ints_lenOk ans (by omega)).len (by rw [hcn.out]; omega)
  rw [hcn.out] at hmark
  go_wp2_with fail
  refine hmark.mono ?_
  rintro e w12 ⟨rfl, hO12, hD12⟩
  clear hmark ho10
  have hz12 := hO12.size
  have hw12 := (hw10.ext hE11).only hO12 (fun x hx hx2 => by have h1 := hx.2; have h2 := hx2.1; omega)
  have hX12 : Ext w w12 := hO12.toExt (hX10.trans hE11) (fun x hx => by have := hx.1; omega)
  have hA12 : w12.heap[w.heap.size]? = (w.alloc (.cells #[.slice a0 l0 cap0, .slice a1 l1 cap1, .int .i64 x2, .int .i64 x3] 25)).heap[w.heap.size]? := by
    rw [hO12.block _ (by omega) (fun hx => by have := hx.1; omega), Below.block hE11 _ (by omega)]; exact hA10
  have hheld := fun (W : World) (hW : Ext w12 W) => hhl _ _ W 1 1 rfl (hD12.ext hW) (by rw [hcn.out]; omega)
  rw [hcn.out] at hheld
  have hneg2 : ¬ (1 + (ans.length : Int)) < 0 := by omega
  clear hw10
  go_wp2_with fail
  refine (hheld _ (Ext.refl _)).mono ?_
  rintro e w13 ⟨rfl, hE13⟩
  have hz13 := hE13.le
  obtain ⟨p0, p1, p2, p3⟩ := hA w13 (by rw [Below.block hE13 _ (by omega)]; exact hA12)
  go_wp2_with fail
  refine (hto _ (hX12.trans hE13)).mono ?_
  rintro e w14 ⟨u0, u1, Q4', Q7', rfl, ⟨hu0, _, _⟩, ⟨hu1, _, _⟩, _, hE14⟩
  have him14 := him w14 _ _ hu0.any hu1.any
  obtain ⟨e0, ecap0, n0', _, hD0, hC0, _, _⟩ := list_shape H0 hu0
  obtain ⟨e1, ecap1, n1', _, hD1, hC1, _, _⟩ := list_shape H1 hu1
  subst hC0 hC1
  clear hD0 hD1 p0 p1 p2 p3
  go_wp2_with fail
  refine him14.mono ?_
  rintro e w15 ⟨ha, hl, hk, rfl, hhD, _, hE15⟩
  clear him14
  have hE12 := hE13.trans (hE14.trans hE15)
  have hq15 := heq _ _ _ _ w15 hhD (hw12.ext hE12)
  go_wp2_with fail
  refine hq15.mono ?_
  rintro e w16 ⟨rfl, hE16⟩
  clear hq15
  go_wp2_with fail
  refine (hheld _ (hE12.trans hE16)).mono ?_
  rintro e w17 ⟨rfl, hE17⟩
  go_wp2
  go_ret
  exact ⟨rfl, hX12.trans (hE12.trans (hE16.trans hE17))⟩
end Go.Proofs.YtejahpkpmbnmkaaGreat
