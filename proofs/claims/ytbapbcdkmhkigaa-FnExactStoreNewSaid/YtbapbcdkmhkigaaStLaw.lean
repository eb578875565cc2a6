/- At every list of rules the law FnExactStoreNew answers true. -/
import Derived.Test.YtbapbcdkmhkigaaStNew
import Derived.Test.YtbapbcdkmhkigaaStNil
import Derived.Test.YtbapbcdkmhkigaaDSz
import Derived.Test.YtbapbcdkmhkigaaDToRule
import Derived.Test.YtbapbcdkmhkigaaWithThy
namespace Go.Proofs.Ytbapbcdkmhkigaa
open Go.RowKit Go.Deep

/-- A store without anything but rules, in a box of its own. -/
def boxSt (w : World) (r : Value) : World := w.alloc (.cells #[.slice none 0 0, .slice none 0 0, .int .i64 0, .int .i64 0, r, .int .i64 0, .slice none 0 0, .slice none 0 0, .int .i64 0] 32)
def stC (r : Value) : List Value := [.slice none 0 0, .slice none 0 0, .int .i64 0, .int .i64 0, r, .int .i64 0, .slice none 0 0, .slice none 0 0, .int .i64 0]
def FSt (W : World) (b : Nat) (r : Value) : Prop := ∀ j c, (stC r)[j]? = some c → W.cell? ⟨b, j, none⟩ = some c
theorem FSt.of {W W' : World} {b : Nat} {r : Value} (h : FSt W b r) (e : W'.heap[b]? = W.heap[b]?) : FSt W' b r := fun j c hc => by rw [World.cell?_of_block e]; exact h j c hc
theorem boxSt_ext (w : World) (r : Value) : Ext w (boxSt w r) := (Ext.refl _).alloc _
theorem boxSt_size (w : World) (r : Value) : (boxSt w r).heap.size = w.heap.size + 1 := by simp [boxSt]
set_option maxHeartbeats 1000000 in
theorem boxSt_at (w : World) (r : Value) : FSt (boxSt w r) w.heap.size r := by
  intro j c hc
  have := box_cell (Ext.refl (boxSt w r)) j c (by simpa [stC] using hc)
  exact this
theorem stD_cnt {d : D} (H : Has d (.list 7)) (s : SmallD d) (hl : (lenD d : Int) ≤ 1048576) : 1 + cntD (stD d) ≤ 1000000000 := by
  have := cnt_list H s
  unfold stD
  split
  · omega
  · simp [emptyD, cntD, sumN]
theorem stD_lenOk {d : D} (s : SmallD d) : LenOk (stD d) := by
  unfold stD
  split
  · exact small_lenOk _ s
  · exact ⟨Nat.zero_le _, fun i hi => by omega⟩

set_option maxRecDepth 100000 in
set_option maxHeartbeats 8000000 in
theorem stLaw (d : D) (v : Value) (w : World) (H : Has d (.list 7)) (hv : DIn anyB w d v) :
    Calls Try.prog 3 #[v] w fun e w' => e = .returned (.bool true) ∧ Ext w w' := by
  obtain ⟨va, vcap, vl, vf, hvd, rfl, _, _⟩ := list_shape H hv
  clear hvd
  go_enter Try.func3, Try.ntmps3
  go_wp2_with fail
  refine (szRuleS_any d H anyB _ _ _ hv (by omega) (by omega)).mono ?_
  rintro e w1 ⟨q, rfl, hq1, hq2, hq, hE1⟩
  by_cases hr0 : q < 0
  · go_wp2
    go_ret
    exact ⟨rfl, hE1⟩
  obtain ⟨s0, hlen⟩ := hq (by omega)
  clear hq
  have hcnt : Hid (1 + cntD d ≤ 1000000000) := by have := cnt_list H s0; show _ ≤ _; omega
  have hcs : Hid (1 + cntD (stD d) ≤ 1000000000) := stD_cnt H s0 (by omega)
  have hto := fun (W : World) (hW : Ext w W) => toRuleS_any d H anyB _ W (hv.ext hW) s0
  have hsp := fun (W : World) (u : Value) (k : DIn anyB W d u) => specStoreNew_any d H anyB u W k
  have him := fun (W : World) (u : Value) (k : DIn anyB W d u) => implStoreNew_any d H anyB u W k
  have Hs := stD_has H
  have Ls := stD_lenOk s0
  have hmx := fun (Q : Nat → Prop) (u : Value) (W : World) (o : Own W d Q u) => markRuleS_any d H (small_lenOk _ s0) Q u W 1 1 rfl o (small_lenOk _ s0).len hcnt.out
  generalize rulesB (rulXs d) = b at *
  generalize stD d = sd at *
  have hnd : ¬ (1 + (cntD d : Int)) < 0 := by omega
  have hns : ¬ (1 + (cntD sd : Int)) < 0 := by omega
  go_wp2_with fail
  refine (hto _ hE1).mono ?_
  rintro e w2 ⟨u, rfl, hu, hou, hE2⟩
  have hsp2 := hsp w2 _ hu.any
  unfold stV at hsp2
  obtain ⟨ua, ucap, ul, uf, hud, hu2, _, _⟩ := list_shape H hu
  subst hu2
  clear hud
  go_wp2_with fail
  refine hsp2.mono ?_
  rintro e w3 ⟨ra, rl, rc, rfl, ⟨hD3, hO3⟩, hE3⟩
  clear hsp2 hsp hu hou
  go_wp2_with fail
  generalize hW4 : World.alloc w3 _ = w4
  have hw4 : w4 = boxSt w3 (.slice ra rl rc) := hW4.symm
  clear hW4
  have hA : FSt w4 w3.heap.size (.slice ra rl rc) := by rw [hw4]; exact boxSt_at _ _
  have hE4 : Ext w3 w4 := by rw [hw4]; exact boxSt_ext _ _
  have hz4 : w4.heap.size = w3.heap.size + 1 := by rw [hw4]; exact boxSt_size _ _
  clear hw4
  have hX4 : Ext w w4 := ((hE1.trans hE2).trans hE3).trans hE4
  have hD4 := hD3.ext hE4
  refine (hto _ hX4).mono ?_
  rintro e w5 ⟨x, rfl, hx, hox, hE5⟩
  have him5 := him w5 _ hx.any
  unfold stV at him5
  obtain ⟨xa, xcap, xl, xf, hxd, hx2, _, _⟩ := list_shape H hx
  subst hx2
  clear hxd
  go_wp2_with fail
  refine him5.mono ?_
  rintro e w6 ⟨ga, gl, gc, rfl, ⟨hgD, hgO⟩, hE6⟩
  clear him5
  have hz5 := hE5.le
  have hz6 := hE6.le
  have hE7 : Ext w6 (boxSt w6 (.slice ga gl gc)) := boxSt_ext _ _
  have hB : FSt (boxSt w6 (.slice ga gl gc)) w6.heap.size (.slice ga gl gc) := boxSt_at _ _
  have hz7 : (boxSt w6 (.slice ga gl gc)).heap.size = w6.heap.size + 1 := boxSt_size _ _
  have hE57 := (hE5.trans hE6).trans hE7
  have hA7 : FSt (boxSt w6 (.slice ga gl gc)) w3.heap.size (.slice ra rl rc) := hA.of (Below.block hE57 _ (by omega))
  have p0 : (w6.alloc (.cells #[.slice none 0 0, .slice none 0 0, .int .i64 0, .int .i64 0, .slice ga gl gc, .int .i64 0, .slice none 0 0, .slice none 0 0, .int .i64 0] 32)).cell? ⟨w3.heap.size, 0, none⟩ = some (.slice none 0 0) := hA7 0 _ rfl
  have p1 : (w6.alloc (.cells #[.slice none 0 0, .slice none 0 0, .int .i64 0, .int .i64 0, .slice ga gl gc, .int .i64 0, .slice none 0 0, .slice none 0 0, .int .i64 0] 32)).cell? ⟨w3.heap.size, 1, none⟩ = some (.slice none 0 0) := hA7 1 _ rfl
  have p2 : (w6.alloc (.cells #[.slice none 0 0, .slice none 0 0, .int .i64 0, .int .i64 0, .slice ga gl gc, .int .i64 0, .slice none 0 0, .slice none 0 0, .int .i64 0] 32)).cell? ⟨w3.heap.size, 2, none⟩ = some (.int .i64 0) := hA7 2 _ rfl
  have p3 : (w6.alloc (.cells #[.slice none 0 0, .slice none 0 0, .int .i64 0, .int .i64 0, .slice ga gl gc, .int .i64 0, .slice none 0 0, .slice none 0 0, .int .i64 0] 32)).cell? ⟨w3.heap.size, 3, none⟩ = some (.int .i64 0) := hA7 3 _ rfl
  have p4 : (w6.alloc (.cells #[.slice none 0 0, .slice none 0 0, .int .i64 0, .int .i64 0, .slice ga gl gc, .int .i64 0, .slice none 0 0, .slice none 0 0, .int .i64 0] 32)).cell? ⟨w3.heap.size, 4, none⟩ = some (.slice ra rl rc) := hA7 4 _ rfl
  have p5 : (w6.alloc (.cells #[.slice none 0 0, .slice none 0 0, .int .i64 0, .int .i64 0, .slice ga gl gc, .int .i64 0, .slice none 0 0, .slice none 0 0, .int .i64 0] 32)).cell? ⟨w3.heap.size, 5, none⟩ = some (.int .i64 0) := hA7 5 _ rfl
  have p6 : (w6.alloc (.cells #[.slice none 0 0, .slice none 0 0, .int .i64 0, .int .i64 0, .slice ga gl gc, .int .i64 0, .slice none 0 0, .slice none 0 0, .int .i64 0] 32)).cell? ⟨w3.heap.size, 6, none⟩ = some (.slice none 0 0) := hA7 6 _ rfl
  have p7 : (w6.alloc (.cells #[.slice none 0 0, .slice none 0 0, .int .i64 0, .int .i64 0, .slice ga gl gc, .int .i64 0, .slice none 0 0, .slice none 0 0, .int .i64 0] 32)).cell? ⟨w3.heap.size, 7, none⟩ = some (.slice none 0 0) := hA7 7 _ rfl
  have p8 : (w6.alloc (.cells #[.slice none 0 0, .slice none 0 0, .int .i64 0, .int .i64 0, .slice ga gl gc, .int .i64 0, .slice none 0 0, .slice none 0 0, .int .i64 0] 32)).cell? ⟨w3.heap.size, 8, none⟩ = some (.int .i64 0) := hA7 8 _ rfl
  go_wp2_with fail
  clear p0 p1 p2 p3 p4 p5 p6 p7 p8
  generalize hW7 : World.alloc w6 _ = w7
  have hw7 : boxSt w6 (.slice ga gl gc) = w7 := hW7
  clear hW7
  rw [hw7] at hE7 hB hz7 hE57 hA7
  clear hw7
  have hgD7 := hgD.ext hE7
  have hgO7 := hgO.ext hE7
  have hr7 := hD4.ext hE57
  have hx7 := hx.ext (hE6.trans hE7)
  have hox7 := hox.ext (hE6.trans hE7)
  have hX7 : Ext w w7 := hX4.trans hE57
  have heq8 := eqStore_new _ _ sd (.slice ga gl gc) (.slice ra rl rc) w7 Hs hgD7 hr7
  unfold stV at heq8
  refine heq8.mono ?_
  rintro e w8 ⟨rfl, hE8⟩
  clear heq8
  go_wp2_with fail
  refine (hto _ (hX7.trans hE8)).mono ?_
  rintro e w9 ⟨y, rfl, hy, hoy, hE9⟩
  have heq10 := eqRuleS_any d H _ _ _ _ w9 (hx7.ext (hE8.trans hE9)) hy
  obtain ⟨ya, ycap, yl, yf, hyd, hy2, _, _⟩ := list_shape H hy
  subst hy2
  clear hyd
  go_wp2_with fail
  refine heq10.mono ?_
  rintro e w10 ⟨rfl, hE10⟩
  clear heq10 hy hoy
  have hE710 := (hE8.trans hE9).trans hE10
  have hX10 := hX7.trans hE710
  have hmk := hmx _ _ w10 (hox7.ext hE710)
  go_wp2_with fail
  refine hmk.mono ?_
  rintro e w11 ⟨rfl, hO11, _⟩
  clear hmk
  have hz8 := hE710.le
  have hzx := hE6.le
  have hqx : ∀ z, New w4.heap.size w5.heap.size z → w4.heap.size ≤ z ∧ z < w5.heap.size := fun z hz => hz
  have hA11 : FSt w11 w3.heap.size (.slice ra rl rc) := (hA7.of (Below.block hE710 _ (by omega))).of (hO11.block _ (by omega) (fun h => by have := hqx _ h; omega))
  have hB11 : FSt w11 w6.heap.size (.slice ga gl gc) := (hB.of (Below.block hE710 _ (by omega))).of (hO11.block _ (by omega) (fun h => by have := hqx _ h; omega))
  have hg11 := (hgD7.ext hE710).only hO11 (fun z hz h => by have := hqx _ h; have := hz.1; omega)
  have hgo11 := (hgO7.ext hE710).only hO11 (fun z hz h => by have := hqx _ h; have := hz.1; omega)
  have hr11 := (hr7.ext hE710).only hO11 (fun z hz h => by have := hqx _ h; have := hz.2; omega)
  have hX11 : Ext w w11 := hO11.toExt hX10 (fun z hz => by have := hqx _ hz; have := hX4.le; omega)
  have hz11 := hO11.size
  have p0 : w11.cell? ⟨w3.heap.size, 0, none⟩ = some (.slice none 0 0) := hA11 0 _ rfl
  have p1 : w11.cell? ⟨w3.heap.size, 1, none⟩ = some (.slice none 0 0) := hA11 1 _ rfl
  have p2 : w11.cell? ⟨w3.heap.size, 2, none⟩ = some (.int .i64 0) := hA11 2 _ rfl
  have p3 : w11.cell? ⟨w3.heap.size, 3, none⟩ = some (.int .i64 0) := hA11 3 _ rfl
  have p4 : w11.cell? ⟨w3.heap.size, 4, none⟩ = some (.slice ra rl rc) := hA11 4 _ rfl
  have p5 : w11.cell? ⟨w3.heap.size, 5, none⟩ = some (.int .i64 0) := hA11 5 _ rfl
  have p6 : w11.cell? ⟨w3.heap.size, 6, none⟩ = some (.slice none 0 0) := hA11 6 _ rfl
  have p7 : w11.cell? ⟨w3.heap.size, 7, none⟩ = some (.slice none 0 0) := hA11 7 _ rfl
  have p8 : w11.cell? ⟨w3.heap.size, 8, none⟩ = some (.int .i64 0) := hA11 8 _ rfl
  have q0 : w11.cell? ⟨w6.heap.size, 0, none⟩ = some (.slice none 0 0) := hB11 0 _ rfl
  have q1 : w11.cell? ⟨w6.heap.size, 1, none⟩ = some (.slice none 0 0) := hB11 1 _ rfl
  have q2 : w11.cell? ⟨w6.heap.size, 2, none⟩ = some (.int .i64 0) := hB11 2 _ rfl
  have q3 : w11.cell? ⟨w6.heap.size, 3, none⟩ = some (.int .i64 0) := hB11 3 _ rfl
  have q4 : w11.cell? ⟨w6.heap.size, 4, none⟩ = some (.slice ga gl gc) := hB11 4 _ rfl
  have q5 : w11.cell? ⟨w6.heap.size, 5, none⟩ = some (.int .i64 0) := hB11 5 _ rfl
  have q6 : w11.cell? ⟨w6.heap.size, 6, none⟩ = some (.slice none 0 0) := hB11 6 _ rfl
  have q7 : w11.cell? ⟨w6.heap.size, 7, none⟩ = some (.slice none 0 0) := hB11 7 _ rfl
  have q8 : w11.cell? ⟨w6.heap.size, 8, none⟩ = some (.int .i64 0) := hB11 8 _ rfl
  have heq12 := eqStore_new _ _ sd (.slice ga gl gc) (.slice ra rl rc) w11 Hs hg11 hr11
  unfold stV at heq12
  go_wp2_with fail
  refine heq12.mono ?_
  rintro e w12 ⟨rfl, hE12⟩
  clear heq12
  clear p0 p1 p2 p3 p4 p5 p6 p7 p8 q0 q1 q2 q3 q4 q5 q6 q7 q8
  have hz12 := hE12.le
  have hB12 := hB11.of (Below.block hE12 _ (by omega))
  have q0 : w12.cell? ⟨w6.heap.size, 0, none⟩ = some (.slice none 0 0) := hB12 0 _ rfl
  have q1 : w12.cell? ⟨w6.heap.size, 1, none⟩ = some (.slice none 0 0) := hB12 1 _ rfl
  have q2 : w12.cell? ⟨w6.heap.size, 2, none⟩ = some (.int .i64 0) := hB12 2 _ rfl
  have q3 : w12.cell? ⟨w6.heap.size, 3, none⟩ = some (.int .i64 0) := hB12 3 _ rfl
  have q4 : w12.cell? ⟨w6.heap.size, 4, none⟩ = some (.slice ga gl gc) := hB12 4 _ rfl
  have q5 : w12.cell? ⟨w6.heap.size, 5, none⟩ = some (.int .i64 0) := hB12 5 _ rfl
  have q6 : w12.cell? ⟨w6.heap.size, 6, none⟩ = some (.slice none 0 0) := hB12 6 _ rfl
  have q7 : w12.cell? ⟨w6.heap.size, 7, none⟩ = some (.slice none 0 0) := hB12 7 _ rfl
  have q8 : w12.cell? ⟨w6.heap.size, 8, none⟩ = some (.int .i64 0) := hB12 8 _ rfl
  have hmk := markStore_new _ sd (.slice ga gl gc) w12 Hs Ls (hgo11.ext hE12) (fun z hz => by have := hz.2; omega) hcs.out
  unfold stV at hmk
  go_wp2_with fail
  refine hmk.mono ?_
  rintro e w13 ⟨rfl, hO13, hD13⟩
  clear hmk
  clear q0 q1 q2 q3 q4 q5 q6 q7 q8
  have hA13 := (hA11.of (Below.block hE12 _ (by omega))).of (hO13.block _ (by omega) (fun h => by have := h.1; omega))
  have hB13 := hB12.of (hO13.block _ (by omega) (fun h => by have := h.2; omega))
  have hr13 := (hr11.ext hE12).only hO13 (fun z hz h => by have := h.1; have := hz.2; omega)
  have hX13 : Ext w w13 := hO13.toExt (hX11.trans hE12) (fun z hz => by have := hz.1; have := hX4.le; omega)
  have hz13 := hO13.size
  have hh := fun (W : World) (hW : Ext w13 W) => heldStore_new _ sd (.slice ga gl gc) W Hs (hD13.ext hW) hcs.out
  unfold stV at hh
  have q0 : w13.cell? ⟨w6.heap.size, 0, none⟩ = some (.slice none 0 0) := hB13 0 _ rfl
  have q1 : w13.cell? ⟨w6.heap.size, 1, none⟩ = some (.slice none 0 0) := hB13 1 _ rfl
  have q2 : w13.cell? ⟨w6.heap.size, 2, none⟩ = some (.int .i64 0) := hB13 2 _ rfl
  have q3 : w13.cell? ⟨w6.heap.size, 3, none⟩ = some (.int .i64 0) := hB13 3 _ rfl
  have q4 : w13.cell? ⟨w6.heap.size, 4, none⟩ = some (.slice ga gl gc) := hB13 4 _ rfl
  have q5 : w13.cell? ⟨w6.heap.size, 5, none⟩ = some (.int .i64 0) := hB13 5 _ rfl
  have q6 : w13.cell? ⟨w6.heap.size, 6, none⟩ = some (.slice none 0 0) := hB13 6 _ rfl
  have q7 : w13.cell? ⟨w6.heap.size, 7, none⟩ = some (.slice none 0 0) := hB13 7 _ rfl
  have q8 : w13.cell? ⟨w6.heap.size, 8, none⟩ = some (.int .i64 0) := hB13 8 _ rfl
  go_wp2_with fail
  refine (hh _ (Ext.refl _)).mono ?_
  rintro e w14 ⟨rfl, hE14⟩
  clear q0 q1 q2 q3 q4 q5 q6 q7 q8
  go_wp2_with fail
  refine (hto _ (hX13.trans hE14)).mono ?_
  rintro e w15 ⟨y, rfl, hy, _, hE15⟩
  have him16 := him w15 _ hy.any
  unfold stV at him16
  obtain ⟨ya, ycap, yl, yf, hyd, hy2, _, _⟩ := list_shape H hy
  subst hy2
  clear hyd
  go_wp2_with fail
  refine him16.mono ?_
  rintro e w16 ⟨ha, hl, hc, rfl, ⟨hhD, _⟩, hE16⟩
  clear him16 hy
  have hE1316 := (hE14.trans hE15).trans hE16
  have hz16 := hE1316.le
  have hE17 : Ext w16 (boxSt w16 (.slice ha hl hc)) := boxSt_ext _ _
  have hE1317 := hE1316.trans hE17
  have hA17 : FSt (boxSt w16 (.slice ha hl hc)) w3.heap.size (.slice ra rl rc) := hA13.of (Below.block hE1317 _ (by omega))
  have heq18 := eqStore_new _ _ sd (.slice ha hl hc) (.slice ra rl rc) _ Hs (hhD.ext hE17) (hr13.ext hE1317)
  have hB17 := hB13.of (Below.block hE1317 _ (by omega))
  have hz17 := hE1317.le
  unfold stV at heq18
  have p0 : (w16.alloc (.cells #[.slice none 0 0, .slice none 0 0, .int .i64 0, .int .i64 0, .slice ha hl hc, .int .i64 0, .slice none 0 0, .slice none 0 0, .int .i64 0] 32)).cell? ⟨w3.heap.size, 0, none⟩ = some (.slice none 0 0) := hA17 0 _ rfl
  have p1 : (w16.alloc (.cells #[.slice none 0 0, .slice none 0 0, .int .i64 0, .int .i64 0, .slice ha hl hc, .int .i64 0, .slice none 0 0, .slice none 0 0, .int .i64 0] 32)).cell? ⟨w3.heap.size, 1, none⟩ = some (.slice none 0 0) := hA17 1 _ rfl
  have p2 : (w16.alloc (.cells #[.slice none 0 0, .slice none 0 0, .int .i64 0, .int .i64 0, .slice ha hl hc, .int .i64 0, .slice none 0 0, .slice none 0 0, .int .i64 0] 32)).cell? ⟨w3.heap.size, 2, none⟩ = some (.int .i64 0) := hA17 2 _ rfl
  have p3 : (w16.alloc (.cells #[.slice none 0 0, .slice none 0 0, .int .i64 0, .int .i64 0, .slice ha hl hc, .int .i64 0, .slice none 0 0, .slice none 0 0, .int .i64 0] 32)).cell? ⟨w3.heap.size, 3, none⟩ = some (.int .i64 0) := hA17 3 _ rfl
  have p4 : (w16.alloc (.cells #[.slice none 0 0, .slice none 0 0, .int .i64 0, .int .i64 0, .slice ha hl hc, .int .i64 0, .slice none 0 0, .slice none 0 0, .int .i64 0] 32)).cell? ⟨w3.heap.size, 4, none⟩ = some (.slice ra rl rc) := hA17 4 _ rfl
  have p5 : (w16.alloc (.cells #[.slice none 0 0, .slice none 0 0, .int .i64 0, .int .i64 0, .slice ha hl hc, .int .i64 0, .slice none 0 0, .slice none 0 0, .int .i64 0] 32)).cell? ⟨w3.heap.size, 5, none⟩ = some (.int .i64 0) := hA17 5 _ rfl
  have p6 : (w16.alloc (.cells #[.slice none 0 0, .slice none 0 0, .int .i64 0, .int .i64 0, .slice ha hl hc, .int .i64 0, .slice none 0 0, .slice none 0 0, .int .i64 0] 32)).cell? ⟨w3.heap.size, 6, none⟩ = some (.slice none 0 0) := hA17 6 _ rfl
  have p7 : (w16.alloc (.cells #[.slice none 0 0, .slice none 0 0, .int .i64 0, .int .i64 0, .slice ha hl hc, .int .i64 0, .slice none 0 0, .slice none 0 0, .int .i64 0] 32)).cell? ⟨w3.heap.size, 7, none⟩ = some (.slice none 0 0) := hA17 7 _ rfl
  have p8 : (w16.alloc (.cells #[.slice none 0 0, .slice none 0 0, .int .i64 0, .int .i64 0, .slice ha hl hc, .int .i64 0, .slice none 0 0, .slice none 0 0, .int .i64 0] 32)).cell? ⟨w3.heap.size, 8, none⟩ = some (.int .i64 0) := hA17 8 _ rfl
  go_wp2_with fail
  refine heq18.mono ?_
  rintro e w18 ⟨rfl, hE18⟩
  clear heq18
  clear p0 p1 p2 p3 p4 p5 p6 p7 p8
  have hB18 := hB17.of (Below.block hE18 _ (by omega))
  have q0 : w18.cell? ⟨w6.heap.size, 0, none⟩ = some (.slice none 0 0) := hB18 0 _ rfl
  have q1 : w18.cell? ⟨w6.heap.size, 1, none⟩ = some (.slice none 0 0) := hB18 1 _ rfl
  have q2 : w18.cell? ⟨w6.heap.size, 2, none⟩ = some (.int .i64 0) := hB18 2 _ rfl
  have q3 : w18.cell? ⟨w6.heap.size, 3, none⟩ = some (.int .i64 0) := hB18 3 _ rfl
  have q4 : w18.cell? ⟨w6.heap.size, 4, none⟩ = some (.slice ga gl gc) := hB18 4 _ rfl
  have q5 : w18.cell? ⟨w6.heap.size, 5, none⟩ = some (.int .i64 0) := hB18 5 _ rfl
  have q6 : w18.cell? ⟨w6.heap.size, 6, none⟩ = some (.slice none 0 0) := hB18 6 _ rfl
  have q7 : w18.cell? ⟨w6.heap.size, 7, none⟩ = some (.slice none 0 0) := hB18 7 _ rfl
  have q8 : w18.cell? ⟨w6.heap.size, 8, none⟩ = some (.int .i64 0) := hB18 8 _ rfl
  go_wp2_with fail
  refine (hh _ (hE1317.trans hE18)).mono ?_
  rintro e w19 ⟨rfl, hE19⟩
  clear q0 q1 q2 q3 q4 q5 q6 q7 q8
  go_wp2
  go_ret
  exact ⟨rfl, hX13.trans (hE1317.trans (hE18.trans hE19))⟩
end Go.Proofs.Ytbapbcdkmhkigaa
