/- What spec.PropSet answers. -/
import Derived.Test.YteijgejpenlgjaaGreatTk
import Derived.Test.YteijgejpenlgjaaGreatPsSet
import Derived.Test.YteijgejpenlgjaaGreatPsImpl
import Derived.Test.YteijgejpenlgjaaGreatL2Copy
import Derived.Test.YteijgejpenlgjaaGreatGDef
namespace Go.Proofs.YteijgejpenlgjaaGreat
open Go.RowKit Go.Deep

theorem psB_ok3 {d0 d1 : D} {vk vn : Int} {s : ByteArray} {k n : Int} {t : ByteArray} {d3 : D} (h : okN 3 (.mk k n t (vsOf d3)) = false) : psB d0 d1 vk vn s k n t d3 = false := by
 rw [psB_at]
 cases propsAt d0 d1 vk vn with
 | none => rfl
 | some d => show proOk d s k n t d3 = false; rw [proOk, h, Bool.and_false, Bool.false_and]
set_option maxRecDepth 100000 in
set_option maxHeartbeats 16000000 in
theorem specPropSet_any (S S2 S3 : Nat → Prop) (d0 d1 d2 d3 : D) (vk vn : Int) (vt : ByteArray) (s : ByteArray) (k n : Int) (t : ByteArray) (c0 c1 c2 c3 : Value) (x2 x3 : Int) (w : World) (H0 : Has d0 (.list 4)) (h0 : DIn S w d0 c0) (s0 : SmallD d0) (H1 : Has d1 (.list 5)) (h1 : DIn S w d1 c1) (s1 : SmallD d1) (H2 : Has d2 (.list 2)) (h2 : DIn S2 w d2 c2) (H3 : Has d3 (.list 2)) (h3 : DIn S3 w d3 c3) (s3 : SmallD d3)
  (zvk : (Lit.int .i64 vk).wf = true) (zvn : (Lit.int .i64 vn).wf = true) (zvt : vt.size ≤ maxLen) (zs : s.size ≤ maxLen) (zk : (Lit.int .i64 k).wf = true) (zn : (Lit.int .i64 n).wf = true) (zt : t.size ≤ maxLen) (b : Bool) (hb : psV d0 d1 d2 vk vn vt s k n t d3 = b) (g : Bool) (hg : graphB d0 d1 x2 x3 = g) :
  Calls Tryz.prog 6 #[.agg #[c0, c1, .int .i64 x2, .int .i64 x3], .agg #[.int .i64 vk, .int .i64 vn, .string vt, c2], .string s, .agg #[.int .i64 k, .int .i64 n, .string t, c3]] w fun e w' => ∃ u0 u1, e = .returned (.tuple #[.agg #[u0, u1, .int .i64 (edX g x2), .int .i64 (edX g x3)], .bool (g && b)]) ∧ DIn (New w.heap.size w'.heap.size) w' (psD0 g b d0 vk vn s k n t d3) u0 ∧ DIn (New w.heap.size w'.heap.size) w' (psD1 g b d1 vk vn s k n t d3) u1 ∧ Ext w w' := by
 have hok := fun (W : World) (hW : Ext w W) => specGraphOk_any S d0 d1 c0 c1 x2 x3 W H0 (h0.ext hW) H1 (h1.ext hW)
 have hcp := fun (W : World) (hW : Ext w W) => l2Copy_both S d0 d1 c0 c1 x2 x3 W H0 (h0.ext hW) s0 H1 (h1.ext hW) s1
 have hv2 := fun (W : World) (hW : Ext w W) => specValueOk_any (.mk vk vn vt (vsOf d2)) 0 _ W (valIn_of zvk zvn zvt H2 (h2.ext hW))
 have hv3 := fun (W : World) (hW : Ext w W) => specValueOk_any (.mk k n t (vsOf d3)) 0 _ W (valIn_of zk zn zt H3 (h3.ext hW))
 have hgl : g = true → _ := fun e => graph_len (hg.trans e)
 have hpn : g = true → ∀ i, i < d0.len! → propsB (d0.at! i 2) = true := fun e => graph_propsN (hg.trans e)
 have hpe : g = true → ∀ i, i < d1.len! → propsB (d1.at! i 4) = true := fun e => graph_propsE (hg.trans e)
 rw [hg] at hok
 obtain ⟨a0, cap0, l0, _, hq0, rfl, _, _⟩ := list_shape H0 h0
 obtain ⟨a1, cap1, l1, _, hq1, rfl, _, _⟩ := list_shape H1 h1
 obtain ⟨a2, p2, l2, _, hq2, rfl, _, _⟩ := list_shape H2 h2
 obtain ⟨a3, p3, l3, _, hq3, rfl, _, _⟩ := list_shape H3 h3
 have hd0' : Hid (d0 = .list 3 d0.len! d0.at!) := by show d0 = _; rw [hq0]; rfl
 have hd1' : Hid (d1 = .list 5 d1.len! d1.at!) := by show d1 = _; rw [hq1]; rfl
 clear hq0 hq1 hq2 hq3 h0 h1 h2
 obtain ⟨Wb, hWb⟩ : ∃ Wb, Wb = (((w.alloc (.cells #[.slice a0 l0 cap0, .slice a1 l1 cap1, .int .i64 x2, .int .i64 x3] 34)).alloc (.cells #[.int .i64 vk, .int .i64 vn, .string vt, .slice a2 l2 p2] 40)).alloc (.cells #[.int .i64 k, .int .i64 n, .string t, .slice a3 l3 p3] 40)).alloc (.cells #[.slice none 0 0, .slice none 0 0, .int .i64 0, .int .i64 0] 34) := ⟨_, rfl⟩
 obtain ⟨gb, hgb⟩ : ∃ m, m = w.heap.size := ⟨_, rfl⟩
 have hEw : Ext w Wb := by rw [hWb]; exact ((((Ext.refl _).alloc _).alloc _).alloc _).alloc _
 have hzb : Wb.heap.size ≤ gb + 4 := by rw [hWb, hgb]; simp
 have hzb2 : gb + 4 ≤ Wb.heap.size := by rw [hWb, hgb]; simp
 have hblk0 : Wb.heap[gb]? = some (.cells #[.slice a0 l0 cap0, .slice a1 l1 cap1, .int .i64 x2, .int .i64 x3] 34 (0, 0)) := by
  rw [hWb, Below.block ((((Ext.refl _).alloc _).alloc _).alloc _) _ (by rw [hgb]; simp), hgb]
  exact heap_alloc_new w _
 have hblk1 : Wb.heap[gb + 1]? = some (.cells #[.int .i64 vk, .int .i64 vn, .string vt, .slice a2 l2 p2] 40 (0, 0)) := by
  have := heap_alloc_new (w.alloc (.cells #[.slice a0 l0 cap0, .slice a1 l1 cap1, .int .i64 x2, .int .i64 x3] 34)) (.cells #[.int .i64 vk, .int .i64 vn, .string vt, .slice a2 l2 p2] 40)
  rw [World.size_alloc] at this
  rw [hWb, hgb, Below.block (((Ext.refl _).alloc _).alloc _) _ (by simp)]
  exact this
 have hblk2 : Wb.heap[gb + 2]? = some (.cells #[.int .i64 k, .int .i64 n, .string t, .slice a3 l3 p3] 40 (0, 0)) := by
  have := heap_alloc_new ((w.alloc (.cells #[.slice a0 l0 cap0, .slice a1 l1 cap1, .int .i64 x2, .int .i64 x3] 34)).alloc (.cells #[.int .i64 vk, .int .i64 vn, .string vt, .slice a2 l2 p2] 40)) (.cells #[.int .i64 k, .int .i64 n, .string t, .slice a3 l3 p3] 40)
  rw [World.size_alloc, World.size_alloc] at this
  rw [hWb, hgb, Below.block ((Ext.refl _).alloc _) _ (by simp)]
  exact this
 have hblk3 : Wb.heap[gb + 3]? = some (.cells #[.slice none 0 0, .slice none 0 0, .int .i64 0, .int .i64 0] 34 (0, 0)) := by
  have := heap_alloc_new (((w.alloc (.cells #[.slice a0 l0 cap0, .slice a1 l1 cap1, .int .i64 x2, .int .i64 x3] 34)).alloc (.cells #[.int .i64 vk, .int .i64 vn, .string vt, .slice a2 l2 p2] 40)).alloc (.cells #[.int .i64 k, .int .i64 n, .string t, .slice a3 l3 p3] 40)) (.cells #[.slice none 0 0, .slice none 0 0, .int .i64 0, .int .i64 0] 34)
  rw [World.size_alloc, World.size_alloc, World.size_alloc] at this
  rw [hWb, hgb]
  exact this
 have hbx : ∀ W : World, Ext Wb W → (W.cell? ⟨gb, 0, none⟩ = some (.slice a0 l0 cap0) ∧ W.cell? ⟨gb, 1, none⟩ = some (.slice a1 l1 cap1) ∧ W.cell? ⟨gb, 2, none⟩ = some (.int .i64 x2) ∧ W.cell? ⟨gb, 3, none⟩ = some (.int .i64 x3)) ∧ (W.cell? ⟨gb + 1, 0, none⟩ = some (.int .i64 vk) ∧ W.cell? ⟨gb + 1, 1, none⟩ = some (.int .i64 vn) ∧ W.cell? ⟨gb + 1, 2, none⟩ = some (.string vt) ∧ W.cell? ⟨gb + 1, 3, none⟩ = some (.slice a2 l2 p2)) ∧ (W.cell? ⟨gb + 2, 0, none⟩ = some (.int .i64 k) ∧ W.cell? ⟨gb + 2, 1, none⟩ = some (.int .i64 n) ∧ W.cell? ⟨gb + 2, 2, none⟩ = some (.string t) ∧ W.cell? ⟨gb + 2, 3, none⟩ = some (.slice a3 l3 p3)) ∧ (W.cell? ⟨gb + 3, 0, none⟩ = some (.slice none 0 0) ∧ W.cell? ⟨gb + 3, 1, none⟩ = some (.slice none 0 0) ∧ W.cell? ⟨gb + 3, 2, none⟩ = some (.int .i64 0) ∧ W.cell? ⟨gb + 3, 3, none⟩ = some (.int .i64 0)) ∧ (∀ o, W.frozen? ⟨gb + 3, o, none⟩ = false) := fun W hW => by
  have h1 := (Below.block hW gb (by omega)).trans hblk0
  have h2 := (Below.block hW (gb + 1) (by omega)).trans hblk1
  have h3 := (Below.block hW (gb + 2) (by omega)).trans hblk2
  have h4 := (Below.block hW (gb + 3) (by omega)).trans hblk3
  refine ⟨⟨?_, ?_, ?_, ?_⟩, ⟨?_, ?_, ?_, ?_⟩, ⟨?_, ?_, ?_, ?_⟩, ⟨?_, ?_, ?_, ?_⟩, fun o => ?_⟩
  all_goals first | (simp [World.cell?, h1]; done) | (simp [World.cell?, h2]; done) | (simp [World.cell?, h3]; done) | (simp [World.cell?, h4]; done) | (simp [World.frozen?, h4]; done)
 have hgb1 : gb ≤ w.heap.size := Nat.le_of_eq hgb
 have hgb2 : w.heap.size ≤ gb := Nat.le_of_eq hgb.symm
 clear hg
 obtain ⟨⟨o0, o1, o2, o3⟩, ⟨v0, v1, v2, v3⟩, ⟨q0, q1, q2, q3⟩, ⟨t0, t1, t2, t3⟩, tf⟩ := hbx Wb (Ext.refl _)
 have hblk3H := (show Hid _ from hblk3)
 clear tf hblk0 hblk1 hblk2 hblk3
 go_enter Tryz.func6, Tryz.ntmps6
 go_wp2_with fail
 rw [← hWb, ← hgb]
 clear hWb hgb o0 o1 o2 o3 v0 v1 v2 v3 q0 q1 q2 q3 t0 t1 t2 t3
 refine (hok Wb hEw).mono ?_
 rintro e w1 ⟨rfl, hE1⟩
 clear hok
 cases g
 ·
  obtain ⟨⟨o0, o1, o2, o3⟩, ⟨v0, v1, v2, v3⟩, ⟨q0, q1, q2, q3⟩, ⟨t0, t1, t2, t3⟩, tf⟩ := hbx w1 hE1
  have tf0 := tf 0
  have tf1 := tf 1
  have tf2 := tf 2
  have tf3 := tf 3
  have hX : Hid (Ext w ((((w1.setCell ⟨gb + 3, 0, none⟩ (.slice none 0 0)).setCell ⟨gb + 3, 1, none⟩ (.slice none 0 0)).setCell ⟨gb + 3, 2, none⟩ (.int .i64 0)).setCell ⟨gb + 3, 3, none⟩ (.int .i64 0))) := (chg4 (W := w1) (b := gb + 3) (.slice none 0 0) (.slice none 0 0) (.int .i64 0) (.int .i64 0)).toExt (Ext.trans hEw hE1) (fun x hx => by omega)
  clear tf
  go_wp2
  refine bodyPost_ret (v := .tuple #[.agg #[.slice none 0 0, .slice none 0 0, .int .i64 0, .int .i64 0], .bool false]) (by simp [results, Tryz.results6, go_sem, t0, t1, t2, t3]) rfl ⟨_, _, rfl, (noneL_in 3 _ _).1, (noneL_in 5 _ _).1, hX.out⟩
 ·
  obtain ⟨hl12, hl16, _, hx0, hx1⟩ := hgl rfl
  have hpn1 := hpn rfl
  have hpe1 := hpe rfl
  clear hgl hpn hpe
  obtain ⟨⟨o0, o1, o2, o3⟩, ⟨v0, v1, v2, v3⟩, ⟨q0, q1, q2, q3⟩, ⟨t0, t1, t2, t3⟩, tf⟩ := hbx w1 hE1
  clear tf t0 t1 t2 t3
  cases hK : okN 3 (.mk vk vn vt (vsOf d2))
  ·
   have hbf : b = false := by rw [← hb, psV, hK]; rfl
   clear hb
   subst hbf
   rw [hK] at hv2
   go_upto_region 4 with (go_at_call 19; refine (hv2 _ (Ext.trans hEw hE1)).mono ?_; rintro e w2 ⟨rfl, hE2⟩)
   clear o0 o1 o2 o3 v0 v1 v2 v3 q0 q1 q2 q3
   have hE2' := Ext.trans hE1 hE2
   obtain ⟨⟨o0, o1, o2, o3⟩, ⟨v0, v1, v2, v3⟩, ⟨q0, q1, q2, q3⟩, ⟨t0, t1, t2, t3⟩, tf⟩ := hbx w2 hE2'
   clear tf t0 t1 t2 t3
   go_wp2_with fail
   refine (hcp w2 (Ext.trans hEw hE2')).mono ?_
   rintro e w5 ⟨u0, u1, cs, ds, b0, b1, S0, S1, rfl, hb01, hb02, hGn, hb12, hGr, hS0, hS1, hE5⟩
   have hzW : Wb.heap.size ≤ w2.heap.size := hE2'.le
   have hF0 : DIn (fun x => w2.heap.size ≤ x) w5 d0 u0 := by
    have := (hGn.end (by unfold maxLen; omega)).1
    rw [← hd0'.out] at this
    exact this.mono hS0
   have hF1 : DIn (fun x => w2.heap.size ≤ x) w5 d1 u1 := by
    have := (hGr.end (by unfold maxLen; omega)).1
    rw [← hd1'.out] at this
    exact this.mono (fun x hx => (hS1 x hx).1)
   obtain ⟨va, vcap, vl, _, hqa, hva, _, _⟩ := list_shape H0 hF0
   obtain ⟨ra, rcap, rl, _, hqb, hra, _, _⟩ := list_shape H1 hF1
   subst hva hra
   clear hqa hqb hGn hGr hS0 hS1 o0 o1 o2 o3 v0 v1 v2 v3 q0 q1 q2 q3
   have hE5' := Ext.trans hE2' hE5
   obtain ⟨⟨o0, o1, o2, o3⟩, ⟨v0, v1, v2, v3⟩, ⟨q0, q1, q2, q3⟩, ⟨t0, t1, t2, t3⟩, tf⟩ := hbx w5 hE5'
   have tf0 := tf 0
   have tf1 := tf 1
   have tf2 := tf 2
   have tf3 := tf 3
   have hC4 := chg4 (W := w5) (b := gb + 3) (.slice va vl vcap) (.slice ra rl rcap) (.int .i64 x2) (.int .i64 x3)
   have hX : Hid _ := And.intro (show DIn (New w.heap.size ((((w5.setCell ⟨gb + 3, 0, none⟩ (.slice va vl vcap)).setCell ⟨gb + 3, 1, none⟩ (.slice ra rl rcap)).setCell ⟨gb + 3, 2, none⟩ (.int .i64 x2)).setCell ⟨gb + 3, 3, none⟩ (.int .i64 x3)).heap.size) ((((w5.setCell ⟨gb + 3, 0, none⟩ (.slice va vl vcap)).setCell ⟨gb + 3, 1, none⟩ (.slice ra rl rcap)).setCell ⟨gb + 3, 2, none⟩ (.int .i64 x2)).setCell ⟨gb + 3, 3, none⟩ (.int .i64 x3)) _ (.slice va vl vcap) from ((hF0.low).carry hC4.size (fun b hb hl => hC4.block b hl (by have := hb.1; omega))).mono (fun x hx => ⟨by have := hx.1; omega, by have := hx.2; simp only [World.size_setCell]; omega⟩)) (And.intro (show DIn (New w.heap.size ((((w5.setCell ⟨gb + 3, 0, none⟩ (.slice va vl vcap)).setCell ⟨gb + 3, 1, none⟩ (.slice ra rl rcap)).setCell ⟨gb + 3, 2, none⟩ (.int .i64 x2)).setCell ⟨gb + 3, 3, none⟩ (.int .i64 x3)).heap.size) ((((w5.setCell ⟨gb + 3, 0, none⟩ (.slice va vl vcap)).setCell ⟨gb + 3, 1, none⟩ (.slice ra rl rcap)).setCell ⟨gb + 3, 2, none⟩ (.int .i64 x2)).setCell ⟨gb + 3, 3, none⟩ (.int .i64 x3)) _ (.slice ra rl rcap) from ((hF1.low).carry hC4.size (fun b hb hl => hC4.block b hl (by have := hb.1; omega))).mono (fun x hx => ⟨by have := hx.1; omega, by have := hx.2; simp only [World.size_setCell]; omega⟩)) (show Ext w ((((w5.setCell ⟨gb + 3, 0, none⟩ (.slice va vl vcap)).setCell ⟨gb + 3, 1, none⟩ (.slice ra rl rcap)).setCell ⟨gb + 3, 2, none⟩ (.int .i64 x2)).setCell ⟨gb + 3, 3, none⟩ (.int .i64 x3)) from hC4.toExt (Ext.trans hEw hE5') (fun x hx => by omega)))
   clear hC4
   clear tf hF0 hF1
   go_wp2
   refine bodyPost_ret (v := .tuple #[.agg #[.slice va vl vcap, .slice ra rl rcap, .int .i64 x2, .int .i64 x3], .bool false]) (by simp [results, Tryz.results6, go_sem, t0, t1, t2, t3]) rfl ⟨_, _, rfl, hX.out.1, hX.out.2.1, hX.out.2.2⟩
  ·
   rw [hK] at hv2
   cases hK3 : okN 3 (.mk k n t (vsOf d3))
   ·
    have hbf : b = false := by rw [← hb, psV, psB_ok3 hK3, Bool.and_false]
    clear hb
    subst hbf
    rw [hK3] at hv3
    go_wp2_with fail
    refine (hv2 _ (Ext.trans hEw hE1)).mono ?_
    rintro e w2 ⟨rfl, hE2⟩
    clear o0 o1 o2 o3 v0 v1 v2 v3 q0 q1 q2 q3
    have hE2' := Ext.trans hE1 hE2
    obtain ⟨⟨o0, o1, o2, o3⟩, ⟨v0, v1, v2, v3⟩, ⟨q0, q1, q2, q3⟩, ⟨t0, t1, t2, t3⟩, tf⟩ := hbx w2 hE2'
    clear tf t0 t1 t2 t3
    go_upto_region 4 with (go_at_call 19; refine (hv3 _ (Ext.trans hEw hE2')).mono ?_; rintro e w3 ⟨rfl, hE3⟩)
    clear o0 o1 o2 o3 v0 v1 v2 v3 q0 q1 q2 q3
    have hE3' := Ext.trans hE2' hE3
    obtain ⟨⟨o0, o1, o2, o3⟩, ⟨v0, v1, v2, v3⟩, ⟨q0, q1, q2, q3⟩, ⟨t0, t1, t2, t3⟩, tf⟩ := hbx w3 hE3'
    clear tf t0 t1 t2 t3
    go_wp2_with fail
    refine (hcp w3 (Ext.trans hEw hE3')).mono ?_
    rintro e w5 ⟨u0, u1, cs, ds, b0, b1, S0, S1, rfl, hb01, hb02, hGn, hb12, hGr, hS0, hS1, hE5⟩
    have hzW : Wb.heap.size ≤ w3.heap.size := hE3'.le
    have hF0 : DIn (fun x => w3.heap.size ≤ x) w5 d0 u0 := by
     have := (hGn.end (by unfold maxLen; omega)).1
     rw [← hd0'.out] at this
     exact this.mono hS0
    have hF1 : DIn (fun x => w3.heap.size ≤ x) w5 d1 u1 := by
     have := (hGr.end (by unfold maxLen; omega)).1
     rw [← hd1'.out] at this
     exact this.mono (fun x hx => (hS1 x hx).1)
    obtain ⟨va, vcap, vl, _, hqa, hva, _, _⟩ := list_shape H0 hF0
    obtain ⟨ra, rcap, rl, _, hqb, hra, _, _⟩ := list_shape H1 hF1
    subst hva hra
    clear hqa hqb hGn hGr hS0 hS1 o0 o1 o2 o3 v0 v1 v2 v3 q0 q1 q2 q3
    have hE5' := Ext.trans hE3' hE5
    obtain ⟨⟨o0, o1, o2, o3⟩, ⟨v0, v1, v2, v3⟩, ⟨q0, q1, q2, q3⟩, ⟨t0, t1, t2, t3⟩, tf⟩ := hbx w5 hE5'
    have tf0 := tf 0
    have tf1 := tf 1
    have tf2 := tf 2
    have tf3 := tf 3
    have hC4 := chg4 (W := w5) (b := gb + 3) (.slice va vl vcap) (.slice ra rl rcap) (.int .i64 x2) (.int .i64 x3)
    have hX : Hid _ := And.intro (show DIn (New w.heap.size ((((w5.setCell ⟨gb + 3, 0, none⟩ (.slice va vl vcap)).setCell ⟨gb + 3, 1, none⟩ (.slice ra rl rcap)).setCell ⟨gb + 3, 2, none⟩ (.int .i64 x2)).setCell ⟨gb + 3, 3, none⟩ (.int .i64 x3)).heap.size) ((((w5.setCell ⟨gb + 3, 0, none⟩ (.slice va vl vcap)).setCell ⟨gb + 3, 1, none⟩ (.slice ra rl rcap)).setCell ⟨gb + 3, 2, none⟩ (.int .i64 x2)).setCell ⟨gb + 3, 3, none⟩ (.int .i64 x3)) _ (.slice va vl vcap) from ((hF0.low).carry hC4.size (fun b hb hl => hC4.block b hl (by have := hb.1; omega))).mono (fun x hx => ⟨by have := hx.1; omega, by have := hx.2; simp only [World.size_setCell]; omega⟩)) (And.intro (show DIn (New w.heap.size ((((w5.setCell ⟨gb + 3, 0, none⟩ (.slice va vl vcap)).setCell ⟨gb + 3, 1, none⟩ (.slice ra rl rcap)).setCell ⟨gb + 3, 2, none⟩ (.int .i64 x2)).setCell ⟨gb + 3, 3, none⟩ (.int .i64 x3)).heap.size) ((((w5.setCell ⟨gb + 3, 0, none⟩ (.slice va vl vcap)).setCell ⟨gb + 3, 1, none⟩ (.slice ra rl rcap)).setCell ⟨gb + 3, 2, none⟩ (.int .i64 x2)).setCell ⟨gb + 3, 3, none⟩ (.int .i64 x3)) _ (.slice ra rl rcap) from ((hF1.low).carry hC4.size (fun b hb hl => hC4.block b hl (by have := hb.1; omega))).mono (fun x hx => ⟨by have := hx.1; omega, by have := hx.2; simp only [World.size_setCell]; omega⟩)) (show Ext w ((((w5.setCell ⟨gb + 3, 0, none⟩ (.slice va vl vcap)).setCell ⟨gb + 3, 1, none⟩ (.slice ra rl rcap)).setCell ⟨gb + 3, 2, none⟩ (.int .i64 x2)).setCell ⟨gb + 3, 3, none⟩ (.int .i64 x3)) from hC4.toExt (Ext.trans hEw hE5') (fun x hx => by omega)))
    clear hC4
    clear tf hF0 hF1
    go_wp2
    refine bodyPost_ret (v := .tuple #[.agg #[.slice va vl vcap, .slice ra rl rcap, .int .i64 x2, .int .i64 x3], .bool false]) (by simp [results, Tryz.results6, go_sem, t0, t1, t2, t3]) rfl ⟨_, _, rfl, hX.out.1, hX.out.2.1, hX.out.2.2⟩
   ·
    have hbb : psB d0 d1 vk vn s k n t d3 = b := by rw [← hb, psV, hK]; rfl
    clear hb
    rw [hK3] at hv3
    go_wp2_with fail
    refine (hv2 _ (Ext.trans hEw hE1)).mono ?_
    rintro e w2 ⟨rfl, hE2⟩
    clear o0 o1 o2 o3 v0 v1 v2 v3 q0 q1 q2 q3
    have hE2' := Ext.trans hE1 hE2
    obtain ⟨⟨o0, o1, o2, o3⟩, ⟨v0, v1, v2, v3⟩, ⟨q0, q1, q2, q3⟩, ⟨t0, t1, t2, t3⟩, tf⟩ := hbx w2 hE2'
    clear tf t0 t1 t2 t3
    go_upto_region 5 with (go_at_call 19; refine (hv3 _ (Ext.trans hEw hE2')).mono ?_; rintro e w3 ⟨rfl, hE3⟩)
    clear o0 o1 o2 o3 v0 v1 v2 v3 q0 q1 q2 q3
    have hE3' := Ext.trans hE2' hE3
    have hzd : Wb.heap.size ≤ w3.drew.heap.size := hE3'.drew.le
    have HK : Hid (∀ W, Chg (fun x => Wb.heap.size ≤ x ∨ x = gb + 3) w3 W → (W.cell? ⟨gb, 0, none⟩ = some (.slice a0 l0 cap0) ∧ W.cell? ⟨gb, 1, none⟩ = some (.slice a1 l1 cap1) ∧ W.cell? ⟨gb, 2, none⟩ = some (.int .i64 x2) ∧ W.cell? ⟨gb, 3, none⟩ = some (.int .i64 x3)) ∧ (W.cell? ⟨gb + 1, 0, none⟩ = some (.int .i64 vk) ∧ W.cell? ⟨gb + 1, 1, none⟩ = some (.int .i64 vn) ∧ W.cell? ⟨gb + 1, 2, none⟩ = some (.string vt) ∧ W.cell? ⟨gb + 1, 3, none⟩ = some (.slice a2 l2 p2)) ∧ (W.cell? ⟨gb + 2, 0, none⟩ = some (.int .i64 k) ∧ W.cell? ⟨gb + 2, 1, none⟩ = some (.int .i64 n) ∧ W.cell? ⟨gb + 2, 2, none⟩ = some (.string t) ∧ W.cell? ⟨gb + 2, 3, none⟩ = some (.slice a3 l3 p3))) := fun W hW => by
     have hz3 : Wb.heap.size ≤ w3.heap.size := hE3'.le
     have hx : ∀ b o, b < gb + 3 → gb ≤ b → W.cell? ⟨b, o, none⟩ = w3.cell? ⟨b, o, none⟩ := fun b o h1 h2 => World.cell?_of_block (hW.block b (by omega) (by omega))
     obtain ⟨⟨o0, o1, o2, o3⟩, ⟨v0, v1, v2, v3⟩, ⟨q0, q1, q2, q3⟩, _⟩ := hbx w3 hE3'
     refine ⟨⟨?_, ?_, ?_, ?_⟩, ⟨?_, ?_, ?_, ?_⟩, ⟨?_, ?_, ?_, ?_⟩⟩
     all_goals (rw [hx _ _ (by omega) (by omega)]; assumption)
    have hcur : Chg (fun x => Wb.heap.size ≤ x ∨ x = gb + 3) w3 w3.drew := Chg.of_ext (Ext.refl _).drew
    have hEc : Ext w3 w3.drew := (Ext.refl _).drew
    refine wp_region_held_drew (S := (fun W => (W.cell? ⟨gb, 0, none⟩ = some (.slice a0 l0 cap0) ∧ W.cell? ⟨gb, 1, none⟩ = some (.slice a1 l1 cap1) ∧ W.cell? ⟨gb, 2, none⟩ = some (.int .i64 x2) ∧ W.cell? ⟨gb, 3, none⟩ = some (.int .i64 x3)) ∧ (W.cell? ⟨gb + 1, 0, none⟩ = some (.int .i64 vk) ∧ W.cell? ⟨gb + 1, 1, none⟩ = some (.int .i64 vn) ∧ W.cell? ⟨gb + 1, 2, none⟩ = some (.string vt) ∧ W.cell? ⟨gb + 1, 3, none⟩ = some (.slice a2 l2 p2)) ∧ (W.cell? ⟨gb + 2, 0, none⟩ = some (.int .i64 k) ∧ W.cell? ⟨gb + 2, 1, none⟩ = some (.int .i64 n) ∧ W.cell? ⟨gb + 2, 2, none⟩ = some (.string t) ∧ W.cell? ⟨gb + 2, 3, none⟩ = some (.slice a3 l3 p3)))) (by kernel_rfl) (HK.out _ hcur) (fun hHeld => ?_)
    refine tkL 0 ⟨some 24, .load 34 (.tmp 4), 34, _, #[], none⟩ ?_ hHeld ?yyD0 ?rrD0
    case yyD0 => (intro w hSw; (try dsimp only at hSw); go_simp; try with_reducible rfl)
    try simp only [Act.put, putA, putB, putC]
    refine tkL 2 ⟨some 26, .load 40 (.tmp 5), 40, _, #[], none⟩ ?_ hHeld ?yyD2 ?rrD2
    case yyD2 => (intro w hSw; (try dsimp only at hSw); go_simp; try with_reducible rfl)
    try simp only [Act.put, putA, putB, putC]
    refine tkL 3 ⟨some 27, .move (.tmp 2), 9, _, #[], none⟩ ?_ hHeld ?yyD3 ?rrD3
    case yyD3 => (intro w hSw; (try dsimp only at hSw); go_simp; try with_reducible rfl)
    try simp only [Act.put, putA, putB, putC]
    refine tkL 4 ⟨some 28, .load 40 (.tmp 7), 40, _, #[], none⟩ ?_ hHeld ?yyD4 ?rrD4
    case yyD4 => (intro w hSw; (try dsimp only at hSw); go_simp; try with_reducible rfl)
    try simp only [Act.put, putA, putB, putC]
    refine wpAnyH_ready (rs := [1]) (by kernel_rfl) (by simp) ?_
    refine AllReadyH.cons (o := ⟨some 25, .call { callee := .value (.func 20), args := #[.tmp 24], argTypes := #[34] }, 34, _, #[⟨0, .data⟩], none⟩) rfl (fun K hK => ?_) AllReadyH.nil
    go_simp
    refine (hcp _ (Ext.trans (Ext.trans hEw hE3') hEc)).mono ?_
    rintro e w5 ⟨u0, u1, cs, ds, b0, b1, S0, S1, rfl, hb01, hb02, hGn, hb12, hGr, hS0, hS1, hE5⟩
    obtain ⟨va, vcap, hvv⟩ := hGn.shape
    subst hvv
    obtain ⟨ra, rcap, hrr⟩ := hGr.shape
    subst hrr
    replace hcur := hcur.trans (Chg.of_ext hE5)
    have hE35 := Ext.trans hEc hE5
    go_wp2_with fail
    refine hK.out _ _ (HK.out _ hcur) (fun hHeld => ?_)
    clear hK K
    try simp only [Act.put, putA, putB, putC]
    refine wpAnyH_ready (rs := [5]) (by kernel_rfl) (by simp) ?_
    refine AllReadyH.cons (o := ⟨some 29, .call { callee := .value (.func 21), args := #[.tmp 25, .tmp 26, .tmp 27, .tmp 28], argTypes := #[34, 40, 9, 40] }, 35, _, #[⟨1, .data⟩, ⟨2, .data⟩, ⟨3, .data⟩, ⟨4, .data⟩, ⟨1, .chain⟩], none⟩) rfl (fun K hK => ?_) AllReadyH.nil
    go_simp
    refine (l2Set_any w5 w3.drew.heap.size S0 S1 S3 b0 b1 d0 d1 d3 vk vn vt a2 l2 p2 s k n t a3 l3 p3 x2 x3 va vcap ra rcap cs ds d0.len! d1.len! rfl rfl hE5.le hGn hGr hS0 (fun x hx => (hS1 x hx).1) (fun x h h' => (hS1 x h').2.2 h) H0 H1 (by omega) (by omega) hpn1 hpe1 H3 s3 (h3.ext (Ext.trans (Ext.trans hEw hE3') hE35)) zs zk zn zt hK3 b hbb).mono ?_
    rintro e w7 ⟨rfl, hF0, hF1, hC7⟩
    replace hcur := hcur.trans (hC7.mono (fun x hx => .inl (by omega)))
    have hz35 := hE35.le
    have hb3 := (hC7.block (gb + 3) (by have := hE5.le; omega) (by omega)).trans ((Below.block (Ext.trans hE3' hE35) (gb + 3) (by omega)).trans hblk3H.out)
    have hE7 : Ext w w7 := hC7.toExt (Ext.trans (Ext.trans hEw hE3') hE35) (fun x hx => by omega)
    obtain ⟨⟨t0, t1, t2, t3⟩, tf⟩ := blk4 hb3
    have tf0 := tf 0
    have tf1 := tf 1
    have tf2 := tf 2
    have tf3 := tf 3
    clear tf
    have hb7 := hb3
    clear hb3
    go_wp2_with fail
    refine hK.out _ _ (HK.out _ hcur) (fun hHeld => ?_)
    clear hK K
    try simp only [Act.put, putA, putB, putC]
    refine tkL 6 ⟨some 30, .extract (.tmp 29) 0, 34, _, #[⟨5, .data⟩], none⟩ ?_ hHeld ?yyD6 ?rrD6
    case yyD6 => (intro w hSw; (try dsimp only at hSw); go_simp; try with_reducible rfl)
    try simp only [Act.put, putA, putB, putC]
    refine tkL 7 ⟨some 31, .extract (.tmp 29) 1, 4, _, #[⟨5, .data⟩], none⟩ ?_ hHeld ?yyD7 ?rrD7
    case yyD7 => (intro w hSw; (try dsimp only at hSw); go_simp; try with_reducible rfl)
    try simp only [Act.put, putA, putB, putC]
    refine wpAnyH_ready (rs := [8]) (by kernel_rfl) (by simp) ?_
    refine AllReadyH.cons (o := ⟨none, .store 34 (.tmp 8) (.tmp 30), 0, _, #[⟨6, .data⟩, ⟨5, .chain⟩, ⟨0, .phase⟩, ⟨1, .phase⟩, ⟨2, .phase⟩, ⟨3, .phase⟩, ⟨4, .phase⟩, ⟨5, .phase⟩, ⟨6, .phase⟩, ⟨7, .phase⟩], none⟩) rfl (fun K hK => ?_) AllReadyH.nil
    go_simp
    replace hcur := hcur.trans ((chg4 (W := w7) (b := gb + 3) (.slice va d0.len! vcap) (.slice ra d1.len! rcap) (.int .i64 x2) (.int .i64 x3)).mono (fun x hx => .inr hx))
    refine hK.out _ _ (HK.out _ hcur) (fun hHeld => ?_)
    clear hK K
    try simp only [Act.put, putA, putB, putC]
    refine tkL 9 ⟨some 9, .assign (.tmp 31), 4, _, #[⟨7, .data⟩, ⟨8, .chain⟩, ⟨0, .phase⟩, ⟨1, .phase⟩, ⟨2, .phase⟩, ⟨3, .phase⟩, ⟨4, .phase⟩, ⟨5, .phase⟩, ⟨6, .phase⟩, ⟨7, .phase⟩, ⟨8, .phase⟩], none⟩ ?_ hHeld ?yyD9 ?rrD9
    case yyD9 => (intro w hSw; (try dsimp only at hSw); go_simp; try with_reducible rfl)
    try simp only [Act.put, putA, putB, putC]
    refine wpAnyH_done (by kernel_rfl) ?_ _
    clear hHeld HK
    have hb3 := blk4_set (W := w7) (b := gb + 3) (T := 34) (c0 := _) (c1 := _) (c2 := _) (c3 := _) hb7 (.slice va d0.len! vcap) (.slice ra d1.len! rcap) (.int .i64 x2) (.int .i64 x3)
    obtain ⟨⟨t0', t1', t2', t3'⟩, _⟩ := blk4 hb3
    have hC4 := chg4 (W := w7) (b := gb + 3) (.slice va d0.len! vcap) (.slice ra d1.len! rcap) (.int .i64 x2) (.int .i64 x3)
    have hX : Hid _ := And.intro (show DIn (New w.heap.size ((((w7.setCell ⟨gb + 3, 0, none⟩ (.slice va d0.len! vcap)).setCell ⟨gb + 3, 1, none⟩ (.slice ra d1.len! rcap)).setCell ⟨gb + 3, 2, none⟩ (.int .i64 x2)).setCell ⟨gb + 3, 3, none⟩ (.int .i64 x3)).heap.size) ((((w7.setCell ⟨gb + 3, 0, none⟩ (.slice va d0.len! vcap)).setCell ⟨gb + 3, 1, none⟩ (.slice ra d1.len! rcap)).setCell ⟨gb + 3, 2, none⟩ (.int .i64 x2)).setCell ⟨gb + 3, 3, none⟩ (.int .i64 x3)) _ (.slice va d0.len! vcap) from ((hF0.low).carry hC4.size (fun b hb hl => hC4.block b hl (by have := hb.1; omega))).mono (fun x hx => ⟨by have := hx.1; omega, by have := hx.2; simp only [World.size_setCell]; omega⟩)) (And.intro (show DIn (New w.heap.size ((((w7.setCell ⟨gb + 3, 0, none⟩ (.slice va d0.len! vcap)).setCell ⟨gb + 3, 1, none⟩ (.slice ra d1.len! rcap)).setCell ⟨gb + 3, 2, none⟩ (.int .i64 x2)).setCell ⟨gb + 3, 3, none⟩ (.int .i64 x3)).heap.size) ((((w7.setCell ⟨gb + 3, 0, none⟩ (.slice va d0.len! vcap)).setCell ⟨gb + 3, 1, none⟩ (.slice ra d1.len! rcap)).setCell ⟨gb + 3, 2, none⟩ (.int .i64 x2)).setCell ⟨gb + 3, 3, none⟩ (.int .i64 x3)) _ (.slice ra d1.len! rcap) from ((hF1.low).carry hC4.size (fun b hb hl => hC4.block b hl (by have := hb.1; omega))).mono (fun x hx => ⟨by have := hx.1; omega, by have := hx.2; simp only [World.size_setCell]; omega⟩)) (show Ext w ((((w7.setCell ⟨gb + 3, 0, none⟩ (.slice va d0.len! vcap)).setCell ⟨gb + 3, 1, none⟩ (.slice ra d1.len! rcap)).setCell ⟨gb + 3, 2, none⟩ (.int .i64 x2)).setCell ⟨gb + 3, 3, none⟩ (.int .i64 x3)) from hC4.toExt hE7 (fun x hx => by omega)))
    clear hC4
    clear hF0 hF1 hcur
    go_wp2
    refine bodyPost_ret (v := .tuple #[.agg #[.slice va d0.len! vcap, .slice ra d1.len! rcap, .int .i64 x2, .int .i64 x3], .bool b]) (by simp [results, Tryz.results6, go_sem, t0', t1', t2', t3']) rfl ⟨_, _, rfl, hX.out.1, hX.out.2.1, hX.out.2.2⟩
end Go.Proofs.YteijgejpenlgjaaGreat
