/- What spec.LabelSet answers. -/
import Derived.Test.YtjbppmclhdaaoaaGreatLsFil
import Derived.Test.YtjbppmclhdaaoaaGreatL2Copy
import Derived.Test.YtjbppmclhdaaoaaGreatGDef
import Derived.Deep.DeepCutAuto
namespace Go.Proofs.YtjbppmclhdaaoaaGreat
open Go.RowKit Go.Deep

def edI (a : Option Nat) : Int := match a with | some k => k | none => -1
theorem edI_eq {d1 : D} {id : Int} {a : Option Nat} (h : edK d1 id = a) : findI (fun i => (d1.at! i 0).int! == id) d1.len! = edI a := by subst h; rfl
set_option maxRecDepth 100000 in
set_option maxHeartbeats 16000000 in
theorem specLabelSet_any (S : Nat → Prop) (d0 d1 : D) (id : Int) (s : ByteArray) (has : Bool) (c0 c1 : Value) (x2 x3 : Int) (w : World) (H0 : Has d0 (.list 4)) (h0 : DIn S w d0 c0) (s0 : SmallD d0) (H1 : Has d1 (.list 5)) (h1 : DIn S w d1 c1) (s1 : SmallD d1) (zs : s.size ≤ maxLen) (b : Bool) (hb : lsB d0 id s has = b) (g : Bool) (hg : graphB d0 d1 x2 x3 = g) :
    Calls Tryz.prog 5 #[.agg #[c0, c1, .int .i64 x2, .int .i64 x3], .int .i64 id, .string s, .bool has] w fun e w' => ∃ u0 u1, e = .returned (.tuple #[.agg #[u0, u1, .int .i64 (edX g x2), .int .i64 (edX g x3)], .bool (g && b)]) ∧ DIn (New w.heap.size w'.heap.size) w' (lsD0 g b d0 id s has) u0 ∧ DIn (New w.heap.size w'.heap.size) w' (lsD1 g d1) u1 ∧ Ext w w' := by
  obtain ⟨a, ha⟩ : ∃ a, edK d0 id = a := ⟨_, rfl⟩
  have hok := fun (W : World) (hW : Ext w W) => specGraphOk_any S d0 d1 c0 c1 x2 x3 W H0 (h0.ext hW) H1 (h1.ext hW)
  have hcp := fun (W : World) (hW : Ext w W) => l2Copy_both S d0 d1 c0 c1 x2 x3 W H0 (h0.ext hW) s0 H1 (h1.ext hW) s1
  have hed := fun (W : World) (hW : Ext w W) (hc : ∃ a l c, c1 = .slice a l c) => l2Node_any S d0 c0 c1 x2 x3 id W H0 (h0.ext hW) hc
  have hfi : findI (fun i => (d0.at! i 0).int! == id) d0.len! = edI a := edI_eq ha
  rw [hfi] at hed
  have hnm := fun (W : World) => l2Name_any s W zs
  have hgl : g = true → _ := fun e => graph_len (hg.trans e)
  have hlabs : g = true → ∀ i, i < d0.len! → labelsB (d0.at! i 1) = true := fun e => graph_labs (hg.trans e)
  rw [hg] at hok
  have hbH := (show Hid _ from hb)
  clear hb
  obtain ⟨a0, cap0, l0, f0, hq0, rfl, _, HRa⟩ := list_shape H0 h0
  obtain ⟨a1, cap1, l1, _, hq1, rfl, _, _⟩ := list_shape H1 h1
  have hqH := (show Hid _ from hq0)
  clear hq1 hq0
  obtain ⟨Wb, hWb⟩ : ∃ Wb, Wb = (w.alloc (.cells #[.slice a0 l0 cap0, .slice a1 l1 cap1, .int .i64 x2, .int .i64 x3] 30)).alloc (.cells #[.slice none 0 0, .slice none 0 0, .int .i64 0, .int .i64 0] 30) := ⟨_, rfl⟩
  obtain ⟨gb, hgb⟩ : ∃ m, m = w.heap.size := ⟨_, rfl⟩
  have hEw : Ext w Wb := by rw [hWb]; exact ((Ext.refl _).alloc _).alloc _
  have hzb : Wb.heap.size ≤ gb + 2 := by rw [hWb, hgb]; simp
  have hzb2 : gb + 2 ≤ Wb.heap.size := by rw [hWb, hgb]; simp
  have hblk0 : Wb.heap[gb]? = some (.cells #[.slice a0 l0 cap0, .slice a1 l1 cap1, .int .i64 x2, .int .i64 x3] 30 (0, 0)) := by
    rw [hWb, Below.block ((Ext.refl _).alloc _) _ (by rw [hgb]; simp), hgb]
    exact heap_alloc_new w _
  have hblk1 : Wb.heap[gb + 1]? = some (.cells #[.slice none 0 0, .slice none 0 0, .int .i64 0, .int .i64 0] 30 (0, 0)) := by
    have := heap_alloc_new (w.alloc (.cells #[.slice a0 l0 cap0, .slice a1 l1 cap1, .int .i64 x2, .int .i64 x3] 30)) (.cells #[.slice none 0 0, .slice none 0 0, .int .i64 0, .int .i64 0] 30)
    rw [World.size_alloc] at this
    rw [hWb, hgb]
    exact this
  have hgb1 : gb ≤ w.heap.size := Nat.le_of_eq hgb
  have hgb2 : w.heap.size ≤ gb := Nat.le_of_eq hgb.symm
  have hgbw := (show Hid (gb = w.heap.size) from hgb)
  clear hg hfi
  obtain ⟨⟨p0, p1, p2, p3⟩, _⟩ := blk4 hblk0
  go_enter Tryz.func5, Tryz.ntmps5
  go_wp2_with fail
  rw [← hWb, ← hgb]
  clear hWb hgb p0 p1 p2 p3
  refine (hok Wb hEw).mono ?_
  rintro e w1 ⟨rfl, hE1⟩
  have hz1 := hE1.le
  have hba1 := (Below.block hE1 gb (by omega)).trans hblk0
  have hbr1 := (Below.block hE1 (gb + 1) (by omega)).trans hblk1
  cases g
  · obtain ⟨⟨t0, t1, t2, t3⟩, tf⟩ := blk4 hbr1
    have tf0 := tf 0
    have tf1 := tf 1
    have tf2 := tf 2
    have tf3 := tf 3
    have hX : Hid (Ext w ((((w1.setCell ⟨gb + 1, 0, none⟩ (.slice none 0 0)).setCell ⟨gb + 1, 1, none⟩ (.slice none 0 0)).setCell ⟨gb + 1, 2, none⟩ (.int .i64 0)).setCell ⟨gb + 1, 3, none⟩ (.int .i64 0))) := (chg4 (W := w1) (b := gb + 1) _ _ _ _).toExt (hEw.trans hE1) (fun x hx => by omega)
    clear tf
    go_wp2
    refine bodyPost_ret (v := .tuple #[.agg #[.slice none 0 0, .slice none 0 0, .int .i64 0, .int .i64 0], .bool false]) (by simp [results, Tryz.results5, go_sem, t0, t1, t2, t3]) rfl ⟨_, _, rfl, (noneL_in 3 _ _).1, (noneL_in 5 _ _).1, hX.out⟩
  · obtain ⟨hl12, hl16, _, hx0, hx1⟩ := hgl rfl
    have hlabs1 := hlabs rfl
    clear hgl hlabs hok
    obtain ⟨⟨p0, p1, p2, p3⟩, _⟩ := blk4 hba1
    go_wp2_with fail
    refine (hcp w1 (hEw.trans hE1)).mono ?_
    rintro e w3 ⟨u0, u1, cs, ds, b0, b1, S0, S1, rfl, hb01, hb02, hGn, hb12, hGr, hS0, hS1, hE3⟩
    clear hcp p0 p1 p2 p3
    have hz3 := hE3.le
    have hd0' : d0 = .list 3 d0.len! d0.at! := by rw [hqH.out]; rfl
    have hd1' : d1 = .list 5 d1.len! d1.at! := by obtain ⟨len1, f1, hd1, _⟩ := H1.list; rw [hd1]; rfl
    have hD0 := (hGn.end (by unfold maxLen; omega)).1
    have hD1 := (hGr.end (by unfold maxLen; omega)).1
    rw [← hd0'] at hD0
    rw [← hd1'] at hD1
    clear hd0' hd1'
    have hS0l := hGn.2.2.1
    have z0 : ∀ x, S0 x → w1.heap.size ≤ x ∧ x < w3.heap.size := fun x hx => ⟨hS0 x hx, hS0l x hx⟩
    have z1 : ∀ x, S1 x → w1.heap.size ≤ x ∧ x < w3.heap.size := fun x hx => ⟨(hS1 x hx).1, (hS1 x hx).2.1⟩
    have z01 : ∀ x, S0 x → ¬ S1 x := fun x h h' => (hS1 x h').2.2 h
    obtain ⟨va, vcap, hvv⟩ := hGn.shape
    subst hvv
    obtain ⟨vl, hvl⟩ : ∃ m, m = d0.len! := ⟨_, rfl⟩
    have hvl' := (show Hid (vl = d0.len!) from hvl)
    rw [← hvl] at hGn hD0
    rw [← hvl]
    have hvl12 : vl ≤ 12 := by omega
    clear hvl
    obtain ⟨ra, rcap, rl, _, hqr, hru, _, _⟩ := list_shape H1 hD1
    subst hru
    clear hqr hGr hS0 hS1 hS0l
    obtain ⟨⟨p0, p1, p2, p3⟩, _⟩ := blk4 ((Below.block hE3 gb (by omega)).trans hba1)
    go_upto_region 4 with fail
    have hEc0 : Ext w3 (w3.alloc (.cells #[.slice va vl vcap, .slice ra rl rcap, .int .i64 x2, .int .i64 x3] 30)) := (Ext.refl _).alloc _
    have hbo0 := heap_alloc_new w3 (.cells #[.slice va vl vcap, .slice ra rl rcap, .int .i64 x2, .int .i64 x3] 30)
    have hzc0 : (w3.alloc (.cells #[.slice va vl vcap, .slice ra rl rcap, .int .i64 x2, .int .i64 x3] 30)).heap.size = w3.heap.size + 1 := by simp
    generalize w3.alloc (.cells #[.slice va vl vcap, .slice ra rl rcap, .int .i64 x2, .int .i64 x3] 30) = Wc at *
    obtain ⟨ob, hob⟩ : ∃ m, m = w3.heap.size := ⟨_, rfl⟩
    rw [← hob] at hbo0 ⊢
    have hob1 := Nat.le_of_eq hob
    have hob2 := Nat.le_of_eq hob.symm
    have hzc1 := Nat.le_of_eq hzc0
    have hzc2 := Nat.le_of_eq hzc0.symm
    clear hob hzc0 p0 p1 p2 p3
    have hEc : Ext w Wc := ((hEw.trans hE1).trans hE3).trans hEc0
    have hbo : ∀ W, Ext Wc W → W.heap[ob]? = some (.cells #[.slice va vl vcap, .slice ra rl rcap, .int .i64 x2, .int .i64 x3] 30 (0, 0)) := fun W hW => (Below.block hW ob (by omega)).trans hbo0
    have hba : ∀ W, Ext Wc W → W.heap[gb]? = some (.cells #[.slice a0 l0 cap0, .slice a1 l1 cap1, .int .i64 x2, .int .i64 x3] 30 (0, 0)) := fun W hW => (Below.block (hEc0.trans hW) gb (by omega)).trans ((Below.block hE3 gb (by omega)).trans hba1)
    have hbr : ∀ W, Ext Wc W → W.heap[gb + 1]? = some (.cells #[.slice none 0 0, .slice none 0 0, .int .i64 0, .int .i64 0] 30 (0, 0)) := fun W hW => (Below.block (hEc0.trans hW) (gb + 1) (by omega)).trans ((Below.block hE3 (gb + 1) (by omega)).trans hbr1)
    have hGn := hGn.ext hEc0
    have hD0 := hD0.ext hEc0
    have hD1 := hD1.ext hEc0
    clear hbo0 hba1 hbr1 hblk0 hblk1
    obtain ⟨⟨p0, p1, p2, p3⟩, _⟩ := blk4 (hba Wc (Ext.refl _))
    have hedc := hed Wc hEc ⟨_, _, _, rfl⟩
    clear hed
    cases a with
    | none =>
      have hbf : b = false := by rw [← hbH.out, lsB_none ha]
      subst hbf
      rw [show edI none = (-1 : Int) from rfl] at hedc
      go_wp2_with fail
      refine hedc.mono ?_
      rintro e w4 ⟨rfl, hEW⟩
      clear hedc p0 p1 p2 p3 ha
      obtain ⟨⟨o0, o1, o2, o3⟩, _⟩ := blk4 (hbo w4 hEW)
      obtain ⟨⟨t0, t1, t2, t3⟩, tf⟩ := blk4 (hbr w4 hEW)
      have tf0 := tf 0
      have tf1 := tf 1
      have tf2 := tf 2
      have tf3 := tf 3
      have hCf := chg4 (W := w4) (b := gb + 1) (.slice va vl vcap) (.slice ra rl rcap) (.int .i64 x2) (.int .i64 x3)
      have hX : Hid (DIn (New gb ((((w4.setCell ⟨gb + 1, 0, none⟩ (.slice va vl vcap)).setCell ⟨gb + 1, 1, none⟩ (.slice ra rl rcap)).setCell ⟨gb + 1, 2, none⟩ (.int .i64 x2)).setCell ⟨gb + 1, 3, none⟩ (.int .i64 x3)).heap.size) ((((w4.setCell ⟨gb + 1, 0, none⟩ (.slice va vl vcap)).setCell ⟨gb + 1, 1, none⟩ (.slice ra rl rcap)).setCell ⟨gb + 1, 2, none⟩ (.int .i64 x2)).setCell ⟨gb + 1, 3, none⟩ (.int .i64 x3)) d0 (.slice va vl vcap) ∧ DIn (New gb ((((w4.setCell ⟨gb + 1, 0, none⟩ (.slice va vl vcap)).setCell ⟨gb + 1, 1, none⟩ (.slice ra rl rcap)).setCell ⟨gb + 1, 2, none⟩ (.int .i64 x2)).setCell ⟨gb + 1, 3, none⟩ (.int .i64 x3)).heap.size) ((((w4.setCell ⟨gb + 1, 0, none⟩ (.slice va vl vcap)).setCell ⟨gb + 1, 1, none⟩ (.slice ra rl rcap)).setCell ⟨gb + 1, 2, none⟩ (.int .i64 x2)).setCell ⟨gb + 1, 3, none⟩ (.int .i64 x3)) d1 (.slice ra rl rcap) ∧ Ext w ((((w4.setCell ⟨gb + 1, 0, none⟩ (.slice va vl vcap)).setCell ⟨gb + 1, 1, none⟩ (.slice ra rl rcap)).setCell ⟨gb + 1, 2, none⟩ (.int .i64 x2)).setCell ⟨gb + 1, 3, none⟩ (.int .i64 x3))) := by
        have hz := hEW.le
        refine ⟨((hD0.ext hEW).carry hCf.size (fun b hb hl => hCf.block b hl (by have := z0 b hb; omega))).mono (fun x hx => ⟨by have := z0 x hx; omega, by have := z0 x hx; simp only [World.size_setCell]; omega⟩), ((hD1.ext hEW).carry hCf.size (fun b hb hl => hCf.block b hl (by have := z1 b hb; omega))).mono (fun x hx => ⟨by have := z1 x hx; omega, by have := z1 x hx; simp only [World.size_setCell]; omega⟩), hCf.toExt (hEc.trans hEW) (fun x hx => by omega)⟩
      clear hCf tf
      go_wp2
      refine bodyPost_ret (v := .tuple #[.agg #[.slice va vl vcap, .slice ra rl rcap, .int .i64 x2, .int .i64 x3], .bool false]) (by simp [results, Tryz.results5, go_sem, t0, t1, t2, t3]) rfl ⟨_, _, rfl, ?_, ?_, hX.out.2.2⟩
      · rw [← hgbw.out]; exact hX.out.1
      · rw [← hgbw.out]; exact hX.out.2.1
    | some k =>
      obtain ⟨hkl, hkid, _⟩ := edK_some ha
      have hkn : ¬ (k : Int) < 0 := by omega
      have hlsb := lsB_some (s := s) (has := has) ha
      have hlsd := lsD0_some (s := s) (has := has) ha
      rw [show edI (some k) = (k : Int) from rfl] at hedc
      go_wp2_with fail
      refine hedc.mono ?_
      rintro e w4 ⟨rfl, hE4⟩
      clear hedc p0 p1 p2 p3 ha
      cases hnmb : nameB s
      · have hbf : b = false := by rw [← hbH.out, hlsb, labOk, hnmb]; rfl
        subst hbf
        rw [hnmb] at hnm
        have hnm4 := hnm w4
        clear hlsb hlsd
        go_upto_region 6 with (go_at_call 16; refine hnm4.mono ?_; rintro e w5 ⟨rfl, hE5⟩)
        have hEW := hE4.trans hE5
        obtain ⟨⟨o0, o1, o2, o3⟩, _⟩ := blk4 (hbo w5 hEW)
        obtain ⟨⟨t0, t1, t2, t3⟩, tf⟩ := blk4 (hbr w5 hEW)
        have tf0 := tf 0
        have tf1 := tf 1
        have tf2 := tf 2
        have tf3 := tf 3
        have hCf := chg4 (W := w5) (b := gb + 1) (.slice va vl vcap) (.slice ra rl rcap) (.int .i64 x2) (.int .i64 x3)
        have hX : Hid (DIn (New gb ((((w5.setCell ⟨gb + 1, 0, none⟩ (.slice va vl vcap)).setCell ⟨gb + 1, 1, none⟩ (.slice ra rl rcap)).setCell ⟨gb + 1, 2, none⟩ (.int .i64 x2)).setCell ⟨gb + 1, 3, none⟩ (.int .i64 x3)).heap.size) ((((w5.setCell ⟨gb + 1, 0, none⟩ (.slice va vl vcap)).setCell ⟨gb + 1, 1, none⟩ (.slice ra rl rcap)).setCell ⟨gb + 1, 2, none⟩ (.int .i64 x2)).setCell ⟨gb + 1, 3, none⟩ (.int .i64 x3)) d0 (.slice va vl vcap) ∧ DIn (New gb ((((w5.setCell ⟨gb + 1, 0, none⟩ (.slice va vl vcap)).setCell ⟨gb + 1, 1, none⟩ (.slice ra rl rcap)).setCell ⟨gb + 1, 2, none⟩ (.int .i64 x2)).setCell ⟨gb + 1, 3, none⟩ (.int .i64 x3)).heap.size) ((((w5.setCell ⟨gb + 1, 0, none⟩ (.slice va vl vcap)).setCell ⟨gb + 1, 1, none⟩ (.slice ra rl rcap)).setCell ⟨gb + 1, 2, none⟩ (.int .i64 x2)).setCell ⟨gb + 1, 3, none⟩ (.int .i64 x3)) d1 (.slice ra rl rcap) ∧ Ext w ((((w5.setCell ⟨gb + 1, 0, none⟩ (.slice va vl vcap)).setCell ⟨gb + 1, 1, none⟩ (.slice ra rl rcap)).setCell ⟨gb + 1, 2, none⟩ (.int .i64 x2)).setCell ⟨gb + 1, 3, none⟩ (.int .i64 x3))) := by
          have hz := hEW.le
          refine ⟨((hD0.ext hEW).carry hCf.size (fun b hb hl => hCf.block b hl (by have := z0 b hb; omega))).mono (fun x hx => ⟨by have := z0 x hx; omega, by have := z0 x hx; simp only [World.size_setCell]; omega⟩), ((hD1.ext hEW).carry hCf.size (fun b hb hl => hCf.block b hl (by have := z1 b hb; omega))).mono (fun x hx => ⟨by have := z1 x hx; omega, by have := z1 x hx; simp only [World.size_setCell]; omega⟩), hCf.toExt (hEc.trans hEW) (fun x hx => by omega)⟩
        clear hCf tf
        go_wp2
        refine bodyPost_ret (v := .tuple #[.agg #[.slice va vl vcap, .slice ra rl rcap, .int .i64 x2, .int .i64 x3], .bool false]) (by simp [results, Tryz.results5, go_sem, t0, t1, t2, t3]) rfl ⟨_, _, rfl, ?_, ?_, hX.out.2.2⟩
        · rw [← hgbw.out]; exact hX.out.1
        · rw [← hgbw.out]; exact hX.out.2.1
      · rw [hnmb] at hnm
        have hnm4 := hnm w4
        clear hnm
        go_upto_region 7 with (go_at_call 16; refine hnm4.mono ?_; rintro e w5 ⟨rfl, hE5⟩)
        have hE45 := hE4.trans hE5
        clear hnm4
        have hkl0 : k < l0 := by have := hkl; rw [hqH.out] at this; exact this
        have h0' : DIn S w (.list 3 l0 f0) (.slice a0 l0 cap0) := by have := h0; rw [hqH.out] at this; exact this
        have hat : d0.at! k = f0 k := by rw [hqH.out]; rfl
        obtain ⟨cap2, bb, off, C, hca, _, hbb, ec, hx⟩ := h0'.at hkl0
        injection hca with hca1 _ hca2
        subst hca1 hca2
        have HR := HRa k hkl0
        have HL : Has (f0 k 1) (.list 0) := HR 1 (by decide)
        have hx1 := hx 1 (by decide)
        have e1 := ec 1 (by decide)
        obtain ⟨la, lc, ln, fL, hdL, hC1, _, _⟩ := list_shape HL hx1
        rw [hC1] at hx1 e1
        have hLl : ln = (strsOf (f0 k 1)).length := by rw [strsOf_len, hdL]; rfl
        subst hLl
        have hsrc : SrcS w (.slice la (strsOf (f0 k 1)).length lc) (strsOf (f0 k 1)) := by
          obtain ⟨lenL, gL, hdL2, HRL⟩ := HL.list
          rw [hdL2] at hx1 ⊢
          exact strs_src HRL hx1
        have hlab0 := hlabs1 k hkl
        rw [hat] at hlab0 hlsb hlsd
        have hasc := labels_asc hlab0
        have hsm := setL_small (has := has) (strsOf_small HL hx1) zs
        have hset := setL_len (strsOf (f0 k 1)) s has
        have hl3 : (strsOf (f0 k 1)).length ≤ 3 := by
          rw [strsOf_len]
          simp only [labelsB, Bool.and_eq_true, decide_eq_true_eq] at hlab0
          exact hlab0.2
        have hLB : Hid (lsB d0 id s has = labelsB (labD (f0 k 1) s has)) := by show _ = _; rw [hlsb, labOk, hnmb]; rfl
        have hLD : Hid (strsD (setL (strsOf (f0 k 1)) s has) = labD (f0 k 1) s has) := rfl
        have hlsD : Hid (lsD0 true true d0 id s has = .list 3 vl (setF d0.at! k 1 (labD (f0 k 1) s has))) := by show _ = _; rw [hlsd, hvl'.out]
        have hkv : k < vl := by rw [hvl'.out]; exact hkl
        generalize labD (f0 k 1) s has = dN at *
        have hfs : Hid (filS (strsOf (f0 k 1)) s (strsOf (f0 k 1)).length = setL (strsOf (f0 k 1)) s false) := by show _ = _; unfold filS; rw [List.take_length]; exact fil_set hasc s
        have hfa : AscS (setL (strsOf (f0 k 1)) s false) := by rw [← fil_set hasc s]; exact fil_asc hasc s
        have hfn : ∀ x ∈ setL (strsOf (f0 k 1)) s false, x ≠ s := by rw [← fil_set hasc s]; exact fil_ne _ s
        have hss := set_set (strsOf (f0 k 1)) s
        have hssH := (show Hid _ from hss)
        generalize strsOf (f0 k 1) = l at *
        clear hlab0 hlsb hlsd hat hss hdL hC1 ec hx hkl HL HR h0'
        have hcell : Hid (∀ i (hi : i < l.length), ∃ b o, la = some ⟨b, o, none⟩ ∧ b < w.heap.size ∧ w.cell? ⟨b, o + i, none⟩ = some (.string l[i])) := fun i hi => by
          obtain ⟨p, c, e, h2⟩ := hsrc
          injection e with e1 _ _
          rcases h2 with h2 | ⟨b, o, hp, hb, hcs⟩
          · rw [h2] at hi; simp at hi
          · exact ⟨b, o, e1.trans hp, hb, hcs i _ (by rw [List.getElem?_map, List.getElem?_eq_getElem hi]; rfl)⟩
        clear hsrc
        obtain ⟨i0, hi0, hz00, hz01, hz02⟩ := infoS_parts
        have hmade : (w5.alloc (.cells #[] 9)).ownsRow Wc.heap.size 9 1 (.slice (some ⟨w5.heap.size, 0, none⟩) 0 0) (filS l s 0).length ((filS l s 0).map Value.string) := by
          have := World.ownsRow_made (e := 9) (size := 1) (base := Wc.heap.size) w5 #[] 0 hE45.le (Nat.zero_le _) (by simp)
          simpa [filS] using this
        go_wp2
        go_loopw [12, 13] (fun u i wr => ∃ j : Nat, j ≤ l.length ∧ i = .int .i64 j ∧ wr.ownsRow Wc.heap.size 9 1 u (filS l s j).length ((filS l s j).map Value.string) ∧ Ext Wc wr) (fun _ i _ => l.length - (intOf i).toNat)
        case atStart => exact ⟨0, Nat.zero_le _, rfl, hmade, hE45.alloc _⟩
        case round =>
          clear hmade
          obtain ⟨j, hj, rfl, hoR, hEr⟩ := hrel
          obtain ⟨ua, uc, rfl, _⟩ := own9_shape hoR
          obtain ⟨⟨p0, p1, p2, p3⟩, _⟩ := blk4 (hba wr hEr)
          have e1r := ((hEc.trans hEr).cell (p := ⟨bb, off + k * 3 + 1, none⟩) hbb).trans e1
          by_cases hlt : j < l.length
          · obtain ⟨lb, lo, rfl, hlbl, e2⟩ := hcell.out j hlt
            have e2r := ((hEc.trans hEr).cell (p := ⟨lb, lo + j, none⟩) hlbl).trans e2
            have hsucc := filS_succ (s := s) hlt
            have hfl := filS_len l s j
            have hsuccH := (show Hid _ from hsucc)
            clear hsucc e2
            cases hq : (l[j].toList == s.toList)
            · have hs1 : Hid (filS l s (j + 1) = filS l s j ++ [l[j]]) := by show _ = _; rw [hsuccH.out, hq]; rfl
              have hs2 : Hid ((filS l s (j + 1)).length = (filS l s j).length + 1) := by show _ = _; rw [hs1.out, List.length_append]; rfl
              generalize l[j] = X at *
              have hro := fun (W : World) (hW : Ext wr W) => (hoR.kept hW.grown (Classical.em _) : W.ownsRow Wc.heap.size 9 1 (.slice ua (filS l s j).length uc) (filS l s j).length ((filS l s j).map Value.string))
              have hroA := hro _ ((Ext.refl wr).alloc (.cells #[.string X] 9))
              clear hro
              have hzwr := hEr.le
              go_wp2_with (at_builtin; refine wpList_append_own_at _ rfl _ _ 42 rfl Wc.heap.size 9 i0 _ 1 16 Tryz.underlying42 hi0 hz00 hz01 hz02 rfl (by decide) _ _ _ rfl hroA ⟨_, 0, none⟩ 1 1 [.string X] rfl rfl (cell_one_new _ _ _) (by simp [Value.oneCell']) (by unfold maxLen; omega) (by omega) (by simp; omega) ?_; intro v' w6 hown' hgrow hnil hloc)
              go_roundw
              case rel => exact ⟨j + 1, by omega, by go_num, by rw [hs2.out, hs1.out, List.map_append]; exact hown', Below.grown (hEr.trans ((Ext.refl wr).alloc _)) hgrow (by simp; omega) (fun x hx => (hroA.lt x hx).1)⟩
              case measure => simp [intOf]; omega
            · have hs1 : Hid (filS l s (j + 1) = filS l s j) := by show _ = _; rw [hsuccH.out, hq]; simp
              generalize l[j] = X at *
              go_wp2
              go_roundw
              case rel => exact ⟨j + 1, by omega, by go_num, by rw [hs1.out]; exact hoR, hEr⟩
              case measure => simp [intOf]; omega
          · have hjl : j = l.length := by omega
            subst hjl
            rw [hfs.out] at hoR ⊢
            have hset0 := setL_len l s false
            cases has
            · clear hssH hfs hfa hfn
              have hlbl := l2Labels_any (strsD (setL l s false)) (strsD_has _) _ _ wr (strs_in hsm (by unfold maxLen; omega) hoR)
              rw [hLD.out] at hlbl
              go_wp2_with fail
              refine hlbl.mono ?_
              rintro e w9 ⟨rfl, hE9⟩
              clear hlbl
              have hEW9 : Ext Wc w9 := (hEr).trans hE9
              cases hok : labelsB dN
              · have hbf : b = false := by rw [← hbH.out, hLB.out, hok]
                subst hbf
                have hEW := hEW9
                clear hoR
                obtain ⟨⟨o0, o1, o2, o3⟩, _⟩ := blk4 (hbo w9 hEW)
                obtain ⟨⟨t0, t1, t2, t3⟩, tf⟩ := blk4 (hbr w9 hEW)
                have tf0 := tf 0
                have tf1 := tf 1
                have tf2 := tf 2
                have tf3 := tf 3
                have hCf := chg4 (W := w9) (b := gb + 1) (.slice va vl vcap) (.slice ra rl rcap) (.int .i64 x2) (.int .i64 x3)
                have hX : Hid (DIn (New gb ((((w9.setCell ⟨gb + 1, 0, none⟩ (.slice va vl vcap)).setCell ⟨gb + 1, 1, none⟩ (.slice ra rl rcap)).setCell ⟨gb + 1, 2, none⟩ (.int .i64 x2)).setCell ⟨gb + 1, 3, none⟩ (.int .i64 x3)).heap.size) ((((w9.setCell ⟨gb + 1, 0, none⟩ (.slice va vl vcap)).setCell ⟨gb + 1, 1, none⟩ (.slice ra rl rcap)).setCell ⟨gb + 1, 2, none⟩ (.int .i64 x2)).setCell ⟨gb + 1, 3, none⟩ (.int .i64 x3)) d0 (.slice va vl vcap) ∧ DIn (New gb ((((w9.setCell ⟨gb + 1, 0, none⟩ (.slice va vl vcap)).setCell ⟨gb + 1, 1, none⟩ (.slice ra rl rcap)).setCell ⟨gb + 1, 2, none⟩ (.int .i64 x2)).setCell ⟨gb + 1, 3, none⟩ (.int .i64 x3)).heap.size) ((((w9.setCell ⟨gb + 1, 0, none⟩ (.slice va vl vcap)).setCell ⟨gb + 1, 1, none⟩ (.slice ra rl rcap)).setCell ⟨gb + 1, 2, none⟩ (.int .i64 x2)).setCell ⟨gb + 1, 3, none⟩ (.int .i64 x3)) d1 (.slice ra rl rcap) ∧ Ext w ((((w9.setCell ⟨gb + 1, 0, none⟩ (.slice va vl vcap)).setCell ⟨gb + 1, 1, none⟩ (.slice ra rl rcap)).setCell ⟨gb + 1, 2, none⟩ (.int .i64 x2)).setCell ⟨gb + 1, 3, none⟩ (.int .i64 x3))) := by
                  have hz := hEW.le
                  refine ⟨((hD0.ext hEW).carry hCf.size (fun b hb hl => hCf.block b hl (by have := z0 b hb; omega))).mono (fun x hx => ⟨by have := z0 x hx; omega, by have := z0 x hx; simp only [World.size_setCell]; omega⟩), ((hD1.ext hEW).carry hCf.size (fun b hb hl => hCf.block b hl (by have := z1 b hb; omega))).mono (fun x hx => ⟨by have := z1 x hx; omega, by have := z1 x hx; simp only [World.size_setCell]; omega⟩), hCf.toExt (hEc.trans hEW) (fun x hx => by omega)⟩
                clear hCf tf
                go_wp2
                refine bodyPost_ret (v := .tuple #[.agg #[.slice va vl vcap, .slice ra rl rcap, .int .i64 x2, .int .i64 x3], .bool false]) (by simp [results, Tryz.results5, go_sem, t0, t1, t2, t3]) rfl ⟨_, _, rfl, ?_, ?_, hX.out.2.2⟩
                · rw [← hgbw.out]; exact hX.out.1
                · rw [← hgbw.out]; exact hX.out.2.1

              · have hbt : b = true := by rw [← hbH.out, hLB.out, hok]
                subst hbt
                have hRD := (strs_in hsm (by unfold maxLen; omega) hoR).ext hE9
                rw [hLD.out] at hRD
                have hult : ∀ x, (Value.slice ua (setL l s false).length uc).ownBlock = some x → Wc.heap.size ≤ x ∧ x < wr.heap.size := fun x hx => hoR.lt x hx
                have hzc := hEW9.le
                have hz9 := hE9.le
                have hzW := (hEr).le
                obtain ⟨g, hva, hgS, ⟨uo, huo⟩, hfz, hDn⟩ := (hGn.ext hEW9).set (i0 := k) (j0 := 1) hkv (by decide) hRD (fun x hx hs => by have h1 := (hult x hx).1; have h2 := z0 x hs; omega) (by unfold maxLen; omega)
                subst hva
                have hfz1 := hfz (k * 3 + 1)
                have hgz := z0 g hgS
                obtain ⟨⟨o0, o1, o2, o3⟩, _⟩ := blk4 (hbo w9 hEW9)
                have hCf : Chg (fun x => x = g ∨ x = gb + 1) w9 (((((w9.setCell ⟨g, k * 3 + 1, none⟩ (.slice ua (setL l s false).length uc)).setCell ⟨gb + 1, 0, none⟩ (.slice (some ⟨g, 0, none⟩) vl vcap)).setCell ⟨gb + 1, 1, none⟩ (.slice ra rl rcap)).setCell ⟨gb + 1, 2, none⟩ (.int .i64 x2)).setCell ⟨gb + 1, 3, none⟩ (.int .i64 x3)) := ((Chg.refl (fun x => x = g ∨ x = gb + 1) w9).setCell (p := ⟨g, k * 3 + 1, none⟩) (.inl rfl) _).trans ((chg4 (W := (w9.setCell ⟨g, k * 3 + 1, none⟩ (.slice ua (setL l s false).length uc))) (b := gb + 1) (.slice (some ⟨g, 0, none⟩) vl vcap) (.slice ra rl rcap) (.int .i64 x2) (.int .i64 x3)).mono (fun x hx => .inr hx))
                have hbr9 := hbr w9 hEW9
                have hbrS : (w9.setCell ⟨g, k * 3 + 1, none⟩ (.slice ua (setL l s false).length uc)).heap[gb + 1]? = _ := (Below.heap_setCell _ _ _ _ (by show gb + 1 ≠ g; omega)).trans hbr9
                have hboS : (w9.setCell ⟨g, k * 3 + 1, none⟩ (.slice ua (setL l s false).length uc)).heap[ob]? = _ := (Below.heap_setCell _ _ _ _ (by show ob ≠ g; omega)).trans (hbo w9 hEW9)
                have hX : Hid (DIn (New gb (((((w9.setCell ⟨g, k * 3 + 1, none⟩ (.slice ua (setL l s false).length uc)).setCell ⟨gb + 1, 0, none⟩ (.slice (some ⟨g, 0, none⟩) vl vcap)).setCell ⟨gb + 1, 1, none⟩ (.slice ra rl rcap)).setCell ⟨gb + 1, 2, none⟩ (.int .i64 x2)).setCell ⟨gb + 1, 3, none⟩ (.int .i64 x3)).heap.size) (((((w9.setCell ⟨g, k * 3 + 1, none⟩ (.slice ua (setL l s false).length uc)).setCell ⟨gb + 1, 0, none⟩ (.slice (some ⟨g, 0, none⟩) vl vcap)).setCell ⟨gb + 1, 1, none⟩ (.slice ra rl rcap)).setCell ⟨gb + 1, 2, none⟩ (.int .i64 x2)).setCell ⟨gb + 1, 3, none⟩ (.int .i64 x3)) (.list 3 vl (setF d0.at! k 1 dN)) (.slice (some ⟨g, 0, none⟩) vl vcap) ∧ DIn (New gb (((((w9.setCell ⟨g, k * 3 + 1, none⟩ (.slice ua (setL l s false).length uc)).setCell ⟨gb + 1, 0, none⟩ (.slice (some ⟨g, 0, none⟩) vl vcap)).setCell ⟨gb + 1, 1, none⟩ (.slice ra rl rcap)).setCell ⟨gb + 1, 2, none⟩ (.int .i64 x2)).setCell ⟨gb + 1, 3, none⟩ (.int .i64 x3)).heap.size) (((((w9.setCell ⟨g, k * 3 + 1, none⟩ (.slice ua (setL l s false).length uc)).setCell ⟨gb + 1, 0, none⟩ (.slice (some ⟨g, 0, none⟩) vl vcap)).setCell ⟨gb + 1, 1, none⟩ (.slice ra rl rcap)).setCell ⟨gb + 1, 2, none⟩ (.int .i64 x2)).setCell ⟨gb + 1, 3, none⟩ (.int .i64 x3)) d1 (.slice ra rl rcap) ∧ Ext w (((((w9.setCell ⟨g, k * 3 + 1, none⟩ (.slice ua (setL l s false).length uc)).setCell ⟨gb + 1, 0, none⟩ (.slice (some ⟨g, 0, none⟩) vl vcap)).setCell ⟨gb + 1, 1, none⟩ (.slice ra rl rcap)).setCell ⟨gb + 1, 2, none⟩ (.int .i64 x2)).setCell ⟨gb + 1, 3, none⟩ (.int .i64 x3))) := by
                  have hC4 := chg4 (W := (w9.setCell ⟨g, k * 3 + 1, none⟩ (.slice ua (setL l s false).length uc))) (b := gb + 1) (.slice (some ⟨g, 0, none⟩) vl vcap) (.slice ra rl rcap) (.int .i64 x2) (.int .i64 x3)
                  refine ⟨(hDn.carry hC4.size (fun b hb hl => hC4.block b hl (by rcases hb with hb | hb; (have := z0 b hb; omega); (have := (hult b hb).1; omega)))).mono (fun x hx => ?_), ((hD1.ext hEW9).carry hCf.size (fun b hb hl => hCf.block b hl (fun e => by rcases e with e | e; exact z01 g hgS (by rw [← e]; exact hb); (have := z1 b hb; omega)))).mono (fun x hx => ⟨by have := z1 x hx; omega, by have := z1 x hx; simp only [World.size_setCell]; omega⟩), hCf.toExt (hEc.trans hEW9) (fun x hx => by rcases hx with hx | hx <;> omega)⟩
                  rcases hx with hx | hx
                  · exact ⟨by have := z0 x hx; omega, by have := z0 x hx; simp only [World.size_setCell]; omega⟩
                  · exact ⟨by have := (hult x hx).1; omega, by have := (hult x hx).2; simp only [World.size_setCell]; omega⟩
                obtain ⟨⟨t0, t1, t2, t3⟩, tf⟩ := blk4 hbrS
                have tf0 := tf 0
                have tf1 := tf 1
                have tf2 := tf 2
                have tf3 := tf 3
                obtain ⟨⟨q0, q1, q2, q3⟩, _⟩ := blk4 hboS
                have huo' : w9.cell? ⟨g, k * 3 + 1, none⟩ = some uo := huo
                clear hCf tf hDn hRD hoR hbrS hboS
                go_wp2
                refine bodyPost_ret (v := .tuple #[.agg #[.slice (some ⟨g, 0, none⟩) vl vcap, .slice ra rl rcap, .int .i64 x2, .int .i64 x3], .bool true]) (by simp [results, Tryz.results5, go_sem, t0, t1, t2, t3]) rfl ⟨_, _, rfl, ?_, ?_, hX.out.2.2⟩
                · rw [← hgbw.out, hlsD.out]; exact hX.out.1
                · rw [← hgbw.out]; exact hX.out.2.1
            · have hadd := l2Add_any wr Wc.heap.size (setL l s false) _ s hoR hfa hfn (by omega)
              rw [hssH.out] at hadd
              clear hssH hfs hfa hfn hoR
              go_wp2_with fail
              refine hadd.mono ?_
              rintro e w7 ⟨ya, yc, rfl, hoY, hE7⟩
              have hoR := own9_low hoY hEr.le
              have hE47 := hEr.trans hE7
              clear hadd hoY
              have hlbl := l2Labels_any (strsD (setL l s true)) (strsD_has _) _ _ w7 (strs_in hsm (by unfold maxLen; omega) hoR)
              rw [hLD.out] at hlbl
              go_wp2_with fail
              refine hlbl.mono ?_
              rintro e w9 ⟨rfl, hE9⟩
              clear hlbl
              have hEW9 : Ext Wc w9 := (hE47).trans hE9
              cases hok : labelsB dN
              · have hbf : b = false := by rw [← hbH.out, hLB.out, hok]
                subst hbf
                have hEW := hEW9
                clear hoR
                obtain ⟨⟨o0, o1, o2, o3⟩, _⟩ := blk4 (hbo w9 hEW)
                obtain ⟨⟨t0, t1, t2, t3⟩, tf⟩ := blk4 (hbr w9 hEW)
                have tf0 := tf 0
                have tf1 := tf 1
                have tf2 := tf 2
                have tf3 := tf 3
                have hCf := chg4 (W := w9) (b := gb + 1) (.slice va vl vcap) (.slice ra rl rcap) (.int .i64 x2) (.int .i64 x3)
                have hX : Hid (DIn (New gb ((((w9.setCell ⟨gb + 1, 0, none⟩ (.slice va vl vcap)).setCell ⟨gb + 1, 1, none⟩ (.slice ra rl rcap)).setCell ⟨gb + 1, 2, none⟩ (.int .i64 x2)).setCell ⟨gb + 1, 3, none⟩ (.int .i64 x3)).heap.size) ((((w9.setCell ⟨gb + 1, 0, none⟩ (.slice va vl vcap)).setCell ⟨gb + 1, 1, none⟩ (.slice ra rl rcap)).setCell ⟨gb + 1, 2, none⟩ (.int .i64 x2)).setCell ⟨gb + 1, 3, none⟩ (.int .i64 x3)) d0 (.slice va vl vcap) ∧ DIn (New gb ((((w9.setCell ⟨gb + 1, 0, none⟩ (.slice va vl vcap)).setCell ⟨gb + 1, 1, none⟩ (.slice ra rl rcap)).setCell ⟨gb + 1, 2, none⟩ (.int .i64 x2)).setCell ⟨gb + 1, 3, none⟩ (.int .i64 x3)).heap.size) ((((w9.setCell ⟨gb + 1, 0, none⟩ (.slice va vl vcap)).setCell ⟨gb + 1, 1, none⟩ (.slice ra rl rcap)).setCell ⟨gb + 1, 2, none⟩ (.int .i64 x2)).setCell ⟨gb + 1, 3, none⟩ (.int .i64 x3)) d1 (.slice ra rl rcap) ∧ Ext w ((((w9.setCell ⟨gb + 1, 0, none⟩ (.slice va vl vcap)).setCell ⟨gb + 1, 1, none⟩ (.slice ra rl rcap)).setCell ⟨gb + 1, 2, none⟩ (.int .i64 x2)).setCell ⟨gb + 1, 3, none⟩ (.int .i64 x3))) := by
                  have hz := hEW.le
                  refine ⟨((hD0.ext hEW).carry hCf.size (fun b hb hl => hCf.block b hl (by have := z0 b hb; omega))).mono (fun x hx => ⟨by have := z0 x hx; omega, by have := z0 x hx; simp only [World.size_setCell]; omega⟩), ((hD1.ext hEW).carry hCf.size (fun b hb hl => hCf.block b hl (by have := z1 b hb; omega))).mono (fun x hx => ⟨by have := z1 x hx; omega, by have := z1 x hx; simp only [World.size_setCell]; omega⟩), hCf.toExt (hEc.trans hEW) (fun x hx => by omega)⟩
                clear hCf tf
                go_wp2
                refine bodyPost_ret (v := .tuple #[.agg #[.slice va vl vcap, .slice ra rl rcap, .int .i64 x2, .int .i64 x3], .bool false]) (by simp [results, Tryz.results5, go_sem, t0, t1, t2, t3]) rfl ⟨_, _, rfl, ?_, ?_, hX.out.2.2⟩
                · rw [← hgbw.out]; exact hX.out.1
                · rw [← hgbw.out]; exact hX.out.2.1

              · have hbt : b = true := by rw [← hbH.out, hLB.out, hok]
                subst hbt
                have hRD := (strs_in hsm (by unfold maxLen; omega) hoR).ext hE9
                rw [hLD.out] at hRD
                have hult : ∀ x, (Value.slice ya (setL l s true).length yc).ownBlock = some x → Wc.heap.size ≤ x ∧ x < w7.heap.size := fun x hx => hoR.lt x hx
                have hzc := hEW9.le
                have hz9 := hE9.le
                have hzW := (hE47).le
                obtain ⟨g, hva, hgS, ⟨uo, huo⟩, hfz, hDn⟩ := (hGn.ext hEW9).set (i0 := k) (j0 := 1) hkv (by decide) hRD (fun x hx hs => by have h1 := (hult x hx).1; have h2 := z0 x hs; omega) (by unfold maxLen; omega)
                subst hva
                have hfz1 := hfz (k * 3 + 1)
                have hgz := z0 g hgS
                obtain ⟨⟨o0, o1, o2, o3⟩, _⟩ := blk4 (hbo w9 hEW9)
                have hCf : Chg (fun x => x = g ∨ x = gb + 1) w9 (((((w9.setCell ⟨g, k * 3 + 1, none⟩ (.slice ya (setL l s true).length yc)).setCell ⟨gb + 1, 0, none⟩ (.slice (some ⟨g, 0, none⟩) vl vcap)).setCell ⟨gb + 1, 1, none⟩ (.slice ra rl rcap)).setCell ⟨gb + 1, 2, none⟩ (.int .i64 x2)).setCell ⟨gb + 1, 3, none⟩ (.int .i64 x3)) := ((Chg.refl (fun x => x = g ∨ x = gb + 1) w9).setCell (p := ⟨g, k * 3 + 1, none⟩) (.inl rfl) _).trans ((chg4 (W := (w9.setCell ⟨g, k * 3 + 1, none⟩ (.slice ya (setL l s true).length yc))) (b := gb + 1) (.slice (some ⟨g, 0, none⟩) vl vcap) (.slice ra rl rcap) (.int .i64 x2) (.int .i64 x3)).mono (fun x hx => .inr hx))
                have hbr9 := hbr w9 hEW9
                have hbrS : (w9.setCell ⟨g, k * 3 + 1, none⟩ (.slice ya (setL l s true).length yc)).heap[gb + 1]? = _ := (Below.heap_setCell _ _ _ _ (by show gb + 1 ≠ g; omega)).trans hbr9
                have hboS : (w9.setCell ⟨g, k * 3 + 1, none⟩ (.slice ya (setL l s true).length yc)).heap[ob]? = _ := (Below.heap_setCell _ _ _ _ (by show ob ≠ g; omega)).trans (hbo w9 hEW9)
                have hX : Hid (DIn (New gb (((((w9.setCell ⟨g, k * 3 + 1, none⟩ (.slice ya (setL l s true).length yc)).setCell ⟨gb + 1, 0, none⟩ (.slice (some ⟨g, 0, none⟩) vl vcap)).setCell ⟨gb + 1, 1, none⟩ (.slice ra rl rcap)).setCell ⟨gb + 1, 2, none⟩ (.int .i64 x2)).setCell ⟨gb + 1, 3, none⟩ (.int .i64 x3)).heap.size) (((((w9.setCell ⟨g, k * 3 + 1, none⟩ (.slice ya (setL l s true).length yc)).setCell ⟨gb + 1, 0, none⟩ (.slice (some ⟨g, 0, none⟩) vl vcap)).setCell ⟨gb + 1, 1, none⟩ (.slice ra rl rcap)).setCell ⟨gb + 1, 2, none⟩ (.int .i64 x2)).setCell ⟨gb + 1, 3, none⟩ (.int .i64 x3)) (.list 3 vl (setF d0.at! k 1 dN)) (.slice (some ⟨g, 0, none⟩) vl vcap) ∧ DIn (New gb (((((w9.setCell ⟨g, k * 3 + 1, none⟩ (.slice ya (setL l s true).length yc)).setCell ⟨gb + 1, 0, none⟩ (.slice (some ⟨g, 0, none⟩) vl vcap)).setCell ⟨gb + 1, 1, none⟩ (.slice ra rl rcap)).setCell ⟨gb + 1, 2, none⟩ (.int .i64 x2)).setCell ⟨gb + 1, 3, none⟩ (.int .i64 x3)).heap.size) (((((w9.setCell ⟨g, k * 3 + 1, none⟩ (.slice ya (setL l s true).length yc)).setCell ⟨gb + 1, 0, none⟩ (.slice (some ⟨g, 0, none⟩) vl vcap)).setCell ⟨gb + 1, 1, none⟩ (.slice ra rl rcap)).setCell ⟨gb + 1, 2, none⟩ (.int .i64 x2)).setCell ⟨gb + 1, 3, none⟩ (.int .i64 x3)) d1 (.slice ra rl rcap) ∧ Ext w (((((w9.setCell ⟨g, k * 3 + 1, none⟩ (.slice ya (setL l s true).length yc)).setCell ⟨gb + 1, 0, none⟩ (.slice (some ⟨g, 0, none⟩) vl vcap)).setCell ⟨gb + 1, 1, none⟩ (.slice ra rl rcap)).setCell ⟨gb + 1, 2, none⟩ (.int .i64 x2)).setCell ⟨gb + 1, 3, none⟩ (.int .i64 x3))) := by
                  have hC4 := chg4 (W := (w9.setCell ⟨g, k * 3 + 1, none⟩ (.slice ya (setL l s true).length yc))) (b := gb + 1) (.slice (some ⟨g, 0, none⟩) vl vcap) (.slice ra rl rcap) (.int .i64 x2) (.int .i64 x3)
                  refine ⟨(hDn.carry hC4.size (fun b hb hl => hC4.block b hl (by rcases hb with hb | hb; (have := z0 b hb; omega); (have := (hult b hb).1; omega)))).mono (fun x hx => ?_), ((hD1.ext hEW9).carry hCf.size (fun b hb hl => hCf.block b hl (fun e => by rcases e with e | e; exact z01 g hgS (by rw [← e]; exact hb); (have := z1 b hb; omega)))).mono (fun x hx => ⟨by have := z1 x hx; omega, by have := z1 x hx; simp only [World.size_setCell]; omega⟩), hCf.toExt (hEc.trans hEW9) (fun x hx => by rcases hx with hx | hx <;> omega)⟩
                  rcases hx with hx | hx
                  · exact ⟨by have := z0 x hx; omega, by have := z0 x hx; simp only [World.size_setCell]; omega⟩
                  · exact ⟨by have := (hult x hx).1; omega, by have := (hult x hx).2; simp only [World.size_setCell]; omega⟩
                obtain ⟨⟨t0, t1, t2, t3⟩, tf⟩ := blk4 hbrS
                have tf0 := tf 0
                have tf1 := tf 1
                have tf2 := tf 2
                have tf3 := tf 3
                obtain ⟨⟨q0, q1, q2, q3⟩, _⟩ := blk4 hboS
                have huo' : w9.cell? ⟨g, k * 3 + 1, none⟩ = some uo := huo
                clear hCf tf hDn hRD hoR hbrS hboS
                go_wp2
                refine bodyPost_ret (v := .tuple #[.agg #[.slice (some ⟨g, 0, none⟩) vl vcap, .slice ra rl rcap, .int .i64 x2, .int .i64 x3], .bool true]) (by simp [results, Tryz.results5, go_sem, t0, t1, t2, t3]) rfl ⟨_, _, rfl, ?_, ?_, hX.out.2.2⟩
                · rw [← hgbw.out, hlsD.out]; exact hX.out.1
                · rw [← hgbw.out]; exact hX.out.2.1
end Go.Proofs.YtjbppmclhdaaoaaGreat
