/- What spec.l2Set does with a graph that has just been copied. -/
import Derived.Test.YteijgejpenlgjaaGreatTk
import Derived.Test.YteijgejpenlgjaaGreatPsP
import Derived.Test.YteijgejpenlgjaaGreatPgSpec
namespace Go.Proofs.YteijgejpenlgjaaGreat
open Go.RowKit Go.Deep

set_option maxRecDepth 100000 in
set_option maxHeartbeats 16000000 in
theorem l2Set_any (w : World) (B : Nat) (S0 S1 S3 : Nat → Prop) (B0 B1 : Nat) (d0 d1 d3 : D) (vk vn : Int) (vt : ByteArray) (a2 : Option Addr) (l2 p2 : Nat) (s : ByteArray) (k n : Int) (t : ByteArray) (a3 : Option Addr) (l3 p3 : Nat) (x2 x3 : Int) (va : Option Addr) (vcap : Nat) (ra : Option Addr) (rcap : Nat) (cs ds : List Value) (l0 l1 : Nat) (hl0 : l0 = d0.len!) (hl1 : l1 = d1.len!) (hB : B ≤ w.heap.size)
  (hGn : GRow w S0 B0 81 3 d0.at! l0 (.slice va l0 vcap) cs) (hGr : GRow w S1 B1 86 5 d1.at! l1 (.slice ra l1 rcap) ds) (hS0 : ∀ x, S0 x → B ≤ x) (hS1 : ∀ x, S1 x → B ≤ x) (z01 : ∀ x, S0 x → ¬ S1 x) (H0 : Has d0 (.list 4)) (H1 : Has d1 (.list 5)) (h12 : l0 ≤ 12) (h16 : l1 ≤ 16) (hp0 : ∀ i, i < d0.len! → propsB (d0.at! i 2) = true) (hp1 : ∀ i, i < d1.len! → propsB (d1.at! i 4) = true)
  (H3 : Has d3 (.list 2)) (s3 : SmallD d3) (h3 : DIn S3 w d3 (.slice a3 l3 p3)) (zs : s.size ≤ maxLen) (zk : (Lit.int .i64 k).wf = true) (zn : (Lit.int .i64 n).wf = true) (zt : t.size ≤ maxLen) (hok3 : okN 3 (.mk k n t (vsOf d3)) = true) (b : Bool) (hb : psB d0 d1 vk vn s k n t d3 = b) :
  Calls Tryz.prog 21 #[.agg #[.slice va l0 vcap, .slice ra l1 rcap, .int .i64 x2, .int .i64 x3], .agg #[.int .i64 vk, .int .i64 vn, .string vt, .slice a2 l2 p2], .string s, .agg #[.int .i64 k, .int .i64 n, .string t, .slice a3 l3 p3]] w fun e w' => e = .returned (.tuple #[.agg #[.slice va l0 vcap, .slice ra l1 rcap, .int .i64 x2, .int .i64 x3], .bool b]) ∧ DIn (fun x => B ≤ x) w' (psD0 true b d0 vk vn s k n t d3) (.slice va l0 vcap) ∧ DIn (fun x => B ≤ x) w' (psD1 true b d1 vk vn s k n t d3) (.slice ra l1 rcap) ∧ Chg (fun x => B ≤ x) w w' := by
 have hS0l : ∀ x, S0 x → x < w.heap.size := hGn.2.2.1
 have hS1l : ∀ x, S1 x → x < w.heap.size := hGr.2.2.1
 have hD0 : DIn S0 w d0 (.slice va l0 vcap) := by
  have := (hGn.end (by unfold maxLen; omega)).1
  obtain ⟨len, f, hd, _⟩ := H0.list
  rw [show D.list 3 l0 d0.at! = d0 from by rw [hl0, hd]; rfl] at this
  exact this
 have hD1 : DIn S1 w d1 (.slice ra l1 rcap) := by
  have := (hGr.end (by unfold maxLen; omega)).1
  obtain ⟨len, f, hd, _⟩ := H1.list
  rw [show D.list 5 l1 d1.at! = d1 from by rw [hl1, hd]; rfl] at this
  exact this
 have hZ0 : ∀ W, Ext w W → ∀ i, i < d0.len! → ∀ b off l c v, Value.slice va l0 vcap = .slice (some ⟨b, off, none⟩) l c → W.cell? ⟨b, off + i * 3 + 2, none⟩ = some v → DIn (fun x => (B ≤ x ∧ x < w.heap.size) ∧ (Value.slice va l0 vcap).ownBlock ≠ some x ∧ (Value.slice ra l1 rcap).ownBlock ≠ some x) W (d0.at! i 2) v := fun W hW i hi b off l c v hu hv => ((hGn.ext hW).leafZ (by omega) (by decide) hu hv).mono (fun x hx => ⟨⟨hS0 x hx.1, hS0l x hx.1⟩, hx.2, fun e => z01 x hx.1 (hGr.2.1 x e)⟩)
 have hZ1 : ∀ W, Ext w W → ∀ i, i < d1.len! → ∀ b off l c v, Value.slice ra l1 rcap = .slice (some ⟨b, off, none⟩) l c → W.cell? ⟨b, off + i * 5 + 4, none⟩ = some v → DIn (fun x => (B ≤ x ∧ x < w.heap.size) ∧ (Value.slice va l0 vcap).ownBlock ≠ some x ∧ (Value.slice ra l1 rcap).ownBlock ≠ some x) W (d1.at! i 4) v := fun W hW i hi b off l c v hu hv => ((hGr.ext hW).leafZ (by omega) (by decide) hu hv).mono (fun x hx => ⟨⟨hS1 x hx.1, hS1l x hx.1⟩, fun e => z01 x (hGn.2.1 x e) hx.1, hx.2⟩)
 have hof := fun (W : World) (hW : Ext w W) => l2Of_z anyB (fun x => (B ≤ x ∧ x < w.heap.size) ∧ (Value.slice va l0 vcap).ownBlock ≠ some x ∧ (Value.slice ra l1 rcap).ownBlock ≠ some x) d0 d1 _ _ (.slice a2 l2 p2) x2 x3 vk vn vt W H0 (hD0.ext hW).any H1 (hD1.ext hW).any ⟨_, _, _, rfl⟩ (fun W' hW' => hZ0 W' (Ext.trans hW hW')) (fun W' hW' => hZ1 W' (Ext.trans hW hW'))
 have hnode := fun (W : World) (hW : Ext w W) => l2Node_any anyB d0 (.slice va l0 vcap) (.slice ra l1 rcap) x2 x3 vn W H0 (hD0.ext hW).any ⟨_, _, _, rfl⟩
 have hedge := fun (W : World) (hW : Ext w W) => l2Edge_any anyB d1 (.slice va l0 vcap) (.slice ra l1 rcap) x2 x3 vn W H1 (hD1.ext hW).any ⟨_, _, _, rfl⟩
 have hnm := fun (W : World) => l2Name_any s W zs
 have hl0H := (show Hid _ from hl0)
 have hl1H := (show Hid _ from hl1)
 have hl0a := Nat.le_of_eq hl0
 have hl0b := Nat.le_of_eq hl0.symm
 have hl1a := Nat.le_of_eq hl1
 have hl1b := Nat.le_of_eq hl1.symm
 clear hl0 hl1
 obtain ⟨Wb, hWb⟩ : ∃ Wb, Wb = (((w.alloc (.cells #[.slice va l0 vcap, .slice ra l1 rcap, .int .i64 x2, .int .i64 x3] 34)).alloc (.cells #[.int .i64 vk, .int .i64 vn, .string vt, .slice a2 l2 p2] 40)).alloc (.cells #[.int .i64 k, .int .i64 n, .string t, .slice a3 l3 p3] 40)).alloc (.cells #[.slice none 0 0, .slice none 0 0, .int .i64 0, .int .i64 0] 34) := ⟨_, rfl⟩
 obtain ⟨gb, hgb⟩ : ∃ m, m = w.heap.size := ⟨_, rfl⟩
 have hEw : Ext w Wb := by rw [hWb]; exact ((((Ext.refl _).alloc _).alloc _).alloc _).alloc _
 have hzb : Wb.heap.size ≤ gb + 4 := by rw [hWb, hgb]; simp
 have hzb2 : gb + 4 ≤ Wb.heap.size := by rw [hWb, hgb]; simp
 have hblk0 : Wb.heap[gb]? = some (.cells #[.slice va l0 vcap, .slice ra l1 rcap, .int .i64 x2, .int .i64 x3] 34 (0, 0)) := by
  rw [hWb, Below.block ((((Ext.refl _).alloc _).alloc _).alloc _) _ (by rw [hgb]; simp), hgb]
  exact heap_alloc_new w _
 have hblk1 : Wb.heap[gb + 1]? = some (.cells #[.int .i64 vk, .int .i64 vn, .string vt, .slice a2 l2 p2] 40 (0, 0)) := by
  have := heap_alloc_new (w.alloc (.cells #[.slice va l0 vcap, .slice ra l1 rcap, .int .i64 x2, .int .i64 x3] 34)) (.cells #[.int .i64 vk, .int .i64 vn, .string vt, .slice a2 l2 p2] 40)
  rw [World.size_alloc] at this
  rw [hWb, hgb, Below.block (((Ext.refl _).alloc _).alloc _) _ (by simp)]
  exact this
 have hblk2 : Wb.heap[gb + 2]? = some (.cells #[.int .i64 k, .int .i64 n, .string t, .slice a3 l3 p3] 40 (0, 0)) := by
  have := heap_alloc_new ((w.alloc (.cells #[.slice va l0 vcap, .slice ra l1 rcap, .int .i64 x2, .int .i64 x3] 34)).alloc (.cells #[.int .i64 vk, .int .i64 vn, .string vt, .slice a2 l2 p2] 40)) (.cells #[.int .i64 k, .int .i64 n, .string t, .slice a3 l3 p3] 40)
  rw [World.size_alloc, World.size_alloc] at this
  rw [hWb, hgb, Below.block ((Ext.refl _).alloc _) _ (by simp)]
  exact this
 have hblk3 : Wb.heap[gb + 3]? = some (.cells #[.slice none 0 0, .slice none 0 0, .int .i64 0, .int .i64 0] 34 (0, 0)) := by
  have := heap_alloc_new (((w.alloc (.cells #[.slice va l0 vcap, .slice ra l1 rcap, .int .i64 x2, .int .i64 x3] 34)).alloc (.cells #[.int .i64 vk, .int .i64 vn, .string vt, .slice a2 l2 p2] 40)).alloc (.cells #[.int .i64 k, .int .i64 n, .string t, .slice a3 l3 p3] 40)) (.cells #[.slice none 0 0, .slice none 0 0, .int .i64 0, .int .i64 0] 34)
  rw [World.size_alloc, World.size_alloc, World.size_alloc] at this
  rw [hWb, hgb]
  exact this
 have hbx : ∀ W : World, Ext Wb W → (W.cell? ⟨gb, 0, none⟩ = some (.slice va l0 vcap) ∧ W.cell? ⟨gb, 1, none⟩ = some (.slice ra l1 rcap) ∧ W.cell? ⟨gb, 2, none⟩ = some (.int .i64 x2) ∧ W.cell? ⟨gb, 3, none⟩ = some (.int .i64 x3)) ∧ (W.cell? ⟨gb + 1, 0, none⟩ = some (.int .i64 vk) ∧ W.cell? ⟨gb + 1, 1, none⟩ = some (.int .i64 vn) ∧ W.cell? ⟨gb + 1, 2, none⟩ = some (.string vt) ∧ W.cell? ⟨gb + 1, 3, none⟩ = some (.slice a2 l2 p2)) ∧ (W.cell? ⟨gb + 2, 0, none⟩ = some (.int .i64 k) ∧ W.cell? ⟨gb + 2, 1, none⟩ = some (.int .i64 n) ∧ W.cell? ⟨gb + 2, 2, none⟩ = some (.string t) ∧ W.cell? ⟨gb + 2, 3, none⟩ = some (.slice a3 l3 p3)) ∧ (W.cell? ⟨gb + 3, 0, none⟩ = some (.slice none 0 0) ∧ W.cell? ⟨gb + 3, 1, none⟩ = some (.slice none 0 0) ∧ W.cell? ⟨gb + 3, 2, none⟩ = some (.int .i64 0) ∧ W.cell? ⟨gb + 3, 3, none⟩ = some (.int .i64 0)) ∧ (∀ o, W.frozen? ⟨gb + 3, o, none⟩ = false) := fun W hW => by
  have h1 := (Below.block hW gb (by omega)).trans hblk0
  have h2 := (Below.block hW (gb + 1) (by omega)).trans hblk1
  have h3 := (Below.block hW (gb + 2) (by omega)).trans hblk2
  have h4 := (Below.block hW (gb + 3) (by omega)).trans hblk3
  refine ⟨⟨?_, ?_, ?_, ?_⟩, ⟨?_, ?_, ?_, ?_⟩, ⟨?_, ?_, ?_, ?_⟩, ⟨?_, ?_, ?_, ?_⟩, fun o => ?_⟩
  all_goals first | (simp [World.cell?, h1]; done) | (simp [World.cell?, h2]; done) | (simp [World.cell?, h3]; done) | (simp [World.cell?, h4]; done) | (simp [World.frozen?, h4]; done)
 have hgb1 : gb ≤ w.heap.size := Nat.le_of_eq hgb
 have hgb2 : w.heap.size ≤ gb := Nat.le_of_eq hgb.symm
 obtain ⟨⟨o0, o1, o2, o3⟩, ⟨v0, v1, v2, v3⟩, ⟨q0, q1, q2, q3⟩, ⟨t0, t1, t2, t3⟩, tf⟩ := hbx Wb (Ext.refl _)
 have hblk0 := (show Hid _ from hblk0)
 have hblk3 := (show Hid _ from hblk3)
 clear tf hblk1 hblk2
 go_enter Tryz.func21, Tryz.ntmps21
 go_wp2_with fail
 rw [← hWb, ← hgb]
 clear hWb hgb o0 o1 o2 o3 v0 v1 v2 v3 q0 q1 q2 q3 t0 t1 t2 t3
 refine (hof Wb hEw).mono ?_
 rintro e w1 hp
 cases hp with
 | mk u b1 _ hbs hu1 hu2 hE1 =>
 obtain ⟨L, pu, cu, rfl, hsrc, hL4, hLr, hLa, hLd⟩ := old_src H0 H1 hp0 hp1 hu1 hu2
 have hput := l2Put_any _ L pu cu d3 H3 s3 s k n t _ S3 w1 hsrc hL4 hLr hLa (h3.ext (Ext.trans hEw hE1)) zs zk zn zt
 have hRh : ∀ r ∈ setP L s (putP s k n t d3), HasRow 3 r := setP_has hLr (putP_has H3)
 have hRl : (setP L s (putP s k n t d3)).length ≤ 9 := by
  have := setP_len L s (putP s k n t d3)
  have := putP_len s k n t d3
  omega
 generalize hRr : setP L s (putP s k n t d3) = R at *
 obtain ⟨⟨o0, o1, o2, o3⟩, ⟨v0, v1, v2, v3⟩, ⟨q0, q1, q2, q3⟩, ⟨t0, t1, t2, t3⟩, tf⟩ := hbx w1 hE1
 clear tf hof hu1 hu2 hsrc
 go_wp2_with fail
 refine hput.mono ?_
 rintro e w2 ⟨ra', rc', cs', rfl, hown, hrow, hE2⟩
 clear hput o0 o1 o2 o3 v0 v1 v2 v3 q0 q1 q2 q3 t0 t1 t2 t3
 have hz1 := hE1.le
 have hE2' := Ext.trans hE1 hE2
 cases hPA : propsAt d0 d1 vk vn with
 | none =>
  have hbf : b = false := by rw [← hb, psB_at, hPA]
  have hb1 : b1 = false := by rw [hbs, hPA]; rfl
  clear hbs
  subst hbf hb1
  clear hb hPA hrow hLd
  obtain ⟨⟨o0, o1, o2, o3⟩, ⟨v0, v1, v2, v3⟩, ⟨q0, q1, q2, q3⟩, ⟨t0, t1, t2, t3⟩, tf⟩ := hbx w2 hE2'
  have tf0 := tf 0
  have tf1 := tf 1
  have tf2 := tf 2
  have tf3 := tf 3
  have hCf : Chg (fun x => x = gb + 3) w2 ((((w2.setCell ⟨gb + 3, 0, none⟩ (.slice va l0 vcap)).setCell ⟨gb + 3, 1, none⟩ (.slice ra l1 rcap)).setCell ⟨gb + 3, 2, none⟩ (.int .i64 x2)).setCell ⟨gb + 3, 3, none⟩ (.int .i64 x3)) := ((((Chg.refl (fun x => x = gb + 3) w2).setCell (p := ⟨gb + 3, 0, none⟩) rfl _).setCell (p := ⟨gb + 3, 1, none⟩) rfl _).setCell (p := ⟨gb + 3, 2, none⟩) rfl _).setCell (p := ⟨gb + 3, 3, none⟩) rfl _
  have hX : Hid _ := And.intro (show DIn (fun x => B ≤ x) ((((w2.setCell ⟨gb + 3, 0, none⟩ (.slice va l0 vcap)).setCell ⟨gb + 3, 1, none⟩ (.slice ra l1 rcap)).setCell ⟨gb + 3, 2, none⟩ (.int .i64 x2)).setCell ⟨gb + 3, 3, none⟩ (.int .i64 x3)) d0 (.slice va l0 vcap) from ((hD0.ext (Ext.trans hEw hE2')).carry hCf.size (fun b hb hl => hCf.block b hl (by have := hS0l b hb; omega))).mono hS0) (And.intro (show DIn (fun x => B ≤ x) ((((w2.setCell ⟨gb + 3, 0, none⟩ (.slice va l0 vcap)).setCell ⟨gb + 3, 1, none⟩ (.slice ra l1 rcap)).setCell ⟨gb + 3, 2, none⟩ (.int .i64 x2)).setCell ⟨gb + 3, 3, none⟩ (.int .i64 x3)) d1 (.slice ra l1 rcap) from ((hD1.ext (Ext.trans hEw hE2')).carry hCf.size (fun b hb hl => hCf.block b hl (by have := hS1l b hb; omega))).mono hS1) (show Chg (fun x => B ≤ x) w ((((w2.setCell ⟨gb + 3, 0, none⟩ (.slice va l0 vcap)).setCell ⟨gb + 3, 1, none⟩ (.slice ra l1 rcap)).setCell ⟨gb + 3, 2, none⟩ (.int .i64 x2)).setCell ⟨gb + 3, 3, none⟩ (.int .i64 x3)) from (Chg.of_ext (Ext.trans hEw hE2')).trans (hCf.mono (fun x hx => by omega))))
  clear hCf tf
  go_wp2
  refine bodyPost_ret (v := .tuple #[.agg #[.slice va l0 vcap, .slice ra l1 rcap, .int .i64 x2, .int .i64 x3], .bool false]) (by simp [results, Tryz.results21, go_sem, t0, t1, t2, t3]) rfl ⟨rfl, hX.out.1, hX.out.2.1, hX.out.2.2⟩
 | some d =>
  have hb1 : b1 = true := by rw [hbs, hPA]; rfl
  subst hb1
  obtain ⟨hLe, Hd⟩ := hLd d hPA
  have hPD : proD d s k n t d3 = prD R := by rw [proD, ← hLe, hRr]
  have hbb : b = (nameB s && propsB (prD R)) := by rw [← hb, psB_at, hPA]; show proOk d s k n t d3 = _; rw [proOk, hok3, Bool.and_true, hPD]
  have hin := ownZ_in hown hrow (by unfold maxLen; omega)
  have hPAH := (show Hid _ from hPA)
  have hPDH := (show Hid _ from hPD)
  clear hPD
  clear hbs hrow hLd hLe hPA
  cases hns : nameB s
  ·
   have hbf : b = false := by rw [hbb, hns]; rfl
   clear hbb hb
   subst hbf
   rw [hns] at hnm
   have hnm2 := hnm w2
   clear hnm
   go_upto_region 4 with (go_at_call 42; refine hnm2.mono ?_; rintro e w3 ⟨rfl, hE3⟩)
   have hE3' := Ext.trans hE2' hE3
   obtain ⟨⟨o0, o1, o2, o3⟩, ⟨v0, v1, v2, v3⟩, ⟨q0, q1, q2, q3⟩, ⟨t0, t1, t2, t3⟩, tf⟩ := hbx w3 hE3'
   have tf0 := tf 0
   have tf1 := tf 1
   have tf2 := tf 2
   have tf3 := tf 3
   have hCf : Chg (fun x => x = gb + 3) w3 ((((w3.setCell ⟨gb + 3, 0, none⟩ (.slice va l0 vcap)).setCell ⟨gb + 3, 1, none⟩ (.slice ra l1 rcap)).setCell ⟨gb + 3, 2, none⟩ (.int .i64 x2)).setCell ⟨gb + 3, 3, none⟩ (.int .i64 x3)) := ((((Chg.refl (fun x => x = gb + 3) w3).setCell (p := ⟨gb + 3, 0, none⟩) rfl _).setCell (p := ⟨gb + 3, 1, none⟩) rfl _).setCell (p := ⟨gb + 3, 2, none⟩) rfl _).setCell (p := ⟨gb + 3, 3, none⟩) rfl _
   have hX : Hid _ := And.intro (show DIn (fun x => B ≤ x) ((((w3.setCell ⟨gb + 3, 0, none⟩ (.slice va l0 vcap)).setCell ⟨gb + 3, 1, none⟩ (.slice ra l1 rcap)).setCell ⟨gb + 3, 2, none⟩ (.int .i64 x2)).setCell ⟨gb + 3, 3, none⟩ (.int .i64 x3)) d0 (.slice va l0 vcap) from ((hD0.ext (Ext.trans hEw hE3')).carry hCf.size (fun b hb hl => hCf.block b hl (by have := hS0l b hb; omega))).mono hS0) (And.intro (show DIn (fun x => B ≤ x) ((((w3.setCell ⟨gb + 3, 0, none⟩ (.slice va l0 vcap)).setCell ⟨gb + 3, 1, none⟩ (.slice ra l1 rcap)).setCell ⟨gb + 3, 2, none⟩ (.int .i64 x2)).setCell ⟨gb + 3, 3, none⟩ (.int .i64 x3)) d1 (.slice ra l1 rcap) from ((hD1.ext (Ext.trans hEw hE3')).carry hCf.size (fun b hb hl => hCf.block b hl (by have := hS1l b hb; omega))).mono hS1) (show Chg (fun x => B ≤ x) w ((((w3.setCell ⟨gb + 3, 0, none⟩ (.slice va l0 vcap)).setCell ⟨gb + 3, 1, none⟩ (.slice ra l1 rcap)).setCell ⟨gb + 3, 2, none⟩ (.int .i64 x2)).setCell ⟨gb + 3, 3, none⟩ (.int .i64 x3)) from (Chg.of_ext (Ext.trans hEw hE3')).trans (hCf.mono (fun x hx => by omega))))
   clear hCf tf
   go_wp2
   refine bodyPost_ret (v := .tuple #[.agg #[.slice va l0 vcap, .slice ra l1 rcap, .int .i64 x2, .int .i64 x3], .bool false]) (by simp [results, Tryz.results21, go_sem, t0, t1, t2, t3]) rfl ⟨rfl, hX.out.1, hX.out.2.1, hX.out.2.2⟩
  ·
   rw [hns] at hnm
   have hnm2 := hnm w2
   clear hnm
   have hpr := fun (W : World) (hW : Ext w2 W) => l2Props_any (prD R) (prD_has hRh) _ _ W (hin.ext hW)
   cases hpb : propsB (prD R)
   ·
    have hbf : b = false := by rw [hbb, hpb, Bool.and_false]
    clear hbb hb
    subst hbf
    rw [hpb] at hpr
    go_upto_region 4 with (first
     | (go_at_call 42; refine hnm2.mono ?_; rintro e w3 ⟨rfl, hE3⟩)
     | (go_at_call 41; refine (hpr _ hE3).mono ?_; rintro e w4 ⟨rfl, hE4⟩))
    have hE4' := Ext.trans hE2' (Ext.trans hE3 hE4)
    obtain ⟨⟨o0, o1, o2, o3⟩, ⟨v0, v1, v2, v3⟩, ⟨q0, q1, q2, q3⟩, ⟨t0, t1, t2, t3⟩, tf⟩ := hbx w4 hE4'
    have tf0 := tf 0
    have tf1 := tf 1
    have tf2 := tf 2
    have tf3 := tf 3
    have hCf : Chg (fun x => x = gb + 3) w4 ((((w4.setCell ⟨gb + 3, 0, none⟩ (.slice va l0 vcap)).setCell ⟨gb + 3, 1, none⟩ (.slice ra l1 rcap)).setCell ⟨gb + 3, 2, none⟩ (.int .i64 x2)).setCell ⟨gb + 3, 3, none⟩ (.int .i64 x3)) := ((((Chg.refl (fun x => x = gb + 3) w4).setCell (p := ⟨gb + 3, 0, none⟩) rfl _).setCell (p := ⟨gb + 3, 1, none⟩) rfl _).setCell (p := ⟨gb + 3, 2, none⟩) rfl _).setCell (p := ⟨gb + 3, 3, none⟩) rfl _
    have hX : Hid _ := And.intro (show DIn (fun x => B ≤ x) ((((w4.setCell ⟨gb + 3, 0, none⟩ (.slice va l0 vcap)).setCell ⟨gb + 3, 1, none⟩ (.slice ra l1 rcap)).setCell ⟨gb + 3, 2, none⟩ (.int .i64 x2)).setCell ⟨gb + 3, 3, none⟩ (.int .i64 x3)) d0 (.slice va l0 vcap) from ((hD0.ext (Ext.trans hEw hE4')).carry hCf.size (fun b hb hl => hCf.block b hl (by have := hS0l b hb; omega))).mono hS0) (And.intro (show DIn (fun x => B ≤ x) ((((w4.setCell ⟨gb + 3, 0, none⟩ (.slice va l0 vcap)).setCell ⟨gb + 3, 1, none⟩ (.slice ra l1 rcap)).setCell ⟨gb + 3, 2, none⟩ (.int .i64 x2)).setCell ⟨gb + 3, 3, none⟩ (.int .i64 x3)) d1 (.slice ra l1 rcap) from ((hD1.ext (Ext.trans hEw hE4')).carry hCf.size (fun b hb hl => hCf.block b hl (by have := hS1l b hb; omega))).mono hS1) (show Chg (fun x => B ≤ x) w ((((w4.setCell ⟨gb + 3, 0, none⟩ (.slice va l0 vcap)).setCell ⟨gb + 3, 1, none⟩ (.slice ra l1 rcap)).setCell ⟨gb + 3, 2, none⟩ (.int .i64 x2)).setCell ⟨gb + 3, 3, none⟩ (.int .i64 x3)) from (Chg.of_ext (Ext.trans hEw hE4')).trans (hCf.mono (fun x hx => by omega))))
    clear hCf tf
    go_wp2
    refine bodyPost_ret (v := .tuple #[.agg #[.slice va l0 vcap, .slice ra l1 rcap, .int .i64 x2, .int .i64 x3], .bool false]) (by simp [results, Tryz.results21, go_sem, t0, t1, t2, t3]) rfl ⟨rfl, hX.out.1, hX.out.2.1, hX.out.2.2⟩
   ·
    have hbf : b = true := by rw [hbb, hns, hpb]; rfl
    clear hbb hb
    subst hbf
    rw [hpb] at hpr
    go_upto_region 5 with (first
     | (go_at_call 42; refine hnm2.mono ?_; rintro e w3 ⟨rfl, hE3⟩)
     | (go_at_call 41; refine (hpr _ hE3).mono ?_; rintro e w4 ⟨rfl, hE4'⟩))
    have hE4 := Ext.trans hE2' (Ext.trans hE3 hE4')
    have hin4 := hin.ext (Ext.trans hE3 hE4')
    clear hpr hnm2 hin
    have hPA' := hPAH.out
    rw [propsAt_edK] at hPA'
    by_cases h5 : vk = 5
    ·
     subst h5
     simp only [if_true] at hPA'
     obtain ⟨i, hi, hde⟩ := Option.map_eq_some_iff.1 hPA'
     obtain ⟨hil, hid, _⟩ := edK_some hi
     have hil' : i < l0 := by omega
     have hEw4 := Ext.trans hEw hE4
     have hset := fun (W : World) (hW : Ext w4 W) => (hGn.ext (Ext.trans hEw4 hW)).setg (i0 := i) (j0 := 2) hil' (by decide) (hin4.ext hW) (fun g e hq => by
      rcases hq with (hq | hq) | hq
      ·
       exact hq.2.1 e
      ·
       have := hS0l g (hGn.2.1 g e); omega
      ·
       have := (hown.lt g hq).1; have := hS0l g (hGn.2.1 g e); omega) (by unfold maxLen; omega)
     obtain ⟨g, hvg, hgS, _, _, _⟩ := hset w4 (Ext.refl _)
     subst hvg
     have hgl := hS0l g hgS
     have hgB := hS0 g hgS
     have hst : Hid (∀ W, Ext w4 W → (∃ u, W.cell? ⟨g, i * 3 + 2, none⟩ = some u) ∧ W.frozen? ⟨g, i * 3 + 2, none⟩ = false ∧ DIn (fun x => B ≤ x ∧ x ≠ gb + 3) (W.setCell ⟨g, i * 3 + 2, none⟩ (.slice ra' R.length rc')) (psD0 true true d0 5 vn s k n t d3) (.slice (some ⟨g, 0, none⟩) l0 vcap)) := fun W hW => by
      obtain ⟨g', e, _, hu, hf, hD⟩ := hset W hW
      cases e
      refine ⟨hu, hf _, ?_⟩
      have e : psD0 true true d0 5 vn s k n t d3 = .list 3 l0 (setF d0.at! i 2 (prD R)) := (show psD0 true true d0 5 vn s k n t d3 = psD 3 2 d0 vn s k n t d3 from rfl).trans ((psD_some hi).trans (by rw [hde, hPDH.out, ← hl0H.out]))
      rw [e]
      refine hD.mono (fun x hx => ?_)
      rcases hx with hx | (hx | hx) | hx
      ·
       have := hS0l x hx; have := hS0 x hx; omega
      ·
       have := hx.1; omega
      ·
       omega
      ·
       have := (hown.lt x hx).1; omega
     have hot : Hid (∀ W, Ext w4 W → DIn (fun x => B ≤ x ∧ x ≠ gb + 3) (W.setCell ⟨g, i * 3 + 2, none⟩ (.slice ra' R.length rc')) d1 (.slice ra l1 rcap)) := fun W hW => ((hD1.ext (Ext.trans hEw4 hW)).setCell (p := ⟨g, i * 3 + 2, none⟩) (fun hq => z01 g hgS hq) _).mono (fun x hx => by have := hS1l x hx; have := hS1 x hx; omega)
     have hnd : Hid (∀ W, Ext w4 W → Calls Tryz.prog 43 #[.agg #[.slice (some ⟨g, 0, none⟩) l0 vcap, .slice ra l1 rcap, .int .i64 x2, .int .i64 x3], .int .i64 vn] W fun e w' => e = .returned (.int .i64 i) ∧ Ext W w') := fun W hW => by
      have := hnode W (Ext.trans hEw4 hW)
      rw [show findI (fun i => (d0.at! i 0).int! == vn) d0.len! = (i : Int) by rw [findI_O]; show (match edK d0 vn with | some i => (i : Int) | none => -1) = _; rw [hi]] at this
      exact this
     have HK : Hid (∀ W, Chg (fun x => x = g) w4 W → (W.cell? ⟨gb, 0, none⟩ = some (.slice (some ⟨g, 0, none⟩) l0 vcap) ∧ W.cell? ⟨gb, 1, none⟩ = some (.slice ra l1 rcap) ∧ W.cell? ⟨gb, 2, none⟩ = some (.int .i64 x2) ∧ W.cell? ⟨gb, 3, none⟩ = some (.int .i64 x3)) ∧ (W.cell? ⟨gb + 1, 0, none⟩ = some (.int .i64 5) ∧ W.cell? ⟨gb + 1, 1, none⟩ = some (.int .i64 vn) ∧ W.cell? ⟨gb + 1, 2, none⟩ = some (.string vt) ∧ W.cell? ⟨gb + 1, 3, none⟩ = some (.slice a2 l2 p2))) := fun W hW => by
      have hz4 : Wb.heap.size ≤ w4.heap.size := hE4.le
      have hx : ∀ b o, b < Wb.heap.size → gb ≤ b → W.cell? ⟨b, o, none⟩ = w4.cell? ⟨b, o, none⟩ := fun b o h1 h2 => World.cell?_of_block (hW.block b (by omega) (by omega))
      obtain ⟨⟨o0, o1, o2, o3⟩, ⟨v0, v1, v2, v3⟩, _⟩ := hbx w4 hE4
      refine ⟨⟨?_, ?_, ?_, ?_⟩, ⟨?_, ?_, ?_, ?_⟩⟩
      all_goals (rw [hx _ _ (by omega) (by omega)]; assumption)
     have hgw : Hid (g < w.heap.size ∧ B ≤ g) := ⟨hgl, hgB⟩
     clear hset hin4 hGn hGr hnode hedge hZ0 hZ1
     obtain ⟨⟨o0, o1, o2, o3⟩, ⟨v0, v1, v2, v3⟩, ⟨q0, q1, q2, q3⟩, ⟨t0, t1, t2, t3⟩, tf⟩ := hbx w4 hE4
     clear tf
     go_upto_region 6 with fail
     have hcur : Chg (fun x => x = g) w4 w4.drew := Chg.of_ext (Ext.refl _).drew
     have hEc : Ext w4 w4.drew := (Ext.refl _).drew
     refine wp_region_held_drew (S := (fun W => (W.cell? ⟨gb, 0, none⟩ = some (.slice (some ⟨g, 0, none⟩) l0 vcap) ∧ W.cell? ⟨gb, 1, none⟩ = some (.slice ra l1 rcap) ∧ W.cell? ⟨gb, 2, none⟩ = some (.int .i64 x2) ∧ W.cell? ⟨gb, 3, none⟩ = some (.int .i64 x3)) ∧ (W.cell? ⟨gb + 1, 0, none⟩ = some (.int .i64 5) ∧ W.cell? ⟨gb + 1, 1, none⟩ = some (.int .i64 vn) ∧ W.cell? ⟨gb + 1, 2, none⟩ = some (.string vt) ∧ W.cell? ⟨gb + 1, 3, none⟩ = some (.slice a2 l2 p2)))) (by kernel_rfl) (HK.out _ hcur) (fun hHeld => ?_)
     refine tkL 0 ⟨some 39, .fieldAddr 34 (.tmp 4) 0, 0, _, #[], none⟩ ?_ hHeld ?yyN0 ?rrN0
     case yyN0 => (intro w hSw; (try dsimp only at hSw); go_simp; try with_reducible rfl)
     try simp only [Act.put, putA, putB, putC]
     refine tkL 1 ⟨some 40, .load 31 (.tmp 39), 31, _, #[⟨0, .data⟩], none⟩ ?_ hHeld ?yyN1 ?rrN1
     case yyN1 => (intro w hSw; (try dsimp only at hSw); go_simp; try with_reducible rfl)
     try simp only [Act.put, putA, putB, putC]
     refine tkL 2 ⟨some 41, .load 34 (.tmp 4), 34, _, #[], none⟩ ?_ hHeld ?yyN2 ?rrN2
     case yyN2 => (intro w hSw; (try dsimp only at hSw); go_simp; try with_reducible rfl)
     try simp only [Act.put, putA, putB, putC]
     refine tkL 3 ⟨some 42, .fieldAddr 40 (.tmp 5) 1, 0, _, #[], none⟩ ?_ hHeld ?yyN3 ?rrN3
     case yyN3 => (intro w hSw; (try dsimp only at hSw); go_simp; try with_reducible rfl)
     try simp only [Act.put, putA, putB, putC]
     refine tkL 4 ⟨some 43, .load 3 (.tmp 42), 3, _, #[⟨3, .data⟩], none⟩ ?_ hHeld ?yyN4 ?rrN4
     case yyN4 => (intro w hSw; (try dsimp only at hSw); go_simp; try with_reducible rfl)
     try simp only [Act.put, putA, putB, putC]
     refine tkL 6 ⟨some 45, .move (.tmp 12), 79, _, #[], none⟩ ?_ hHeld ?yyN6 ?rrN6
     case yyN6 => (intro w hSw; (try dsimp only at hSw); go_simp; try with_reducible rfl)
     try simp only [Act.put, putA, putB, putC]
     refine wpAnyH_ready (rs := [5]) (by kernel_rfl) (by simp) ?_
     refine AllReadyH.cons (o := ⟨some 44, .call { callee := .value (.func 43), args := #[.tmp 41, .tmp 43], argTypes := #[34, 3] }, 3, _, #[⟨2, .data⟩, ⟨4, .data⟩], none⟩) rfl (fun K hK => ?_) AllReadyH.nil
     go_simp
     refine (hnd.out _ hEc).mono ?_
     rintro e w9 ⟨rfl, hE9⟩
     replace hcur := hcur.trans (Chg.of_ext hE9)
     replace hEc := hEc.trans hE9
     obtain ⟨⟨uo, huo⟩, hfo, hDn⟩ := hst.out w9 hEc
     have hDo := hot.out w9 hEc
     go_wp2_with fail
     refine hK.out _ _ (HK.out _ hcur) (fun hHeld => ?_)
     clear hK K
     try simp only [Act.put, putA, putB, putC]
     refine tkL 7 ⟨some 46, .indexAddr 31 (.tmp 40) (.tmp 44), 0, _, #[⟨1, .data⟩, ⟨5, .data⟩, ⟨0, .phase⟩, ⟨1, .phase⟩, ⟨2, .phase⟩, ⟨3, .phase⟩, ⟨4, .phase⟩, ⟨5, .phase⟩, ⟨6, .phase⟩], none⟩ ?_ hHeld ?yyN7 ?rrN7
     case yyN7 => (intro w hSw; (try dsimp only at hSw); go_simp; try with_reducible rfl)
     try simp only [Act.put, putA, putB, putC]
     refine tkL 8 ⟨some 47, .fieldAddr 81 (.tmp 46) 2, 0, _, #[⟨7, .data⟩, ⟨0, .phase⟩, ⟨1, .phase⟩, ⟨2, .phase⟩, ⟨3, .phase⟩, ⟨4, .phase⟩, ⟨5, .phase⟩, ⟨6, .phase⟩], none⟩ ?_ hHeld ?yyN8 ?rrN8
     case yyN8 => (intro w hSw; (try dsimp only at hSw); go_simp; try with_reducible rfl)
     try simp only [Act.put, putA, putB, putC]
     refine wpAnyH_ready (rs := [9]) (by kernel_rfl) (by simp) ?_
     refine AllReadyH.cons (o := ⟨none, .store 79 (.tmp 47) (.tmp 45), 0, _, #[⟨8, .data⟩, ⟨6, .data⟩, ⟨5, .chain⟩, ⟨0, .phase⟩, ⟨1, .phase⟩, ⟨2, .phase⟩, ⟨3, .phase⟩, ⟨4, .phase⟩, ⟨5, .phase⟩, ⟨6, .phase⟩], none⟩) rfl (fun K hK => ?_) AllReadyH.nil
     go_simp
     replace hcur := hcur.setCell (p := ⟨g, i * 3 + 2, none⟩) rfl (.slice ra' R.length rc')
     refine hK.out _ _ (HK.out _ hcur) (fun hHeld => ?_)
     clear hK K
     try simp only [Act.put, putA, putB, putC]
     refine wpAnyH_done (by kernel_rfl) ?_ _
     clear o0 o1 o2 o3 v0 v1 v2 v3 q0 q1 q2 q3 t0 t1 t2 t3 hHeld
     have hE9w : Ext Wb w9 := Ext.trans hE4 hEc
     have hb3 : (w9.setCell ⟨g, i * 3 + 2, none⟩ (.slice ra' R.length rc')).heap[gb + 3]? = _ := (Below.heap_setCell _ _ _ _ (by show gb + 3 ≠ g; omega)).trans ((Below.block hE9w (gb + 3) (by omega)).trans hblk3.out)
     have hb0 : (w9.setCell ⟨g, i * 3 + 2, none⟩ (.slice ra' R.length rc')).heap[gb]? = _ := (Below.heap_setCell _ _ _ _ (by show gb ≠ g; omega)).trans ((Below.block hE9w gb (by omega)).trans hblk0.out)
     obtain ⟨⟨t0, t1, t2, t3⟩, tf⟩ := blk4 hb3
     have tf0 := tf 0
     have tf1 := tf 1
     have tf2 := tf 2
     have tf3 := tf 3
     obtain ⟨⟨o0, o1, o2, o3⟩, _⟩ := blk4 hb0
     have hC4 := chg4 (W := (w9.setCell ⟨g, i * 3 + 2, none⟩ (.slice ra' R.length rc'))) (b := gb + 3) (.slice (some ⟨g, 0, none⟩) l0 vcap) (.slice ra l1 rcap) (.int .i64 x2) (.int .i64 x3)
     have hX : Hid _ := And.intro (show DIn (fun x => B ≤ x) (((((w9.setCell ⟨g, i * 3 + 2, none⟩ (.slice ra' R.length rc')).setCell ⟨gb + 3, 0, none⟩ (.slice (some ⟨g, 0, none⟩) l0 vcap)).setCell ⟨gb + 3, 1, none⟩ (.slice ra l1 rcap)).setCell ⟨gb + 3, 2, none⟩ (.int .i64 x2)).setCell ⟨gb + 3, 3, none⟩ (.int .i64 x3)) (psD0 true true d0 5 vn s k n t d3) (.slice (some ⟨g, 0, none⟩) l0 vcap) from (hDn.carry hC4.size (fun b hb hl => hC4.block b hl hb.2)).mono (fun x hx => hx.1)) (And.intro (show DIn (fun x => B ≤ x) (((((w9.setCell ⟨g, i * 3 + 2, none⟩ (.slice ra' R.length rc')).setCell ⟨gb + 3, 0, none⟩ (.slice (some ⟨g, 0, none⟩) l0 vcap)).setCell ⟨gb + 3, 1, none⟩ (.slice ra l1 rcap)).setCell ⟨gb + 3, 2, none⟩ (.int .i64 x2)).setCell ⟨gb + 3, 3, none⟩ (.int .i64 x3)) (psD1 true true d1 5 vn s k n t d3) (.slice ra l1 rcap) from (hDo.carry hC4.size (fun b hb hl => hC4.block b hl hb.2)).mono (fun x hx => hx.1)) (show Chg (fun x => B ≤ x) w (((((w9.setCell ⟨g, i * 3 + 2, none⟩ (.slice ra' R.length rc')).setCell ⟨gb + 3, 0, none⟩ (.slice (some ⟨g, 0, none⟩) l0 vcap)).setCell ⟨gb + 3, 1, none⟩ (.slice ra l1 rcap)).setCell ⟨gb + 3, 2, none⟩ (.int .i64 x2)).setCell ⟨gb + 3, 3, none⟩ (.int .i64 x3)) from ((Chg.of_ext (Ext.trans hEw hE9w)).trans (((Chg.refl (fun x => x = g) w9).setCell (p := ⟨g, i * 3 + 2, none⟩) rfl (.slice ra' R.length rc')).mono (fun x hx => by have := hgw.out.2; omega))).trans (hC4.mono (fun x hx => by omega))))
     clear hC4 tf hDn hDo hb3 hb0 hcur
     go_wp2
     refine bodyPost_ret (v := .tuple #[.agg #[.slice (some ⟨g, 0, none⟩) l0 vcap, .slice ra l1 rcap, .int .i64 x2, .int .i64 x3], .bool true]) (by simp [results, Tryz.results21, go_sem, t0, t1, t2, t3]) rfl ⟨rfl, hX.out.1, hX.out.2.1, hX.out.2.2⟩
    ·
     rw [if_neg h5] at hPA'
     by_cases h6 : vk = 6
     ·
      subst h6
      simp only [if_true] at hPA'
      obtain ⟨i, hi, hde⟩ := Option.map_eq_some_iff.1 hPA'
      obtain ⟨hil, hid, _⟩ := edK_some hi
      have hil' : i < l1 := by omega
      have hEw4 := Ext.trans hEw hE4
      have hset := fun (W : World) (hW : Ext w4 W) => (hGr.ext (Ext.trans hEw4 hW)).setg (i0 := i) (j0 := 4) hil' (by decide) (hin4.ext hW) (fun g e hq => by
       rcases hq with (hq | hq) | hq
       ·
        exact hq.2.2 e
       ·
        have := hS1l g (hGr.2.1 g e); omega
       ·
        have := (hown.lt g hq).1; have := hS1l g (hGr.2.1 g e); omega) (by unfold maxLen; omega)
      obtain ⟨g, hvg, hgS, _, _, _⟩ := hset w4 (Ext.refl _)
      subst hvg
      have hgl := hS1l g hgS
      have hgB := hS1 g hgS
      have hst : Hid (∀ W, Ext w4 W → (∃ u, W.cell? ⟨g, i * 5 + 4, none⟩ = some u) ∧ W.frozen? ⟨g, i * 5 + 4, none⟩ = false ∧ DIn (fun x => B ≤ x ∧ x ≠ gb + 3) (W.setCell ⟨g, i * 5 + 4, none⟩ (.slice ra' R.length rc')) (psD1 true true d1 6 vn s k n t d3) (.slice (some ⟨g, 0, none⟩) l1 rcap)) := fun W hW => by
       obtain ⟨g', e, _, hu, hf, hD⟩ := hset W hW
       cases e
       refine ⟨hu, hf _, ?_⟩
       have e : psD1 true true d1 6 vn s k n t d3 = .list 5 l1 (setF d1.at! i 4 (prD R)) := (show psD1 true true d1 6 vn s k n t d3 = psD 5 4 d1 vn s k n t d3 from rfl).trans ((psD_some hi).trans (by rw [hde, hPDH.out, ← hl1H.out]))
       rw [e]
       refine hD.mono (fun x hx => ?_)
       rcases hx with hx | (hx | hx) | hx
       ·
        have := hS1l x hx; have := hS1 x hx; omega
       ·
        have := hx.1; omega
       ·
        omega
       ·
        have := (hown.lt x hx).1; omega
      have hot : Hid (∀ W, Ext w4 W → DIn (fun x => B ≤ x ∧ x ≠ gb + 3) (W.setCell ⟨g, i * 5 + 4, none⟩ (.slice ra' R.length rc')) d0 (.slice va l0 vcap)) := fun W hW => ((hD0.ext (Ext.trans hEw4 hW)).setCell (p := ⟨g, i * 5 + 4, none⟩) (fun hq => z01 g hq hgS) _).mono (fun x hx => by have := hS0l x hx; have := hS0 x hx; omega)
      have hnd : Hid (∀ W, Ext w4 W → Calls Tryz.prog 48 #[.agg #[.slice va l0 vcap, .slice (some ⟨g, 0, none⟩) l1 rcap, .int .i64 x2, .int .i64 x3], .int .i64 vn] W fun e w' => e = .returned (.int .i64 i) ∧ Ext W w') := fun W hW => by
       have := hedge W (Ext.trans hEw4 hW)
       rw [show findI (fun i => (d1.at! i 0).int! == vn) d1.len! = (i : Int) by rw [findI_O]; show (match edK d1 vn with | some i => (i : Int) | none => -1) = _; rw [hi]] at this
       exact this
      have HK : Hid (∀ W, Chg (fun x => x = g) w4 W → (W.cell? ⟨gb, 0, none⟩ = some (.slice va l0 vcap) ∧ W.cell? ⟨gb, 1, none⟩ = some (.slice (some ⟨g, 0, none⟩) l1 rcap) ∧ W.cell? ⟨gb, 2, none⟩ = some (.int .i64 x2) ∧ W.cell? ⟨gb, 3, none⟩ = some (.int .i64 x3)) ∧ (W.cell? ⟨gb + 1, 0, none⟩ = some (.int .i64 6) ∧ W.cell? ⟨gb + 1, 1, none⟩ = some (.int .i64 vn) ∧ W.cell? ⟨gb + 1, 2, none⟩ = some (.string vt) ∧ W.cell? ⟨gb + 1, 3, none⟩ = some (.slice a2 l2 p2))) := fun W hW => by
       have hz4 : Wb.heap.size ≤ w4.heap.size := hE4.le
       have hx : ∀ b o, b < Wb.heap.size → gb ≤ b → W.cell? ⟨b, o, none⟩ = w4.cell? ⟨b, o, none⟩ := fun b o h1 h2 => World.cell?_of_block (hW.block b (by omega) (by omega))
       obtain ⟨⟨o0, o1, o2, o3⟩, ⟨v0, v1, v2, v3⟩, _⟩ := hbx w4 hE4
       refine ⟨⟨?_, ?_, ?_, ?_⟩, ⟨?_, ?_, ?_, ?_⟩⟩
       all_goals (rw [hx _ _ (by omega) (by omega)]; assumption)
      have hgw : Hid (g < w.heap.size ∧ B ≤ g) := ⟨hgl, hgB⟩
      clear hset hin4 hGn hGr hnode hedge hZ0 hZ1
      obtain ⟨⟨o0, o1, o2, o3⟩, ⟨v0, v1, v2, v3⟩, ⟨q0, q1, q2, q3⟩, ⟨t0, t1, t2, t3⟩, tf⟩ := hbx w4 hE4
      clear tf
      go_upto_region 7 with fail
      have hcur : Chg (fun x => x = g) w4 w4.drew := Chg.of_ext (Ext.refl _).drew
      have hEc : Ext w4 w4.drew := (Ext.refl _).drew
      refine wp_region_held_drew (S := (fun W => (W.cell? ⟨gb, 0, none⟩ = some (.slice va l0 vcap) ∧ W.cell? ⟨gb, 1, none⟩ = some (.slice (some ⟨g, 0, none⟩) l1 rcap) ∧ W.cell? ⟨gb, 2, none⟩ = some (.int .i64 x2) ∧ W.cell? ⟨gb, 3, none⟩ = some (.int .i64 x3)) ∧ (W.cell? ⟨gb + 1, 0, none⟩ = some (.int .i64 6) ∧ W.cell? ⟨gb + 1, 1, none⟩ = some (.int .i64 vn) ∧ W.cell? ⟨gb + 1, 2, none⟩ = some (.string vt) ∧ W.cell? ⟨gb + 1, 3, none⟩ = some (.slice a2 l2 p2)))) (by kernel_rfl) (HK.out _ hcur) (fun hHeld => ?_)
      refine tkL 0 ⟨some 48, .fieldAddr 34 (.tmp 4) 1, 0, _, #[], none⟩ ?_ hHeld ?yyE0 ?rrE0
      case yyE0 => (intro w hSw; (try dsimp only at hSw); go_simp; try with_reducible rfl)
      try simp only [Act.put, putA, putB, putC]
      refine tkL 1 ⟨some 49, .load 32 (.tmp 48), 32, _, #[⟨0, .data⟩], none⟩ ?_ hHeld ?yyE1 ?rrE1
      case yyE1 => (intro w hSw; (try dsimp only at hSw); go_simp; try with_reducible rfl)
      try simp only [Act.put, putA, putB, putC]
      refine tkL 2 ⟨some 50, .load 34 (.tmp 4), 34, _, #[], none⟩ ?_ hHeld ?yyE2 ?rrE2
      case yyE2 => (intro w hSw; (try dsimp only at hSw); go_simp; try with_reducible rfl)
      try simp only [Act.put, putA, putB, putC]
      refine tkL 3 ⟨some 51, .fieldAddr 40 (.tmp 5) 1, 0, _, #[], none⟩ ?_ hHeld ?yyE3 ?rrE3
      case yyE3 => (intro w hSw; (try dsimp only at hSw); go_simp; try with_reducible rfl)
      try simp only [Act.put, putA, putB, putC]
      refine tkL 4 ⟨some 52, .load 3 (.tmp 51), 3, _, #[⟨3, .data⟩], none⟩ ?_ hHeld ?yyE4 ?rrE4
      case yyE4 => (intro w hSw; (try dsimp only at hSw); go_simp; try with_reducible rfl)
      try simp only [Act.put, putA, putB, putC]
      refine tkL 6 ⟨some 54, .move (.tmp 12), 79, _, #[], none⟩ ?_ hHeld ?yyE6 ?rrE6
      case yyE6 => (intro w hSw; (try dsimp only at hSw); go_simp; try with_reducible rfl)
      try simp only [Act.put, putA, putB, putC]
      refine wpAnyH_ready (rs := [5]) (by kernel_rfl) (by simp) ?_
      refine AllReadyH.cons (o := ⟨some 53, .call { callee := .value (.func 48), args := #[.tmp 50, .tmp 52], argTypes := #[34, 3] }, 3, _, #[⟨2, .data⟩, ⟨4, .data⟩], none⟩) rfl (fun K hK => ?_) AllReadyH.nil
      go_simp
      refine (hnd.out _ hEc).mono ?_
      rintro e w9 ⟨rfl, hE9⟩
      replace hcur := hcur.trans (Chg.of_ext hE9)
      replace hEc := hEc.trans hE9
      obtain ⟨⟨uo, huo⟩, hfo, hDn⟩ := hst.out w9 hEc
      have hDo := hot.out w9 hEc
      go_wp2_with fail
      refine hK.out _ _ (HK.out _ hcur) (fun hHeld => ?_)
      clear hK K
      try simp only [Act.put, putA, putB, putC]
      refine tkL 7 ⟨some 55, .indexAddr 32 (.tmp 49) (.tmp 53), 0, _, #[⟨1, .data⟩, ⟨5, .data⟩, ⟨0, .phase⟩, ⟨1, .phase⟩, ⟨2, .phase⟩, ⟨3, .phase⟩, ⟨4, .phase⟩, ⟨5, .phase⟩, ⟨6, .phase⟩], none⟩ ?_ hHeld ?yyE7 ?rrE7
      case yyE7 => (intro w hSw; (try dsimp only at hSw); go_simp; try with_reducible rfl)
      try simp only [Act.put, putA, putB, putC]
      refine tkL 8 ⟨some 56, .fieldAddr 86 (.tmp 55) 4, 0, _, #[⟨7, .data⟩, ⟨0, .phase⟩, ⟨1, .phase⟩, ⟨2, .phase⟩, ⟨3, .phase⟩, ⟨4, .phase⟩, ⟨5, .phase⟩, ⟨6, .phase⟩], none⟩ ?_ hHeld ?yyE8 ?rrE8
      case yyE8 => (intro w hSw; (try dsimp only at hSw); go_simp; try with_reducible rfl)
      try simp only [Act.put, putA, putB, putC]
      refine wpAnyH_ready (rs := [9]) (by kernel_rfl) (by simp) ?_
      refine AllReadyH.cons (o := ⟨none, .store 79 (.tmp 56) (.tmp 54), 0, _, #[⟨8, .data⟩, ⟨6, .data⟩, ⟨5, .chain⟩, ⟨0, .phase⟩, ⟨1, .phase⟩, ⟨2, .phase⟩, ⟨3, .phase⟩, ⟨4, .phase⟩, ⟨5, .phase⟩, ⟨6, .phase⟩], none⟩) rfl (fun K hK => ?_) AllReadyH.nil
      go_simp
      replace hcur := hcur.setCell (p := ⟨g, i * 5 + 4, none⟩) rfl (.slice ra' R.length rc')
      refine hK.out _ _ (HK.out _ hcur) (fun hHeld => ?_)
      clear hK K
      try simp only [Act.put, putA, putB, putC]
      refine wpAnyH_done (by kernel_rfl) ?_ _
      clear o0 o1 o2 o3 v0 v1 v2 v3 q0 q1 q2 q3 t0 t1 t2 t3 hHeld
      have hE9w : Ext Wb w9 := Ext.trans hE4 hEc
      have hb3 : (w9.setCell ⟨g, i * 5 + 4, none⟩ (.slice ra' R.length rc')).heap[gb + 3]? = _ := (Below.heap_setCell _ _ _ _ (by show gb + 3 ≠ g; omega)).trans ((Below.block hE9w (gb + 3) (by omega)).trans hblk3.out)
      have hb0 : (w9.setCell ⟨g, i * 5 + 4, none⟩ (.slice ra' R.length rc')).heap[gb]? = _ := (Below.heap_setCell _ _ _ _ (by show gb ≠ g; omega)).trans ((Below.block hE9w gb (by omega)).trans hblk0.out)
      obtain ⟨⟨t0, t1, t2, t3⟩, tf⟩ := blk4 hb3
      have tf0 := tf 0
      have tf1 := tf 1
      have tf2 := tf 2
      have tf3 := tf 3
      obtain ⟨⟨o0, o1, o2, o3⟩, _⟩ := blk4 hb0
      have hC4 := chg4 (W := (w9.setCell ⟨g, i * 5 + 4, none⟩ (.slice ra' R.length rc'))) (b := gb + 3) (.slice va l0 vcap) (.slice (some ⟨g, 0, none⟩) l1 rcap) (.int .i64 x2) (.int .i64 x3)
      have hX : Hid _ := And.intro (show DIn (fun x => B ≤ x) (((((w9.setCell ⟨g, i * 5 + 4, none⟩ (.slice ra' R.length rc')).setCell ⟨gb + 3, 0, none⟩ (.slice va l0 vcap)).setCell ⟨gb + 3, 1, none⟩ (.slice (some ⟨g, 0, none⟩) l1 rcap)).setCell ⟨gb + 3, 2, none⟩ (.int .i64 x2)).setCell ⟨gb + 3, 3, none⟩ (.int .i64 x3)) (psD0 true true d0 6 vn s k n t d3) (.slice va l0 vcap) from (hDo.carry hC4.size (fun b hb hl => hC4.block b hl hb.2)).mono (fun x hx => hx.1)) (And.intro (show DIn (fun x => B ≤ x) (((((w9.setCell ⟨g, i * 5 + 4, none⟩ (.slice ra' R.length rc')).setCell ⟨gb + 3, 0, none⟩ (.slice va l0 vcap)).setCell ⟨gb + 3, 1, none⟩ (.slice (some ⟨g, 0, none⟩) l1 rcap)).setCell ⟨gb + 3, 2, none⟩ (.int .i64 x2)).setCell ⟨gb + 3, 3, none⟩ (.int .i64 x3)) (psD1 true true d1 6 vn s k n t d3) (.slice (some ⟨g, 0, none⟩) l1 rcap) from (hDn.carry hC4.size (fun b hb hl => hC4.block b hl hb.2)).mono (fun x hx => hx.1)) (show Chg (fun x => B ≤ x) w (((((w9.setCell ⟨g, i * 5 + 4, none⟩ (.slice ra' R.length rc')).setCell ⟨gb + 3, 0, none⟩ (.slice va l0 vcap)).setCell ⟨gb + 3, 1, none⟩ (.slice (some ⟨g, 0, none⟩) l1 rcap)).setCell ⟨gb + 3, 2, none⟩ (.int .i64 x2)).setCell ⟨gb + 3, 3, none⟩ (.int .i64 x3)) from ((Chg.of_ext (Ext.trans hEw hE9w)).trans (((Chg.refl (fun x => x = g) w9).setCell (p := ⟨g, i * 5 + 4, none⟩) rfl (.slice ra' R.length rc')).mono (fun x hx => by have := hgw.out.2; omega))).trans (hC4.mono (fun x hx => by omega))))
      clear hC4 tf hDn hDo hb3 hb0 hcur
      go_wp2
      refine bodyPost_ret (v := .tuple #[.agg #[.slice va l0 vcap, .slice (some ⟨g, 0, none⟩) l1 rcap, .int .i64 x2, .int .i64 x3], .bool true]) (by simp [results, Tryz.results21, go_sem, t0, t1, t2, t3]) rfl ⟨rfl, hX.out.1, hX.out.2.1, hX.out.2.2⟩
     ·
      rw [if_neg h6] at hPA'
      cases hPA'
end Go.Proofs.YteijgejpenlgjaaGreat
