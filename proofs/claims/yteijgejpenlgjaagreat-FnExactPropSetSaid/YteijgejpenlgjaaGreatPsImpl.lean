/- What impl.PropSet answers. -/
import Derived.Test.YteijgejpenlgjaaGreatPsStep
import Derived.Test.YteijgejpenlgjaaGreatNeG
import Derived.Test.YteijgejpenlgjaaGreatNetOf
namespace Go.Proofs.YteijgejpenlgjaaGreat
open Go.RowKit Go.Deep

/-- Whether a prop can be set. -/
def psV (d0 d1 d2 : D) (vk vn : Int) (vt : ByteArray) (s : ByteArray) (k n : Int) (t : ByteArray) (d3 : D) : Bool := okN 3 (.mk vk vn vt (vsOf d2)) && psB d0 d1 vk vn s k n t d3
set_option maxRecDepth 100000 in
set_option maxHeartbeats 16000000 in
theorem implPropSet_any (S S2 S3 : Nat → Prop) (d0 d1 d2 d3 : D) (vk vn : Int) (vt : ByteArray) (s : ByteArray) (k n : Int) (t : ByteArray) (c0 c1 c2 c3 : Value) (x2 x3 : Int) (w : World) (H0 : Has d0 (.list 4)) (h0 : DIn S w d0 c0) (H1 : Has d1 (.list 5)) (h1 : DIn S w d1 c1) (H2 : Has d2 (.list 2)) (h2 : DIn S2 w d2 c2) (H3 : Has d3 (.list 2)) (h3 : DIn S3 w d3 c3)
  (zvk : (Lit.int .i64 vk).wf = true) (zvn : (Lit.int .i64 vn).wf = true) (zvt : vt.size ≤ maxLen) (zs : s.size ≤ maxLen) (zk : (Lit.int .i64 k).wf = true) (zn : (Lit.int .i64 n).wf = true) (zt : t.size ≤ maxLen) (b : Bool) (hb : psV d0 d1 d2 vk vn vt s k n t d3 = b) (g : Bool) (hg : graphB d0 d1 x2 x3 = g) :
  Calls Tryz.prog 9 #[.agg #[c0, c1, .int .i64 x2, .int .i64 x3], .agg #[.int .i64 vk, .int .i64 vn, .string vt, c2], .string s, .agg #[.int .i64 k, .int .i64 n, .string t, c3]] w fun e w' => ∃ u0 u1, e = .returned (.tuple #[.agg #[u0, u1, .int .i64 (edX g x2), .int .i64 (edX g x3)], .bool (g && b)]) ∧ GraphOwn w' w.heap.size (psD0 g b d0 vk vn s k n t d3) (psD1 g b d1 vk vn s k n t d3) u0 u1 ∧ Ext w w' := by
 have hnet := fun (W : World) (hW : Ext w W) => netOf_any S d0 d1 c0 c1 x2 x3 W H0 (h0.ext hW) H1 (h1.ext hW)
 have hvk := fun (W : World) (hW : Ext w W) => termOf_any (.mk vk vn vt (vsOf d2)) 0 _ W (valIn_of zvk zvn zvt H2 (h2.ext hW))
 have hgl : g = true → _ := fun e => graph_len (hg.trans e)
 have hinc0 : g = true → incD d0 := fun e => node_incD (hg.trans e)
 have hinc : g = true → incD d1 := fun e => edge_incD (hg.trans e)
 have hpn : g = true → ∀ i, i < d0.len! → propsB (d0.at! i 2) = true := fun e => graph_propsN (hg.trans e)
 have hpe : g = true → ∀ i, i < d1.len! → propsB (d1.at! i 4) = true := fun e => graph_propsE (hg.trans e)
 rw [hg] at hnet
 obtain ⟨a0, cap0, l0, _, hq0, rfl, _, _⟩ := list_shape H0 h0
 obtain ⟨a1, cap1, l1, _, hq1, rfl, _, _⟩ := list_shape H1 h1
 obtain ⟨a2, p2, l2, _, hq2, rfl, _, _⟩ := list_shape H2 h2
 obtain ⟨a3, p3, l3, _, hq3, rfl, _, _⟩ := list_shape H3 h3
 clear hq0 hq1 hq2 hq3 h0 h1 h2
 obtain ⟨Wb, hWb⟩ : ∃ Wb, Wb = (((w.alloc (.cells #[.slice a0 l0 cap0, .slice a1 l1 cap1, .int .i64 x2, .int .i64 x3] 34)).alloc (.cells #[.int .i64 vk, .int .i64 vn, .string vt, .slice a2 l2 p2] 40)).alloc (.cells #[.int .i64 k, .int .i64 n, .string t, .slice a3 l3 p3] 40)).alloc (.cells #[.slice none 0 0, .slice none 0 0, .int .i64 0, .int .i64 0] 34) := ⟨_, rfl⟩
 obtain ⟨gb, hgb⟩ : ∃ m, m = w.heap.size := ⟨_, rfl⟩
 have hEw : Ext w Wb := by rw [hWb]; exact ((((Ext.refl _).alloc _).alloc _).alloc _).alloc _
 have hzb : Wb.heap.size ≤ gb + 4 := by rw [hWb, hgb]; simp
 have hzb2 : gb + 4 ≤ Wb.heap.size := by rw [hWb, hgb]; simp
 have hblk0 : Wb.heap[gb]? = some (.cells #[.slice a0 l0 cap0, .slice a1 l1 cap1, .int .i64 x2, .int .i64 x3] 34 (0, 0)) := by
  rw [hWb, Below.block ((((Ext.refl _).alloc _).alloc _).alloc _) _ (by rw [hgb]; simp), hgb]
  exact heap_alloc_new w _
 have hblk1 : Wb.heap[gb + 1]? = some (.cells #[.int .i64 vk, .int .i64 vn, .string vt, .slice a2 l2 p2] 40 (0, 0)) := by
  have := heap_alloc_new (w.alloc (.cells #[.slice a0 l0 cap0, .slice a1 l1 cap1, .int .i64 x2, .int .i64 x3] 34)) (.cells #[.int .i64 vk, .int .i64 vn, .string vt, .slice a2 l2 p2] 40)
  rw [World.size_alloc] at this
  rw [hWb, hgb, Below.block (((Ext.refl _).alloc _).alloc _) _ (by simp)]
  exact this
 have hblk2 : Wb.heap[gb + 2]? = some (.cells #[.int .i64 k, .int .i64 n, .string t, .slice a3 l3 p3] 40 (0, 0)) := by
  have := heap_alloc_new ((w.alloc (.cells #[.slice a0 l0 cap0, .slice a1 l1 cap1, .int .i64 x2, .int .i64 x3] 34)).alloc (.cells #[.int .i64 vk, .int .i64 vn, .string vt, .slice a2 l2 p2] 40)) (.cells #[.int .i64 k, .int .i64 n, .string t, .slice a3 l3 p3] 40)
  rw [World.size_alloc, World.size_alloc] at this
  rw [hWb, hgb, Below.block ((Ext.refl _).alloc _) _ (by simp)]
  exact this
 have hblk3 : Wb.heap[gb + 3]? = some (.cells #[.slice none 0 0, .slice none 0 0, .int .i64 0, .int .i64 0] 34 (0, 0)) := by
  have := heap_alloc_new (((w.alloc (.cells #[.slice a0 l0 cap0, .slice a1 l1 cap1, .int .i64 x2, .int .i64 x3] 34)).alloc (.cells #[.int .i64 vk, .int .i64 vn, .string vt, .slice a2 l2 p2] 40)).alloc (.cells #[.int .i64 k, .int .i64 n, .string t, .slice a3 l3 p3] 40)) (.cells #[.slice none 0 0, .slice none 0 0, .int .i64 0, .int .i64 0] 34)
  rw [World.size_alloc, World.size_alloc, World.size_alloc] at this
  rw [hWb, hgb]
  exact this
 have hbx : ∀ W : World, W.heap[gb]? = Wb.heap[gb]? → W.heap[gb + 1]? = Wb.heap[gb + 1]? → W.heap[gb + 2]? = Wb.heap[gb + 2]? → W.heap[gb + 3]? = Wb.heap[gb + 3]? → (W.cell? ⟨gb, 0, none⟩ = some (.slice a0 l0 cap0) ∧ W.cell? ⟨gb, 1, none⟩ = some (.slice a1 l1 cap1) ∧ W.cell? ⟨gb, 2, none⟩ = some (.int .i64 x2) ∧ W.cell? ⟨gb, 3, none⟩ = some (.int .i64 x3)) ∧ (W.cell? ⟨gb + 1, 0, none⟩ = some (.int .i64 vk) ∧ W.cell? ⟨gb + 1, 1, none⟩ = some (.int .i64 vn) ∧ W.cell? ⟨gb + 1, 2, none⟩ = some (.string vt) ∧ W.cell? ⟨gb + 1, 3, none⟩ = some (.slice a2 l2 p2)) ∧ (W.cell? ⟨gb + 2, 0, none⟩ = some (.int .i64 k) ∧ W.cell? ⟨gb + 2, 1, none⟩ = some (.int .i64 n) ∧ W.cell? ⟨gb + 2, 2, none⟩ = some (.string t) ∧ W.cell? ⟨gb + 2, 3, none⟩ = some (.slice a3 l3 p3)) ∧ (W.cell? ⟨gb + 3, 0, none⟩ = some (.slice none 0 0) ∧ W.cell? ⟨gb + 3, 1, none⟩ = some (.slice none 0 0) ∧ W.cell? ⟨gb + 3, 2, none⟩ = some (.int .i64 0) ∧ W.cell? ⟨gb + 3, 3, none⟩ = some (.int .i64 0)) ∧ (∀ o, W.frozen? ⟨gb + 3, o, none⟩ = false) := fun W h1 h2 h3 h4 => by
  rw [hblk0] at h1
  rw [hblk1] at h2
  rw [hblk2] at h3
  rw [hblk3] at h4
  refine ⟨⟨?_, ?_, ?_, ?_⟩, ⟨?_, ?_, ?_, ?_⟩, ⟨?_, ?_, ?_, ?_⟩, ⟨?_, ?_, ?_, ?_⟩, fun o => ?_⟩
  all_goals first | (simp [World.cell?, h1]; done) | (simp [World.cell?, h2]; done) | (simp [World.cell?, h3]; done) | (simp [World.cell?, h4]; done) | (simp [World.frozen?, h4]; done)
 have hk : ∀ W : World, Chg (fun x => Wb.heap.size ≤ x) Wb W → ∀ b, gb ≤ b → b < Wb.heap.size → W.heap[b]? = Wb.heap[b]? := fun W hW b _ h2 => hW.block b h2 (by omega)
 have hgb1 : gb ≤ w.heap.size := Nat.le_of_eq hgb
 have hgb2 : w.heap.size ≤ gb := Nat.le_of_eq hgb.symm
 clear hg
 obtain ⟨⟨p0, p1, p2, p3⟩, ⟨v0, v1, v2, v3⟩, ⟨q0, q1, q2, q3⟩, ⟨t0, t1, t2, t3⟩, tf⟩ := hbx Wb rfl rfl rfl rfl
 clear tf
 go_enter Tryz.func9, Tryz.ntmps9
 go_wp2_with fail
 rw [← hWb, ← hgb]
 clear hWb hgb p0 p1 p2 p3 v0 v1 v2 v3 q0 q1 q2 q3 t0 t1 t2 t3
 refine (hnet Wb hEw).mono ?_
 rintro e w1 ⟨p, rfl, hyes, hE1⟩
 have hz1 := hE1.le
 have hC1 : Chg (fun x => Wb.heap.size ≤ x) Wb w1 := Chg.of_ext hE1
 cases g
 ·
  obtain ⟨⟨p0, p1, p2, p3⟩, ⟨v0, v1, v2, v3⟩, ⟨q0, q1, q2, q3⟩, ⟨t0, t1, t2, t3⟩, tf⟩ := hbx w1 (hk w1 hC1 gb (by omega) (by omega)) (hk w1 hC1 (gb + 1) (by omega) (by omega)) (hk w1 hC1 (gb + 2) (by omega) (by omega)) (hk w1 hC1 (gb + 3) (by omega) (by omega))
  have tf0 := tf 0
  have tf1 := tf 1
  have tf2 := tf 2
  have tf3 := tf 3
  have hCf : Chg (fun x => x = gb + 3) w1 ((((w1.setCell ⟨gb + 3, 0, none⟩ (.slice none 0 0)).setCell ⟨gb + 3, 1, none⟩ (.slice none 0 0)).setCell ⟨gb + 3, 2, none⟩ (.int .i64 0)).setCell ⟨gb + 3, 3, none⟩ (.int .i64 0)) := ((((Chg.refl (fun x => x = gb + 3) w1).setCell (p := ⟨gb + 3, 0, none⟩) rfl _).setCell (p := ⟨gb + 3, 1, none⟩) rfl _).setCell (p := ⟨gb + 3, 2, none⟩) rfl _).setCell (p := ⟨gb + 3, 3, none⟩) rfl _
  have hX : Hid (Ext w ((((w1.setCell ⟨gb + 3, 0, none⟩ (.slice none 0 0)).setCell ⟨gb + 3, 1, none⟩ (.slice none 0 0)).setCell ⟨gb + 3, 2, none⟩ (.int .i64 0)).setCell ⟨gb + 3, 3, none⟩ (.int .i64 0))) := hCf.toExt (hEw.trans hE1) (fun x hx => by omega)
  clear hCf hyes
  go_wp2
  refine bodyPost_ret (v := .tuple #[.agg #[.slice none 0 0, .slice none 0 0, .int .i64 0, .int .i64 0], .bool false]) (by simp [results, Tryz.results9, go_sem, t0, t1, t2, t3]) rfl ⟨_, _, rfl, ⟨fun _ => False, fun _ => False, ⟨(noneL_in 3 _ _).1, (noneL_in 3 _ _).2, fun x hx => hx.elim⟩, ⟨(noneL_in 5 _ _).1, (noneL_in 5 _ _).2, fun x hx => hx.elim⟩, fun x hx => hx.elim⟩, hX.out⟩
 ·
  obtain ⟨hl12, hl16, _, hx0, hx1⟩ := hgl rfl
  have hinc0 := hinc0 rfl
  have hinc1 := hinc rfl
  have hpn := hpn rfl
  have hpe := hpe rfl
  clear hgl hinc
  obtain ⟨N, hp, hN, hF⟩ := hyes rfl
  clear hyes
  subst hp
  have hnn := hF.nn
  have hne := hF.ne
  subst hnn hne
  obtain ⟨mid, hm1, hrn, hre⟩ := hF.rows
  have hhi : mid ≤ w1.heap.size := by obtain ⟨P, hP⟩ := hrn; exact hP.1
  have hdat : NetDat w1 Wb.heap.size N (fun x => Wb.heap.size ≤ x ∧ x < mid) (fun x => mid ≤ x ∧ x < w1.heap.size) d0 d1 := ⟨hN, hF.ln, hF.le, hF.kn, hF.ke, hrn.toS, hre.toS⟩
  have hSS0 : ∀ x, (Wb.heap.size ≤ x ∧ x < mid) → ¬ (mid ≤ x ∧ x < w1.heap.size) := fun x h1 h2 => by omega
  have HD0 : Has (psD0 true b d0 vk vn s k n t d3) (.list 4) := psD0_has H0 H3
  have HD1 : Has (psD1 true b d1 vk vn s k n t d3) (.list 5) := psD1_has H1 H3
  have hL0 : (psD0 true b d0 vk vn s k n t d3).len! ≤ 1000 := Nat.le_trans psD0_len (by omega)
  have hL1 : (psD1 true b d1 vk vn s k n t d3).len! ≤ 1000 := Nat.le_trans psD1_len (by omega)
  have hw1 : ∀ x, NetR N x → Wb.heap.size ≤ x := fun x hx => (NetR.lt hN hx).1
  obtain ⟨hnbl, _⟩ : N.nb < w1.heap.size ∧ True := ⟨hN.nb_lt, trivial⟩
  have hsp := fun (w2 : World) (hE2 : Ext w1 w2) (ST : Nat → Prop) (tv : Value) (hT : TermIn ST w2 (.mk vk vn vt (vsOf d2)) tv) (hb2 : psB d0 d1 vk vn s k n t d3 = b) => setProp_any w2 Wb.heap.size N (fun x => Wb.heap.size ≤ x ∧ x < mid) (fun x => mid ≤ x ∧ x < w1.heap.size) ST S3 d0 d1 d3 vk vn vt (vsOf d2) tv s k n t a3 l3 p3 (hdat.ext hE2) hSS0 H0 H1 hinc0 hinc1 hpn hpe zvn hT zs zk zn zt H3 (h3.ext ((hEw.trans hE1).trans hE2)) b hb2
  have hnop : b = false → ∀ w2, Ext w1 w2 → NdPost w2 Wb.heap.size N (fun x => Wb.heap.size ≤ x ∧ x < mid) (fun x => mid ≤ x ∧ x < w1.heap.size) (psD0 true b d0 vk vn s k n t d3) (psD1 true b d1 vk vn s k n t d3) false (.returned (.bool false)) w2 := fun e w2 hE2 => by
   subst e
   exact .mk N w2 _ _ (fun _ hx => .inl hx) (fun _ hx => .inl hx) hSS0 (hdat.ext hE2) (NStep.ext N (Ext.refl _)) ⟨rfl, rfl, rfl⟩
  have hsp := (show Hid _ from hsp)
  have hnop := (show Hid _ from hnop)
  generalize hDe0 : psD0 true b d0 vk vn s k n t d3 = D0 at *
  generalize hDe1 : psD1 true b d1 vk vn s k n t d3 = D1 at *
  have hDe0 := (show Hid _ from hDe0)
  have hDe1 := (show Hid _ from hDe1)
  clear hF hrn hre hdat hN hinc0 hinc1 hpn hpe
  obtain ⟨⟨p0, p1, p2, p3⟩, ⟨v0, v1, v2, v3⟩, ⟨q0, q1, q2, q3⟩, ⟨t0, t1, t2, t3⟩, tf⟩ := hbx w1 (hk w1 hC1 gb (by omega) (by omega)) (hk w1 hC1 (gb + 1) (by omega) (by omega)) (hk w1 hC1 (gb + 2) (by omega) (by omega)) (hk w1 hC1 (gb + 3) (by omega) (by omega))
  clear tf t0 t1 t2 t3
  go_wp2_with fail
  refine (hvk w1 (hEw.trans hE1)).mono ?_
  rintro e w2 ⟨tv, rfl, hFace, hTerm, hE2⟩
  clear hvk p0 p1 p2 p3 v0 v1 v2 v3 q0 q1 q2 q3
  have hz2 := hE2.le
  have hC12 := hC1.trans (Chg.of_ext (R := fun x => Wb.heap.size ≤ x) hE2)
  obtain ⟨⟨p0, p1, p2, p3⟩, ⟨v0, v1, v2, v3⟩, ⟨q0, q1, q2, q3⟩, ⟨t0, t1, t2, t3⟩, tf⟩ := hbx w2 (hk w2 hC12 gb (by omega) (by omega)) (hk w2 hC12 (gb + 1) (by omega) (by omega)) (hk w2 hC12 (gb + 2) (by omega) (by omega)) (hk w2 hC12 (gb + 3) (by omega) (by omega))
  clear tf t0 t1 t2 t3 hFace
  cases hK : okN 3 (.mk vk vn vt (vsOf d2))
  ·
   have hbf : b = false := by rw [← hb, psV, hK]; rfl
   have hm := hnop.out hbf w2 hE2
   have hbH := (show Hid _ from hbf)
   clear hsp hnop hTerm hb hbf
   generalize hee : Ending.returned (Value.bool false) = ee at hm
   obtain ⟨N', _, S0', S1', hS0, hS1, hdd, hD2, hst, hnb2, hnn2, hne2⟩ := hm
   clear hee
   have hrow0 : ∀ i, i < D0.len! → HasRow 4 (D0.at! i) := by
    obtain ⟨len0, f0, hd0, HR0⟩ := HD0.list
    rw [hd0]
    exact HR0
   have hrow1 : ∀ i, i < D1.len! → HasRow 5 (D1.at! i) := by
    obtain ⟨len1, f1, hd1, HR1⟩ := HD1.list
    rw [hd1]
    exact HR1
   have hd0' : Hid (D0 = .list 3 D0.len! D0.at!) := by
    obtain ⟨len0, f0, hd0, HR0⟩ := HD0.list
    show D0 = _
    rw [hd0]
    rfl
   have hd1' : Hid (D1 = .list 5 D1.len! D1.at!) := by
    obtain ⟨len1, f1, hd1, HR1⟩ := HD1.list
    show D1 = _
    rw [hd1]
    rfl
   have hC2 : Chg (fun x => Wb.heap.size ≤ x) Wb w2 := (hC1.trans (Chg.of_ext hE2)).trans (hst.chg.mono hw1)
   have hz3 := hst.chg.size
   have hbase2 : Wb.heap.size ≤ w2.heap.size := Nat.le_trans hz1 (Nat.le_trans hz2 hz3)
   have hgr := netGraph_any w2 Wb.heap.size _ Wb.heap.size _ _ N' D0.at! D1.at! D0.len! D1.len! hD2.net hrow0 hrow1 hD2.ln hD2.le (fun i hi => (hD2.kn _).2 (mem_ids hi)) (fun i hi => (hD2.ke _).2 (mem_ids hi)) hD2.rn hD2.re (fun x hx => (hS0 x hx).elim (fun h => h.1) (fun h => Nat.le_trans hz1 (Nat.le_trans hz2 h))) (fun x hx => (hS1 x hx).elim (fun h => Nat.le_trans hm1 h.1) (fun h => Nat.le_trans hz1 (Nat.le_trans hz2 h))) hbase2 hdd hL0 hL1
   rw [hnb2, hnn2, hne2] at hgr
   clear hrow0 hrow1 hD2 hst hnb2 hnn2 hne2 hS0 hS1 hdd
   go_wp2_with fail
   refine hgr.mono ?_
   rintro e w4 ⟨u0, u1, rfl, hgo, hE4⟩
   clear hgr
   have hC3 : Chg (fun x => Wb.heap.size ≤ x) Wb w4 := hC2.trans (Chg.of_ext hE4)
   have hz4 := hE4.le
   rw [← hd0'.out, ← hd1'.out] at hgo
   obtain ⟨Q0, Q1, ⟨hD0, hO0, hq0⟩, ⟨hD1, hO1, hq1⟩, hdq⟩ := hgo
   obtain ⟨va, vcap, vl, _, hqa, hva, _, _⟩ := list_shape (r := 4) HD0 hD0
   obtain ⟨ra, rcap, rl, _, hqb, hra, _, _⟩ := list_shape (r := 5) HD1 hD1
   subst hva hra
   clear hqa hqb hd0' hd1'
   obtain ⟨⟨p0, p1, p2, p3⟩, ⟨v0, v1, v2, v3⟩, ⟨q0, q1, q2, q3⟩, ⟨t0, t1, t2, t3⟩, tf⟩ := hbx w4 (hk w4 hC3 gb (by omega) (by omega)) (hk w4 hC3 (gb + 1) (by omega) (by omega)) (hk w4 hC3 (gb + 2) (by omega) (by omega)) (hk w4 hC3 (gb + 3) (by omega) (by omega))
   have tf0 := tf 0
   have tf1 := tf 1
   have tf2 := tf 2
   have tf3 := tf 3
   clear tf p0 p1 p2 p3 v0 v1 v2 v3 q0 q1 q2 q3
   have hCf : Chg (fun x => x = gb + 3) w4 ((((w4.setCell ⟨gb + 3, 0, none⟩ (.slice va vl vcap)).setCell ⟨gb + 3, 1, none⟩ (.slice ra rl rcap)).setCell ⟨gb + 3, 2, none⟩ (.int .i64 N.nn)).setCell ⟨gb + 3, 3, none⟩ (.int .i64 N.ne)) := ((((Chg.refl (fun x => x = gb + 3) w4).setCell (p := ⟨gb + 3, 0, none⟩) rfl _).setCell (p := ⟨gb + 3, 1, none⟩) rfl _).setCell (p := ⟨gb + 3, 2, none⟩) rfl _).setCell (p := ⟨gb + 3, 3, none⟩) rfl _
   have hX : Hid _ := And.intro (show GraphOwn ((((w4.setCell ⟨gb + 3, 0, none⟩ (.slice va vl vcap)).setCell ⟨gb + 3, 1, none⟩ (.slice ra rl rcap)).setCell ⟨gb + 3, 2, none⟩ (.int .i64 N.nn)).setCell ⟨gb + 3, 3, none⟩ (.int .i64 N.ne)) gb D0 D1 (.slice va vl vcap) (.slice ra rl rcap) from ⟨Q0, Q1, ⟨hD0.carry hCf.size (fun b hb hl => hCf.block b hl (by have := hq0 b hb; omega)), hO0.carry hCf.size (fun b hb hl => hCf.block b hl (by have := hq0 b hb; omega)), fun x hx => by have := hq0 x hx; simp only [World.size_setCell]; omega⟩, ⟨hD1.carry hCf.size (fun b hb hl => hCf.block b hl (by have := hq1 b hb; omega)), hO1.carry hCf.size (fun b hb hl => hCf.block b hl (by have := hq1 b hb; omega)), fun x hx => by have := hq1 x hx; simp only [World.size_setCell]; omega⟩, hdq⟩) (hCf.toExt (hC3.toExt hEw (fun x hx => by omega)) (fun x hx => by omega))
   have hgbw : Hid (gb = w.heap.size) := by show _ = _; omega
   clear hCf hD0 hO0 hD1 hO1
   go_wp2
   refine bodyPost_ret (v := .tuple #[.agg #[.slice va vl vcap, .slice ra rl rcap, .int .i64 N.nn, .int .i64 N.ne], .bool false]) (by simp [results, Tryz.results9, go_sem, t0, t1, t2, t3]) rfl ⟨_, _, by rw [hbH.out]; rfl, ?_, hX.out.2⟩
   rw [← hgbw.out, hDe0.out, hDe1.out]
   exact hX.out.1
  ·
   have hb2 : psB d0 d1 vk vn s k n t d3 = b := by rw [← hb, psV, hK]; rfl
   have hm := hsp.out w2 hE2 _ tv (hTerm hK) hb2
   clear hsp hnop hTerm hb hb2
   go_wp2_with fail
   refine hm.mono ?_
   rintro e w3 ⟨N', _, S0', S1', hS0, hS1, hdd, hD2, hst, hnb2, hnn2, hne2⟩
   clear hm p0 p1 p2 p3 v0 v1 v2 v3 q0 q1 q2 q3
   have hrow0 : ∀ i, i < D0.len! → HasRow 4 (D0.at! i) := by
    obtain ⟨len0, f0, hd0, HR0⟩ := HD0.list
    rw [hd0]
    exact HR0
   have hrow1 : ∀ i, i < D1.len! → HasRow 5 (D1.at! i) := by
    obtain ⟨len1, f1, hd1, HR1⟩ := HD1.list
    rw [hd1]
    exact HR1
   have hd0' : Hid (D0 = .list 3 D0.len! D0.at!) := by
    obtain ⟨len0, f0, hd0, HR0⟩ := HD0.list
    show D0 = _
    rw [hd0]
    rfl
   have hd1' : Hid (D1 = .list 5 D1.len! D1.at!) := by
    obtain ⟨len1, f1, hd1, HR1⟩ := HD1.list
    show D1 = _
    rw [hd1]
    rfl
   have hC2 : Chg (fun x => Wb.heap.size ≤ x) Wb w3 := (hC1.trans (Chg.of_ext hE2)).trans (hst.chg.mono hw1)
   have hz3 := hst.chg.size
   have hbase2 : Wb.heap.size ≤ w3.heap.size := Nat.le_trans hz1 (Nat.le_trans hz2 hz3)
   have hgr := netGraph_any w3 Wb.heap.size _ Wb.heap.size _ _ N' D0.at! D1.at! D0.len! D1.len! hD2.net hrow0 hrow1 hD2.ln hD2.le (fun i hi => (hD2.kn _).2 (mem_ids hi)) (fun i hi => (hD2.ke _).2 (mem_ids hi)) hD2.rn hD2.re (fun x hx => (hS0 x hx).elim (fun h => h.1) (fun h => Nat.le_trans hz1 (Nat.le_trans hz2 h))) (fun x hx => (hS1 x hx).elim (fun h => Nat.le_trans hm1 h.1) (fun h => Nat.le_trans hz1 (Nat.le_trans hz2 h))) hbase2 hdd hL0 hL1
   rw [hnb2, hnn2, hne2] at hgr
   clear hrow0 hrow1 hD2 hst hnb2 hnn2 hne2 hS0 hS1 hdd
   go_wp2_with fail
   refine hgr.mono ?_
   rintro e w4 ⟨u0, u1, rfl, hgo, hE4⟩
   clear hgr
   have hC3 : Chg (fun x => Wb.heap.size ≤ x) Wb w4 := hC2.trans (Chg.of_ext hE4)
   have hz4 := hE4.le
   rw [← hd0'.out, ← hd1'.out] at hgo
   obtain ⟨Q0, Q1, ⟨hD0, hO0, hq0⟩, ⟨hD1, hO1, hq1⟩, hdq⟩ := hgo
   obtain ⟨va, vcap, vl, _, hqa, hva, _, _⟩ := list_shape (r := 4) HD0 hD0
   obtain ⟨ra, rcap, rl, _, hqb, hra, _, _⟩ := list_shape (r := 5) HD1 hD1
   subst hva hra
   clear hqa hqb hd0' hd1'
   obtain ⟨⟨p0, p1, p2, p3⟩, ⟨v0, v1, v2, v3⟩, ⟨q0, q1, q2, q3⟩, ⟨t0, t1, t2, t3⟩, tf⟩ := hbx w4 (hk w4 hC3 gb (by omega) (by omega)) (hk w4 hC3 (gb + 1) (by omega) (by omega)) (hk w4 hC3 (gb + 2) (by omega) (by omega)) (hk w4 hC3 (gb + 3) (by omega) (by omega))
   have tf0 := tf 0
   have tf1 := tf 1
   have tf2 := tf 2
   have tf3 := tf 3
   clear tf p0 p1 p2 p3 v0 v1 v2 v3 q0 q1 q2 q3
   have hCf : Chg (fun x => x = gb + 3) w4 ((((w4.setCell ⟨gb + 3, 0, none⟩ (.slice va vl vcap)).setCell ⟨gb + 3, 1, none⟩ (.slice ra rl rcap)).setCell ⟨gb + 3, 2, none⟩ (.int .i64 N.nn)).setCell ⟨gb + 3, 3, none⟩ (.int .i64 N.ne)) := ((((Chg.refl (fun x => x = gb + 3) w4).setCell (p := ⟨gb + 3, 0, none⟩) rfl _).setCell (p := ⟨gb + 3, 1, none⟩) rfl _).setCell (p := ⟨gb + 3, 2, none⟩) rfl _).setCell (p := ⟨gb + 3, 3, none⟩) rfl _
   have hX : Hid _ := And.intro (show GraphOwn ((((w4.setCell ⟨gb + 3, 0, none⟩ (.slice va vl vcap)).setCell ⟨gb + 3, 1, none⟩ (.slice ra rl rcap)).setCell ⟨gb + 3, 2, none⟩ (.int .i64 N.nn)).setCell ⟨gb + 3, 3, none⟩ (.int .i64 N.ne)) gb D0 D1 (.slice va vl vcap) (.slice ra rl rcap) from ⟨Q0, Q1, ⟨hD0.carry hCf.size (fun b hb hl => hCf.block b hl (by have := hq0 b hb; omega)), hO0.carry hCf.size (fun b hb hl => hCf.block b hl (by have := hq0 b hb; omega)), fun x hx => by have := hq0 x hx; simp only [World.size_setCell]; omega⟩, ⟨hD1.carry hCf.size (fun b hb hl => hCf.block b hl (by have := hq1 b hb; omega)), hO1.carry hCf.size (fun b hb hl => hCf.block b hl (by have := hq1 b hb; omega)), fun x hx => by have := hq1 x hx; simp only [World.size_setCell]; omega⟩, hdq⟩) (hCf.toExt (hC3.toExt hEw (fun x hx => by omega)) (fun x hx => by omega))
   have hgbw : Hid (gb = w.heap.size) := by show _ = _; omega
   clear hCf hD0 hO0 hD1 hO1
   go_wp2
   refine bodyPost_ret (v := .tuple #[.agg #[.slice va vl vcap, .slice ra rl rcap, .int .i64 N.nn, .int .i64 N.ne], .bool b]) (by simp [results, Tryz.results9, go_sem, t0, t1, t2, t3]) rfl ⟨_, _, rfl, ?_, hX.out.2⟩
   rw [← hgbw.out, hDe0.out, hDe1.out]
   exact hX.out.1
end Go.Proofs.YteijgejpenlgjaaGreat
