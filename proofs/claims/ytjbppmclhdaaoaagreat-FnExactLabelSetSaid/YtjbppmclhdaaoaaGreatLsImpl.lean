/- What impl.LabelSet answers. -/
import Derived.Test.YtjbppmclhdaaoaaGreatLsStep
import Derived.Test.YtjbppmclhdaaoaaGreatNeG
import Derived.Test.YtjbppmclhdaaoaaGreatNetOf
namespace Go.Proofs.YtjbppmclhdaaoaaGreat
open Go.RowKit Go.Deep

set_option maxRecDepth 100000 in
set_option maxHeartbeats 8000000 in
theorem implLabelSet_any (S : Nat → Prop) (d0 d1 : D) (id : Int) (s : ByteArray) (has : Bool) (c0 c1 : Value) (x2 x3 : Int) (w : World) (H0 : Has d0 (.list 4)) (h0 : DIn S w d0 c0) (H1 : Has d1 (.list 5)) (h1 : DIn S w d1 c1) (zid : (Lit.int .i64 id).wf = true) (zs : s.size ≤ maxLen) (b : Bool) (hb : lsB d0 id s has = b) (g : Bool) (hg : graphB d0 d1 x2 x3 = g) :
    Calls Tryz.prog 7 #[.agg #[c0, c1, .int .i64 x2, .int .i64 x3], .int .i64 id, .string s, .bool has] w fun e w' => ∃ u0 u1, e = .returned (.tuple #[.agg #[u0, u1, .int .i64 (edX g x2), .int .i64 (edX g x3)], .bool (g && b)]) ∧ GraphOwn w' w.heap.size (lsD0 g b d0 id s has) (lsD1 g d1) u0 u1 ∧ Ext w w' := by
  have hnet := fun (W : World) (hW : Ext w W) => netOf_any S d0 d1 c0 c1 x2 x3 W H0 (h0.ext hW) H1 (h1.ext hW)
  have hgl : g = true → _ := fun e => graph_len (hg.trans e)
  have hinc0 : g = true → incD d0 := fun e => node_incD (hg.trans e)
  have hinc : g = true → incD d1 := fun e => graph_inc (hg.trans e)
  have hlabs : g = true → ∀ i, i < d0.len! → labelsB (d0.at! i 1) = true := fun e => graph_labs (hg.trans e)
  rw [hg] at hnet
  obtain ⟨a0, cap0, l0, _, hq0, rfl, _, _⟩ := list_shape H0 h0
  obtain ⟨a1, cap1, l1, _, hq1, rfl, _, _⟩ := list_shape H1 h1
  clear hq0 hq1 h0 h1
  obtain ⟨Wb, hWb⟩ : ∃ Wb, Wb = (w.alloc (.cells #[.slice a0 l0 cap0, .slice a1 l1 cap1, .int .i64 x2, .int .i64 x3] 30)).alloc (.cells #[.slice none 0 0, .slice none 0 0, .int .i64 0, .int .i64 0] 30) := ⟨_, rfl⟩
  obtain ⟨gb, hgb⟩ : ∃ m, m = w.heap.size := ⟨_, rfl⟩
  have hEw : Ext w Wb := by rw [hWb]; exact ((Ext.refl _).alloc _).alloc _
  have hzb : Wb.heap.size ≤ gb + 2 := by rw [hWb, hgb]; simp
  have hzb2 : gb + 2 ≤ Wb.heap.size := by rw [hWb, hgb]; simp
  have hblk0 : Wb.heap[gb]? = some (.cells #[.slice a0 l0 cap0, .slice a1 l1 cap1, .int .i64 x2, .int .i64 x3] 30 (0, 0)) := by
    rw [hWb, Below.block ((Ext.refl _).alloc _) _ (by rw [hgb]; simp), hgb]
    exact heap_alloc_new w _
  have hblk1 : Wb.heap[gb + 1]? = some (.cells #[.slice none 0 0, .slice none 0 0, .int .i64 0, .int .i64 0] 30 (0, 0)) := by
    have := heap_alloc_new (w.alloc (.cells #[.slice a0 l0 cap0, .slice a1 l1 cap1, .int .i64 x2, .int .i64 x3] 30)) (.cells #[.slice none 0 0, .slice none 0 0, .int .i64 0, .int .i64 0] 30)
    rw [World.size_alloc] at this
    rw [hWb, hgb]
    exact this
  have hbx : ∀ W : World, W.heap[gb]? = Wb.heap[gb]? → W.heap[gb + 1]? = Wb.heap[gb + 1]? → (W.cell? ⟨gb, 0, none⟩ = some (.slice a0 l0 cap0) ∧ W.cell? ⟨gb, 1, none⟩ = some (.slice a1 l1 cap1) ∧ W.cell? ⟨gb, 2, none⟩ = some (.int .i64 x2) ∧ W.cell? ⟨gb, 3, none⟩ = some (.int .i64 x3)) ∧ (W.cell? ⟨gb + 1, 0, none⟩ = some (.slice none 0 0) ∧ W.cell? ⟨gb + 1, 1, none⟩ = some (.slice none 0 0) ∧ W.cell? ⟨gb + 1, 2, none⟩ = some (.int .i64 0) ∧ W.cell? ⟨gb + 1, 3, none⟩ = some (.int .i64 0)) ∧ (∀ o, W.frozen? ⟨gb + 1, o, none⟩ = false) := fun W h1 h2 => by
    rw [hblk0] at h1
    rw [hblk1] at h2
    refine ⟨⟨?_, ?_, ?_, ?_⟩, ⟨?_, ?_, ?_, ?_⟩, fun o => ?_⟩
    all_goals first | (simp [World.cell?, h1]; done) | (simp [World.cell?, h2]; done) | (simp [World.frozen?, h2]; done)
  have hk : ∀ W : World, Chg (fun x => Wb.heap.size ≤ x) Wb W → ∀ b, gb ≤ b → b < Wb.heap.size → W.heap[b]? = Wb.heap[b]? := fun W hW b _ h2 => hW.block b h2 (by omega)
  have hgb1 : gb ≤ w.heap.size := Nat.le_of_eq hgb
  have hgb2 : w.heap.size ≤ gb := Nat.le_of_eq hgb.symm
  clear hg
  obtain ⟨⟨p0, p1, p2, p3⟩, _⟩ := hbx Wb rfl rfl
  go_enter Tryz.func7, Tryz.ntmps7
  go_wp2_with fail
  rw [← hWb, ← hgb]
  clear hWb hgb p0 p1 p2 p3
  refine (hnet Wb hEw).mono ?_
  rintro e w1 ⟨p, rfl, hyes, hE1⟩
  have hz1 := hE1.le
  have hC1 : Chg (fun x => Wb.heap.size ≤ x) Wb w1 := Chg.of_ext hE1
  cases g
  · obtain ⟨⟨p0, p1, p2, p3⟩, ⟨t0, t1, t2, t3⟩, tf⟩ := hbx w1 (hk w1 hC1 gb (by omega) (by omega)) (hk w1 hC1 (gb + 1) (by omega) (by omega))
    have tf0 := tf 0
    have tf1 := tf 1
    have tf2 := tf 2
    have tf3 := tf 3
    have hCf : Chg (fun x => x = gb + 1) w1 ((((w1.setCell ⟨gb + 1, 0, none⟩ (.slice none 0 0)).setCell ⟨gb + 1, 1, none⟩ (.slice none 0 0)).setCell ⟨gb + 1, 2, none⟩ (.int .i64 0)).setCell ⟨gb + 1, 3, none⟩ (.int .i64 0)) := ((((Chg.refl (fun x => x = gb + 1) w1).setCell (p := ⟨gb + 1, 0, none⟩) rfl _).setCell (p := ⟨gb + 1, 1, none⟩) rfl _).setCell (p := ⟨gb + 1, 2, none⟩) rfl _).setCell (p := ⟨gb + 1, 3, none⟩) rfl _
    have hX : Hid (Ext w ((((w1.setCell ⟨gb + 1, 0, none⟩ (.slice none 0 0)).setCell ⟨gb + 1, 1, none⟩ (.slice none 0 0)).setCell ⟨gb + 1, 2, none⟩ (.int .i64 0)).setCell ⟨gb + 1, 3, none⟩ (.int .i64 0))) := hCf.toExt (hEw.trans hE1) (fun x hx => by omega)
    clear hCf hyes
    go_wp2
    refine bodyPost_ret (v := .tuple #[.agg #[.slice none 0 0, .slice none 0 0, .int .i64 0, .int .i64 0], .bool false]) (by simp [results, Tryz.results7, go_sem, t0, t1, t2, t3]) rfl ⟨_, _, rfl, ⟨fun _ => False, fun _ => False, ⟨(noneL_in 3 _ _).1, (noneL_in 3 _ _).2, fun x hx => hx.elim⟩, ⟨(noneL_in 5 _ _).1, (noneL_in 5 _ _).2, fun x hx => hx.elim⟩, fun x hx => hx.elim⟩, hX.out⟩
  · obtain ⟨hl12, hl16, _, hx0, hx1⟩ := hgl rfl
    have hinc0 := hinc0 rfl
    have hinc1 := hinc rfl
    have hlabs1 := hlabs rfl
    clear hlabs
    clear hgl hinc
    obtain ⟨N, hp, hN, hF⟩ := hyes rfl
    clear hyes
    subst hp
    have hnn := hF.nn
    have hne := hF.ne
    subst hnn hne
    obtain ⟨mid, hm1, hrn, hre⟩ := hF.rows
    have hhi : mid ≤ w1.heap.size := by obtain ⟨P, hP⟩ := hrn; exact hP.1
    have hdat : NetDat w1 Wb.heap.size N (fun x => Wb.heap.size ≤ x ∧ x < mid) (fun x => mid ≤ x ∧ x < w1.heap.size) d0 d1 := ⟨hN, hF.ln, hF.le, hF.kn, hF.ke, hrn.toS, hre.toS⟩
    have hSS0 : ∀ x, (Wb.heap.size ≤ x ∧ x < mid) → ¬ (mid ≤ x ∧ x < w1.heap.size) := fun x h1 h2 => by omega
    have hm := setLabel_any w1 Wb.heap.size N (fun x => Wb.heap.size ≤ x ∧ x < mid) (fun x => mid ≤ x ∧ x < w1.heap.size) d0 d1 id s has hdat hSS0 (fun x hx => hx.2) H0 hinc0 hlabs1 zid zs b hb
    have HD0 : Has (lsD0 true b d0 id s has) (.list 4) := lsD0_has H0
    have HD1 : Has (lsD1 true d1) (.list 5) := H1
    have hL0 : (lsD0 true b d0 id s has).len! ≤ 1000 := Nat.le_trans lsD0_len (by omega)
    have hL1 : (lsD1 true d1).len! ≤ 1000 := (by show d1.len! ≤ 1000; omega)
    have hw1 : ∀ x, NetR N x → Wb.heap.size ≤ x := fun x hx => (NetR.lt hN hx).1
    obtain ⟨hnbl, _⟩ : N.nb < w1.heap.size ∧ True := ⟨hN.nb_lt, trivial⟩
    generalize hDe0 : lsD0 true b d0 id s has = D0 at *
    generalize hDe1 : lsD1 true d1 = D1 at *
    have hDe0 := (show Hid _ from hDe0)
    have hDe1 := (show Hid _ from hDe1)
    clear hF hrn hre hdat hN hinc0 hinc1 hlabs1
    go_wp2_with fail
    refine hm.mono ?_
    rintro e w2 ⟨N', _, S0', S1', hS0, hS1, hdd, hD2, hst, hnb2, hnn2, hne2⟩
    clear hm
    have hrow0 : ∀ i, i < D0.len! → HasRow 4 (D0.at! i) := by
      obtain ⟨len0, f0, hd0, HR0⟩ := HD0.list
      rw [hd0]
      exact HR0
    have hrow1 : ∀ i, i < D1.len! → HasRow 5 (D1.at! i) := by
      obtain ⟨len1, f1, hd1, HR1⟩ := HD1.list
      rw [hd1]
      exact HR1
    have hd0' : Hid (D0 = .list 3 D0.len! D0.at!) := by
      obtain ⟨len0, f0, hd0, HR0⟩ := HD0.list
      show D0 = _
      rw [hd0]
      rfl
    have hd1' : Hid (D1 = .list 5 D1.len! D1.at!) := by
      obtain ⟨len1, f1, hd1, HR1⟩ := HD1.list
      show D1 = _
      rw [hd1]
      rfl
    have hC2 : Chg (fun x => Wb.heap.size ≤ x) Wb w2 := hC1.trans (hst.chg.mono hw1)
    have hz2 := hst.chg.size
    have hbase2 : Wb.heap.size ≤ w2.heap.size := Nat.le_trans hz1 hz2
    have hgr := netGraph_any w2 Wb.heap.size _ Wb.heap.size _ _ N' D0.at! D1.at! D0.len! D1.len! hD2.net hrow0 hrow1 hD2.ln hD2.le (fun i hi => (hD2.kn _).2 (mem_ids hi)) (fun i hi => (hD2.ke _).2 (mem_ids hi)) hD2.rn hD2.re (fun x hx => (hS0 x hx).elim (fun h => h.1) (fun h => Nat.le_trans hz1 h)) (fun x hx => (hS1 x hx).elim (fun h => Nat.le_trans hm1 h.1) (fun h => Nat.le_trans hz1 h)) hbase2 hdd hL0 hL1
    rw [hnb2, hnn2, hne2] at hgr
    clear hrow0 hrow1 hD2 hst hnb2 hnn2 hne2 hS0 hS1 hdd
    go_wp2_with fail
    refine hgr.mono ?_
    rintro e w3 ⟨u0, u1, rfl, hgo, hE3⟩
    clear hgr
    have hC3 : Chg (fun x => Wb.heap.size ≤ x) Wb w3 := hC2.trans (Chg.of_ext hE3)
    have hz3 := hE3.le
    rw [← hd0'.out, ← hd1'.out] at hgo
    obtain ⟨Q0, Q1, ⟨hD0, hO0, hq0⟩, ⟨hD1, hO1, hq1⟩, hdq⟩ := hgo
    obtain ⟨va, vcap, vl, _, hqa, hva, _, _⟩ := list_shape (r := 4) HD0 hD0
    obtain ⟨ra, rcap, rl, _, hqb, hra, _, _⟩ := list_shape (r := 5) HD1 hD1
    subst hva hra
    clear hqa hqb hd0' hd1'
    obtain ⟨⟨p0, p1, p2, p3⟩, ⟨t0, t1, t2, t3⟩, tf⟩ := hbx w3 (hk w3 hC3 gb (by omega) (by omega)) (hk w3 hC3 (gb + 1) (by omega) (by omega))
    have tf0 := tf 0
    have tf1 := tf 1
    have tf2 := tf 2
    have tf3 := tf 3
    clear tf p0 p1 p2 p3
    have hCf : Chg (fun x => x = gb + 1) w3 ((((w3.setCell ⟨gb + 1, 0, none⟩ (.slice va vl vcap)).setCell ⟨gb + 1, 1, none⟩ (.slice ra rl rcap)).setCell ⟨gb + 1, 2, none⟩ (.int .i64 N.nn)).setCell ⟨gb + 1, 3, none⟩ (.int .i64 N.ne)) := ((((Chg.refl (fun x => x = gb + 1) w3).setCell (p := ⟨gb + 1, 0, none⟩) rfl _).setCell (p := ⟨gb + 1, 1, none⟩) rfl _).setCell (p := ⟨gb + 1, 2, none⟩) rfl _).setCell (p := ⟨gb + 1, 3, none⟩) rfl _
    have hX : Hid _ := And.intro (show GraphOwn ((((w3.setCell ⟨gb + 1, 0, none⟩ (.slice va vl vcap)).setCell ⟨gb + 1, 1, none⟩ (.slice ra rl rcap)).setCell ⟨gb + 1, 2, none⟩ (.int .i64 N.nn)).setCell ⟨gb + 1, 3, none⟩ (.int .i64 N.ne)) gb D0 D1 (.slice va vl vcap) (.slice ra rl rcap) from ⟨Q0, Q1, ⟨hD0.carry hCf.size (fun b hb hl => hCf.block b hl (by have := hq0 b hb; omega)), hO0.carry hCf.size (fun b hb hl => hCf.block b hl (by have := hq0 b hb; omega)), fun x hx => by have := hq0 x hx; simp only [World.size_setCell]; omega⟩, ⟨hD1.carry hCf.size (fun b hb hl => hCf.block b hl (by have := hq1 b hb; omega)), hO1.carry hCf.size (fun b hb hl => hCf.block b hl (by have := hq1 b hb; omega)), fun x hx => by have := hq1 x hx; simp only [World.size_setCell]; omega⟩, hdq⟩) (hCf.toExt (hC3.toExt hEw (fun x hx => by omega)) (fun x hx => by omega))
    have hgbw : Hid (gb = w.heap.size) := by show _ = _; omega
    clear hCf hD0 hO0 hD1 hO1
    go_wp2
    refine bodyPost_ret (v := .tuple #[.agg #[.slice va vl vcap, .slice ra rl rcap, .int .i64 N.nn, .int .i64 N.ne], .bool b]) (by simp [results, Tryz.results7, go_sem, t0, t1, t2, t3]) rfl ⟨_, _, rfl, ?_, hX.out.2⟩
    rw [← hgbw.out, hDe0.out, hDe1.out]
    exact hX.out.1
end Go.Proofs.YtjbppmclhdaaoaaGreat
