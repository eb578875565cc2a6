/- What impl.EdgeDrop answers. -/
import Derived.Test.YtacghifhhlgidaaGreatEdRows
import Derived.Test.YtacghifhhlgidaaGreatNeG
import Derived.Test.YtacghifhhlgidaaGreatNetOf
import Derived.Test.YtacghifhhlgidaaGreatEdSpec
namespace Go.Proofs.YtacghifhhlgidaaGreat
open Go.RowKit Go.Deep

def edL (d1 : D) (a : Option Nat) : D := match a with | some k => .list 5 (d1.len! - 1) (dropF d1.at! k) | none => d1
theorem edD1_eq {d1 : D} {id : Int} {a : Option Nat} (h : edK d1 id = a) : edD1 true d1 id = edL d1 a := by subst h; rfl
theorem mem_ids {f : Nat → Nat → D} {len i : Nat} (h : i < len) : (f i 0).int! ∈ idsOf f len := List.mem_map.2 ⟨i, List.mem_range.2 h, rfl⟩
set_option maxRecDepth 100000 in
set_option maxHeartbeats 4000000 in
theorem dropEdge_no (w : World) (base c : Nat) (N : NetD) (id : Int) (h : NetIn w base c N) (hid : (Lit.int .i64 id).wf = true) (hin : id ∉ N.keys .e) :
    Calls Tryz.prog 20 #[.pointer (some ⟨N.nb, 0, none⟩), .int .i64 id] w fun e w' => e = .returned (.bool false) ∧ Ext w w' := by
  have hlk := (h.maps .e).look Tryz.underlying78 (zeroEdge w) hid true
  simp only [if_true, if_neg hin, decide_eq_false hin] at hlk
  have c4 := h.c4
  clear hin h
  go_enter Tryz.func20, Tryz.ntmps20
  go_wp2
  go_ret
  exact ⟨rfl, (Ext.refl _).alloc _⟩

set_option maxRecDepth 100000 in
set_option maxHeartbeats 8000000 in
theorem implEdgeDrop_any (S : Nat → Prop) (d0 d1 : D) (id : Int) (c0 c1 : Value) (x2 x3 : Int) (w : World) (H0 : Has d0 (.list 4)) (h0 : DIn S w d0 c0) (H1 : Has d1 (.list 5)) (h1 : DIn S w d1 c1) (zid : (Lit.int .i64 id).wf = true) (g : Bool) (hg : graphB d0 d1 x2 x3 = g) (a : Option Nat) (ha : edK d1 id = a) :
    Calls Tryz.prog 7 #[.agg #[c0, c1, .int .i64 x2, .int .i64 x3], .int .i64 id] w fun e w' => ∃ u0 u1, e = .returned (.tuple #[.agg #[u0, u1, .int .i64 (edX g x2), .int .i64 (edX g x3)], .bool (edB g d1 id)]) ∧ GraphOwn w' w.heap.size (edD0 g d0) (edD1 g d1 id) u0 u1 ∧ Ext w w' := by
  have hnet := fun (W : World) (hW : Ext w W) => netOf_any S d0 d1 c0 c1 x2 x3 W H0 (h0.ext hW) H1 (h1.ext hW)
  have hgl : g = true → _ := fun e => graph_len (hg.trans e)
  have hinc : g = true → _ := fun e => graph_inc (hg.trans e)
  rw [hg] at hnet
  have hrow0 : ∀ i, i < d0.len! → HasRow 4 (d0.at! i) := by
    obtain ⟨len0, f0, hd0, HR0⟩ := H0.list
    rw [hd0]
    exact HR0
  have hrow1 : ∀ i, i < d1.len! → HasRow 5 (d1.at! i) := by
    obtain ⟨len1, f1, hd1, HR1⟩ := H1.list
    rw [hd1]
    exact HR1
  have hd0' : Hid (d0 = .list 3 d0.len! d0.at!) := by
    obtain ⟨len0, f0, hd0, HR0⟩ := H0.list
    show d0 = _
    rw [hd0]
    rfl
  have hd1' : Hid (d1 = .list 5 d1.len! d1.at!) := by
    obtain ⟨len1, f1, hd1, HR1⟩ := H1.list
    show d1 = _
    rw [hd1]
    rfl
  obtain ⟨a0, cap0, l0, _, hq0, rfl, _, _⟩ := list_shape H0 h0
  obtain ⟨a1, cap1, l1, _, hq1, rfl, _, _⟩ := list_shape H1 h1
  clear hq0 hq1 h0 h1
  obtain ⟨Wb, hWb⟩ : ∃ Wb, Wb = (w.alloc (.cells #[.slice a0 l0 cap0, .slice a1 l1 cap1, .int .i64 x2, .int .i64 x3] 30)).alloc (.cells #[.slice none 0 0, .slice none 0 0, .int .i64 0, .int .i64 0] 30) := ⟨_, rfl⟩
  obtain ⟨gb, hgb⟩ : ∃ m, m = w.heap.size := ⟨_, rfl⟩
  have hEw : Ext w Wb := by rw [hWb]; exact ((Ext.refl _).alloc _).alloc _
  have hzb : Wb.heap.size ≤ gb + 2 := by rw [hWb, hgb]; simp
  have hzb2 : gb + 2 ≤ Wb.heap.size := by rw [hWb, hgb]; simp
  have hblk0 : Wb.heap[gb]? = some (.cells #[.slice a0 l0 cap0, .slice a1 l1 cap1, .int .i64 x2, .int .i64 x3] 30 (0, 0)) := by
    rw [hWb, Below.block ((Ext.refl _).alloc _) _ (by rw [hgb]; simp), hgb]
    exact heap_alloc_new w _
  have hblk1 : Wb.heap[gb + 1]? = some (.cells #[.slice none 0 0, .slice none 0 0, .int .i64 0, .int .i64 0] 30 (0, 0)) := by
    have := heap_alloc_new (w.alloc (.cells #[.slice a0 l0 cap0, .slice a1 l1 cap1, .int .i64 x2, .int .i64 x3] 30)) (.cells #[.slice none 0 0, .slice none 0 0, .int .i64 0, .int .i64 0] 30)
    rw [World.size_alloc] at this
    rw [hWb, hgb]
    exact this
  have hbx : ∀ W : World, W.heap[gb]? = Wb.heap[gb]? → W.heap[gb + 1]? = Wb.heap[gb + 1]? → (W.cell? ⟨gb, 0, none⟩ = some (.slice a0 l0 cap0) ∧ W.cell? ⟨gb, 1, none⟩ = some (.slice a1 l1 cap1) ∧ W.cell? ⟨gb, 2, none⟩ = some (.int .i64 x2) ∧ W.cell? ⟨gb, 3, none⟩ = some (.int .i64 x3)) ∧ (W.cell? ⟨gb + 1, 0, none⟩ = some (.slice none 0 0) ∧ W.cell? ⟨gb + 1, 1, none⟩ = some (.slice none 0 0) ∧ W.cell? ⟨gb + 1, 2, none⟩ = some (.int .i64 0) ∧ W.cell? ⟨gb + 1, 3, none⟩ = some (.int .i64 0)) ∧ (∀ o, W.frozen? ⟨gb + 1, o, none⟩ = false) := fun W h1 h2 => by
    rw [hblk0] at h1
    rw [hblk1] at h2
    refine ⟨⟨?_, ?_, ?_, ?_⟩, ⟨?_, ?_, ?_, ?_⟩, fun o => ?_⟩
    all_goals first | (simp [World.cell?, h1]; done) | (simp [World.cell?, h2]; done) | (simp [World.frozen?, h2]; done)
  have hk : ∀ W : World, Chg (fun x => Wb.heap.size ≤ x) Wb W → ∀ b, gb ≤ b → b < Wb.heap.size → W.heap[b]? = Wb.heap[b]? := fun W hW b _ h2 => hW.block b h2 (by omega)
  have hgb1 : gb ≤ w.heap.size := Nat.le_of_eq hgb
  have hgb2 : w.heap.size ≤ gb := Nat.le_of_eq hgb.symm
  clear hg
  have HB : Hid (∀ gg, edB gg d1 id = (gg && a.isSome)) := fun gg => by rw [edB, ha]
  have HD : Hid (edD1 true d1 id = edL d1 a) := edD1_eq ha
  obtain ⟨⟨p0, p1, p2, p3⟩, _⟩ := hbx Wb rfl rfl
  go_enter Tryz.func7, Tryz.ntmps7
  go_wp2_with fail
  rw [← hWb, ← hgb]
  clear hWb hgb p0 p1 p2 p3
  refine (hnet Wb hEw).mono ?_
  rintro e w1 ⟨p, rfl, hyes, hE1⟩
  have hz1 := hE1.le
  have hC1 : Chg (fun x => Wb.heap.size ≤ x) Wb w1 := Chg.of_ext hE1
  cases g
  · obtain ⟨⟨p0, p1, p2, p3⟩, ⟨t0, t1, t2, t3⟩, tf⟩ := hbx w1 (hk w1 hC1 gb (by omega) (by omega)) (hk w1 hC1 (gb + 1) (by omega) (by omega))
    have tf0 := tf 0
    have tf1 := tf 1
    have tf2 := tf 2
    have tf3 := tf 3
    have hCf : Chg (fun x => x = gb + 1) w1 ((((w1.setCell ⟨gb + 1, 0, none⟩ (.slice none 0 0)).setCell ⟨gb + 1, 1, none⟩ (.slice none 0 0)).setCell ⟨gb + 1, 2, none⟩ (.int .i64 0)).setCell ⟨gb + 1, 3, none⟩ (.int .i64 0)) := ((((Chg.refl (fun x => x = gb + 1) w1).setCell (p := ⟨gb + 1, 0, none⟩) rfl _).setCell (p := ⟨gb + 1, 1, none⟩) rfl _).setCell (p := ⟨gb + 1, 2, none⟩) rfl _).setCell (p := ⟨gb + 1, 3, none⟩) rfl _
    have hX : Hid (Ext w ((((w1.setCell ⟨gb + 1, 0, none⟩ (.slice none 0 0)).setCell ⟨gb + 1, 1, none⟩ (.slice none 0 0)).setCell ⟨gb + 1, 2, none⟩ (.int .i64 0)).setCell ⟨gb + 1, 3, none⟩ (.int .i64 0))) := hCf.toExt (hEw.trans hE1) (fun x hx => by omega)
    clear hCf hyes ha HB HD
    go_wp2
    refine bodyPost_ret (v := .tuple #[.agg #[.slice none 0 0, .slice none 0 0, .int .i64 0, .int .i64 0], .bool false]) (by simp [results, Tryz.results7, go_sem, t0, t1, t2, t3]) rfl ⟨_, _, rfl, ⟨fun _ => False, fun _ => False, ⟨(noneL_in 3 _ _).1, (noneL_in 3 _ _).2, fun x hx => hx.elim⟩, ⟨(noneL_in 5 _ _).1, (noneL_in 5 _ _).2, fun x hx => hx.elim⟩, fun x hx => hx.elim⟩, hX.out⟩
  · obtain ⟨hl12, hl16, _, hx0, hx1⟩ := hgl rfl
    have hinc1 := hinc rfl
    clear hgl hinc
    obtain ⟨N, hp, hN, hF⟩ := hyes rfl
    clear hyes
    subst hp
    have hnn := hF.nn
    have hne := hF.ne
    subst hnn hne
    obtain ⟨mid, hm1, hrn, hre⟩ := hF.rows
    have hln := hF.ln
    have hle := hF.le
    have hkn := hF.kn
    have hke := hF.ke
    clear hF
    have hhi : mid ≤ w1.heap.size := by obtain ⟨P, hP⟩ := hrn; exact hP.1
    cases a with
    | none =>
      have hno := edK_none ha
      have hin : id ∉ N.keys .e := fun h => by
        obtain ⟨j, hj, e⟩ := List.mem_map.1 ((hke _).1 h)
        exact hno j (List.mem_range.1 hj) e
      have hdr := dropEdge_no w1 Wb.heap.size 100 N id hN zid hin
      have hB := (show Hid _ from HB.out true)
      have hD := (show Hid _ from HD.out)
      clear ha HB HD hin hno
      go_wp2_with fail
      refine hdr.mono ?_
      rintro e w2 ⟨rfl, hE2⟩
      clear hdr
      have hst := NStep.ext N hE2
      have hN2 := hN.ext hE2
      have hC2 : Chg (fun x => Wb.heap.size ≤ x) Wb w2 := hC1.trans (Chg.of_ext hE2)
      have hz2 := hE2.le
      have hbase2 : Wb.heap.size ≤ w2.heap.size := Nat.le_trans hz1 hz2
      have hgr := netGraph_any w2 Wb.heap.size _ Wb.heap.size _ _ N d0.at! d1.at! d0.len! d1.len! hN2 hrow0 hrow1 hln hle (fun i hi => (hkn _).2 (mem_ids hi)) (fun i hi => (hke _).2 (mem_ids hi)) (hrn.toS.step hst (fun _ _ => rfl)) (hre.toS.step hst (fun _ _ => rfl)) (fun x hx => hx.1) (fun x hx => by omega) hbase2 (fun x hx hx' => by omega) (by omega) (by omega)
      go_wp2_with fail
      refine hgr.mono ?_
      rintro e w3 ⟨u0, u1, rfl, hgo, hE3⟩
      clear hgr hrn hre hln hle hkn hke
      have hC3 : Chg (fun x => Wb.heap.size ≤ x) Wb w3 := hC2.trans (Chg.of_ext hE3)
      have hz3 := hE3.le
      rw [← hd0'.out, ← hd1'.out] at hgo
      obtain ⟨Q0, Q1, ⟨hD0, hO0, hq0⟩, ⟨hD1, hO1, hq1⟩, hdq⟩ := hgo
      obtain ⟨va, vcap, vl, _, hqa, hva, _, _⟩ := list_shape (r := 4) H0 hD0
      obtain ⟨ra, rcap, rl, _, hqb, hra, _, _⟩ := list_shape (r := 5) H1 hD1
      subst hva hra
      clear hqa hqb
      obtain ⟨⟨p0, p1, p2, p3⟩, ⟨t0, t1, t2, t3⟩, tf⟩ := hbx w3 (hk w3 hC3 gb (by omega) (by omega)) (hk w3 hC3 (gb + 1) (by omega) (by omega))
      have tf0 := tf 0
      have tf1 := tf 1
      have tf2 := tf 2
      have tf3 := tf 3
      clear tf p0 p1 p2 p3
      have hCf : Chg (fun x => x = gb + 1) w3 ((((w3.setCell ⟨gb + 1, 0, none⟩ (.slice va vl vcap)).setCell ⟨gb + 1, 1, none⟩ (.slice ra rl rcap)).setCell ⟨gb + 1, 2, none⟩ (.int .i64 N.nn)).setCell ⟨gb + 1, 3, none⟩ (.int .i64 N.ne)) := ((((Chg.refl (fun x => x = gb + 1) w3).setCell (p := ⟨gb + 1, 0, none⟩) rfl _).setCell (p := ⟨gb + 1, 1, none⟩) rfl _).setCell (p := ⟨gb + 1, 2, none⟩) rfl _).setCell (p := ⟨gb + 1, 3, none⟩) rfl _
      have hX : Hid _ := And.intro (show GraphOwn ((((w3.setCell ⟨gb + 1, 0, none⟩ (.slice va vl vcap)).setCell ⟨gb + 1, 1, none⟩ (.slice ra rl rcap)).setCell ⟨gb + 1, 2, none⟩ (.int .i64 N.nn)).setCell ⟨gb + 1, 3, none⟩ (.int .i64 N.ne)) gb d0 d1 (.slice va vl vcap) (.slice ra rl rcap) from ⟨Q0, Q1, ⟨hD0.carry hCf.size (fun b hb hl => hCf.block b hl (by have := hq0 b hb; omega)), hO0.carry hCf.size (fun b hb hl => hCf.block b hl (by have := hq0 b hb; omega)), fun x hx => by have := hq0 x hx; simp only [World.size_setCell]; omega⟩, ⟨hD1.carry hCf.size (fun b hb hl => hCf.block b hl (by have := hq1 b hb; omega)), hO1.carry hCf.size (fun b hb hl => hCf.block b hl (by have := hq1 b hb; omega)), fun x hx => by have := hq1 x hx; simp only [World.size_setCell]; omega⟩, hdq⟩) (hCf.toExt (hC3.toExt hEw (fun x hx => by omega)) (fun x hx => by omega))
      have hgbw : Hid (gb = w.heap.size) := by show _ = _; omega
      clear hCf hD0 hO0 hD1 hO1
      go_wp2
      refine bodyPost_ret (v := .tuple #[.agg #[.slice va vl vcap, .slice ra rl rcap, .int .i64 N.nn, .int .i64 N.ne], .bool false]) (by simp [results, Tryz.results7, go_sem, t0, t1, t2, t3]) rfl ⟨_, _, (by rw [hB.out]; rfl), ?_, hX.out.2⟩
      rw [← hgbw.out, hD.out]
      exact hX.out.1
    | some k =>
      obtain ⟨hkl, hkid, _⟩ := edK_some ha
      obtain ⟨z, s, x, y, aa, ll, cc, hval, xwf, ywf, _⟩ := hre.toS.edge hkl (hrow1 k hkl)
      rw [hkid] at hval
      have hin : id ∈ N.keys .e := (hke _).2 (by rw [← hkid]; exact mem_ids hkl)
      have hdr := dropEdge_any w1 Wb.heap.size 100 N id z x y s aa ll cc hN zid xwf ywf hin hval
      have hB := (show Hid _ from HB.out true)
      have hD := (show Hid _ from HD.out)
      have hnd := ids_nodup hinc1
      have hat : (idsOf d1.at! d1.len!)[k]? = some id := by unfold idsOf; rw [List.getElem?_map, List.getElem?_range hkl]; exact congrArg some hkid
      clear ha HB HD hin hval
      go_wp2_with fail
      refine hdr.mono ?_
      rintro e w2 ⟨q1, q2, q3, _, hN2, hst⟩
      clear hdr
      have hC2 : Chg (fun x => Wb.heap.size ≤ x) Wb w2 := hC1.trans (hst.chg.mono (fun x hx => (NetR.lt hN hx).1))
      have hz2 := hst.chg.size
      have hbase2 : Wb.heap.size ≤ w2.heap.size := Nat.le_trans hz1 hz2
      have hln2 := (dropN_ln N id x y q1 q2 q3).trans hln
      have hle2 := dropN_le N id x y q1 q2 q3
      rw [hle, less_at hnd hat, ← ids_drop hkl] at hle2
      have hke2 : ∀ i, i < d1.len! - 1 → (dropF d1.at! k i 0).int! ∈ (dropN N id x y q1 q2 q3).keys .e := fun i hi => by
        have hm : (dropF d1.at! k i 0).int! ∈ less (idsOf d1.at! d1.len!) id := by rw [less_at hnd hat, ← ids_drop hkl]; exact mem_ids hi
        rw [dropN_ke, mem_less]
        exact ⟨(hke _).2 ((mem_less _ _ _).1 hm).1, ((mem_less _ _ _).1 hm).2⟩
      have hkn2 : ∀ i, i < d0.len! → (d0.at! i 0).int! ∈ (dropN N id x y q1 q2 q3).keys .n := fun i hi => by rw [dropN_kn]; exact (hkn _).2 (mem_ids hi)
      have hgr := netGraph_any w2 Wb.heap.size _ Wb.heap.size _ _ (dropN N id x y q1 q2 q3) d0.at! (dropF d1.at! k) d0.len! (d1.len! - 1) hN2 hrow0 (dropF_row hkl hrow1) hln2 hle2 hkn2 hke2 (hrn.toS.step hst (fun _ _ => by rw [dropN_vn])) ((hre.toS.step hst (fun _ _ => by rw [dropN_ve])).drop hkl) (fun x hx => hx.1) (fun x hx => by omega) hbase2 (fun x hx hx' => by omega) (by omega) (by omega)
      obtain ⟨hnb2, hnn2, hne2⟩ := dropN_nn N id x y q1 q2 q3
      rw [hnb2, hnn2, hne2] at hgr
      have H1' : Has (.list 5 (d1.len! - 1) (dropF d1.at! k)) (.list 5) := ⟨5, rfl, rfl, fun i hi j hj => dropF_row hkl hrow1 i hi j hj⟩
      clear hnb2 hnn2 hne2 hln2 hle2 hkn2 hke2 hnd hat
      go_wp2_with fail
      refine hgr.mono ?_
      rintro e w3 ⟨u0, u1, rfl, hgo, hE3⟩
      clear hgr hrn hre hln hle hkn hke
      have hC3 : Chg (fun x => Wb.heap.size ≤ x) Wb w3 := hC2.trans (Chg.of_ext hE3)
      have hz3 := hE3.le
      rw [← hd0'.out] at hgo
      obtain ⟨Q0, Q1, ⟨hD0, hO0, hq0⟩, ⟨hD1, hO1, hq1⟩, hdq⟩ := hgo
      obtain ⟨va, vcap, vl, _, hqa, hva, _, _⟩ := list_shape (r := 4) H0 hD0
      obtain ⟨ra, rcap, rl, _, hqb, hra, _, _⟩ := list_shape (r := 5) H1' hD1
      subst hva hra
      clear hqa hqb
      obtain ⟨⟨p0, p1, p2, p3⟩, ⟨t0, t1, t2, t3⟩, tf⟩ := hbx w3 (hk w3 hC3 gb (by omega) (by omega)) (hk w3 hC3 (gb + 1) (by omega) (by omega))
      have tf0 := tf 0
      have tf1 := tf 1
      have tf2 := tf 2
      have tf3 := tf 3
      clear tf p0 p1 p2 p3
      have hCf : Chg (fun x => x = gb + 1) w3 ((((w3.setCell ⟨gb + 1, 0, none⟩ (.slice va vl vcap)).setCell ⟨gb + 1, 1, none⟩ (.slice ra rl rcap)).setCell ⟨gb + 1, 2, none⟩ (.int .i64 N.nn)).setCell ⟨gb + 1, 3, none⟩ (.int .i64 N.ne)) := ((((Chg.refl (fun x => x = gb + 1) w3).setCell (p := ⟨gb + 1, 0, none⟩) rfl _).setCell (p := ⟨gb + 1, 1, none⟩) rfl _).setCell (p := ⟨gb + 1, 2, none⟩) rfl _).setCell (p := ⟨gb + 1, 3, none⟩) rfl _
      have hX : Hid _ := And.intro (show GraphOwn ((((w3.setCell ⟨gb + 1, 0, none⟩ (.slice va vl vcap)).setCell ⟨gb + 1, 1, none⟩ (.slice ra rl rcap)).setCell ⟨gb + 1, 2, none⟩ (.int .i64 N.nn)).setCell ⟨gb + 1, 3, none⟩ (.int .i64 N.ne)) gb d0 (.list 5 (d1.len! - 1) (dropF d1.at! k)) (.slice va vl vcap) (.slice ra rl rcap) from ⟨Q0, Q1, ⟨hD0.carry hCf.size (fun b hb hl => hCf.block b hl (by have := hq0 b hb; omega)), hO0.carry hCf.size (fun b hb hl => hCf.block b hl (by have := hq0 b hb; omega)), fun x hx => by have := hq0 x hx; simp only [World.size_setCell]; omega⟩, ⟨hD1.carry hCf.size (fun b hb hl => hCf.block b hl (by have := hq1 b hb; omega)), hO1.carry hCf.size (fun b hb hl => hCf.block b hl (by have := hq1 b hb; omega)), fun x hx => by have := hq1 x hx; simp only [World.size_setCell]; omega⟩, hdq⟩) (hCf.toExt (hC3.toExt hEw (fun x hx => by omega)) (fun x hx => by omega))
      have hgbw : Hid (gb = w.heap.size) := by show _ = _; omega
      clear hCf hD0 hO0 hD1 hO1
      go_wp2
      refine bodyPost_ret (v := .tuple #[.agg #[.slice va vl vcap, .slice ra rl rcap, .int .i64 N.nn, .int .i64 N.ne], .bool true]) (by simp [results, Tryz.results7, go_sem, t0, t1, t2, t3]) rfl ⟨_, _, (by rw [hB.out]; rfl), ?_, hX.out.2⟩
      rw [← hgbw.out, hD.out]
      exact hX.out.1
end Go.Proofs.YtacghifhhlgidaaGreat

/- What spec.EdgeDrop answers. -/
namespace Go.Proofs.YtacghifhhlgidaaGreat
open Go.RowKit Go.Deep

/-- The place of an edge, as it is told. -/
def edI (a : Option Nat) : Int := match a with | some k => k | none => -1
theorem edI_eq {d1 : D} {id : Int} {a : Option Nat} (h : edK d1 id = a) : findI (fun i => (d1.at! i 0).int! == id) d1.len! = edI a := by subst h; rfl

set_option maxRecDepth 100000 in
set_option maxHeartbeats 8000000 in
theorem specEdgeDrop_any (S : Nat → Prop) (d0 d1 : D) (id : Int) (c0 c1 : Value) (x2 x3 : Int) (w : World) (H0 : Has d0 (.list 4)) (h0 : DIn S w d0 c0) (s0 : SmallD d0) (H1 : Has d1 (.list 5)) (h1 : DIn S w d1 c1) (s1 : SmallD d1) (g : Bool) (hg : graphB d0 d1 x2 x3 = g) (a : Option Nat) (ha : edK d1 id = a) :
    Calls Tryz.prog 5 #[.agg #[c0, c1, .int .i64 x2, .int .i64 x3], .int .i64 id] w fun e w' => ∃ u0 u1, e = .returned (.tuple #[.agg #[u0, u1, .int .i64 (edX g x2), .int .i64 (edX g x3)], .bool (edB g d1 id)]) ∧ DIn (New w.heap.size w'.heap.size) w' (edD0 g d0) u0 ∧ DIn (New w.heap.size w'.heap.size) w' (edD1 g d1 id) u1 ∧ Ext w w' := by
  have hok := fun (W : World) (hW : Ext w W) => specGraphOk_any S d0 d1 c0 c1 x2 x3 W H0 (h0.ext hW) H1 (h1.ext hW)
  have hcp := fun (W : World) (hW : Ext w W) => l2Copy_both S d0 d1 c0 c1 x2 x3 W H0 (h0.ext hW) s0 H1 (h1.ext hW) s1
  have hed := fun (W : World) (hW : Ext w W) (hc : ∃ a l c, c0 = .slice a l c) => l2Edge_any S d1 c0 c1 x2 x3 id W H1 (h1.ext hW) hc
  have hfi : findI (fun i => (d1.at! i 0).int! == id) d1.len! = edI a := edI_eq ha
  rw [hfi] at hed
  have hgl : g = true → _ := fun e => graph_len (hg.trans e)
  have hinc : g = true → _ := fun e => graph_inc (hg.trans e)
  rw [hg] at hok
  have hd0' : Hid (d0 = .list 3 d0.len! d0.at!) := by
    obtain ⟨len0, f0, hd0, HR0⟩ := H0.list
    show d0 = _
    rw [hd0]
    rfl
  have hd1' : Hid (d1 = .list 5 d1.len! d1.at!) := by
    obtain ⟨len1, f1, hd1, HR1⟩ := H1.list
    show d1 = _
    rw [hd1]
    rfl
  obtain ⟨a0, cap0, l0, _, hq0, rfl, _, _⟩ := list_shape H0 h0
  obtain ⟨a1, cap1, l1, _, hq1, rfl, _, _⟩ := list_shape H1 h1
  clear hq0 hq1
  obtain ⟨Wb, hWb⟩ : ∃ Wb, Wb = (w.alloc (.cells #[.slice a0 l0 cap0, .slice a1 l1 cap1, .int .i64 x2, .int .i64 x3] 30)).alloc (.cells #[.slice none 0 0, .slice none 0 0, .int .i64 0, .int .i64 0] 30) := ⟨_, rfl⟩
  obtain ⟨gb, hgb⟩ : ∃ m, m = w.heap.size := ⟨_, rfl⟩
  have hEw : Ext w Wb := by rw [hWb]; exact ((Ext.refl _).alloc _).alloc _
  have hzb : Wb.heap.size ≤ gb + 2 := by rw [hWb, hgb]; simp
  have hzb2 : gb + 2 ≤ Wb.heap.size := by rw [hWb, hgb]; simp
  have hblk0 : Wb.heap[gb]? = some (.cells #[.slice a0 l0 cap0, .slice a1 l1 cap1, .int .i64 x2, .int .i64 x3] 30 (0, 0)) := by
    rw [hWb, Below.block ((Ext.refl _).alloc _) _ (by rw [hgb]; simp), hgb]
    exact heap_alloc_new w _
  have hblk1 : Wb.heap[gb + 1]? = some (.cells #[.slice none 0 0, .slice none 0 0, .int .i64 0, .int .i64 0] 30 (0, 0)) := by
    have := heap_alloc_new (w.alloc (.cells #[.slice a0 l0 cap0, .slice a1 l1 cap1, .int .i64 x2, .int .i64 x3] 30)) (.cells #[.slice none 0 0, .slice none 0 0, .int .i64 0, .int .i64 0] 30)
    rw [World.size_alloc] at this
    rw [hWb, hgb]
    exact this
  have hbx : ∀ W : World, W.heap[gb]? = Wb.heap[gb]? → W.heap[gb + 1]? = Wb.heap[gb + 1]? → (W.cell? ⟨gb, 0, none⟩ = some (.slice a0 l0 cap0) ∧ W.cell? ⟨gb, 1, none⟩ = some (.slice a1 l1 cap1) ∧ W.cell? ⟨gb, 2, none⟩ = some (.int .i64 x2) ∧ W.cell? ⟨gb, 3, none⟩ = some (.int .i64 x3)) ∧ (W.cell? ⟨gb + 1, 0, none⟩ = some (.slice none 0 0) ∧ W.cell? ⟨gb + 1, 1, none⟩ = some (.slice none 0 0) ∧ W.cell? ⟨gb + 1, 2, none⟩ = some (.int .i64 0) ∧ W.cell? ⟨gb + 1, 3, none⟩ = some (.int .i64 0)) ∧ (∀ o, W.frozen? ⟨gb + 1, o, none⟩ = false) := fun W h1 h2 => by
    rw [hblk0] at h1
    rw [hblk1] at h2
    refine ⟨⟨?_, ?_, ?_, ?_⟩, ⟨?_, ?_, ?_, ?_⟩, fun o => ?_⟩
    all_goals first | (simp [World.cell?, h1]; done) | (simp [World.cell?, h2]; done) | (simp [World.frozen?, h2]; done)
  have hbW : ∀ W : World, Ext Wb W → (W.cell? ⟨gb, 0, none⟩ = some (.slice a0 l0 cap0) ∧ W.cell? ⟨gb, 1, none⟩ = some (.slice a1 l1 cap1) ∧ W.cell? ⟨gb, 2, none⟩ = some (.int .i64 x2) ∧ W.cell? ⟨gb, 3, none⟩ = some (.int .i64 x3)) ∧ (W.cell? ⟨gb + 1, 0, none⟩ = some (.slice none 0 0) ∧ W.cell? ⟨gb + 1, 1, none⟩ = some (.slice none 0 0) ∧ W.cell? ⟨gb + 1, 2, none⟩ = some (.int .i64 0) ∧ W.cell? ⟨gb + 1, 3, none⟩ = some (.int .i64 0)) ∧ (∀ o, W.frozen? ⟨gb + 1, o, none⟩ = false) := fun W hW => hbx W (Below.block hW _ (by omega)) (Below.block hW _ (by omega))
  have hgb1 : gb ≤ w.heap.size := Nat.le_of_eq hgb
  have hgb2 : w.heap.size ≤ gb := Nat.le_of_eq hgb.symm
  clear hg
  clear hfi
  have HB : Hid (∀ gg, edB gg d1 id = (gg && a.isSome)) := fun gg => by rw [edB, ha]
  have HD : Hid (edD1 true d1 id = edL d1 a) := edD1_eq ha
  obtain ⟨⟨p0, p1, p2, p3⟩, _⟩ := hbW Wb (Ext.refl _)
  go_enter Tryz.func5, Tryz.ntmps5
  go_wp2_with fail
  rw [← hWb, ← hgb]
  clear hWb hgb p0 p1 p2 p3
  refine (hok Wb hEw).mono ?_
  rintro e w1 ⟨rfl, hE1⟩
  have hz1 := hE1.le
  cases g
  · obtain ⟨⟨p0, p1, p2, p3⟩, ⟨t0, t1, t2, t3⟩, tf⟩ := hbW w1 hE1
    have tf0 := tf 0
    have tf1 := tf 1
    have tf2 := tf 2
    have tf3 := tf 3
    have hCf : Chg (fun x => x = gb + 1) w1 ((((w1.setCell ⟨gb + 1, 0, none⟩ (.slice none 0 0)).setCell ⟨gb + 1, 1, none⟩ (.slice none 0 0)).setCell ⟨gb + 1, 2, none⟩ (.int .i64 0)).setCell ⟨gb + 1, 3, none⟩ (.int .i64 0)) := ((((Chg.refl (fun x => x = gb + 1) w1).setCell (p := ⟨gb + 1, 0, none⟩) rfl _).setCell (p := ⟨gb + 1, 1, none⟩) rfl _).setCell (p := ⟨gb + 1, 2, none⟩) rfl _).setCell (p := ⟨gb + 1, 3, none⟩) rfl _
    have hX : Hid (Ext w ((((w1.setCell ⟨gb + 1, 0, none⟩ (.slice none 0 0)).setCell ⟨gb + 1, 1, none⟩ (.slice none 0 0)).setCell ⟨gb + 1, 2, none⟩ (.int .i64 0)).setCell ⟨gb + 1, 3, none⟩ (.int .i64 0))) := hCf.toExt (hEw.trans hE1) (fun x hx => by omega)
    clear hCf ha HD HB
    go_wp2
    refine bodyPost_ret (v := .tuple #[.agg #[.slice none 0 0, .slice none 0 0, .int .i64 0, .int .i64 0], .bool false]) (by simp [results, Tryz.results5, go_sem, t0, t1, t2, t3]) rfl ⟨_, _, rfl, (noneL_in 3 _ _).1, (noneL_in 5 _ _).1, hX.out⟩
  · obtain ⟨hl12, hl16, _, hx0, hx1⟩ := hgl rfl
    have hinc1 := hinc rfl
    clear hgl hinc
    obtain ⟨⟨p0, p1, p2, p3⟩, ⟨t0, t1, t2, t3⟩, tf⟩ := hbW w1 hE1
    have hed1 := hed w1 (hEw.trans hE1) ⟨_, _, _, rfl⟩
    have hB := (show Hid _ from HB.out true)
    have hD := (show Hid _ from HD.out)
    clear HB HD hed
    cases a with
    | none =>
      clear ha
      rw [show edI none = (-1 : Int) from rfl] at hed1
      go_wp2_with fail
      refine hed1.mono ?_
      rintro e w2 ⟨rfl, hE2⟩
      clear hed1 p0 p1 p2 p3 t0 t1 t2 t3 tf
      have hE12 := hE1.trans hE2
      have hz2 := hE2.le
      obtain ⟨⟨p0, p1, p2, p3⟩, ⟨t0, t1, t2, t3⟩, tf⟩ := hbW w2 hE12
      go_wp2_with fail
      refine (hcp w2 (hEw.trans hE12)).mono ?_
      rintro e w3 ⟨u0, u1, cs, ds, b0, b1, S0, S1, rfl, hb01, hb02, hGn, hb12, hGr, hS0, hS1, hE3⟩
      clear hcp p0 p1 p2 p3 t0 t1 t2 t3 tf
      have hz3 := hE3.le
      have hD0 := (hGn.end (by unfold maxLen; omega)).1
      have hD1 := (hGr.end (by unfold maxLen; omega)).1
      rw [← hd0'.out] at hD0
      rw [← hd1'.out] at hD1
      have hS0l := hGn.2.2.1
      have z0 : ∀ x, S0 x → w2.heap.size ≤ x ∧ x < w3.heap.size := fun x hx => ⟨hS0 x hx, hS0l x hx⟩
      have z1 : ∀ x, S1 x → w2.heap.size ≤ x ∧ x < w3.heap.size := fun x hx => ⟨(hS1 x hx).1, (hS1 x hx).2.1⟩
      obtain ⟨va, vcap, vl, _, hqr, rfl, _, _⟩ := list_shape H0 hD0
      clear hqr
      obtain ⟨ra, rcap, rl, _, hqr, rfl, _, _⟩ := list_shape H1 hD1
      clear hqr hGn hGr hS0 hS1 hS0l
      have hEf := hE12.trans hE3
      obtain ⟨⟨p0, p1, p2, p3⟩, ⟨t0, t1, t2, t3⟩, tf⟩ := hbW w3 hEf
      have tf0 := tf 0
      have tf1 := tf 1
      have tf2 := tf 2
      have tf3 := tf 3
      have hCf : Chg (fun x => x = gb + 1) w3 ((((w3.setCell ⟨gb + 1, 0, none⟩ (.slice va vl vcap)).setCell ⟨gb + 1, 1, none⟩ (.slice ra rl rcap)).setCell ⟨gb + 1, 2, none⟩ (.int .i64 x2)).setCell ⟨gb + 1, 3, none⟩ (.int .i64 x3)) := ((((Chg.refl (fun x => x = gb + 1) w3).setCell (p := ⟨gb + 1, 0, none⟩) rfl _).setCell (p := ⟨gb + 1, 1, none⟩) rfl _).setCell (p := ⟨gb + 1, 2, none⟩) rfl _).setCell (p := ⟨gb + 1, 3, none⟩) rfl _
      have hX : Hid _ := And.intro (And.intro ((hD0.carry hCf.size (fun b hb hl => hCf.block b hl (by have := z0 b hb; omega))).mono (S' := New gb (((((w3.setCell ⟨gb + 1, 0, none⟩ (.slice va vl vcap)).setCell ⟨gb + 1, 1, none⟩ (.slice ra rl rcap)).setCell ⟨gb + 1, 2, none⟩ (.int .i64 x2)).setCell ⟨gb + 1, 3, none⟩ (.int .i64 x3))).heap.size) (fun x hx => ⟨by have := z0 x hx; omega, by have := z0 x hx; simp only [World.size_setCell]; omega⟩)) ((hD1.carry hCf.size (fun b hb hl => hCf.block b hl (by have := z1 b hb; omega))).mono (S' := New gb (((((w3.setCell ⟨gb + 1, 0, none⟩ (.slice va vl vcap)).setCell ⟨gb + 1, 1, none⟩ (.slice ra rl rcap)).setCell ⟨gb + 1, 2, none⟩ (.int .i64 x2)).setCell ⟨gb + 1, 3, none⟩ (.int .i64 x3))).heap.size) (fun x hx => ⟨by have := z1 x hx; omega, by have := z1 x hx; simp only [World.size_setCell]; omega⟩))) (hCf.toExt (hEw.trans hEf) (fun x hx => by omega))
      have hgbw : Hid (gb = w.heap.size) := by show _ = _; omega
      clear hCf hD0 hD1 tf
      go_wp2
      refine bodyPost_ret (v := .tuple #[.agg #[.slice va vl vcap, .slice ra rl rcap, .int .i64 x2, .int .i64 x3], .bool false]) (by simp [results, Tryz.results5, go_sem, t0, t1, t2, t3]) rfl ⟨_, _, by rw [hB.out]; rfl, ?_, ?_, hX.out.2⟩
      · rw [← hgbw.out]; exact hX.out.1.1
      · rw [← hgbw.out, hD.out]; exact hX.out.1.2
    | some k =>
      have hkn : ¬ (k : Int) < 0 := by omega
      rw [show edI (some k) = (k : Int) from rfl] at hed1
      go_wp2_with fail
      refine hed1.mono ?_
      rintro e w2 ⟨rfl, hE2⟩
      clear hed1 p0 p1 p2 p3 t0 t1 t2 t3 tf
      have hE12 := hE1.trans hE2
      have hz2 := hE2.le
      obtain ⟨⟨p0, p1, p2, p3⟩, ⟨t0, t1, t2, t3⟩, tf⟩ := hbW w2 hE12
      go_wp2_with fail
      refine (hcp w2 (hEw.trans hE12)).mono ?_
      rintro e w3 ⟨u0, u1, cs, ds, b0, b1, S0, S1, rfl, hb01, hb02, hGn, hb12, hGr, hS0, hS1, hE3⟩
      clear hcp p0 p1 p2 p3 t0 t1 t2 t3 tf
      have hz3 := hE3.le
      have hD0 := (hGn.end (by unfold maxLen; omega)).1
      have hD1' := (hGr.end (by unfold maxLen; omega)).1
      rw [← hd0'.out] at hD0
      rw [← hd1'.out] at hD1'
      have hS0l := hGn.2.2.1
      have z1' : ∀ x, S1 x → w2.heap.size ≤ x ∧ x < w3.heap.size := fun x hx => ⟨(hS1 x hx).1, (hS1 x hx).2.1⟩
      obtain ⟨va, vcap, vl, _, hqr, rfl, _, _⟩ := list_shape H0 hD0
      clear hqr
      have hdr := l2DropEdge_any S1 d1 id k _ u1 x2 x3 w3 H1 hD1' (fun x hx => (z1' x hx).2) ha hinc1 ⟨va, vl, vcap, rfl⟩ hl16
      obtain ⟨ra, rcap, rl, _, hqr, rfl, _, _⟩ := list_shape H1 hD1'
      clear hqr hGn hGr hS1 ha
      go_wp2_with fail
      refine hdr.mono ?_
      rintro e w4 ⟨v1, rfl, hD1, hE4⟩
      clear hdr hD1'
      have hz4 := hE4.le
      replace hD0 := hD0.ext hE4
      have z0 : ∀ x, S0 x → w2.heap.size ≤ x ∧ x < w4.heap.size := fun x hx => ⟨hS0 x hx, by have := hS0l x hx; omega⟩
      have z1 : ∀ x, (S1 x ∨ w3.heap.size ≤ x ∧ x < w4.heap.size) → w2.heap.size ≤ x ∧ x < w4.heap.size := fun x hx => hx.elim (fun h => by have := z1' x h; omega) (fun h => by omega)
      obtain ⟨ya, ycap, rfl, _⟩ := hD1.list_eq
      clear hS0 hS0l z1'
      have hEf := (hE12.trans hE3).trans hE4
      obtain ⟨⟨p0, p1, p2, p3⟩, ⟨t0, t1, t2, t3⟩, tf⟩ := hbW w4 hEf
      have tf0 := tf 0
      have tf1 := tf 1
      have tf2 := tf 2
      have tf3 := tf 3
      have hCf : Chg (fun x => x = gb + 1) w4 ((((w4.setCell ⟨gb + 1, 0, none⟩ (.slice va vl vcap)).setCell ⟨gb + 1, 1, none⟩ (.slice ya (d1.len! - 1) ycap)).setCell ⟨gb + 1, 2, none⟩ (.int .i64 x2)).setCell ⟨gb + 1, 3, none⟩ (.int .i64 x3)) := ((((Chg.refl (fun x => x = gb + 1) w4).setCell (p := ⟨gb + 1, 0, none⟩) rfl _).setCell (p := ⟨gb + 1, 1, none⟩) rfl _).setCell (p := ⟨gb + 1, 2, none⟩) rfl _).setCell (p := ⟨gb + 1, 3, none⟩) rfl _
      have hX : Hid _ := And.intro (And.intro ((hD0.carry hCf.size (fun b hb hl => hCf.block b hl (by have := z0 b hb; omega))).mono (S' := New gb (((((w4.setCell ⟨gb + 1, 0, none⟩ (.slice va vl vcap)).setCell ⟨gb + 1, 1, none⟩ (.slice ya (d1.len! - 1) ycap)).setCell ⟨gb + 1, 2, none⟩ (.int .i64 x2)).setCell ⟨gb + 1, 3, none⟩ (.int .i64 x3))).heap.size) (fun x hx => ⟨by have := z0 x hx; omega, by have := z0 x hx; simp only [World.size_setCell]; omega⟩)) ((hD1.carry hCf.size (fun b hb hl => hCf.block b hl (by have := z1 b hb; omega))).mono (S' := New gb (((((w4.setCell ⟨gb + 1, 0, none⟩ (.slice va vl vcap)).setCell ⟨gb + 1, 1, none⟩ (.slice ya (d1.len! - 1) ycap)).setCell ⟨gb + 1, 2, none⟩ (.int .i64 x2)).setCell ⟨gb + 1, 3, none⟩ (.int .i64 x3))).heap.size) (fun x hx => ⟨by have := z1 x hx; omega, by have := z1 x hx; simp only [World.size_setCell]; omega⟩))) (hCf.toExt (hEw.trans hEf) (fun x hx => by omega))
      have hgbw : Hid (gb = w.heap.size) := by show _ = _; omega
      clear hCf hD0 hD1 tf
      go_wp2
      refine bodyPost_ret (v := .tuple #[.agg #[.slice va vl vcap, .slice ya (d1.len! - 1) ycap, .int .i64 x2, .int .i64 x3], .bool true]) (by simp [results, Tryz.results5, go_sem, t0, t1, t2, t3]) rfl ⟨_, _, by rw [hB.out]; rfl, ?_, ?_, hX.out.2⟩
      · rw [← hgbw.out]; exact hX.out.1.1
      · rw [← hgbw.out, hD.out]; exact hX.out.1.2
end Go.Proofs.YtacghifhhlgidaaGreat
