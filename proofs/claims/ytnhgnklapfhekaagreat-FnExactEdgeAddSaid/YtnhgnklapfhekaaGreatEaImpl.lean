/- What impl.EdgeAdd answers. -/
import Derived.Test.YtnhgnklapfhekaaGreatNeG
namespace Go.Proofs.YtnhgnklapfhekaaGreat
open Go.RowKit Go.Deep

theorem DIn.low {S : Nat → Prop} {w : World} : ∀ {d : D} {v : Value}, DIn S w d v → DIn (fun b => b < w.heap.size) w d v := by
  intro d
  induction d with
  | int n => exact fun h => h
  | bool b => exact fun h => h
  | str s => exact fun h => h
  | list n len f ih =>
    rintro v ⟨a, cap, b, off, hv, hl, ha, hc⟩
    refine ⟨a, cap, b, off, hv, hl, fun h0 => ⟨(ha h0).1, (ha h0).2.2, (ha h0).2.2⟩, fun i hi j hj => ?_⟩
    obtain ⟨c, h1, h2⟩ := hc i hi j hj
    exact ⟨c, h1, ih i j h2⟩
theorem edge_lt {d0 d1 : D} {x2 x3 : Int} (h : graphB d0 d1 x2 x3 = true) : ∀ i, i < d1.len! → (d1.at! i 0).int! < x3 := by
  intro i hi
  have hx := (graph_len h).2.2.2
  simp only [graphB, Bool.and_eq_true, List.all_eq_true, List.mem_range] at h
  have hn := h.1.2 i hi
  simp only [edgeB, Bool.and_eq_true, inB] at hn
  have hw : IntKind.i64.wrap (x3 - 1) = x3 - 1 := wrap_i64 (by omega) (by omega)
  rw [hw] at hn
  have := hn.1.1.1.1.1
  simp at this
  omega
theorem ids_below {f : Nat → Nat → D} {len : Nat} {x : Int} (h0 : 0 ≤ x) (h : ∀ i, i < len → (f i 0).int! < x) : (idsOf f len).getLast?.getD (-1) < x := by
  cases len with
  | zero => simp [idsOf]; omega
  | succ n =>
    have := h n (by omega)
    simpa [idsOf, List.range_succ] using this
theorem ids_addE {f : Nat → Nat → D} {len : Nat} {x : Int} {kind : ByteArray} {fr dst : Int} {dP : D} : idsOf (addFE f len x kind fr dst dP) (len + 1) = idsOf f len ++ [x] := by
  unfold idsOf
  rw [List.range_succ, List.map_append, List.map_singleton, addFE_at0]
  congr 1
  refine List.map_congr_left (fun i hi => ?_)
  rw [addFE_lt f len x kind fr dst dP (List.mem_range.1 hi)]
theorem mem_ids {f : Nat → Nat → D} {len i : Nat} (h : i < len) : (f i 0).int! ∈ idsOf f len := List.mem_map.2 ⟨i, List.mem_range.2 h, rfl⟩

set_option maxRecDepth 100000 in
set_option maxHeartbeats 8000000 in
theorem implEdgeAdd_any (S : Nat → Prop) (d0 d1 dP : D) (kind : ByteArray) (fr dst : Int) (c0 c1 cP : Value) (x2 x3 : Int) (w : World) (H0 : Has d0 (.list 4)) (h0 : DIn S w d0 c0) (H1 : Has d1 (.list 5)) (h1 : DIn S w d1 c1) (zk : kind.size ≤ maxLen) (zf : (Lit.int .i64 fr).wf = true) (zd : (Lit.int .i64 dst).wf = true) (HP : Has dP (.list 3)) (hP : DIn S w dP cP) (g a : Bool) (hg : graphB d0 d1 x2 x3 = g) (ha : addEB kind dP d0 fr dst d1.len! x3 = a) :
    Calls Tryz.prog 9 #[.agg #[c0, c1, .int .i64 x2, .int .i64 x3], .string kind, .int .i64 fr, .int .i64 dst, cP] w fun e w' => ∃ u0 u1, e = .returned (.tuple #[.agg #[u0, u1, .int .i64 (eaX2 g x2), .int .i64 (eaX3 g a x3)], .int .i64 (eaId g a x3), .bool (g && a)]) ∧ GraphOwn w' w.heap.size (eaD0 g d0) (eaD1 g a d1 x3 kind fr dst dP) u0 u1 ∧ Ext w w' := by
  have hnet := fun (W : World) (hW : Ext w W) => netOf_any S d0 d1 c0 c1 x2 x3 W H0 (h0.ext hW) H1 (h1.ext hW)
  have hgl : g = true → _ := fun e => graph_len (hg.trans e)
  have hnl : g = true → _ := fun e => edge_lt (hg.trans e)
  rw [hg] at hnet
  have hrow0 : ∀ i, i < d0.len! → HasRow 4 (d0.at! i) := by
    obtain ⟨len0, f0, hd0, HR0⟩ := H0.list
    rw [hd0]
    exact HR0
  have hrow1 : ∀ i, i < d1.len! → HasRow 5 (d1.at! i) := by
    obtain ⟨len1, f1, hd1, HR1⟩ := H1.list
    rw [hd1]
    exact HR1
  have hd0' : Hid (d0 = .list 3 d0.len! d0.at!) := by
    obtain ⟨len0, f0, hd0, HR0⟩ := H0.list
    show d0 = _
    rw [hd0]
    rfl
  have hd1' : Hid (d1 = .list 5 d1.len! d1.at!) := by
    obtain ⟨len1, f1, hd1, HR1⟩ := H1.list
    show d1 = _
    rw [hd1]
    rfl
  have hPl := hP.low
  obtain ⟨a0, cap0, l0, _, hq0, rfl, _, _⟩ := list_shape H0 h0
  obtain ⟨a1, cap1, l1, _, hq1, rfl, _, _⟩ := list_shape H1 h1
  obtain ⟨aP, capP, lP, _, hqP, rfl, _, _⟩ := list_shape HP hP
  clear hq0 hq1 hqP h0 h1 hP
  obtain ⟨Wb, hWb⟩ : ∃ Wb, Wb = (w.alloc (.cells #[.slice a0 l0 cap0, .slice a1 l1 cap1, .int .i64 x2, .int .i64 x3] 32)).alloc (.cells #[.slice none 0 0, .slice none 0 0, .int .i64 0, .int .i64 0] 32) := ⟨_, rfl⟩
  obtain ⟨gb, hgb⟩ : ∃ m, m = w.heap.size := ⟨_, rfl⟩
  have hEw : Ext w Wb := by rw [hWb]; exact ((Ext.refl _).alloc _).alloc _
  have hzb : Wb.heap.size ≤ gb + 2 := by rw [hWb, hgb]; simp
  have hzb2 : gb + 2 ≤ Wb.heap.size := by rw [hWb, hgb]; simp
  have hblk0 : Wb.heap[gb]? = some (.cells #[.slice a0 l0 cap0, .slice a1 l1 cap1, .int .i64 x2, .int .i64 x3] 32 (0, 0)) := by
    rw [hWb, Below.block ((Ext.refl _).alloc _) _ (by rw [hgb]; simp), hgb]
    exact heap_alloc_new w _
  have hblk1 : Wb.heap[gb + 1]? = some (.cells #[.slice none 0 0, .slice none 0 0, .int .i64 0, .int .i64 0] 32 (0, 0)) := by
    have := heap_alloc_new (w.alloc (.cells #[.slice a0 l0 cap0, .slice a1 l1 cap1, .int .i64 x2, .int .i64 x3] 32)) (.cells #[.slice none 0 0, .slice none 0 0, .int .i64 0, .int .i64 0] 32)
    rw [World.size_alloc] at this
    rw [hWb, hgb]
    exact this
  have hbx : ∀ W : World, W.heap[gb]? = Wb.heap[gb]? → W.heap[gb + 1]? = Wb.heap[gb + 1]? → (W.cell? ⟨gb, 0, none⟩ = some (.slice a0 l0 cap0) ∧ W.cell? ⟨gb, 1, none⟩ = some (.slice a1 l1 cap1) ∧ W.cell? ⟨gb, 2, none⟩ = some (.int .i64 x2) ∧ W.cell? ⟨gb, 3, none⟩ = some (.int .i64 x3)) ∧ (W.cell? ⟨gb + 1, 0, none⟩ = some (.slice none 0 0) ∧ W.cell? ⟨gb + 1, 1, none⟩ = some (.slice none 0 0) ∧ W.cell? ⟨gb + 1, 2, none⟩ = some (.int .i64 0) ∧ W.cell? ⟨gb + 1, 3, none⟩ = some (.int .i64 0)) ∧ (∀ o, W.frozen? ⟨gb + 1, o, none⟩ = false) := fun W h1 h2 => by
    rw [hblk0] at h1
    rw [hblk1] at h2
    refine ⟨⟨?_, ?_, ?_, ?_⟩, ⟨?_, ?_, ?_, ?_⟩, fun o => ?_⟩
    all_goals first | (simp [World.cell?, h1]; done) | (simp [World.cell?, h2]; done) | (simp [World.frozen?, h2]; done)
  have hk : ∀ W : World, Chg (fun x => Wb.heap.size ≤ x) Wb W → ∀ b, gb ≤ b → b < Wb.heap.size → W.heap[b]? = Wb.heap[b]? := fun W hW b _ h2 => hW.block b h2 (by omega)
  have hgb1 : gb ≤ w.heap.size := Nat.le_of_eq hgb
  have hgb2 : w.heap.size ≤ gb := Nat.le_of_eq hgb.symm
  clear hg
  obtain ⟨⟨p0, p1, p2, p3⟩, _⟩ := hbx Wb rfl rfl
  go_enter Tryz.func9, Tryz.ntmps9
  go_wp2_with fail
  rw [← hWb, ← hgb]
  clear hWb hgb p0 p1 p2 p3
  refine (hnet Wb hEw).mono ?_
  rintro e w1 ⟨p, rfl, hyes, hE1⟩
  have hz1 := hE1.le
  have hC1 : Chg (fun x => Wb.heap.size ≤ x) Wb w1 := Chg.of_ext hE1
  cases g
  · obtain ⟨⟨p0, p1, p2, p3⟩, ⟨t0, t1, t2, t3⟩, tf⟩ := hbx w1 (hk w1 hC1 gb (by omega) (by omega)) (hk w1 hC1 (gb + 1) (by omega) (by omega))
    have tf0 := tf 0
    have tf1 := tf 1
    have tf2 := tf 2
    have tf3 := tf 3
    have hCf : Chg (fun x => x = gb + 1) w1 ((((w1.setCell ⟨gb + 1, 0, none⟩ (.slice none 0 0)).setCell ⟨gb + 1, 1, none⟩ (.slice none 0 0)).setCell ⟨gb + 1, 2, none⟩ (.int .i64 0)).setCell ⟨gb + 1, 3, none⟩ (.int .i64 0)) := ((((Chg.refl (fun x => x = gb + 1) w1).setCell (p := ⟨gb + 1, 0, none⟩) rfl _).setCell (p := ⟨gb + 1, 1, none⟩) rfl _).setCell (p := ⟨gb + 1, 2, none⟩) rfl _).setCell (p := ⟨gb + 1, 3, none⟩) rfl _
    have hX : Hid (Ext w ((((w1.setCell ⟨gb + 1, 0, none⟩ (.slice none 0 0)).setCell ⟨gb + 1, 1, none⟩ (.slice none 0 0)).setCell ⟨gb + 1, 2, none⟩ (.int .i64 0)).setCell ⟨gb + 1, 3, none⟩ (.int .i64 0))) := hCf.toExt (hEw.trans hE1) (fun x hx => by omega)
    clear hCf hyes
    go_wp2
    refine bodyPost_ret (v := .tuple #[.agg #[.slice none 0 0, .slice none 0 0, .int .i64 0, .int .i64 0], .int .i64 0, .bool false]) (by simp [results, Tryz.results9, go_sem, t0, t1, t2, t3]) rfl ⟨_, _, rfl, ⟨fun _ => False, fun _ => False, ⟨(noneL_in 3 _ _).1, (noneL_in 3 _ _).2, fun x hx => hx.elim⟩, ⟨(noneL_in 5 _ _).1, (noneL_in 5 _ _).2, fun x hx => hx.elim⟩, fun x hx => hx.elim⟩, hX.out⟩
  · obtain ⟨hl12, hl16, _, hx0, hx1⟩ := hgl rfl
    have hlt := hnl rfl
    clear hgl hnl
    obtain ⟨N, hp, hN, hF⟩ := hyes rfl
    clear hyes
    subst hp
    have hnn := hF.nn
    have hne := hF.ne
    subst hnn hne
    obtain ⟨mid, hm1, hrn, hre⟩ := hF.rows
    have hln := hF.ln
    have hle := hF.le
    have hkn := hF.kn
    have hke := hF.ke
    clear hF
    have hlen : (N.lists .e).length = d1.len! := by rw [hle]; simp [idsOf]
    have hlast : (N.lists .e).getLast?.getD (-1) < N.ne := by rw [hle]; exact ids_below hx0 hlt
    have hhas : ∀ z : Int, decide (z ∈ N.keys .n) = hasId d0 z := fun z => by
      rw [hd0'.out, has_ids]
      simp only [hkn]
    have hadd := addEdge_any w1 Wb.heap.size 100 N (fun b => b < w.heap.size) d0 dP kind fr dst _ hN (by omega) hz1 hx0 hx1 hlast zk zf zd HP (hPl.ext (hEw.trans hE1)) (fun x hx e => by have := hN.lo; omega) (hhas fr) (hhas dst) a (by rw [hlen]; exact ha)
    clear hlast ha hlen hhas
    go_wp2_with fail
    refine hadd.mono ?_
    rintro e w2 ⟨rfl, N2, hN2, hst, hyes, hno⟩
    clear hadd
    have hC2 : Chg (fun x => Wb.heap.size ≤ x) Wb w2 := hC1.trans (hst.chg.mono (fun x hx => (NetR.lt hN hx).1))
    have hz2 := hst.chg.size
    have hbase2 : Wb.heap.size ≤ w2.heap.size := Nat.le_trans hz1 hz2
    have hhi : mid ≤ w1.heap.size := by obtain ⟨P, hP⟩ := hrn; exact hP.1
    cases a
    · have hNe := hno rfl
      subst hNe
      clear hyes hno
      have hgr := netGraph_any w2 Wb.heap.size _ Wb.heap.size _ _ N2 d0.at! d1.at! d0.len! d1.len! hN2 hrow0 hrow1 hln hle (fun i hi => (hkn _).2 (mem_ids hi)) (fun i hi => (hke _).2 (mem_ids hi)) (hrn.toS.step hst (fun _ _ => rfl)) (hre.toS.step hst (fun _ _ => rfl)) (fun x hx => hx.1) (fun x hx => by omega) hbase2 (fun x hx hx' => by omega) (by omega) (by omega)
      go_wp2_with fail
      refine hgr.mono ?_
      rintro e w3 ⟨u0, u1, rfl, hgo, hE3⟩
      clear hgr hrn hre hln hle hkn hke
      have hC3 : Chg (fun x => Wb.heap.size ≤ x) Wb w3 := hC2.trans (Chg.of_ext hE3)
      have hz3 := hE3.le
      rw [← hd0'.out, ← hd1'.out] at hgo
      obtain ⟨Q0, Q1, ⟨hD0, hO0, hq0⟩, ⟨hD1, hO1, hq1⟩, hdq⟩ := hgo
      obtain ⟨va, vcap, vl, _, hqa, hva, _, _⟩ := list_shape (r := 4) H0 hD0
      obtain ⟨ra, rcap, rl, _, hqb, hra, _, _⟩ := list_shape (r := 5) H1 hD1
      subst hva hra
      clear hqa hqb
      obtain ⟨⟨p0, p1, p2, p3⟩, ⟨t0, t1, t2, t3⟩, tf⟩ := hbx w3 (hk w3 hC3 gb (by omega) (by omega)) (hk w3 hC3 (gb + 1) (by omega) (by omega))
      have tf0 := tf 0
      have tf1 := tf 1
      have tf2 := tf 2
      have tf3 := tf 3
      clear tf p0 p1 p2 p3
      have hCf : Chg (fun x => x = gb + 1) w3 ((((w3.setCell ⟨gb + 1, 0, none⟩ (.slice va vl vcap)).setCell ⟨gb + 1, 1, none⟩ (.slice ra rl rcap)).setCell ⟨gb + 1, 2, none⟩ (.int .i64 N2.nn)).setCell ⟨gb + 1, 3, none⟩ (.int .i64 N2.ne)) := ((((Chg.refl (fun x => x = gb + 1) w3).setCell (p := ⟨gb + 1, 0, none⟩) rfl _).setCell (p := ⟨gb + 1, 1, none⟩) rfl _).setCell (p := ⟨gb + 1, 2, none⟩) rfl _).setCell (p := ⟨gb + 1, 3, none⟩) rfl _
      have hX : Hid _ := And.intro (show GraphOwn ((((w3.setCell ⟨gb + 1, 0, none⟩ (.slice va vl vcap)).setCell ⟨gb + 1, 1, none⟩ (.slice ra rl rcap)).setCell ⟨gb + 1, 2, none⟩ (.int .i64 N2.nn)).setCell ⟨gb + 1, 3, none⟩ (.int .i64 N2.ne)) gb d0 d1 (.slice va vl vcap) (.slice ra rl rcap) from ⟨Q0, Q1, ⟨hD0.carry hCf.size (fun b hb hl => hCf.block b hl (by have := hq0 b hb; omega)), hO0.carry hCf.size (fun b hb hl => hCf.block b hl (by have := hq0 b hb; omega)), fun x hx => by have := hq0 x hx; simp only [World.size_setCell]; omega⟩, ⟨hD1.carry hCf.size (fun b hb hl => hCf.block b hl (by have := hq1 b hb; omega)), hO1.carry hCf.size (fun b hb hl => hCf.block b hl (by have := hq1 b hb; omega)), fun x hx => by have := hq1 x hx; simp only [World.size_setCell]; omega⟩, hdq⟩) (hCf.toExt (hC3.toExt hEw (fun x hx => by omega)) (fun x hx => by omega))
      have hgbw : Hid (gb = w.heap.size) := by show _ = _; omega
      clear hCf hD0 hO0 hD1 hO1
      go_wp2
      refine bodyPost_ret (v := .tuple #[.agg #[.slice va vl vcap, .slice ra rl rcap, .int .i64 N2.nn, .int .i64 N2.ne], .int .i64 0, .bool false]) (by simp [results, Tryz.results9, go_sem, idA, t0, t1, t2, t3]) rfl ⟨_, _, rfl, ?_, hX.out.2⟩
      rw [← hgbw.out]
      exact hX.out.1
    · obtain ⟨v', uP, vo, vi, m, hNe, g1, g3, hDP, hown⟩ := hyes rfl
      clear hyes hno
      have hnR : ∀ x, w1.heap.size ≤ x → x < m → ¬ NetR N2 x := fun x h1 h2 hx => by
        rcases hown x hx with h3 | h3
        · have := (NetR.lt hN h3).2; omega
        · omega
      have hrow1' := addFE_row (id := N.ne) (kind := kind) (fr := fr) (dst := dst) hrow1 HP
      have hle2 : N2.lists .e = idsOf (addFE d1.at! d1.len! N.ne kind fr dst dP) (d1.len! + 1) := by
        rw [hNe, ids_addE, ← hle, lists_e]; rfl
      have hln2 : N2.lists .n = idsOf d0.at! d0.len! := by rw [hNe, lists_n, ← hln]; rfl
      have hke2 : ∀ i, i < d1.len! + 1 → (addFE d1.at! d1.len! N.ne kind fr dst dP i 0).int! ∈ N2.keys .e := fun i hi => by
        have hk2 : N2.keys .e = putKeys (N.keys .e) N.ne := by rw [hNe, keys_e]; rfl
        rw [hk2, mem_putKeys]
        by_cases e : i = d1.len!
        · subst e; right; rw [addFE_at0]; rfl
        · left; rw [addFE_lt _ _ _ _ _ _ _ (show i < d1.len! by omega)]; exact (hke _).2 (mem_ids (by omega))
      have hkn2 : ∀ i, i < d0.len! → (d0.at! i 0).int! ∈ N2.keys .n := fun i hi => by
        have hk2 : N2.keys .n = N.keys .n := by rw [hNe, keys_n]; rfl
        rw [hk2]; exact (hkn _).2 (mem_ids hi)
      have hve : N2.val .e = putVal (N.val .e) N.ne (.agg #[.int .i64 N.ne, .string kind, .int .i64 fr, .int .i64 dst, uP]) := by rw [hNe, val_e]; rfl
      have hvn : N2.val .n = N.val .n := by rw [hNe, val_n]; rfl
      have hre2 : RowsS w2 N2 (fun x => (mid ≤ x ∧ x < w1.heap.size) ∨ (w1.heap.size ≤ x ∧ x < m)) .e 5 (addFE d1.at! d1.len! N.ne kind fr dst dP) (d1.len! + 1) := by
        refine (hre.toS.congr (fun i hi => addFE_lt _ _ N.ne kind fr dst dP hi)).push hst (fun i hi => ?_) (fun x hx => .inl hx) (fun x hx => by omega) (fun c => match c with | 0 => .int .i64 N.ne | 1 => .string kind | 2 => .int .i64 fr | 3 => .int .i64 dst | _ => uP) ?_ (fun c => if c = 4 then New w1.heap.size m else fun _ => False) (fun c hc => ?_) (fun c c' hc hc' hne x hx hx' => ?_)
        · have := hlt i hi
          rw [addFE_lt _ _ N.ne kind fr dst dP hi, hve, putVal, if_neg (by omega)]
        · rw [addFE_at0, hve]
          show putVal (N.val .e) N.ne _ N.ne = _
          rw [putVal, if_pos rfl]
          rfl
        · have hcc : c = 0 ∨ c = 1 ∨ c = 2 ∨ c = 3 ∨ c = 4 := by omega
          rcases hcc with rfl | rfl | rfl | rfl | rfl
          · rw [addFE_at0]; exact ⟨⟨rfl, by simp [Lit.wf, IntKind.min, IntKind.max, IntKind.signed, IntKind.bits]; omega⟩, trivial, fun x hx => absurd hx (by simp)⟩
          · rw [addFE_at1]; exact ⟨⟨rfl, zk⟩, trivial, fun x hx => absurd hx (by simp)⟩
          · rw [addFE_at2]; exact ⟨⟨rfl, zf⟩, trivial, fun x hx => absurd hx (by simp)⟩
          · rw [addFE_at3]; exact ⟨⟨rfl, zd⟩, trivial, fun x hx => absurd hx (by simp)⟩
          · rw [addFE_at4]; exact ⟨hDP.1, hDP.2, fun x hx => ⟨hx.1, .inr ⟨hx.1, hx.2⟩, hnR x hx.1 hx.2⟩⟩
        · by_cases c4 : c = 4
          · rw [if_neg (by omega)] at hx'; exact hx'
          · rw [if_neg c4] at hx; exact hx
      have hrn2 : RowsS w2 N2 (fun x => Wb.heap.size ≤ x ∧ x < mid) .n 3 d0.at! d0.len! := hrn.toS.step hst (fun _ _ => by rw [hvn])
      have hgr := netGraph_any w2 Wb.heap.size _ Wb.heap.size _ _ N2 d0.at! (addFE d1.at! d1.len! N.ne kind fr dst dP) d0.len! (d1.len! + 1) hN2 hrow0 hrow1' hln2 hle2 hkn2 hke2 hrn2 hre2 (fun x hx => by omega) (fun x hx => by omega) hbase2 (fun x hx hx' => by omega) (by omega) (by omega)
      have hnb : N2.nb = N.nb := by rw [hNe]; rfl
      have hnn2 : N2.nn = N.nn := by rw [hNe]; rfl
      have hne2 : N2.ne = N.ne + 1 := by rw [hNe]; rfl
      rw [hnb, hnn2, hne2] at hgr
      have H1' : Has (.list 5 (d1.len! + 1) (addFE d1.at! d1.len! N.ne kind fr dst dP)) (.list 5) := ⟨5, rfl, rfl, fun i hi j hj => hrow1' i hi j hj⟩
      clear hnb hnn2 hne2 hNe hrn2 hre2 hln2 hle2 hkn2 hke2 hvn hve hDP hown
      go_wp2_with fail
      refine hgr.mono ?_
      rintro e w3 ⟨u0, u1, rfl, hgo, hE3⟩
      clear hgr hrn hre hln hle hkn hke
      have hC3 : Chg (fun x => Wb.heap.size ≤ x) Wb w3 := hC2.trans (Chg.of_ext hE3)
      have hz3 := hE3.le
      rw [← hd0'.out] at hgo
      obtain ⟨Q0, Q1, ⟨hD0, hO0, hq0⟩, ⟨hD1, hO1, hq1⟩, hdq⟩ := hgo
      obtain ⟨va, vcap, vl, _, hqa, hva, _, _⟩ := list_shape (r := 4) H0 hD0
      obtain ⟨ra, rcap, rl, _, hqb, hra, _, _⟩ := list_shape (r := 5) H1' hD1
      subst hva hra
      clear hqa hqb
      obtain ⟨⟨p0, p1, p2, p3⟩, ⟨t0, t1, t2, t3⟩, tf⟩ := hbx w3 (hk w3 hC3 gb (by omega) (by omega)) (hk w3 hC3 (gb + 1) (by omega) (by omega))
      have tf0 := tf 0
      have tf1 := tf 1
      have tf2 := tf 2
      have tf3 := tf 3
      clear tf p0 p1 p2 p3
      have hCf : Chg (fun x => x = gb + 1) w3 ((((w3.setCell ⟨gb + 1, 0, none⟩ (.slice va vl vcap)).setCell ⟨gb + 1, 1, none⟩ (.slice ra rl rcap)).setCell ⟨gb + 1, 2, none⟩ (.int .i64 N.nn)).setCell ⟨gb + 1, 3, none⟩ (.int .i64 (N.ne + 1))) := ((((Chg.refl (fun x => x = gb + 1) w3).setCell (p := ⟨gb + 1, 0, none⟩) rfl _).setCell (p := ⟨gb + 1, 1, none⟩) rfl _).setCell (p := ⟨gb + 1, 2, none⟩) rfl _).setCell (p := ⟨gb + 1, 3, none⟩) rfl _
      have hX : Hid _ := And.intro (show GraphOwn ((((w3.setCell ⟨gb + 1, 0, none⟩ (.slice va vl vcap)).setCell ⟨gb + 1, 1, none⟩ (.slice ra rl rcap)).setCell ⟨gb + 1, 2, none⟩ (.int .i64 N.nn)).setCell ⟨gb + 1, 3, none⟩ (.int .i64 (N.ne + 1))) gb d0 (.list 5 (d1.len! + 1) (addFE d1.at! d1.len! N.ne kind fr dst dP)) (.slice va vl vcap) (.slice ra rl rcap) from ⟨Q0, Q1, ⟨hD0.carry hCf.size (fun b hb hl => hCf.block b hl (by have := hq0 b hb; omega)), hO0.carry hCf.size (fun b hb hl => hCf.block b hl (by have := hq0 b hb; omega)), fun x hx => by have := hq0 x hx; simp only [World.size_setCell]; omega⟩, ⟨hD1.carry hCf.size (fun b hb hl => hCf.block b hl (by have := hq1 b hb; omega)), hO1.carry hCf.size (fun b hb hl => hCf.block b hl (by have := hq1 b hb; omega)), fun x hx => by have := hq1 x hx; simp only [World.size_setCell]; omega⟩, hdq⟩) (hCf.toExt (hC3.toExt hEw (fun x hx => by omega)) (fun x hx => by omega))
      have hgbw : Hid (gb = w.heap.size) := by show _ = _; omega
      clear hCf hD0 hO0 hD1 hO1
      go_wp2
      refine bodyPost_ret (v := .tuple #[.agg #[.slice va vl vcap, .slice ra rl rcap, .int .i64 N.nn, .int .i64 (N.ne + 1)], .int .i64 N.ne, .bool true]) (by simp [results, Tryz.results9, go_sem, idA, t0, t1, t2, t3]) rfl ⟨_, _, rfl, ?_, hX.out.2⟩
      rw [← hgbw.out]
      exact hX.out.1
end Go.Proofs.YtnhgnklapfhekaaGreat
