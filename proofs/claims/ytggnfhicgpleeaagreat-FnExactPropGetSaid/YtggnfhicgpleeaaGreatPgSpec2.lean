/- What spec.l2Get and spec.PropGet answer. -/
import Derived.Test.YtggnfhicgpleeaaGreatPgSpec
import Derived.Test.YtggnfhicgpleeaaGreatGSpec4
namespace Go.Proofs.YtggnfhicgpleeaaGreat
open Go.RowKit Go.Deep

/-- A value handed back, its list in memory of its own. -/
inductive GetPost (A : VD) (w : World) : Ending → World → Prop
  | mk (u : Value) (Q : Nat → Prop) (w' : World) (hd : DIn Q w' A.l u) (ho : Own w' A.l Q u) (hQ : ∀ x, Q x → w.heap.size ≤ x ∧ x < w'.heap.size) (hE : Ext w w') : GetPost A w (.returned (.agg #[.int .i64 A.k, .int .i64 A.n, .string A.t, u])) w'
theorem GetPost.of {A : VD} {w w' : World} {e : Ending} {k n : Int} {t : ByteArray} {u : Value} {Q : Nat → Prop} (he : e = .returned (.agg #[.int .i64 k, .int .i64 n, .string t, u])) (hk : k = A.k) (hn : n = A.n) (ht : t = A.t) (hd : DIn Q w' A.l u) (ho : Own w' A.l Q u) (hQ : ∀ x, Q x → w.heap.size ≤ x ∧ x < w'.heap.size) (hE : Ext w w') : GetPost A w e w' := by
  subst he hk hn ht
  exact .mk u Q w' hd ho hQ hE

theorem l2Of_list {d0 d1 : D} (H0 : Has d0 (.list 4)) (H1 : Has d1 (.list 5)) (s0 : SmallD d0) (s1 : SmallD d1) {k n : Int} {S : Nat → Prop} {w' : World} {u : Value} (s : ByteArray) (h1 : ∀ d, propsAt d0 d1 k n = some d → DIn S w' d u) (h2 : propsAt d0 d1 k n = none → ∃ a c, u = .slice a 0 c) :
    ∃ d, Has d (.list 3) ∧ SmallD d ∧ DIn S w' d u ∧ propAns d0 d1 k n s = propIn d s := by
  cases h : propsAt d0 d1 k n with
  | none =>
    obtain ⟨a, c, rfl⟩ := h2 h
    refine ⟨.list 5 0 (fun _ _ => .int 0), ⟨3, rfl, rfl, fun i hi => by omega⟩, ⟨by decide, by decide, fun i hi => by omega⟩, ⟨a, c, 0, 0, rfl, by simp [maxLen], fun h => by omega, fun i hi => by omega⟩, ?_⟩
    unfold propAns
    rw [h]
    rfl
  | some d =>
    refine ⟨d, propsAt_has H0 H1 h, propsAt_small H0 H1 s0 s1 h, h1 d h, ?_⟩
    unfold propAns
    rw [h]

set_option maxHeartbeats 4000000 in
theorem l2Get_any (S : Nat → Prop) (d0 d1 : D) (c0 c1 c3' : Value) (x2 x3 k n : Int) (t s : ByteArray) (w : World) (H0 : Has d0 (.list 4)) (h0 : DIn S w d0 c0) (s0 : SmallD d0) (H1 : Has d1 (.list 5)) (h1 : DIn S w d1 c1) (s1 : SmallD d1) (hc : ∃ a l c, c3' = .slice a l c) :
    Calls Tryz.prog 20 #[.agg #[c0, c1, .int .i64 x2, .int .i64 x3], .agg #[.int .i64 k, .int .i64 n, .string t, c3'], .string s] w (GetPost (propAns d0 d1 k n s) w) := by
  have hof := fun (W : World) (hW : Ext w W) => l2Of_any S d0 d1 c0 c1 c3' x2 x3 k n t W H0 (h0.ext hW) H1 (h1.ext hW) hc
  have hlist := fun {w' : World} {u : Value} => l2Of_list (S := S) (w' := w') (u := u) (k := k) (n := n) H0 H1 s0 s1 s
  obtain ⟨a0, cap0, len0, f0, hd0, rfl, _, _⟩ := list_shape H0 h0
  obtain ⟨a1, cap1, len1, f1, hd1, rfl, _, _⟩ := list_shape H1 h1
  obtain ⟨a3, l3, cap3, rfl⟩ := hc
  clear hd0 hd1
  generalize propAns d0 d1 k n s = A at hlist
  generalize hG : (Obj.cells #[.slice a0 len0 cap0, .slice a1 len1 cap1, .int .i64 x2, .int .i64 x3] 38) = oG
  generalize hV : (Obj.cells #[.int .i64 k, .int .i64 n, .string t, .slice a3 l3 cap3] 33) = oV
  generalize hR : (Obj.cells #[.int .i64 0, .int .i64 0, .string ⟨#[]⟩, .slice none 0 0] 33) = oR
  have hE0 : Ext w (((w.alloc oG).alloc oV).alloc oR) := (((Ext.refl _).alloc _).alloc _).alloc _
  have hbx : ∀ W, Ext (((w.alloc oG).alloc oV).alloc oR) W → (W.cell? ⟨w.heap.size, 0, none⟩ = some (.slice a0 len0 cap0) ∧ W.cell? ⟨w.heap.size, 1, none⟩ = some (.slice a1 len1 cap1) ∧ W.cell? ⟨w.heap.size, 2, none⟩ = some (.int .i64 x2) ∧ W.cell? ⟨w.heap.size, 3, none⟩ = some (.int .i64 x3)) ∧ (W.cell? ⟨w.heap.size + 1, 0, none⟩ = some (.int .i64 k) ∧ W.cell? ⟨w.heap.size + 1, 1, none⟩ = some (.int .i64 n) ∧ W.cell? ⟨w.heap.size + 1, 2, none⟩ = some (.string t) ∧ W.cell? ⟨w.heap.size + 1, 3, none⟩ = some (.slice a3 l3 cap3)) ∧ FBox W (w.heap.size + 2) (.int .i64 0) (.int .i64 0) (.string ⟨#[]⟩) (.slice none 0 0) := by
    intro W hW
    have hz1 : (w.alloc oG).heap.size = w.heap.size + 1 := by simp
    have hz2 : ((w.alloc oG).alloc oV).heap.size = w.heap.size + 2 := by simp
    have hA : Ext (w.alloc oG) W := (((Ext.refl _).alloc _).alloc _).trans hW
    have hB : Ext ((w.alloc oG).alloc oV) W := ((Ext.refl _).alloc _).trans hW
    subst hG hV hR
    refine ⟨⟨box_cell hA 0 _ rfl, box_cell hA 1 _ rfl, box_cell hA 2 _ rfl, box_cell hA 3 _ rfl⟩, ⟨?_, ?_, ?_, ?_⟩, ?_⟩
    · rw [← hz1]; exact box_cell hB 0 _ rfl
    · rw [← hz1]; exact box_cell hB 1 _ rfl
    · rw [← hz1]; exact box_cell hB 2 _ rfl
    · rw [← hz1]; exact box_cell hB 3 _ rfl
    · rw [← hz2]; exact (FBox.new _ _ _ _ _ _).ext hW
  go_enter Tryz.func20, Tryz.ntmps20
  go_upto_region 1 with fail
  generalize hW0 : ((w.alloc oG).alloc oV).alloc oR = W0 at *
  have hlow : w.heap.size + 3 ≤ W0.heap.size := by subst hW0; simp
  clear hW0 hG hV hR
  obtain ⟨⟨p0, p1, p2, p3⟩, ⟨q0, q1, q2, q3⟩, hF⟩ := hbx _ (Ext.refl _)
  go_wp2_with fail
  refine (hof _ hE0).mono ?_
  intro e w1 hpost
  cases hpost with
  | mk u b _ g1 g2 hE1 =>
  obtain ⟨dp, Hdp, hsm, hdp, hpa⟩ := hlist g1 g2
  clear hof hlist g1 g2 p0 p1 p2 p3 q0 q1 q2 q3 hF
  obtain ⟨_, _, hF⟩ := hbx _ hE1
  clear hbx
  obtain ⟨len, f, rfl, HRa⟩ := Hdp.list
  change DIn S w1 (.list 5 len f) u at hdp
  have HPA : Hid (A = propIn (.list (rowsOf 3).length len f) s) := hpa
  clear hpa
  have HP1 : Hid (∀ i, findO (fun j => (f j 0).str!.toList == s.toList) len = some i → A = ⟨(f i 1).int!, (f i 2).int!, (f i 3).str!, f i 4⟩) := fun i h => by
    rw [HPA.out]
    show (match findO (fun j => (f j 0).str!.toList == s.toList) len with | some j => (⟨(f j 1).int!, (f j 2).int!, (f j 3).str!, f j 4⟩ : VD) | none => VD.zero) = _
    rw [h]
  have HP2 : Hid (findO (fun j => (f j 0).str!.toList == s.toList) len = none → A = VD.zero) := fun h => by
    rw [HPA.out]
    show (match findO (fun j => (f j 0).str!.toList == s.toList) len with | some j => (⟨(f j 1).int!, (f j 2).int!, (f j 3).str!, f j 4⟩ : VD) | none => VD.zero) = _
    rw [h]
  clear HPA
  obtain ⟨ua, ucap, rfl, hul⟩ := hdp.list_eq
  unfold maxLen at hul
  have hl1 := hE1.le
  have hE01 := hE0.trans hE1
  obtain ⟨⟨hRlt, r0, r1, r2, r3⟩, hfz⟩ := id hF
  have z0 := hfz 0
  have z1 := hfz 1
  have z2 := hfz 2
  have z3 := hfz 3
  go_wp2
  go_loop [9] (fun i => ∃ k : Nat, k ≤ len ∧ i = .int .i64 k ∧ ∀ j, j < k → ((f j 0).str!.toList == s.toList) = false) (fun i => len - (intOf i).toNat)
  case atStart => exact ⟨0, Nat.zero_le _, rfl, fun j h => by omega⟩
  case round =>
    obtain ⟨k, hk, rfl, hno⟩ := hrel
    by_cases hlt : k < len
    · obtain ⟨cap2, b, off, C, hsl, _, hb, ec, hx⟩ := hdp.at hlt
      cases hsl
      have HR := HRa k hlt
      obtain ⟨v0, hd0⟩ := (show Has (f k 0) .str from HR 0 (by decide)).str
      have k0 := hx 0 (by decide)
      have e0 := ec 0 (by decide)
      rw [hd0] at k0
      rw [k0.str_eq.1] at e0
      simp only [Nat.add_zero] at e0
      cases hq : (v0.toList == s.toList)
      · have hok : Hid (((f k 0).str!.toList == s.toList) = false) := by show _ = _; rw [hd0]; exact hq
        clear ec hx HR
        go_wp2
        go_round
        case rel =>
          refine ⟨k + 1, by omega, by go_num, fun j hj => ?_⟩
          rcases Nat.lt_succ_iff_lt_or_eq.1 hj with h' | h'
          · exact hno j h'
          · subst h'; exact hok.out
        case measure => simp [intOf]; omega
      · have hA : Hid (A = ⟨(f k 1).int!, (f k 2).int!, (f k 3).str!, f k 4⟩) := HP1.out k (findO_some hlt (by rw [hd0]; exact hq) hno)
        obtain ⟨v1, hd1⟩ := (show Has (f k 1) .int from HR 1 (by decide)).int
        obtain ⟨v2, hd2⟩ := (show Has (f k 2) .int from HR 2 (by decide)).int
        obtain ⟨v3, hd3⟩ := (show Has (f k 3) .str from HR 3 (by decide)).str
        have H4 : Has (f k 4) (.list 2) := HR 4 (by decide)
        have k1 := hx 1 (by decide)
        have e1 := ec 1 (by decide)
        rw [hd1] at k1
        rw [k1.int_eq.1] at e1
        have k2 := hx 2 (by decide)
        have e2 := ec 2 (by decide)
        rw [hd2] at k2
        rw [k2.int_eq.1] at e2
        have k3 := hx 3 (by decide)
        have e3 := ec 3 (by decide)
        rw [hd3] at k3
        rw [k3.str_eq.1] at e3
        have k4 := hx 4 (by decide)
        have e4 := ec 4 (by decide)
        have hA : Hid (A = ⟨v1, v2, v3, f k 4⟩) := by show _ = _; rw [hA.out, hd1, hd2, hd3]; rfl
        have hcp := l1Copy_D (f k 4) H4 (hsm.2.2 k hlt 4 (by decide)) S v1 v2 v3 (C 4) w1 k4
        obtain ⟨a4, cap4, l4, f4, hd4, hc4, _, _⟩ := list_shape H4 k4
        rw [hc4] at e4 hcp
        clear ec hx HR k0 k1 k2 k3 k4 hd0 hd1 hd2 hd3 hd4 hc4 hno HP1 HP2
        go_wp2_with fail
        refine hcp.mono ?_
        rintro e w2 ⟨v, rfl, ⟨hd, ho⟩, hE2⟩
        clear r0 r1 r2 r3 z0 z1 z2 z3 hRlt hfz
        have hF2 := hF.ext hE2
        obtain ⟨av, capv, lv, fv, hdv, hcv, _, _⟩ := list_shape H4 hd
        rw [hcv] at hd ho ⊢
        clear hdv hcv
        obtain ⟨⟨hRlt, r0, r1, r2, r3⟩, hfz⟩ := id hF2
        have z0 := hfz 0
        have z1 := hfz 1
        have z2 := hfz 2
        have z3 := hfz 3
        obtain ⟨rE, rD, rO⟩ := res4 (a := w) (R := w.heap.size + 2) (S := New w1.heap.size w2.heap.size) (hE01.trans hE2) (by omega) (fun hh => by have := hh.1; omega) hd ho (.int .i64 v1) (.int .i64 v2) (.string v3) (.slice av lv capv)
        have rE := (show Hid _ from rE)
        have rD := (show Hid _ from rD)
        have rO := (show Hid _ from rO)
        have hz := hE2.le
        go_wp2
        refine bodyPost_ret (v := .agg #[.int .i64 v1, .int .i64 v2, .string v3, .slice av lv capv]) (by simp [results, Tryz.results20, go_sem, r0, r1, r2, r3]) rfl ?_
        exact GetPost.of rfl (by rw [hA.out]) (by rw [hA.out]) (by rw [hA.out]) (by rw [hA.out]; exact rD.out) (by rw [hA.out]; exact rO.out) (fun x hx => ⟨by have := hx.1; omega, by simpa using hx.2⟩) rE.out
    · have hA : Hid (A = VD.zero) := HP2.out (findO_none fun j hj => hno j (by omega))
      obtain ⟨rE, rD, rO⟩ := res4 (a := w) (R := w.heap.size + 2) (S := fun _ => False) hE01 (by omega) (fun hh => hh) (noL_in _ w1).1 (noL_in _ w1).2 (.int .i64 0) (.int .i64 0) (.string ⟨#[]⟩) (.slice none 0 0)
      have rE := (show Hid _ from rE)
      have rD := (show Hid _ from rD)
      have rO := (show Hid _ from rO)
      clear HP1 HP2 hno
      go_wp2
      refine bodyPost_ret (v := .agg #[.int .i64 0, .int .i64 0, .string ⟨#[]⟩, .slice none 0 0]) (by simp [results, Tryz.results20, go_sem, r0, r1, r2, r3]) rfl ?_
      exact GetPost.of (Q := fun _ => False) rfl (by rw [hA.out]; rfl) (by rw [hA.out]; rfl) (by rw [hA.out]; rfl) (by rw [hA.out]; exact rD.out) (by rw [hA.out]; exact rO.out) (fun x hx => hx.elim) rE.out

set_option maxHeartbeats 4000000 in
theorem specPropGet_any (S S3 : Nat → Prop) (d0 d1 d3 : D) (c0 c1 c3 : Value) (x2 x3 k n : Int) (t s : ByteArray) (w : World) (H0 : Has d0 (.list 4)) (h0 : DIn S w d0 c0) (s0 : SmallD d0) (H1 : Has d1 (.list 5)) (h1 : DIn S w d1 c1) (s1 : SmallD d1) (zk : (Lit.int .i64 k).wf = true) (zn : (Lit.int .i64 n).wf = true) (zt : t.size ≤ maxLen) (H3 : Has d3 (.list 2)) (h3 : DIn S3 w d3 c3) :
    Calls Tryz.prog 6 #[.agg #[c0, c1, .int .i64 x2, .int .i64 x3], .agg #[.int .i64 k, .int .i64 n, .string t, c3], .string s] w (GetPost (getAns (graphB d0 d1 x2 x3 && okN 3 (.mk k n t (vsOf d3))) d0 d1 k n s) w) := by
  have hgr := fun (W : World) (hW : Ext w W) => specGraphOk_any S d0 d1 c0 c1 x2 x3 W H0 (h0.ext hW) H1 (h1.ext hW)
  have hvk := fun (W : World) (hW : Ext w W) => specValueOk_any (.mk k n t (vsOf d3)) 0 _ W (valIn_of zk zn zt H3 (h3.ext hW))
  obtain ⟨a0, cap0, len0, f0, hd0, hc0, _, _⟩ := list_shape H0 h0
  obtain ⟨a1, cap1, len1, f1, hd1, hc1, _, _⟩ := list_shape H1 h1
  obtain ⟨a3, cap3, len3, f3, hd3, hc3, _, _⟩ := list_shape H3 h3
  have hget := fun (W : World) (hW : Ext w W) => l2Get_any S d0 d1 c0 c1 c3 x2 x3 k n t s W H0 (h0.ext hW) s0 H1 (h1.ext hW) s1 ⟨_, _, _, hc3⟩
  have hhas := propAns_has H0 H1 k n s
  subst hc0 hc1 hc3
  clear hd0 hd1 hd3 h0 h1 h3
  generalize hGe : graphB d0 d1 x2 x3 = G at hgr
  generalize hKe : okN 3 (.mk k n t (vsOf d3)) = K at hvk
  have HA : Hid (∀ gb : Bool, (G && K) = gb → getAns (G && K) d0 d1 k n s = if gb = true then propAns d0 d1 k n s else VD.zero) := fun _ h => by rw [h]; rfl
  generalize getAns (G && K) d0 d1 k n s = A at HA
  generalize propAns d0 d1 k n s = P at hget HA hhas
  clear hGe hKe
  generalize hG : (Obj.cells #[.slice a0 len0 cap0, .slice a1 len1 cap1, .int .i64 x2, .int .i64 x3] 38) = oG
  generalize hV : (Obj.cells #[.int .i64 k, .int .i64 n, .string t, .slice a3 len3 cap3] 33) = oV
  generalize hR : (Obj.cells #[.int .i64 0, .int .i64 0, .string ⟨#[]⟩, .slice none 0 0] 33) = oR
  have hE0 : Ext w (((w.alloc oG).alloc oV).alloc oR) := (((Ext.refl _).alloc _).alloc _).alloc _
  have hbx : ∀ W, Ext (((w.alloc oG).alloc oV).alloc oR) W → (W.cell? ⟨w.heap.size, 0, none⟩ = some (.slice a0 len0 cap0) ∧ W.cell? ⟨w.heap.size, 1, none⟩ = some (.slice a1 len1 cap1) ∧ W.cell? ⟨w.heap.size, 2, none⟩ = some (.int .i64 x2) ∧ W.cell? ⟨w.heap.size, 3, none⟩ = some (.int .i64 x3)) ∧ (W.cell? ⟨w.heap.size + 1, 0, none⟩ = some (.int .i64 k) ∧ W.cell? ⟨w.heap.size + 1, 1, none⟩ = some (.int .i64 n) ∧ W.cell? ⟨w.heap.size + 1, 2, none⟩ = some (.string t) ∧ W.cell? ⟨w.heap.size + 1, 3, none⟩ = some (.slice a3 len3 cap3)) ∧ FBox W (w.heap.size + 2) (.int .i64 0) (.int .i64 0) (.string ⟨#[]⟩) (.slice none 0 0) := by
    intro W hW
    have hz1 : (w.alloc oG).heap.size = w.heap.size + 1 := by simp
    have hz2 : ((w.alloc oG).alloc oV).heap.size = w.heap.size + 2 := by simp
    have hA : Ext (w.alloc oG) W := (((Ext.refl _).alloc _).alloc _).trans hW
    have hB : Ext ((w.alloc oG).alloc oV) W := ((Ext.refl _).alloc _).trans hW
    subst hG hV hR
    refine ⟨⟨box_cell hA 0 _ rfl, box_cell hA 1 _ rfl, box_cell hA 2 _ rfl, box_cell hA 3 _ rfl⟩, ⟨?_, ?_, ?_, ?_⟩, ?_⟩
    · rw [← hz1]; exact box_cell hB 0 _ rfl
    · rw [← hz1]; exact box_cell hB 1 _ rfl
    · rw [← hz1]; exact box_cell hB 2 _ rfl
    · rw [← hz1]; exact box_cell hB 3 _ rfl
    · rw [← hz2]; exact (FBox.new _ _ _ _ _ _).ext hW
  go_enter Tryz.func6, Tryz.ntmps6
  go_upto_region 1 with fail
  generalize hW0 : ((w.alloc oG).alloc oV).alloc oR = W0 at *
  have hlow : w.heap.size + 3 ≤ W0.heap.size := by subst hW0; simp
  clear hW0 hG hV hR
  obtain ⟨⟨p0, p1, p2, p3⟩, ⟨q0, q1, q2, q3⟩, hF⟩ := hbx _ (Ext.refl _)
  cases hGb : G
  · have hA : Hid (A = VD.zero) := by show _ = _; rw [HA.out false (by rw [hGb]; rfl)]; rfl
    rw [hGb] at hgr
    go_upto_region 2 with (go_at_call 18; refine (hgr _ hE0).mono ?_; rintro e w1 ⟨rfl, hE1⟩)
    clear p0 p1 p2 p3 q0 q1 q2 q3
    obtain ⟨⟨hRlt, r0, r1, r2, r3⟩, hfz⟩ := id (hF.ext hE1)
    have z0 := hfz 0
    have z1 := hfz 1
    have z2 := hfz 2
    have z3 := hfz 3
    obtain ⟨rE, rD, rO⟩ := res4 (a := w) (R := w.heap.size + 2) (S := fun _ => False) (hE0.trans hE1) (by omega) (fun hh => hh) (noL_in _ w1).1 (noL_in _ w1).2 (.int .i64 0) (.int .i64 0) (.string ⟨#[]⟩) (.slice none 0 0)
    have rE := (show Hid _ from rE)
    have rD := (show Hid _ from rD)
    have rO := (show Hid _ from rO)
    go_wp2
    refine bodyPost_ret (v := .agg #[.int .i64 0, .int .i64 0, .string ⟨#[]⟩, .slice none 0 0]) (by simp [results, Tryz.results6, go_sem, r0, r1, r2, r3]) rfl ?_
    exact GetPost.of (Q := fun _ => False) rfl (by rw [hA.out]; rfl) (by rw [hA.out]; rfl) (by rw [hA.out]; rfl) (by rw [hA.out]; exact rD.out) (by rw [hA.out]; exact rO.out) (fun x hx => hx.elim) rE.out
  · rw [hGb] at hgr
    cases hKb : K
    · have hA : Hid (A = VD.zero) := by show _ = _; rw [HA.out false (by rw [hGb, hKb]; rfl)]; rfl
      rw [hKb] at hvk
      go_upto_region 2 with (first
        | (go_at_call 18; refine (hgr _ hE0).mono ?_; rintro e w1 ⟨rfl, hE1⟩; clear p0 p1 p2 p3 q0 q1 q2 q3; obtain ⟨⟨p0, p1, p2, p3⟩, ⟨q0, q1, q2, q3⟩, hF1⟩ := hbx _ hE1)
        | (go_at_call 19; refine (hvk _ (hE0.trans hE1)).mono ?_; rintro e w2 ⟨rfl, hE2⟩))
      clear p0 p1 p2 p3 q0 q1 q2 q3
      obtain ⟨⟨hRlt, r0, r1, r2, r3⟩, hfz⟩ := id (hF1.ext hE2)
      have z0 := hfz 0
      have z1 := hfz 1
      have z2 := hfz 2
      have z3 := hfz 3
      obtain ⟨rE, rD, rO⟩ := res4 (a := w) (R := w.heap.size + 2) (S := fun _ => False) (hE0.trans (hE1.trans hE2)) (by omega) (fun hh => hh) (noL_in _ w2).1 (noL_in _ w2).2 (.int .i64 0) (.int .i64 0) (.string ⟨#[]⟩) (.slice none 0 0)
      have rE := (show Hid _ from rE)
      have rD := (show Hid _ from rD)
      have rO := (show Hid _ from rO)
      go_wp2
      refine bodyPost_ret (v := .agg #[.int .i64 0, .int .i64 0, .string ⟨#[]⟩, .slice none 0 0]) (by simp [results, Tryz.results6, go_sem, r0, r1, r2, r3]) rfl ?_
      exact GetPost.of (Q := fun _ => False) rfl (by rw [hA.out]; rfl) (by rw [hA.out]; rfl) (by rw [hA.out]; rfl) (by rw [hA.out]; exact rD.out) (by rw [hA.out]; exact rO.out) (fun x hx => hx.elim) rE.out
    · have hA : Hid (A = P) := by show _ = _; rw [HA.out true (by rw [hGb, hKb]; rfl)]; rfl
      rw [hKb] at hvk
      go_upto_region 3 with (first
        | (go_at_call 18; refine (hgr _ hE0).mono ?_; rintro e w1 ⟨rfl, hE1⟩; clear p0 p1 p2 p3 q0 q1 q2 q3; obtain ⟨⟨p0, p1, p2, p3⟩, ⟨q0, q1, q2, q3⟩, hF1⟩ := hbx _ hE1)
        | (go_at_call 19; refine (hvk _ (hE0.trans hE1)).mono ?_; rintro e w2 ⟨rfl, hE2⟩; clear p0 p1 p2 p3 q0 q1 q2 q3; obtain ⟨⟨p0, p1, p2, p3⟩, ⟨q0, q1, q2, q3⟩, hF2⟩ := hbx _ (hE1.trans hE2)))
      go_wp2_with fail
      refine (hget _ (hE0.trans (hE1.trans hE2))).mono ?_
      intro e w3 hpost
      cases hpost with
      | mk u Q _ gd go gq hE3 =>
      clear p0 p1 p2 p3 q0 q1 q2 q3
      have hz1 := hE1.le
      have hz2 := hE2.le
      obtain ⟨au, capu, lu, fu, hdu, rfl, _, _⟩ := list_shape hhas gd
      clear hdu
      obtain ⟨⟨hRlt, r0, r1, r2, r3⟩, hfz⟩ := id (hF2.ext hE3)
      have z0 := hfz 0
      have z1 := hfz 1
      have z2 := hfz 2
      have z3 := hfz 3
      obtain ⟨Pk, Pn, Pt, Pl⟩ := P
      dsimp only at gd go
      obtain ⟨rE, rD, rO⟩ := res4 (a := w) (R := w.heap.size + 2) (S := Q) (hE0.trans (hE1.trans (hE2.trans hE3))) (by omega) (fun hh => by have := (gq _ hh).1; omega) gd go (.int .i64 Pk) (.int .i64 Pn) (.string Pt) (.slice au lu capu)
      have rE := (show Hid _ from rE)
      have rD := (show Hid _ from rD)
      have rO := (show Hid _ from rO)
      go_wp2
      refine bodyPost_ret (v := .agg #[.int .i64 Pk, .int .i64 Pn, .string Pt, .slice au lu capu]) (by simp [results, Tryz.results6, go_sem, r0, r1, r2, r3]) rfl ?_
      exact GetPost.of rfl (by rw [hA.out]) (by rw [hA.out]) (by rw [hA.out]) (by rw [hA.out]; exact rD.out) (by rw [hA.out]; exact rO.out) (fun x hx => ⟨by have := (gq x hx).1; omega, by simpa using (gq x hx).2⟩) rE.out
end Go.Proofs.YtggnfhicgpleeaaGreat
