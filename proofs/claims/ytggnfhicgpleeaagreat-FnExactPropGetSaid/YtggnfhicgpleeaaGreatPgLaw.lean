/- At every graph, every value and every name the law FnExactPropGet answers true. -/
import Derived.Test.YtggnfhicgpleeaaGreatPgSpec2
import Derived.Test.YtggnfhicgpleeaaGreatPgI
import Derived.Test.YtggnfhicgpleeaaGreatPgThy
import Derived.Test.YtggnfhicgpleeaaGreatDMk
import Derived.Test.YtggnfhicgpleeaaGreatDHl
import Derived.Test.YtggnfhicgpleeaaGreatDSz
import Derived.Test.YtggnfhicgpleeaaGreatDTo
import Derived.Test.YtggnfhicgpleeaaGreatDEq
import Derived.Deep.RegionHeld3
import Derived.Deep.DeepCutAuto
namespace Go.Proofs.YtggnfhicgpleeaaGreat
open Go.RowKit Go.Deep

set_option maxRecDepth 100000 in
set_option maxHeartbeats 16000000 in
theorem pgLaw (d0 d1 d3 : D) (c0 c1 c3 : Value) (x2 x3 k n : Int) (t s : ByteArray) (w : World) (zs : s.size ≤ maxLen) (zk : (Lit.int .i64 k).wf = true) (zn : (Lit.int .i64 n).wf = true) (zt : t.size ≤ maxLen) (H0 : Has d0 (.list 4)) (h0 : DIn anyB w d0 c0) (H1 : Has d1 (.list 5)) (h1 : DIn anyB w d1 c1) (H3 : Has d3 (.list 2)) (h3 : DIn anyB w d3 c3) :
    Calls Tryz.prog 3 #[.agg #[c0, c1, .int .i64 x2, .int .i64 x3], .agg #[.int .i64 k, .int .i64 n, .string t, c3], .string s] w fun e w' => e = .returned (.bool true) ∧ Ext w w' := by
  obtain ⟨a0, cap0, l0, _, hq_, hc_, _, _⟩ := list_shape H0 h0
  subst hc_
  clear hq_
  obtain ⟨a1, cap1, l1, _, hq_, hc_, _, _⟩ := list_shape H1 h1
  subst hc_
  clear hq_
  obtain ⟨a3, cap3, l3, _, hq_, hc_, _, _⟩ := list_shape H3 h3
  subst hc_
  clear hq_
  obtain ⟨wA, hwA⟩ : ∃ wA, wA = (w.alloc (.cells #[.slice a0 l0 cap0, .slice a1 l1 cap1, .int .i64 x2, .int .i64 x3] 25)).alloc (.cells #[.int .i64 k, .int .i64 n, .string t, .slice a3 l3 cap3] 28) := ⟨_, rfl⟩
  obtain ⟨bA, hbA⟩ : ∃ m, m = w.heap.size := ⟨_, rfl⟩
  obtain ⟨bV, hbV⟩ : ∃ m, m = w.heap.size + 1 := ⟨_, rfl⟩
  have hEA : Ext w wA := by rw [hwA]; exact ((Ext.refl _).alloc _).alloc _
  have hA : FG wA bA [.slice a0 l0 cap0, .slice a1 l1 cap1, .int .i64 x2, .int .i64 x3] := by rw [hwA, hbA]; exact (FG.new _ _ _).ext ((Ext.refl _).alloc _) (by simp)
  have hV : FG wA bV [.int .i64 k, .int .i64 n, .string t, .slice a3 l3 cap3] := by rw [hwA, hbV]; have h := FG.new (w.alloc (.cells #[.slice a0 l0 cap0, .slice a1 l1 cap1, .int .i64 x2, .int .i64 x3] 25)) #[.int .i64 k, .int .i64 n, .string t, .slice a3 l3 cap3] 28; rw [World.size_alloc] at h; exact h
  have hzA : bV < wA.heap.size := by rw [hwA, hbV]; simp
  have hbAa : bA = w.heap.size ∧ bV = w.heap.size + 1 := ⟨hbA, hbV⟩
  have hbAb : bA < bV ∧ w.heap.size ≤ bA := by omega
  clear hbAa
  unfold maxLen at zs
  by_cases hs0 : 1048576 < s.size
  · clear hwA hbA hbV
    go_enter Tryz.func3, Tryz.ntmps3
    go_wp2
    go_ret
    exact ⟨rfl, ((Ext.refl _).alloc _).alloc _⟩
  have hs1 : ¬ (1048576 : Int) < (s.size : Int) := by omega
  go_enter Tryz.func3, Tryz.ntmps3
  go_wp2_with fail
  rw [← hwA, ← hbV, ← hbA]
  clear hwA hbA hbV
  have p := hA
  have p0 := p 0 _ rfl
  have p1 := p 1 _ rfl
  have p2 := p 2 _ rfl
  have p3 := p 3 _ rfl
  clear p
  refine (szGraph_any anyB d0 _ d1 _ x2 x3 wA _ H0 (h0.ext hEA) H1 (h1.ext hEA) (by omega) (by omega)).mono ?_
  rintro e w1 ⟨r, rfl, hr1, hr2, hr, hE1⟩
  clear p0 p1 p2 p3
  by_cases hr0 : r < 0
  · go_wp2
    go_ret
    exact ⟨rfl, hEA.trans hE1⟩
  obtain ⟨s0, s1, hlen⟩ := hr (by omega)
  clear hr
  have hE1' := hEA.trans hE1
  have hV1 := hV.ext hE1 hzA
  have p0 := hV1 0 _ rfl
  have p1 := hV1 1 _ rfl
  have p2 := hV1 2 _ rfl
  have p3 := hV1 3 _ rfl
  go_wp2_with fail
  refine (szValue_any anyB k n t d3 _ w1 _ (szValueS_any d3 H3) zt H3 (h3.ext hE1') (by omega) (by omega)).mono ?_
  rintro e w2 ⟨r', rfl, hr1', hr2', hr', hE2⟩
  clear p0 p1 p2 p3 hV1
  by_cases hr0' : r' < 0
  · go_wp2
    go_ret
    exact ⟨rfl, hE1'.trans hE2⟩
  obtain ⟨_, s3, hlen3⟩ := hr' (by omega)
  clear hr'
  have hEw2 := hE1'.trans hE2
  have hcnt0 := cnt_list H0 s0
  have hcnt1 := cnt_list H1 s1
  have hcnt3 := cnt_list H3 s3
  have hcnt : Hid (1 + cntD d0 + cntD d1 + cntD d3 ≤ 500000000) := by show _ ≤ _; omega
  have hnn : Hid (¬ r' < 0) := hr0'
  clear hcnt0 hcnt1 hcnt3 hlen hlen3 hr1 hr2 hr1' hr2'
  -- what the functions answer
  have hto := fun (W : World) (hW : Ext w W) => toGraph_any anyB d0 _ d1 _ x2 x3 W H0 (h0.ext hW) s0 H1 (h1.ext hW) s1
  have htv := fun (W : World) (hW : Ext w W) => toValue_any anyB k n t d3 _ W (toValueS_any d3 H3) H3 (h3.ext hW) s3
  have hsp := fun (W : World) (c0 c1 c3 : Value) (k0 : DIn anyB W d0 c0) (k1 : DIn anyB W d1 c1) (k3 : DIn anyB W d3 c3) => specPropGet_any anyB anyB d0 d1 d3 c0 c1 c3 x2 x3 k n t s W H0 k0 s0 H1 k1 s1 zk zn zt H3 k3
  have him := fun (W : World) (c0 c1 c3 : Value) (k0 : DIn anyB W d0 c0) (k1 : DIn anyB W d1 c1) (k3 : DIn anyB W d3 c3) => implPropGet_any anyB anyB d0 d1 d3 c0 c1 c3 x2 x3 k n t s W H0 k0 s0 H1 k1 s1 zk zn zt H3 k3
  have HA := getAns_has H0 H1 (graphB d0 d1 x2 x3 && okN 3 (.mk k n t (vsOf d3))) k n s
  have LA := small_lenOk _ (getAns_small H0 H1 s0 s1 (graphB d0 d1 x2 x3 && okN 3 (.mk k n t (vsOf d3))) k n s)
  have hca : Hid (1 + cntD (getAns (graphB d0 d1 x2 x3 && okN 3 (.mk k n t (vsOf d3))) d0 d1 k n s).l ≤ 1000000000) := by
    have h1 := hcnt.out
    have h2 := getAns_cnt H0 H1 (graphB d0 d1 x2 x3 && okN 3 (.mk k n t (vsOf d3))) k n s
    show _ ≤ _
    omega
  generalize getAns (graphB d0 d1 x2 x3 && okN 3 (.mk k n t (vsOf d3))) d0 d1 k n s = A at *
  have hE12 := hE1.trans hE2
  have hz12 := hE12.le
  have hA2 : FG w2 bA [.slice a0 l0 cap0, .slice a1 l1 cap1, .int .i64 x2, .int .i64 x3] := hA.ext hE12 (by omega)
  have hV2 : FG w2 bV [.int .i64 k, .int .i64 n, .string t, .slice a3 l3 cap3] := hV.ext hE12 (by omega)
  clear hA hV
  have HK : Hid (∀ W, Ext w2 W → (W.cell? ⟨bA, 0, none⟩ = some (.slice a0 l0 cap0) ∧ W.cell? ⟨bA, 1, none⟩ = some (.slice a1 l1 cap1) ∧ W.cell? ⟨bA, 2, none⟩ = some (.int .i64 x2) ∧ W.cell? ⟨bA, 3, none⟩ = some (.int .i64 x3)) ∧ (W.cell? ⟨bV, 0, none⟩ = some (.int .i64 k) ∧ W.cell? ⟨bV, 1, none⟩ = some (.int .i64 n) ∧ W.cell? ⟨bV, 2, none⟩ = some (.string t) ∧ W.cell? ⟨bV, 3, none⟩ = some (.slice a3 l3 cap3))) := fun W hW => by
    have hA := hA2.ext hW (by omega)
    have hV := hV2.ext hW (by omega)
    exact ⟨⟨hA 0 _ rfl, hA 1 _ rfl, hA 2 _ rfl, hA 3 _ rfl⟩, hV 0 _ rfl, hV 1 _ rfl, hV 2 _ rfl, hV 3 _ rfl⟩
  go_upto_region 10 with fail
  go_cut [8] (fun s wc => ∃ R u Q, s = .pointer (some ⟨R, 0, none⟩) ∧ BoxV w2.heap.size A wc R u Q ∧ Ext w2 wc)
  case first =>
    have hc0 : Ext w2 w2.drew := (Ext.refl _).drew
    have sz0 := hc0.le
    refine wp_region_held_drew (S := (fun W => (W.cell? ⟨bA, 0, none⟩ = some (.slice a0 l0 cap0) ∧ W.cell? ⟨bA, 1, none⟩ = some (.slice a1 l1 cap1) ∧ W.cell? ⟨bA, 2, none⟩ = some (.int .i64 x2) ∧ W.cell? ⟨bA, 3, none⟩ = some (.int .i64 x3)) ∧ (W.cell? ⟨bV, 0, none⟩ = some (.int .i64 k) ∧ W.cell? ⟨bV, 1, none⟩ = some (.int .i64 n) ∧ W.cell? ⟨bV, 2, none⟩ = some (.string t) ∧ W.cell? ⟨bV, 3, none⟩ = some (.slice a3 l3 cap3)))) (by kernel_rfl) (HK.out _ hc0) (fun hHeld => ?_)
    refine wpAnyH_take (i := 0) (oi := ⟨some 29, .load 25 (.tmp 3), 25, _, #[], none⟩) (v := ?_) rfl (by kernel_rfl) (by kernel_rfl) (by kernel_rfl) (fun _ _ _ h => h) (Or.inl ⟨by rfl, ?yyA0⟩) hHeld ?rrA0
    case yyA0 => (intro w hSw; (try dsimp only at hSw); go_simp; first | done | with_reducible rfl)
    try simp only [Act.put, putA, putB, putC]
    refine wpAnyH_take (i := 2) (oi := ⟨some 31, .load 28 (.tmp 4), 28, _, #[], none⟩) (v := ?_) rfl (by kernel_rfl) (by kernel_rfl) (by kernel_rfl) (fun _ _ _ h => h) (Or.inl ⟨by rfl, ?yyA2⟩) hHeld ?rrA2
    case yyA2 => (intro w hSw; (try dsimp only at hSw); go_simp; first | done | with_reducible rfl)
    try simp only [Act.put, putA, putB, putC]
    refine wpAnyH_take (i := 4) (oi := ⟨some 33, .move (.tmp 2), 9, _, #[], none⟩) (v := ?_) rfl (by kernel_rfl) (by kernel_rfl) (by kernel_rfl) (fun _ _ _ h => h) (Or.inl ⟨by rfl, ?yyA4⟩) hHeld ?rrA4
    case yyA4 => (intro w hSw; (try dsimp only at hSw); go_simp; first | done | with_reducible rfl)
    try simp only [Act.put, putA, putB, putC]
    generalize w2.drew = W0 at *
    refine wpAnyH_ready (rs := [1, 6]) (by kernel_rfl) (by simp) ?_
    refine AllReadyH.cons (o := ⟨some 30, .call { callee := .value (.func 7), args := #[.tmp 29], argTypes := #[25] }, 38, _, #[⟨0, .data⟩], none⟩) rfl (fun K hK => ?_) (AllReadyH.cons (o := ⟨some 8, .alloc 33, 0, _, #[], none⟩) rfl (fun K hK => ?_) (AllReadyH.nil))
    · go_simp
      refine (hto _ (hEw2.trans hc0)).mono ?_
      rintro e W1 ⟨u0, u1, Qa, Qb, rfl, ⟨hu0, _, _⟩, ⟨hu1, _, _⟩, _, hx⟩
      obtain ⟨uaa, uac, ual, _, hq_, hc_, _, _⟩ := list_shape H0 hu0
      subst hc_
      clear hq_
      obtain ⟨uba, ubc, ubl, _, hq_, hc_, _, _⟩ := list_shape H1 hu1
      subst hc_
      clear hq_
      go_wp2_with fail
      have hc1 := (hc0).trans hx
      have sz1 := hx.le
      clear hx
      refine hK.out _ _ (HK.out _ hc1) (fun hHeld => ?_)
      clear hK K
      try simp only [Act.put, putA, putB, putC]
      refine wpAnyH_ready (rs := [3, 6]) (by kernel_rfl) (by simp) ?_
      refine AllReadyH.cons (o := ⟨some 32, .call { callee := .value (.func 8), args := #[.tmp 31], argTypes := #[28] }, 33, _, #[⟨2, .data⟩, ⟨1, .chain⟩], none⟩) rfl (fun K hK => ?_) (AllReadyH.cons (o := ⟨some 8, .alloc 33, 0, _, #[], none⟩) rfl (fun K hK => ?_) (AllReadyH.nil))
      · go_simp
        refine (htv _ (hEw2.trans hc1)).mono ?_
        rintro e W2 ⟨u3, Qc, rfl, ⟨hu3, _, _⟩, hx⟩
        obtain ⟨uva, uvc, uvl, _, hq_, hc_, _, _⟩ := list_shape H3 hu3
        subst hc_
        clear hq_
        go_wp2_with fail
        have hc2 := (hc1).trans hx
        have sz2 := hx.le
        replace hu0 := hu0.ext hx
        replace hu1 := hu1.ext hx
        clear hx
        refine hK.out _ _ (HK.out _ hc2) (fun hHeld => ?_)
        clear hK K
        try simp only [Act.put, putA, putB, putC]
        refine wpAnyH_ready (rs := [5, 6]) (by kernel_rfl) (by simp) ?_
        refine AllReadyH.cons (o := ⟨some 34, .call { callee := .value (.func 6), args := #[.tmp 30, .tmp 32, .tmp 33], argTypes := #[38, 33, 9] }, 33, _, #[⟨1, .data⟩, ⟨3, .data⟩, ⟨4, .data⟩, ⟨3, .chain⟩], none⟩) rfl (fun K hK => ?_) (AllReadyH.cons (o := ⟨some 8, .alloc 33, 0, _, #[], none⟩) rfl (fun K hK => ?_) (AllReadyH.nil))
        · go_simp
          refine (hsp _ _ _ _ hu0.any hu1.any hu3.any).mono ?_
          rintro e W3 ⟨uG, QG, _, hG, oG, qG, hx⟩
          obtain ⟨vga, vgc, vgl, _, hq_, hc_, _, _⟩ := list_shape HA hG
          subst hc_
          clear hq_
          clear hu0 hu1 hu3
          go_wp2_with fail
          have hc3 := (hc2).trans hx
          have sz3 := hx.le
          clear hx
          refine hK.out _ _ (HK.out _ hc3) (fun hHeld => ?_)
          clear hK K
          try simp only [Act.put, putA, putB, putC]
          refine wpAnyH_ready (rs := [6]) (by kernel_rfl) (by simp) ?_
          refine AllReadyH.cons (o := ⟨some 8, .alloc 33, 0, _, #[], none⟩) rfl (fun K hK => ?_) (AllReadyH.nil)
          go_simp
          have hx : Ext W3 (W3.alloc (.cells #[.int .i64 0, .int .i64 0, .string ⟨#[]⟩, .slice none 0 0] 33)) := (Ext.refl _).alloc _
          have FR := FG.new W3 #[.int .i64 0, .int .i64 0, .string ⟨#[]⟩, .slice none 0 0] 33
          have FZ : ∀ j, (W3.alloc (.cells #[.int .i64 0, .int .i64 0, .string ⟨#[]⟩, .slice none 0 0] 33)).frozen? ⟨W3.heap.size, j, none⟩ = false := fun j => World.frozen?_alloc_new W3 _ _ j
          have hRs : W3.heap.size < (W3.alloc (.cells #[.int .i64 0, .int .i64 0, .string ⟨#[]⟩, .slice none 0 0] 33)).heap.size := by simp
          obtain ⟨R, hR⟩ : ∃ m, m = W3.heap.size := ⟨_, rfl⟩
          have hR1 := Nat.le_of_eq hR
          have hR2 := Nat.le_of_eq hR.symm
          rw [← hR] at FR FZ hRs ⊢
          clear hR
          generalize W3.alloc (.cells #[.int .i64 0, .int .i64 0, .string ⟨#[]⟩, .slice none 0 0] 33) = W4 at *
          have nqG : ¬ QG R := fun h => by have := (qG _ h).2; omega
          have hc4 := (hc3).trans hx
          have sz4 := hx.le
          replace hG := hG.ext hx
          replace oG := oG.ext hx
          clear hx
          refine hK.out _ _ (HK.out _ hc4) (fun hHeld => ?_)
          clear hK K
          try simp only [Act.put, putA, putB, putC]
          refine wpAnyH_ready (rs := [7]) (by kernel_rfl) (by simp) ?_
          refine AllReadyH.cons (o := ⟨none, .store 33 (.tmp 8) (.tmp 34), 0, _, #[⟨6, .data⟩, ⟨5, .data⟩, ⟨5, .chain⟩, ⟨0, .phase⟩, ⟨1, .phase⟩, ⟨2, .phase⟩, ⟨3, .phase⟩, ⟨4, .phase⟩, ⟨5, .phase⟩, ⟨6, .phase⟩], none⟩) rfl (fun K hK => ?_) (AllReadyH.nil)
          have r0 := FR 0 _ rfl
          have r1 := FR 1 _ rfl
          have r2 := FR 2 _ rfl
          have r3 := FR 3 _ rfl
          have y0 := FZ 0
          have y1 := FZ 1
          have y2 := FZ 2
          have y3 := FZ 3
          go_simp
          clear r0 r1 r2 r3 y0 y1 y2 y3
          have hB : BoxV w2.heap.size A _ R (.slice vga vgl vgc) QG := boxV_store (W := W4) FR (by omega) (by omega) hG oG (fun x hx => ⟨by have := (qG x hx).1; omega, by have := (qG x hx).2; omega⟩) nqG
          have hEz : Ext w2 ((((W4.setCell ⟨R, 0, none⟩ (.int .i64 A.k)).setCell ⟨R, 1, none⟩ (.int .i64 A.n)).setCell ⟨R, 2, none⟩ (.string A.t)).setCell ⟨R, 3, none⟩ (.slice vga vgl vgc)) := (((hc4.setCell (show _ ≤ R by omega) _).setCell (show _ ≤ R by omega) _).setCell (show _ ≤ R by omega) _).setCell (show _ ≤ R by omega) _
          refine hK.out _ _ (HK.out _ hEz) (fun hHeld => ?_)
          clear hK K
          try simp only [Act.put, putA, putB, putC]
          refine wpAnyH_done (by kernel_rfl) ?_ _
          go_wp2
          go_meet
          case rel => exact ⟨R, _, QG, rfl, hB, hEz⟩
        · go_simp
          have hx : Ext W2 (W2.alloc (.cells #[.int .i64 0, .int .i64 0, .string ⟨#[]⟩, .slice none 0 0] 33)) := (Ext.refl _).alloc _
          have FR := FG.new W2 #[.int .i64 0, .int .i64 0, .string ⟨#[]⟩, .slice none 0 0] 33
          have FZ : ∀ j, (W2.alloc (.cells #[.int .i64 0, .int .i64 0, .string ⟨#[]⟩, .slice none 0 0] 33)).frozen? ⟨W2.heap.size, j, none⟩ = false := fun j => World.frozen?_alloc_new W2 _ _ j
          have hRs : W2.heap.size < (W2.alloc (.cells #[.int .i64 0, .int .i64 0, .string ⟨#[]⟩, .slice none 0 0] 33)).heap.size := by simp
          obtain ⟨R, hR⟩ : ∃ m, m = W2.heap.size := ⟨_, rfl⟩
          have hR1 := Nat.le_of_eq hR
          have hR2 := Nat.le_of_eq hR.symm
          rw [← hR] at FR FZ hRs ⊢
          clear hR
          generalize W2.alloc (.cells #[.int .i64 0, .int .i64 0, .string ⟨#[]⟩, .slice none 0 0] 33) = W3 at *
          have hc3 := (hc2).trans hx
          have sz3 := hx.le
          replace hu0 := hu0.ext hx
          replace hu1 := hu1.ext hx
          replace hu3 := hu3.ext hx
          clear hx
          refine hK.out _ _ (HK.out _ hc3) (fun hHeld => ?_)
          clear hK K
          try simp only [Act.put, putA, putB, putC]
          refine wpAnyH_ready (rs := [5]) (by kernel_rfl) (by simp) ?_
          refine AllReadyH.cons (o := ⟨some 34, .call { callee := .value (.func 6), args := #[.tmp 30, .tmp 32, .tmp 33], argTypes := #[38, 33, 9] }, 33, _, #[⟨1, .data⟩, ⟨3, .data⟩, ⟨4, .data⟩, ⟨3, .chain⟩], none⟩) rfl (fun K hK => ?_) (AllReadyH.nil)
          go_simp
          refine (hsp _ _ _ _ hu0.any hu1.any hu3.any).mono ?_
          rintro e W4 ⟨uG, QG, _, hG, oG, qG, hx⟩
          obtain ⟨vga, vgc, vgl, _, hq_, hc_, _, _⟩ := list_shape HA hG
          subst hc_
          clear hq_
          have nqG : ¬ QG R := fun h => by have := (qG _ h).1; omega
          clear hu0 hu1 hu3
          go_wp2_with fail
          have hc4 := (hc3).trans hx
          have sz4 := hx.le
          replace FZ := fun j => ((bcell hx).2 R j (by omega)).trans (FZ j)
          replace FR := FR.ext hx (by omega)
          clear hx
          refine hK.out _ _ (HK.out _ hc4) (fun hHeld => ?_)
          clear hK K
          try simp only [Act.put, putA, putB, putC]
          refine wpAnyH_ready (rs := [7]) (by kernel_rfl) (by simp) ?_
          refine AllReadyH.cons (o := ⟨none, .store 33 (.tmp 8) (.tmp 34), 0, _, #[⟨6, .data⟩, ⟨5, .data⟩, ⟨5, .chain⟩, ⟨0, .phase⟩, ⟨1, .phase⟩, ⟨2, .phase⟩, ⟨3, .phase⟩, ⟨4, .phase⟩, ⟨5, .phase⟩, ⟨6, .phase⟩], none⟩) rfl (fun K hK => ?_) (AllReadyH.nil)
          have r0 := FR 0 _ rfl
          have r1 := FR 1 _ rfl
          have r2 := FR 2 _ rfl
          have r3 := FR 3 _ rfl
          have y0 := FZ 0
          have y1 := FZ 1
          have y2 := FZ 2
          have y3 := FZ 3
          go_simp
          clear r0 r1 r2 r3 y0 y1 y2 y3
          have hB : BoxV w2.heap.size A _ R (.slice vga vgl vgc) QG := boxV_store (W := W4) FR (by omega) (by omega) hG oG (fun x hx => ⟨by have := (qG x hx).1; omega, by have := (qG x hx).2; omega⟩) nqG
          have hEz : Ext w2 ((((W4.setCell ⟨R, 0, none⟩ (.int .i64 A.k)).setCell ⟨R, 1, none⟩ (.int .i64 A.n)).setCell ⟨R, 2, none⟩ (.string A.t)).setCell ⟨R, 3, none⟩ (.slice vga vgl vgc)) := (((hc4.setCell (show _ ≤ R by omega) _).setCell (show _ ≤ R by omega) _).setCell (show _ ≤ R by omega) _).setCell (show _ ≤ R by omega) _
          refine hK.out _ _ (HK.out _ hEz) (fun hHeld => ?_)
          clear hK K
          try simp only [Act.put, putA, putB, putC]
          refine wpAnyH_done (by kernel_rfl) ?_ _
          go_wp2
          go_meet
          case rel => exact ⟨R, _, QG, rfl, hB, hEz⟩
      · go_simp
        have hx : Ext W1 (W1.alloc (.cells #[.int .i64 0, .int .i64 0, .string ⟨#[]⟩, .slice none 0 0] 33)) := (Ext.refl _).alloc _
        have FR := FG.new W1 #[.int .i64 0, .int .i64 0, .string ⟨#[]⟩, .slice none 0 0] 33
        have FZ : ∀ j, (W1.alloc (.cells #[.int .i64 0, .int .i64 0, .string ⟨#[]⟩, .slice none 0 0] 33)).frozen? ⟨W1.heap.size, j, none⟩ = false := fun j => World.frozen?_alloc_new W1 _ _ j
        have hRs : W1.heap.size < (W1.alloc (.cells #[.int .i64 0, .int .i64 0, .string ⟨#[]⟩, .slice none 0 0] 33)).heap.size := by simp
        obtain ⟨R, hR⟩ : ∃ m, m = W1.heap.size := ⟨_, rfl⟩
        have hR1 := Nat.le_of_eq hR
        have hR2 := Nat.le_of_eq hR.symm
        rw [← hR] at FR FZ hRs ⊢
        clear hR
        generalize W1.alloc (.cells #[.int .i64 0, .int .i64 0, .string ⟨#[]⟩, .slice none 0 0] 33) = W2 at *
        have hc2 := (hc1).trans hx
        have sz2 := hx.le
        replace hu0 := hu0.ext hx
        replace hu1 := hu1.ext hx
        clear hx
        refine hK.out _ _ (HK.out _ hc2) (fun hHeld => ?_)
        clear hK K
        try simp only [Act.put, putA, putB, putC]
        refine wpAnyH_ready (rs := [3]) (by kernel_rfl) (by simp) ?_
        refine AllReadyH.cons (o := ⟨some 32, .call { callee := .value (.func 8), args := #[.tmp 31], argTypes := #[28] }, 33, _, #[⟨2, .data⟩, ⟨1, .chain⟩], none⟩) rfl (fun K hK => ?_) (AllReadyH.nil)
        go_simp
        refine (htv _ (hEw2.trans hc2)).mono ?_
        rintro e W3 ⟨u3, Qc, rfl, ⟨hu3, _, _⟩, hx⟩
        obtain ⟨uva, uvc, uvl, _, hq_, hc_, _, _⟩ := list_shape H3 hu3
        subst hc_
        clear hq_
        go_wp2_with fail
        have hc3 := (hc2).trans hx
        have sz3 := hx.le
        replace hu0 := hu0.ext hx
        replace hu1 := hu1.ext hx
        replace FZ := fun j => ((bcell hx).2 R j (by omega)).trans (FZ j)
        replace FR := FR.ext hx (by omega)
        clear hx
        refine hK.out _ _ (HK.out _ hc3) (fun hHeld => ?_)
        clear hK K
        try simp only [Act.put, putA, putB, putC]
        refine wpAnyH_ready (rs := [5]) (by kernel_rfl) (by simp) ?_
        refine AllReadyH.cons (o := ⟨some 34, .call { callee := .value (.func 6), args := #[.tmp 30, .tmp 32, .tmp 33], argTypes := #[38, 33, 9] }, 33, _, #[⟨1, .data⟩, ⟨3, .data⟩, ⟨4, .data⟩, ⟨3, .chain⟩], none⟩) rfl (fun K hK => ?_) (AllReadyH.nil)
        go_simp
        refine (hsp _ _ _ _ hu0.any hu1.any hu3.any).mono ?_
        rintro e W4 ⟨uG, QG, _, hG, oG, qG, hx⟩
        obtain ⟨vga, vgc, vgl, _, hq_, hc_, _, _⟩ := list_shape HA hG
        subst hc_
        clear hq_
        have nqG : ¬ QG R := fun h => by have := (qG _ h).1; omega
        clear hu0 hu1 hu3
        go_wp2_with fail
        have hc4 := (hc3).trans hx
        have sz4 := hx.le
        replace FZ := fun j => ((bcell hx).2 R j (by omega)).trans (FZ j)
        replace FR := FR.ext hx (by omega)
        clear hx
        refine hK.out _ _ (HK.out _ hc4) (fun hHeld => ?_)
        clear hK K
        try simp only [Act.put, putA, putB, putC]
        refine wpAnyH_ready (rs := [7]) (by kernel_rfl) (by simp) ?_
        refine AllReadyH.cons (o := ⟨none, .store 33 (.tmp 8) (.tmp 34), 0, _, #[⟨6, .data⟩, ⟨5, .data⟩, ⟨5, .chain⟩, ⟨0, .phase⟩, ⟨1, .phase⟩, ⟨2, .phase⟩, ⟨3, .phase⟩, ⟨4, .phase⟩, ⟨5, .phase⟩, ⟨6, .phase⟩], none⟩) rfl (fun K hK => ?_) (AllReadyH.nil)
        have r0 := FR 0 _ rfl
        have r1 := FR 1 _ rfl
        have r2 := FR 2 _ rfl
        have r3 := FR 3 _ rfl
        have y0 := FZ 0
        have y1 := FZ 1
        have y2 := FZ 2
        have y3 := FZ 3
        go_simp
        clear r0 r1 r2 r3 y0 y1 y2 y3
        have hB : BoxV w2.heap.size A _ R (.slice vga vgl vgc) QG := boxV_store (W := W4) FR (by omega) (by omega) hG oG (fun x hx => ⟨by have := (qG x hx).1; omega, by have := (qG x hx).2; omega⟩) nqG
        have hEz : Ext w2 ((((W4.setCell ⟨R, 0, none⟩ (.int .i64 A.k)).setCell ⟨R, 1, none⟩ (.int .i64 A.n)).setCell ⟨R, 2, none⟩ (.string A.t)).setCell ⟨R, 3, none⟩ (.slice vga vgl vgc)) := (((hc4.setCell (show _ ≤ R by omega) _).setCell (show _ ≤ R by omega) _).setCell (show _ ≤ R by omega) _).setCell (show _ ≤ R by omega) _
        refine hK.out _ _ (HK.out _ hEz) (fun hHeld => ?_)
        clear hK K
        try simp only [Act.put, putA, putB, putC]
        refine wpAnyH_done (by kernel_rfl) ?_ _
        go_wp2
        go_meet
        case rel => exact ⟨R, _, QG, rfl, hB, hEz⟩
    · go_simp
      have hx : Ext W0 (W0.alloc (.cells #[.int .i64 0, .int .i64 0, .string ⟨#[]⟩, .slice none 0 0] 33)) := (Ext.refl _).alloc _
      have FR := FG.new W0 #[.int .i64 0, .int .i64 0, .string ⟨#[]⟩, .slice none 0 0] 33
      have FZ : ∀ j, (W0.alloc (.cells #[.int .i64 0, .int .i64 0, .string ⟨#[]⟩, .slice none 0 0] 33)).frozen? ⟨W0.heap.size, j, none⟩ = false := fun j => World.frozen?_alloc_new W0 _ _ j
      have hRs : W0.heap.size < (W0.alloc (.cells #[.int .i64 0, .int .i64 0, .string ⟨#[]⟩, .slice none 0 0] 33)).heap.size := by simp
      obtain ⟨R, hR⟩ : ∃ m, m = W0.heap.size := ⟨_, rfl⟩
      have hR1 := Nat.le_of_eq hR
      have hR2 := Nat.le_of_eq hR.symm
      rw [← hR] at FR FZ hRs ⊢
      clear hR
      generalize W0.alloc (.cells #[.int .i64 0, .int .i64 0, .string ⟨#[]⟩, .slice none 0 0] 33) = W1 at *
      have hc1 := (hc0).trans hx
      have sz1 := hx.le
      clear hx
      refine hK.out _ _ (HK.out _ hc1) (fun hHeld => ?_)
      clear hK K
      try simp only [Act.put, putA, putB, putC]
      refine wpAnyH_ready (rs := [1]) (by kernel_rfl) (by simp) ?_
      refine AllReadyH.cons (o := ⟨some 30, .call { callee := .value (.func 7), args := #[.tmp 29], argTypes := #[25] }, 38, _, #[⟨0, .data⟩], none⟩) rfl (fun K hK => ?_) (AllReadyH.nil)
      go_simp
      refine (hto _ (hEw2.trans hc1)).mono ?_
      rintro e W2 ⟨u0, u1, Qa, Qb, rfl, ⟨hu0, _, _⟩, ⟨hu1, _, _⟩, _, hx⟩
      obtain ⟨uaa, uac, ual, _, hq_, hc_, _, _⟩ := list_shape H0 hu0
      subst hc_
      clear hq_
      obtain ⟨uba, ubc, ubl, _, hq_, hc_, _, _⟩ := list_shape H1 hu1
      subst hc_
      clear hq_
      go_wp2_with fail
      have hc2 := (hc1).trans hx
      have sz2 := hx.le
      replace FZ := fun j => ((bcell hx).2 R j (by omega)).trans (FZ j)
      replace FR := FR.ext hx (by omega)
      clear hx
      refine hK.out _ _ (HK.out _ hc2) (fun hHeld => ?_)
      clear hK K
      try simp only [Act.put, putA, putB, putC]
      refine wpAnyH_ready (rs := [3]) (by kernel_rfl) (by simp) ?_
      refine AllReadyH.cons (o := ⟨some 32, .call { callee := .value (.func 8), args := #[.tmp 31], argTypes := #[28] }, 33, _, #[⟨2, .data⟩, ⟨1, .chain⟩], none⟩) rfl (fun K hK => ?_) (AllReadyH.nil)
      go_simp
      refine (htv _ (hEw2.trans hc2)).mono ?_
      rintro e W3 ⟨u3, Qc, rfl, ⟨hu3, _, _⟩, hx⟩
      obtain ⟨uva, uvc, uvl, _, hq_, hc_, _, _⟩ := list_shape H3 hu3
      subst hc_
      clear hq_
      go_wp2_with fail
      have hc3 := (hc2).trans hx
      have sz3 := hx.le
      replace hu0 := hu0.ext hx
      replace hu1 := hu1.ext hx
      replace FZ := fun j => ((bcell hx).2 R j (by omega)).trans (FZ j)
      replace FR := FR.ext hx (by omega)
      clear hx
      refine hK.out _ _ (HK.out _ hc3) (fun hHeld => ?_)
      clear hK K
      try simp only [Act.put, putA, putB, putC]
      refine wpAnyH_ready (rs := [5]) (by kernel_rfl) (by simp) ?_
      refine AllReadyH.cons (o := ⟨some 34, .call { callee := .value (.func 6), args := #[.tmp 30, .tmp 32, .tmp 33], argTypes := #[38, 33, 9] }, 33, _, #[⟨1, .data⟩, ⟨3, .data⟩, ⟨4, .data⟩, ⟨3, .chain⟩], none⟩) rfl (fun K hK => ?_) (AllReadyH.nil)
      go_simp
      refine (hsp _ _ _ _ hu0.any hu1.any hu3.any).mono ?_
      rintro e W4 ⟨uG, QG, _, hG, oG, qG, hx⟩
      obtain ⟨vga, vgc, vgl, _, hq_, hc_, _, _⟩ := list_shape HA hG
      subst hc_
      clear hq_
      have nqG : ¬ QG R := fun h => by have := (qG _ h).1; omega
      clear hu0 hu1 hu3
      go_wp2_with fail
      have hc4 := (hc3).trans hx
      have sz4 := hx.le
      replace FZ := fun j => ((bcell hx).2 R j (by omega)).trans (FZ j)
      replace FR := FR.ext hx (by omega)
      clear hx
      refine hK.out _ _ (HK.out _ hc4) (fun hHeld => ?_)
      clear hK K
      try simp only [Act.put, putA, putB, putC]
      refine wpAnyH_ready (rs := [7]) (by kernel_rfl) (by simp) ?_
      refine AllReadyH.cons (o := ⟨none, .store 33 (.tmp 8) (.tmp 34), 0, _, #[⟨6, .data⟩, ⟨5, .data⟩, ⟨5, .chain⟩, ⟨0, .phase⟩, ⟨1, .phase⟩, ⟨2, .phase⟩, ⟨3, .phase⟩, ⟨4, .phase⟩, ⟨5, .phase⟩, ⟨6, .phase⟩], none⟩) rfl (fun K hK => ?_) (AllReadyH.nil)
      have r0 := FR 0 _ rfl
      have r1 := FR 1 _ rfl
      have r2 := FR 2 _ rfl
      have r3 := FR 3 _ rfl
      have y0 := FZ 0
      have y1 := FZ 1
      have y2 := FZ 2
      have y3 := FZ 3
      go_simp
      clear r0 r1 r2 r3 y0 y1 y2 y3
      have hB : BoxV w2.heap.size A _ R (.slice vga vgl vgc) QG := boxV_store (W := W4) FR (by omega) (by omega) hG oG (fun x hx => ⟨by have := (qG x hx).1; omega, by have := (qG x hx).2; omega⟩) nqG
      have hEz : Ext w2 ((((W4.setCell ⟨R, 0, none⟩ (.int .i64 A.k)).setCell ⟨R, 1, none⟩ (.int .i64 A.n)).setCell ⟨R, 2, none⟩ (.string A.t)).setCell ⟨R, 3, none⟩ (.slice vga vgl vgc)) := (((hc4.setCell (show _ ≤ R by omega) _).setCell (show _ ≤ R by omega) _).setCell (show _ ≤ R by omega) _).setCell (show _ ≤ R by omega) _
      refine hK.out _ _ (HK.out _ hEz) (fun hHeld => ?_)
      clear hK K
      try simp only [Act.put, putA, putB, putC]
      refine wpAnyH_done (by kernel_rfl) ?_ _
      go_wp2
      go_meet
      case rel => exact ⟨R, _, QG, rfl, hB, hEz⟩
  case rest =>
    obtain ⟨bB, uW, QW, rfl, hB, hE3⟩ := hcut
    obtain ⟨w3, rfl⟩ : ∃ w3, w3 = wc := ⟨_, rfl⟩
    clear HK hsp
    have hE3' := hEw2.trans hE3
    have hz3 := hE3.le
    have hzB := hB.lt
    have hQWb : ∀ x, QW x → x < w3.heap.size := fun x hx => (hB.bnd x hx).2
    have hgB := hB.ge
    have hA3 := hA2.ext hE3 (by omega)
    have hV3 := hV2.ext hE3 (by omega)
    clear hA2 hV2
    have p0 := hA3 0 _ rfl
    have p1 := hA3 1 _ rfl
    have p2 := hA3 2 _ rfl
    have p3 := hA3 3 _ rfl
    go_wp2_with fail
    refine (hto w3 hE3').mono ?_
    rintro e w4 ⟨u0, u1, Q0, Q1, rfl, ⟨hX0, oX0, qX0⟩, ⟨hX1, oX1, qX1⟩, hdq, hE4⟩
    clear p0 p1 p2 p3
    obtain ⟨xa0, xc0, xl0, _, hq_, hc_, _, _⟩ := list_shape H0 hX0
    subst hc_
    clear hq_
    obtain ⟨xa1, xc1, xl1, _, hq_, hc_, _, _⟩ := list_shape H1 hX1
    subst hc_
    clear hq_
    have hz4 := hE4.le
    have hE5 : Ext w4 (w4.alloc (.cells #[.slice xa0 xl0 xc0, .slice xa1 xl1 xc1, .int .i64 x2, .int .i64 x3] 38)) := (Ext.refl _).alloc _
    have z5 : (w4.alloc (.cells #[.slice xa0 xl0 xc0, .slice xa1 xl1 xc1, .int .i64 x2, .int .i64 x3] 38)).heap.size = w4.heap.size + 1 := by simp
    have hC := FG.new w4 #[.slice xa0 xl0 xc0, .slice xa1 xl1 xc1, .int .i64 x2, .int .i64 x3] 38
    obtain ⟨bC, hbC⟩ : ∃ m, m = w4.heap.size := ⟨_, rfl⟩
    have hbCa := Nat.le_of_eq hbC
    have hbCb := Nat.le_of_eq hbC.symm
    have hV5 := (hV3.ext hE4 (by omega)).ext hE5 (by omega)
    have p0 := hV5 0 _ rfl
    have p1 := hV5 1 _ rfl
    have p2 := hV5 2 _ rfl
    have p3 := hV5 3 _ rfl
    go_wp2_with fail
    generalize hw5 : World.alloc w4 _ = w5 at *
    rw [← hbC] at hC ⊢
    clear hw5 hbC
    have hE5' := (hE3'.trans hE4).trans hE5
    refine (htv w5 hE5').mono ?_
    rintro e w6 ⟨u3, Q3, rfl, ⟨hX3, oX3, qX3⟩, hE6⟩
    clear p0 p1 p2 p3
    obtain ⟨xa3, xc3, xl3, _, hq_, hc_, _, _⟩ := list_shape H3 hX3
    subst hc_
    clear hq_
    have hz6 := hE6.le
    have hE7 : Ext w6 (w6.alloc (.cells #[.int .i64 k, .int .i64 n, .string t, .slice xa3 xl3 xc3] 33)) := (Ext.refl _).alloc _
    have z7 : (w6.alloc (.cells #[.int .i64 k, .int .i64 n, .string t, .slice xa3 xl3 xc3] 33)).heap.size = w6.heap.size + 1 := by simp
    have hD := FG.new w6 #[.int .i64 k, .int .i64 n, .string t, .slice xa3 xl3 xc3] 33
    obtain ⟨bD, hbD⟩ : ∃ m, m = w6.heap.size := ⟨_, rfl⟩
    have hbDa := Nat.le_of_eq hbD
    have hbDb := Nat.le_of_eq hbD.symm
    have hE47 := (hE5.trans hE6).trans hE7
    have hC7 := (hC.ext hE6 (by omega)).ext hE7 (by omega)
    have hD7 := hD
    rw [← hbD] at hD7
    have p0 := hC7 0 _ rfl
    have p1 := hC7 1 _ rfl
    have p2 := hC7 2 _ rfl
    have p3 := hC7 3 _ rfl
    have q0 := hD7 0 _ rfl
    have q1 := hD7 1 _ rfl
    have q2 := hD7 2 _ rfl
    have q3 := hD7 3 _ rfl
    have him7 := him _ _ _ _ (hX0.any.ext hE47) (hX1.any.ext hE47) (hX3.any.ext hE7)
    clear hD hC
    go_wp2_with fail
    rw [← hbD]
    generalize hw7 : World.alloc w6 _ = w7 at *
    clear hw7 hbD
    refine him7.mono ?_
    rintro e w8 ⟨uG, QG, _, hG, oG, qG, hE8⟩
    clear him7 p0 p1 p2 p3 q0 q1 q2 q3
    obtain ⟨ga, gc, gl, _, hq_, hc_, _, _⟩ := list_shape HA hG
    subst hc_
    clear hq_
    have hz8 := hE8.le
    have hE9 : Ext w8 (w8.alloc (.cells #[.int .i64 A.k, .int .i64 A.n, .string A.t, .slice ga gl gc] 33)) := (Ext.refl _).alloc _
    have z9 : (w8.alloc (.cells #[.int .i64 A.k, .int .i64 A.n, .string A.t, .slice ga gl gc] 33)).heap.size = w8.heap.size + 1 := by simp
    have hF : BoxV w7.heap.size A (w8.alloc (.cells #[.int .i64 A.k, .int .i64 A.n, .string A.t, .slice ga gl gc] 33)) w8.heap.size (.slice ga gl gc) QG := boxV_new hE8.le hG oG qG
    have hBs : BoxV w2.heap.size A (w8.alloc (.cells #[.int .i64 A.k, .int .i64 A.n, .string A.t, .slice ga gl gc] 33)) bB uW QW := (((hB.ext hE4).ext hE47).ext hE8).ext hE9
    obtain ⟨bF, hbF⟩ : ∃ m, m = w8.heap.size := ⟨_, rfl⟩
    have hbFa := Nat.le_of_eq hbF
    have hbFb := Nat.le_of_eq hbF.symm
    rw [← hbF] at hF
    obtain ⟨va, vc, vl, _, hq_, hc_, _, _⟩ := list_shape HA hBs.din
    subst hc_
    clear hq_
    have hA9 := (((hA3.ext hE4 (by omega)).ext hE47 (by omega)).ext hE8 (by omega)).ext hE9 (by omega)
    have hV9 := ((hV5.ext (hE6.trans hE7) (by omega)).ext hE8 (by omega)).ext hE9 (by omega)
    have hC9 := (hC7.ext hE8 (by omega)).ext hE9 (by omega)
    have hD9 := (hD7.ext hE8 (by omega)).ext hE9 (by omega)
    have hE49 := (hE47.trans hE8).trans hE9
    have hE69 := (hE7.trans hE8).trans hE9
    replace hX0 := hX0.ext hE49
    replace oX0 := oX0.ext hE49
    replace hX1 := hX1.ext hE49
    replace oX1 := oX1.ext hE49
    replace hX3 := hX3.ext hE69
    replace oX3 := oX3.ext hE69
    have hE9' := (hE3'.trans hE4).trans hE49
    clear hA3 hV3 hV5 hC7 hD7 hB hG oG qG
    have p0 := hF.box 0 _ rfl
    have p1 := hF.box 1 _ rfl
    have p2 := hF.box 2 _ rfl
    have p3 := hF.box 3 _ rfl
    have q0 := hBs.box 0 _ rfl
    have q1 := hBs.box 1 _ rfl
    have q2 := hBs.box 2 _ rfl
    have q3 := hBs.box 3 _ rfl
    have heq := fun (S S2 : Nat → Prop) (u v : Value) (W : World) (hu : DIn S W A.l u) (hv : DIn S2 W A.l v) => eqValue_any S S2 A.k A.n A.t A.l u v W (eqValueS_any _ HA) HA hu hv
    go_wp2_with fail
    rw [← hbF]
    generalize hw9 : World.alloc w8 _ = w9 at *
    clear hw9 hbF
    refine (heq _ _ _ _ w9 hF.din hBs.din).mono ?_
    rintro e w10 ⟨rfl, hE10⟩
    clear p0 p1 p2 p3 q0 q1 q2 q3
    have hz10 := hE10.le
    have hE10' := hE9'.trans hE10
    replace hF := hF.ext hE10
    replace hBs := hBs.ext hE10
    replace hX0 := hX0.ext hE10
    replace oX0 := oX0.ext hE10
    replace hX1 := hX1.ext hE10
    replace oX1 := oX1.ext hE10
    replace hX3 := hX3.ext hE10
    replace oX3 := oX3.ext hE10
    replace hA9 := hA9.ext hE10 (by omega)
    replace hV9 := hV9.ext hE10 (by omega)
    replace hC9 := hC9.ext hE10 (by omega)
    replace hD9 := hD9.ext hE10 (by omega)
    have HK : Hid (∀ W, Ext w10 W → (W.cell? ⟨bA, 0, none⟩ = some (.slice a0 l0 cap0) ∧ W.cell? ⟨bA, 1, none⟩ = some (.slice a1 l1 cap1) ∧ W.cell? ⟨bA, 2, none⟩ = some (.int .i64 x2) ∧ W.cell? ⟨bA, 3, none⟩ = some (.int .i64 x3)) ∧ (W.cell? ⟨bC, 0, none⟩ = some (.slice xa0 xl0 xc0) ∧ W.cell? ⟨bC, 1, none⟩ = some (.slice xa1 xl1 xc1) ∧ W.cell? ⟨bC, 2, none⟩ = some (.int .i64 x2) ∧ W.cell? ⟨bC, 3, none⟩ = some (.int .i64 x3))) := fun W hW => by
      have hA := hA9.ext hW (by omega)
      have hC := hC9.ext hW (by omega)
      exact ⟨⟨hA 0 _ rfl, hA 1 _ rfl, hA 2 _ rfl, hA 3 _ rfl⟩, hC 0 _ rfl, hC 1 _ rfl, hC 2 _ rfl, hC 3 _ rfl⟩
    have hv0 := fun (W : World) (hW : Ext w10 W) => hX0.any.ext hW
    have hv1 := fun (W : World) (hW : Ext w10 W) => hX1.any.ext hW
    go_wp2_with fail
    have hcur : Ext w10 w10.drew := (Ext.refl _).drew
    refine wp_region_held_drew (S := (fun W => (W.cell? ⟨bA, 0, none⟩ = some (.slice a0 l0 cap0) ∧ W.cell? ⟨bA, 1, none⟩ = some (.slice a1 l1 cap1) ∧ W.cell? ⟨bA, 2, none⟩ = some (.int .i64 x2) ∧ W.cell? ⟨bA, 3, none⟩ = some (.int .i64 x3)) ∧ (W.cell? ⟨bC, 0, none⟩ = some (.slice xa0 xl0 xc0) ∧ W.cell? ⟨bC, 1, none⟩ = some (.slice xa1 xl1 xc1) ∧ W.cell? ⟨bC, 2, none⟩ = some (.int .i64 x2) ∧ W.cell? ⟨bC, 3, none⟩ = some (.int .i64 x3)))) (by kernel_rfl) (HK.out _ hcur) (fun hHeld => ?_)
    refine wpAnyH_take (i := 0) (oi := ⟨some 47, .load 38 (.tmp 9), 38, _, #[], none⟩) (v := ?_) rfl (by kernel_rfl) (by kernel_rfl) (by kernel_rfl) (fun _ _ _ h => h) (Or.inl ⟨by rfl, ?yyC0⟩) hHeld ?rrC0
    case yyC0 => (intro w hSw; (try dsimp only at hSw); go_simp; first | done | with_reducible rfl)
    try simp only [Act.put, putA, putB, putC]
    refine wpAnyH_take (i := 1) (oi := ⟨some 48, .load 25 (.tmp 3), 25, _, #[], none⟩) (v := ?_) rfl (by kernel_rfl) (by kernel_rfl) (by kernel_rfl) (fun _ _ _ h => h) (Or.inl ⟨by rfl, ?yyC1⟩) hHeld ?rrC1
    case yyC1 => (intro w hSw; (try dsimp only at hSw); go_simp; first | done | with_reducible rfl)
    try simp only [Act.put, putA, putB, putC]
    refine wpAnyH_ready (rs := [2]) (by kernel_rfl) (by simp) ?_
    refine AllReadyH.cons (o := ⟨some 49, .call { callee := .value (.func 7), args := #[.tmp 48], argTypes := #[25] }, 38, _, #[⟨1, .data⟩], none⟩) rfl (fun K hK => ?_) AllReadyH.nil
    go_simp
    refine (hto _ (hE10'.trans hcur)).mono ?_
    rintro e w11 ⟨u0, u1, Q4, Q7, rfl, ⟨hu0, _, _⟩, ⟨hu1, _, _⟩, _, hE11⟩
    replace hcur := hcur.trans hE11
    obtain ⟨ya0, yc0, yl0, _, hq_, hc_, _, _⟩ := list_shape H0 hu0
    subst hc_
    clear hq_
    obtain ⟨ya1, yc1, yl1, _, hq_, hc_, _, _⟩ := list_shape H1 hu1
    subst hc_
    clear hq_
    go_wp2_with fail
    refine hK.out _ _ (HK.out _ hcur) (fun hHeld => ?_)
    clear hK K
    try simp only [Act.put, putA, putB, putC]
    refine wpAnyH_ready (rs := [3]) (by kernel_rfl) (by simp) ?_
    refine AllReadyH.cons (o := ⟨some 50, .call { callee := .value (.func 11), args := #[.tmp 47, .tmp 49], argTypes := #[38, 38] }, 4, _, #[⟨0, .data⟩, ⟨2, .data⟩, ⟨2, .chain⟩], none⟩) rfl (fun K hK => ?_) AllReadyH.nil
    go_simp
    refine (eqGraph_any anyB anyB d0 _ _ d1 _ _ x2 x3 _ H0 (hv0 _ hcur) hu0.any H1 (hv1 _ hcur) hu1.any).mono ?_
    rintro e w12 ⟨rfl, hE12⟩
    replace hcur := hcur.trans hE12
    go_wp2_with fail
    refine hK.out _ _ (HK.out _ hcur) (fun hHeld => ?_)
    clear hK K
    try simp only [Act.put, putA, putB, putC]
    refine wpAnyH_take (i := 4) (oi := ⟨some 51, .unOp .not 4 (.tmp 50), 4, _, #[⟨3, .data⟩], none⟩) (v := ?_) rfl (by kernel_rfl) (by kernel_rfl) (by kernel_rfl) (fun _ _ _ h => h) (Or.inl ⟨by rfl, ?yyC4⟩) hHeld ?rrC4
    case yyC4 => (intro w hSw; (try dsimp only at hSw); go_simp; first | done | with_reducible rfl)
    try simp only [Act.put, putA, putB, putC]
    refine wpAnyH_done (by kernel_rfl) ?_ _
    clear hv0 hv1 hu0 hu1 HK hHeld hE11 hE12
    have hz12 := hcur.le
    have hE12' := hE10'.trans hcur
    replace hF := hF.ext hcur
    replace hBs := hBs.ext hcur
    replace oX0 := oX0.ext hcur
    replace oX1 := oX1.ext hcur
    replace hX3 := hX3.ext hcur
    replace oX3 := oX3.ext hcur
    replace hA9 := hA9.ext hcur (by omega)
    replace hV9 := hV9.ext hcur (by omega)
    replace hC9 := hC9.ext hcur (by omega)
    replace hD9 := hD9.ext hcur (by omega)
    clear hcur
    have HK : Hid (∀ W, Ext w12 W → (W.cell? ⟨bV, 0, none⟩ = some (.int .i64 k) ∧ W.cell? ⟨bV, 1, none⟩ = some (.int .i64 n) ∧ W.cell? ⟨bV, 2, none⟩ = some (.string t) ∧ W.cell? ⟨bV, 3, none⟩ = some (.slice a3 l3 cap3)) ∧ (W.cell? ⟨bD, 0, none⟩ = some (.int .i64 k) ∧ W.cell? ⟨bD, 1, none⟩ = some (.int .i64 n) ∧ W.cell? ⟨bD, 2, none⟩ = some (.string t) ∧ W.cell? ⟨bD, 3, none⟩ = some (.slice xa3 xl3 xc3))) := fun W hW => by
      have hA := hV9.ext hW (by omega)
      have hC := hD9.ext hW (by omega)
      exact ⟨⟨hA 0 _ rfl, hA 1 _ rfl, hA 2 _ rfl, hA 3 _ rfl⟩, hC 0 _ rfl, hC 1 _ rfl, hC 2 _ rfl, hC 3 _ rfl⟩
    have hv3 := fun (W : World) (hW : Ext w12 W) => hX3.any.ext hW
    have heqv := fun (W : World) (u v : Value) (hu : DIn anyB W d3 u) (hv : DIn anyB W d3 v) => eqValue_any anyB anyB k n t d3 u v W (eqValueS_any _ H3) H3 hu hv
    go_wp2_with fail
    have hcur : Ext w12 w12.drew := (Ext.refl _).drew
    refine wp_region_held_drew (S := (fun W => (W.cell? ⟨bV, 0, none⟩ = some (.int .i64 k) ∧ W.cell? ⟨bV, 1, none⟩ = some (.int .i64 n) ∧ W.cell? ⟨bV, 2, none⟩ = some (.string t) ∧ W.cell? ⟨bV, 3, none⟩ = some (.slice a3 l3 cap3)) ∧ (W.cell? ⟨bD, 0, none⟩ = some (.int .i64 k) ∧ W.cell? ⟨bD, 1, none⟩ = some (.int .i64 n) ∧ W.cell? ⟨bD, 2, none⟩ = some (.string t) ∧ W.cell? ⟨bD, 3, none⟩ = some (.slice xa3 xl3 xc3)))) (by kernel_rfl) (HK.out _ hcur) (fun hHeld => ?_)
    refine wpAnyH_take (i := 0) (oi := ⟨some 52, .load 33 (.tmp 10), 33, _, #[], none⟩) (v := ?_) rfl (by kernel_rfl) (by kernel_rfl) (by kernel_rfl) (fun _ _ _ h => h) (Or.inl ⟨by rfl, ?yyE0⟩) hHeld ?rrE0
    case yyE0 => (intro w hSw; (try dsimp only at hSw); go_simp; first | done | with_reducible rfl)
    try simp only [Act.put, putA, putB, putC]
    refine wpAnyH_take (i := 1) (oi := ⟨some 53, .load 28 (.tmp 4), 28, _, #[], none⟩) (v := ?_) rfl (by kernel_rfl) (by kernel_rfl) (by kernel_rfl) (fun _ _ _ h => h) (Or.inl ⟨by rfl, ?yyE1⟩) hHeld ?rrE1
    case yyE1 => (intro w hSw; (try dsimp only at hSw); go_simp; first | done | with_reducible rfl)
    try simp only [Act.put, putA, putB, putC]
    refine wpAnyH_ready (rs := [2]) (by kernel_rfl) (by simp) ?_
    refine AllReadyH.cons (o := ⟨some 54, .call { callee := .value (.func 8), args := #[.tmp 53], argTypes := #[28] }, 33, _, #[⟨1, .data⟩], none⟩) rfl (fun K hK => ?_) AllReadyH.nil
    go_simp
    refine (htv _ (hE12'.trans hcur)).mono ?_
    rintro e w13 ⟨u3, Q4, rfl, ⟨hu3, _, _⟩, hE13⟩
    replace hcur := hcur.trans hE13
    obtain ⟨ya3, yc3, yl3, _, hq_, hc_, _, _⟩ := list_shape H3 hu3
    subst hc_
    clear hq_
    go_wp2_with fail
    refine hK.out _ _ (HK.out _ hcur) (fun hHeld => ?_)
    clear hK K
    try simp only [Act.put, putA, putB, putC]
    refine wpAnyH_ready (rs := [3]) (by kernel_rfl) (by simp) ?_
    refine AllReadyH.cons (o := ⟨some 55, .call { callee := .value (.func 10), args := #[.tmp 52, .tmp 54], argTypes := #[33, 33] }, 4, _, #[⟨0, .data⟩, ⟨2, .data⟩, ⟨2, .chain⟩], none⟩) rfl (fun K hK => ?_) AllReadyH.nil
    go_simp
    refine (heqv _ _ _ (hv3 _ hcur) hu3.any).mono ?_
    rintro e w14 ⟨rfl, hE14⟩
    replace hcur := hcur.trans hE14
    go_wp2_with fail
    refine hK.out _ _ (HK.out _ hcur) (fun hHeld => ?_)
    clear hK K
    try simp only [Act.put, putA, putB, putC]
    refine wpAnyH_take (i := 4) (oi := ⟨some 56, .unOp .not 4 (.tmp 55), 4, _, #[⟨3, .data⟩], none⟩) (v := ?_) rfl (by kernel_rfl) (by kernel_rfl) (by kernel_rfl) (fun _ _ _ h => h) (Or.inl ⟨by rfl, ?yyE4⟩) hHeld ?rrE4
    case yyE4 => (intro w hSw; (try dsimp only at hSw); go_simp; first | done | with_reducible rfl)
    try simp only [Act.put, putA, putB, putC]
    refine wpAnyH_done (by kernel_rfl) ?_ _
    clear hv3 hu3 HK hHeld hE13 hE14 heqv
    have hz14 := hcur.le
    have hE14' := hE12'.trans hcur
    replace hF := hF.ext hcur
    replace hBs := hBs.ext hcur
    replace oX0 := oX0.ext hcur
    replace oX1 := oX1.ext hcur
    replace oX3 := oX3.ext hcur
    replace hA9 := hA9.ext hcur (by omega)
    replace hV9 := hV9.ext hcur (by omega)
    replace hC9 := hC9.ext hcur (by omega)
    replace hD9 := hD9.ext hcur (by omega)
    clear hcur hX0 hX1 hX3
    -- the arguments are marked
    have hmark := markGraph_own d0 d1 _ _ x2 x3 Q0 Q1 w14 1 1 rfl H0 H1 oX0 oX1 (small_lenOk _ s0) (small_lenOk _ s1) (fun x hx => by have := (qX0 x hx).2; omega) hdq (by have := hcnt.out; omega)
    have hqq : ∀ x, Q0 x ∨ Q1 x → w3.heap.size ≤ x ∧ x < w4.heap.size := fun x hx => hx.elim (qX0 x) (qX1 x)
    have p0 := hC9 0 _ rfl
    have p1 := hC9 1 _ rfl
    have p2 := hC9 2 _ rfl
    have p3 := hC9 3 _ rfl
    have hQF := hF.bnd
    have hQW := hQWb
    clear hQWb
    have hgF := hF.ge
    go_wp2_with fail
    refine hmark.mono ?_
    rintro e w15 ⟨rfl, hO15, _, _⟩
    clear p0 p1 p2 p3 hmark hC9 oX0 oX1
    have hz15 := hO15.size
    replace hA9 := hA9.only hO15 (by omega) (fun h => by have := hqq _ h; omega)
    replace hV9 := hV9.only hO15 (by omega) (fun h => by have := hqq _ h; omega)
    replace hD9 := hD9.only hO15 (by omega) (fun h => by have := hqq _ h; omega)
    replace hBs := hBs.only hO15 (fun h => by have := hqq _ h; omega) (fun x hx h => by have := hqq _ h; have := hQW x hx; omega)
    replace hF := hF.only hO15 (fun h => by have := hqq _ h; omega) (fun x hx h => by have := hqq _ h; have := hQF x hx; omega)
    replace oX3 := oX3.only hO15 (fun x hx h => by have := hqq _ h; have := qX3 x hx; omega)
    have hX15 : Ext w w15 := hO15.toExt hE14' (fun x hx => by have := hqq _ hx; omega)
    have hmV := markValue_any k n t d3 _ Q3 w15 (1 + cntD d0 + cntD d1) (1 + cntD d0 + cntD d1) (by omega) H3 oX3 (small_lenOk _ s3) (by have := hcnt.out; omega)
    have p0 := hD9 0 _ rfl
    have p1 := hD9 1 _ rfl
    have p2 := hD9 2 _ rfl
    have p3 := hD9 3 _ rfl
    go_wp2_with fail
    refine hmV.mono ?_
    rintro e w16 ⟨rfl, hO16, _⟩
    clear p0 p1 p2 p3 hmV hD9 oX3
    have hz16 := hO16.size
    replace hA9 := hA9.only hO16 (by omega) (fun h => by have := qX3 _ h; omega)
    replace hV9 := hV9.only hO16 (by omega) (fun h => by have := qX3 _ h; omega)
    replace hBs := hBs.only hO16 (fun h => by have := qX3 _ h; omega) (fun x hx h => by have := qX3 _ h; have := hQW x hx; omega)
    replace hF := hF.only hO16 (fun h => by have := qX3 _ h; omega) (fun x hx h => by have := qX3 _ h; have := hQF x hx; omega)
    have hX16 : Ext w w16 := hO16.toExt hX15 (fun x hx => by have := qX3 _ hx; omega)
    clear hX15 hE14'
    have hneg : ¬ (1 + (cntD d0 : Int) + (cntD d1 : Int) + (cntD d3 : Int)) < 0 := by omega
    have p0 := hF.box 0 _ rfl
    have p1 := hF.box 1 _ rfl
    have p2 := hF.box 2 _ rfl
    have p3 := hF.box 3 _ rfl
    have q0 := hBs.box 0 _ rfl
    have q1 := hBs.box 1 _ rfl
    have q2 := hBs.box 2 _ rfl
    have q3 := hBs.box 3 _ rfl
    go_wp2_with fail
    refine (heq _ _ _ _ w16 hF.din hBs.din).mono ?_
    rintro e w17 ⟨rfl, hE17⟩
    clear p0 p1 p2 p3 q0 q1 q2 q3 hneg
    have hz17 := hE17.le
    replace hA9 := hA9.ext hE17 (by omega)
    replace hV9 := hV9.ext hE17 (by omega)
    replace hBs := hBs.ext hE17
    replace hF := hF.ext hE17
    have hX17 := hX16.trans hE17
    -- the answer is marked, and the marks are read
    have hmG := markValue_any A.k A.n A.t A.l _ QG w17 1 1 rfl HA hF.own LA hca.out
    have p0 := hF.box 0 _ rfl
    have p1 := hF.box 1 _ rfl
    have p2 := hF.box 2 _ rfl
    have p3 := hF.box 3 _ rfl
    have hnF := hF.nq
    go_wp2_with fail
    refine hmG.mono ?_
    rintro e w18 ⟨rfl, hO18, hM⟩
    clear p0 p1 p2 p3 hmG
    have hz18 := hO18.size
    have hFb : FG w18 bF [.int .i64 A.k, .int .i64 A.n, .string A.t, .slice ga gl gc] := hF.box.only hO18 hF.lt hnF
    have hzF := hF.lt
    replace hA9 := hA9.only hO18 (by omega) (fun h => by have := hQF _ h; omega)
    replace hV9 := hV9.only hO18 (by omega) (fun h => by have := hQF _ h; omega)
    replace hBs := hBs.only hO18 (fun h => by have := hQF _ h; omega) (fun x hx h => by have := hQF _ h; have := hQW x hx; omega)
    have hX18 : Ext w w18 := hO18.toExt hX17 (fun x hx => by have := hQF _ hx; omega)
    clear hF hX16 hX17
    have hh := fun (W : World) (hW : Ext w18 W) => heldValue_any A.k A.n A.t A.l _ QG W 1 1 rfl HA (hM.ext hW) hca.out
    have hneg2 : ¬ (1 + (cntD A.l : Int)) < 0 := by omega
    have p0 := hFb 0 _ rfl
    have p1 := hFb 1 _ rfl
    have p2 := hFb 2 _ rfl
    have p3 := hFb 3 _ rfl
    go_wp2_with fail
    refine (hh w18 (Ext.refl _)).mono ?_
    rintro e w19 ⟨rfl, hE19⟩
    clear p0 p1 p2 p3
    have hz19 := hE19.le
    have hEw19 := hX18.trans hE19
    have hA19 := hA9.ext hE19 (by omega)
    have hV19 := hV9.ext hE19 (by omega)
    have HK : Hid (∀ W, Ext w19 W → (W.cell? ⟨bA, 0, none⟩ = some (.slice a0 l0 cap0) ∧ W.cell? ⟨bA, 1, none⟩ = some (.slice a1 l1 cap1) ∧ W.cell? ⟨bA, 2, none⟩ = some (.int .i64 x2) ∧ W.cell? ⟨bA, 3, none⟩ = some (.int .i64 x3)) ∧ (W.cell? ⟨bV, 0, none⟩ = some (.int .i64 k) ∧ W.cell? ⟨bV, 1, none⟩ = some (.int .i64 n) ∧ W.cell? ⟨bV, 2, none⟩ = some (.string t) ∧ W.cell? ⟨bV, 3, none⟩ = some (.slice a3 l3 cap3))) := fun W hW => by
      have hA := hA19.ext hW (by omega)
      have hV := hV19.ext hW (by omega)
      exact ⟨⟨hA 0 _ rfl, hA 1 _ rfl, hA 2 _ rfl, hA 3 _ rfl⟩, hV 0 _ rfl, hV 1 _ rfl, hV 2 _ rfl, hV 3 _ rfl⟩
    go_upto_region 33 with fail
    go_cut [15] (fun s wc => ∃ R u Q, s = .pointer (some ⟨R, 0, none⟩) ∧ BoxV w19.heap.size A wc R u Q ∧ Ext w19 wc)
    case first =>
      have hc0 : Ext w19 w19.drew := (Ext.refl _).drew
      have sz0 := hc0.le
      refine wp_region_held_drew (S := (fun W => (W.cell? ⟨bA, 0, none⟩ = some (.slice a0 l0 cap0) ∧ W.cell? ⟨bA, 1, none⟩ = some (.slice a1 l1 cap1) ∧ W.cell? ⟨bA, 2, none⟩ = some (.int .i64 x2) ∧ W.cell? ⟨bA, 3, none⟩ = some (.int .i64 x3)) ∧ (W.cell? ⟨bV, 0, none⟩ = some (.int .i64 k) ∧ W.cell? ⟨bV, 1, none⟩ = some (.int .i64 n) ∧ W.cell? ⟨bV, 2, none⟩ = some (.string t) ∧ W.cell? ⟨bV, 3, none⟩ = some (.slice a3 l3 cap3)))) (by kernel_rfl) (HK.out _ hc0) (fun hHeld => ?_)
      refine wpAnyH_take (i := 0) (oi := ⟨some 82, .load 25 (.tmp 3), 25, _, #[], none⟩) (v := ?_) rfl (by kernel_rfl) (by kernel_rfl) (by kernel_rfl) (fun _ _ _ h => h) (Or.inl ⟨by rfl, ?yyB0⟩) hHeld ?rrB0
      case yyB0 => (intro w hSw; (try dsimp only at hSw); go_simp; first | done | with_reducible rfl)
      try simp only [Act.put, putA, putB, putC]
      refine wpAnyH_take (i := 2) (oi := ⟨some 84, .load 28 (.tmp 4), 28, _, #[], none⟩) (v := ?_) rfl (by kernel_rfl) (by kernel_rfl) (by kernel_rfl) (fun _ _ _ h => h) (Or.inl ⟨by rfl, ?yyB2⟩) hHeld ?rrB2
      case yyB2 => (intro w hSw; (try dsimp only at hSw); go_simp; first | done | with_reducible rfl)
      try simp only [Act.put, putA, putB, putC]
      refine wpAnyH_take (i := 4) (oi := ⟨some 86, .move (.tmp 2), 9, _, #[], none⟩) (v := ?_) rfl (by kernel_rfl) (by kernel_rfl) (by kernel_rfl) (fun _ _ _ h => h) (Or.inl ⟨by rfl, ?yyB4⟩) hHeld ?rrB4
      case yyB4 => (intro w hSw; (try dsimp only at hSw); go_simp; first | done | with_reducible rfl)
      try simp only [Act.put, putA, putB, putC]
      generalize w19.drew = W0 at *
      refine wpAnyH_ready (rs := [1, 6]) (by kernel_rfl) (by simp) ?_
      refine AllReadyH.cons (o := ⟨some 83, .call { callee := .value (.func 7), args := #[.tmp 82], argTypes := #[25] }, 38, _, #[⟨0, .data⟩], none⟩) rfl (fun K hK => ?_) (AllReadyH.cons (o := ⟨some 15, .alloc 33, 0, _, #[], none⟩) rfl (fun K hK => ?_) (AllReadyH.nil))
      · go_simp
        refine (hto _ (hEw19.trans hc0)).mono ?_
        rintro e W1 ⟨u0, u1, Qa, Qb, rfl, ⟨hu0, _, _⟩, ⟨hu1, _, _⟩, _, hx⟩
        obtain ⟨uaa, uac, ual, _, hq_, hc_, _, _⟩ := list_shape H0 hu0
        subst hc_
        clear hq_
        obtain ⟨uba, ubc, ubl, _, hq_, hc_, _, _⟩ := list_shape H1 hu1
        subst hc_
        clear hq_
        go_wp2_with fail
        have hc1 := (hc0).trans hx
        have sz1 := hx.le
        clear hx
        refine hK.out _ _ (HK.out _ hc1) (fun hHeld => ?_)
        clear hK K
        try simp only [Act.put, putA, putB, putC]
        refine wpAnyH_ready (rs := [3, 6]) (by kernel_rfl) (by simp) ?_
        refine AllReadyH.cons (o := ⟨some 85, .call { callee := .value (.func 8), args := #[.tmp 84], argTypes := #[28] }, 33, _, #[⟨2, .data⟩, ⟨1, .chain⟩], none⟩) rfl (fun K hK => ?_) (AllReadyH.cons (o := ⟨some 15, .alloc 33, 0, _, #[], none⟩) rfl (fun K hK => ?_) (AllReadyH.nil))
        · go_simp
          refine (htv _ (hEw19.trans hc1)).mono ?_
          rintro e W2 ⟨u3, Qc, rfl, ⟨hu3, _, _⟩, hx⟩
          obtain ⟨uva, uvc, uvl, _, hq_, hc_, _, _⟩ := list_shape H3 hu3
          subst hc_
          clear hq_
          go_wp2_with fail
          have hc2 := (hc1).trans hx
          have sz2 := hx.le
          replace hu0 := hu0.ext hx
          replace hu1 := hu1.ext hx
          clear hx
          refine hK.out _ _ (HK.out _ hc2) (fun hHeld => ?_)
          clear hK K
          try simp only [Act.put, putA, putB, putC]
          refine wpAnyH_ready (rs := [5, 6]) (by kernel_rfl) (by simp) ?_
          refine AllReadyH.cons (o := ⟨some 87, .call { callee := .value (.func 9), args := #[.tmp 83, .tmp 85, .tmp 86], argTypes := #[38, 33, 9] }, 33, _, #[⟨1, .data⟩, ⟨3, .data⟩, ⟨4, .data⟩, ⟨3, .chain⟩], none⟩) rfl (fun K hK => ?_) (AllReadyH.cons (o := ⟨some 15, .alloc 33, 0, _, #[], none⟩) rfl (fun K hK => ?_) (AllReadyH.nil))
          · go_simp
            refine (him _ _ _ _ hu0.any hu1.any hu3.any).mono ?_
            rintro e W3 ⟨uG, QG, _, hG, oG, qG, hx⟩
            obtain ⟨vga, vgc, vgl, _, hq_, hc_, _, _⟩ := list_shape HA hG
            subst hc_
            clear hq_
            clear hu0 hu1 hu3
            go_wp2_with fail
            have hc3 := (hc2).trans hx
            have sz3 := hx.le
            clear hx
            refine hK.out _ _ (HK.out _ hc3) (fun hHeld => ?_)
            clear hK K
            try simp only [Act.put, putA, putB, putC]
            refine wpAnyH_ready (rs := [6]) (by kernel_rfl) (by simp) ?_
            refine AllReadyH.cons (o := ⟨some 15, .alloc 33, 0, _, #[], none⟩) rfl (fun K hK => ?_) (AllReadyH.nil)
            go_simp
            have hx : Ext W3 (W3.alloc (.cells #[.int .i64 0, .int .i64 0, .string ⟨#[]⟩, .slice none 0 0] 33)) := (Ext.refl _).alloc _
            have FR := FG.new W3 #[.int .i64 0, .int .i64 0, .string ⟨#[]⟩, .slice none 0 0] 33
            have FZ : ∀ j, (W3.alloc (.cells #[.int .i64 0, .int .i64 0, .string ⟨#[]⟩, .slice none 0 0] 33)).frozen? ⟨W3.heap.size, j, none⟩ = false := fun j => World.frozen?_alloc_new W3 _ _ j
            have hRs : W3.heap.size < (W3.alloc (.cells #[.int .i64 0, .int .i64 0, .string ⟨#[]⟩, .slice none 0 0] 33)).heap.size := by simp
            obtain ⟨R, hR⟩ : ∃ m, m = W3.heap.size := ⟨_, rfl⟩
            have hR1 := Nat.le_of_eq hR
            have hR2 := Nat.le_of_eq hR.symm
            rw [← hR] at FR FZ hRs ⊢
            clear hR
            generalize W3.alloc (.cells #[.int .i64 0, .int .i64 0, .string ⟨#[]⟩, .slice none 0 0] 33) = W4 at *
            have nqG : ¬ QG R := fun h => by have := (qG _ h).2; omega
            have hc4 := (hc3).trans hx
            have sz4 := hx.le
            replace hG := hG.ext hx
            replace oG := oG.ext hx
            clear hx
            refine hK.out _ _ (HK.out _ hc4) (fun hHeld => ?_)
            clear hK K
            try simp only [Act.put, putA, putB, putC]
            refine wpAnyH_ready (rs := [7]) (by kernel_rfl) (by simp) ?_
            refine AllReadyH.cons (o := ⟨none, .store 33 (.tmp 15) (.tmp 87), 0, _, #[⟨6, .data⟩, ⟨5, .data⟩, ⟨5, .chain⟩, ⟨0, .phase⟩, ⟨1, .phase⟩, ⟨2, .phase⟩, ⟨3, .phase⟩, ⟨4, .phase⟩, ⟨5, .phase⟩, ⟨6, .phase⟩], none⟩) rfl (fun K hK => ?_) (AllReadyH.nil)
            have r0 := FR 0 _ rfl
            have r1 := FR 1 _ rfl
            have r2 := FR 2 _ rfl
            have r3 := FR 3 _ rfl
            have y0 := FZ 0
            have y1 := FZ 1
            have y2 := FZ 2
            have y3 := FZ 3
            go_simp
            clear r0 r1 r2 r3 y0 y1 y2 y3
            have hB : BoxV w19.heap.size A _ R (.slice vga vgl vgc) QG := boxV_store (W := W4) FR (by omega) (by omega) hG oG (fun x hx => ⟨by have := (qG x hx).1; omega, by have := (qG x hx).2; omega⟩) nqG
            have hEz : Ext w19 ((((W4.setCell ⟨R, 0, none⟩ (.int .i64 A.k)).setCell ⟨R, 1, none⟩ (.int .i64 A.n)).setCell ⟨R, 2, none⟩ (.string A.t)).setCell ⟨R, 3, none⟩ (.slice vga vgl vgc)) := (((hc4.setCell (show _ ≤ R by omega) _).setCell (show _ ≤ R by omega) _).setCell (show _ ≤ R by omega) _).setCell (show _ ≤ R by omega) _
            refine hK.out _ _ (HK.out _ hEz) (fun hHeld => ?_)
            clear hK K
            try simp only [Act.put, putA, putB, putC]
            refine wpAnyH_done (by kernel_rfl) ?_ _
            go_wp2
            go_meet
            case rel => exact ⟨R, _, QG, rfl, hB, hEz⟩
          · go_simp
            have hx : Ext W2 (W2.alloc (.cells #[.int .i64 0, .int .i64 0, .string ⟨#[]⟩, .slice none 0 0] 33)) := (Ext.refl _).alloc _
            have FR := FG.new W2 #[.int .i64 0, .int .i64 0, .string ⟨#[]⟩, .slice none 0 0] 33
            have FZ : ∀ j, (W2.alloc (.cells #[.int .i64 0, .int .i64 0, .string ⟨#[]⟩, .slice none 0 0] 33)).frozen? ⟨W2.heap.size, j, none⟩ = false := fun j => World.frozen?_alloc_new W2 _ _ j
            have hRs : W2.heap.size < (W2.alloc (.cells #[.int .i64 0, .int .i64 0, .string ⟨#[]⟩, .slice none 0 0] 33)).heap.size := by simp
            obtain ⟨R, hR⟩ : ∃ m, m = W2.heap.size := ⟨_, rfl⟩
            have hR1 := Nat.le_of_eq hR
            have hR2 := Nat.le_of_eq hR.symm
            rw [← hR] at FR FZ hRs ⊢
            clear hR
            generalize W2.alloc (.cells #[.int .i64 0, .int .i64 0, .string ⟨#[]⟩, .slice none 0 0] 33) = W3 at *
            have hc3 := (hc2).trans hx
            have sz3 := hx.le
            replace hu0 := hu0.ext hx
            replace hu1 := hu1.ext hx
            replace hu3 := hu3.ext hx
            clear hx
            refine hK.out _ _ (HK.out _ hc3) (fun hHeld => ?_)
            clear hK K
            try simp only [Act.put, putA, putB, putC]
            refine wpAnyH_ready (rs := [5]) (by kernel_rfl) (by simp) ?_
            refine AllReadyH.cons (o := ⟨some 87, .call { callee := .value (.func 9), args := #[.tmp 83, .tmp 85, .tmp 86], argTypes := #[38, 33, 9] }, 33, _, #[⟨1, .data⟩, ⟨3, .data⟩, ⟨4, .data⟩, ⟨3, .chain⟩], none⟩) rfl (fun K hK => ?_) (AllReadyH.nil)
            go_simp
            refine (him _ _ _ _ hu0.any hu1.any hu3.any).mono ?_
            rintro e W4 ⟨uG, QG, _, hG, oG, qG, hx⟩
            obtain ⟨vga, vgc, vgl, _, hq_, hc_, _, _⟩ := list_shape HA hG
            subst hc_
            clear hq_
            have nqG : ¬ QG R := fun h => by have := (qG _ h).1; omega
            clear hu0 hu1 hu3
            go_wp2_with fail
            have hc4 := (hc3).trans hx
            have sz4 := hx.le
            replace FZ := fun j => ((bcell hx).2 R j (by omega)).trans (FZ j)
            replace FR := FR.ext hx (by omega)
            clear hx
            refine hK.out _ _ (HK.out _ hc4) (fun hHeld => ?_)
            clear hK K
            try simp only [Act.put, putA, putB, putC]
            refine wpAnyH_ready (rs := [7]) (by kernel_rfl) (by simp) ?_
            refine AllReadyH.cons (o := ⟨none, .store 33 (.tmp 15) (.tmp 87), 0, _, #[⟨6, .data⟩, ⟨5, .data⟩, ⟨5, .chain⟩, ⟨0, .phase⟩, ⟨1, .phase⟩, ⟨2, .phase⟩, ⟨3, .phase⟩, ⟨4, .phase⟩, ⟨5, .phase⟩, ⟨6, .phase⟩], none⟩) rfl (fun K hK => ?_) (AllReadyH.nil)
            have r0 := FR 0 _ rfl
            have r1 := FR 1 _ rfl
            have r2 := FR 2 _ rfl
            have r3 := FR 3 _ rfl
            have y0 := FZ 0
            have y1 := FZ 1
            have y2 := FZ 2
            have y3 := FZ 3
            go_simp
            clear r0 r1 r2 r3 y0 y1 y2 y3
            have hB : BoxV w19.heap.size A _ R (.slice vga vgl vgc) QG := boxV_store (W := W4) FR (by omega) (by omega) hG oG (fun x hx => ⟨by have := (qG x hx).1; omega, by have := (qG x hx).2; omega⟩) nqG
            have hEz : Ext w19 ((((W4.setCell ⟨R, 0, none⟩ (.int .i64 A.k)).setCell ⟨R, 1, none⟩ (.int .i64 A.n)).setCell ⟨R, 2, none⟩ (.string A.t)).setCell ⟨R, 3, none⟩ (.slice vga vgl vgc)) := (((hc4.setCell (show _ ≤ R by omega) _).setCell (show _ ≤ R by omega) _).setCell (show _ ≤ R by omega) _).setCell (show _ ≤ R by omega) _
            refine hK.out _ _ (HK.out _ hEz) (fun hHeld => ?_)
            clear hK K
            try simp only [Act.put, putA, putB, putC]
            refine wpAnyH_done (by kernel_rfl) ?_ _
            go_wp2
            go_meet
            case rel => exact ⟨R, _, QG, rfl, hB, hEz⟩
        · go_simp
          have hx : Ext W1 (W1.alloc (.cells #[.int .i64 0, .int .i64 0, .string ⟨#[]⟩, .slice none 0 0] 33)) := (Ext.refl _).alloc _
          have FR := FG.new W1 #[.int .i64 0, .int .i64 0, .string ⟨#[]⟩, .slice none 0 0] 33
          have FZ : ∀ j, (W1.alloc (.cells #[.int .i64 0, .int .i64 0, .string ⟨#[]⟩, .slice none 0 0] 33)).frozen? ⟨W1.heap.size, j, none⟩ = false := fun j => World.frozen?_alloc_new W1 _ _ j
          have hRs : W1.heap.size < (W1.alloc (.cells #[.int .i64 0, .int .i64 0, .string ⟨#[]⟩, .slice none 0 0] 33)).heap.size := by simp
          obtain ⟨R, hR⟩ : ∃ m, m = W1.heap.size := ⟨_, rfl⟩
          have hR1 := Nat.le_of_eq hR
          have hR2 := Nat.le_of_eq hR.symm
          rw [← hR] at FR FZ hRs ⊢
          clear hR
          generalize W1.alloc (.cells #[.int .i64 0, .int .i64 0, .string ⟨#[]⟩, .slice none 0 0] 33) = W2 at *
          have hc2 := (hc1).trans hx
          have sz2 := hx.le
          replace hu0 := hu0.ext hx
          replace hu1 := hu1.ext hx
          clear hx
          refine hK.out _ _ (HK.out _ hc2) (fun hHeld => ?_)
          clear hK K
          try simp only [Act.put, putA, putB, putC]
          refine wpAnyH_ready (rs := [3]) (by kernel_rfl) (by simp) ?_
          refine AllReadyH.cons (o := ⟨some 85, .call { callee := .value (.func 8), args := #[.tmp 84], argTypes := #[28] }, 33, _, #[⟨2, .data⟩, ⟨1, .chain⟩], none⟩) rfl (fun K hK => ?_) (AllReadyH.nil)
          go_simp
          refine (htv _ (hEw19.trans hc2)).mono ?_
          rintro e W3 ⟨u3, Qc, rfl, ⟨hu3, _, _⟩, hx⟩
          obtain ⟨uva, uvc, uvl, _, hq_, hc_, _, _⟩ := list_shape H3 hu3
          subst hc_
          clear hq_
          go_wp2_with fail
          have hc3 := (hc2).trans hx
          have sz3 := hx.le
          replace hu0 := hu0.ext hx
          replace hu1 := hu1.ext hx
          replace FZ := fun j => ((bcell hx).2 R j (by omega)).trans (FZ j)
          replace FR := FR.ext hx (by omega)
          clear hx
          refine hK.out _ _ (HK.out _ hc3) (fun hHeld => ?_)
          clear hK K
          try simp only [Act.put, putA, putB, putC]
          refine wpAnyH_ready (rs := [5]) (by kernel_rfl) (by simp) ?_
          refine AllReadyH.cons (o := ⟨some 87, .call { callee := .value (.func 9), args := #[.tmp 83, .tmp 85, .tmp 86], argTypes := #[38, 33, 9] }, 33, _, #[⟨1, .data⟩, ⟨3, .data⟩, ⟨4, .data⟩, ⟨3, .chain⟩], none⟩) rfl (fun K hK => ?_) (AllReadyH.nil)
          go_simp
          refine (him _ _ _ _ hu0.any hu1.any hu3.any).mono ?_
          rintro e W4 ⟨uG, QG, _, hG, oG, qG, hx⟩
          obtain ⟨vga, vgc, vgl, _, hq_, hc_, _, _⟩ := list_shape HA hG
          subst hc_
          clear hq_
          have nqG : ¬ QG R := fun h => by have := (qG _ h).1; omega
          clear hu0 hu1 hu3
          go_wp2_with fail
          have hc4 := (hc3).trans hx
          have sz4 := hx.le
          replace FZ := fun j => ((bcell hx).2 R j (by omega)).trans (FZ j)
          replace FR := FR.ext hx (by omega)
          clear hx
          refine hK.out _ _ (HK.out _ hc4) (fun hHeld => ?_)
          clear hK K
          try simp only [Act.put, putA, putB, putC]
          refine wpAnyH_ready (rs := [7]) (by kernel_rfl) (by simp) ?_
          refine AllReadyH.cons (o := ⟨none, .store 33 (.tmp 15) (.tmp 87), 0, _, #[⟨6, .data⟩, ⟨5, .data⟩, ⟨5, .chain⟩, ⟨0, .phase⟩, ⟨1, .phase⟩, ⟨2, .phase⟩, ⟨3, .phase⟩, ⟨4, .phase⟩, ⟨5, .phase⟩, ⟨6, .phase⟩], none⟩) rfl (fun K hK => ?_) (AllReadyH.nil)
          have r0 := FR 0 _ rfl
          have r1 := FR 1 _ rfl
          have r2 := FR 2 _ rfl
          have r3 := FR 3 _ rfl
          have y0 := FZ 0
          have y1 := FZ 1
          have y2 := FZ 2
          have y3 := FZ 3
          go_simp
          clear r0 r1 r2 r3 y0 y1 y2 y3
          have hB : BoxV w19.heap.size A _ R (.slice vga vgl vgc) QG := boxV_store (W := W4) FR (by omega) (by omega) hG oG (fun x hx => ⟨by have := (qG x hx).1; omega, by have := (qG x hx).2; omega⟩) nqG
          have hEz : Ext w19 ((((W4.setCell ⟨R, 0, none⟩ (.int .i64 A.k)).setCell ⟨R, 1, none⟩ (.int .i64 A.n)).setCell ⟨R, 2, none⟩ (.string A.t)).setCell ⟨R, 3, none⟩ (.slice vga vgl vgc)) := (((hc4.setCell (show _ ≤ R by omega) _).setCell (show _ ≤ R by omega) _).setCell (show _ ≤ R by omega) _).setCell (show _ ≤ R by omega) _
          refine hK.out _ _ (HK.out _ hEz) (fun hHeld => ?_)
          clear hK K
          try simp only [Act.put, putA, putB, putC]
          refine wpAnyH_done (by kernel_rfl) ?_ _
          go_wp2
          go_meet
          case rel => exact ⟨R, _, QG, rfl, hB, hEz⟩
      · go_simp
        have hx : Ext W0 (W0.alloc (.cells #[.int .i64 0, .int .i64 0, .string ⟨#[]⟩, .slice none 0 0] 33)) := (Ext.refl _).alloc _
        have FR := FG.new W0 #[.int .i64 0, .int .i64 0, .string ⟨#[]⟩, .slice none 0 0] 33
        have FZ : ∀ j, (W0.alloc (.cells #[.int .i64 0, .int .i64 0, .string ⟨#[]⟩, .slice none 0 0] 33)).frozen? ⟨W0.heap.size, j, none⟩ = false := fun j => World.frozen?_alloc_new W0 _ _ j
        have hRs : W0.heap.size < (W0.alloc (.cells #[.int .i64 0, .int .i64 0, .string ⟨#[]⟩, .slice none 0 0] 33)).heap.size := by simp
        obtain ⟨R, hR⟩ : ∃ m, m = W0.heap.size := ⟨_, rfl⟩
        have hR1 := Nat.le_of_eq hR
        have hR2 := Nat.le_of_eq hR.symm
        rw [← hR] at FR FZ hRs ⊢
        clear hR
        generalize W0.alloc (.cells #[.int .i64 0, .int .i64 0, .string ⟨#[]⟩, .slice none 0 0] 33) = W1 at *
        have hc1 := (hc0).trans hx
        have sz1 := hx.le
        clear hx
        refine hK.out _ _ (HK.out _ hc1) (fun hHeld => ?_)
        clear hK K
        try simp only [Act.put, putA, putB, putC]
        refine wpAnyH_ready (rs := [1]) (by kernel_rfl) (by simp) ?_
        refine AllReadyH.cons (o := ⟨some 83, .call { callee := .value (.func 7), args := #[.tmp 82], argTypes := #[25] }, 38, _, #[⟨0, .data⟩], none⟩) rfl (fun K hK => ?_) (AllReadyH.nil)
        go_simp
        refine (hto _ (hEw19.trans hc1)).mono ?_
        rintro e W2 ⟨u0, u1, Qa, Qb, rfl, ⟨hu0, _, _⟩, ⟨hu1, _, _⟩, _, hx⟩
        obtain ⟨uaa, uac, ual, _, hq_, hc_, _, _⟩ := list_shape H0 hu0
        subst hc_
        clear hq_
        obtain ⟨uba, ubc, ubl, _, hq_, hc_, _, _⟩ := list_shape H1 hu1
        subst hc_
        clear hq_
        go_wp2_with fail
        have hc2 := (hc1).trans hx
        have sz2 := hx.le
        replace FZ := fun j => ((bcell hx).2 R j (by omega)).trans (FZ j)
        replace FR := FR.ext hx (by omega)
        clear hx
        refine hK.out _ _ (HK.out _ hc2) (fun hHeld => ?_)
        clear hK K
        try simp only [Act.put, putA, putB, putC]
        refine wpAnyH_ready (rs := [3]) (by kernel_rfl) (by simp) ?_
        refine AllReadyH.cons (o := ⟨some 85, .call { callee := .value (.func 8), args := #[.tmp 84], argTypes := #[28] }, 33, _, #[⟨2, .data⟩, ⟨1, .chain⟩], none⟩) rfl (fun K hK => ?_) (AllReadyH.nil)
        go_simp
        refine (htv _ (hEw19.trans hc2)).mono ?_
        rintro e W3 ⟨u3, Qc, rfl, ⟨hu3, _, _⟩, hx⟩
        obtain ⟨uva, uvc, uvl, _, hq_, hc_, _, _⟩ := list_shape H3 hu3
        subst hc_
        clear hq_
        go_wp2_with fail
        have hc3 := (hc2).trans hx
        have sz3 := hx.le
        replace hu0 := hu0.ext hx
        replace hu1 := hu1.ext hx
        replace FZ := fun j => ((bcell hx).2 R j (by omega)).trans (FZ j)
        replace FR := FR.ext hx (by omega)
        clear hx
        refine hK.out _ _ (HK.out _ hc3) (fun hHeld => ?_)
        clear hK K
        try simp only [Act.put, putA, putB, putC]
        refine wpAnyH_ready (rs := [5]) (by kernel_rfl) (by simp) ?_
        refine AllReadyH.cons (o := ⟨some 87, .call { callee := .value (.func 9), args := #[.tmp 83, .tmp 85, .tmp 86], argTypes := #[38, 33, 9] }, 33, _, #[⟨1, .data⟩, ⟨3, .data⟩, ⟨4, .data⟩, ⟨3, .chain⟩], none⟩) rfl (fun K hK => ?_) (AllReadyH.nil)
        go_simp
        refine (him _ _ _ _ hu0.any hu1.any hu3.any).mono ?_
        rintro e W4 ⟨uG, QG, _, hG, oG, qG, hx⟩
        obtain ⟨vga, vgc, vgl, _, hq_, hc_, _, _⟩ := list_shape HA hG
        subst hc_
        clear hq_
        have nqG : ¬ QG R := fun h => by have := (qG _ h).1; omega
        clear hu0 hu1 hu3
        go_wp2_with fail
        have hc4 := (hc3).trans hx
        have sz4 := hx.le
        replace FZ := fun j => ((bcell hx).2 R j (by omega)).trans (FZ j)
        replace FR := FR.ext hx (by omega)
        clear hx
        refine hK.out _ _ (HK.out _ hc4) (fun hHeld => ?_)
        clear hK K
        try simp only [Act.put, putA, putB, putC]
        refine wpAnyH_ready (rs := [7]) (by kernel_rfl) (by simp) ?_
        refine AllReadyH.cons (o := ⟨none, .store 33 (.tmp 15) (.tmp 87), 0, _, #[⟨6, .data⟩, ⟨5, .data⟩, ⟨5, .chain⟩, ⟨0, .phase⟩, ⟨1, .phase⟩, ⟨2, .phase⟩, ⟨3, .phase⟩, ⟨4, .phase⟩, ⟨5, .phase⟩, ⟨6, .phase⟩], none⟩) rfl (fun K hK => ?_) (AllReadyH.nil)
        have r0 := FR 0 _ rfl
        have r1 := FR 1 _ rfl
        have r2 := FR 2 _ rfl
        have r3 := FR 3 _ rfl
        have y0 := FZ 0
        have y1 := FZ 1
        have y2 := FZ 2
        have y3 := FZ 3
        go_simp
        clear r0 r1 r2 r3 y0 y1 y2 y3
        have hB : BoxV w19.heap.size A _ R (.slice vga vgl vgc) QG := boxV_store (W := W4) FR (by omega) (by omega) hG oG (fun x hx => ⟨by have := (qG x hx).1; omega, by have := (qG x hx).2; omega⟩) nqG
        have hEz : Ext w19 ((((W4.setCell ⟨R, 0, none⟩ (.int .i64 A.k)).setCell ⟨R, 1, none⟩ (.int .i64 A.n)).setCell ⟨R, 2, none⟩ (.string A.t)).setCell ⟨R, 3, none⟩ (.slice vga vgl vgc)) := (((hc4.setCell (show _ ≤ R by omega) _).setCell (show _ ≤ R by omega) _).setCell (show _ ≤ R by omega) _).setCell (show _ ≤ R by omega) _
        refine hK.out _ _ (HK.out _ hEz) (fun hHeld => ?_)
        clear hK K
        try simp only [Act.put, putA, putB, putC]
        refine wpAnyH_done (by kernel_rfl) ?_ _
        go_wp2
        go_meet
        case rel => exact ⟨R, _, QG, rfl, hB, hEz⟩
    case rest =>
      obtain ⟨bH, uH, QH, rfl, hH, hE20⟩ := hcut
      obtain ⟨w20, rfl⟩ : ∃ w20, w20 = wc := ⟨_, rfl⟩
      clear HK
      have hz20 := hE20.le
      have hBe := (hBs.ext hE19).ext hE20
      have hFe := (hFb.ext hE19 (by omega)).ext hE20 (by omega)
      obtain ⟨ha, hc, hl, _, hq_, hc_, _, _⟩ := list_shape HA hH.din
      subst hc_
      clear hq_
      have p0 := hH.box 0 _ rfl
      have p1 := hH.box 1 _ rfl
      have p2 := hH.box 2 _ rfl
      have p3 := hH.box 3 _ rfl
      have q0 := hBe.box 0 _ rfl
      have q1 := hBe.box 1 _ rfl
      have q2 := hBe.box 2 _ rfl
      have q3 := hBe.box 3 _ rfl
      go_wp2_with fail
      refine (heq _ _ _ _ w20 hH.din hBe.din).mono ?_
      rintro e w21 ⟨rfl, hE21⟩
      clear p0 p1 p2 p3 q0 q1 q2 q3
      have hz21 := hE21.le
      have hFg := hFe.ext hE21 (by omega)
      have p0 := hFg 0 _ rfl
      have p1 := hFg 1 _ rfl
      have p2 := hFg 2 _ rfl
      have p3 := hFg 3 _ rfl
      go_wp2_with fail
      refine (hh w21 ((hE19.trans hE20).trans hE21)).mono ?_
      rintro e w22 ⟨rfl, hE22⟩
      clear p0 p1 p2 p3
      go_wp2
      go_ret
      exact ⟨rfl, ((hEw19.trans hE20).trans hE21).trans hE22⟩
end Go.Proofs.YtggnfhicgpleeaaGreat
