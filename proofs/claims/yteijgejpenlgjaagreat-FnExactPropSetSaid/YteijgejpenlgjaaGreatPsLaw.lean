/- At every graph, every two values and every name the law FnExactPropSet answers true. -/
import Derived.Test.YteijgejpenlgjaaGreatTk
import Derived.Test.YteijgejpenlgjaaGreatPsSpec
import Derived.Test.YteijgejpenlgjaaGreatPsImpl
import Derived.Test.YteijgejpenlgjaaGreatPsCnt
import Derived.Test.YteijgejpenlgjaaGreatPsB
import Derived.Test.YteijgejpenlgjaaGreatDMk
import Derived.Test.YteijgejpenlgjaaGreatDHl
import Derived.Test.YteijgejpenlgjaaGreatDSz
import Derived.Test.YteijgejpenlgjaaGreatDTo
import Derived.Test.YteijgejpenlgjaaGreatDEq
import Derived.Deep.RegionHeld3
import Derived.Deep.DeepCutAuto
namespace Go.Proofs.YteijgejpenlgjaaGreat
open Go.RowKit Go.Deep

set_option maxRecDepth 100000 in
set_option maxHeartbeats 16000000 in
theorem psLaw (d0 d1 d2 d3 : D) (c0 c1 c2 c3 : Value) (x2 x3 vk vn k n : Int) (vt s t : ByteArray) (w : World) (zs : s.size ≤ maxLen) (zvk : (Lit.int .i64 vk).wf = true) (zvn : (Lit.int .i64 vn).wf = true) (zvt : vt.size ≤ maxLen) (zk : (Lit.int .i64 k).wf = true) (zn : (Lit.int .i64 n).wf = true) (zt : t.size ≤ maxLen) (H0 : Has d0 (.list 4)) (h0 : DIn anyB w d0 c0) (H1 : Has d1 (.list 5)) (h1 : DIn anyB w d1 c1) (H2 : Has d2 (.list 2)) (h2 : DIn anyB w d2 c2) (H3 : Has d3 (.list 2)) (h3 : DIn anyB w d3 c3) :
  Calls Tryz.prog 3 #[.agg #[c0, c1, .int .i64 x2, .int .i64 x3], .agg #[.int .i64 vk, .int .i64 vn, .string vt, c2], .string s, .agg #[.int .i64 k, .int .i64 n, .string t, c3]] w fun e w' => e = .returned (.bool true) ∧ Ext w w' := by
 obtain ⟨a0, cap0, l0, _, hq_, hc_, _, _⟩ := list_shape H0 h0
 subst hc_
 clear hq_
 obtain ⟨a1, cap1, l1, _, hq_, hc_, _, _⟩ := list_shape H1 h1
 subst hc_
 clear hq_
 obtain ⟨a2, cap2, l2, _, hq_, hc_, _, _⟩ := list_shape H2 h2
 subst hc_
 clear hq_
 obtain ⟨a3, cap3, l3, _, hq_, hc_, _, _⟩ := list_shape H3 h3
 subst hc_
 clear hq_
 obtain ⟨wA, hwA⟩ : ∃ wA, wA = ((w.alloc (.cells #[.slice a0 l0 cap0, .slice a1 l1 cap1, .int .i64 x2, .int .i64 x3] 25)).alloc (.cells #[.int .i64 vk, .int .i64 vn, .string vt, .slice a2 l2 cap2] 28)).alloc (.cells #[.int .i64 k, .int .i64 n, .string t, .slice a3 l3 cap3] 28) := ⟨_, rfl⟩
 obtain ⟨bA, hbA⟩ : ∃ m, m = w.heap.size := ⟨_, rfl⟩
 obtain ⟨bV, hbV⟩ : ∃ m, m = w.heap.size + 1 := ⟨_, rfl⟩
 obtain ⟨bW, hbW⟩ : ∃ m, m = w.heap.size + 2 := ⟨_, rfl⟩
 have hEA : Ext w wA := by rw [hwA]; exact (((Ext.refl _).alloc _).alloc _).alloc _
 have hA : FG wA bA [.slice a0 l0 cap0, .slice a1 l1 cap1, .int .i64 x2, .int .i64 x3] := by rw [hwA, hbA]; exact ((FG.new _ _ _).ext ((Ext.refl _).alloc _) (by simp)).ext ((Ext.refl _).alloc _) (by simp only [World.size_alloc]; omega)
 have hV : FG wA bV [.int .i64 vk, .int .i64 vn, .string vt, .slice a2 l2 cap2] := by rw [hwA, hbV]; have h := (FG.new (w.alloc (.cells #[.slice a0 l0 cap0, .slice a1 l1 cap1, .int .i64 x2, .int .i64 x3] 25)) #[.int .i64 vk, .int .i64 vn, .string vt, .slice a2 l2 cap2] 28).ext ((Ext.refl _).alloc (.cells #[.int .i64 k, .int .i64 n, .string t, .slice a3 l3 cap3] 28)) (by simp); rw [World.size_alloc] at h; exact h
 have hW : FG wA bW [.int .i64 k, .int .i64 n, .string t, .slice a3 l3 cap3] := by rw [hwA, hbW]; have h := FG.new ((w.alloc (.cells #[.slice a0 l0 cap0, .slice a1 l1 cap1, .int .i64 x2, .int .i64 x3] 25)).alloc (.cells #[.int .i64 vk, .int .i64 vn, .string vt, .slice a2 l2 cap2] 28)) #[.int .i64 k, .int .i64 n, .string t, .slice a3 l3 cap3] 28; rw [World.size_alloc, World.size_alloc] at h; exact h
 have hzA : bW < wA.heap.size := by rw [hwA, hbW]; simp
 have hbAa : bA = w.heap.size ∧ bV = w.heap.size + 1 ∧ bW = w.heap.size + 2 := ⟨hbA, hbV, hbW⟩
 have hbAb : bA < bV ∧ bV < bW ∧ w.heap.size ≤ bA := by omega
 clear hbAa
 by_cases hs0 : 1048576 < s.size
 ·
  clear hwA hbA hbV hbW
  go_enter Tryz.func3, Tryz.ntmps3
  go_wp2
  go_ret
  exact ⟨rfl, (((Ext.refl _).alloc _).alloc _).alloc _⟩
 have hs1 : ¬ (1048576 : Int) < (s.size : Int) := by omega
 go_enter Tryz.func3, Tryz.ntmps3
 go_wp2_with fail
 rw [← hwA, ← hbW, ← hbV, ← hbA]
 clear hwA hbA hbV hbW
 have p0 := hA 0 _ rfl
 have p1 := hA 1 _ rfl
 have p2 := hA 2 _ rfl
 have p3 := hA 3 _ rfl
 refine (szGraph_any anyB d0 _ d1 _ x2 x3 wA _ H0 (h0.ext hEA) H1 (h1.ext hEA) (by omega) (by omega)).mono ?_
 rintro e w1 ⟨r, rfl, hr1, hr2, hr, hE1⟩
 clear p0 p1 p2 p3
 by_cases hr0 : r < 0
 ·
  go_wp2
  go_ret
  exact ⟨rfl, hEA.trans hE1⟩
 obtain ⟨s0, s1, hlen⟩ := hr (by omega)
 clear hr
 have hE1' := hEA.trans hE1
 have hV1 := hV.ext hE1 (by omega)
 have p0 := hV1 0 _ rfl
 have p1 := hV1 1 _ rfl
 have p2 := hV1 2 _ rfl
 have p3 := hV1 3 _ rfl
 go_wp2_with fail
 refine (szValue_any anyB vk vn vt d2 _ w1 _ (szValueS_any d2 H2) zvt H2 (h2.ext hE1') (by omega) (by omega)).mono ?_
 rintro e w2 ⟨r', rfl, hr1', hr2', hr', hE2⟩
 clear p0 p1 p2 p3
 clear hV1
 by_cases hr0' : r' < 0
 ·
  go_wp2
  go_ret
  exact ⟨rfl, hE1'.trans hE2⟩
 obtain ⟨_, s2, hlen2⟩ := hr' (by omega)
 clear hr'
 have hE2' := hE1'.trans hE2
 have hW2 := hW.ext (hE1.trans hE2) hzA
 have p0 := hW2 0 _ rfl
 have p1 := hW2 1 _ rfl
 have p2 := hW2 2 _ rfl
 have p3 := hW2 3 _ rfl
 go_wp2_with fail
 refine (szValue_any anyB k n t d3 _ w2 _ (szValueS_any d3 H3) zt H3 (h3.ext hE2') (by omega) (by omega)).mono ?_
 rintro e w3 ⟨r'', rfl, hr1'', hr2'', hr'', hE3⟩
 clear p0 p1 p2 p3
 clear hW2
 by_cases hr0'' : r'' < 0
 ·
  go_wp2
  go_ret
  exact ⟨rfl, hE2'.trans hE3⟩
 obtain ⟨_, s3, hlen3⟩ := hr'' (by omega)
 clear hr''
 have hEw3 := hE2'.trans hE3
 have hcnt0 := cnt_list H0 s0
 have hcnt1 := cnt_list H1 s1
 have hcnt2 := cnt_list H2 s2
 have hcnt3 := cnt_list H3 s3
 have hcnt : Hid (1 + cntD d0 + cntD d1 + cntD d2 + cntD d3 ≤ 400000000) := by show _ ≤ _; omega
 have hnn : Hid (¬ r'' < 0) := hr0''
 clear hcnt0 hcnt1 hcnt2 hcnt3 hlen hlen2 hlen3 hr1 hr2 hr1' hr2' hr1'' hr2'' hr0 hr0' hs0
 -- what the functions answer
 have hto := fun (W : World) (hW : Ext w W) => toGraph_any anyB d0 _ d1 _ x2 x3 W H0 (h0.ext hW) s0 H1 (h1.ext hW) s1
 have htv := fun (W : World) (hW : Ext w W) => toValue_any anyB vk vn vt d2 _ W (toValueS_any d2 H2) H2 (h2.ext hW) s2
 have htw := fun (W : World) (hW : Ext w W) => toValue_any anyB k n t d3 _ W (toValueS_any d3 H3) H3 (h3.ext hW) s3
 have hsp0 := fun (W : World) (c0 c1 c2 c3 : Value) (k0 : DIn anyB W d0 c0) (k1 : DIn anyB W d1 c1) (k2 : DIn anyB W d2 c2) (k3 : DIn anyB W d3 c3) => specPropSet_any anyB anyB anyB d0 d1 d2 d3 vk vn vt s k n t c0 c1 c2 c3 x2 x3 W H0 k0 s0 H1 k1 s1 H2 k2 H3 k3 s3 zvk zvn zvt zs zk zn zt _ rfl _ rfl
 have him := fun (W : World) (c0 c1 c2 c3 : Value) (k0 : DIn anyB W d0 c0) (k1 : DIn anyB W d1 c1) (k2 : DIn anyB W d2 c2) (k3 : DIn anyB W d3 c3) => implPropSet_any anyB anyB anyB d0 d1 d2 d3 vk vn vt s k n t c0 c1 c2 c3 x2 x3 W H0 k0 H1 k1 H2 k2 H3 k3 zvk zvn zvt zs zk zn zt _ rfl _ rfl
 have hHE0 := psD0_has (g := graphB d0 d1 x2 x3) (b := psV d0 d1 d2 vk vn vt s k n t d3) (vk := vk) (vn := vn) (s := s) (k := k) (n := n) (t := t) H0 H3
 have hHE1 := psD1_has (g := graphB d0 d1 x2 x3) (b := psV d0 d1 d2 vk vn vt s k n t d3) (vk := vk) (vn := vn) (s := s) (k := k) (n := n) (t := t) H1 H3
 have hLE0 := psD0_lenOk (g := graphB d0 d1 x2 x3) (b := psV d0 d1 d2 vk vn vt s k n t d3) (vk := vk) (vn := vn) (s := s) (k := k) (n := n) (t := t) H0 s0 s3
 have hLE1 := psD1_lenOk (g := graphB d0 d1 x2 x3) (b := psV d0 d1 d2 vk vn vt s k n t d3) (vk := vk) (vn := vn) (s := s) (k := k) (n := n) (t := t) H1 s1 s3
 have hCE0 := psD0_cnt (g := graphB d0 d1 x2 x3) (b := psV d0 d1 d2 vk vn vt s k n t d3) (vk := vk) (vn := vn) (s := s) (k := k) (n := n) (t := t) (d3 := d3) H0
 have hCE1 := psD1_cnt (g := graphB d0 d1 x2 x3) (b := psV d0 d1 d2 vk vn vt s k n t d3) (vk := vk) (vn := vn) (s := s) (k := k) (n := n) (t := t) (d3 := d3) H1
 have HE0 : Has (psD0 (graphB d0 d1 x2 x3) (psV d0 d1 d2 vk vn vt s k n t d3) d0 vk vn s k n t d3) (.list 4) := hHE0
 have HE1 : Has (psD1 (graphB d0 d1 x2 x3) (psV d0 d1 d2 vk vn vt s k n t d3) d1 vk vn s k n t d3) (.list 5) := hHE1
 have LE0 : LenOk (psD0 (graphB d0 d1 x2 x3) (psV d0 d1 d2 vk vn vt s k n t d3) d0 vk vn s k n t d3) := hLE0
 have LE1 : LenOk (psD1 (graphB d0 d1 x2 x3) (psV d0 d1 d2 vk vn vt s k n t d3) d1 vk vn s k n t d3) := hLE1
 have hce : Hid (1 + cntD (psD0 (graphB d0 d1 x2 x3) (psV d0 d1 d2 vk vn vt s k n t d3) d0 vk vn s k n t d3) + cntD (psD1 (graphB d0 d1 x2 x3) (psV d0 d1 d2 vk vn vt s k n t d3) d1 vk vn s k n t d3) ≤ 1000000000) := by
  have h1 := hcnt.out
  have h2 : cntD (psD0 (graphB d0 d1 x2 x3) (psV d0 d1 d2 vk vn vt s k n t d3) d0 vk vn s k n t d3) ≤ _ := hCE0
  have h3 : cntD (psD1 (graphB d0 d1 x2 x3) (psV d0 d1 d2 vk vn vt s k n t d3) d1 vk vn s k n t d3) ≤ _ := hCE1
  show _ ≤ _
  omega
 clear hHE0 hHE1 hLE0 hLE1 hCE0 hCE1
 generalize psD0 (graphB d0 d1 x2 x3) (psV d0 d1 d2 vk vn vt s k n t d3) d0 vk vn s k n t d3 = e0 at *
 generalize psD1 (graphB d0 d1 x2 x3) (psV d0 d1 d2 vk vn vt s k n t d3) d1 vk vn s k n t d3 = e1 at *
 generalize (graphB d0 d1 x2 x3 && psV d0 d1 d2 vk vn vt s k n t d3) = yb at *
 generalize edX (graphB d0 d1 x2 x3) x2 = y2 at *
 generalize edX (graphB d0 d1 x2 x3) x3 = y3 at *
 have hspG : ∀ (W : World) (c0 c1 c2 c3 : Value) (k0 : DIn anyB W d0 c0) (k1 : DIn anyB W d1 c1) (k2 : DIn anyB W d2 c2) (k3 : DIn anyB W d3 c3), Calls Tryz.prog 6 #[.agg #[c0, c1, .int .i64 x2, .int .i64 x3], .agg #[.int .i64 vk, .int .i64 vn, .string vt, c2], .string s, .agg #[.int .i64 k, .int .i64 n, .string t, c3]] W (GPost e0 e1 y2 y3 yb W) := fun W c0 c1 c2 c3 k0 k1 k2 k3 => (hsp0 W c0 c1 c2 c3 k0 k1 k2 k3).mono fun e W' h => by
  obtain ⟨u0, u1, rfl, g0, g1, hE⟩ := h
  exact GPost.mk u0 u1 _ W' g0 g1 (fun x hx => hx) hE
 have himG : ∀ (W : World) (c0 c1 c2 c3 : Value) (k0 : DIn anyB W d0 c0) (k1 : DIn anyB W d1 c1) (k2 : DIn anyB W d2 c2) (k3 : DIn anyB W d3 c3), Calls Tryz.prog 9 #[.agg #[c0, c1, .int .i64 x2, .int .i64 x3], .agg #[.int .i64 vk, .int .i64 vn, .string vt, c2], .string s, .agg #[.int .i64 k, .int .i64 n, .string t, c3]] W (GPost e0 e1 y2 y3 yb W) := fun W c0 c1 c2 c3 k0 k1 k2 k3 => (him W c0 c1 c2 c3 k0 k1 k2 k3).mono fun e W' h => by
  obtain ⟨u0, u1, rfl, ⟨G0, G1, ⟨g0, _, q0⟩, ⟨g1, _, q1⟩, _⟩, hE⟩ := h
  exact GPost.mk u0 u1 (fun x => G0 x ∨ G1 x) W' (g0.mono fun x hx => .inl hx) (g1.mono fun x hx => .inr hx) (fun x hx => hx.elim (q0 x) (q1 x)) hE
 clear hsp0
 have hE13 := (hE1.trans hE2).trans hE3
 replace hA := hA.ext hE13 (by omega)
 replace hV := hV.ext hE13 (by omega)
 replace hW := hW.ext hE13 (by omega)
 replace hzA : bW < w3.heap.size := Nat.lt_of_lt_of_le hzA hE13.le
 clear hE1 hE2 hE3 hE1' hE2' hE13
 have hww3 := hEw3.le
 have HK : Hid (∀ W, Ext w3 W → (W.cell? ⟨bA, 0, none⟩ = some (.slice a0 l0 cap0) ∧ W.cell? ⟨bA, 1, none⟩ = some (.slice a1 l1 cap1) ∧ W.cell? ⟨bA, 2, none⟩ = some (.int .i64 x2) ∧ W.cell? ⟨bA, 3, none⟩ = some (.int .i64 x3)) ∧ (W.cell? ⟨bV, 0, none⟩ = some (.int .i64 vk) ∧ W.cell? ⟨bV, 1, none⟩ = some (.int .i64 vn) ∧ W.cell? ⟨bV, 2, none⟩ = some (.string vt) ∧ W.cell? ⟨bV, 3, none⟩ = some (.slice a2 l2 cap2)) ∧ (W.cell? ⟨bW, 0, none⟩ = some (.int .i64 k) ∧ W.cell? ⟨bW, 1, none⟩ = some (.int .i64 n) ∧ W.cell? ⟨bW, 2, none⟩ = some (.string t) ∧ W.cell? ⟨bW, 3, none⟩ = some (.slice a3 l3 cap3))) := fun W hx => by
  have hA := hA.ext hx (by omega)
  have hV := hV.ext hx (by omega)
  have hW := hW.ext hx (by omega)
  exact ⟨⟨hA 0 _ rfl, hA 1 _ rfl, hA 2 _ rfl, hA 3 _ rfl⟩, ⟨hV 0 _ rfl, hV 1 _ rfl, hV 2 _ rfl, hV 3 _ rfl⟩, hW 0 _ rfl, hW 1 _ rfl, hW 2 _ rfl, hW 3 _ rfl⟩
 go_upto_region 13 with fail
 go_cut [10, 11] (fun s sb wc => ∃ R u0 u1 Q, s = .pointer (some ⟨R, 0, none⟩) ∧ sb = .bool yb ∧ BoxG w3.heap.size e0 e1 y2 y3 wc R u0 u1 Q ∧ Ext w3 wc)
 case first =>
  have hc0 : Ext w3 w3.drew := (Ext.refl _).drew
  have sz0 := hc0.le
  refine wp_region_held_drew (S := (fun W => (W.cell? ⟨bA, 0, none⟩ = some (.slice a0 l0 cap0) ∧ W.cell? ⟨bA, 1, none⟩ = some (.slice a1 l1 cap1) ∧ W.cell? ⟨bA, 2, none⟩ = some (.int .i64 x2) ∧ W.cell? ⟨bA, 3, none⟩ = some (.int .i64 x3)) ∧ (W.cell? ⟨bV, 0, none⟩ = some (.int .i64 vk) ∧ W.cell? ⟨bV, 1, none⟩ = some (.int .i64 vn) ∧ W.cell? ⟨bV, 2, none⟩ = some (.string vt) ∧ W.cell? ⟨bV, 3, none⟩ = some (.slice a2 l2 cap2)) ∧ (W.cell? ⟨bW, 0, none⟩ = some (.int .i64 k) ∧ W.cell? ⟨bW, 1, none⟩ = some (.int .i64 n) ∧ W.cell? ⟨bW, 2, none⟩ = some (.string t) ∧ W.cell? ⟨bW, 3, none⟩ = some (.slice a3 l3 cap3)))) (by kernel_rfl) (HK.out _ hc0) (fun hHeld => ?_)
  refine tkL 0 ⟨some 41, .load 25 (.tmp 4), 25, _, #[], none⟩ ?_ hHeld ?yyA0 ?rrA0
  case yyA0 => (intro w hSw; (try dsimp only at hSw); go_simp; try with_reducible rfl)
  try simp only [Act.put, putA, putB, putC]
  refine tkL 2 ⟨some 43, .load 28 (.tmp 5), 28, _, #[], none⟩ ?_ hHeld ?yyA2 ?rrA2
  case yyA2 => (intro w hSw; (try dsimp only at hSw); go_simp; try with_reducible rfl)
  try simp only [Act.put, putA, putB, putC]
  refine tkL 4 ⟨some 45, .move (.tmp 2), 9, _, #[], none⟩ ?_ hHeld ?yyA4 ?rrA4
  case yyA4 => (intro w hSw; (try dsimp only at hSw); go_simp; try with_reducible rfl)
  try simp only [Act.put, putA, putB, putC]
  refine tkL 5 ⟨some 46, .load 28 (.tmp 7), 28, _, #[], none⟩ ?_ hHeld ?yyA5 ?rrA5
  case yyA5 => (intro w hSw; (try dsimp only at hSw); go_simp; try with_reducible rfl)
  try simp only [Act.put, putA, putB, putC]
  generalize w3.drew = W0 at *
  refine wpAnyH_ready (rs := [1, 11]) (by kernel_rfl) (by simp) ?_
  refine AllReadyH.cons (o := ⟨some 42, .call { callee := .value (.func 7), args := #[.tmp 41], argTypes := #[25] }, 34, _, #[⟨0, .data⟩], none⟩) rfl (fun K hK => ?_) (AllReadyH.cons (o := ⟨some 10, .alloc 34, 0, _, #[], none⟩) rfl (fun K hK => ?_) (AllReadyH.nil))
  ·
   go_simp
   refine (hto _ (hEw3.trans hc0)).mono ?_
   rintro e W1 ⟨u0, u1, Qa, Qb, rfl, ⟨hu0, _, _⟩, ⟨hu1, _, _⟩, _, hx⟩
   obtain ⟨uaa, uac, ual, _, hq_, hc_, _, _⟩ := list_shape H0 hu0
   subst hc_
   clear hq_
   obtain ⟨uba, ubc, ubl, _, hq_, hc_, _, _⟩ := list_shape H1 hu1
   subst hc_
   clear hq_
   go_wp2_with fail
   have hc1 := (hc0).trans hx
   have sz1 := hx.le
   clear hx
   refine hK.out _ _ (HK.out _ hc1) (fun hHeld => ?_)
   clear hK K
   try simp only [Act.put, putA, putB, putC]
   refine wpAnyH_ready (rs := [3, 11]) (by kernel_rfl) (by simp) ?_
   refine AllReadyH.cons (o := ⟨some 44, .call { callee := .value (.func 8), args := #[.tmp 43], argTypes := #[28] }, 40, _, #[⟨2, .data⟩, ⟨1, .chain⟩], none⟩) rfl (fun K hK => ?_) (AllReadyH.cons (o := ⟨some 10, .alloc 34, 0, _, #[], none⟩) rfl (fun K hK => ?_) (AllReadyH.nil))
   ·
    go_simp
    refine (htv _ (hEw3.trans hc1)).mono ?_
    rintro e W2 ⟨u2, Qc, rfl, ⟨hu2, _, _⟩, hx⟩
    obtain ⟨uva, uvc, uvl, _, hq_, hc_, _, _⟩ := list_shape H2 hu2
    subst hc_
    clear hq_
    go_wp2_with fail
    have hc2 := (hc1).trans hx
    have sz2 := hx.le
    replace hu0 := hu0.ext hx
    replace hu1 := hu1.ext hx
    clear hx
    refine hK.out _ _ (HK.out _ hc2) (fun hHeld => ?_)
    clear hK K
    try simp only [Act.put, putA, putB, putC]
    refine wpAnyH_ready (rs := [6, 11]) (by kernel_rfl) (by simp) ?_
    refine AllReadyH.cons (o := ⟨some 47, .call { callee := .value (.func 8), args := #[.tmp 46], argTypes := #[28] }, 40, _, #[⟨5, .data⟩, ⟨3, .chain⟩], none⟩) rfl (fun K hK => ?_) (AllReadyH.cons (o := ⟨some 10, .alloc 34, 0, _, #[], none⟩) rfl (fun K hK => ?_) (AllReadyH.nil))
    ·
     go_simp
     refine (htw _ (hEw3.trans hc2)).mono ?_
     rintro e W3 ⟨u3, Qd, rfl, ⟨hu3, _, _⟩, hx⟩
     obtain ⟨uwa, uwc, uwl, _, hq_, hc_, _, _⟩ := list_shape H3 hu3
     subst hc_
     clear hq_
     go_wp2_with fail
     have hc3 := (hc2).trans hx
     have sz3 := hx.le
     replace hu0 := hu0.ext hx
     replace hu1 := hu1.ext hx
     replace hu2 := hu2.ext hx
     clear hx
     refine hK.out _ _ (HK.out _ hc3) (fun hHeld => ?_)
     clear hK K
     try simp only [Act.put, putA, putB, putC]
     refine wpAnyH_ready (rs := [7, 11]) (by kernel_rfl) (by simp) ?_
     refine AllReadyH.cons (o := ⟨some 48, .call { callee := .value (.func 6), args := #[.tmp 42, .tmp 44, .tmp 45, .tmp 47], argTypes := #[34, 40, 9, 40] }, 35, _, #[⟨1, .data⟩, ⟨3, .data⟩, ⟨4, .data⟩, ⟨6, .data⟩, ⟨6, .chain⟩], none⟩) rfl (fun K hK => ?_) (AllReadyH.cons (o := ⟨some 10, .alloc 34, 0, _, #[], none⟩) rfl (fun K hK => ?_) (AllReadyH.nil))
     ·
      go_simp
      refine (hspG _ _ _ _ _ hu0.any hu1.any hu2.any hu3.any).mono ?_
      rintro e W4 ⟨uG, uH, QG, _, hG0, hG1, qG, hx⟩
      obtain ⟨vga, vgc, vgl, _, hq_, hc_, _, _⟩ := list_shape HE0 hG0
      subst hc_
      clear hq_
      obtain ⟨vha, vhc, vhl, _, hq_, hc_, _, _⟩ := list_shape HE1 hG1
      subst hc_
      clear hq_
      clear hu0 hu1 hu2 hu3
      go_wp2_with fail
      have hc4 := (hc3).trans hx
      have sz4 := hx.le
      clear hx
      refine hK.out _ _ (HK.out _ hc4) (fun hHeld => ?_)
      clear hK K
      try simp only [Act.put, putA, putB, putC]
      refine tkL 8 ⟨some 40, .move (.tmp 48), 35, _, #[⟨7, .data⟩], none⟩ ?_ hHeld ?yyAtabc8 ?rrAtabc8
      case yyAtabc8 => (intro w hSw; (try dsimp only at hSw); go_simp; try with_reducible rfl)
      try simp only [Act.put, putA, putB, putC]
      refine tkL 9 ⟨some 49, .extract (.tmp 40) 0, 34, _, #[⟨8, .data⟩], none⟩ ?_ hHeld ?yyAtabc9 ?rrAtabc9
      case yyAtabc9 => (intro w hSw; (try dsimp only at hSw); go_simp; try with_reducible rfl)
      try simp only [Act.put, putA, putB, putC]
      refine tkL 10 ⟨some 50, .extract (.tmp 40) 1, 4, _, #[⟨8, .data⟩, ⟨12, .gcOnly .lateStores⟩], none⟩ ?_ hHeld ?yyAtabc10 ?rrAtabc10
      case yyAtabc10 => (intro w hSw; (try dsimp only at hSw); go_simp; try with_reducible rfl)
      try simp only [Act.put, putA, putB, putC]
      refine wpAnyH_ready (rs := [11]) (by kernel_rfl) (by simp) ?_
      refine AllReadyH.cons (o := ⟨some 10, .alloc 34, 0, _, #[], none⟩) rfl (fun K hK => ?_) (AllReadyH.nil)
      go_simp
      have hx : Ext W4 (W4.alloc (.cells #[.slice none 0 0, .slice none 0 0, .int .i64 0, .int .i64 0] 34)) := (Ext.refl _).alloc _
      have FR := FG.new W4 #[.slice none 0 0, .slice none 0 0, .int .i64 0, .int .i64 0] 34
      have FZ : ∀ j, (W4.alloc (.cells #[.slice none 0 0, .slice none 0 0, .int .i64 0, .int .i64 0] 34)).frozen? ⟨W4.heap.size, j, none⟩ = false := fun j => World.frozen?_alloc_new W4 _ _ j
      have hRs : W4.heap.size < (W4.alloc (.cells #[.slice none 0 0, .slice none 0 0, .int .i64 0, .int .i64 0] 34)).heap.size := by simp
      obtain ⟨R, hR⟩ : ∃ m, m = W4.heap.size := ⟨_, rfl⟩
      have hR1 := Nat.le_of_eq hR
      have hR2 := Nat.le_of_eq hR.symm
      rw [← hR] at FR FZ hRs ⊢
      clear hR
      generalize W4.alloc (.cells #[.slice none 0 0, .slice none 0 0, .int .i64 0, .int .i64 0] 34) = W5 at *
      have nqG : ¬ QG R := fun h => by have := (qG _ h).2; omega
      have hc5 := (hc4).trans hx
      have sz5 := hx.le
      replace hG0 := hG0.ext hx
      replace hG1 := hG1.ext hx
      clear hx
      refine hK.out _ _ (HK.out _ hc5) (fun hHeld => ?_)
      clear hK K
      try simp only [Act.put, putA, putB, putC]
      refine wpAnyH_ready (rs := [12]) (by kernel_rfl) (by simp) ?_
      refine AllReadyH.cons (o := ⟨none, .store 34 (.tmp 10) (.tmp 49), 0, _, #[⟨11, .data⟩, ⟨9, .data⟩, ⟨7, .chain⟩, ⟨0, .phase⟩, ⟨1, .phase⟩, ⟨2, .phase⟩, ⟨3, .phase⟩, ⟨4, .phase⟩, ⟨5, .phase⟩, ⟨6, .phase⟩, ⟨7, .phase⟩, ⟨8, .phase⟩, ⟨9, .phase⟩, ⟨10, .textOnly .lateStores⟩, ⟨11, .phase⟩], none⟩) rfl (fun K hK => ?_) (AllReadyH.nil)
      have r0 := FR 0 _ rfl
      have r1 := FR 1 _ rfl
      have r2 := FR 2 _ rfl
      have r3 := FR 3 _ rfl
      have z0 := FZ 0
      have z1 := FZ 1
      have z2 := FZ 2
      have z3 := FZ 3
      go_simp
      clear r0 r1 r2 r3 z0 z1 z2 z3
      have hB : BoxG w3.heap.size e0 e1 y2 y3 _ R (.slice vga vgl vgc) (.slice vha vhl vhc) QG := boxG_store (W := W5) FR (by omega) (by omega) hG0 hG1 (fun x hx => ⟨by have := (qG x hx).1; omega, by have := (qG x hx).2; omega⟩) nqG
      have hEz : Ext w3 ((((W5.setCell ⟨R, 0, none⟩ (.slice vga vgl vgc)).setCell ⟨R, 1, none⟩ (.slice vha vhl vhc)).setCell ⟨R, 2, none⟩ (.int .i64 y2)).setCell ⟨R, 3, none⟩ (.int .i64 y3)) := (((hc5.setCell (show _ ≤ R by omega) _).setCell (show _ ≤ R by omega) _).setCell (show _ ≤ R by omega) _).setCell (show _ ≤ R by omega) _
      refine hK.out _ _ (HK.out _ hEz) (fun hHeld => ?_)
      clear hK K
      try simp only [Act.put, putA, putB, putC]
      refine tkL 13 ⟨some 11, .assign (.tmp 50), 4, _, #[⟨10, .data⟩, ⟨12, .chain⟩, ⟨0, .phase⟩, ⟨1, .phase⟩, ⟨2, .phase⟩, ⟨3, .phase⟩, ⟨4, .phase⟩, ⟨5, .phase⟩, ⟨6, .phase⟩, ⟨7, .phase⟩, ⟨8, .phase⟩, ⟨9, .phase⟩, ⟨10, .phase⟩, ⟨11, .phase⟩, ⟨12, .phase⟩], none⟩ ?_ hHeld ?yyAabcde13 ?rrAabcde13
      case yyAabcde13 => (intro w hSw; (try dsimp only at hSw); go_simp; try with_reducible rfl)
      try simp only [Act.put, putA, putB, putC]
      refine wpAnyH_done (by kernel_rfl) ?_ _
      go_wp2
      go_meet
      case rel => exact ⟨R, _, _, QG, rfl, rfl, hB, hEz⟩
     ·
      go_simp
      have hx : Ext W3 (W3.alloc (.cells #[.slice none 0 0, .slice none 0 0, .int .i64 0, .int .i64 0] 34)) := (Ext.refl _).alloc _
      have FR := FG.new W3 #[.slice none 0 0, .slice none 0 0, .int .i64 0, .int .i64 0] 34
      have FZ : ∀ j, (W3.alloc (.cells #[.slice none 0 0, .slice none 0 0, .int .i64 0, .int .i64 0] 34)).frozen? ⟨W3.heap.size, j, none⟩ = false := fun j => World.frozen?_alloc_new W3 _ _ j
      have hRs : W3.heap.size < (W3.alloc (.cells #[.slice none 0 0, .slice none 0 0, .int .i64 0, .int .i64 0] 34)).heap.size := by simp
      obtain ⟨R, hR⟩ : ∃ m, m = W3.heap.size := ⟨_, rfl⟩
      have hR1 := Nat.le_of_eq hR
      have hR2 := Nat.le_of_eq hR.symm
      rw [← hR] at FR FZ hRs ⊢
      clear hR
      generalize W3.alloc (.cells #[.slice none 0 0, .slice none 0 0, .int .i64 0, .int .i64 0] 34) = W4 at *
      have hc4 := (hc3).trans hx
      have sz4 := hx.le
      replace hu0 := hu0.ext hx
      replace hu1 := hu1.ext hx
      replace hu2 := hu2.ext hx
      replace hu3 := hu3.ext hx
      clear hx
      refine hK.out _ _ (HK.out _ hc4) (fun hHeld => ?_)
      clear hK K
      try simp only [Act.put, putA, putB, putC]
      refine wpAnyH_ready (rs := [7]) (by kernel_rfl) (by simp) ?_
      refine AllReadyH.cons (o := ⟨some 48, .call { callee := .value (.func 6), args := #[.tmp 42, .tmp 44, .tmp 45, .tmp 47], argTypes := #[34, 40, 9, 40] }, 35, _, #[⟨1, .data⟩, ⟨3, .data⟩, ⟨4, .data⟩, ⟨6, .data⟩, ⟨6, .chain⟩], none⟩) rfl (fun K hK => ?_) (AllReadyH.nil)
      go_simp
      refine (hspG _ _ _ _ _ hu0.any hu1.any hu2.any hu3.any).mono ?_
      rintro e W5 ⟨uG, uH, QG, _, hG0, hG1, qG, hx⟩
      obtain ⟨vga, vgc, vgl, _, hq_, hc_, _, _⟩ := list_shape HE0 hG0
      subst hc_
      clear hq_
      obtain ⟨vha, vhc, vhl, _, hq_, hc_, _, _⟩ := list_shape HE1 hG1
      subst hc_
      clear hq_
      have nqG : ¬ QG R := fun h => by have := (qG _ h).1; omega
      clear hu0 hu1 hu2 hu3
      go_wp2_with fail
      have hc5 := (hc4).trans hx
      have sz5 := hx.le
      replace FZ := fun j => ((bcell hx).2 R j (by omega)).trans (FZ j)
      replace FR := FR.ext hx (by omega)
      clear hx
      refine hK.out _ _ (HK.out _ hc5) (fun hHeld => ?_)
      clear hK K
      try simp only [Act.put, putA, putB, putC]
      refine tkL 8 ⟨some 40, .move (.tmp 48), 35, _, #[⟨7, .data⟩], none⟩ ?_ hHeld ?yyAtabce8 ?rrAtabce8
      case yyAtabce8 => (intro w hSw; (try dsimp only at hSw); go_simp; try with_reducible rfl)
      try simp only [Act.put, putA, putB, putC]
      refine tkL 9 ⟨some 49, .extract (.tmp 40) 0, 34, _, #[⟨8, .data⟩], none⟩ ?_ hHeld ?yyAtabce9 ?rrAtabce9
      case yyAtabce9 => (intro w hSw; (try dsimp only at hSw); go_simp; try with_reducible rfl)
      try simp only [Act.put, putA, putB, putC]
      refine tkL 10 ⟨some 50, .extract (.tmp 40) 1, 4, _, #[⟨8, .data⟩, ⟨12, .gcOnly .lateStores⟩], none⟩ ?_ hHeld ?yyAtabce10 ?rrAtabce10
      case yyAtabce10 => (intro w hSw; (try dsimp only at hSw); go_simp; try with_reducible rfl)
      try simp only [Act.put, putA, putB, putC]
      refine wpAnyH_ready (rs := [12]) (by kernel_rfl) (by simp) ?_
      refine AllReadyH.cons (o := ⟨none, .store 34 (.tmp 10) (.tmp 49), 0, _, #[⟨11, .data⟩, ⟨9, .data⟩, ⟨7, .chain⟩, ⟨0, .phase⟩, ⟨1, .phase⟩, ⟨2, .phase⟩, ⟨3, .phase⟩, ⟨4, .phase⟩, ⟨5, .phase⟩, ⟨6, .phase⟩, ⟨7, .phase⟩, ⟨8, .phase⟩, ⟨9, .phase⟩, ⟨10, .textOnly .lateStores⟩, ⟨11, .phase⟩], none⟩) rfl (fun K hK => ?_) (AllReadyH.nil)
      have r0 := FR 0 _ rfl
      have r1 := FR 1 _ rfl
      have r2 := FR 2 _ rfl
      have r3 := FR 3 _ rfl
      have z0 := FZ 0
      have z1 := FZ 1
      have z2 := FZ 2
      have z3 := FZ 3
      go_simp
      clear r0 r1 r2 r3 z0 z1 z2 z3
      have hB : BoxG w3.heap.size e0 e1 y2 y3 _ R (.slice vga vgl vgc) (.slice vha vhl vhc) QG := boxG_store (W := W5) FR (by omega) (by omega) hG0 hG1 (fun x hx => ⟨by have := (qG x hx).1; omega, by have := (qG x hx).2; omega⟩) nqG
      have hEz : Ext w3 ((((W5.setCell ⟨R, 0, none⟩ (.slice vga vgl vgc)).setCell ⟨R, 1, none⟩ (.slice vha vhl vhc)).setCell ⟨R, 2, none⟩ (.int .i64 y2)).setCell ⟨R, 3, none⟩ (.int .i64 y3)) := (((hc5.setCell (show _ ≤ R by omega) _).setCell (show _ ≤ R by omega) _).setCell (show _ ≤ R by omega) _).setCell (show _ ≤ R by omega) _
      refine hK.out _ _ (HK.out _ hEz) (fun hHeld => ?_)
      clear hK K
      try simp only [Act.put, putA, putB, putC]
      refine tkL 13 ⟨some 11, .assign (.tmp 50), 4, _, #[⟨10, .data⟩, ⟨12, .chain⟩, ⟨0, .phase⟩, ⟨1, .phase⟩, ⟨2, .phase⟩, ⟨3, .phase⟩, ⟨4, .phase⟩, ⟨5, .phase⟩, ⟨6, .phase⟩, ⟨7, .phase⟩, ⟨8, .phase⟩, ⟨9, .phase⟩, ⟨10, .phase⟩, ⟨11, .phase⟩, ⟨12, .phase⟩], none⟩ ?_ hHeld ?yyAabced13 ?rrAabced13
      case yyAabced13 => (intro w hSw; (try dsimp only at hSw); go_simp; try with_reducible rfl)
      try simp only [Act.put, putA, putB, putC]
      refine wpAnyH_done (by kernel_rfl) ?_ _
      go_wp2
      go_meet
      case rel => exact ⟨R, _, _, QG, rfl, rfl, hB, hEz⟩
    ·
     go_simp
     have hx : Ext W2 (W2.alloc (.cells #[.slice none 0 0, .slice none 0 0, .int .i64 0, .int .i64 0] 34)) := (Ext.refl _).alloc _
     have FR := FG.new W2 #[.slice none 0 0, .slice none 0 0, .int .i64 0, .int .i64 0] 34
     have FZ : ∀ j, (W2.alloc (.cells #[.slice none 0 0, .slice none 0 0, .int .i64 0, .int .i64 0] 34)).frozen? ⟨W2.heap.size, j, none⟩ = false := fun j => World.frozen?_alloc_new W2 _ _ j
     have hRs : W2.heap.size < (W2.alloc (.cells #[.slice none 0 0, .slice none 0 0, .int .i64 0, .int .i64 0] 34)).heap.size := by simp
     obtain ⟨R, hR⟩ : ∃ m, m = W2.heap.size := ⟨_, rfl⟩
     have hR1 := Nat.le_of_eq hR
     have hR2 := Nat.le_of_eq hR.symm
     rw [← hR] at FR FZ hRs ⊢
     clear hR
     generalize W2.alloc (.cells #[.slice none 0 0, .slice none 0 0, .int .i64 0, .int .i64 0] 34) = W3 at *
     have hc3 := (hc2).trans hx
     have sz3 := hx.le
     replace hu0 := hu0.ext hx
     replace hu1 := hu1.ext hx
     replace hu2 := hu2.ext hx
     clear hx
     refine hK.out _ _ (HK.out _ hc3) (fun hHeld => ?_)
     clear hK K
     try simp only [Act.put, putA, putB, putC]
     refine wpAnyH_ready (rs := [6]) (by kernel_rfl) (by simp) ?_
     refine AllReadyH.cons (o := ⟨some 47, .call { callee := .value (.func 8), args := #[.tmp 46], argTypes := #[28] }, 40, _, #[⟨5, .data⟩, ⟨3, .chain⟩], none⟩) rfl (fun K hK => ?_) (AllReadyH.nil)
     go_simp
     refine (htw _ (hEw3.trans hc3)).mono ?_
     rintro e W4 ⟨u3, Qd, rfl, ⟨hu3, _, _⟩, hx⟩
     obtain ⟨uwa, uwc, uwl, _, hq_, hc_, _, _⟩ := list_shape H3 hu3
     subst hc_
     clear hq_
     go_wp2_with fail
     have hc4 := (hc3).trans hx
     have sz4 := hx.le
     replace hu0 := hu0.ext hx
     replace hu1 := hu1.ext hx
     replace hu2 := hu2.ext hx
     replace FZ := fun j => ((bcell hx).2 R j (by omega)).trans (FZ j)
     replace FR := FR.ext hx (by omega)
     clear hx
     refine hK.out _ _ (HK.out _ hc4) (fun hHeld => ?_)
     clear hK K
     try simp only [Act.put, putA, putB, putC]
     refine wpAnyH_ready (rs := [7]) (by kernel_rfl) (by simp) ?_
     refine AllReadyH.cons (o := ⟨some 48, .call { callee := .value (.func 6), args := #[.tmp 42, .tmp 44, .tmp 45, .tmp 47], argTypes := #[34, 40, 9, 40] }, 35, _, #[⟨1, .data⟩, ⟨3, .data⟩, ⟨4, .data⟩, ⟨6, .data⟩, ⟨6, .chain⟩], none⟩) rfl (fun K hK => ?_) (AllReadyH.nil)
     go_simp
     refine (hspG _ _ _ _ _ hu0.any hu1.any hu2.any hu3.any).mono ?_
     rintro e W5 ⟨uG, uH, QG, _, hG0, hG1, qG, hx⟩
     obtain ⟨vga, vgc, vgl, _, hq_, hc_, _, _⟩ := list_shape HE0 hG0
     subst hc_
     clear hq_
     obtain ⟨vha, vhc, vhl, _, hq_, hc_, _, _⟩ := list_shape HE1 hG1
     subst hc_
     clear hq_
     have nqG : ¬ QG R := fun h => by have := (qG _ h).1; omega
     clear hu0 hu1 hu2 hu3
     go_wp2_with fail
     have hc5 := (hc4).trans hx
     have sz5 := hx.le
     replace FZ := fun j => ((bcell hx).2 R j (by omega)).trans (FZ j)
     replace FR := FR.ext hx (by omega)
     clear hx
     refine hK.out _ _ (HK.out _ hc5) (fun hHeld => ?_)
     clear hK K
     try simp only [Act.put, putA, putB, putC]
     refine tkL 8 ⟨some 40, .move (.tmp 48), 35, _, #[⟨7, .data⟩], none⟩ ?_ hHeld ?yyAtabec8 ?rrAtabec8
     case yyAtabec8 => (intro w hSw; (try dsimp only at hSw); go_simp; try with_reducible rfl)
     try simp only [Act.put, putA, putB, putC]
     refine tkL 9 ⟨some 49, .extract (.tmp 40) 0, 34, _, #[⟨8, .data⟩], none⟩ ?_ hHeld ?yyAtabec9 ?rrAtabec9
     case yyAtabec9 => (intro w hSw; (try dsimp only at hSw); go_simp; try with_reducible rfl)
     try simp only [Act.put, putA, putB, putC]
     refine tkL 10 ⟨some 50, .extract (.tmp 40) 1, 4, _, #[⟨8, .data⟩, ⟨12, .gcOnly .lateStores⟩], none⟩ ?_ hHeld ?yyAtabec10 ?rrAtabec10
     case yyAtabec10 => (intro w hSw; (try dsimp only at hSw); go_simp; try with_reducible rfl)
     try simp only [Act.put, putA, putB, putC]
     refine wpAnyH_ready (rs := [12]) (by kernel_rfl) (by simp) ?_
     refine AllReadyH.cons (o := ⟨none, .store 34 (.tmp 10) (.tmp 49), 0, _, #[⟨11, .data⟩, ⟨9, .data⟩, ⟨7, .chain⟩, ⟨0, .phase⟩, ⟨1, .phase⟩, ⟨2, .phase⟩, ⟨3, .phase⟩, ⟨4, .phase⟩, ⟨5, .phase⟩, ⟨6, .phase⟩, ⟨7, .phase⟩, ⟨8, .phase⟩, ⟨9, .phase⟩, ⟨10, .textOnly .lateStores⟩, ⟨11, .phase⟩], none⟩) rfl (fun K hK => ?_) (AllReadyH.nil)
     have r0 := FR 0 _ rfl
     have r1 := FR 1 _ rfl
     have r2 := FR 2 _ rfl
     have r3 := FR 3 _ rfl
     have z0 := FZ 0
     have z1 := FZ 1
     have z2 := FZ 2
     have z3 := FZ 3
     go_simp
     clear r0 r1 r2 r3 z0 z1 z2 z3
     have hB : BoxG w3.heap.size e0 e1 y2 y3 _ R (.slice vga vgl vgc) (.slice vha vhl vhc) QG := boxG_store (W := W5) FR (by omega) (by omega) hG0 hG1 (fun x hx => ⟨by have := (qG x hx).1; omega, by have := (qG x hx).2; omega⟩) nqG
     have hEz : Ext w3 ((((W5.setCell ⟨R, 0, none⟩ (.slice vga vgl vgc)).setCell ⟨R, 1, none⟩ (.slice vha vhl vhc)).setCell ⟨R, 2, none⟩ (.int .i64 y2)).setCell ⟨R, 3, none⟩ (.int .i64 y3)) := (((hc5.setCell (show _ ≤ R by omega) _).setCell (show _ ≤ R by omega) _).setCell (show _ ≤ R by omega) _).setCell (show _ ≤ R by omega) _
     refine hK.out _ _ (HK.out _ hEz) (fun hHeld => ?_)
     clear hK K
     try simp only [Act.put, putA, putB, putC]
     refine tkL 13 ⟨some 11, .assign (.tmp 50), 4, _, #[⟨10, .data⟩, ⟨12, .chain⟩, ⟨0, .phase⟩, ⟨1, .phase⟩, ⟨2, .phase⟩, ⟨3, .phase⟩, ⟨4, .phase⟩, ⟨5, .phase⟩, ⟨6, .phase⟩, ⟨7, .phase⟩, ⟨8, .phase⟩, ⟨9, .phase⟩, ⟨10, .phase⟩, ⟨11, .phase⟩, ⟨12, .phase⟩], none⟩ ?_ hHeld ?yyAabecd13 ?rrAabecd13
     case yyAabecd13 => (intro w hSw; (try dsimp only at hSw); go_simp; try with_reducible rfl)
     try simp only [Act.put, putA, putB, putC]
     refine wpAnyH_done (by kernel_rfl) ?_ _
     go_wp2
     go_meet
     case rel => exact ⟨R, _, _, QG, rfl, rfl, hB, hEz⟩
   ·
    go_simp
    have hx : Ext W1 (W1.alloc (.cells #[.slice none 0 0, .slice none 0 0, .int .i64 0, .int .i64 0] 34)) := (Ext.refl _).alloc _
    have FR := FG.new W1 #[.slice none 0 0, .slice none 0 0, .int .i64 0, .int .i64 0] 34
    have FZ : ∀ j, (W1.alloc (.cells #[.slice none 0 0, .slice none 0 0, .int .i64 0, .int .i64 0] 34)).frozen? ⟨W1.heap.size, j, none⟩ = false := fun j => World.frozen?_alloc_new W1 _ _ j
    have hRs : W1.heap.size < (W1.alloc (.cells #[.slice none 0 0, .slice none 0 0, .int .i64 0, .int .i64 0] 34)).heap.size := by simp
    obtain ⟨R, hR⟩ : ∃ m, m = W1.heap.size := ⟨_, rfl⟩
    have hR1 := Nat.le_of_eq hR
    have hR2 := Nat.le_of_eq hR.symm
    rw [← hR] at FR FZ hRs ⊢
    clear hR
    generalize W1.alloc (.cells #[.slice none 0 0, .slice none 0 0, .int .i64 0, .int .i64 0] 34) = W2 at *
    have hc2 := (hc1).trans hx
    have sz2 := hx.le
    replace hu0 := hu0.ext hx
    replace hu1 := hu1.ext hx
    clear hx
    refine hK.out _ _ (HK.out _ hc2) (fun hHeld => ?_)
    clear hK K
    try simp only [Act.put, putA, putB, putC]
    refine wpAnyH_ready (rs := [3]) (by kernel_rfl) (by simp) ?_
    refine AllReadyH.cons (o := ⟨some 44, .call { callee := .value (.func 8), args := #[.tmp 43], argTypes := #[28] }, 40, _, #[⟨2, .data⟩, ⟨1, .chain⟩], none⟩) rfl (fun K hK => ?_) (AllReadyH.nil)
    go_simp
    refine (htv _ (hEw3.trans hc2)).mono ?_
    rintro e W3 ⟨u2, Qc, rfl, ⟨hu2, _, _⟩, hx⟩
    obtain ⟨uva, uvc, uvl, _, hq_, hc_, _, _⟩ := list_shape H2 hu2
    subst hc_
    clear hq_
    go_wp2_with fail
    have hc3 := (hc2).trans hx
    have sz3 := hx.le
    replace hu0 := hu0.ext hx
    replace hu1 := hu1.ext hx
    replace FZ := fun j => ((bcell hx).2 R j (by omega)).trans (FZ j)
    replace FR := FR.ext hx (by omega)
    clear hx
    refine hK.out _ _ (HK.out _ hc3) (fun hHeld => ?_)
    clear hK K
    try simp only [Act.put, putA, putB, putC]
    refine wpAnyH_ready (rs := [6]) (by kernel_rfl) (by simp) ?_
    refine AllReadyH.cons (o := ⟨some 47, .call { callee := .value (.func 8), args := #[.tmp 46], argTypes := #[28] }, 40, _, #[⟨5, .data⟩, ⟨3, .chain⟩], none⟩) rfl (fun K hK => ?_) (AllReadyH.nil)
    go_simp
    refine (htw _ (hEw3.trans hc3)).mono ?_
    rintro e W4 ⟨u3, Qd, rfl, ⟨hu3, _, _⟩, hx⟩
    obtain ⟨uwa, uwc, uwl, _, hq_, hc_, _, _⟩ := list_shape H3 hu3
    subst hc_
    clear hq_
    go_wp2_with fail
    have hc4 := (hc3).trans hx
    have sz4 := hx.le
    replace hu0 := hu0.ext hx
    replace hu1 := hu1.ext hx
    replace hu2 := hu2.ext hx
    replace FZ := fun j => ((bcell hx).2 R j (by omega)).trans (FZ j)
    replace FR := FR.ext hx (by omega)
    clear hx
    refine hK.out _ _ (HK.out _ hc4) (fun hHeld => ?_)
    clear hK K
    try simp only [Act.put, putA, putB, putC]
    refine wpAnyH_ready (rs := [7]) (by kernel_rfl) (by simp) ?_
    refine AllReadyH.cons (o := ⟨some 48, .call { callee := .value (.func 6), args := #[.tmp 42, .tmp 44, .tmp 45, .tmp 47], argTypes := #[34, 40, 9, 40] }, 35, _, #[⟨1, .data⟩, ⟨3, .data⟩, ⟨4, .data⟩, ⟨6, .data⟩, ⟨6, .chain⟩], none⟩) rfl (fun K hK => ?_) (AllReadyH.nil)
    go_simp
    refine (hspG _ _ _ _ _ hu0.any hu1.any hu2.any hu3.any).mono ?_
    rintro e W5 ⟨uG, uH, QG, _, hG0, hG1, qG, hx⟩
    obtain ⟨vga, vgc, vgl, _, hq_, hc_, _, _⟩ := list_shape HE0 hG0
    subst hc_
    clear hq_
    obtain ⟨vha, vhc, vhl, _, hq_, hc_, _, _⟩ := list_shape HE1 hG1
    subst hc_
    clear hq_
    have nqG : ¬ QG R := fun h => by have := (qG _ h).1; omega
    clear hu0 hu1 hu2 hu3
    go_wp2_with fail
    have hc5 := (hc4).trans hx
    have sz5 := hx.le
    replace FZ := fun j => ((bcell hx).2 R j (by omega)).trans (FZ j)
    replace FR := FR.ext hx (by omega)
    clear hx
    refine hK.out _ _ (HK.out _ hc5) (fun hHeld => ?_)
    clear hK K
    try simp only [Act.put, putA, putB, putC]
    refine tkL 8 ⟨some 40, .move (.tmp 48), 35, _, #[⟨7, .data⟩], none⟩ ?_ hHeld ?yyAtaebc8 ?rrAtaebc8
    case yyAtaebc8 => (intro w hSw; (try dsimp only at hSw); go_simp; try with_reducible rfl)
    try simp only [Act.put, putA, putB, putC]
    refine tkL 9 ⟨some 49, .extract (.tmp 40) 0, 34, _, #[⟨8, .data⟩], none⟩ ?_ hHeld ?yyAtaebc9 ?rrAtaebc9
    case yyAtaebc9 => (intro w hSw; (try dsimp only at hSw); go_simp; try with_reducible rfl)
    try simp only [Act.put, putA, putB, putC]
    refine tkL 10 ⟨some 50, .extract (.tmp 40) 1, 4, _, #[⟨8, .data⟩, ⟨12, .gcOnly .lateStores⟩], none⟩ ?_ hHeld ?yyAtaebc10 ?rrAtaebc10
    case yyAtaebc10 => (intro w hSw; (try dsimp only at hSw); go_simp; try with_reducible rfl)
    try simp only [Act.put, putA, putB, putC]
    refine wpAnyH_ready (rs := [12]) (by kernel_rfl) (by simp) ?_
    refine AllReadyH.cons (o := ⟨none, .store 34 (.tmp 10) (.tmp 49), 0, _, #[⟨11, .data⟩, ⟨9, .data⟩, ⟨7, .chain⟩, ⟨0, .phase⟩, ⟨1, .phase⟩, ⟨2, .phase⟩, ⟨3, .phase⟩, ⟨4, .phase⟩, ⟨5, .phase⟩, ⟨6, .phase⟩, ⟨7, .phase⟩, ⟨8, .phase⟩, ⟨9, .phase⟩, ⟨10, .textOnly .lateStores⟩, ⟨11, .phase⟩], none⟩) rfl (fun K hK => ?_) (AllReadyH.nil)
    have r0 := FR 0 _ rfl
    have r1 := FR 1 _ rfl
    have r2 := FR 2 _ rfl
    have r3 := FR 3 _ rfl
    have z0 := FZ 0
    have z1 := FZ 1
    have z2 := FZ 2
    have z3 := FZ 3
    go_simp
    clear r0 r1 r2 r3 z0 z1 z2 z3
    have hB : BoxG w3.heap.size e0 e1 y2 y3 _ R (.slice vga vgl vgc) (.slice vha vhl vhc) QG := boxG_store (W := W5) FR (by omega) (by omega) hG0 hG1 (fun x hx => ⟨by have := (qG x hx).1; omega, by have := (qG x hx).2; omega⟩) nqG
    have hEz : Ext w3 ((((W5.setCell ⟨R, 0, none⟩ (.slice vga vgl vgc)).setCell ⟨R, 1, none⟩ (.slice vha vhl vhc)).setCell ⟨R, 2, none⟩ (.int .i64 y2)).setCell ⟨R, 3, none⟩ (.int .i64 y3)) := (((hc5.setCell (show _ ≤ R by omega) _).setCell (show _ ≤ R by omega) _).setCell (show _ ≤ R by omega) _).setCell (show _ ≤ R by omega) _
    refine hK.out _ _ (HK.out _ hEz) (fun hHeld => ?_)
    clear hK K
    try simp only [Act.put, putA, putB, putC]
    refine tkL 13 ⟨some 11, .assign (.tmp 50), 4, _, #[⟨10, .data⟩, ⟨12, .chain⟩, ⟨0, .phase⟩, ⟨1, .phase⟩, ⟨2, .phase⟩, ⟨3, .phase⟩, ⟨4, .phase⟩, ⟨5, .phase⟩, ⟨6, .phase⟩, ⟨7, .phase⟩, ⟨8, .phase⟩, ⟨9, .phase⟩, ⟨10, .phase⟩, ⟨11, .phase⟩, ⟨12, .phase⟩], none⟩ ?_ hHeld ?yyAaebcd13 ?rrAaebcd13
    case yyAaebcd13 => (intro w hSw; (try dsimp only at hSw); go_simp; try with_reducible rfl)
    try simp only [Act.put, putA, putB, putC]
    refine wpAnyH_done (by kernel_rfl) ?_ _
    go_wp2
    go_meet
    case rel => exact ⟨R, _, _, QG, rfl, rfl, hB, hEz⟩
  ·
   go_simp
   have hx : Ext W0 (W0.alloc (.cells #[.slice none 0 0, .slice none 0 0, .int .i64 0, .int .i64 0] 34)) := (Ext.refl _).alloc _
   have FR := FG.new W0 #[.slice none 0 0, .slice none 0 0, .int .i64 0, .int .i64 0] 34
   have FZ : ∀ j, (W0.alloc (.cells #[.slice none 0 0, .slice none 0 0, .int .i64 0, .int .i64 0] 34)).frozen? ⟨W0.heap.size, j, none⟩ = false := fun j => World.frozen?_alloc_new W0 _ _ j
   have hRs : W0.heap.size < (W0.alloc (.cells #[.slice none 0 0, .slice none 0 0, .int .i64 0, .int .i64 0] 34)).heap.size := by simp
   obtain ⟨R, hR⟩ : ∃ m, m = W0.heap.size := ⟨_, rfl⟩
   have hR1 := Nat.le_of_eq hR
   have hR2 := Nat.le_of_eq hR.symm
   rw [← hR] at FR FZ hRs ⊢
   clear hR
   generalize W0.alloc (.cells #[.slice none 0 0, .slice none 0 0, .int .i64 0, .int .i64 0] 34) = W1 at *
   have hc1 := (hc0).trans hx
   have sz1 := hx.le
   clear hx
   refine hK.out _ _ (HK.out _ hc1) (fun hHeld => ?_)
   clear hK K
   try simp only [Act.put, putA, putB, putC]
   refine wpAnyH_ready (rs := [1]) (by kernel_rfl) (by simp) ?_
   refine AllReadyH.cons (o := ⟨some 42, .call { callee := .value (.func 7), args := #[.tmp 41], argTypes := #[25] }, 34, _, #[⟨0, .data⟩], none⟩) rfl (fun K hK => ?_) (AllReadyH.nil)
   go_simp
   refine (hto _ (hEw3.trans hc1)).mono ?_
   rintro e W2 ⟨u0, u1, Qa, Qb, rfl, ⟨hu0, _, _⟩, ⟨hu1, _, _⟩, _, hx⟩
   obtain ⟨uaa, uac, ual, _, hq_, hc_, _, _⟩ := list_shape H0 hu0
   subst hc_
   clear hq_
   obtain ⟨uba, ubc, ubl, _, hq_, hc_, _, _⟩ := list_shape H1 hu1
   subst hc_
   clear hq_
   go_wp2_with fail
   have hc2 := (hc1).trans hx
   have sz2 := hx.le
   replace FZ := fun j => ((bcell hx).2 R j (by omega)).trans (FZ j)
   replace FR := FR.ext hx (by omega)
   clear hx
   refine hK.out _ _ (HK.out _ hc2) (fun hHeld => ?_)
   clear hK K
   try simp only [Act.put, putA, putB, putC]
   refine wpAnyH_ready (rs := [3]) (by kernel_rfl) (by simp) ?_
   refine AllReadyH.cons (o := ⟨some 44, .call { callee := .value (.func 8), args := #[.tmp 43], argTypes := #[28] }, 40, _, #[⟨2, .data⟩, ⟨1, .chain⟩], none⟩) rfl (fun K hK => ?_) (AllReadyH.nil)
   go_simp
   refine (htv _ (hEw3.trans hc2)).mono ?_
   rintro e W3 ⟨u2, Qc, rfl, ⟨hu2, _, _⟩, hx⟩
   obtain ⟨uva, uvc, uvl, _, hq_, hc_, _, _⟩ := list_shape H2 hu2
   subst hc_
   clear hq_
   go_wp2_with fail
   have hc3 := (hc2).trans hx
   have sz3 := hx.le
   replace hu0 := hu0.ext hx
   replace hu1 := hu1.ext hx
   replace FZ := fun j => ((bcell hx).2 R j (by omega)).trans (FZ j)
   replace FR := FR.ext hx (by omega)
   clear hx
   refine hK.out _ _ (HK.out _ hc3) (fun hHeld => ?_)
   clear hK K
   try simp only [Act.put, putA, putB, putC]
   refine wpAnyH_ready (rs := [6]) (by kernel_rfl) (by simp) ?_
   refine AllReadyH.cons (o := ⟨some 47, .call { callee := .value (.func 8), args := #[.tmp 46], argTypes := #[28] }, 40, _, #[⟨5, .data⟩, ⟨3, .chain⟩], none⟩) rfl (fun K hK => ?_) (AllReadyH.nil)
   go_simp
   refine (htw _ (hEw3.trans hc3)).mono ?_
   rintro e W4 ⟨u3, Qd, rfl, ⟨hu3, _, _⟩, hx⟩
   obtain ⟨uwa, uwc, uwl, _, hq_, hc_, _, _⟩ := list_shape H3 hu3
   subst hc_
   clear hq_
   go_wp2_with fail
   have hc4 := (hc3).trans hx
   have sz4 := hx.le
   replace hu0 := hu0.ext hx
   replace hu1 := hu1.ext hx
   replace hu2 := hu2.ext hx
   replace FZ := fun j => ((bcell hx).2 R j (by omega)).trans (FZ j)
   replace FR := FR.ext hx (by omega)
   clear hx
   refine hK.out _ _ (HK.out _ hc4) (fun hHeld => ?_)
   clear hK K
   try simp only [Act.put, putA, putB, putC]
   refine wpAnyH_ready (rs := [7]) (by kernel_rfl) (by simp) ?_
   refine AllReadyH.cons (o := ⟨some 48, .call { callee := .value (.func 6), args := #[.tmp 42, .tmp 44, .tmp 45, .tmp 47], argTypes := #[34, 40, 9, 40] }, 35, _, #[⟨1, .data⟩, ⟨3, .data⟩, ⟨4, .data⟩, ⟨6, .data⟩, ⟨6, .chain⟩], none⟩) rfl (fun K hK => ?_) (AllReadyH.nil)
   go_simp
   refine (hspG _ _ _ _ _ hu0.any hu1.any hu2.any hu3.any).mono ?_
   rintro e W5 ⟨uG, uH, QG, _, hG0, hG1, qG, hx⟩
   obtain ⟨vga, vgc, vgl, _, hq_, hc_, _, _⟩ := list_shape HE0 hG0
   subst hc_
   clear hq_
   obtain ⟨vha, vhc, vhl, _, hq_, hc_, _, _⟩ := list_shape HE1 hG1
   subst hc_
   clear hq_
   have nqG : ¬ QG R := fun h => by have := (qG _ h).1; omega
   clear hu0 hu1 hu2 hu3
   go_wp2_with fail
   have hc5 := (hc4).trans hx
   have sz5 := hx.le
   replace FZ := fun j => ((bcell hx).2 R j (by omega)).trans (FZ j)
   replace FR := FR.ext hx (by omega)
   clear hx
   refine hK.out _ _ (HK.out _ hc5) (fun hHeld => ?_)
   clear hK K
   try simp only [Act.put, putA, putB, putC]
   refine tkL 8 ⟨some 40, .move (.tmp 48), 35, _, #[⟨7, .data⟩], none⟩ ?_ hHeld ?yyAteabc8 ?rrAteabc8
   case yyAteabc8 => (intro w hSw; (try dsimp only at hSw); go_simp; try with_reducible rfl)
   try simp only [Act.put, putA, putB, putC]
   refine tkL 9 ⟨some 49, .extract (.tmp 40) 0, 34, _, #[⟨8, .data⟩], none⟩ ?_ hHeld ?yyAteabc9 ?rrAteabc9
   case yyAteabc9 => (intro w hSw; (try dsimp only at hSw); go_simp; try with_reducible rfl)
   try simp only [Act.put, putA, putB, putC]
   refine tkL 10 ⟨some 50, .extract (.tmp 40) 1, 4, _, #[⟨8, .data⟩, ⟨12, .gcOnly .lateStores⟩], none⟩ ?_ hHeld ?yyAteabc10 ?rrAteabc10
   case yyAteabc10 => (intro w hSw; (try dsimp only at hSw); go_simp; try with_reducible rfl)
   try simp only [Act.put, putA, putB, putC]
   refine wpAnyH_ready (rs := [12]) (by kernel_rfl) (by simp) ?_
   refine AllReadyH.cons (o := ⟨none, .store 34 (.tmp 10) (.tmp 49), 0, _, #[⟨11, .data⟩, ⟨9, .data⟩, ⟨7, .chain⟩, ⟨0, .phase⟩, ⟨1, .phase⟩, ⟨2, .phase⟩, ⟨3, .phase⟩, ⟨4, .phase⟩, ⟨5, .phase⟩, ⟨6, .phase⟩, ⟨7, .phase⟩, ⟨8, .phase⟩, ⟨9, .phase⟩, ⟨10, .textOnly .lateStores⟩, ⟨11, .phase⟩], none⟩) rfl (fun K hK => ?_) (AllReadyH.nil)
   have r0 := FR 0 _ rfl
   have r1 := FR 1 _ rfl
   have r2 := FR 2 _ rfl
   have r3 := FR 3 _ rfl
   have z0 := FZ 0
   have z1 := FZ 1
   have z2 := FZ 2
   have z3 := FZ 3
   go_simp
   clear r0 r1 r2 r3 z0 z1 z2 z3
   have hB : BoxG w3.heap.size e0 e1 y2 y3 _ R (.slice vga vgl vgc) (.slice vha vhl vhc) QG := boxG_store (W := W5) FR (by omega) (by omega) hG0 hG1 (fun x hx => ⟨by have := (qG x hx).1; omega, by have := (qG x hx).2; omega⟩) nqG
   have hEz : Ext w3 ((((W5.setCell ⟨R, 0, none⟩ (.slice vga vgl vgc)).setCell ⟨R, 1, none⟩ (.slice vha vhl vhc)).setCell ⟨R, 2, none⟩ (.int .i64 y2)).setCell ⟨R, 3, none⟩ (.int .i64 y3)) := (((hc5.setCell (show _ ≤ R by omega) _).setCell (show _ ≤ R by omega) _).setCell (show _ ≤ R by omega) _).setCell (show _ ≤ R by omega) _
   refine hK.out _ _ (HK.out _ hEz) (fun hHeld => ?_)
   clear hK K
   try simp only [Act.put, putA, putB, putC]
   refine tkL 13 ⟨some 11, .assign (.tmp 50), 4, _, #[⟨10, .data⟩, ⟨12, .chain⟩, ⟨0, .phase⟩, ⟨1, .phase⟩, ⟨2, .phase⟩, ⟨3, .phase⟩, ⟨4, .phase⟩, ⟨5, .phase⟩, ⟨6, .phase⟩, ⟨7, .phase⟩, ⟨8, .phase⟩, ⟨9, .phase⟩, ⟨10, .phase⟩, ⟨11, .phase⟩, ⟨12, .phase⟩], none⟩ ?_ hHeld ?yyAeabcd13 ?rrAeabcd13
   case yyAeabcd13 => (intro w hSw; (try dsimp only at hSw); go_simp; try with_reducible rfl)
   try simp only [Act.put, putA, putB, putC]
   refine wpAnyH_done (by kernel_rfl) ?_ _
   go_wp2
   go_meet
   case rel => exact ⟨R, _, _, QG, rfl, rfl, hB, hEz⟩
 case rest =>
  obtain ⟨bB, ub0, ub1, QB, rfl, rfl, hB, hE4⟩ := hcut
  obtain ⟨w4, rfl⟩ : ∃ w4, w4 = wc := ⟨_, rfl⟩
  clear HK hspG
  have hEw4 := hEw3.trans hE4
  have hz4 := hE4.le
  have hzB := hB.lt
  have hgB := hB.ge
  have hQB : ∀ x, QB x → x < w4.heap.size := fun x hx => (hB.bnd x hx).2
  replace hA := hA.ext hE4 (by omega)
  replace hV := hV.ext hE4 (by omega)
  replace hW := hW.ext hE4 (by omega)
  clear hE4
  obtain ⟨ba0, bc0, bl0, _, hq_, hc_, _, _⟩ := list_shape HE0 hB.d0
  subst hc_
  clear hq_
  obtain ⟨ba1, bc1, bl1, _, hq_, hc_, _, _⟩ := list_shape HE1 hB.d1
  subst hc_
  clear hq_
  have p0 := hA 0 _ rfl
  have p1 := hA 1 _ rfl
  have p2 := hA 2 _ rfl
  have p3 := hA 3 _ rfl
  go_wp2_with fail
  refine (hto w4 hEw4).mono ?_
  rintro e w5 ⟨u0, u1, Q0, Q1, rfl, ⟨hX0, oX0, qX0⟩, ⟨hX1, oX1, qX1⟩, hdq, hE5⟩
  clear p0 p1 p2 p3
  obtain ⟨xa0, xc0, xl0, _, hq_, hc_, _, _⟩ := list_shape H0 hX0
  subst hc_
  clear hq_
  obtain ⟨xa1, xc1, xl1, _, hq_, hc_, _, _⟩ := list_shape H1 hX1
  subst hc_
  clear hq_
  have hz5 := hE5.le
  replace hA := hA.ext hE5 (by omega)
  replace hV := hV.ext hE5 (by omega)
  replace hW := hW.ext hE5 (by omega)
  replace hB := hB.ext hE5
  have hEw5 := hEw4.trans hE5
  clear hE5
  have hxx : Ext w5 (w5.alloc (.cells #[.slice xa0 xl0 xc0, .slice xa1 xl1 xc1, .int .i64 x2, .int .i64 x3] 34)) := (Ext.refl _).alloc _
  have zw6 : (w5.alloc (.cells #[.slice xa0 xl0 xc0, .slice xa1 xl1 xc1, .int .i64 x2, .int .i64 x3] 34)).heap.size = w5.heap.size + 1 := by simp
  have hC := FG.new w5 #[.slice xa0 xl0 xc0, .slice xa1 xl1 xc1, .int .i64 x2, .int .i64 x3] 34
  obtain ⟨bC, hbC⟩ : ∃ m, m = w5.heap.size := ⟨_, rfl⟩
  have hbCa := Nat.le_of_eq hbC
  have hbCb := Nat.le_of_eq hbC.symm
  replace hA := hA.ext hxx (by omega)
  replace hV := hV.ext hxx (by omega)
  replace hW := hW.ext hxx (by omega)
  replace hX0 := hX0.ext hxx
  replace oX0 := oX0.ext hxx
  replace hX1 := hX1.ext hxx
  replace oX1 := oX1.ext hxx
  replace hB := hB.ext hxx
  have hEw6 := hEw5.trans hxx
  clear hxx
  have p0 := hV 0 _ rfl
  have p1 := hV 1 _ rfl
  have p2 := hV 2 _ rfl
  have p3 := hV 3 _ rfl
  go_wp2_with fail
  generalize hw6 : World.alloc w5 _ = w6 at *
  rw [← hbC] at hC ⊢
  clear hw6 hbC
  refine (htv w6 hEw6).mono ?_
  rintro e w7 ⟨u2, Q2, rfl, ⟨hX2, oX2, qX2⟩, hE7⟩
  clear p0 p1 p2 p3
  obtain ⟨xa2, xc2, xl2, _, hq_, hc_, _, _⟩ := list_shape H2 hX2
  subst hc_
  clear hq_
  have hz7 := hE7.le
  replace hA := hA.ext hE7 (by omega)
  replace hV := hV.ext hE7 (by omega)
  replace hW := hW.ext hE7 (by omega)
  replace hC := hC.ext hE7 (by omega)
  replace hX0 := hX0.ext hE7
  replace oX0 := oX0.ext hE7
  replace hX1 := hX1.ext hE7
  replace oX1 := oX1.ext hE7
  replace hB := hB.ext hE7
  have hEw7 := hEw6.trans hE7
  clear hE7
  have hxx : Ext w7 (w7.alloc (.cells #[.int .i64 vk, .int .i64 vn, .string vt, .slice xa2 xl2 xc2] 40)) := (Ext.refl _).alloc _
  have zw8 : (w7.alloc (.cells #[.int .i64 vk, .int .i64 vn, .string vt, .slice xa2 xl2 xc2] 40)).heap.size = w7.heap.size + 1 := by simp
  have hD := FG.new w7 #[.int .i64 vk, .int .i64 vn, .string vt, .slice xa2 xl2 xc2] 40
  obtain ⟨bD, hbD⟩ : ∃ m, m = w7.heap.size := ⟨_, rfl⟩
  have hbDa := Nat.le_of_eq hbD
  have hbDb := Nat.le_of_eq hbD.symm
  replace hA := hA.ext hxx (by omega)
  replace hV := hV.ext hxx (by omega)
  replace hW := hW.ext hxx (by omega)
  replace hC := hC.ext hxx (by omega)
  replace hX0 := hX0.ext hxx
  replace oX0 := oX0.ext hxx
  replace hX1 := hX1.ext hxx
  replace oX1 := oX1.ext hxx
  replace hX2 := hX2.ext hxx
  replace oX2 := oX2.ext hxx
  replace hB := hB.ext hxx
  have hEw8 := hEw7.trans hxx
  clear hxx
  have p0 := hW 0 _ rfl
  have p1 := hW 1 _ rfl
  have p2 := hW 2 _ rfl
  have p3 := hW 3 _ rfl
  go_wp2_with fail
  generalize hw8 : World.alloc w7 _ = w8 at *
  rw [← hbD] at hD ⊢
  clear hw8 hbD
  refine (htw w8 hEw8).mono ?_
  rintro e w9 ⟨u3, Q3, rfl, ⟨hX3, oX3, qX3⟩, hE9⟩
  clear p0 p1 p2 p3
  obtain ⟨xa3, xc3, xl3, _, hq_, hc_, _, _⟩ := list_shape H3 hX3
  subst hc_
  clear hq_
  have hz9 := hE9.le
  replace hA := hA.ext hE9 (by omega)
  replace hV := hV.ext hE9 (by omega)
  replace hW := hW.ext hE9 (by omega)
  replace hC := hC.ext hE9 (by omega)
  replace hD := hD.ext hE9 (by omega)
  replace hX0 := hX0.ext hE9
  replace oX0 := oX0.ext hE9
  replace hX1 := hX1.ext hE9
  replace oX1 := oX1.ext hE9
  replace hX2 := hX2.ext hE9
  replace oX2 := oX2.ext hE9
  replace hB := hB.ext hE9
  have hEw9 := hEw8.trans hE9
  clear hE9
  have hxx : Ext w9 (w9.alloc (.cells #[.int .i64 k, .int .i64 n, .string t, .slice xa3 xl3 xc3] 40)) := (Ext.refl _).alloc _
  have zw10 : (w9.alloc (.cells #[.int .i64 k, .int .i64 n, .string t, .slice xa3 xl3 xc3] 40)).heap.size = w9.heap.size + 1 := by simp
  have hE := FG.new w9 #[.int .i64 k, .int .i64 n, .string t, .slice xa3 xl3 xc3] 40
  obtain ⟨bE, hbE⟩ : ∃ m, m = w9.heap.size := ⟨_, rfl⟩
  have hbEa := Nat.le_of_eq hbE
  have hbEb := Nat.le_of_eq hbE.symm
  replace hA := hA.ext hxx (by omega)
  replace hV := hV.ext hxx (by omega)
  replace hW := hW.ext hxx (by omega)
  replace hC := hC.ext hxx (by omega)
  replace hD := hD.ext hxx (by omega)
  replace hX0 := hX0.ext hxx
  replace oX0 := oX0.ext hxx
  replace hX1 := hX1.ext hxx
  replace oX1 := oX1.ext hxx
  replace hX2 := hX2.ext hxx
  replace oX2 := oX2.ext hxx
  replace hX3 := hX3.ext hxx
  replace oX3 := oX3.ext hxx
  replace hB := hB.ext hxx
  have hEw10 := hEw9.trans hxx
  clear hxx
  have hE' := hE
  rw [← hbE] at hE'
  have p0 := hC 0 _ rfl
  have p1 := hC 1 _ rfl
  have p2 := hC 2 _ rfl
  have p3 := hC 3 _ rfl
  have q0 := hD 0 _ rfl
  have q1 := hD 1 _ rfl
  have q2 := hD 2 _ rfl
  have q3 := hD 3 _ rfl
  have r0 := hE' 0 _ rfl
  have r1 := hE' 1 _ rfl
  have r2 := hE' 2 _ rfl
  have r3 := hE' 3 _ rfl
  clear hE'
  have him10 := him _ _ _ _ _ hX0.any hX1.any hX2.any hX3.any
  go_wp2_with fail
  generalize hw10 : World.alloc w9 _ = w10 at *
  rw [← hbE] at hE ⊢
  clear hw10 hbE
  refine him10.mono ?_
  rintro e w11 ⟨g0, g1, rfl, ⟨G0, G1, ⟨hG0, oG0, qG0⟩, ⟨hG1, oG1, qG1⟩, hdg⟩, hE11⟩
  clear him10 him
  clear p0 p1 p2 p3 q0 q1 q2 q3 r0 r1 r2 r3
  obtain ⟨ga0, gc0, gl0, _, hq_, hc_, _, _⟩ := list_shape HE0 hG0
  subst hc_
  clear hq_
  obtain ⟨ga1, gc1, gl1, _, hq_, hc_, _, _⟩ := list_shape HE1 hG1
  subst hc_
  clear hq_
  have hz11 := hE11.le
  replace hA := hA.ext hE11 (by omega)
  replace hV := hV.ext hE11 (by omega)
  replace hW := hW.ext hE11 (by omega)
  replace hC := hC.ext hE11 (by omega)
  replace hD := hD.ext hE11 (by omega)
  replace hE := hE.ext hE11 (by omega)
  replace hX0 := hX0.ext hE11
  replace oX0 := oX0.ext hE11
  replace hX1 := hX1.ext hE11
  replace oX1 := oX1.ext hE11
  replace hX2 := hX2.ext hE11
  replace oX2 := oX2.ext hE11
  replace hX3 := hX3.ext hE11
  replace oX3 := oX3.ext hE11
  replace hB := hB.ext hE11
  have hEw11 := hEw10.trans hE11
  clear hE11
  have hxx : Ext w11 (w11.alloc (.cells #[.slice ga0 gl0 gc0, .slice ga1 gl1 gc1, .int .i64 y2, .int .i64 y3] 34)) := (Ext.refl _).alloc _
  have zw12 : (w11.alloc (.cells #[.slice ga0 gl0 gc0, .slice ga1 gl1 gc1, .int .i64 y2, .int .i64 y3] 34)).heap.size = w11.heap.size + 1 := by simp
  have hF := FG.new w11 #[.slice ga0 gl0 gc0, .slice ga1 gl1 gc1, .int .i64 y2, .int .i64 y3] 34
  obtain ⟨bF, hbF⟩ : ∃ m, m = w11.heap.size := ⟨_, rfl⟩
  have hbFa := Nat.le_of_eq hbF
  have hbFb := Nat.le_of_eq hbF.symm
  replace hA := hA.ext hxx (by omega)
  replace hV := hV.ext hxx (by omega)
  replace hW := hW.ext hxx (by omega)
  replace hC := hC.ext hxx (by omega)
  replace hD := hD.ext hxx (by omega)
  replace hE := hE.ext hxx (by omega)
  replace hX0 := hX0.ext hxx
  replace oX0 := oX0.ext hxx
  replace hX1 := hX1.ext hxx
  replace oX1 := oX1.ext hxx
  replace hX2 := hX2.ext hxx
  replace oX2 := oX2.ext hxx
  replace hX3 := hX3.ext hxx
  replace oX3 := oX3.ext hxx
  replace hG0 := hG0.ext hxx
  replace oG0 := oG0.ext hxx
  replace hG1 := hG1.ext hxx
  replace oG1 := oG1.ext hxx
  replace hB := hB.ext hxx
  have hEw12 := hEw11.trans hxx
  clear hxx
  have hF' := hF
  rw [← hbF] at hF'
  have p0 := hF' 0 _ rfl
  have p1 := hF' 1 _ rfl
  have p2 := hF' 2 _ rfl
  have p3 := hF' 3 _ rfl
  clear hF'
  have q0 := hB.box 0 _ rfl
  have q1 := hB.box 1 _ rfl
  have q2 := hB.box 2 _ rfl
  have q3 := hB.box 3 _ rfl
  go_wp2_with fail
  generalize hw12 : World.alloc w11 _ = w12 at *
  rw [← hbF] at hF ⊢
  clear hw12 hbF
  refine (eqGraph_any anyB anyB e0 _ _ e1 _ _ y2 y3 w12 HE0 hG0.any hB.d0.any HE1 hG1.any hB.d1.any).mono ?_
  rintro e w13 ⟨rfl, hE13⟩
  clear p0 p1 p2 p3 q0 q1 q2 q3
  have hz13 := hE13.le
  replace hA := hA.ext hE13 (by omega)
  replace hV := hV.ext hE13 (by omega)
  replace hW := hW.ext hE13 (by omega)
  replace hC := hC.ext hE13 (by omega)
  replace hD := hD.ext hE13 (by omega)
  replace hE := hE.ext hE13 (by omega)
  replace hF := hF.ext hE13 (by omega)
  replace hX0 := hX0.ext hE13
  replace oX0 := oX0.ext hE13
  replace hX1 := hX1.ext hE13
  replace oX1 := oX1.ext hE13
  replace hX2 := hX2.ext hE13
  replace oX2 := oX2.ext hE13
  replace hX3 := hX3.ext hE13
  replace oX3 := oX3.ext hE13
  replace hG0 := hG0.ext hE13
  replace oG0 := oG0.ext hE13
  replace hG1 := hG1.ext hE13
  replace oG1 := oG1.ext hE13
  replace hB := hB.ext hE13
  have hEw13 := hEw12.trans hE13
  clear hE13
  have hbb : (yb != yb) = false := by simp
  have HK : Hid (∀ W, Ext w13 W → (W.cell? ⟨bA, 0, none⟩ = some (.slice a0 l0 cap0) ∧ W.cell? ⟨bA, 1, none⟩ = some (.slice a1 l1 cap1) ∧ W.cell? ⟨bA, 2, none⟩ = some (.int .i64 x2) ∧ W.cell? ⟨bA, 3, none⟩ = some (.int .i64 x3)) ∧ (W.cell? ⟨bC, 0, none⟩ = some (.slice xa0 xl0 xc0) ∧ W.cell? ⟨bC, 1, none⟩ = some (.slice xa1 xl1 xc1) ∧ W.cell? ⟨bC, 2, none⟩ = some (.int .i64 x2) ∧ W.cell? ⟨bC, 3, none⟩ = some (.int .i64 x3))) := fun W hx => by
   have k0 := hA.ext hx (by omega)
   have k1 := hC.ext hx (by omega)
   exact ⟨⟨k0 0 _ rfl, k0 1 _ rfl, k0 2 _ rfl, k0 3 _ rfl⟩, k1 0 _ rfl, k1 1 _ rfl, k1 2 _ rfl, k1 3 _ rfl⟩
  have hv0 := fun (W : World) (hW : Ext w13 W) => hX0.any.ext hW
  have hv1 := fun (W : World) (hW : Ext w13 W) => hX1.any.ext hW
  go_wp2_with fail
  have hcur : Ext w13 w13.drew := (Ext.refl _).drew
  refine wp_region_held_drew (S := (fun W => (W.cell? ⟨bA, 0, none⟩ = some (.slice a0 l0 cap0) ∧ W.cell? ⟨bA, 1, none⟩ = some (.slice a1 l1 cap1) ∧ W.cell? ⟨bA, 2, none⟩ = some (.int .i64 x2) ∧ W.cell? ⟨bA, 3, none⟩ = some (.int .i64 x3)) ∧ (W.cell? ⟨bC, 0, none⟩ = some (.slice xa0 xl0 xc0) ∧ W.cell? ⟨bC, 1, none⟩ = some (.slice xa1 xl1 xc1) ∧ W.cell? ⟨bC, 2, none⟩ = some (.int .i64 x2) ∧ W.cell? ⟨bC, 3, none⟩ = some (.int .i64 x3)))) (by kernel_rfl) (HK.out _ hcur) (fun hHeld => ?_)
  refine tkL 0 ⟨some 74, .load 34 (.tmp 12), 34, _, #[], none⟩ ?_ hHeld ?yyC0 ?rrC0
  case yyC0 => (intro w hSw; (try dsimp only at hSw); go_simp; try with_reducible rfl)
  try simp only [Act.put, putA, putB, putC]
  refine tkL 1 ⟨some 75, .load 25 (.tmp 4), 25, _, #[], none⟩ ?_ hHeld ?yyC1 ?rrC1
  case yyC1 => (intro w hSw; (try dsimp only at hSw); go_simp; try with_reducible rfl)
  try simp only [Act.put, putA, putB, putC]
  refine wpAnyH_ready (rs := [2]) (by kernel_rfl) (by simp) ?_
  refine AllReadyH.cons (o := ⟨some 76, .call { callee := .value (.func 7), args := #[.tmp 75], argTypes := #[25] }, 34, _, #[⟨1, .data⟩], none⟩) rfl (fun K hK => ?_) AllReadyH.nil
  go_simp
  refine (hto _ (hEw13.trans hcur)).mono ?_
  rintro e w14 ⟨u0, u1, Qa, Qb, rfl, ⟨hu0, _, _⟩, ⟨hu1, _, _⟩, _, hxa⟩
  replace hcur := hcur.trans hxa
  obtain ⟨yaa, yac, yal, _, hq_, hc_, _, _⟩ := list_shape H0 hu0
  subst hc_
  clear hq_
  obtain ⟨yb_a, yb_c, yb_l, _, hq_, hc_, _, _⟩ := list_shape H1 hu1
  subst hc_
  clear hq_
  go_wp2_with fail
  refine hK.out _ _ (HK.out _ hcur) (fun hHeld => ?_)
  clear hK K
  try simp only [Act.put, putA, putB, putC]
  refine wpAnyH_ready (rs := [3]) (by kernel_rfl) (by simp) ?_
  refine AllReadyH.cons (o := ⟨some 77, .call { callee := .value (.func 10), args := #[.tmp 74, .tmp 76], argTypes := #[34, 34] }, 4, _, #[⟨0, .data⟩, ⟨2, .data⟩, ⟨2, .chain⟩], none⟩) rfl (fun K hK => ?_) AllReadyH.nil
  go_simp
  refine (eqGraph_any anyB anyB d0 _ _ d1 _ _ x2 x3 _ H0 (hv0 _ hcur) hu0.any H1 (hv1 _ hcur) hu1.any).mono ?_
  rintro e w14 ⟨rfl, hxb⟩
  replace hcur := hcur.trans hxb
  go_wp2_with fail
  refine hK.out _ _ (HK.out _ hcur) (fun hHeld => ?_)
  clear hK K
  try simp only [Act.put, putA, putB, putC]
  refine tkL 4 ⟨some 78, .unOp .not 4 (.tmp 77), 4, _, #[⟨3, .data⟩], none⟩ ?_ hHeld ?yyC4 ?rrC4
  case yyC4 => (intro w hSw; (try dsimp only at hSw); go_simp; try with_reducible rfl)
  try simp only [Act.put, putA, putB, putC]
  refine wpAnyH_done (by kernel_rfl) ?_ _
  clear HK hHeld hv0 hv1
  clear hu0 hu1 hxa hxb
  have hz14 := hcur.le
  replace hA := hA.ext hcur (by omega)
  replace hV := hV.ext hcur (by omega)
  replace hW := hW.ext hcur (by omega)
  replace hC := hC.ext hcur (by omega)
  replace hD := hD.ext hcur (by omega)
  replace hE := hE.ext hcur (by omega)
  replace hF := hF.ext hcur (by omega)
  replace hX0 := hX0.ext hcur
  replace oX0 := oX0.ext hcur
  replace hX1 := hX1.ext hcur
  replace oX1 := oX1.ext hcur
  replace hX2 := hX2.ext hcur
  replace oX2 := oX2.ext hcur
  replace hX3 := hX3.ext hcur
  replace oX3 := oX3.ext hcur
  replace hG0 := hG0.ext hcur
  replace oG0 := oG0.ext hcur
  replace hG1 := hG1.ext hcur
  replace oG1 := oG1.ext hcur
  replace hB := hB.ext hcur
  have hEw14 := hEw13.trans hcur
  clear hcur hX0 hX1
  have heqv := fun (W : World) (u v : Value) (hu : DIn anyB W d2 u) (hv : DIn anyB W d2 v) => eqValue_any anyB anyB vk vn vt d2 u v W (eqValueS_any _ H2) H2 hu hv
  have HK : Hid (∀ W, Ext w14 W → (W.cell? ⟨bV, 0, none⟩ = some (.int .i64 vk) ∧ W.cell? ⟨bV, 1, none⟩ = some (.int .i64 vn) ∧ W.cell? ⟨bV, 2, none⟩ = some (.string vt) ∧ W.cell? ⟨bV, 3, none⟩ = some (.slice a2 l2 cap2)) ∧ (W.cell? ⟨bD, 0, none⟩ = some (.int .i64 vk) ∧ W.cell? ⟨bD, 1, none⟩ = some (.int .i64 vn) ∧ W.cell? ⟨bD, 2, none⟩ = some (.string vt) ∧ W.cell? ⟨bD, 3, none⟩ = some (.slice xa2 xl2 xc2))) := fun W hx => by
   have k0 := hV.ext hx (by omega)
   have k1 := hD.ext hx (by omega)
   exact ⟨⟨k0 0 _ rfl, k0 1 _ rfl, k0 2 _ rfl, k0 3 _ rfl⟩, k1 0 _ rfl, k1 1 _ rfl, k1 2 _ rfl, k1 3 _ rfl⟩
  have hv0 := fun (W : World) (hW : Ext w14 W) => hX2.any.ext hW
  go_wp2_with fail
  have hcur : Ext w14 w14.drew := (Ext.refl _).drew
  refine wp_region_held_drew (S := (fun W => (W.cell? ⟨bV, 0, none⟩ = some (.int .i64 vk) ∧ W.cell? ⟨bV, 1, none⟩ = some (.int .i64 vn) ∧ W.cell? ⟨bV, 2, none⟩ = some (.string vt) ∧ W.cell? ⟨bV, 3, none⟩ = some (.slice a2 l2 cap2)) ∧ (W.cell? ⟨bD, 0, none⟩ = some (.int .i64 vk) ∧ W.cell? ⟨bD, 1, none⟩ = some (.int .i64 vn) ∧ W.cell? ⟨bD, 2, none⟩ = some (.string vt) ∧ W.cell? ⟨bD, 3, none⟩ = some (.slice xa2 xl2 xc2)))) (by kernel_rfl) (HK.out _ hcur) (fun hHeld => ?_)
  refine tkL 0 ⟨some 79, .load 40 (.tmp 13), 40, _, #[], none⟩ ?_ hHeld ?yyE0 ?rrE0
  case yyE0 => (intro w hSw; (try dsimp only at hSw); go_simp; try with_reducible rfl)
  try simp only [Act.put, putA, putB, putC]
  refine tkL 1 ⟨some 80, .load 28 (.tmp 5), 28, _, #[], none⟩ ?_ hHeld ?yyE1 ?rrE1
  case yyE1 => (intro w hSw; (try dsimp only at hSw); go_simp; try with_reducible rfl)
  try simp only [Act.put, putA, putB, putC]
  refine wpAnyH_ready (rs := [2]) (by kernel_rfl) (by simp) ?_
  refine AllReadyH.cons (o := ⟨some 81, .call { callee := .value (.func 8), args := #[.tmp 80], argTypes := #[28] }, 40, _, #[⟨1, .data⟩], none⟩) rfl (fun K hK => ?_) AllReadyH.nil
  go_simp
  refine (htv _ (hEw14.trans hcur)).mono ?_
  rintro e w15 ⟨u_, Qa, rfl, ⟨hu, _, _⟩, hxa⟩
  replace hcur := hcur.trans hxa
  obtain ⟨yca, ycc, ycl, _, hq_, hc_, _, _⟩ := list_shape H2 hu
  subst hc_
  clear hq_
  go_wp2_with fail
  refine hK.out _ _ (HK.out _ hcur) (fun hHeld => ?_)
  clear hK K
  try simp only [Act.put, putA, putB, putC]
  refine wpAnyH_ready (rs := [3]) (by kernel_rfl) (by simp) ?_
  refine AllReadyH.cons (o := ⟨some 82, .call { callee := .value (.func 11), args := #[.tmp 79, .tmp 81], argTypes := #[40, 40] }, 4, _, #[⟨0, .data⟩, ⟨2, .data⟩, ⟨2, .chain⟩], none⟩) rfl (fun K hK => ?_) AllReadyH.nil
  go_simp
  refine (heqv _ _ _ (hv0 _ hcur) hu.any).mono ?_
  rintro e w15 ⟨rfl, hxb⟩
  replace hcur := hcur.trans hxb
  go_wp2_with fail
  refine hK.out _ _ (HK.out _ hcur) (fun hHeld => ?_)
  clear hK K
  try simp only [Act.put, putA, putB, putC]
  refine tkL 4 ⟨some 83, .unOp .not 4 (.tmp 82), 4, _, #[⟨3, .data⟩], none⟩ ?_ hHeld ?yyE4 ?rrE4
  case yyE4 => (intro w hSw; (try dsimp only at hSw); go_simp; try with_reducible rfl)
  try simp only [Act.put, putA, putB, putC]
  refine wpAnyH_done (by kernel_rfl) ?_ _
  clear HK hHeld hv0
  clear hu hxa hxb heqv
  have hz15 := hcur.le
  replace hA := hA.ext hcur (by omega)
  replace hV := hV.ext hcur (by omega)
  replace hW := hW.ext hcur (by omega)
  replace hC := hC.ext hcur (by omega)
  replace hD := hD.ext hcur (by omega)
  replace hE := hE.ext hcur (by omega)
  replace hF := hF.ext hcur (by omega)
  replace oX0 := oX0.ext hcur
  replace oX1 := oX1.ext hcur
  replace hX2 := hX2.ext hcur
  replace oX2 := oX2.ext hcur
  replace hX3 := hX3.ext hcur
  replace oX3 := oX3.ext hcur
  replace hG0 := hG0.ext hcur
  replace oG0 := oG0.ext hcur
  replace hG1 := hG1.ext hcur
  replace oG1 := oG1.ext hcur
  replace hB := hB.ext hcur
  have hEw15 := hEw14.trans hcur
  clear hcur hX2
  have heqv := fun (W : World) (u v : Value) (hu : DIn anyB W d3 u) (hv : DIn anyB W d3 v) => eqValue_any anyB anyB k n t d3 u v W (eqValueS_any _ H3) H3 hu hv
  have HK : Hid (∀ W, Ext w15 W → (W.cell? ⟨bW, 0, none⟩ = some (.int .i64 k) ∧ W.cell? ⟨bW, 1, none⟩ = some (.int .i64 n) ∧ W.cell? ⟨bW, 2, none⟩ = some (.string t) ∧ W.cell? ⟨bW, 3, none⟩ = some (.slice a3 l3 cap3)) ∧ (W.cell? ⟨bE, 0, none⟩ = some (.int .i64 k) ∧ W.cell? ⟨bE, 1, none⟩ = some (.int .i64 n) ∧ W.cell? ⟨bE, 2, none⟩ = some (.string t) ∧ W.cell? ⟨bE, 3, none⟩ = some (.slice xa3 xl3 xc3))) := fun W hx => by
   have k0 := hW.ext hx (by omega)
   have k1 := hE.ext hx (by omega)
   exact ⟨⟨k0 0 _ rfl, k0 1 _ rfl, k0 2 _ rfl, k0 3 _ rfl⟩, k1 0 _ rfl, k1 1 _ rfl, k1 2 _ rfl, k1 3 _ rfl⟩
  have hv0 := fun (W : World) (hW : Ext w15 W) => hX3.any.ext hW
  go_wp2_with fail
  have hcur : Ext w15 w15.drew := (Ext.refl _).drew
  refine wp_region_held_drew (S := (fun W => (W.cell? ⟨bW, 0, none⟩ = some (.int .i64 k) ∧ W.cell? ⟨bW, 1, none⟩ = some (.int .i64 n) ∧ W.cell? ⟨bW, 2, none⟩ = some (.string t) ∧ W.cell? ⟨bW, 3, none⟩ = some (.slice a3 l3 cap3)) ∧ (W.cell? ⟨bE, 0, none⟩ = some (.int .i64 k) ∧ W.cell? ⟨bE, 1, none⟩ = some (.int .i64 n) ∧ W.cell? ⟨bE, 2, none⟩ = some (.string t) ∧ W.cell? ⟨bE, 3, none⟩ = some (.slice xa3 xl3 xc3)))) (by kernel_rfl) (HK.out _ hcur) (fun hHeld => ?_)
  refine tkL 0 ⟨some 84, .load 40 (.tmp 14), 40, _, #[], none⟩ ?_ hHeld ?yyG0 ?rrG0
  case yyG0 => (intro w hSw; (try dsimp only at hSw); go_simp; try with_reducible rfl)
  try simp only [Act.put, putA, putB, putC]
  refine tkL 1 ⟨some 85, .load 28 (.tmp 7), 28, _, #[], none⟩ ?_ hHeld ?yyG1 ?rrG1
  case yyG1 => (intro w hSw; (try dsimp only at hSw); go_simp; try with_reducible rfl)
  try simp only [Act.put, putA, putB, putC]
  refine wpAnyH_ready (rs := [2]) (by kernel_rfl) (by simp) ?_
  refine AllReadyH.cons (o := ⟨some 86, .call { callee := .value (.func 8), args := #[.tmp 85], argTypes := #[28] }, 40, _, #[⟨1, .data⟩], none⟩) rfl (fun K hK => ?_) AllReadyH.nil
  go_simp
  refine (htw _ (hEw15.trans hcur)).mono ?_
  rintro e w16 ⟨u_, Qa, rfl, ⟨hu, _, _⟩, hxa⟩
  replace hcur := hcur.trans hxa
  obtain ⟨yda, ydc, ydl, _, hq_, hc_, _, _⟩ := list_shape H3 hu
  subst hc_
  clear hq_
  go_wp2_with fail
  refine hK.out _ _ (HK.out _ hcur) (fun hHeld => ?_)
  clear hK K
  try simp only [Act.put, putA, putB, putC]
  refine wpAnyH_ready (rs := [3]) (by kernel_rfl) (by simp) ?_
  refine AllReadyH.cons (o := ⟨some 87, .call { callee := .value (.func 11), args := #[.tmp 84, .tmp 86], argTypes := #[40, 40] }, 4, _, #[⟨0, .data⟩, ⟨2, .data⟩, ⟨2, .chain⟩], none⟩) rfl (fun K hK => ?_) AllReadyH.nil
  go_simp
  refine (heqv _ _ _ (hv0 _ hcur) hu.any).mono ?_
  rintro e w16 ⟨rfl, hxb⟩
  replace hcur := hcur.trans hxb
  go_wp2_with fail
  refine hK.out _ _ (HK.out _ hcur) (fun hHeld => ?_)
  clear hK K
  try simp only [Act.put, putA, putB, putC]
  refine tkL 4 ⟨some 88, .unOp .not 4 (.tmp 87), 4, _, #[⟨3, .data⟩], none⟩ ?_ hHeld ?yyG4 ?rrG4
  case yyG4 => (intro w hSw; (try dsimp only at hSw); go_simp; try with_reducible rfl)
  try simp only [Act.put, putA, putB, putC]
  refine wpAnyH_done (by kernel_rfl) ?_ _
  clear HK hHeld hv0
  clear hu hxa hxb heqv
  have hz16 := hcur.le
  replace hA := hA.ext hcur (by omega)
  replace hV := hV.ext hcur (by omega)
  replace hW := hW.ext hcur (by omega)
  replace hC := hC.ext hcur (by omega)
  replace hD := hD.ext hcur (by omega)
  replace hE := hE.ext hcur (by omega)
  replace hF := hF.ext hcur (by omega)
  replace oX0 := oX0.ext hcur
  replace oX1 := oX1.ext hcur
  replace oX2 := oX2.ext hcur
  replace hX3 := hX3.ext hcur
  replace oX3 := oX3.ext hcur
  replace hG0 := hG0.ext hcur
  replace oG0 := oG0.ext hcur
  replace hG1 := hG1.ext hcur
  replace oG1 := oG1.ext hcur
  replace hB := hB.ext hcur
  have hEw16 := hEw15.trans hcur
  clear hcur hX3
  -- the arguments are marked
  have hmark := markGraph_own d0 d1 _ _ x2 x3 Q0 Q1 w16 1 1 rfl H0 H1 oX0 oX1 (small_lenOk _ s0) (small_lenOk _ s1) (fun x hx => by have := (qX0 x hx).2; omega) hdq (by have := hcnt.out; omega)
  have hqq : ∀ x, Q0 x ∨ Q1 x → w4.heap.size ≤ x ∧ x < w5.heap.size := fun x hx => hx.elim (qX0 x) (qX1 x)
  have p0 := hC 0 _ rfl
  have p1 := hC 1 _ rfl
  have p2 := hC 2 _ rfl
  have p3 := hC 3 _ rfl
  go_wp2_with fail
  refine hmark.mono ?_
  rintro e w17 ⟨rfl, hO17, _, _⟩
  clear hmark oX0 oX1 hC
  clear p0 p1 p2 p3
  have hz17 := hO17.size
  replace hA := hA.only hO17 (by omega) (fun h => by have := hqq _ h; omega)
  replace hV := hV.only hO17 (by omega) (fun h => by have := hqq _ h; omega)
  replace hW := hW.only hO17 (by omega) (fun h => by have := hqq _ h; omega)
  replace hD := hD.only hO17 (by omega) (fun h => by have := hqq _ h; omega)
  replace hE := hE.only hO17 (by omega) (fun h => by have := hqq _ h; omega)
  replace hF := hF.only hO17 (by omega) (fun h => by have := hqq _ h; omega)
  replace oX2 := oX2.only hO17 (fun x hx h => by have := hqq _ h; have := qX2 x hx; omega)
  replace oX3 := oX3.only hO17 (fun x hx h => by have := hqq _ h; have := qX3 x hx; omega)
  replace hG0 := hG0.only hO17 (fun x hx h => by have := hqq _ h; have := qG0 x hx; omega)
  replace oG0 := oG0.only hO17 (fun x hx h => by have := hqq _ h; have := qG0 x hx; omega)
  replace hG1 := hG1.only hO17 (fun x hx h => by have := hqq _ h; have := qG1 x hx; omega)
  replace oG1 := oG1.only hO17 (fun x hx h => by have := hqq _ h; have := qG1 x hx; omega)
  replace hB := hB.only hO17 (fun h => by have := hqq _ h; omega) (fun x hx h => by have := hqq _ h; have := hQB x hx; omega)
  have hX17 : Ext w w17 := hO17.toExt hEw16 (fun x hx => by have := hqq _ hx; omega)
  clear hEw16 hO17
  have hmV := markValue_any vk vn vt d2 _ Q2 w17 (1 + cntD d0 + cntD d1) (1 + cntD d0 + cntD d1) (by omega) H2 oX2 (small_lenOk _ s2) (by have := hcnt.out; omega)
  have p0 := hD 0 _ rfl
  have p1 := hD 1 _ rfl
  have p2 := hD 2 _ rfl
  have p3 := hD 3 _ rfl
  go_wp2_with fail
  refine hmV.mono ?_
  rintro e w18 ⟨rfl, hO18, _⟩
  clear hmV oX2 hD
  clear p0 p1 p2 p3
  have hz18 := hO18.size
  replace hA := hA.only hO18 (by omega) (fun h => by have := qX2 _ h; omega)
  replace hV := hV.only hO18 (by omega) (fun h => by have := qX2 _ h; omega)
  replace hW := hW.only hO18 (by omega) (fun h => by have := qX2 _ h; omega)
  replace hE := hE.only hO18 (by omega) (fun h => by have := qX2 _ h; omega)
  replace hF := hF.only hO18 (by omega) (fun h => by have := qX2 _ h; omega)
  replace oX3 := oX3.only hO18 (fun x hx h => by have := qX2 _ h; have := qX3 x hx; omega)
  replace hG0 := hG0.only hO18 (fun x hx h => by have := qX2 _ h; have := qG0 x hx; omega)
  replace oG0 := oG0.only hO18 (fun x hx h => by have := qX2 _ h; have := qG0 x hx; omega)
  replace hG1 := hG1.only hO18 (fun x hx h => by have := qX2 _ h; have := qG1 x hx; omega)
  replace oG1 := oG1.only hO18 (fun x hx h => by have := qX2 _ h; have := qG1 x hx; omega)
  replace hB := hB.only hO18 (fun h => by have := qX2 _ h; omega) (fun x hx h => by have := qX2 _ h; have := hQB x hx; omega)
  have hX18 : Ext w w18 := hO18.toExt hX17 (fun x hx => by have := qX2 _ hx; omega)
  clear hX17 hO18
  have hmW := markValue_any k n t d3 _ Q3 w18 (1 + cntD d0 + cntD d1 + cntD d2) (1 + cntD d0 + cntD d1 + cntD d2) (by omega) H3 oX3 (small_lenOk _ s3) (by have := hcnt.out; omega)
  have p0 := hE 0 _ rfl
  have p1 := hE 1 _ rfl
  have p2 := hE 2 _ rfl
  have p3 := hE 3 _ rfl
  go_wp2_with fail
  refine hmW.mono ?_
  rintro e w19 ⟨rfl, hO19, _⟩
  clear hmW oX3 hE
  clear p0 p1 p2 p3
  have hz19 := hO19.size
  replace hA := hA.only hO19 (by omega) (fun h => by have := qX3 _ h; omega)
  replace hV := hV.only hO19 (by omega) (fun h => by have := qX3 _ h; omega)
  replace hW := hW.only hO19 (by omega) (fun h => by have := qX3 _ h; omega)
  replace hF := hF.only hO19 (by omega) (fun h => by have := qX3 _ h; omega)
  replace hG0 := hG0.only hO19 (fun x hx h => by have := qX3 _ h; have := qG0 x hx; omega)
  replace oG0 := oG0.only hO19 (fun x hx h => by have := qX3 _ h; have := qG0 x hx; omega)
  replace hG1 := hG1.only hO19 (fun x hx h => by have := qX3 _ h; have := qG1 x hx; omega)
  replace oG1 := oG1.only hO19 (fun x hx h => by have := qX3 _ h; have := qG1 x hx; omega)
  replace hB := hB.only hO19 (fun h => by have := qX3 _ h; omega) (fun x hx h => by have := qX3 _ h; have := hQB x hx; omega)
  have hX19 : Ext w w19 := hO19.toExt hX18 (fun x hx => by have := qX3 _ hx; omega)
  clear hX18 hO19
  have hneg : ¬ (1 + (cntD d0 : Int) + (cntD d1 : Int) + (cntD d2 : Int) + (cntD d3 : Int)) < 0 := by omega
  have p0 := hF 0 _ rfl
  have p1 := hF 1 _ rfl
  have p2 := hF 2 _ rfl
  have p3 := hF 3 _ rfl
  have q0 := hB.box 0 _ rfl
  have q1 := hB.box 1 _ rfl
  have q2 := hB.box 2 _ rfl
  have q3 := hB.box 3 _ rfl
  go_wp2_with fail
  refine (eqGraph_any anyB anyB e0 _ _ e1 _ _ y2 y3 w19 HE0 hG0.any hB.d0.any HE1 hG1.any hB.d1.any).mono ?_
  rintro e w20 ⟨rfl, hE20⟩
  clear p0 p1 p2 p3 q0 q1 q2 q3
  clear hG0 hG1 hneg
  have hz20 := hE20.le
  replace hA := hA.ext hE20 (by omega)
  replace hV := hV.ext hE20 (by omega)
  replace hW := hW.ext hE20 (by omega)
  replace hF := hF.ext hE20 (by omega)
  replace oG0 := oG0.ext hE20
  replace oG1 := oG1.ext hE20
  replace hB := hB.ext hE20
  have hX20 := hX19.trans hE20
  clear hX19 hE20
  -- the answer is marked, and the marks are read
  have hmG := markGraph_own e0 e1 _ _ y2 y3 G0 G1 w20 1 1 rfl HE0 HE1 oG0 oG1 LE0 LE1 (fun x hx => by have := (qG0 x hx).2; omega) hdg hce.out
  have hgg : ∀ x, G0 x ∨ G1 x → w10.heap.size ≤ x ∧ x < w11.heap.size := fun x hx => hx.elim (qG0 x) (qG1 x)
  have p0 := hF 0 _ rfl
  have p1 := hF 1 _ rfl
  have p2 := hF 2 _ rfl
  have p3 := hF 3 _ rfl
  go_wp2_with fail
  refine hmG.mono ?_
  rintro e w21 ⟨rfl, hO21, hM0, hM1⟩
  clear hmG oG0 oG1
  clear p0 p1 p2 p3
  have hz21 := hO21.size
  replace hA := hA.only hO21 (by omega) (fun h => by have := hgg _ h; omega)
  replace hV := hV.only hO21 (by omega) (fun h => by have := hgg _ h; omega)
  replace hW := hW.only hO21 (by omega) (fun h => by have := hgg _ h; omega)
  replace hF := hF.only hO21 (by omega) (fun h => by have := hgg _ h; omega)
  replace hB := hB.only hO21 (fun h => by have := hgg _ h; omega) (fun x hx h => by have := hgg _ h; have := hQB x hx; omega)
  have hX21 : Ext w w21 := hO21.toExt hX20 (fun x hx => by have := hgg _ hx; omega)
  clear hX20 hO21
  have hh := fun (W : World) (hW : Ext w21 W) => heldGraph_any e0 e1 _ _ y2 y3 G0 G1 W 1 1 rfl HE0 HE1 (hM0.ext hW) (hM1.ext hW) hce.out
  have hneg2 : ¬ (1 + (cntD e0 : Int) + (cntD e1 : Int)) < 0 := by omega
  have p0 := hF 0 _ rfl
  have p1 := hF 1 _ rfl
  have p2 := hF 2 _ rfl
  have p3 := hF 3 _ rfl
  go_wp2_with fail
  refine (hh w21 (Ext.refl _)).mono ?_
  rintro e w22 ⟨rfl, hE22⟩
  clear p0 p1 p2 p3
  have hz22 := hE22.le
  replace hA := hA.ext hE22 (by omega)
  replace hV := hV.ext hE22 (by omega)
  replace hW := hW.ext hE22 (by omega)
  replace hF := hF.ext hE22 (by omega)
  replace hB := hB.ext hE22
  have hEw22 := hX21.trans hE22
  have HK : Hid (∀ W, Ext w22 W → (W.cell? ⟨bA, 0, none⟩ = some (.slice a0 l0 cap0) ∧ W.cell? ⟨bA, 1, none⟩ = some (.slice a1 l1 cap1) ∧ W.cell? ⟨bA, 2, none⟩ = some (.int .i64 x2) ∧ W.cell? ⟨bA, 3, none⟩ = some (.int .i64 x3)) ∧ (W.cell? ⟨bV, 0, none⟩ = some (.int .i64 vk) ∧ W.cell? ⟨bV, 1, none⟩ = some (.int .i64 vn) ∧ W.cell? ⟨bV, 2, none⟩ = some (.string vt) ∧ W.cell? ⟨bV, 3, none⟩ = some (.slice a2 l2 cap2)) ∧ (W.cell? ⟨bW, 0, none⟩ = some (.int .i64 k) ∧ W.cell? ⟨bW, 1, none⟩ = some (.int .i64 n) ∧ W.cell? ⟨bW, 2, none⟩ = some (.string t) ∧ W.cell? ⟨bW, 3, none⟩ = some (.slice a3 l3 cap3))) := fun W hx => by
   have hA := hA.ext hx (by omega)
   have hV := hV.ext hx (by omega)
   have hW := hW.ext hx (by omega)
   exact ⟨⟨hA 0 _ rfl, hA 1 _ rfl, hA 2 _ rfl, hA 3 _ rfl⟩, ⟨hV 0 _ rfl, hV 1 _ rfl, hV 2 _ rfl, hV 3 _ rfl⟩, hW 0 _ rfl, hW 1 _ rfl, hW 2 _ rfl, hW 3 _ rfl⟩
  go_upto_region 40 with fail
  go_cut [20, 21] (fun s sb wc => ∃ R u0 u1 Q, s = .pointer (some ⟨R, 0, none⟩) ∧ sb = .bool yb ∧ BoxG w22.heap.size e0 e1 y2 y3 wc R u0 u1 Q ∧ Ext w22 wc)
  case first =>
   have hc0 : Ext w22 w22.drew := (Ext.refl _).drew
   have sz0 := hc0.le
   refine wp_region_held_drew (S := (fun W => (W.cell? ⟨bA, 0, none⟩ = some (.slice a0 l0 cap0) ∧ W.cell? ⟨bA, 1, none⟩ = some (.slice a1 l1 cap1) ∧ W.cell? ⟨bA, 2, none⟩ = some (.int .i64 x2) ∧ W.cell? ⟨bA, 3, none⟩ = some (.int .i64 x3)) ∧ (W.cell? ⟨bV, 0, none⟩ = some (.int .i64 vk) ∧ W.cell? ⟨bV, 1, none⟩ = some (.int .i64 vn) ∧ W.cell? ⟨bV, 2, none⟩ = some (.string vt) ∧ W.cell? ⟨bV, 3, none⟩ = some (.slice a2 l2 cap2)) ∧ (W.cell? ⟨bW, 0, none⟩ = some (.int .i64 k) ∧ W.cell? ⟨bW, 1, none⟩ = some (.int .i64 n) ∧ W.cell? ⟨bW, 2, none⟩ = some (.string t) ∧ W.cell? ⟨bW, 3, none⟩ = some (.slice a3 l3 cap3)))) (by kernel_rfl) (HK.out _ hc0) (fun hHeld => ?_)
   refine tkL 0 ⟨some 123, .load 25 (.tmp 4), 25, _, #[], none⟩ ?_ hHeld ?yyK0 ?rrK0
   case yyK0 => (intro w hSw; (try dsimp only at hSw); go_simp; try with_reducible rfl)
   try simp only [Act.put, putA, putB, putC]
   refine tkL 2 ⟨some 125, .load 28 (.tmp 5), 28, _, #[], none⟩ ?_ hHeld ?yyK2 ?rrK2
   case yyK2 => (intro w hSw; (try dsimp only at hSw); go_simp; try with_reducible rfl)
   try simp only [Act.put, putA, putB, putC]
   refine tkL 4 ⟨some 127, .move (.tmp 2), 9, _, #[], none⟩ ?_ hHeld ?yyK4 ?rrK4
   case yyK4 => (intro w hSw; (try dsimp only at hSw); go_simp; try with_reducible rfl)
   try simp only [Act.put, putA, putB, putC]
   refine tkL 5 ⟨some 128, .load 28 (.tmp 7), 28, _, #[], none⟩ ?_ hHeld ?yyK5 ?rrK5
   case yyK5 => (intro w hSw; (try dsimp only at hSw); go_simp; try with_reducible rfl)
   try simp only [Act.put, putA, putB, putC]
   generalize w22.drew = W0 at *
   refine wpAnyH_ready (rs := [1, 11]) (by kernel_rfl) (by simp) ?_
   refine AllReadyH.cons (o := ⟨some 124, .call { callee := .value (.func 7), args := #[.tmp 123], argTypes := #[25] }, 34, _, #[⟨0, .data⟩], none⟩) rfl (fun K hK => ?_) (AllReadyH.cons (o := ⟨some 20, .alloc 34, 0, _, #[], none⟩) rfl (fun K hK => ?_) (AllReadyH.nil))
   ·
    go_simp
    refine (hto _ (hEw22.trans hc0)).mono ?_
    rintro e W1 ⟨u0, u1, Qa, Qb, rfl, ⟨hu0, _, _⟩, ⟨hu1, _, _⟩, _, hx⟩
    obtain ⟨uaa, uac, ual, _, hq_, hc_, _, _⟩ := list_shape H0 hu0
    subst hc_
    clear hq_
    obtain ⟨uba, ubc, ubl, _, hq_, hc_, _, _⟩ := list_shape H1 hu1
    subst hc_
    clear hq_
    go_wp2_with fail
    have hc1 := (hc0).trans hx
    have sz1 := hx.le
    clear hx
    refine hK.out _ _ (HK.out _ hc1) (fun hHeld => ?_)
    clear hK K
    try simp only [Act.put, putA, putB, putC]
    refine wpAnyH_ready (rs := [3, 11]) (by kernel_rfl) (by simp) ?_
    refine AllReadyH.cons (o := ⟨some 126, .call { callee := .value (.func 8), args := #[.tmp 125], argTypes := #[28] }, 40, _, #[⟨2, .data⟩, ⟨1, .chain⟩], none⟩) rfl (fun K hK => ?_) (AllReadyH.cons (o := ⟨some 20, .alloc 34, 0, _, #[], none⟩) rfl (fun K hK => ?_) (AllReadyH.nil))
    ·
     go_simp
     refine (htv _ (hEw22.trans hc1)).mono ?_
     rintro e W2 ⟨u2, Qc, rfl, ⟨hu2, _, _⟩, hx⟩
     obtain ⟨uva, uvc, uvl, _, hq_, hc_, _, _⟩ := list_shape H2 hu2
     subst hc_
     clear hq_
     go_wp2_with fail
     have hc2 := (hc1).trans hx
     have sz2 := hx.le
     replace hu0 := hu0.ext hx
     replace hu1 := hu1.ext hx
     clear hx
     refine hK.out _ _ (HK.out _ hc2) (fun hHeld => ?_)
     clear hK K
     try simp only [Act.put, putA, putB, putC]
     refine wpAnyH_ready (rs := [6, 11]) (by kernel_rfl) (by simp) ?_
     refine AllReadyH.cons (o := ⟨some 129, .call { callee := .value (.func 8), args := #[.tmp 128], argTypes := #[28] }, 40, _, #[⟨5, .data⟩, ⟨3, .chain⟩], none⟩) rfl (fun K hK => ?_) (AllReadyH.cons (o := ⟨some 20, .alloc 34, 0, _, #[], none⟩) rfl (fun K hK => ?_) (AllReadyH.nil))
     ·
      go_simp
      refine (htw _ (hEw22.trans hc2)).mono ?_
      rintro e W3 ⟨u3, Qd, rfl, ⟨hu3, _, _⟩, hx⟩
      obtain ⟨uwa, uwc, uwl, _, hq_, hc_, _, _⟩ := list_shape H3 hu3
      subst hc_
      clear hq_
      go_wp2_with fail
      have hc3 := (hc2).trans hx
      have sz3 := hx.le
      replace hu0 := hu0.ext hx
      replace hu1 := hu1.ext hx
      replace hu2 := hu2.ext hx
      clear hx
      refine hK.out _ _ (HK.out _ hc3) (fun hHeld => ?_)
      clear hK K
      try simp only [Act.put, putA, putB, putC]
      refine wpAnyH_ready (rs := [7, 11]) (by kernel_rfl) (by simp) ?_
      refine AllReadyH.cons (o := ⟨some 130, .call { callee := .value (.func 9), args := #[.tmp 124, .tmp 126, .tmp 127, .tmp 129], argTypes := #[34, 40, 9, 40] }, 35, _, #[⟨1, .data⟩, ⟨3, .data⟩, ⟨4, .data⟩, ⟨6, .data⟩, ⟨6, .chain⟩], none⟩) rfl (fun K hK => ?_) (AllReadyH.cons (o := ⟨some 20, .alloc 34, 0, _, #[], none⟩) rfl (fun K hK => ?_) (AllReadyH.nil))
      ·
       go_simp
       refine (himG _ _ _ _ _ hu0.any hu1.any hu2.any hu3.any).mono ?_
       rintro e W4 ⟨uG, uH, QG, _, hG0, hG1, qG, hx⟩
       obtain ⟨vga, vgc, vgl, _, hq_, hc_, _, _⟩ := list_shape HE0 hG0
       subst hc_
       clear hq_
       obtain ⟨vha, vhc, vhl, _, hq_, hc_, _, _⟩ := list_shape HE1 hG1
       subst hc_
       clear hq_
       clear hu0 hu1 hu2 hu3
       go_wp2_with fail
       have hc4 := (hc3).trans hx
       have sz4 := hx.le
       clear hx
       refine hK.out _ _ (HK.out _ hc4) (fun hHeld => ?_)
       clear hK K
       try simp only [Act.put, putA, putB, putC]
       refine tkL 8 ⟨some 122, .move (.tmp 130), 35, _, #[⟨7, .data⟩], none⟩ ?_ hHeld ?yyKtabc8 ?rrKtabc8
       case yyKtabc8 => (intro w hSw; (try dsimp only at hSw); go_simp; try with_reducible rfl)
       try simp only [Act.put, putA, putB, putC]
       refine tkL 9 ⟨some 131, .extract (.tmp 122) 0, 34, _, #[⟨8, .data⟩], none⟩ ?_ hHeld ?yyKtabc9 ?rrKtabc9
       case yyKtabc9 => (intro w hSw; (try dsimp only at hSw); go_simp; try with_reducible rfl)
       try simp only [Act.put, putA, putB, putC]
       refine tkL 10 ⟨some 132, .extract (.tmp 122) 1, 4, _, #[⟨8, .data⟩, ⟨12, .gcOnly .lateStores⟩], none⟩ ?_ hHeld ?yyKtabc10 ?rrKtabc10
       case yyKtabc10 => (intro w hSw; (try dsimp only at hSw); go_simp; try with_reducible rfl)
       try simp only [Act.put, putA, putB, putC]
       refine wpAnyH_ready (rs := [11]) (by kernel_rfl) (by simp) ?_
       refine AllReadyH.cons (o := ⟨some 20, .alloc 34, 0, _, #[], none⟩) rfl (fun K hK => ?_) (AllReadyH.nil)
       go_simp
       have hx : Ext W4 (W4.alloc (.cells #[.slice none 0 0, .slice none 0 0, .int .i64 0, .int .i64 0] 34)) := (Ext.refl _).alloc _
       have FR := FG.new W4 #[.slice none 0 0, .slice none 0 0, .int .i64 0, .int .i64 0] 34
       have FZ : ∀ j, (W4.alloc (.cells #[.slice none 0 0, .slice none 0 0, .int .i64 0, .int .i64 0] 34)).frozen? ⟨W4.heap.size, j, none⟩ = false := fun j => World.frozen?_alloc_new W4 _ _ j
       have hRs : W4.heap.size < (W4.alloc (.cells #[.slice none 0 0, .slice none 0 0, .int .i64 0, .int .i64 0] 34)).heap.size := by simp
       obtain ⟨R, hR⟩ : ∃ m, m = W4.heap.size := ⟨_, rfl⟩
       have hR1 := Nat.le_of_eq hR
       have hR2 := Nat.le_of_eq hR.symm
       rw [← hR] at FR FZ hRs ⊢
       clear hR
       generalize W4.alloc (.cells #[.slice none 0 0, .slice none 0 0, .int .i64 0, .int .i64 0] 34) = W5 at *
       have nqG : ¬ QG R := fun h => by have := (qG _ h).2; omega
       have hc5 := (hc4).trans hx
       have sz5 := hx.le
       replace hG0 := hG0.ext hx
       replace hG1 := hG1.ext hx
       clear hx
       refine hK.out _ _ (HK.out _ hc5) (fun hHeld => ?_)
       clear hK K
       try simp only [Act.put, putA, putB, putC]
       refine wpAnyH_ready (rs := [12]) (by kernel_rfl) (by simp) ?_
       refine AllReadyH.cons (o := ⟨none, .store 34 (.tmp 20) (.tmp 131), 0, _, #[⟨11, .data⟩, ⟨9, .data⟩, ⟨7, .chain⟩, ⟨0, .phase⟩, ⟨1, .phase⟩, ⟨2, .phase⟩, ⟨3, .phase⟩, ⟨4, .phase⟩, ⟨5, .phase⟩, ⟨6, .phase⟩, ⟨7, .phase⟩, ⟨8, .phase⟩, ⟨9, .phase⟩, ⟨10, .textOnly .lateStores⟩, ⟨11, .phase⟩], none⟩) rfl (fun K hK => ?_) (AllReadyH.nil)
       have r0 := FR 0 _ rfl
       have r1 := FR 1 _ rfl
       have r2 := FR 2 _ rfl
       have r3 := FR 3 _ rfl
       have z0 := FZ 0
       have z1 := FZ 1
       have z2 := FZ 2
       have z3 := FZ 3
       go_simp
       clear r0 r1 r2 r3 z0 z1 z2 z3
       have hB : BoxG w22.heap.size e0 e1 y2 y3 _ R (.slice vga vgl vgc) (.slice vha vhl vhc) QG := boxG_store (W := W5) FR (by omega) (by omega) hG0 hG1 (fun x hx => ⟨by have := (qG x hx).1; omega, by have := (qG x hx).2; omega⟩) nqG
       have hEz : Ext w22 ((((W5.setCell ⟨R, 0, none⟩ (.slice vga vgl vgc)).setCell ⟨R, 1, none⟩ (.slice vha vhl vhc)).setCell ⟨R, 2, none⟩ (.int .i64 y2)).setCell ⟨R, 3, none⟩ (.int .i64 y3)) := (((hc5.setCell (show _ ≤ R by omega) _).setCell (show _ ≤ R by omega) _).setCell (show _ ≤ R by omega) _).setCell (show _ ≤ R by omega) _
       refine hK.out _ _ (HK.out _ hEz) (fun hHeld => ?_)
       clear hK K
       try simp only [Act.put, putA, putB, putC]
       refine tkL 13 ⟨some 21, .assign (.tmp 132), 4, _, #[⟨10, .data⟩, ⟨12, .chain⟩, ⟨0, .phase⟩, ⟨1, .phase⟩, ⟨2, .phase⟩, ⟨3, .phase⟩, ⟨4, .phase⟩, ⟨5, .phase⟩, ⟨6, .phase⟩, ⟨7, .phase⟩, ⟨8, .phase⟩, ⟨9, .phase⟩, ⟨10, .phase⟩, ⟨11, .phase⟩, ⟨12, .phase⟩], none⟩ ?_ hHeld ?yyKabcde13 ?rrKabcde13
       case yyKabcde13 => (intro w hSw; (try dsimp only at hSw); go_simp; try with_reducible rfl)
       try simp only [Act.put, putA, putB, putC]
       refine wpAnyH_done (by kernel_rfl) ?_ _
       go_wp2
       go_meet
       case rel => exact ⟨R, _, _, QG, rfl, rfl, hB, hEz⟩
      ·
       go_simp
       have hx : Ext W3 (W3.alloc (.cells #[.slice none 0 0, .slice none 0 0, .int .i64 0, .int .i64 0] 34)) := (Ext.refl _).alloc _
       have FR := FG.new W3 #[.slice none 0 0, .slice none 0 0, .int .i64 0, .int .i64 0] 34
       have FZ : ∀ j, (W3.alloc (.cells #[.slice none 0 0, .slice none 0 0, .int .i64 0, .int .i64 0] 34)).frozen? ⟨W3.heap.size, j, none⟩ = false := fun j => World.frozen?_alloc_new W3 _ _ j
       have hRs : W3.heap.size < (W3.alloc (.cells #[.slice none 0 0, .slice none 0 0, .int .i64 0, .int .i64 0] 34)).heap.size := by simp
       obtain ⟨R, hR⟩ : ∃ m, m = W3.heap.size := ⟨_, rfl⟩
       have hR1 := Nat.le_of_eq hR
       have hR2 := Nat.le_of_eq hR.symm
       rw [← hR] at FR FZ hRs ⊢
       clear hR
       generalize W3.alloc (.cells #[.slice none 0 0, .slice none 0 0, .int .i64 0, .int .i64 0] 34) = W4 at *
       have hc4 := (hc3).trans hx
       have sz4 := hx.le
       replace hu0 := hu0.ext hx
       replace hu1 := hu1.ext hx
       replace hu2 := hu2.ext hx
       replace hu3 := hu3.ext hx
       clear hx
       refine hK.out _ _ (HK.out _ hc4) (fun hHeld => ?_)
       clear hK K
       try simp only [Act.put, putA, putB, putC]
       refine wpAnyH_ready (rs := [7]) (by kernel_rfl) (by simp) ?_
       refine AllReadyH.cons (o := ⟨some 130, .call { callee := .value (.func 9), args := #[.tmp 124, .tmp 126, .tmp 127, .tmp 129], argTypes := #[34, 40, 9, 40] }, 35, _, #[⟨1, .data⟩, ⟨3, .data⟩, ⟨4, .data⟩, ⟨6, .data⟩, ⟨6, .chain⟩], none⟩) rfl (fun K hK => ?_) (AllReadyH.nil)
       go_simp
       refine (himG _ _ _ _ _ hu0.any hu1.any hu2.any hu3.any).mono ?_
       rintro e W5 ⟨uG, uH, QG, _, hG0, hG1, qG, hx⟩
       obtain ⟨vga, vgc, vgl, _, hq_, hc_, _, _⟩ := list_shape HE0 hG0
       subst hc_
       clear hq_
       obtain ⟨vha, vhc, vhl, _, hq_, hc_, _, _⟩ := list_shape HE1 hG1
       subst hc_
       clear hq_
       have nqG : ¬ QG R := fun h => by have := (qG _ h).1; omega
       clear hu0 hu1 hu2 hu3
       go_wp2_with fail
       have hc5 := (hc4).trans hx
       have sz5 := hx.le
       replace FZ := fun j => ((bcell hx).2 R j (by omega)).trans (FZ j)
       replace FR := FR.ext hx (by omega)
       clear hx
       refine hK.out _ _ (HK.out _ hc5) (fun hHeld => ?_)
       clear hK K
       try simp only [Act.put, putA, putB, putC]
       refine tkL 8 ⟨some 122, .move (.tmp 130), 35, _, #[⟨7, .data⟩], none⟩ ?_ hHeld ?yyKtabce8 ?rrKtabce8
       case yyKtabce8 => (intro w hSw; (try dsimp only at hSw); go_simp; try with_reducible rfl)
       try simp only [Act.put, putA, putB, putC]
       refine tkL 9 ⟨some 131, .extract (.tmp 122) 0, 34, _, #[⟨8, .data⟩], none⟩ ?_ hHeld ?yyKtabce9 ?rrKtabce9
       case yyKtabce9 => (intro w hSw; (try dsimp only at hSw); go_simp; try with_reducible rfl)
       try simp only [Act.put, putA, putB, putC]
       refine tkL 10 ⟨some 132, .extract (.tmp 122) 1, 4, _, #[⟨8, .data⟩, ⟨12, .gcOnly .lateStores⟩], none⟩ ?_ hHeld ?yyKtabce10 ?rrKtabce10
       case yyKtabce10 => (intro w hSw; (try dsimp only at hSw); go_simp; try with_reducible rfl)
       try simp only [Act.put, putA, putB, putC]
       refine wpAnyH_ready (rs := [12]) (by kernel_rfl) (by simp) ?_
       refine AllReadyH.cons (o := ⟨none, .store 34 (.tmp 20) (.tmp 131), 0, _, #[⟨11, .data⟩, ⟨9, .data⟩, ⟨7, .chain⟩, ⟨0, .phase⟩, ⟨1, .phase⟩, ⟨2, .phase⟩, ⟨3, .phase⟩, ⟨4, .phase⟩, ⟨5, .phase⟩, ⟨6, .phase⟩, ⟨7, .phase⟩, ⟨8, .phase⟩, ⟨9, .phase⟩, ⟨10, .textOnly .lateStores⟩, ⟨11, .phase⟩], none⟩) rfl (fun K hK => ?_) (AllReadyH.nil)
       have r0 := FR 0 _ rfl
       have r1 := FR 1 _ rfl
       have r2 := FR 2 _ rfl
       have r3 := FR 3 _ rfl
       have z0 := FZ 0
       have z1 := FZ 1
       have z2 := FZ 2
       have z3 := FZ 3
       go_simp
       clear r0 r1 r2 r3 z0 z1 z2 z3
       have hB : BoxG w22.heap.size e0 e1 y2 y3 _ R (.slice vga vgl vgc) (.slice vha vhl vhc) QG := boxG_store (W := W5) FR (by omega) (by omega) hG0 hG1 (fun x hx => ⟨by have := (qG x hx).1; omega, by have := (qG x hx).2; omega⟩) nqG
       have hEz : Ext w22 ((((W5.setCell ⟨R, 0, none⟩ (.slice vga vgl vgc)).setCell ⟨R, 1, none⟩ (.slice vha vhl vhc)).setCell ⟨R, 2, none⟩ (.int .i64 y2)).setCell ⟨R, 3, none⟩ (.int .i64 y3)) := (((hc5.setCell (show _ ≤ R by omega) _).setCell (show _ ≤ R by omega) _).setCell (show _ ≤ R by omega) _).setCell (show _ ≤ R by omega) _
       refine hK.out _ _ (HK.out _ hEz) (fun hHeld => ?_)
       clear hK K
       try simp only [Act.put, putA, putB, putC]
       refine tkL 13 ⟨some 21, .assign (.tmp 132), 4, _, #[⟨10, .data⟩, ⟨12, .chain⟩, ⟨0, .phase⟩, ⟨1, .phase⟩, ⟨2, .phase⟩, ⟨3, .phase⟩, ⟨4, .phase⟩, ⟨5, .phase⟩, ⟨6, .phase⟩, ⟨7, .phase⟩, ⟨8, .phase⟩, ⟨9, .phase⟩, ⟨10, .phase⟩, ⟨11, .phase⟩, ⟨12, .phase⟩], none⟩ ?_ hHeld ?yyKabced13 ?rrKabced13
       case yyKabced13 => (intro w hSw; (try dsimp only at hSw); go_simp; try with_reducible rfl)
       try simp only [Act.put, putA, putB, putC]
       refine wpAnyH_done (by kernel_rfl) ?_ _
       go_wp2
       go_meet
       case rel => exact ⟨R, _, _, QG, rfl, rfl, hB, hEz⟩
     ·
      go_simp
      have hx : Ext W2 (W2.alloc (.cells #[.slice none 0 0, .slice none 0 0, .int .i64 0, .int .i64 0] 34)) := (Ext.refl _).alloc _
      have FR := FG.new W2 #[.slice none 0 0, .slice none 0 0, .int .i64 0, .int .i64 0] 34
      have FZ : ∀ j, (W2.alloc (.cells #[.slice none 0 0, .slice none 0 0, .int .i64 0, .int .i64 0] 34)).frozen? ⟨W2.heap.size, j, none⟩ = false := fun j => World.frozen?_alloc_new W2 _ _ j
      have hRs : W2.heap.size < (W2.alloc (.cells #[.slice none 0 0, .slice none 0 0, .int .i64 0, .int .i64 0] 34)).heap.size := by simp
      obtain ⟨R, hR⟩ : ∃ m, m = W2.heap.size := ⟨_, rfl⟩
      have hR1 := Nat.le_of_eq hR
      have hR2 := Nat.le_of_eq hR.symm
      rw [← hR] at FR FZ hRs ⊢
      clear hR
      generalize W2.alloc (.cells #[.slice none 0 0, .slice none 0 0, .int .i64 0, .int .i64 0] 34) = W3 at *
      have hc3 := (hc2).trans hx
      have sz3 := hx.le
      replace hu0 := hu0.ext hx
      replace hu1 := hu1.ext hx
      replace hu2 := hu2.ext hx
      clear hx
      refine hK.out _ _ (HK.out _ hc3) (fun hHeld => ?_)
      clear hK K
      try simp only [Act.put, putA, putB, putC]
      refine wpAnyH_ready (rs := [6]) (by kernel_rfl) (by simp) ?_
      refine AllReadyH.cons (o := ⟨some 129, .call { callee := .value (.func 8), args := #[.tmp 128], argTypes := #[28] }, 40, _, #[⟨5, .data⟩, ⟨3, .chain⟩], none⟩) rfl (fun K hK => ?_) (AllReadyH.nil)
      go_simp
      refine (htw _ (hEw22.trans hc3)).mono ?_
      rintro e W4 ⟨u3, Qd, rfl, ⟨hu3, _, _⟩, hx⟩
      obtain ⟨uwa, uwc, uwl, _, hq_, hc_, _, _⟩ := list_shape H3 hu3
      subst hc_
      clear hq_
      go_wp2_with fail
      have hc4 := (hc3).trans hx
      have sz4 := hx.le
      replace hu0 := hu0.ext hx
      replace hu1 := hu1.ext hx
      replace hu2 := hu2.ext hx
      replace FZ := fun j => ((bcell hx).2 R j (by omega)).trans (FZ j)
      replace FR := FR.ext hx (by omega)
      clear hx
      refine hK.out _ _ (HK.out _ hc4) (fun hHeld => ?_)
      clear hK K
      try simp only [Act.put, putA, putB, putC]
      refine wpAnyH_ready (rs := [7]) (by kernel_rfl) (by simp) ?_
      refine AllReadyH.cons (o := ⟨some 130, .call { callee := .value (.func 9), args := #[.tmp 124, .tmp 126, .tmp 127, .tmp 129], argTypes := #[34, 40, 9, 40] }, 35, _, #[⟨1, .data⟩, ⟨3, .data⟩, ⟨4, .data⟩, ⟨6, .data⟩, ⟨6, .chain⟩], none⟩) rfl (fun K hK => ?_) (AllReadyH.nil)
      go_simp
      refine (himG _ _ _ _ _ hu0.any hu1.any hu2.any hu3.any).mono ?_
      rintro e W5 ⟨uG, uH, QG, _, hG0, hG1, qG, hx⟩
      obtain ⟨vga, vgc, vgl, _, hq_, hc_, _, _⟩ := list_shape HE0 hG0
      subst hc_
      clear hq_
      obtain ⟨vha, vhc, vhl, _, hq_, hc_, _, _⟩ := list_shape HE1 hG1
      subst hc_
      clear hq_
      have nqG : ¬ QG R := fun h => by have := (qG _ h).1; omega
      clear hu0 hu1 hu2 hu3
      go_wp2_with fail
      have hc5 := (hc4).trans hx
      have sz5 := hx.le
      replace FZ := fun j => ((bcell hx).2 R j (by omega)).trans (FZ j)
      replace FR := FR.ext hx (by omega)
      clear hx
      refine hK.out _ _ (HK.out _ hc5) (fun hHeld => ?_)
      clear hK K
      try simp only [Act.put, putA, putB, putC]
      refine tkL 8 ⟨some 122, .move (.tmp 130), 35, _, #[⟨7, .data⟩], none⟩ ?_ hHeld ?yyKtabec8 ?rrKtabec8
      case yyKtabec8 => (intro w hSw; (try dsimp only at hSw); go_simp; try with_reducible rfl)
      try simp only [Act.put, putA, putB, putC]
      refine tkL 9 ⟨some 131, .extract (.tmp 122) 0, 34, _, #[⟨8, .data⟩], none⟩ ?_ hHeld ?yyKtabec9 ?rrKtabec9
      case yyKtabec9 => (intro w hSw; (try dsimp only at hSw); go_simp; try with_reducible rfl)
      try simp only [Act.put, putA, putB, putC]
      refine tkL 10 ⟨some 132, .extract (.tmp 122) 1, 4, _, #[⟨8, .data⟩, ⟨12, .gcOnly .lateStores⟩], none⟩ ?_ hHeld ?yyKtabec10 ?rrKtabec10
      case yyKtabec10 => (intro w hSw; (try dsimp only at hSw); go_simp; try with_reducible rfl)
      try simp only [Act.put, putA, putB, putC]
      refine wpAnyH_ready (rs := [12]) (by kernel_rfl) (by simp) ?_
      refine AllReadyH.cons (o := ⟨none, .store 34 (.tmp 20) (.tmp 131), 0, _, #[⟨11, .data⟩, ⟨9, .data⟩, ⟨7, .chain⟩, ⟨0, .phase⟩, ⟨1, .phase⟩, ⟨2, .phase⟩, ⟨3, .phase⟩, ⟨4, .phase⟩, ⟨5, .phase⟩, ⟨6, .phase⟩, ⟨7, .phase⟩, ⟨8, .phase⟩, ⟨9, .phase⟩, ⟨10, .textOnly .lateStores⟩, ⟨11, .phase⟩], none⟩) rfl (fun K hK => ?_) (AllReadyH.nil)
      have r0 := FR 0 _ rfl
      have r1 := FR 1 _ rfl
      have r2 := FR 2 _ rfl
      have r3 := FR 3 _ rfl
      have z0 := FZ 0
      have z1 := FZ 1
      have z2 := FZ 2
      have z3 := FZ 3
      go_simp
      clear r0 r1 r2 r3 z0 z1 z2 z3
      have hB : BoxG w22.heap.size e0 e1 y2 y3 _ R (.slice vga vgl vgc) (.slice vha vhl vhc) QG := boxG_store (W := W5) FR (by omega) (by omega) hG0 hG1 (fun x hx => ⟨by have := (qG x hx).1; omega, by have := (qG x hx).2; omega⟩) nqG
      have hEz : Ext w22 ((((W5.setCell ⟨R, 0, none⟩ (.slice vga vgl vgc)).setCell ⟨R, 1, none⟩ (.slice vha vhl vhc)).setCell ⟨R, 2, none⟩ (.int .i64 y2)).setCell ⟨R, 3, none⟩ (.int .i64 y3)) := (((hc5.setCell (show _ ≤ R by omega) _).setCell (show _ ≤ R by omega) _).setCell (show _ ≤ R by omega) _).setCell (show _ ≤ R by omega) _
      refine hK.out _ _ (HK.out _ hEz) (fun hHeld => ?_)
      clear hK K
      try simp only [Act.put, putA, putB, putC]
      refine tkL 13 ⟨some 21, .assign (.tmp 132), 4, _, #[⟨10, .data⟩, ⟨12, .chain⟩, ⟨0, .phase⟩, ⟨1, .phase⟩, ⟨2, .phase⟩, ⟨3, .phase⟩, ⟨4, .phase⟩, ⟨5, .phase⟩, ⟨6, .phase⟩, ⟨7, .phase⟩, ⟨8, .phase⟩, ⟨9, .phase⟩, ⟨10, .phase⟩, ⟨11, .phase⟩, ⟨12, .phase⟩], none⟩ ?_ hHeld ?yyKabecd13 ?rrKabecd13
      case yyKabecd13 => (intro w hSw; (try dsimp only at hSw); go_simp; try with_reducible rfl)
      try simp only [Act.put, putA, putB, putC]
      refine wpAnyH_done (by kernel_rfl) ?_ _
      go_wp2
      go_meet
      case rel => exact ⟨R, _, _, QG, rfl, rfl, hB, hEz⟩
    ·
     go_simp
     have hx : Ext W1 (W1.alloc (.cells #[.slice none 0 0, .slice none 0 0, .int .i64 0, .int .i64 0] 34)) := (Ext.refl _).alloc _
     have FR := FG.new W1 #[.slice none 0 0, .slice none 0 0, .int .i64 0, .int .i64 0] 34
     have FZ : ∀ j, (W1.alloc (.cells #[.slice none 0 0, .slice none 0 0, .int .i64 0, .int .i64 0] 34)).frozen? ⟨W1.heap.size, j, none⟩ = false := fun j => World.frozen?_alloc_new W1 _ _ j
     have hRs : W1.heap.size < (W1.alloc (.cells #[.slice none 0 0, .slice none 0 0, .int .i64 0, .int .i64 0] 34)).heap.size := by simp
     obtain ⟨R, hR⟩ : ∃ m, m = W1.heap.size := ⟨_, rfl⟩
     have hR1 := Nat.le_of_eq hR
     have hR2 := Nat.le_of_eq hR.symm
     rw [← hR] at FR FZ hRs ⊢
     clear hR
     generalize W1.alloc (.cells #[.slice none 0 0, .slice none 0 0, .int .i64 0, .int .i64 0] 34) = W2 at *
     have hc2 := (hc1).trans hx
     have sz2 := hx.le
     replace hu0 := hu0.ext hx
     replace hu1 := hu1.ext hx
     clear hx
     refine hK.out _ _ (HK.out _ hc2) (fun hHeld => ?_)
     clear hK K
     try simp only [Act.put, putA, putB, putC]
     refine wpAnyH_ready (rs := [3]) (by kernel_rfl) (by simp) ?_
     refine AllReadyH.cons (o := ⟨some 126, .call { callee := .value (.func 8), args := #[.tmp 125], argTypes := #[28] }, 40, _, #[⟨2, .data⟩, ⟨1, .chain⟩], none⟩) rfl (fun K hK => ?_) (AllReadyH.nil)
     go_simp
     refine (htv _ (hEw22.trans hc2)).mono ?_
     rintro e W3 ⟨u2, Qc, rfl, ⟨hu2, _, _⟩, hx⟩
     obtain ⟨uva, uvc, uvl, _, hq_, hc_, _, _⟩ := list_shape H2 hu2
     subst hc_
     clear hq_
     go_wp2_with fail
     have hc3 := (hc2).trans hx
     have sz3 := hx.le
     replace hu0 := hu0.ext hx
     replace hu1 := hu1.ext hx
     replace FZ := fun j => ((bcell hx).2 R j (by omega)).trans (FZ j)
     replace FR := FR.ext hx (by omega)
     clear hx
     refine hK.out _ _ (HK.out _ hc3) (fun hHeld => ?_)
     clear hK K
     try simp only [Act.put, putA, putB, putC]
     refine wpAnyH_ready (rs := [6]) (by kernel_rfl) (by simp) ?_
     refine AllReadyH.cons (o := ⟨some 129, .call { callee := .value (.func 8), args := #[.tmp 128], argTypes := #[28] }, 40, _, #[⟨5, .data⟩, ⟨3, .chain⟩], none⟩) rfl (fun K hK => ?_) (AllReadyH.nil)
     go_simp
     refine (htw _ (hEw22.trans hc3)).mono ?_
     rintro e W4 ⟨u3, Qd, rfl, ⟨hu3, _, _⟩, hx⟩
     obtain ⟨uwa, uwc, uwl, _, hq_, hc_, _, _⟩ := list_shape H3 hu3
     subst hc_
     clear hq_
     go_wp2_with fail
     have hc4 := (hc3).trans hx
     have sz4 := hx.le
     replace hu0 := hu0.ext hx
     replace hu1 := hu1.ext hx
     replace hu2 := hu2.ext hx
     replace FZ := fun j => ((bcell hx).2 R j (by omega)).trans (FZ j)
     replace FR := FR.ext hx (by omega)
     clear hx
     refine hK.out _ _ (HK.out _ hc4) (fun hHeld => ?_)
     clear hK K
     try simp only [Act.put, putA, putB, putC]
     refine wpAnyH_ready (rs := [7]) (by kernel_rfl) (by simp) ?_
     refine AllReadyH.cons (o := ⟨some 130, .call { callee := .value (.func 9), args := #[.tmp 124, .tmp 126, .tmp 127, .tmp 129], argTypes := #[34, 40, 9, 40] }, 35, _, #[⟨1, .data⟩, ⟨3, .data⟩, ⟨4, .data⟩, ⟨6, .data⟩, ⟨6, .chain⟩], none⟩) rfl (fun K hK => ?_) (AllReadyH.nil)
     go_simp
     refine (himG _ _ _ _ _ hu0.any hu1.any hu2.any hu3.any).mono ?_
     rintro e W5 ⟨uG, uH, QG, _, hG0, hG1, qG, hx⟩
     obtain ⟨vga, vgc, vgl, _, hq_, hc_, _, _⟩ := list_shape HE0 hG0
     subst hc_
     clear hq_
     obtain ⟨vha, vhc, vhl, _, hq_, hc_, _, _⟩ := list_shape HE1 hG1
     subst hc_
     clear hq_
     have nqG : ¬ QG R := fun h => by have := (qG _ h).1; omega
     clear hu0 hu1 hu2 hu3
     go_wp2_with fail
     have hc5 := (hc4).trans hx
     have sz5 := hx.le
     replace FZ := fun j => ((bcell hx).2 R j (by omega)).trans (FZ j)
     replace FR := FR.ext hx (by omega)
     clear hx
     refine hK.out _ _ (HK.out _ hc5) (fun hHeld => ?_)
     clear hK K
     try simp only [Act.put, putA, putB, putC]
     refine tkL 8 ⟨some 122, .move (.tmp 130), 35, _, #[⟨7, .data⟩], none⟩ ?_ hHeld ?yyKtaebc8 ?rrKtaebc8
     case yyKtaebc8 => (intro w hSw; (try dsimp only at hSw); go_simp; try with_reducible rfl)
     try simp only [Act.put, putA, putB, putC]
     refine tkL 9 ⟨some 131, .extract (.tmp 122) 0, 34, _, #[⟨8, .data⟩], none⟩ ?_ hHeld ?yyKtaebc9 ?rrKtaebc9
     case yyKtaebc9 => (intro w hSw; (try dsimp only at hSw); go_simp; try with_reducible rfl)
     try simp only [Act.put, putA, putB, putC]
     refine tkL 10 ⟨some 132, .extract (.tmp 122) 1, 4, _, #[⟨8, .data⟩, ⟨12, .gcOnly .lateStores⟩], none⟩ ?_ hHeld ?yyKtaebc10 ?rrKtaebc10
     case yyKtaebc10 => (intro w hSw; (try dsimp only at hSw); go_simp; try with_reducible rfl)
     try simp only [Act.put, putA, putB, putC]
     refine wpAnyH_ready (rs := [12]) (by kernel_rfl) (by simp) ?_
     refine AllReadyH.cons (o := ⟨none, .store 34 (.tmp 20) (.tmp 131), 0, _, #[⟨11, .data⟩, ⟨9, .data⟩, ⟨7, .chain⟩, ⟨0, .phase⟩, ⟨1, .phase⟩, ⟨2, .phase⟩, ⟨3, .phase⟩, ⟨4, .phase⟩, ⟨5, .phase⟩, ⟨6, .phase⟩, ⟨7, .phase⟩, ⟨8, .phase⟩, ⟨9, .phase⟩, ⟨10, .textOnly .lateStores⟩, ⟨11, .phase⟩], none⟩) rfl (fun K hK => ?_) (AllReadyH.nil)
     have r0 := FR 0 _ rfl
     have r1 := FR 1 _ rfl
     have r2 := FR 2 _ rfl
     have r3 := FR 3 _ rfl
     have z0 := FZ 0
     have z1 := FZ 1
     have z2 := FZ 2
     have z3 := FZ 3
     go_simp
     clear r0 r1 r2 r3 z0 z1 z2 z3
     have hB : BoxG w22.heap.size e0 e1 y2 y3 _ R (.slice vga vgl vgc) (.slice vha vhl vhc) QG := boxG_store (W := W5) FR (by omega) (by omega) hG0 hG1 (fun x hx => ⟨by have := (qG x hx).1; omega, by have := (qG x hx).2; omega⟩) nqG
     have hEz : Ext w22 ((((W5.setCell ⟨R, 0, none⟩ (.slice vga vgl vgc)).setCell ⟨R, 1, none⟩ (.slice vha vhl vhc)).setCell ⟨R, 2, none⟩ (.int .i64 y2)).setCell ⟨R, 3, none⟩ (.int .i64 y3)) := (((hc5.setCell (show _ ≤ R by omega) _).setCell (show _ ≤ R by omega) _).setCell (show _ ≤ R by omega) _).setCell (show _ ≤ R by omega) _
     refine hK.out _ _ (HK.out _ hEz) (fun hHeld => ?_)
     clear hK K
     try simp only [Act.put, putA, putB, putC]
     refine tkL 13 ⟨some 21, .assign (.tmp 132), 4, _, #[⟨10, .data⟩, ⟨12, .chain⟩, ⟨0, .phase⟩, ⟨1, .phase⟩, ⟨2, .phase⟩, ⟨3, .phase⟩, ⟨4, .phase⟩, ⟨5, .phase⟩, ⟨6, .phase⟩, ⟨7, .phase⟩, ⟨8, .phase⟩, ⟨9, .phase⟩, ⟨10, .phase⟩, ⟨11, .phase⟩, ⟨12, .phase⟩], none⟩ ?_ hHeld ?yyKaebcd13 ?rrKaebcd13
     case yyKaebcd13 => (intro w hSw; (try dsimp only at hSw); go_simp; try with_reducible rfl)
     try simp only [Act.put, putA, putB, putC]
     refine wpAnyH_done (by kernel_rfl) ?_ _
     go_wp2
     go_meet
     case rel => exact ⟨R, _, _, QG, rfl, rfl, hB, hEz⟩
   ·
    go_simp
    have hx : Ext W0 (W0.alloc (.cells #[.slice none 0 0, .slice none 0 0, .int .i64 0, .int .i64 0] 34)) := (Ext.refl _).alloc _
    have FR := FG.new W0 #[.slice none 0 0, .slice none 0 0, .int .i64 0, .int .i64 0] 34
    have FZ : ∀ j, (W0.alloc (.cells #[.slice none 0 0, .slice none 0 0, .int .i64 0, .int .i64 0] 34)).frozen? ⟨W0.heap.size, j, none⟩ = false := fun j => World.frozen?_alloc_new W0 _ _ j
    have hRs : W0.heap.size < (W0.alloc (.cells #[.slice none 0 0, .slice none 0 0, .int .i64 0, .int .i64 0] 34)).heap.size := by simp
    obtain ⟨R, hR⟩ : ∃ m, m = W0.heap.size := ⟨_, rfl⟩
    have hR1 := Nat.le_of_eq hR
    have hR2 := Nat.le_of_eq hR.symm
    rw [← hR] at FR FZ hRs ⊢
    clear hR
    generalize W0.alloc (.cells #[.slice none 0 0, .slice none 0 0, .int .i64 0, .int .i64 0] 34) = W1 at *
    have hc1 := (hc0).trans hx
    have sz1 := hx.le
    clear hx
    refine hK.out _ _ (HK.out _ hc1) (fun hHeld => ?_)
    clear hK K
    try simp only [Act.put, putA, putB, putC]
    refine wpAnyH_ready (rs := [1]) (by kernel_rfl) (by simp) ?_
    refine AllReadyH.cons (o := ⟨some 124, .call { callee := .value (.func 7), args := #[.tmp 123], argTypes := #[25] }, 34, _, #[⟨0, .data⟩], none⟩) rfl (fun K hK => ?_) (AllReadyH.nil)
    go_simp
    refine (hto _ (hEw22.trans hc1)).mono ?_
    rintro e W2 ⟨u0, u1, Qa, Qb, rfl, ⟨hu0, _, _⟩, ⟨hu1, _, _⟩, _, hx⟩
    obtain ⟨uaa, uac, ual, _, hq_, hc_, _, _⟩ := list_shape H0 hu0
    subst hc_
    clear hq_
    obtain ⟨uba, ubc, ubl, _, hq_, hc_, _, _⟩ := list_shape H1 hu1
    subst hc_
    clear hq_
    go_wp2_with fail
    have hc2 := (hc1).trans hx
    have sz2 := hx.le
    replace FZ := fun j => ((bcell hx).2 R j (by omega)).trans (FZ j)
    replace FR := FR.ext hx (by omega)
    clear hx
    refine hK.out _ _ (HK.out _ hc2) (fun hHeld => ?_)
    clear hK K
    try simp only [Act.put, putA, putB, putC]
    refine wpAnyH_ready (rs := [3]) (by kernel_rfl) (by simp) ?_
    refine AllReadyH.cons (o := ⟨some 126, .call { callee := .value (.func 8), args := #[.tmp 125], argTypes := #[28] }, 40, _, #[⟨2, .data⟩, ⟨1, .chain⟩], none⟩) rfl (fun K hK => ?_) (AllReadyH.nil)
    go_simp
    refine (htv _ (hEw22.trans hc2)).mono ?_
    rintro e W3 ⟨u2, Qc, rfl, ⟨hu2, _, _⟩, hx⟩
    obtain ⟨uva, uvc, uvl, _, hq_, hc_, _, _⟩ := list_shape H2 hu2
    subst hc_
    clear hq_
    go_wp2_with fail
    have hc3 := (hc2).trans hx
    have sz3 := hx.le
    replace hu0 := hu0.ext hx
    replace hu1 := hu1.ext hx
    replace FZ := fun j => ((bcell hx).2 R j (by omega)).trans (FZ j)
    replace FR := FR.ext hx (by omega)
    clear hx
    refine hK.out _ _ (HK.out _ hc3) (fun hHeld => ?_)
    clear hK K
    try simp only [Act.put, putA, putB, putC]
    refine wpAnyH_ready (rs := [6]) (by kernel_rfl) (by simp) ?_
    refine AllReadyH.cons (o := ⟨some 129, .call { callee := .value (.func 8), args := #[.tmp 128], argTypes := #[28] }, 40, _, #[⟨5, .data⟩, ⟨3, .chain⟩], none⟩) rfl (fun K hK => ?_) (AllReadyH.nil)
    go_simp
    refine (htw _ (hEw22.trans hc3)).mono ?_
    rintro e W4 ⟨u3, Qd, rfl, ⟨hu3, _, _⟩, hx⟩
    obtain ⟨uwa, uwc, uwl, _, hq_, hc_, _, _⟩ := list_shape H3 hu3
    subst hc_
    clear hq_
    go_wp2_with fail
    have hc4 := (hc3).trans hx
    have sz4 := hx.le
    replace hu0 := hu0.ext hx
    replace hu1 := hu1.ext hx
    replace hu2 := hu2.ext hx
    replace FZ := fun j => ((bcell hx).2 R j (by omega)).trans (FZ j)
    replace FR := FR.ext hx (by omega)
    clear hx
    refine hK.out _ _ (HK.out _ hc4) (fun hHeld => ?_)
    clear hK K
    try simp only [Act.put, putA, putB, putC]
    refine wpAnyH_ready (rs := [7]) (by kernel_rfl) (by simp) ?_
    refine AllReadyH.cons (o := ⟨some 130, .call { callee := .value (.func 9), args := #[.tmp 124, .tmp 126, .tmp 127, .tmp 129], argTypes := #[34, 40, 9, 40] }, 35, _, #[⟨1, .data⟩, ⟨3, .data⟩, ⟨4, .data⟩, ⟨6, .data⟩, ⟨6, .chain⟩], none⟩) rfl (fun K hK => ?_) (AllReadyH.nil)
    go_simp
    refine (himG _ _ _ _ _ hu0.any hu1.any hu2.any hu3.any).mono ?_
    rintro e W5 ⟨uG, uH, QG, _, hG0, hG1, qG, hx⟩
    obtain ⟨vga, vgc, vgl, _, hq_, hc_, _, _⟩ := list_shape HE0 hG0
    subst hc_
    clear hq_
    obtain ⟨vha, vhc, vhl, _, hq_, hc_, _, _⟩ := list_shape HE1 hG1
    subst hc_
    clear hq_
    have nqG : ¬ QG R := fun h => by have := (qG _ h).1; omega
    clear hu0 hu1 hu2 hu3
    go_wp2_with fail
    have hc5 := (hc4).trans hx
    have sz5 := hx.le
    replace FZ := fun j => ((bcell hx).2 R j (by omega)).trans (FZ j)
    replace FR := FR.ext hx (by omega)
    clear hx
    refine hK.out _ _ (HK.out _ hc5) (fun hHeld => ?_)
    clear hK K
    try simp only [Act.put, putA, putB, putC]
    refine tkL 8 ⟨some 122, .move (.tmp 130), 35, _, #[⟨7, .data⟩], none⟩ ?_ hHeld ?yyKteabc8 ?rrKteabc8
    case yyKteabc8 => (intro w hSw; (try dsimp only at hSw); go_simp; try with_reducible rfl)
    try simp only [Act.put, putA, putB, putC]
    refine tkL 9 ⟨some 131, .extract (.tmp 122) 0, 34, _, #[⟨8, .data⟩], none⟩ ?_ hHeld ?yyKteabc9 ?rrKteabc9
    case yyKteabc9 => (intro w hSw; (try dsimp only at hSw); go_simp; try with_reducible rfl)
    try simp only [Act.put, putA, putB, putC]
    refine tkL 10 ⟨some 132, .extract (.tmp 122) 1, 4, _, #[⟨8, .data⟩, ⟨12, .gcOnly .lateStores⟩], none⟩ ?_ hHeld ?yyKteabc10 ?rrKteabc10
    case yyKteabc10 => (intro w hSw; (try dsimp only at hSw); go_simp; try with_reducible rfl)
    try simp only [Act.put, putA, putB, putC]
    refine wpAnyH_ready (rs := [12]) (by kernel_rfl) (by simp) ?_
    refine AllReadyH.cons (o := ⟨none, .store 34 (.tmp 20) (.tmp 131), 0, _, #[⟨11, .data⟩, ⟨9, .data⟩, ⟨7, .chain⟩, ⟨0, .phase⟩, ⟨1, .phase⟩, ⟨2, .phase⟩, ⟨3, .phase⟩, ⟨4, .phase⟩, ⟨5, .phase⟩, ⟨6, .phase⟩, ⟨7, .phase⟩, ⟨8, .phase⟩, ⟨9, .phase⟩, ⟨10, .textOnly .lateStores⟩, ⟨11, .phase⟩], none⟩) rfl (fun K hK => ?_) (AllReadyH.nil)
    have r0 := FR 0 _ rfl
    have r1 := FR 1 _ rfl
    have r2 := FR 2 _ rfl
    have r3 := FR 3 _ rfl
    have z0 := FZ 0
    have z1 := FZ 1
    have z2 := FZ 2
    have z3 := FZ 3
    go_simp
    clear r0 r1 r2 r3 z0 z1 z2 z3
    have hB : BoxG w22.heap.size e0 e1 y2 y3 _ R (.slice vga vgl vgc) (.slice vha vhl vhc) QG := boxG_store (W := W5) FR (by omega) (by omega) hG0 hG1 (fun x hx => ⟨by have := (qG x hx).1; omega, by have := (qG x hx).2; omega⟩) nqG
    have hEz : Ext w22 ((((W5.setCell ⟨R, 0, none⟩ (.slice vga vgl vgc)).setCell ⟨R, 1, none⟩ (.slice vha vhl vhc)).setCell ⟨R, 2, none⟩ (.int .i64 y2)).setCell ⟨R, 3, none⟩ (.int .i64 y3)) := (((hc5.setCell (show _ ≤ R by omega) _).setCell (show _ ≤ R by omega) _).setCell (show _ ≤ R by omega) _).setCell (show _ ≤ R by omega) _
    refine hK.out _ _ (HK.out _ hEz) (fun hHeld => ?_)
    clear hK K
    try simp only [Act.put, putA, putB, putC]
    refine tkL 13 ⟨some 21, .assign (.tmp 132), 4, _, #[⟨10, .data⟩, ⟨12, .chain⟩, ⟨0, .phase⟩, ⟨1, .phase⟩, ⟨2, .phase⟩, ⟨3, .phase⟩, ⟨4, .phase⟩, ⟨5, .phase⟩, ⟨6, .phase⟩, ⟨7, .phase⟩, ⟨8, .phase⟩, ⟨9, .phase⟩, ⟨10, .phase⟩, ⟨11, .phase⟩, ⟨12, .phase⟩], none⟩ ?_ hHeld ?yyKeabcd13 ?rrKeabcd13
    case yyKeabcd13 => (intro w hSw; (try dsimp only at hSw); go_simp; try with_reducible rfl)
    try simp only [Act.put, putA, putB, putC]
    refine wpAnyH_done (by kernel_rfl) ?_ _
    go_wp2
    go_meet
    case rel => exact ⟨R, _, _, QG, rfl, rfl, hB, hEz⟩
  case rest =>
   obtain ⟨bH, uh0, uh1, QH, rfl, rfl, hH, hE23⟩ := hcut
   obtain ⟨w23, rfl⟩ : ∃ w23, w23 = wc := ⟨_, rfl⟩
   clear HK
   have hz23 := hE23.le
   replace hB := hB.ext hE23
   replace hF := hF.ext hE23 (by omega)
   obtain ⟨ha0, hc0, hl0, _, hq_, hc_, _, _⟩ := list_shape HE0 hH.d0
   subst hc_
   clear hq_
   obtain ⟨ha1, hc1, hl1, _, hq_, hc_, _, _⟩ := list_shape HE1 hH.d1
   subst hc_
   clear hq_
   have p0 := hH.box 0 _ rfl
   have p1 := hH.box 1 _ rfl
   have p2 := hH.box 2 _ rfl
   have p3 := hH.box 3 _ rfl
   have q0 := hB.box 0 _ rfl
   have q1 := hB.box 1 _ rfl
   have q2 := hB.box 2 _ rfl
   have q3 := hB.box 3 _ rfl
   go_wp2_with fail
   refine (eqGraph_any anyB anyB e0 _ _ e1 _ _ y2 y3 w23 HE0 hH.d0.any hB.d0.any HE1 hH.d1.any hB.d1.any).mono ?_
   rintro e w24 ⟨rfl, hE24⟩
   clear p0 p1 p2 p3 q0 q1 q2 q3
   replace hF := hF.ext hE24 (by omega)
   have p0 := hF 0 _ rfl
   have p1 := hF 1 _ rfl
   have p2 := hF 2 _ rfl
   have p3 := hF 3 _ rfl
   go_wp2_with fail
   refine (hh w24 ((hE22.trans hE23).trans hE24)).mono ?_
   rintro e w25 ⟨rfl, hE25⟩
   clear p0 p1 p2 p3
   go_wp2
   go_ret
   exact ⟨rfl, ((hEw22.trans hE23).trans hE24).trans hE25⟩
end Go.Proofs.YteijgejpenlgjaaGreat
