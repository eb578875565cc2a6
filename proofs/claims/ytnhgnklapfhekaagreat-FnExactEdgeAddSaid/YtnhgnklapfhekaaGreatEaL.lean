/- How many marks data take; numbers as data. -/
import Derived.Test.YtnhgnklapfhekaaGreatWithSpec
import Derived.Test.YtnhgnklapfhekaaGreatDMs
import Derived.Test.YtnhgnklapfhekaaGreatEaS
import Derived.Test.YtnhgnklapfhekaaGreatEaImpl
import Derived.Test.YtnhgnklapfhekaaGreatDMk
import Derived.Test.YtnhgnklapfhekaaGreatDHl
import Derived.Test.YtnhgnklapfhekaaGreatDSz
import Derived.Test.YtnhgnklapfhekaaGreatDTo
import Derived.Test.YtnhgnklapfhekaaGreatDEq
import Derived.Deep.RegionHeld3
namespace Go.Proofs.YtnhgnklapfhekaaGreat
open Go.RowKit Go.Deep

theorem sumN_le {g h : Nat → Nat} {m : Nat} (e : ∀ i, i < m → g i ≤ h i) : sumN g m ≤ sumN h m := by
  induction m with
  | zero => exact Nat.le_refl _
  | succ m ih => simp only [sumN]; have := ih (fun i hi => e i (by omega)); have := e m (by omega); omega
theorem sumN_lin (a b : Nat) (g : Nat → Nat) (m : Nat) : sumN (fun i => a + b * g i) m = a * m + b * sumN g m := by
  induction m with
  | zero => simp [sumN]
  | succ m ih => simp only [sumN, ih, Nat.mul_add, Nat.mul_one]; omega
/-- A list takes at most 24 marks for each element of a list within. -/
theorem cnt_le : ∀ (d : D), SmallD d → cntD d ≤ 1 + 24 * lenD d ∧ (∀ n len f, d = .list n len f → cntD d ≤ 24 * lenD d) := by
  intro d
  induction d with
  | int _ => intro _; exact ⟨by simp [cntD], fun _ _ _ h => by cases h⟩
  | bool _ => intro _; exact ⟨by simp [cntD], fun _ _ _ h => by cases h⟩
  | str _ => intro _; exact ⟨by simp [cntD], fun _ _ _ h => by cases h⟩
  | list n len f ih =>
    rintro ⟨hn, _, hs⟩
    have key : cntD (.list n len f) ≤ 24 * lenD (.list n len f) := by
      show sumN (fun i => sumN (fun j => cntD (f i j)) n) len ≤ 24 * (len + sumN (fun i => sumN (fun j => lenD (f i j)) n) len)
      have h1 : ∀ i, i < len → sumN (fun j => cntD (f i j)) n ≤ 24 + 24 * sumN (fun j => lenD (f i j)) n := by
        intro i hi
        have h2 : sumN (fun j => cntD (f i j)) n ≤ sumN (fun j => 1 + 24 * lenD (f i j)) n := sumN_le (fun j hj => (ih i j (hs i hi j hj)).1)
        rw [sumN_lin] at h2
        omega
      have h3 := sumN_le h1
      rw [sumN_lin] at h3
      omega
    exact ⟨by omega, fun _ _ _ _ => key⟩
theorem cnt_list {d : D} {r : Nat} (H : Has d (.list r)) (hs : SmallD d) : cntD d ≤ 24 * lenD d := by
  obtain ⟨len, f, rfl, _⟩ := H.list
  exact (cnt_le _ hs).2 _ _ _ rfl
theorem small_lenOk : ∀ (d : D), SmallD d → LenOk d := by
  intro d
  induction d with
  | int _ => intro _; trivial
  | bool _ => intro _; trivial
  | str _ => intro _; trivial
  | list n len f ih =>
    rintro ⟨_, hl, hs⟩
    exact ⟨by unfold maxLen; omega, fun i hi j hj => ih i j (hs i hi j hj)⟩
theorem ints_has (l : List Int) : Has (intsD l) (.list 1) := by
  refine ⟨1, rfl, rfl, fun i hi j hj => ?_⟩
  have : j = 0 := by have : j < 1 := hj; omega
  subst this
  exact rfl
theorem ints_cnt (l : List Int) : cntD (intsD l) = l.length := by
  show sumN (fun i => sumN (fun _ => 1) 1) l.length = l.length
  have : ∀ m, sumN (fun _ => sumN (fun _ => 1) 1) m = m := by
    intro m
    induction m with
    | zero => rfl
    | succ m ih => rw [sumN, ih]; rfl
  exact this _
theorem ints_lenOk (l : List Int) (h : l.length ≤ 1000) : LenOk (intsD l) := ⟨by unfold maxLen; omega, fun i hi j hj => trivial⟩
end Go.Proofs.YtnhgnklapfhekaaGreat

/- How many marks the answer of EdgeAdd takes. -/
namespace Go.Proofs.YtnhgnklapfhekaaGreat
open Go.RowKit Go.Deep

theorem eaD1_cnt {g a : Bool} {d1 : D} {x3 : Int} {kind : ByteArray} {fr dst : Int} {dP : D} (H1 : Has d1 (.list 5)) : cntD (eaD1 g a d1 x3 kind fr dst dP) ≤ cntD d1 + 4 + cntD dP := by
  unfold eaD1
  cases g
  · simp [noneL, cntD, sumN]
  · cases a
    · simp only [if_true, Bool.false_eq_true, if_false]; omega
    · obtain ⟨len, f, rfl, _⟩ := H1.list
      simp only [if_true]
      show sumN (fun i => sumN (fun j => cntD (addFE f len x3 kind fr dst dP i j)) 5) (len + 1) ≤ sumN (fun i => sumN (fun j => cntD (f i j)) 5) len + 4 + cntD dP
      rw [show sumN (fun i => sumN (fun j => cntD (addFE f len x3 kind fr dst dP i j)) 5) (len + 1) = sumN (fun i => sumN (fun j => cntD (addFE f len x3 kind fr dst dP i j)) 5) len + sumN (fun j => cntD (addFE f len x3 kind fr dst dP len j)) 5 from rfl]
      rw [sumN_congr (fun i hi => by rw [addFE_lt f len x3 kind fr dst dP hi])]
      simp only [sumN, addFE_at0, addFE_at1, addFE_at2, addFE_at3, addFE_at4, cntD]
      omega
theorem eaD0_cnt {g : Bool} {d0 : D} : cntD (eaD0 g d0) ≤ cntD d0 := by
  unfold eaD0
  cases g
  · simp [noneL, cntD, sumN]
  · exact Nat.le_refl _
theorem eaD1_lenOk {g a : Bool} {d1 : D} {x3 : Int} {kind : ByteArray} {fr dst : Int} {dP : D} (H1 : Has d1 (.list 5)) (s1 : SmallD d1) (sP : SmallD dP) : LenOk (eaD1 g a d1 x3 kind fr dst dP) := by
  unfold eaD1
  cases g
  · exact ⟨Nat.zero_le _, fun i hi => by omega⟩
  · cases a
    · exact small_lenOk _ s1
    · obtain ⟨len, f, rfl, _⟩ := H1.list
      have h := small_lenOk _ s1
      have hl := s1.2.1
      refine ⟨by unfold maxLen; show len + 1 ≤ _; omega, fun i hi j hj => ?_⟩
      change i < len + 1 at hi
      by_cases e : i = len
      · subst e
        have hj' : j = 0 ∨ j = 1 ∨ j = 2 ∨ j = 3 ∨ j = 4 := by omega
        rcases hj' with rfl | rfl | rfl | rfl | rfl
        · show LenOk (addFE f i x3 kind fr dst dP i 0); rw [addFE_at0]; trivial
        · show LenOk (addFE f i x3 kind fr dst dP i 1); rw [addFE_at1]; trivial
        · show LenOk (addFE f i x3 kind fr dst dP i 2); rw [addFE_at2]; trivial
        · show LenOk (addFE f i x3 kind fr dst dP i 3); rw [addFE_at3]; trivial
        · show LenOk (addFE f i x3 kind fr dst dP i 4); rw [addFE_at4]; exact small_lenOk _ sP
      · show LenOk (addFE f len x3 kind fr dst dP i j)
        rw [addFE_lt f len x3 kind fr dst dP (show i < len by omega)]
        exact h.2 i (by omega) j hj
theorem eaD0_lenOk {g : Bool} {d0 : D} (s0 : SmallD d0) : LenOk (eaD0 g d0) := by
  unfold eaD0
  cases g
  · exact ⟨Nat.zero_le _, fun i hi => by omega⟩
  · exact small_lenOk _ s0
end Go.Proofs.YtnhgnklapfhekaaGreat

/- At every graph, kind, numbers and props the law FnExactEdgeAdd answers true. -/
namespace Go.Proofs.YtnhgnklapfhekaaGreat
open Go.RowKit Go.Deep

/-- A box of four cells. -/
def FG (W : World) (b : Nat) (cs : List Value) : Prop := ∀ j c, cs[j]? = some c → W.cell? ⟨b, j, none⟩ = some c
theorem FG.of {W W' : World} {b : Nat} {cs : List Value} (h : FG W b cs) (e : W'.heap[b]? = W.heap[b]?) : FG W' b cs := fun j c hc => by rw [World.cell?_of_block e]; exact h j c hc
theorem FG.ext {W W' : World} {b : Nat} {cs : List Value} (h : FG W b cs) (e : Ext W W') (hb : b < W.heap.size) : FG W' b cs := h.of (Below.block e _ hb)
theorem FG.only {W W' : World} {b : Nat} {cs : List Value} {S : Nat → Prop} (h : FG W b cs) (e : OnlyS S W W') (hb : b < W.heap.size) (hs : ¬ S b) : FG W' b cs := h.of (e.block _ hb hs)

set_option maxRecDepth 100000 in
set_option maxHeartbeats 16000000 in
theorem eaLaw (d0 d1 dP : D) (kind : ByteArray) (fr dst : Int) (c0 c1 cP : Value) (x2 x3 : Int) (w : World) (zk : kind.size ≤ maxLen) (zf : (Lit.int .i64 fr).wf = true) (zd : (Lit.int .i64 dst).wf = true) (H0 : Has d0 (.list 4)) (h0 : DIn anyB w d0 c0) (H1 : Has d1 (.list 5)) (h1 : DIn anyB w d1 c1) (HP : Has dP (.list 3)) (hP : DIn anyB w dP cP) :
    Calls Tryz.prog 3 #[.agg #[c0, c1, .int .i64 x2, .int .i64 x3], .string kind, .int .i64 fr, .int .i64 dst, cP] w fun e w' => e = .returned (.bool true) ∧ Ext w w' := by
  obtain ⟨a0, cap0, l0, _, hq_, hc_, _, _⟩ := list_shape H0 h0
  subst hc_
  clear hq_
  obtain ⟨a1, cap1, l1, _, hq_, hc_, _, _⟩ := list_shape H1 h1
  subst hc_
  clear hq_
  obtain ⟨aP, capP, lP, _, hq_, hc_, _, _⟩ := list_shape HP hP
  subst hc_
  clear hq_
  obtain ⟨wA, hwA⟩ : ∃ wA, wA = w.alloc (.cells #[.slice a0 l0 cap0, .slice a1 l1 cap1, .int .i64 x2, .int .i64 x3] 25) := ⟨_, rfl⟩
  obtain ⟨bA, hbA⟩ : ∃ m, m = w.heap.size := ⟨_, rfl⟩
  have hEA : Ext w wA := by rw [hwA]; exact (Ext.refl _).alloc _
  have hA : FG wA bA [.slice a0 l0 cap0, .slice a1 l1 cap1, .int .i64 x2, .int .i64 x3] := by rw [hwA, hbA]; exact fun j c hc => box_cell (Ext.refl _) j c (by simpa using hc)
  have hzA : bA < wA.heap.size := by rw [hwA, hbA]; simp
  have hbAa := Nat.le_of_eq hbA
  have hbAb := Nat.le_of_eq hbA.symm
  have zk' := zk
  unfold maxLen at zk'
  by_cases hk0 : 1048576 < kind.size
  · have hk1 : (1048576 : Int) < (kind.size : Int) := by omega
    go_enter Tryz.func3, Tryz.ntmps3
    go_wp2
    rw [← hwA]
    go_ret
    exact ⟨rfl, hEA⟩
  have hk1 : ¬ (1048576 : Int) < (kind.size : Int) := by omega
  go_enter Tryz.func3, Tryz.ntmps3
  go_wp2_with fail
  rw [← hwA, ← hbA]
  clear hwA hbA
  refine (szGraph_any anyB d0 _ d1 _ x2 x3 wA _ H0 (h0.ext hEA) H1 (h1.ext hEA) (by omega) (by omega)).mono ?_
  rintro e w1 ⟨r, rfl, hr1, hr2, hr, hE1⟩
  by_cases hr0 : r < 0
  · go_wp2
    go_ret
    exact ⟨rfl, hEA.trans hE1⟩
  obtain ⟨s0, s1, hlen⟩ := hr (by omega)
  clear hr
  have hE1' := hEA.trans hE1
  go_wp2_with fail
  refine (szPropS_any dP HP anyB _ w1 _ (hP.ext hE1') (by omega) (by omega)).mono ?_
  rintro e w3 ⟨r'', rfl, hr1'', hr2'', hr'', hE3⟩
  by_cases hr0'' : r'' < 0
  · go_wp2
    go_ret
    exact ⟨rfl, hE1'.trans hE3⟩
  obtain ⟨sP, hlenP⟩ := hr'' (by omega)
  clear hr''
  have hE3' := hE1'.trans hE3
  have hcnt0 := cnt_list H0 s0
  have hcnt1 := cnt_list H1 s1
  have hcntP := cnt_list HP sP
  have hcnt : Hid (1 + cntD d0 + cntD d1 + cntD dP ≤ 500000000) := by show _ ≤ _; omega
  clear hcnt0 hcnt1 hcntP hlen hlenP hr1 hr2 hr1'' hr2'' hr0
  -- what the functions answer
  have hto := fun (W : World) (hW : Ext w W) => toGraph_any anyB d0 _ d1 _ x2 x3 W H0 (h0.ext hW) s0 H1 (h1.ext hW) s1
  have htP := fun (W : World) (hW : Ext w W) => toPropS_any dP HP anyB _ W (hP.ext hW) sP
  have hsp := fun (W : World) (c0 c1 cP : Value) (k0 : DIn anyB W d0 c0) (k1 : DIn anyB W d1 c1) (kP : DIn anyB W dP cP) => specEdgeAdd_any anyB d0 d1 dP kind fr dst c0 c1 cP x2 x3 W H0 k0 s0 H1 k1 s1 zk zf zd HP kP sP _ _ rfl rfl
  have him := fun (W : World) (c0 c1 cP : Value) (k0 : DIn anyB W d0 c0) (k1 : DIn anyB W d1 c1) (kP : DIn anyB W dP cP) => implEdgeAdd_any anyB d0 d1 dP kind fr dst c0 c1 cP x2 x3 W H0 k0 H1 k1 zk zf zd HP kP _ _ rfl rfl
  have HE0 : Has (eaD0 (graphB d0 d1 x2 x3) d0) (.list 4) := eaD0_has H0
  have HE1 : Has (eaD1 (graphB d0 d1 x2 x3) (addEB kind dP d0 fr dst d1.len! x3) d1 x3 kind fr dst dP) (.list 5) := eaD1_has H1 HP
  have LE0 : LenOk (eaD0 (graphB d0 d1 x2 x3) d0) := eaD0_lenOk s0
  have LE1 : LenOk (eaD1 (graphB d0 d1 x2 x3) (addEB kind dP d0 fr dst d1.len! x3) d1 x3 kind fr dst dP) := eaD1_lenOk H1 s1 sP
  have hce : Hid (1 + cntD (eaD0 (graphB d0 d1 x2 x3) d0) + cntD (eaD1 (graphB d0 d1 x2 x3) (addEB kind dP d0 fr dst d1.len! x3) d1 x3 kind fr dst dP) ≤ 1000000000) := by
    have h1 := hcnt.out
    have h2 : cntD (eaD1 (graphB d0 d1 x2 x3) (addEB kind dP d0 fr dst d1.len! x3) d1 x3 kind fr dst dP) ≤ _ := eaD1_cnt H1
    have h3 : cntD (eaD0 (graphB d0 d1 x2 x3) d0) ≤ _ := eaD0_cnt
    show _ ≤ _
    omega
  generalize eaD1 (graphB d0 d1 x2 x3) (addEB kind dP d0 fr dst d1.len! x3) d1 x3 kind fr dst dP = e1 at *
  generalize eaX3 (graphB d0 d1 x2 x3) (addEB kind dP d0 fr dst d1.len! x3) x3 = y3 at *
  generalize eaId (graphB d0 d1 x2 x3) (addEB kind dP d0 fr dst d1.len! x3) x3 = yi at *
  generalize (graphB d0 d1 x2 x3 && addEB kind dP d0 fr dst d1.len! x3) = yb at *
  generalize eaD0 (graphB d0 d1 x2 x3) d0 = e0 at *
  generalize eaX2 (graphB d0 d1 x2 x3) x2 = y2 at *
  have hA3 : FG w3 bA [.slice a0 l0 cap0, .slice a1 l1 cap1, .int .i64 x2, .int .i64 x3] := hA.ext (hE1.trans hE3) hzA
  have hz3 := hE3'.le
  have hzA3 : bA < w3.heap.size := Nat.lt_of_lt_of_le hzA (hE1.trans hE3).le
  clear hA hzA
  have p0 : w3.cell? ⟨bA, 0, none⟩ = some (.slice a0 l0 cap0) := hA3 0 _ rfl
  have p1 : w3.cell? ⟨bA, 1, none⟩ = some (.slice a1 l1 cap1) := hA3 1 _ rfl
  have p2 : w3.cell? ⟨bA, 2, none⟩ = some (.int .i64 x2) := hA3 2 _ rfl
  have p3 : w3.cell? ⟨bA, 3, none⟩ = some (.int .i64 x3) := hA3 3 _ rfl
  go_wp2_with fail
  refine (hto w3 hE3').mono ?_
  rintro e w4 ⟨u0, u1, Q4, Q4', rfl, ⟨hu0, _, _⟩, ⟨hu1, _, _⟩, _, hE4⟩
  clear p0 p1 p2 p3
  obtain ⟨ua0, uc0, ul0, _, hq_, hc_, _, _⟩ := list_shape H0 hu0
  subst hc_
  clear hq_
  obtain ⟨ua1, uc1, ul1, _, hq_, hc_, _, _⟩ := list_shape H1 hu1
  subst hc_
  clear hq_
  have hE4' := hE3'.trans hE4
  go_wp2_with fail
  refine (htP w4 hE4').mono ?_
  rintro e w6 ⟨uP, rfl, huP, _, hE6⟩
  have hsp6 := hsp w6 _ _ _ (hu0.any.ext hE6) (hu1.any.ext hE6) huP.any
  obtain ⟨uaP, ucP, ulP, _, hq_, hc_, _, _⟩ := list_shape HP huP
  subst hc_
  clear hq_
  have hE6' := hE4'.trans hE6
  go_wp2_with fail
  refine hsp6.mono ?_
  rintro e w7 ⟨v0, v1, rfl, hW0, hW1, hE7⟩
  clear hsp6 hsp hu0 hu1 huP
  obtain ⟨wa0, wc0, wl0, _, hq_, hc_, _, _⟩ := list_shape HE0 hW0
  subst hc_
  clear hq_
  obtain ⟨wa1, wc1, wl1, _, hq_, hc_, _, _⟩ := list_shape HE1 hW1
  subst hc_
  clear hq_
  have hE7' := hE6'.trans hE7
  have hz37 := ((hE4.trans hE6).trans hE7).le
  have hE8 : Ext w7 (w7.alloc (.cells #[.slice wa0 wl0 wc0, .slice wa1 wl1 wc1, .int .i64 y2, .int .i64 y3] 32)) := (Ext.refl _).alloc _
  obtain ⟨bB, hbB⟩ : ∃ m, m = w7.heap.size := ⟨_, rfl⟩
  have hB : FG (w7.alloc (.cells #[.slice wa0 wl0 wc0, .slice wa1 wl1 wc1, .int .i64 y2, .int .i64 y3] 32)) bB [.slice wa0 wl0 wc0, .slice wa1 wl1 wc1, .int .i64 y2, .int .i64 y3] := by rw [hbB]; exact fun j c hc => box_cell (Ext.refl _) j c (by simpa using hc)
  have z8 : (w7.alloc (.cells #[.slice wa0 wl0 wc0, .slice wa1 wl1 wc1, .int .i64 y2, .int .i64 y3] 32)).heap.size = w7.heap.size + 1 := by simp
  have hbBa := Nat.le_of_eq hbB
  have hbBb := Nat.le_of_eq hbB.symm
  have hE8' := hE7'.trans hE8
  have hA8 := hA3.ext (((hE4.trans hE6).trans hE7).trans hE8) hzA3
  have p0 : (w7.alloc (.cells #[.slice wa0 wl0 wc0, .slice wa1 wl1 wc1, .int .i64 y2, .int .i64 y3] 32)).cell? ⟨bA, 0, none⟩ = some (.slice a0 l0 cap0) := hA8 0 _ rfl
  have p1 : (w7.alloc (.cells #[.slice wa0 wl0 wc0, .slice wa1 wl1 wc1, .int .i64 y2, .int .i64 y3] 32)).cell? ⟨bA, 1, none⟩ = some (.slice a1 l1 cap1) := hA8 1 _ rfl
  have p2 : (w7.alloc (.cells #[.slice wa0 wl0 wc0, .slice wa1 wl1 wc1, .int .i64 y2, .int .i64 y3] 32)).cell? ⟨bA, 2, none⟩ = some (.int .i64 x2) := hA8 2 _ rfl
  have p3 : (w7.alloc (.cells #[.slice wa0 wl0 wc0, .slice wa1 wl1 wc1, .int .i64 y2, .int .i64 y3] 32)).cell? ⟨bA, 3, none⟩ = some (.int .i64 x3) := hA8 3 _ rfl
  go_wp2_with fail
  clear p0 p1 p2 p3
  generalize hw8 : World.alloc w7 _ = w8 at *
  rw [← hbB]
  clear hw8 hbB
  refine (hto w8 hE8').mono ?_
  rintro e w9 ⟨u0, u1, Q0, Q1, rfl, ⟨hX0, oX0, qX0⟩, ⟨hX1, oX1, qX1⟩, hdq, hE9⟩
  obtain ⟨xa0, xc0, xl0, _, hq_, hc_, _, _⟩ := list_shape H0 hX0
  subst hc_
  clear hq_
  obtain ⟨xa1, xc1, xl1, _, hq_, hc_, _, _⟩ := list_shape H1 hX1
  subst hc_
  clear hq_
  have hE9' := hE8'.trans hE9
  have hz9 := hE9.le
  have hE10 : Ext w9 (w9.alloc (.cells #[.slice xa0 xl0 xc0, .slice xa1 xl1 xc1, .int .i64 x2, .int .i64 x3] 32)) := (Ext.refl _).alloc _
  obtain ⟨bC, hbC⟩ : ∃ m, m = w9.heap.size := ⟨_, rfl⟩
  have hC : FG (w9.alloc (.cells #[.slice xa0 xl0 xc0, .slice xa1 xl1 xc1, .int .i64 x2, .int .i64 x3] 32)) bC [.slice xa0 xl0 xc0, .slice xa1 xl1 xc1, .int .i64 x2, .int .i64 x3] := by rw [hbC]; exact fun j c hc => box_cell (Ext.refl _) j c (by simpa using hc)
  have z10 : (w9.alloc (.cells #[.slice xa0 xl0 xc0, .slice xa1 xl1 xc1, .int .i64 x2, .int .i64 x3] 32)).heap.size = w9.heap.size + 1 := by simp
  have hbCa := Nat.le_of_eq hbC
  have hbCb := Nat.le_of_eq hbC.symm
  have hE10' := hE9'.trans hE10
  go_wp2_with fail
  generalize hw10 : World.alloc w9 _ = w10 at *
  rw [← hbC]
  clear hw10 hbC
  refine (htP w10 hE10').mono ?_
  rintro e w12 ⟨xP, rfl, hXP, oXP, hE12⟩
  have hE912 := hE10.trans hE12
  have him12 := him w12 _ _ _ (hX0.any.ext hE912) (hX1.any.ext hE912) hXP.any
  obtain ⟨xaP, xcP, xlP, _, hq_, hc_, _, _⟩ := list_shape HP hXP
  subst hc_
  clear hq_
  have hE12' := hE10'.trans hE12
  have hz12 := hE12.le
  have hC12 := hC.ext hE12 (by omega)
  have q0 : w12.cell? ⟨bC, 0, none⟩ = some (.slice xa0 xl0 xc0) := hC12 0 _ rfl
  have q1 : w12.cell? ⟨bC, 1, none⟩ = some (.slice xa1 xl1 xc1) := hC12 1 _ rfl
  have q2 : w12.cell? ⟨bC, 2, none⟩ = some (.int .i64 x2) := hC12 2 _ rfl
  have q3 : w12.cell? ⟨bC, 3, none⟩ = some (.int .i64 x3) := hC12 3 _ rfl
  go_wp2_with fail
  refine him12.mono ?_
  rintro e w13 ⟨g0, g1, rfl, ⟨G0, G1, ⟨hG0, oG0, qG0⟩, ⟨hG1, oG1, qG1⟩, hdg⟩, hE13⟩
  clear him12
  clear q0 q1 q2 q3
  obtain ⟨ga0, gc0, gl0, _, hq_, hc_, _, _⟩ := list_shape HE0 hG0
  subst hc_
  clear hq_
  obtain ⟨ga1, gc1, gl1, _, hq_, hc_, _, _⟩ := list_shape HE1 hG1
  subst hc_
  clear hq_
  have hE13' := hE12'.trans hE13
  have hz13 := hE13.le
  have hE14 : Ext w13 (w13.alloc (.cells #[.slice ga0 gl0 gc0, .slice ga1 gl1 gc1, .int .i64 y2, .int .i64 y3] 32)) := (Ext.refl _).alloc _
  obtain ⟨bD, hbD⟩ : ∃ m, m = w13.heap.size := ⟨_, rfl⟩
  have hD : FG (w13.alloc (.cells #[.slice ga0 gl0 gc0, .slice ga1 gl1 gc1, .int .i64 y2, .int .i64 y3] 32)) bD [.slice ga0 gl0 gc0, .slice ga1 gl1 gc1, .int .i64 y2, .int .i64 y3] := by rw [hbD]; exact fun j c hc => box_cell (Ext.refl _) j c (by simpa using hc)
  have z14 : (w13.alloc (.cells #[.slice ga0 gl0 gc0, .slice ga1 gl1 gc1, .int .i64 y2, .int .i64 y3] 32)).heap.size = w13.heap.size + 1 := by simp
  have hbDa := Nat.le_of_eq hbD
  have hbDb := Nat.le_of_eq hbD.symm
  have hE14' := hE13'.trans hE14
  have hB14 := hB.ext ((((hE9.trans hE10).trans hE12).trans hE13).trans hE14) (by omega)
  have q0 : (w13.alloc (.cells #[.slice ga0 gl0 gc0, .slice ga1 gl1 gc1, .int .i64 y2, .int .i64 y3] 32)).cell? ⟨bB, 0, none⟩ = some (.slice wa0 wl0 wc0) := hB14 0 _ rfl
  have q1 : (w13.alloc (.cells #[.slice ga0 gl0 gc0, .slice ga1 gl1 gc1, .int .i64 y2, .int .i64 y3] 32)).cell? ⟨bB, 1, none⟩ = some (.slice wa1 wl1 wc1) := hB14 1 _ rfl
  have q2 : (w13.alloc (.cells #[.slice ga0 gl0 gc0, .slice ga1 gl1 gc1, .int .i64 y2, .int .i64 y3] 32)).cell? ⟨bB, 2, none⟩ = some (.int .i64 y2) := hB14 2 _ rfl
  have q3 : (w13.alloc (.cells #[.slice ga0 gl0 gc0, .slice ga1 gl1 gc1, .int .i64 y2, .int .i64 y3] 32)).cell? ⟨bB, 3, none⟩ = some (.int .i64 y3) := hB14 3 _ rfl
  go_wp2_with fail
  clear q0 q1 q2 q3
  generalize hw14 : World.alloc w13 _ = w14 at *
  rw [← hbD]
  clear hw14 hbD
  have hE714 := ((((hE8.trans hE9).trans hE10).trans hE12).trans hE13).trans hE14
  have hE914 := ((hE912).trans hE13).trans hE14
  have hE1214 := hE13.trans hE14
  have hA14 := hA8.ext (((((hE9.trans hE10).trans hE12).trans hE13)).trans hE14) (by omega)
  have hC14 := hC12.ext hE1214 (by omega)
  replace hW0 := hW0.ext hE714
  replace hW1 := hW1.ext hE714
  replace hX0 := hX0.ext hE914
  replace oX0 := oX0.ext hE914
  replace hX1 := hX1.ext hE914
  replace oX1 := oX1.ext hE914
  replace hXP := hXP.ext hE1214
  replace oXP := oXP.ext hE1214
  replace hG0 := hG0.ext hE14
  replace oG0 := oG0.ext hE14
  replace hG1 := hG1.ext hE14
  replace oG1 := oG1.ext hE14
  clear hA3 hA8 hB hC hC12 hE4 hE6 hE7 hE8 hE9 hE10 hE12 hE13 hE14 hE912 hE714 hE914 hE1214 hE1 hE3
  refine (eqGraph_any anyB anyB e0 _ _ e1 _ _ y2 y3 w14 HE0 hG0.any hW0.any HE1 hG1.any hW1.any).mono ?_
  rintro e w15 ⟨rfl, hE15⟩
  have hz15 := hE15.le
  have hE15' := hE14'.trans hE15
  have HK : Hid (∀ W, Ext w15 W → (W.cell? ⟨bA, 0, none⟩ = some (.slice a0 l0 cap0) ∧ W.cell? ⟨bA, 1, none⟩ = some (.slice a1 l1 cap1) ∧ W.cell? ⟨bA, 2, none⟩ = some (.int .i64 x2) ∧ W.cell? ⟨bA, 3, none⟩ = some (.int .i64 x3)) ∧ (W.cell? ⟨bC, 0, none⟩ = some (.slice xa0 xl0 xc0) ∧ W.cell? ⟨bC, 1, none⟩ = some (.slice xa1 xl1 xc1) ∧ W.cell? ⟨bC, 2, none⟩ = some (.int .i64 x2) ∧ W.cell? ⟨bC, 3, none⟩ = some (.int .i64 x3))) := fun W hW => by
    have hA := hA14.ext (hE15.trans hW) (by omega)
    have hC := hC14.ext (hE15.trans hW) (by omega)
    exact ⟨⟨hA 0 _ rfl, hA 1 _ rfl, hA 2 _ rfl, hA 3 _ rfl⟩, hC 0 _ rfl, hC 1 _ rfl, hC 2 _ rfl, hC 3 _ rfl⟩
  have hv0 := fun (W : World) (hW : Ext w15 W) => hX0.any.ext (hE15.trans hW)
  have hv1 := fun (W : World) (hW : Ext w15 W) => hX1.any.ext (hE15.trans hW)
  go_wp2_with fail
  have hcur : Ext w15 w15.drew := (Ext.refl _).drew
  refine wp_region_held_drew (S := (fun W => (W.cell? ⟨bA, 0, none⟩ = some (.slice a0 l0 cap0) ∧ W.cell? ⟨bA, 1, none⟩ = some (.slice a1 l1 cap1) ∧ W.cell? ⟨bA, 2, none⟩ = some (.int .i64 x2) ∧ W.cell? ⟨bA, 3, none⟩ = some (.int .i64 x3)) ∧ (W.cell? ⟨bC, 0, none⟩ = some (.slice xa0 xl0 xc0) ∧ W.cell? ⟨bC, 1, none⟩ = some (.slice xa1 xl1 xc1) ∧ W.cell? ⟨bC, 2, none⟩ = some (.int .i64 x2) ∧ W.cell? ⟨bC, 3, none⟩ = some (.int .i64 x3)))) (by kernel_rfl) (HK.out _ hcur) (fun hHeld => ?_)
  refine wpAnyH_take (i := 0) (oi := ⟨some 79, .load 32 (.tmp 15), 32, _, #[], none⟩) (v := ?_) rfl (by kernel_rfl) (by kernel_rfl) (by kernel_rfl) (fun _ _ _ h => h) (Or.inl ⟨by rfl, ?yyA0⟩) hHeld ?rrA0
  case yyA0 => (intro w hSw; (try dsimp only at hSw); go_simp; first | done | with_reducible rfl)
  try simp only [Act.put, putA, putB, putC]
  refine wpAnyH_take (i := 1) (oi := ⟨some 80, .load 25 (.tmp 5), 25, _, #[], none⟩) (v := ?_) rfl (by kernel_rfl) (by kernel_rfl) (by kernel_rfl) (fun _ _ _ h => h) (Or.inl ⟨by rfl, ?yyA1⟩) hHeld ?rrA1
  case yyA1 => (intro w hSw; (try dsimp only at hSw); go_simp; first | done | with_reducible rfl)
  try simp only [Act.put, putA, putB, putC]
  refine wpAnyH_ready (rs := [2]) (by kernel_rfl) (by simp) ?_
  refine AllReadyH.cons (o := ⟨some 81, .call { callee := .value (.func 7), args := #[.tmp 80], argTypes := #[25] }, 32, _, #[⟨1, .data⟩], none⟩) rfl (fun K hK => ?_) AllReadyH.nil
  go_simp
  refine (hto _ (hE15'.trans hcur)).mono ?_
  rintro e w16 ⟨u0, u1, Q4, Q7, rfl, ⟨hu0, _, _⟩, ⟨hu1, _, _⟩, _, hE16⟩
  replace hcur := hcur.trans hE16
  obtain ⟨ya0, yc0, yl0, _, hq_, hc_, _, _⟩ := list_shape H0 hu0
  subst hc_
  clear hq_
  obtain ⟨ya1, yc1, yl1, _, hq_, hc_, _, _⟩ := list_shape H1 hu1
  subst hc_
  clear hq_
  go_wp2_with fail
  refine hK.out _ _ (HK.out _ hcur) (fun hHeld => ?_)
  clear hK K
  try simp only [Act.put, putA, putB, putC]
  refine wpAnyH_ready (rs := [3]) (by kernel_rfl) (by simp) ?_
  refine AllReadyH.cons (o := ⟨some 82, .call { callee := .value (.func 10), args := #[.tmp 79, .tmp 81], argTypes := #[32, 32] }, 4, _, #[⟨0, .data⟩, ⟨2, .data⟩, ⟨2, .chain⟩], none⟩) rfl (fun K hK => ?_) AllReadyH.nil
  go_simp
  refine (eqGraph_any anyB anyB d0 _ _ d1 _ _ x2 x3 _ H0 (hv0 _ hcur) hu0.any H1 (hv1 _ hcur) hu1.any).mono ?_
  rintro e w17 ⟨rfl, hE17⟩
  replace hcur := hcur.trans hE17
  go_wp2_with fail
  refine hK.out _ _ (HK.out _ hcur) (fun hHeld => ?_)
  clear hK K
  try simp only [Act.put, putA, putB, putC]
  refine wpAnyH_take (i := 4) (oi := ⟨some 83, .unOp .not 4 (.tmp 82), 4, _, #[⟨3, .data⟩], none⟩) (v := ?_) rfl (by kernel_rfl) (by kernel_rfl) (by kernel_rfl) (fun _ _ _ h => h) (Or.inl ⟨by rfl, ?yyA4⟩) hHeld ?rrA4
  case yyA4 => (intro w hSw; (try dsimp only at hSw); go_simp; first | done | with_reducible rfl)
  try simp only [Act.put, putA, putB, putC]
  refine wpAnyH_done (by kernel_rfl) ?_ _
  clear hv0 hv1 hu0 hu1 HK hHeld hE16 hE17
  have hE17' := hE15'.trans hcur
  go_wp2_with fail
  refine (htP w17 hE17').mono ?_
  rintro e w20 ⟨yP, rfl, hyP, _, hE20⟩
  have hE1520 := (hE15.trans hcur).trans hE20
  have hqP := eqPropS_any dP HP anyB anyB _ _ w20 (hXP.any.ext hE1520) hyP.any
  obtain ⟨yaP, ycP, ylP, _, hq_, hc_, _, _⟩ := list_shape HP hyP
  subst hc_
  clear hq_
  go_wp2_with fail
  refine hqP.mono ?_
  rintro e w21 ⟨rfl, hE21⟩
  clear hqP hyP
  have hE21' := (hE17'.trans hE20).trans hE21
  have hE1421 := hE1520.trans hE21
  have hz21 := hE1421.le
  clear hE15 hcur hE20 hE21 hE1520 hE15' hE17'
  -- the arguments are marked
  replace hA14 := hA14.ext hE1421 (by omega)
  replace hB14 := hB14.ext hE1421 (by omega)
  replace hC14 := hC14.ext hE1421 (by omega)
  replace hD := hD.ext hE1421 (by omega)
  replace hW0 := hW0.ext hE1421
  replace hW1 := hW1.ext hE1421
  replace oX0 := oX0.ext hE1421
  replace oX1 := oX1.ext hE1421
  replace oXP := oXP.ext hE1421
  replace hG0 := hG0.ext hE1421
  replace oG0 := oG0.ext hE1421
  replace hG1 := hG1.ext hE1421
  replace oG1 := oG1.ext hE1421
  clear hX0 hX1 hXP
  have hmark := markGraph_own d0 d1 _ _ x2 x3 Q0 Q1 w21 1 1 rfl H0 H1 oX0 oX1 (small_lenOk _ s0) (small_lenOk _ s1) (fun x hx => by have := (qX0 x hx).2; omega) hdq (by have := hcnt.out; omega)
  have hqq : ∀ x, Q0 x ∨ Q1 x → w8.heap.size ≤ x ∧ x < w9.heap.size := fun x hx => hx.elim (qX0 x) (qX1 x)
  have p0 : w21.cell? ⟨bC, 0, none⟩ = some (.slice xa0 xl0 xc0) := hC14 0 _ rfl
  have p1 : w21.cell? ⟨bC, 1, none⟩ = some (.slice xa1 xl1 xc1) := hC14 1 _ rfl
  have p2 : w21.cell? ⟨bC, 2, none⟩ = some (.int .i64 x2) := hC14 2 _ rfl
  have p3 : w21.cell? ⟨bC, 3, none⟩ = some (.int .i64 x3) := hC14 3 _ rfl
  go_wp2_with fail
  refine hmark.mono ?_
  rintro e w22 ⟨rfl, hO22, _, _⟩
  clear p0 p1 p2 p3
  clear hmark hC14 oX0 oX1
  have hz22 := hO22.size
  replace hA14 := hA14.only hO22 (by omega) (fun h => by have := hqq _ h; omega)
  replace hB14 := hB14.only hO22 (by omega) (fun h => by have := hqq _ h; omega)
  replace hD := hD.only hO22 (by omega) (fun h => by have := hqq _ h; omega)
  replace hW0 := hW0.only hO22 (fun x hx h => by have := hqq _ h; have := hx.2; omega)
  replace hW1 := hW1.only hO22 (fun x hx h => by have := hqq _ h; have := hx.2; omega)
  replace oXP := oXP.only hO22 (fun x hx h => by have := hqq _ h; have := hx.1; omega)
  replace hG0 := hG0.only hO22 (fun x hx h => by have := hqq _ h; have := qG0 x hx; omega)
  replace oG0 := oG0.only hO22 (fun x hx h => by have := hqq _ h; have := qG0 x hx; omega)
  replace hG1 := hG1.only hO22 (fun x hx h => by have := hqq _ h; have := qG1 x hx; omega)
  replace oG1 := oG1.only hO22 (fun x hx h => by have := hqq _ h; have := qG1 x hx; omega)
  have hX22 : Ext w w22 := hO22.toExt hE21' (fun x hx => by have := hqq _ hx; omega)
  clear hqq
  have hmP := markPropS_any dP HP (small_lenOk _ sP) _ _ w22 (1 + cntD d0 + cntD d1) (1 + cntD d0 + cntD d1) (by omega) oXP (small_lenOk _ sP).len (by have := hcnt.out; omega)
  go_wp2_with fail
  refine hmP.mono ?_
  rintro e w24 ⟨rfl, hO24, _⟩
  clear hmP oXP
  have hz24 := hO24.size
  replace hA14 := hA14.only hO24 (by omega) (fun h => by have h1 := h.1; have h2 := h.2; omega)
  replace hB14 := hB14.only hO24 (by omega) (fun h => by have h1 := h.1; have h2 := h.2; omega)
  replace hD := hD.only hO24 (by omega) (fun h => by have h1 := h.1; have h2 := h.2; omega)
  replace hW0 := hW0.only hO24 (fun x hx h => by have h1 := h.1; have := hx.2; omega)
  replace hW1 := hW1.only hO24 (fun x hx h => by have h1 := h.1; have := hx.2; omega)
  replace hG0 := hG0.only hO24 (fun x hx h => by have h2 := h.2; have := qG0 x hx; omega)
  replace oG0 := oG0.only hO24 (fun x hx h => by have h2 := h.2; have := qG0 x hx; omega)
  replace hG1 := hG1.only hO24 (fun x hx h => by have h2 := h.2; have := qG1 x hx; omega)
  replace oG1 := oG1.only hO24 (fun x hx h => by have h2 := h.2; have := qG1 x hx; omega)
  have hX24 : Ext w w24 := hO24.toExt hX22 (fun x hx => by have := hx.1; omega)
  clear hX22 hE21'
  have hneg : ¬ (1 + (cntD d0 : Int) + (cntD d1 : Int) + (cntD dP : Int)) < 0 := by omega
  have p0 : w24.cell? ⟨bD, 0, none⟩ = some (.slice ga0 gl0 gc0) := hD 0 _ rfl
  have p1 : w24.cell? ⟨bD, 1, none⟩ = some (.slice ga1 gl1 gc1) := hD 1 _ rfl
  have p2 : w24.cell? ⟨bD, 2, none⟩ = some (.int .i64 y2) := hD 2 _ rfl
  have p3 : w24.cell? ⟨bD, 3, none⟩ = some (.int .i64 y3) := hD 3 _ rfl
  have q0 : w24.cell? ⟨bB, 0, none⟩ = some (.slice wa0 wl0 wc0) := hB14 0 _ rfl
  have q1 : w24.cell? ⟨bB, 1, none⟩ = some (.slice wa1 wl1 wc1) := hB14 1 _ rfl
  have q2 : w24.cell? ⟨bB, 2, none⟩ = some (.int .i64 y2) := hB14 2 _ rfl
  have q3 : w24.cell? ⟨bB, 3, none⟩ = some (.int .i64 y3) := hB14 3 _ rfl
  go_wp2_with fail
  refine (eqGraph_any anyB anyB e0 _ _ e1 _ _ y2 y3 w24 HE0 hG0.any hW0.any HE1 hG1.any hW1.any).mono ?_
  rintro e w25 ⟨rfl, hE25⟩
  clear p0 p1 p2 p3 q0 q1 q2 q3
  have hz25 := hE25.le
  replace hA14 := hA14.ext hE25 (by omega)
  replace hB14 := hB14.ext hE25 (by omega)
  replace hD := hD.ext hE25 (by omega)
  replace hW0 := hW0.ext hE25
  replace hW1 := hW1.ext hE25
  replace oG0 := oG0.ext hE25
  replace oG1 := oG1.ext hE25
  clear hG0 hG1 hneg
  -- the answer is marked, and the marks are read
  have hmG := markGraph_own e0 e1 _ _ y2 y3 G0 G1 w25 1 1 rfl HE0 HE1 oG0 oG1 LE0 LE1 (fun x hx => by have := (qG0 x hx).2; omega) hdg hce.out
  have hgg : ∀ x, G0 x ∨ G1 x → w12.heap.size ≤ x ∧ x < w13.heap.size := fun x hx => hx.elim (qG0 x) (qG1 x)
  have p0 : w25.cell? ⟨bD, 0, none⟩ = some (.slice ga0 gl0 gc0) := hD 0 _ rfl
  have p1 : w25.cell? ⟨bD, 1, none⟩ = some (.slice ga1 gl1 gc1) := hD 1 _ rfl
  have p2 : w25.cell? ⟨bD, 2, none⟩ = some (.int .i64 y2) := hD 2 _ rfl
  have p3 : w25.cell? ⟨bD, 3, none⟩ = some (.int .i64 y3) := hD 3 _ rfl
  go_wp2_with fail
  refine hmG.mono ?_
  rintro e w26 ⟨rfl, hO26, hM0, hM1⟩
  clear p0 p1 p2 p3
  clear hmG oG0 oG1
  have hz26 := hO26.size
  replace hA14 := hA14.only hO26 (by omega) (fun h => by have := hgg _ h; omega)
  replace hB14 := hB14.only hO26 (by omega) (fun h => by have := hgg _ h; omega)
  replace hD := hD.only hO26 (by omega) (fun h => by have := hgg _ h; omega)
  replace hW0 := hW0.only hO26 (fun x hx h => by have := hgg _ h; have := hx.2; omega)
  replace hW1 := hW1.only hO26 (fun x hx h => by have := hgg _ h; have := hx.2; omega)
  have hX26 : Ext w w26 := hO26.toExt (hX24.trans hE25) (fun x hx => by have := hgg _ hx; omega)
  have hh := fun (W : World) (hW : Ext w26 W) => heldGraph_any e0 e1 _ _ y2 y3 G0 G1 W 1 1 rfl HE0 HE1 (hM0.ext hW) (hM1.ext hW) hce.out
  have hneg2 : ¬ (1 + (cntD e0 : Int) + (cntD e1 : Int)) < 0 := by omega
  have p0 : w26.cell? ⟨bD, 0, none⟩ = some (.slice ga0 gl0 gc0) := hD 0 _ rfl
  have p1 : w26.cell? ⟨bD, 1, none⟩ = some (.slice ga1 gl1 gc1) := hD 1 _ rfl
  have p2 : w26.cell? ⟨bD, 2, none⟩ = some (.int .i64 y2) := hD 2 _ rfl
  have p3 : w26.cell? ⟨bD, 3, none⟩ = some (.int .i64 y3) := hD 3 _ rfl
  go_wp2_with fail
  refine (hh w26 (Ext.refl _)).mono ?_
  rintro e w27 ⟨rfl, hE27⟩
  clear p0 p1 p2 p3
  have hz27 := hE27.le
  have hA27 := hA14.ext hE27 (by omega)
  have p0 : w27.cell? ⟨bA, 0, none⟩ = some (.slice a0 l0 cap0) := hA27 0 _ rfl
  have p1 : w27.cell? ⟨bA, 1, none⟩ = some (.slice a1 l1 cap1) := hA27 1 _ rfl
  have p2 : w27.cell? ⟨bA, 2, none⟩ = some (.int .i64 x2) := hA27 2 _ rfl
  have p3 : w27.cell? ⟨bA, 3, none⟩ = some (.int .i64 x3) := hA27 3 _ rfl
  go_wp2_with fail
  refine (hto w27 (hX26.trans hE27)).mono ?_
  rintro e w28 ⟨u0, u1, Q4, Q7, rfl, ⟨hu0, _, _⟩, ⟨hu1, _, _⟩, _, hE28⟩
  clear p0 p1 p2 p3
  obtain ⟨ka0, kc0, kl0, _, hq_, hc_, _, _⟩ := list_shape H0 hu0
  subst hc_
  clear hq_
  obtain ⟨ka1, kc1, kl1, _, hq_, hc_, _, _⟩ := list_shape H1 hu1
  subst hc_
  clear hq_
  have hE28' := (hX26.trans hE27).trans hE28
  go_wp2_with fail
  refine (htP w28 hE28').mono ?_
  rintro e w30 ⟨uP, rfl, huP, _, hE30⟩
  have him30 := him w30 _ _ _ (hu0.any.ext hE30) (hu1.any.ext hE30) huP.any
  obtain ⟨kaP, kcP, klP, _, hq_, hc_, _, _⟩ := list_shape HP huP
  subst hc_
  clear hq_
  go_wp2_with fail
  refine him30.mono ?_
  rintro e w31 ⟨h0', h1', rfl, ⟨R0, R1, ⟨hR0, _, _⟩, ⟨hR1, _, _⟩, _⟩, hE31⟩
  clear him30 hu0 hu1 huP
  obtain ⟨ra0, rc0, rl0, _, hq_, hc_, _, _⟩ := list_shape HE0 hR0
  subst hc_
  clear hq_
  obtain ⟨ra1, rc1, rl1, _, hq_, hc_, _, _⟩ := list_shape HE1 hR1
  subst hc_
  clear hq_
  have hE2631 := ((hE27.trans hE28).trans hE30).trans hE31
  have hE32 : Ext w31 (w31.alloc (.cells #[.slice ra0 rl0 rc0, .slice ra1 rl1 rc1, .int .i64 y2, .int .i64 y3] 32)) := (Ext.refl _).alloc _
  have hB32 := hB14.ext (hE2631.trans hE32) (by omega)
  have hz31 := hE2631.le
  have hD32 := hD.ext (hE2631.trans hE32) (by omega)
  have q0 : (w31.alloc (.cells #[.slice ra0 rl0 rc0, .slice ra1 rl1 rc1, .int .i64 y2, .int .i64 y3] 32)).cell? ⟨bB, 0, none⟩ = some (.slice wa0 wl0 wc0) := hB32 0 _ rfl
  have q1 : (w31.alloc (.cells #[.slice ra0 rl0 rc0, .slice ra1 rl1 rc1, .int .i64 y2, .int .i64 y3] 32)).cell? ⟨bB, 1, none⟩ = some (.slice wa1 wl1 wc1) := hB32 1 _ rfl
  have q2 : (w31.alloc (.cells #[.slice ra0 rl0 rc0, .slice ra1 rl1 rc1, .int .i64 y2, .int .i64 y3] 32)).cell? ⟨bB, 2, none⟩ = some (.int .i64 y2) := hB32 2 _ rfl
  have q3 : (w31.alloc (.cells #[.slice ra0 rl0 rc0, .slice ra1 rl1 rc1, .int .i64 y2, .int .i64 y3] 32)).cell? ⟨bB, 3, none⟩ = some (.int .i64 y3) := hB32 3 _ rfl
  go_wp2_with fail
  refine (eqGraph_any anyB anyB e0 _ _ e1 _ _ y2 y3 _ HE0 (hR0.any.ext hE32) (hW0.any.ext (hE2631.trans hE32)) HE1 (hR1.any.ext hE32) (hW1.any.ext (hE2631.trans hE32))).mono ?_
  rintro e w33 ⟨rfl, hE33⟩
  clear q0 q1 q2 q3
  have hD33 := hD32.ext hE33 (by simp; omega)
  have p0 : w33.cell? ⟨bD, 0, none⟩ = some (.slice ga0 gl0 gc0) := hD33 0 _ rfl
  have p1 : w33.cell? ⟨bD, 1, none⟩ = some (.slice ga1 gl1 gc1) := hD33 1 _ rfl
  have p2 : w33.cell? ⟨bD, 2, none⟩ = some (.int .i64 y2) := hD33 2 _ rfl
  have p3 : w33.cell? ⟨bD, 3, none⟩ = some (.int .i64 y3) := hD33 3 _ rfl
  go_wp2_with fail
  refine (hh w33 ((hE2631.trans hE32).trans hE33)).mono ?_
  rintro e w34 ⟨rfl, hE34⟩
  clear p0 p1 p2 p3
  go_wp2
  go_ret
  exact ⟨rfl, hX26.trans (((hE2631.trans hE32).trans hE33).trans hE34)⟩
end Go.Proofs.YtnhgnklapfhekaaGreat
