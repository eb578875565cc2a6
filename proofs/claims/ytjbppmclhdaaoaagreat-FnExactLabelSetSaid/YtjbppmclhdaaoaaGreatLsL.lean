/- Lengths and marks of LabelSet's answer. -/
import Derived.Test.YtjbppmclhdaaoaaGreatLsStep
import Derived.Test.YtjbppmclhdaaoaaGreatTk
import Derived.Test.YtjbppmclhdaaoaaGreatLsSpec
import Derived.Test.YtjbppmclhdaaoaaGreatLsImpl
import Derived.Test.YtjbppmclhdaaoaaGreatDMk
import Derived.Test.YtjbppmclhdaaoaaGreatDHl
import Derived.Test.YtjbppmclhdaaoaaGreatDSz
import Derived.Test.YtjbppmclhdaaoaaGreatDTo
import Derived.Test.YtjbppmclhdaaoaaGreatDEq
import Derived.Deep.RegionHeld3
namespace Go.Proofs.YtjbppmclhdaaoaaGreat
open Go.RowKit Go.Deep

theorem lsD1_has {g : Bool} {d1 : D} (H1 : Has d1 (.list 5)) : Has (lsD1 g d1) (.list 5) := by
  unfold lsD1
  cases g
  · exact ⟨5, rfl, rfl, fun i hi => by omega⟩
  · exact H1
theorem lsD1_lenOk {g : Bool} {d1 : D} (s1 : SmallD d1) : LenOk (lsD1 g d1) := by
  unfold lsD1
  cases g
  · exact ⟨Nat.zero_le _, fun i hi => by omega⟩
  · exact small_lenOk _ s1
theorem lsD1_cnt {g : Bool} {d1 : D} : cntD (lsD1 g d1) ≤ cntD d1 := by
  unfold lsD1
  cases g
  · simp [noneL, cntD, sumN]
  · exact Nat.le_refl _
theorem lsD0_lenOk {g b : Bool} {d0 : D} {id : Int} {s : ByteArray} {has : Bool} (H0 : Has d0 (.list 4)) (s0 : SmallD d0) : LenOk (lsD0 g b d0 id s has) := by
  unfold lsD0
  cases g
  · exact ⟨Nat.zero_le _, fun i hi => by omega⟩
  · cases b
    · exact small_lenOk _ s0
    · cases h : edK d0 id with
      | none => exact small_lenOk _ s0
      | some k =>
        have hk := (edK_some h).1
        obtain ⟨len, f, rfl, HR⟩ := H0.list
        have hs := small_lenOk _ s0
        change k < len at hk
        refine ⟨hs.1, fun i hi j hj => ?_⟩
        show LenOk (setF f k 1 (labD (f k 1) s has) i j)
        by_cases hij : i = k ∧ j = 1
        · obtain ⟨rfl, rfl⟩ := hij
          rw [setF_at]
          have hsm : SmallD (f i 1) := s0.2.2 i hk 1 (by decide)
          obtain ⟨len1, f1, hd1, _⟩ := (show Has (f i 1) (.list 0) from HR i hk 1 (by decide)).list
          refine ⟨?_, fun i' hi' j' hj' => trivial⟩
          have h1 := setL_len (strsOf (f i 1)) s has
          have h2 := strsOf_len (f i 1)
          rw [hd1] at hsm h1 h2 ⊢
          have h3 := hsm.2.1
          have h4 : (D.list (rowsOf 0).length len1 f1).len! = len1 := rfl
          unfold maxLen
          omega
        · rw [setF_ne hij]
          exact hs.2 i hi j hj
theorem cnt_in {f : Nat → Nat → D} {k c : Nat} {v : D} (i : Nat) : ∀ n, sumN (fun j => cntD (setF f k c v i j)) n ≤ sumN (fun j => cntD (f i j)) n + (if i = k then cntD v else 0)
  | 0 => by simp [sumN]
  | n + 1 => by
    have ih := cnt_in (f := f) (k := k) (c := c) (v := v) i n
    by_cases hik : i = k
    · rw [if_pos hik] at ih ⊢
      by_cases hc : n = c
      · have e : sumN (fun j => cntD (setF f k c v i j)) n = sumN (fun j => cntD (f i j)) n := sumN_congr fun j hj => by rw [setF_ne (fun e => by have := e.2; omega)]
        simp only [sumN]
        rw [e, show cntD (setF f k c v i n) = cntD v by rw [hik, hc, setF_at]]
        omega
      · simp only [sumN]
        rw [setF_ne (fun e => hc e.2)]
        omega
    · rw [if_neg hik] at ih ⊢
      simp only [sumN]
      rw [setF_ne (fun e => hik e.1)]
      omega
theorem cnt_setF {f : Nat → Nat → D} {k c n : Nat} {v : D} : ∀ m, sumN (fun i => sumN (fun j => cntD (setF f k c v i j)) n) m ≤ sumN (fun i => sumN (fun j => cntD (f i j)) n) m + (if k < m then cntD v else 0)
  | 0 => by simp [sumN]
  | m + 1 => by
    have ih := cnt_setF (f := f) (k := k) (c := c) (n := n) (v := v) m
    have hin := cnt_in (f := f) (k := k) (c := c) (v := v) m n
    simp only [sumN]
    by_cases h1 : m = k
    · rw [if_pos h1] at hin
      rw [if_neg (by omega)] at ih
      rw [if_pos (by omega)]
      omega
    · rw [if_neg h1] at hin
      by_cases h2 : k < m
      · rw [if_pos h2] at ih
        rw [if_pos (by omega)]
        omega
      · rw [if_neg h2] at ih
        omega
theorem cnt_strs (l : List ByteArray) : cntD (strsD l) = l.length := by
  show sumN (fun i => sumN (fun _ => 1) 1) l.length = l.length
  have : ∀ m, sumN (fun _ => sumN (fun _ => 1) 1) m = m := by
    intro m
    induction m with
    | zero => rfl
    | succ m ih => rw [sumN, ih]; rfl
  exact this _
theorem lsD0_cnt {g : Bool} {d0 : D} {id : Int} {s : ByteArray} {has : Bool} (H0 : Has d0 (.list 4)) : cntD (lsD0 g (lsB d0 id s has) d0 id s has) ≤ cntD d0 + 4 := by
  unfold lsD0
  cases g
  · simp [noneL, cntD, sumN]
  · cases hb : lsB d0 id s has
    · exact Nat.le_add_right _ _
    · cases h : edK d0 id with
      | none => exact Nat.le_add_right _ _
      | some k =>
        rw [lsB_some h, labOk, Bool.and_eq_true] at hb
        have hl := hb.2
        obtain ⟨len, f, rfl, HR⟩ := H0.list
        have hc := cnt_setF (f := f) (k := k) (c := 1) (n := 3) (v := labD (f k 1) s has) len
        have hv : cntD (labD (f k 1) s has) ≤ 3 := by
          unfold labD
          rw [cnt_strs]
          simp only [labelsB, Bool.and_eq_true, decide_eq_true_eq] at hl
          exact hl.2
        show sumN (fun i => sumN (fun j => cntD (setF f k 1 (labD (f k 1) s has) i j)) 3) len ≤ sumN (fun i => sumN (fun j => cntD (f i j)) 3) len + 4
        split at hc <;> omega
end Go.Proofs.YtjbppmclhdaaoaaGreat

/- At every graph, every number, every text and either Bool the law FnExactLabelSet answers true. -/
namespace Go.Proofs.YtjbppmclhdaaoaaGreat
open Go.RowKit Go.Deep

/-- A box of four cells. -/
def FG (W : World) (b : Nat) (cs : List Value) : Prop := ∀ j c, cs[j]? = some c → W.cell? ⟨b, j, none⟩ = some c
theorem FG.of {W W' : World} {b : Nat} {cs : List Value} (h : FG W b cs) (e : W'.heap[b]? = W.heap[b]?) : FG W' b cs := fun j c hc => by rw [World.cell?_of_block e]; exact h j c hc
theorem FG.ext {W W' : World} {b : Nat} {cs : List Value} (h : FG W b cs) (e : Ext W W') (hb : b < W.heap.size) : FG W' b cs := h.of (Below.block e _ hb)
theorem FG.only {W W' : World} {b : Nat} {cs : List Value} {S : Nat → Prop} (h : FG W b cs) (e : OnlyS S W W') (hb : b < W.heap.size) (hs : ¬ S b) : FG W' b cs := h.of (e.block _ hb hs)
theorem FG.new (W : World) (cs : Array Value) (T : TypeId) : FG (W.alloc (.cells cs T)) W.heap.size cs.toList := fun j c hc => box_cell (Ext.refl _) j c (by simpa using hc)

set_option maxRecDepth 100000 in
set_option maxHeartbeats 16000000 in
theorem lsLaw (d0 d1 : D) (c0 c1 : Value) (x2 x3 : Int) (id : Int) (s : ByteArray) (has : Bool) (w : World) (zid : (Lit.int .i64 id).wf = true) (zs : s.size ≤ maxLen) (H0 : Has d0 (.list 4)) (h0 : DIn anyB w d0 c0) (H1 : Has d1 (.list 5)) (h1 : DIn anyB w d1 c1) :
    Calls Tryz.prog 3 #[.agg #[c0, c1, .int .i64 x2, .int .i64 x3], .int .i64 id, .string s, .bool has] w fun e w' => e = .returned (.bool true) ∧ Ext w w' := by
  obtain ⟨a0, cap0, l0, _, hq_, hc_, _, _⟩ := list_shape H0 h0
  subst hc_
  clear hq_
  obtain ⟨a1, cap1, l1, _, hq_, hc_, _, _⟩ := list_shape H1 h1
  subst hc_
  clear hq_
  obtain ⟨wA, hwA⟩ : ∃ wA, wA = w.alloc (.cells #[.slice a0 l0 cap0, .slice a1 l1 cap1, .int .i64 x2, .int .i64 x3] 25) := ⟨_, rfl⟩
  obtain ⟨bA, hbA⟩ : ∃ m, m = w.heap.size := ⟨_, rfl⟩
  have hEA : Ext w wA := by rw [hwA]; exact (Ext.refl _).alloc _
  have hA : FG wA bA [.slice a0 l0 cap0, .slice a1 l1 cap1, .int .i64 x2, .int .i64 x3] := by rw [hwA, hbA]; exact FG.new _ _ _
  have hzA : bA < wA.heap.size := by rw [hwA, hbA]; simp
  have hbAa := Nat.le_of_eq hbA
  have hbAb := Nat.le_of_eq hbA.symm
  by_cases hs0 : 1048576 < s.size
  · go_enter Tryz.func3, Tryz.ntmps3
    go_wp2
    go_ret
    exact ⟨rfl, (Ext.refl _).alloc _⟩
  have hs1 : ¬ (1048576 : Int) < (s.size : Int) := by omega
  go_enter Tryz.func3, Tryz.ntmps3
  go_wp2_with fail
  rw [← hwA, ← hbA]
  clear hwA hbA
  refine (szGraph_any anyB d0 _ d1 _ x2 x3 wA _ H0 (h0.ext hEA) H1 (h1.ext hEA) (by omega) (by omega)).mono ?_
  rintro e w3 ⟨r, rfl, hr1, hr2, hr, hE1⟩
  by_cases hr0 : r < 0
  · go_wp2
    go_ret
    exact ⟨rfl, hEA.trans hE1⟩
  obtain ⟨s0, s1, hlen⟩ := hr (by omega)
  clear hr
  have hE3' := hEA.trans hE1
  have hcnt0 := cnt_list H0 s0
  have hcnt1 := cnt_list H1 s1
  have hcnt : Hid (1 + cntD d0 + cntD d1 ≤ 500000000) := by show _ ≤ _; omega
  clear hcnt0 hcnt1 hlen hr1 hr2
  -- what the functions answer
  have hto := fun (W : World) (hW : Ext w W) => toGraph_any anyB d0 _ d1 _ x2 x3 W H0 (h0.ext hW) s0 H1 (h1.ext hW) s1
  have hsp := fun (W : World) (c0 c1 : Value) (k0 : DIn anyB W d0 c0) (k1 : DIn anyB W d1 c1) => specLabelSet_any anyB d0 d1 id s has c0 c1 x2 x3 W H0 k0 s0 H1 k1 s1 zs _ rfl _ rfl
  have him := fun (W : World) (c0 c1 : Value) (k0 : DIn anyB W d0 c0) (k1 : DIn anyB W d1 c1) => implLabelSet_any anyB d0 d1 id s has c0 c1 x2 x3 W H0 k0 H1 k1 zid zs _ rfl _ rfl
  have hHE0 := lsD0_has (g := graphB d0 d1 x2 x3) (b := lsB d0 id s has) (id := id) (s := s) (has := has) H0
  have hHE1 := lsD1_has (g := graphB d0 d1 x2 x3) H1
  have hLE0 := lsD0_lenOk (g := graphB d0 d1 x2 x3) (b := lsB d0 id s has) (id := id) (s := s) (has := has) H0 s0
  have hLE1 := lsD1_lenOk (g := graphB d0 d1 x2 x3) s1
  have hCE0 : cntD (lsD0 (graphB d0 d1 x2 x3) (lsB d0 id s has) d0 id s has) ≤ cntD d0 + 4 := lsD0_cnt H0
  have hCE1 := lsD1_cnt (g := graphB d0 d1 x2 x3) (d1 := d1)
  have HE0 : Has (lsD0 (graphB d0 d1 x2 x3) (lsB d0 id s has) d0 id s has) (.list 4) := hHE0
  have HE1 : Has (lsD1 (graphB d0 d1 x2 x3) d1) (.list 5) := hHE1
  have LE0 : LenOk (lsD0 (graphB d0 d1 x2 x3) (lsB d0 id s has) d0 id s has) := hLE0
  have LE1 : LenOk (lsD1 (graphB d0 d1 x2 x3) d1) := hLE1
  have hce : Hid (1 + cntD (lsD0 (graphB d0 d1 x2 x3) (lsB d0 id s has) d0 id s has) + cntD (lsD1 (graphB d0 d1 x2 x3) d1) ≤ 1000000000) := by
    have h1 := hcnt.out
    have h2 : cntD (lsD0 (graphB d0 d1 x2 x3) (lsB d0 id s has) d0 id s has) ≤ _ := hCE0
    have h3 : cntD (lsD1 (graphB d0 d1 x2 x3) d1) ≤ _ := hCE1
    show _ ≤ _
    omega
  clear hHE0 hHE1 hLE0 hLE1 hCE0 hCE1
  generalize lsD0 (graphB d0 d1 x2 x3) (lsB d0 id s has) d0 id s has = e0 at *
  generalize lsD1 (graphB d0 d1 x2 x3) d1 = e1 at *
  generalize (graphB d0 d1 x2 x3 && lsB d0 id s has) = yb at *
  generalize edX (graphB d0 d1 x2 x3) x2 = y2 at *
  generalize edX (graphB d0 d1 x2 x3) x3 = y3 at *
  have hA3 : FG w3 bA [.slice a0 l0 cap0, .slice a1 l1 cap1, .int .i64 x2, .int .i64 x3] := hA.ext hE1 hzA
  have hz3 := hE3'.le
  have hzA3 : bA < w3.heap.size := Nat.lt_of_lt_of_le hzA hE1.le
  clear hA hzA
  have p0 := hA3 0 _ rfl
  have p1 := hA3 1 _ rfl
  have p2 := hA3 2 _ rfl
  have p3 := hA3 3 _ rfl
  go_wp2_with fail
  refine (hto w3 hE3').mono ?_
  rintro e w4 ⟨u0, u1, Q4, Q4', rfl, ⟨hu0, _, _⟩, ⟨hu1, _, _⟩, _, hE4⟩
  clear p0 p1 p2 p3
  have hsp6 := hsp w4 _ _ hu0.any hu1.any
  obtain ⟨ua0, uc0, ul0, _, hq_, hc_, _, _⟩ := list_shape H0 hu0
  subst hc_
  clear hq_
  obtain ⟨ua1, uc1, ul1, _, hq_, hc_, _, _⟩ := list_shape H1 hu1
  subst hc_
  clear hq_
  have hE4' := hE3'.trans hE4
  go_wp2_with fail
  refine hsp6.mono ?_
  rintro e w7 ⟨v0, v1, rfl, hW0, hW1, hE7⟩
  clear hsp6 hsp hu0 hu1
  obtain ⟨wa0, wc0, wl0, _, hq_, hc_, _, _⟩ := list_shape HE0 hW0
  subst hc_
  clear hq_
  obtain ⟨wa1, wc1, wl1, _, hq_, hc_, _, _⟩ := list_shape HE1 hW1
  subst hc_
  clear hq_
  have hE7' := hE4'.trans hE7
  have hz37 := (hE4.trans hE7).le
  have hE8 : Ext w7 (w7.alloc (.cells #[.slice wa0 wl0 wc0, .slice wa1 wl1 wc1, .int .i64 y2, .int .i64 y3] 30)) := (Ext.refl _).alloc _
  obtain ⟨bB, hbB⟩ : ∃ m, m = w7.heap.size := ⟨_, rfl⟩
  have hB : FG (w7.alloc (.cells #[.slice wa0 wl0 wc0, .slice wa1 wl1 wc1, .int .i64 y2, .int .i64 y3] 30)) bB [.slice wa0 wl0 wc0, .slice wa1 wl1 wc1, .int .i64 y2, .int .i64 y3] := by rw [hbB]; exact FG.new _ _ _
  have z8 : (w7.alloc (.cells #[.slice wa0 wl0 wc0, .slice wa1 wl1 wc1, .int .i64 y2, .int .i64 y3] 30)).heap.size = w7.heap.size + 1 := by simp
  have hbBa := Nat.le_of_eq hbB
  have hbBb := Nat.le_of_eq hbB.symm
  have hE8' := hE7'.trans hE8
  have hA8 := hA3.ext ((hE4.trans hE7).trans hE8) hzA3
  have p0 := hA8 0 _ rfl
  have p1 := hA8 1 _ rfl
  have p2 := hA8 2 _ rfl
  have p3 := hA8 3 _ rfl
  go_wp2_with fail
  clear p0 p1 p2 p3
  generalize hw8 : World.alloc w7 _ = w8 at *
  rw [← hbB]
  clear hw8 hbB
  refine (hto w8 hE8').mono ?_
  rintro e w9 ⟨u0, u1, Q0, Q1, rfl, ⟨hX0, oX0, qX0⟩, ⟨hX1, oX1, qX1⟩, hdq, hE9⟩
  obtain ⟨xa0, xc0, xl0, _, hq_, hc_, _, _⟩ := list_shape H0 hX0
  subst hc_
  clear hq_
  obtain ⟨xa1, xc1, xl1, _, hq_, hc_, _, _⟩ := list_shape H1 hX1
  subst hc_
  clear hq_
  have hE9' := hE8'.trans hE9
  have hz9 := hE9.le
  have hE10 : Ext w9 (w9.alloc (.cells #[.slice xa0 xl0 xc0, .slice xa1 xl1 xc1, .int .i64 x2, .int .i64 x3] 30)) := (Ext.refl _).alloc _
  obtain ⟨bC, hbC⟩ : ∃ m, m = w9.heap.size := ⟨_, rfl⟩
  have hC : FG (w9.alloc (.cells #[.slice xa0 xl0 xc0, .slice xa1 xl1 xc1, .int .i64 x2, .int .i64 x3] 30)) bC [.slice xa0 xl0 xc0, .slice xa1 xl1 xc1, .int .i64 x2, .int .i64 x3] := by rw [hbC]; exact FG.new _ _ _
  have z10 : (w9.alloc (.cells #[.slice xa0 xl0 xc0, .slice xa1 xl1 xc1, .int .i64 x2, .int .i64 x3] 30)).heap.size = w9.heap.size + 1 := by simp
  have hbCa := Nat.le_of_eq hbC
  have hbCb := Nat.le_of_eq hbC.symm
  have him12 := him _ _ _ (hX0.any.ext hE10) (hX1.any.ext hE10)
  have q0 := hC 0 _ rfl
  have q1 := hC 1 _ rfl
  have q2 := hC 2 _ rfl
  have q3 := hC 3 _ rfl
  go_wp2_with fail
  clear q0 q1 q2 q3
  generalize hw10 : World.alloc w9 _ = w10 at *
  rw [← hbC]
  clear hw10 hbC
  have hE10' := hE9'.trans hE10
  refine him12.mono ?_
  rintro e w13 ⟨g0, g1, rfl, ⟨G0, G1, ⟨hG0, oG0, qG0⟩, ⟨hG1, oG1, qG1⟩, hdg⟩, hE13⟩
  clear him12
  obtain ⟨ga0, gc0, gl0, _, hq_, hc_, _, _⟩ := list_shape HE0 hG0
  subst hc_
  clear hq_
  obtain ⟨ga1, gc1, gl1, _, hq_, hc_, _, _⟩ := list_shape HE1 hG1
  subst hc_
  clear hq_
  have hE13' := hE10'.trans hE13
  have hz13 := hE13.le
  have hE14 : Ext w13 (w13.alloc (.cells #[.slice ga0 gl0 gc0, .slice ga1 gl1 gc1, .int .i64 y2, .int .i64 y3] 30)) := (Ext.refl _).alloc _
  obtain ⟨bD, hbD⟩ : ∃ m, m = w13.heap.size := ⟨_, rfl⟩
  have hD : FG (w13.alloc (.cells #[.slice ga0 gl0 gc0, .slice ga1 gl1 gc1, .int .i64 y2, .int .i64 y3] 30)) bD [.slice ga0 gl0 gc0, .slice ga1 gl1 gc1, .int .i64 y2, .int .i64 y3] := by rw [hbD]; exact FG.new _ _ _
  have z14 : (w13.alloc (.cells #[.slice ga0 gl0 gc0, .slice ga1 gl1 gc1, .int .i64 y2, .int .i64 y3] 30)).heap.size = w13.heap.size + 1 := by simp
  have hbDa := Nat.le_of_eq hbD
  have hbDb := Nat.le_of_eq hbD.symm
  have hE14' := hE13'.trans hE14
  have hB14 := hB.ext (((hE9.trans hE10).trans hE13).trans hE14) (by omega)
  have q0 := hB14 0 _ rfl
  have q1 := hB14 1 _ rfl
  have q2 := hB14 2 _ rfl
  have q3 := hB14 3 _ rfl
  have p0 := hD 0 _ rfl
  have p1 := hD 1 _ rfl
  have p2 := hD 2 _ rfl
  have p3 := hD 3 _ rfl
  go_wp2_with fail
  clear q0 q1 q2 q3 p0 p1 p2 p3
  generalize hw14 : World.alloc w13 _ = w14 at *
  rw [← hbD]
  clear hw14 hbD
  have hE714 := (((hE8.trans hE9).trans hE10).trans hE13).trans hE14
  have hE914 := (hE10.trans hE13).trans hE14
  have hE1214 := hE13.trans hE14
  have hA14 := hA8.ext (((hE9.trans hE10).trans hE13).trans hE14) (by omega)
  have hC14 := hC.ext hE1214 (by omega)
  replace hW0 := hW0.ext hE714
  replace hW1 := hW1.ext hE714
  replace hX0 := hX0.ext hE914
  replace oX0 := oX0.ext hE914
  replace hX1 := hX1.ext hE914
  replace oX1 := oX1.ext hE914
  replace hG0 := hG0.ext hE14
  replace oG0 := oG0.ext hE14
  replace hG1 := hG1.ext hE14
  replace oG1 := oG1.ext hE14
  clear hA3 hA8 hB hC hE4 hE7 hE8 hE9 hE10 hE13 hE14 hE714 hE914 hE1214 hE1
  refine (eqGraph_any anyB anyB e0 _ _ e1 _ _ y2 y3 w14 HE0 hG0.any hW0.any HE1 hG1.any hW1.any).mono ?_
  rintro e w15 ⟨rfl, hE15⟩
  have hz15 := hE15.le
  have hE15' := hE14'.trans hE15
  have HK : Hid (∀ W, Ext w15 W → (W.cell? ⟨bA, 0, none⟩ = some (.slice a0 l0 cap0) ∧ W.cell? ⟨bA, 1, none⟩ = some (.slice a1 l1 cap1) ∧ W.cell? ⟨bA, 2, none⟩ = some (.int .i64 x2) ∧ W.cell? ⟨bA, 3, none⟩ = some (.int .i64 x3)) ∧ (W.cell? ⟨bC, 0, none⟩ = some (.slice xa0 xl0 xc0) ∧ W.cell? ⟨bC, 1, none⟩ = some (.slice xa1 xl1 xc1) ∧ W.cell? ⟨bC, 2, none⟩ = some (.int .i64 x2) ∧ W.cell? ⟨bC, 3, none⟩ = some (.int .i64 x3))) := fun W hW => by
    have hA := hA14.ext (hE15.trans hW) (by omega)
    have hC := hC14.ext (hE15.trans hW) (by omega)
    exact ⟨⟨hA 0 _ rfl, hA 1 _ rfl, hA 2 _ rfl, hA 3 _ rfl⟩, hC 0 _ rfl, hC 1 _ rfl, hC 2 _ rfl, hC 3 _ rfl⟩
  have hv0 := fun (W : World) (hW : Ext w15 W) => hX0.any.ext (hE15.trans hW)
  have hv1 := fun (W : World) (hW : Ext w15 W) => hX1.any.ext (hE15.trans hW)
  have hbb : (yb != yb) = false := by simp
  go_wp2_with fail
  have hcur : Ext w15 w15.drew := (Ext.refl _).drew
  refine wp_region_held_drew (S := (fun W => (W.cell? ⟨bA, 0, none⟩ = some (.slice a0 l0 cap0) ∧ W.cell? ⟨bA, 1, none⟩ = some (.slice a1 l1 cap1) ∧ W.cell? ⟨bA, 2, none⟩ = some (.int .i64 x2) ∧ W.cell? ⟨bA, 3, none⟩ = some (.int .i64 x3)) ∧ (W.cell? ⟨bC, 0, none⟩ = some (.slice xa0 xl0 xc0) ∧ W.cell? ⟨bC, 1, none⟩ = some (.slice xa1 xl1 xc1) ∧ W.cell? ⟨bC, 2, none⟩ = some (.int .i64 x2) ∧ W.cell? ⟨bC, 3, none⟩ = some (.int .i64 x3)))) (by kernel_rfl) (HK.out _ hcur) (fun hHeld => ?_)
  refine tkL 0 ⟨some 56, .load 30 (.tmp 12), 30, _, #[], none⟩ ?_ hHeld ?yyA0 ?rrA0
  case yyA0 => (intro w hSw; (try dsimp only at hSw); go_simp; first | done | with_reducible rfl)
  try simp only [Act.put, putA, putB, putC]
  refine tkL 1 ⟨some 57, .load 25 (.tmp 4), 25, _, #[], none⟩ ?_ hHeld ?yyA1 ?rrA1
  case yyA1 => (intro w hSw; (try dsimp only at hSw); go_simp; first | done | with_reducible rfl)
  try simp only [Act.put, putA, putB, putC]
  refine wpAnyH_ready (rs := [2]) (by kernel_rfl) (by simp) ?_
  refine AllReadyH.cons (o := ⟨some 58, .call { callee := .value (.func 6), args := #[.tmp 57], argTypes := #[25] }, 30, _, #[⟨1, .data⟩], none⟩) rfl (fun K hK => ?_) AllReadyH.nil
  go_simp
  refine (hto _ (hE15'.trans hcur)).mono ?_
  rintro e w16 ⟨u0, u1, Q4, Q7, rfl, ⟨hu0, _, _⟩, ⟨hu1, _, _⟩, _, hE16⟩
  replace hcur := hcur.trans hE16
  obtain ⟨ya0, yc0, yl0, _, hq_, hc_, _, _⟩ := list_shape H0 hu0
  subst hc_
  clear hq_
  obtain ⟨ya1, yc1, yl1, _, hq_, hc_, _, _⟩ := list_shape H1 hu1
  subst hc_
  clear hq_
  go_wp2_with fail
  refine hK.out _ _ (HK.out _ hcur) (fun hHeld => ?_)
  clear hK K
  try simp only [Act.put, putA, putB, putC]
  refine wpAnyH_ready (rs := [3]) (by kernel_rfl) (by simp) ?_
  refine AllReadyH.cons (o := ⟨some 59, .call { callee := .value (.func 8), args := #[.tmp 56, .tmp 58], argTypes := #[30, 30] }, 4, _, #[⟨0, .data⟩, ⟨2, .data⟩, ⟨2, .chain⟩], none⟩) rfl (fun K hK => ?_) AllReadyH.nil
  go_simp
  refine (eqGraph_any anyB anyB d0 _ _ d1 _ _ x2 x3 _ H0 (hv0 _ hcur) hu0.any H1 (hv1 _ hcur) hu1.any).mono ?_
  rintro e w21 ⟨rfl, hE17⟩
  replace hcur := hcur.trans hE17
  go_wp2_with fail
  refine hK.out _ _ (HK.out _ hcur) (fun hHeld => ?_)
  clear hK K
  try simp only [Act.put, putA, putB, putC]
  refine tkL 4 ⟨some 60, .unOp .not 4 (.tmp 59), 4, _, #[⟨3, .data⟩], none⟩ ?_ hHeld ?yyA4 ?rrA4
  case yyA4 => (intro w hSw; (try dsimp only at hSw); go_simp; first | done | with_reducible rfl)
  try simp only [Act.put, putA, putB, putC]
  refine wpAnyH_done (by kernel_rfl) ?_ _
  clear hv0 hv1 hu0 hu1 HK hHeld hE16 hE17
  have hE21' := hE15'.trans hcur
  have hE1421 := hE15.trans hcur
  have hz21 := hE1421.le
  clear hE15 hcur hE15'
  -- the argument is marked
  replace hA14 := hA14.ext hE1421 (by omega)
  replace hB14 := hB14.ext hE1421 (by omega)
  replace hC14 := hC14.ext hE1421 (by omega)
  replace hD := hD.ext hE1421 (by omega)
  replace hW0 := hW0.ext hE1421
  replace hW1 := hW1.ext hE1421
  replace oX0 := oX0.ext hE1421
  replace oX1 := oX1.ext hE1421
  replace hG0 := hG0.ext hE1421
  replace oG0 := oG0.ext hE1421
  replace hG1 := hG1.ext hE1421
  replace oG1 := oG1.ext hE1421
  clear hX0 hX1
  have hmark := markGraph_own d0 d1 _ _ x2 x3 Q0 Q1 w21 1 1 rfl H0 H1 oX0 oX1 (small_lenOk _ s0) (small_lenOk _ s1) (fun x hx => by have := (qX0 x hx).2; omega) hdq (by have := hcnt.out; omega)
  have hqq : ∀ x, Q0 x ∨ Q1 x → w8.heap.size ≤ x ∧ x < w9.heap.size := fun x hx => hx.elim (qX0 x) (qX1 x)
  have p0 := hC14 0 _ rfl
  have p1 := hC14 1 _ rfl
  have p2 := hC14 2 _ rfl
  have p3 := hC14 3 _ rfl
  go_wp2_with fail
  refine hmark.mono ?_
  rintro e w24 ⟨rfl, hO22, _, _⟩
  clear p0 p1 p2 p3
  clear hmark hC14 oX0 oX1
  have hz24 := hO22.size
  replace hA14 := hA14.only hO22 (by omega) (fun h => by have := hqq _ h; omega)
  replace hB14 := hB14.only hO22 (by omega) (fun h => by have := hqq _ h; omega)
  replace hD := hD.only hO22 (by omega) (fun h => by have := hqq _ h; omega)
  replace hW0 := hW0.only hO22 (fun x hx h => by have := hqq _ h; have := hx.2; omega)
  replace hW1 := hW1.only hO22 (fun x hx h => by have := hqq _ h; have := hx.2; omega)
  replace hG0 := hG0.only hO22 (fun x hx h => by have := hqq _ h; have := qG0 x hx; omega)
  replace oG0 := oG0.only hO22 (fun x hx h => by have := hqq _ h; have := qG0 x hx; omega)
  replace hG1 := hG1.only hO22 (fun x hx h => by have := hqq _ h; have := qG1 x hx; omega)
  replace oG1 := oG1.only hO22 (fun x hx h => by have := hqq _ h; have := qG1 x hx; omega)
  have hX24 : Ext w w24 := hO22.toExt hE21' (fun x hx => by have := hqq _ hx; omega)
  clear hE21'
  have hneg : ¬ (1 + (cntD d0 : Int) + (cntD d1 : Int)) < 0 := by omega
  have p0 := hD 0 _ rfl
  have p1 := hD 1 _ rfl
  have p2 := hD 2 _ rfl
  have p3 := hD 3 _ rfl
  have q0 := hB14 0 _ rfl
  have q1 := hB14 1 _ rfl
  have q2 := hB14 2 _ rfl
  have q3 := hB14 3 _ rfl
  go_wp2_with fail
  refine (eqGraph_any anyB anyB e0 _ _ e1 _ _ y2 y3 w24 HE0 hG0.any hW0.any HE1 hG1.any hW1.any).mono ?_
  rintro e w25 ⟨rfl, hE25⟩
  clear p0 p1 p2 p3 q0 q1 q2 q3
  have hz25 := hE25.le
  replace hA14 := hA14.ext hE25 (by omega)
  replace hB14 := hB14.ext hE25 (by omega)
  replace hD := hD.ext hE25 (by omega)
  replace hW0 := hW0.ext hE25
  replace hW1 := hW1.ext hE25
  replace oG0 := oG0.ext hE25
  replace oG1 := oG1.ext hE25
  clear hG0 hG1 hneg
  -- the answer is marked, and the marks are read
  have hmG := markGraph_own e0 e1 _ _ y2 y3 G0 G1 w25 1 1 rfl HE0 HE1 oG0 oG1 LE0 LE1 (fun x hx => by have := (qG0 x hx).2; omega) hdg hce.out
  have hgg : ∀ x, G0 x ∨ G1 x → w10.heap.size ≤ x ∧ x < w13.heap.size := fun x hx => hx.elim (qG0 x) (qG1 x)
  have p0 := hD 0 _ rfl
  have p1 := hD 1 _ rfl
  have p2 := hD 2 _ rfl
  have p3 := hD 3 _ rfl
  go_wp2_with fail
  refine hmG.mono ?_
  rintro e w26 ⟨rfl, hO26, hM0, hM1⟩
  clear p0 p1 p2 p3
  clear hmG oG0 oG1
  have hz26 := hO26.size
  replace hA14 := hA14.only hO26 (by omega) (fun h => by have := hgg _ h; omega)
  replace hB14 := hB14.only hO26 (by omega) (fun h => by have := hgg _ h; omega)
  replace hD := hD.only hO26 (by omega) (fun h => by have := hgg _ h; omega)
  replace hW0 := hW0.only hO26 (fun x hx h => by have := hgg _ h; have := hx.2; omega)
  replace hW1 := hW1.only hO26 (fun x hx h => by have := hgg _ h; have := hx.2; omega)
  have hX26 : Ext w w26 := hO26.toExt (hX24.trans hE25) (fun x hx => by have := hgg _ hx; omega)
  have hh := fun (W : World) (hW : Ext w26 W) => heldGraph_any e0 e1 _ _ y2 y3 G0 G1 W 1 1 rfl HE0 HE1 (hM0.ext hW) (hM1.ext hW) hce.out
  have hneg2 : ¬ (1 + (cntD e0 : Int) + (cntD e1 : Int)) < 0 := by omega
  have p0 := hD 0 _ rfl
  have p1 := hD 1 _ rfl
  have p2 := hD 2 _ rfl
  have p3 := hD 3 _ rfl
  go_wp2_with fail
  refine (hh w26 (Ext.refl _)).mono ?_
  rintro e w27 ⟨rfl, hE27⟩
  clear p0 p1 p2 p3
  have hz27 := hE27.le
  have hA27 := hA14.ext hE27 (by omega)
  have p0 := hA27 0 _ rfl
  have p1 := hA27 1 _ rfl
  have p2 := hA27 2 _ rfl
  have p3 := hA27 3 _ rfl
  go_wp2_with fail
  refine (hto w27 (hX26.trans hE27)).mono ?_
  rintro e w28 ⟨u0, u1, Q4, Q7, rfl, ⟨hu0, _, _⟩, ⟨hu1, _, _⟩, _, hE28⟩
  clear p0 p1 p2 p3
  have him30 := him w28 _ _ hu0.any hu1.any
  obtain ⟨ka0, kc0, kl0, _, hq_, hc_, _, _⟩ := list_shape H0 hu0
  subst hc_
  clear hq_
  obtain ⟨ka1, kc1, kl1, _, hq_, hc_, _, _⟩ := list_shape H1 hu1
  subst hc_
  clear hq_
  go_wp2_with fail
  refine him30.mono ?_
  rintro e w31 ⟨h0', h1', rfl, ⟨R0, R1, ⟨hR0, _, _⟩, ⟨hR1, _, _⟩, _⟩, hE31⟩
  clear him30 hu0 hu1
  obtain ⟨ra0, rc0, rl0, _, hq_, hc_, _, _⟩ := list_shape HE0 hR0
  subst hc_
  clear hq_
  obtain ⟨ra1, rc1, rl1, _, hq_, hc_, _, _⟩ := list_shape HE1 hR1
  subst hc_
  clear hq_
  have hE2631 := (hE27.trans hE28).trans hE31
  have hE32 : Ext w31 (w31.alloc (.cells #[.slice ra0 rl0 rc0, .slice ra1 rl1 rc1, .int .i64 y2, .int .i64 y3] 30)) := (Ext.refl _).alloc _
  have hB32 := hB14.ext (hE2631.trans hE32) (by omega)
  have hz31 := hE2631.le
  have hD32 := hD.ext (hE2631.trans hE32) (by omega)
  have q0 := hB32 0 _ rfl
  have q1 := hB32 1 _ rfl
  have q2 := hB32 2 _ rfl
  have q3 := hB32 3 _ rfl
  go_wp2_with fail
  refine (eqGraph_any anyB anyB e0 _ _ e1 _ _ y2 y3 _ HE0 (hR0.any.ext hE32) (hW0.any.ext (hE2631.trans hE32)) HE1 (hR1.any.ext hE32) (hW1.any.ext (hE2631.trans hE32))).mono ?_
  rintro e w33 ⟨rfl, hE33⟩
  clear q0 q1 q2 q3
  have hD33 := hD32.ext hE33 (by simp; omega)
  have p0 := hD33 0 _ rfl
  have p1 := hD33 1 _ rfl
  have p2 := hD33 2 _ rfl
  have p3 := hD33 3 _ rfl
  go_wp2_with fail
  refine (hh w33 ((hE2631.trans hE32).trans hE33)).mono ?_
  rintro e w34 ⟨rfl, hE34⟩
  clear p0 p1 p2 p3
  go_wp2
  go_ret
  exact ⟨rfl, hX26.trans (((hE2631.trans hE32).trans hE33).trans hE34)⟩
end Go.Proofs.YtjbppmclhdaaoaaGreat
