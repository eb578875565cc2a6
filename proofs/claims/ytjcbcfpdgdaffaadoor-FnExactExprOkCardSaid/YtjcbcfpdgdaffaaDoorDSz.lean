/- What the laws' functions sz.. answer: a number below nought, or nothing within is too long. -/
import Derived.Test.YtjcbcfpdgdaffaaDoorDat
namespace Go.Proofs.YtjcbcfpdgdaffaaDoor
open Go.RowKit Go.Deep

def SzD (F : FuncId) (d : D) : Prop := ∀ (S : Nat → Prop) (v : Value) (w : World) (l : Int), DIn S w d v → 0 ≤ l → l ≤ 1048576 →
  Calls Tryd.prog F #[v, .int .i64 l] w fun e w' => ∃ q : Int, e = .returned (.int .i64 q) ∧ -1 ≤ q ∧ q ≤ l ∧ (0 ≤ q → SmallD d ∧ (lenD d : Int) ≤ l - q) ∧ Ext w w'

/-- What a loop over a list has summed up by its k-th round. -/
theorem sz_end {n len : Nat} {f : Nat → Nat → D} (hn : n ≤ 24) (hl : len ≤ 1048576) (h : ∀ i, i < len → SmallRow n (f i)) : SmallD (.list n len f) := ⟨hn, hl, fun i hi j hj => h i hi j hj⟩
theorem lenD_list (n len : Nat) (f : Nat → Nat → D) : lenD (.list n len f) = len + sumN (fun i => lenRow n (f i)) len := rfl

set_option maxHeartbeats 1000000 in
theorem szValue_any (S : Nat → Prop) (x0 : Int) (x1 : Int) (x2 : ByteArray) (d3 : D) (c3 : Value) (w : World) (l : Int) (hS3 : SzD 17 d3) (z2 : x2.size ≤ maxLen) (H3 : Has d3 (.list 2)) (h3 : DIn S w d3 c3) (l0 : 0 ≤ l) (l1 : l ≤ 1048576) :
    Calls Tryd.prog 9 #[.agg #[.int .i64 x0, .int .i64 x1, .string x2, c3], .int .i64 l] w fun e w' => ∃ q : Int, e = .returned (.int .i64 q) ∧ -1 ≤ q ∧ q ≤ l ∧ (0 ≤ q → x2.size ≤ 1048576 ∧ SmallD d3 ∧ (lenD d3 : Int) ≤ l - q) ∧ Ext w w' := by
  unfold maxLen at z2
  have g3 := fun (W : World) (hW : Ext w W) => h3.ext hW
  obtain ⟨a3, cap3, l3, f3, hdd3, hcc3, hl3, _⟩ := list_shape H3 h3
  subst hcc3
  clear hdd3 h3
  go_enter Tryd.func9, Tryd.ntmps9
  go_wp2_with (first
    | (go_at_call 17; refine (hS3 S _ _ _ (g3 _ ((Ext.refl w).alloc _)) (by omega) (by omega)).mono ?_; rintro e w1 ⟨q1, rfl, qa1, qb1, qg1, E1⟩; have bx1_0 := box_cell E1 0 _ rfl; have bx1_1 := box_cell E1 1 _ rfl; have bx1_2 := box_cell E1 2 _ rfl; have bx1_3 := box_cell E1 3 _ rfl))
  all_goals go_ret
  all_goals first
    | exact ⟨_, rfl, by omega, by omega, fun h => by omega, ((Ext.refl w).alloc _)⟩
    | exact ⟨_, rfl, by omega, by omega, fun h => by omega, (((Ext.refl w).alloc _).trans E1)⟩
    | exact ⟨_, rfl, by omega, by omega, fun h => by have G1 := qg1 (by omega); have L1 := G1.2; exact ⟨by omega, G1.1, by omega⟩, (((Ext.refl w).alloc _).trans E1)⟩

set_option maxHeartbeats 1000000 in
theorem szValueS_of (len : Nat) (f : Nat → Nat → D) (HRa : ∀ i, i < len → HasRow 2 (f i)) (hS3 : ∀ i, i < len → SzD 17 (f i 3)) : SzD 17 (.list 4 len f) := by
  intro S v w l hv l0 l1
  obtain ⟨a, cap, rfl, hm⟩ := hv.list_eq
  unfold maxLen at hm
  by_cases hbig : l < len
  · go_enter Tryd.func17, Tryd.ntmps17
    go_wp2
    go_ret
    exact ⟨_, rfl, by omega, by omega, fun h => by omega, Ext.refl _⟩
  · go_enter Tryd.func17, Tryd.ntmps17
    go_wp2
    go_loopw [1, 5] (fun l' i wr => ∃ (k : Nat) (n : Int), k ≤ len ∧ i = .int .i64 k ∧ l' = .int .i64 n ∧ 0 ≤ n ∧ n + len + sumN (fun i => lenRow 4 (f i)) k ≤ l ∧ Ext w wr ∧ ∀ j, j < k → SmallRow 4 (f j)) (fun _ i _ => len - (intOf i).toNat)
    case atStart => exact ⟨0, _, Nat.zero_le _, rfl, rfl, by omega, by simp [sumN], Ext.refl _, fun j h => by omega⟩
    case round =>
      obtain ⟨k, n, hk, rfl, rfl, hn0, hn1, hE, hsm⟩ := hrel
      by_cases hlt : k < len
      · obtain ⟨cap2, b, off, C, hsl, hlo, hb, ec, hx⟩ := (hv.ext hE).at hlt
        cases hsl
        have HR := HRa k hlt
        have hT3 := hS3 k hlt
        clear hS3
        obtain ⟨x0, hd0⟩ := (show Has (f k 0) .int from HR 0 (by decide)).int
        have h0 := hx 0 (by decide)
        have e0 := ec 0 (by decide)
        rw [hd0] at h0
        obtain ⟨y0, z0⟩ := h0.int_eq
        rw [y0] at e0
        clear y0
        obtain ⟨x1, hd1⟩ := (show Has (f k 1) .int from HR 1 (by decide)).int
        have h1 := hx 1 (by decide)
        have e1 := ec 1 (by decide)
        rw [hd1] at h1
        obtain ⟨y1, z1⟩ := h1.int_eq
        rw [y1] at e1
        clear y1
        obtain ⟨x2, hd2⟩ := (show Has (f k 2) .str from HR 2 (by decide)).str
        have h2 := hx 2 (by decide)
        have e2 := ec 2 (by decide)
        rw [hd2] at h2
        obtain ⟨y2, z2⟩ := h2.str_eq
        rw [y2] at e2
        clear y2
        have H3 : Has (f k 3) (.list 2) := HR 3 (by decide)
        have h3 := hx 3 (by decide)
        have e3 := ec 3 (by decide)
        simp only [Nat.add_zero] at e0
        clear hx ec
        have hcall := szValue_any S x0 x1 x2 (f k 3) (C 3) wr n hT3 z2 H3 h3 hn0 (by omega)
        go_wp2_with (go_at_call 9; refine hcall.mono ?_; rintro e w' ⟨q, rfl, hr1, hr2, hr3, hE2⟩)
        · go_ret
          exact ⟨_, rfl, by omega, by omega, fun h => by omega, hE.trans hE2⟩
        · go_roundw
          case rel =>
            have hq := hr3 (by omega)
            have hql := hq.2.2
            have hrow : lenRow 4 (f k) = lenD (f k 3) := by simp [lenRow, sumN, lenD, hd0, hd1, hd2]
            refine ⟨k + 1, _, by omega, by go_num, rfl, by omega, ?_, hE.trans hE2, fun j h => ?_⟩
            · have : sumN (fun i => lenRow 4 (f i)) (k + 1) = sumN (fun i => lenRow 4 (f i)) k + lenRow 4 (f k) := rfl
              omega
            · rcases Nat.lt_succ_iff_lt_or_eq.1 h with h' | h'
              · exact hsm j h'
              · subst h'
                intro i hi
                match i, hi with
                | 0, _ => rw [hd0]; exact trivial
                | 1, _ => rw [hd1]; exact trivial
                | 2, _ => rw [hd2]; exact (show x2.size ≤ 1048576 from hq.1)
                | 3, _ => exact hq.2.1
          case measure => simp [intOf]; omega
      · have hkx : k = len := by omega
        subst hkx
        clear hS3
        go_wp2
        go_ret
        exact ⟨_, rfl, by omega, by omega, fun _ => ⟨sz_end (by omega) (by omega) hsm, by rw [lenD_list]; omega⟩, hE⟩

theorem szValueS_any (d : D) (H : Has d (.list 2)) : SzD 17 d := by
  induction d with
  | list n len f ih =>
    obtain ⟨r, h1, rfl, h3⟩ := H
    cases h1
    exact szValueS_of len f (fun i hi j hj => h3 i hi j hj) (fun i hi => ih i 3 (h3 i hi 3 (by decide)))
  | int _ => cases H
  | bool _ => cases H
  | str _ => cases H

set_option maxHeartbeats 1000000 in
theorem szExpr_any (S : Nat → Prop) (x0 : Int) (x1 : Int) (x2 : Int) (x3 : ByteArray) (d4 : D) (c4 : Value) (x5 : ByteArray) (x6 : ByteArray) (d7 : D) (c7 : Value) (w : World) (l : Int) (hS7 : SzD 10 d7) (z3 : x3.size ≤ maxLen) (z5 : x5.size ≤ maxLen) (z6 : x6.size ≤ maxLen) (H4 : Has d4 (.list 2)) (h4 : DIn S w d4 c4) (H7 : Has d7 (.list 8)) (h7 : DIn S w d7 c7) (l0 : 0 ≤ l) (l1 : l ≤ 1048576) :
    Calls Tryd.prog 4 #[.agg #[.int .i64 x0, .int .i64 x1, .int .i64 x2, .string x3, c4, .string x5, .string x6, c7], .int .i64 l] w fun e w' => ∃ q : Int, e = .returned (.int .i64 q) ∧ -1 ≤ q ∧ q ≤ l ∧ (0 ≤ q → x3.size ≤ 1048576 ∧ x5.size ≤ 1048576 ∧ x6.size ≤ 1048576 ∧ SmallD d4 ∧ SmallD d7 ∧ (lenD d4 : Int) + (lenD d7 : Int) ≤ l - q) ∧ Ext w w' := by
  unfold maxLen at z3
  unfold maxLen at z5
  unfold maxLen at z6
  have g4 := fun (W : World) (hW : Ext w W) => h4.ext hW
  obtain ⟨a4, cap4, l4, f4, hdd4, hcc4, hl4, _⟩ := list_shape H4 h4
  subst hcc4
  clear hdd4 h4
  have g7 := fun (W : World) (hW : Ext w W) => h7.ext hW
  obtain ⟨a7, cap7, l7, f7, hdd7, hcc7, hl7, _⟩ := list_shape H7 h7
  subst hcc7
  clear hdd7 h7
  go_enter Tryd.func4, Tryd.ntmps4
  go_wp2_with (first
    | (go_at_call 9; refine (szValue_any S x1 x2 x3 d4 _ _ _ (szValueS_any d4 H4) z3 H4 (g4 _ ((Ext.refl w).alloc _)) (by omega) (by omega)).mono ?_; rintro e w1 ⟨q1, rfl, qa1, qb1, qg1, E1⟩; have bx1_0 := box_cell E1 0 _ rfl; have bx1_1 := box_cell E1 1 _ rfl; have bx1_2 := box_cell E1 2 _ rfl; have bx1_3 := box_cell E1 3 _ rfl; have bx1_4 := box_cell E1 4 _ rfl; have bx1_5 := box_cell E1 5 _ rfl; have bx1_6 := box_cell E1 6 _ rfl; have bx1_7 := box_cell E1 7 _ rfl)
    | (go_at_call 10; refine (hS7 S _ _ _ (g7 _ (((Ext.refl w).alloc _).trans E1)) (by omega) (by omega)).mono ?_; rintro e w2 ⟨q2, rfl, qa2, qb2, qg2, E2⟩; have bx2_0 := box_cell (E1.trans E2) 0 _ rfl; have bx2_1 := box_cell (E1.trans E2) 1 _ rfl; have bx2_2 := box_cell (E1.trans E2) 2 _ rfl; have bx2_3 := box_cell (E1.trans E2) 3 _ rfl; have bx2_4 := box_cell (E1.trans E2) 4 _ rfl; have bx2_5 := box_cell (E1.trans E2) 5 _ rfl; have bx2_6 := box_cell (E1.trans E2) 6 _ rfl; have bx2_7 := box_cell (E1.trans E2) 7 _ rfl))
  all_goals go_ret
  all_goals first
    | exact ⟨_, rfl, by omega, by omega, fun h => by omega, ((Ext.refl w).alloc _)⟩
    | exact ⟨_, rfl, by omega, by omega, fun h => by omega, (((Ext.refl w).alloc _).trans E1)⟩
    | exact ⟨_, rfl, by omega, by omega, fun h => by omega, ((((Ext.refl w).alloc _).trans E1).trans E2)⟩
    | exact ⟨_, rfl, by omega, by omega, fun h => by have G1 := qg1 (by omega); have L1 := G1.2.2; have G2 := qg2 (by omega); have L2 := G2.2; exact ⟨G1.1, by omega, by omega, G1.2.1, G2.1, by omega⟩, ((((Ext.refl w).alloc _).trans E1).trans E2)⟩

set_option maxHeartbeats 1000000 in
theorem szExprS_of (len : Nat) (f : Nat → Nat → D) (HRa : ∀ i, i < len → HasRow 8 (f i)) (hS7 : ∀ i, i < len → SzD 10 (f i 7)) : SzD 10 (.list 8 len f) := by
  intro S v w l hv l0 l1
  obtain ⟨a, cap, rfl, hm⟩ := hv.list_eq
  unfold maxLen at hm
  by_cases hbig : l < len
  · go_enter Tryd.func10, Tryd.ntmps10
    go_wp2
    go_ret
    exact ⟨_, rfl, by omega, by omega, fun h => by omega, Ext.refl _⟩
  · go_enter Tryd.func10, Tryd.ntmps10
    go_wp2
    go_loopw [1, 5] (fun l' i wr => ∃ (k : Nat) (n : Int), k ≤ len ∧ i = .int .i64 k ∧ l' = .int .i64 n ∧ 0 ≤ n ∧ n + len + sumN (fun i => lenRow 8 (f i)) k ≤ l ∧ Ext w wr ∧ ∀ j, j < k → SmallRow 8 (f j)) (fun _ i _ => len - (intOf i).toNat)
    case atStart => exact ⟨0, _, Nat.zero_le _, rfl, rfl, by omega, by simp [sumN], Ext.refl _, fun j h => by omega⟩
    case round =>
      obtain ⟨k, n, hk, rfl, rfl, hn0, hn1, hE, hsm⟩ := hrel
      by_cases hlt : k < len
      · obtain ⟨cap2, b, off, C, hsl, hlo, hb, ec, hx⟩ := (hv.ext hE).at hlt
        cases hsl
        have HR := HRa k hlt
        have hT7 := hS7 k hlt
        clear hS7
        obtain ⟨x0, hd0⟩ := (show Has (f k 0) .int from HR 0 (by decide)).int
        have h0 := hx 0 (by decide)
        have e0 := ec 0 (by decide)
        rw [hd0] at h0
        obtain ⟨y0, z0⟩ := h0.int_eq
        rw [y0] at e0
        clear y0
        obtain ⟨x1, hd1⟩ := (show Has (f k 1) .int from HR 1 (by decide)).int
        have h1 := hx 1 (by decide)
        have e1 := ec 1 (by decide)
        rw [hd1] at h1
        obtain ⟨y1, z1⟩ := h1.int_eq
        rw [y1] at e1
        clear y1
        obtain ⟨x2, hd2⟩ := (show Has (f k 2) .int from HR 2 (by decide)).int
        have h2 := hx 2 (by decide)
        have e2 := ec 2 (by decide)
        rw [hd2] at h2
        obtain ⟨y2, z2⟩ := h2.int_eq
        rw [y2] at e2
        clear y2
        obtain ⟨x3, hd3⟩ := (show Has (f k 3) .str from HR 3 (by decide)).str
        have h3 := hx 3 (by decide)
        have e3 := ec 3 (by decide)
        rw [hd3] at h3
        obtain ⟨y3, z3⟩ := h3.str_eq
        rw [y3] at e3
        clear y3
        have H4 : Has (f k 4) (.list 2) := HR 4 (by decide)
        have h4 := hx 4 (by decide)
        have e4 := ec 4 (by decide)
        obtain ⟨x5, hd5⟩ := (show Has (f k 5) .str from HR 5 (by decide)).str
        have h5 := hx 5 (by decide)
        have e5 := ec 5 (by decide)
        rw [hd5] at h5
        obtain ⟨y5, z5⟩ := h5.str_eq
        rw [y5] at e5
        clear y5
        obtain ⟨x6, hd6⟩ := (show Has (f k 6) .str from HR 6 (by decide)).str
        have h6 := hx 6 (by decide)
        have e6 := ec 6 (by decide)
        rw [hd6] at h6
        obtain ⟨y6, z6⟩ := h6.str_eq
        rw [y6] at e6
        clear y6
        have H7 : Has (f k 7) (.list 8) := HR 7 (by decide)
        have h7 := hx 7 (by decide)
        have e7 := ec 7 (by decide)
        simp only [Nat.add_zero] at e0
        clear hx ec
        have hcall := szExpr_any S x0 x1 x2 x3 (f k 4) (C 4) x5 x6 (f k 7) (C 7) wr n hT7 z3 z5 z6 H4 h4 H7 h7 hn0 (by omega)
        go_wp2_with (go_at_call 4; refine hcall.mono ?_; rintro e w' ⟨q, rfl, hr1, hr2, hr3, hE2⟩)
        · go_ret
          exact ⟨_, rfl, by omega, by omega, fun h => by omega, hE.trans hE2⟩
        · go_roundw
          case rel =>
            have hq := hr3 (by omega)
            have hql := hq.2.2.2.2.2
            have hrow : lenRow 8 (f k) = lenD (f k 4) + lenD (f k 7) := by simp [lenRow, sumN, lenD, hd0, hd1, hd2, hd3, hd5, hd6]
            refine ⟨k + 1, _, by omega, by go_num, rfl, by omega, ?_, hE.trans hE2, fun j h => ?_⟩
            · have : sumN (fun i => lenRow 8 (f i)) (k + 1) = sumN (fun i => lenRow 8 (f i)) k + lenRow 8 (f k) := rfl
              omega
            · rcases Nat.lt_succ_iff_lt_or_eq.1 h with h' | h'
              · exact hsm j h'
              · subst h'
                intro i hi
                match i, hi with
                | 0, _ => rw [hd0]; exact trivial
                | 1, _ => rw [hd1]; exact trivial
                | 2, _ => rw [hd2]; exact trivial
                | 3, _ => rw [hd3]; exact (show x3.size ≤ 1048576 from hq.1)
                | 4, _ => exact hq.2.2.2.1
                | 5, _ => rw [hd5]; exact (show x5.size ≤ 1048576 from hq.2.1)
                | 6, _ => rw [hd6]; exact (show x6.size ≤ 1048576 from hq.2.2.1)
                | 7, _ => exact hq.2.2.2.2.1
          case measure => simp [intOf]; omega
      · have hkx : k = len := by omega
        subst hkx
        clear hS7
        go_wp2
        go_ret
        exact ⟨_, rfl, by omega, by omega, fun _ => ⟨sz_end (by omega) (by omega) hsm, by rw [lenD_list]; omega⟩, hE⟩

theorem szExprS_any (d : D) (H : Has d (.list 8)) : SzD 10 d := by
  induction d with
  | list n len f ih =>
    obtain ⟨r, h1, rfl, h3⟩ := H
    cases h1
    exact szExprS_of len f (fun i hi j hj => h3 i hi j hj) (fun i hi => ih i 7 (h3 i hi 7 (by decide)))
  | int _ => cases H
  | bool _ => cases H
  | str _ => cases H

end Go.Proofs.YtjcbcfpdgdaffaaDoor
