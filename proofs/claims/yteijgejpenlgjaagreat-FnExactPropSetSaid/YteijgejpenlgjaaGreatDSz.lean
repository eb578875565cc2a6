/- What the laws' functions sz.. answer: a number below nought, or nothing within is too long. -/
import Derived.Test.YteijgejpenlgjaaGreatDa
namespace Go.Proofs.YteijgejpenlgjaaGreat
open Go.RowKit Go.Deep

def SzD (F : FuncId) (d : D) : Prop := ∀ (S : Nat → Prop) (v : Value) (w : World) (l : Int), DIn S w d v → 0 ≤ l → l ≤ 1048576 →
 Calls Tryz.prog F #[v, .int .i64 l] w fun e w' => ∃ q : Int, e = .returned (.int .i64 q) ∧ -1 ≤ q ∧ q ≤ l ∧ (0 ≤ q → SmallD d ∧ (lenD d : Int) ≤ l - q) ∧ Ext w w'

/-- What a loop over a list has summed up by its k-th round. -/
theorem sz_end {n len : Nat} {f : Nat → Nat → D} (hn : n ≤ 24) (hl : len ≤ 1048576) (h : ∀ i, i < len → SmallRow n (f i)) : SmallD (.list n len f) := ⟨hn, hl, fun i hi j hj => h i hi j hj⟩
theorem lenD_list (n len : Nat) (f : Nat → Nat → D) : lenD (.list n len f) = len + sumN (fun i => lenRow n (f i)) len := rfl

set_option maxHeartbeats 1000000 in
theorem szStringS_list (len : Nat) (f : Nat → Nat → D) (HRa : ∀ i, i < len → HasRow 0 (f i)) : SzD 71 (.list 1 len f) := by
 intro S v w l hv l0 l1
 obtain ⟨a, cap, rfl, hm⟩ := hv.list_eq
 unfold maxLen at hm
 by_cases hbig : l < len
 ·
  go_enter Tryz.func71, Tryz.ntmps71
  go_wp2
  go_ret
  exact ⟨_, rfl, by omega, by omega, fun h => by omega, Ext.refl _⟩
 ·
  go_enter Tryz.func71, Tryz.ntmps71
  go_wp2
  go_loopw [1, 5] (fun l' i wr => ∃ (k : Nat) (n : Int), k ≤ len ∧ i = .int .i64 k ∧ l' = .int .i64 n ∧ 0 ≤ n ∧ n + len + sumN (fun i => lenRow 1 (f i)) k ≤ l ∧ Ext w wr ∧ ∀ j, j < k → SmallRow 1 (f j)) (fun _ i _ => len - (intOf i).toNat)
  case atStart => exact ⟨0, _, Nat.zero_le _, rfl, rfl, by omega, by simp [sumN], Ext.refl _, fun j h => by omega⟩
  case round =>
   obtain ⟨k, n, hk, rfl, rfl, hn0, hn1, hE, hsm⟩ := hrel
   by_cases hlt : k < len
   ·
    obtain ⟨cap2, b, off, C, hsl, hlo, hb, ec, hx⟩ := (hv.ext hE).at hlt
    cases hsl
    have HR := HRa k hlt
    obtain ⟨x0, hd0⟩ := (show Has (f k 0) .str from HR 0 (by decide)).str
    have h0 := hx 0 (by decide)
    have e0 := ec 0 (by decide)
    rw [hd0] at h0
    obtain ⟨y0, z0⟩ := h0.str_eq
    rw [y0] at e0
    clear y0
    simp only [Nat.add_zero, Nat.mul_one] at e0
    clear hx ec
    unfold maxLen at z0
    go_wp2
    ·
     go_ret
     exact ⟨_, rfl, by omega, by omega, fun h => by omega, hE⟩
    ·
     go_roundw
     case rel =>
      have hrow : lenRow 1 (f k) = 0 := by simp [lenRow, sumN, lenD, hd0]
      refine ⟨k + 1, _, by omega, by go_num, rfl, by omega, ?_, hE, fun j h => ?_⟩
      ·
       have : sumN (fun i => lenRow 1 (f i)) (k + 1) = sumN (fun i => lenRow 1 (f i)) k + lenRow 1 (f k) := rfl
       omega
      ·
       rcases Nat.lt_succ_iff_lt_or_eq.1 h with h' | h'
       ·
        exact hsm j h'
       ·
        subst h'
        intro i hi
        match i, hi with
        | 0, _ => rw [hd0]; exact (show x0.size ≤ 1048576 by omega)
     case measure => simp [intOf]; omega
   ·
    have hkx : k = len := by omega
    subst hkx
    go_wp2
    go_ret
    exact ⟨_, rfl, by omega, by omega, fun _ => ⟨sz_end (by omega) (by omega) hsm, by rw [lenD_list]; omega⟩, hE⟩

theorem szStringS_any (d : D) (H : Has d (.list 0)) : SzD 71 d := by
 obtain ⟨len, f, rfl, HRa⟩ := H.list
 exact szStringS_list len f HRa

set_option maxHeartbeats 1000000 in
theorem szValue_any (S : Nat → Prop) (x0 : Int) (x1 : Int) (x2 : ByteArray) (d3 : D) (c3 : Value) (w : World) (l : Int) (hS3 : SzD 17 d3) (z2 : x2.size ≤ maxLen) (H3 : Has d3 (.list 2)) (h3 : DIn S w d3 c3) (l0 : 0 ≤ l) (l1 : l ≤ 1048576) :
  Calls Tryz.prog 5 #[.agg #[.int .i64 x0, .int .i64 x1, .string x2, c3], .int .i64 l] w fun e w' => ∃ q : Int, e = .returned (.int .i64 q) ∧ -1 ≤ q ∧ q ≤ l ∧ (0 ≤ q → x2.size ≤ 1048576 ∧ SmallD d3 ∧ (lenD d3 : Int) ≤ l - q) ∧ Ext w w' := by
 unfold maxLen at z2
 have g3 := fun (W : World) (hW : Ext w W) => h3.ext hW
 obtain ⟨a3, cap3, l3, f3, hdd3, hcc3, hl3, _⟩ := list_shape H3 h3
 subst hcc3
 clear hdd3 h3
 go_enter Tryz.func5, Tryz.ntmps5
 go_wp2_with (first
  | (go_at_call 17; refine (hS3 S _ _ _ (g3 _ ((Ext.refl w).alloc _)) (by omega) (by omega)).mono ?_; rintro e w1 ⟨q1, rfl, qa1, qb1, qg1, E1⟩; have bx1_0 := box_cell E1 0 _ rfl; have bx1_1 := box_cell E1 1 _ rfl; have bx1_2 := box_cell E1 2 _ rfl; have bx1_3 := box_cell E1 3 _ rfl))
 all_goals go_ret
 all_goals first
  | exact ⟨_, rfl, by omega, by omega, fun h => by omega, ((Ext.refl w).alloc _)⟩
  | exact ⟨_, rfl, by omega, by omega, fun h => by omega, (((Ext.refl w).alloc _).trans E1)⟩
  | exact ⟨_, rfl, by omega, by omega, fun h => by have G1 := qg1 (by omega); have L1 := G1.2; exact ⟨by omega, G1.1, by omega⟩, (((Ext.refl w).alloc _).trans E1)⟩

set_option maxHeartbeats 1000000 in
theorem szValueS_of (len : Nat) (f : Nat → Nat → D) (HRa : ∀ i, i < len → HasRow 2 (f i)) (hS3 : ∀ i, i < len → SzD 17 (f i 3)) : SzD 17 (.list 4 len f) := by
 intro S v w l hv l0 l1
 obtain ⟨a, cap, rfl, hm⟩ := hv.list_eq
 unfold maxLen at hm
 by_cases hbig : l < len
 ·
  go_enter Tryz.func17, Tryz.ntmps17
  go_wp2
  go_ret
  exact ⟨_, rfl, by omega, by omega, fun h => by omega, Ext.refl _⟩
 ·
  go_enter Tryz.func17, Tryz.ntmps17
  go_wp2
  go_loopw [1, 5] (fun l' i wr => ∃ (k : Nat) (n : Int), k ≤ len ∧ i = .int .i64 k ∧ l' = .int .i64 n ∧ 0 ≤ n ∧ n + len + sumN (fun i => lenRow 4 (f i)) k ≤ l ∧ Ext w wr ∧ ∀ j, j < k → SmallRow 4 (f j)) (fun _ i _ => len - (intOf i).toNat)
  case atStart => exact ⟨0, _, Nat.zero_le _, rfl, rfl, by omega, by simp [sumN], Ext.refl _, fun j h => by omega⟩
  case round =>
   obtain ⟨k, n, hk, rfl, rfl, hn0, hn1, hE, hsm⟩ := hrel
   by_cases hlt : k < len
   ·
    obtain ⟨cap2, b, off, C, hsl, hlo, hb, ec, hx⟩ := (hv.ext hE).at hlt
    cases hsl
    have HR := HRa k hlt
    have hT3 := hS3 k hlt
    clear hS3
    obtain ⟨x0, hd0⟩ := (show Has (f k 0) .int from HR 0 (by decide)).int
    have h0 := hx 0 (by decide)
    have e0 := ec 0 (by decide)
    rw [hd0] at h0
    obtain ⟨y0, z0⟩ := h0.int_eq
    rw [y0] at e0
    clear y0
    obtain ⟨x1, hd1⟩ := (show Has (f k 1) .int from HR 1 (by decide)).int
    have h1 := hx 1 (by decide)
    have e1 := ec 1 (by decide)
    rw [hd1] at h1
    obtain ⟨y1, z1⟩ := h1.int_eq
    rw [y1] at e1
    clear y1
    obtain ⟨x2, hd2⟩ := (show Has (f k 2) .str from HR 2 (by decide)).str
    have h2 := hx 2 (by decide)
    have e2 := ec 2 (by decide)
    rw [hd2] at h2
    obtain ⟨y2, z2⟩ := h2.str_eq
    rw [y2] at e2
    clear y2
    have H3 : Has (f k 3) (.list 2) := HR 3 (by decide)
    have h3 := hx 3 (by decide)
    have e3 := ec 3 (by decide)
    simp only [Nat.add_zero] at e0
    clear hx ec
    have hcall := szValue_any S x0 x1 x2 (f k 3) (C 3) wr n hT3 z2 H3 h3 hn0 (by omega)
    go_wp2_with (go_at_call 5; refine hcall.mono ?_; rintro e w' ⟨q, rfl, hr1, hr2, hr3, hE2⟩)
    ·
     go_ret
     exact ⟨_, rfl, by omega, by omega, fun h => by omega, hE.trans hE2⟩
    ·
     go_roundw
     case rel =>
      have hq := hr3 (by omega)
      have hql := hq.2.2
      have hrow : lenRow 4 (f k) = lenD (f k 3) := by simp [lenRow, sumN, lenD, hd0, hd1, hd2]
      refine ⟨k + 1, _, by omega, by go_num, rfl, by omega, ?_, hE.trans hE2, fun j h => ?_⟩
      ·
       have : sumN (fun i => lenRow 4 (f i)) (k + 1) = sumN (fun i => lenRow 4 (f i)) k + lenRow 4 (f k) := rfl
       omega
      ·
       rcases Nat.lt_succ_iff_lt_or_eq.1 h with h' | h'
       ·
        exact hsm j h'
       ·
        subst h'
        intro i hi
        match i, hi with
        | 0, _ => rw [hd0]; exact trivial
        | 1, _ => rw [hd1]; exact trivial
        | 2, _ => rw [hd2]; exact (show x2.size ≤ 1048576 from hq.1)
        | 3, _ => exact hq.2.1
     case measure => simp [intOf]; omega
   ·
    have hkx : k = len := by omega
    subst hkx
    clear hS3
    go_wp2
    go_ret
    exact ⟨_, rfl, by omega, by omega, fun _ => ⟨sz_end (by omega) (by omega) hsm, by rw [lenD_list]; omega⟩, hE⟩

theorem szValueS_any (d : D) (H : Has d (.list 2)) : SzD 17 d := by
 induction d with
 | list n len f ih =>
  obtain ⟨r, h1, rfl, h3⟩ := H
  cases h1
  exact szValueS_of len f (fun i hi j hj => h3 i hi j hj) (fun i hi => ih i 3 (h3 i hi 3 (by decide)))
 | int _ => cases H
 | bool _ => cases H
 | str _ => cases H

set_option maxHeartbeats 1000000 in
theorem szProp_any (S : Nat → Prop) (x0 : ByteArray) (x1 : Int) (x2 : Int) (x3 : ByteArray) (d4 : D) (c4 : Value) (w : World) (l : Int)  (z0 : x0.size ≤ maxLen) (z3 : x3.size ≤ maxLen) (H4 : Has d4 (.list 2)) (h4 : DIn S w d4 c4) (l0 : 0 ≤ l) (l1 : l ≤ 1048576) :
  Calls Tryz.prog 95 #[.agg #[.string x0, .int .i64 x1, .int .i64 x2, .string x3, c4], .int .i64 l] w fun e w' => ∃ q : Int, e = .returned (.int .i64 q) ∧ -1 ≤ q ∧ q ≤ l ∧ (0 ≤ q → x0.size ≤ 1048576 ∧ x3.size ≤ 1048576 ∧ SmallD d4 ∧ (lenD d4 : Int) ≤ l - q) ∧ Ext w w' := by
 unfold maxLen at z0
 unfold maxLen at z3
 have g4 := fun (W : World) (hW : Ext w W) => h4.ext hW
 obtain ⟨a4, cap4, l4, f4, hdd4, hcc4, hl4, _⟩ := list_shape H4 h4
 subst hcc4
 clear hdd4 h4
 go_enter Tryz.func95, Tryz.ntmps95
 go_wp2_with (first
  | (go_at_call 5; refine (szValue_any S x1 x2 x3 d4 _ _ _ (szValueS_any d4 H4) z3 H4 (g4 _ ((Ext.refl w).alloc _)) (by omega) (by omega)).mono ?_; rintro e w1 ⟨q1, rfl, qa1, qb1, qg1, E1⟩; have bx1_0 := box_cell E1 0 _ rfl; have bx1_1 := box_cell E1 1 _ rfl; have bx1_2 := box_cell E1 2 _ rfl; have bx1_3 := box_cell E1 3 _ rfl; have bx1_4 := box_cell E1 4 _ rfl))
 all_goals go_ret
 all_goals first
  | exact ⟨_, rfl, by omega, by omega, fun h => by omega, ((Ext.refl w).alloc _)⟩
  | exact ⟨_, rfl, by omega, by omega, fun h => by omega, (((Ext.refl w).alloc _).trans E1)⟩
  | exact ⟨_, rfl, by omega, by omega, fun h => by have G1 := qg1 (by omega); have L1 := G1.2.2; exact ⟨by omega, G1.1, G1.2.1, by omega⟩, (((Ext.refl w).alloc _).trans E1)⟩

set_option maxHeartbeats 1000000 in
theorem szPropS_list (len : Nat) (f : Nat → Nat → D) (HRa : ∀ i, i < len → HasRow 3 (f i)) : SzD 72 (.list 5 len f) := by
 intro S v w l hv l0 l1
 obtain ⟨a, cap, rfl, hm⟩ := hv.list_eq
 unfold maxLen at hm
 by_cases hbig : l < len
 ·
  go_enter Tryz.func72, Tryz.ntmps72
  go_wp2
  go_ret
  exact ⟨_, rfl, by omega, by omega, fun h => by omega, Ext.refl _⟩
 ·
  go_enter Tryz.func72, Tryz.ntmps72
  go_wp2
  go_loopw [1, 5] (fun l' i wr => ∃ (k : Nat) (n : Int), k ≤ len ∧ i = .int .i64 k ∧ l' = .int .i64 n ∧ 0 ≤ n ∧ n + len + sumN (fun i => lenRow 5 (f i)) k ≤ l ∧ Ext w wr ∧ ∀ j, j < k → SmallRow 5 (f j)) (fun _ i _ => len - (intOf i).toNat)
  case atStart => exact ⟨0, _, Nat.zero_le _, rfl, rfl, by omega, by simp [sumN], Ext.refl _, fun j h => by omega⟩
  case round =>
   obtain ⟨k, n, hk, rfl, rfl, hn0, hn1, hE, hsm⟩ := hrel
   by_cases hlt : k < len
   ·
    obtain ⟨cap2, b, off, C, hsl, hlo, hb, ec, hx⟩ := (hv.ext hE).at hlt
    cases hsl
    have HR := HRa k hlt
    obtain ⟨x0, hd0⟩ := (show Has (f k 0) .str from HR 0 (by decide)).str
    have h0 := hx 0 (by decide)
    have e0 := ec 0 (by decide)
    rw [hd0] at h0
    obtain ⟨y0, z0⟩ := h0.str_eq
    rw [y0] at e0
    clear y0
    obtain ⟨x1, hd1⟩ := (show Has (f k 1) .int from HR 1 (by decide)).int
    have h1 := hx 1 (by decide)
    have e1 := ec 1 (by decide)
    rw [hd1] at h1
    obtain ⟨y1, z1⟩ := h1.int_eq
    rw [y1] at e1
    clear y1
    obtain ⟨x2, hd2⟩ := (show Has (f k 2) .int from HR 2 (by decide)).int
    have h2 := hx 2 (by decide)
    have e2 := ec 2 (by decide)
    rw [hd2] at h2
    obtain ⟨y2, z2⟩ := h2.int_eq
    rw [y2] at e2
    clear y2
    obtain ⟨x3, hd3⟩ := (show Has (f k 3) .str from HR 3 (by decide)).str
    have h3 := hx 3 (by decide)
    have e3 := ec 3 (by decide)
    rw [hd3] at h3
    obtain ⟨y3, z3⟩ := h3.str_eq
    rw [y3] at e3
    clear y3
    have H4 : Has (f k 4) (.list 2) := HR 4 (by decide)
    have h4 := hx 4 (by decide)
    have e4 := ec 4 (by decide)
    simp only [Nat.add_zero] at e0
    clear hx ec
    have hcall := szProp_any S x0 x1 x2 x3 (f k 4) (C 4) wr n z0 z3 H4 h4 hn0 (by omega)
    go_wp2_with (go_at_call 95; refine hcall.mono ?_; rintro e w' ⟨q, rfl, hr1, hr2, hr3, hE2⟩)
    ·
     go_ret
     exact ⟨_, rfl, by omega, by omega, fun h => by omega, hE.trans hE2⟩
    ·
     go_roundw
     case rel =>
      have hq := hr3 (by omega)
      have hql := hq.2.2.2
      have hrow : lenRow 5 (f k) = lenD (f k 4) := by simp [lenRow, sumN, lenD, hd0, hd1, hd2, hd3]
      refine ⟨k + 1, _, by omega, by go_num, rfl, by omega, ?_, hE.trans hE2, fun j h => ?_⟩
      ·
       have : sumN (fun i => lenRow 5 (f i)) (k + 1) = sumN (fun i => lenRow 5 (f i)) k + lenRow 5 (f k) := rfl
       omega
      ·
       rcases Nat.lt_succ_iff_lt_or_eq.1 h with h' | h'
       ·
        exact hsm j h'
       ·
        subst h'
        intro i hi
        match i, hi with
        | 0, _ => rw [hd0]; exact (show x0.size ≤ 1048576 from hq.1)
        | 1, _ => rw [hd1]; exact trivial
        | 2, _ => rw [hd2]; exact trivial
        | 3, _ => rw [hd3]; exact (show x3.size ≤ 1048576 from hq.2.1)
        | 4, _ => exact hq.2.2.1
     case measure => simp [intOf]; omega
   ·
    have hkx : k = len := by omega
    subst hkx
    go_wp2
    go_ret
    exact ⟨_, rfl, by omega, by omega, fun _ => ⟨sz_end (by omega) (by omega) hsm, by rw [lenD_list]; omega⟩, hE⟩

theorem szPropS_any (d : D) (H : Has d (.list 3)) : SzD 72 d := by
 obtain ⟨len, f, rfl, HRa⟩ := H.list
 exact szPropS_list len f HRa

set_option maxHeartbeats 1000000 in
theorem szNode_any (S : Nat → Prop) (x0 : Int) (d1 : D) (c1 : Value) (d2 : D) (c2 : Value) (w : World) (l : Int)  (H1 : Has d1 (.list 0)) (h1 : DIn S w d1 c1) (H2 : Has d2 (.list 3)) (h2 : DIn S w d2 c2) (l0 : 0 ≤ l) (l1 : l ≤ 1048576) :
  Calls Tryz.prog 37 #[.agg #[.int .i64 x0, c1, c2], .int .i64 l] w fun e w' => ∃ q : Int, e = .returned (.int .i64 q) ∧ -1 ≤ q ∧ q ≤ l ∧ (0 ≤ q → SmallD d1 ∧ SmallD d2 ∧ (lenD d1 : Int) + (lenD d2 : Int) ≤ l - q) ∧ Ext w w' := by
 have g1 := fun (W : World) (hW : Ext w W) => h1.ext hW
 obtain ⟨a1, cap1, l1, f1, hdd1, hcc1, hl1, _⟩ := list_shape H1 h1
 subst hcc1
 clear hdd1 h1
 have g2 := fun (W : World) (hW : Ext w W) => h2.ext hW
 obtain ⟨a2, cap2, l2, f2, hdd2, hcc2, hl2, _⟩ := list_shape H2 h2
 subst hcc2
 clear hdd2 h2
 go_enter Tryz.func37, Tryz.ntmps37
 go_wp2_with (first
  | (go_at_call 71; refine (szStringS_any d1 H1 S _ _ _ (g1 _ ((Ext.refl w).alloc _)) (by omega) (by omega)).mono ?_; rintro e w1 ⟨q1, rfl, qa1, qb1, qg1, E1⟩; have bx1_0 := box_cell E1 0 _ rfl; have bx1_1 := box_cell E1 1 _ rfl; have bx1_2 := box_cell E1 2 _ rfl)
  | (go_at_call 72; refine (szPropS_any d2 H2 S _ _ _ (g2 _ (((Ext.refl w).alloc _).trans E1)) (by omega) (by omega)).mono ?_; rintro e w2 ⟨q2, rfl, qa2, qb2, qg2, E2⟩; have bx2_0 := box_cell (E1.trans E2) 0 _ rfl; have bx2_1 := box_cell (E1.trans E2) 1 _ rfl; have bx2_2 := box_cell (E1.trans E2) 2 _ rfl))
 all_goals go_ret
 all_goals first
  | exact ⟨_, rfl, by omega, by omega, fun h => by omega, ((Ext.refl w).alloc _)⟩
  | exact ⟨_, rfl, by omega, by omega, fun h => by omega, (((Ext.refl w).alloc _).trans E1)⟩
  | exact ⟨_, rfl, by omega, by omega, fun h => by omega, ((((Ext.refl w).alloc _).trans E1).trans E2)⟩
  | exact ⟨_, rfl, by omega, by omega, fun h => by have G1 := qg1 (by omega); have L1 := G1.2; have G2 := qg2 (by omega); have L2 := G2.2; exact ⟨G1.1, G2.1, by omega⟩, ((((Ext.refl w).alloc _).trans E1).trans E2)⟩

set_option maxHeartbeats 1000000 in
theorem szNodeS_list (len : Nat) (f : Nat → Nat → D) (HRa : ∀ i, i < len → HasRow 4 (f i)) : SzD 15 (.list 3 len f) := by
 intro S v w l hv l0 l1
 obtain ⟨a, cap, rfl, hm⟩ := hv.list_eq
 unfold maxLen at hm
 by_cases hbig : l < len
 ·
  go_enter Tryz.func15, Tryz.ntmps15
  go_wp2
  go_ret
  exact ⟨_, rfl, by omega, by omega, fun h => by omega, Ext.refl _⟩
 ·
  go_enter Tryz.func15, Tryz.ntmps15
  go_wp2
  go_loopw [1, 5] (fun l' i wr => ∃ (k : Nat) (n : Int), k ≤ len ∧ i = .int .i64 k ∧ l' = .int .i64 n ∧ 0 ≤ n ∧ n + len + sumN (fun i => lenRow 3 (f i)) k ≤ l ∧ Ext w wr ∧ ∀ j, j < k → SmallRow 3 (f j)) (fun _ i _ => len - (intOf i).toNat)
  case atStart => exact ⟨0, _, Nat.zero_le _, rfl, rfl, by omega, by simp [sumN], Ext.refl _, fun j h => by omega⟩
  case round =>
   obtain ⟨k, n, hk, rfl, rfl, hn0, hn1, hE, hsm⟩ := hrel
   by_cases hlt : k < len
   ·
    obtain ⟨cap2, b, off, C, hsl, hlo, hb, ec, hx⟩ := (hv.ext hE).at hlt
    cases hsl
    have HR := HRa k hlt
    obtain ⟨x0, hd0⟩ := (show Has (f k 0) .int from HR 0 (by decide)).int
    have h0 := hx 0 (by decide)
    have e0 := ec 0 (by decide)
    rw [hd0] at h0
    obtain ⟨y0, z0⟩ := h0.int_eq
    rw [y0] at e0
    clear y0
    have H1 : Has (f k 1) (.list 0) := HR 1 (by decide)
    have h1 := hx 1 (by decide)
    have e1 := ec 1 (by decide)
    have H2 : Has (f k 2) (.list 3) := HR 2 (by decide)
    have h2 := hx 2 (by decide)
    have e2 := ec 2 (by decide)
    simp only [Nat.add_zero] at e0
    clear hx ec
    have hcall := szNode_any S x0 (f k 1) (C 1) (f k 2) (C 2) wr n H1 h1 H2 h2 hn0 (by omega)
    go_wp2_with (go_at_call 37; refine hcall.mono ?_; rintro e w' ⟨q, rfl, hr1, hr2, hr3, hE2⟩)
    ·
     go_ret
     exact ⟨_, rfl, by omega, by omega, fun h => by omega, hE.trans hE2⟩
    ·
     go_roundw
     case rel =>
      have hq := hr3 (by omega)
      have hql := hq.2.2
      have hrow : lenRow 3 (f k) = lenD (f k 1) + lenD (f k 2) := by simp [lenRow, sumN, lenD, hd0]
      refine ⟨k + 1, _, by omega, by go_num, rfl, by omega, ?_, hE.trans hE2, fun j h => ?_⟩
      ·
       have : sumN (fun i => lenRow 3 (f i)) (k + 1) = sumN (fun i => lenRow 3 (f i)) k + lenRow 3 (f k) := rfl
       omega
      ·
       rcases Nat.lt_succ_iff_lt_or_eq.1 h with h' | h'
       ·
        exact hsm j h'
       ·
        subst h'
        intro i hi
        match i, hi with
        | 0, _ => rw [hd0]; exact trivial
        | 1, _ => exact hq.1
        | 2, _ => exact hq.2.1
     case measure => simp [intOf]; omega
   ·
    have hkx : k = len := by omega
    subst hkx
    go_wp2
    go_ret
    exact ⟨_, rfl, by omega, by omega, fun _ => ⟨sz_end (by omega) (by omega) hsm, by rw [lenD_list]; omega⟩, hE⟩

theorem szNodeS_any (d : D) (H : Has d (.list 4)) : SzD 15 d := by
 obtain ⟨len, f, rfl, HRa⟩ := H.list
 exact szNodeS_list len f HRa

set_option maxHeartbeats 1000000 in
theorem szEdge_any (S : Nat → Prop) (x0 : Int) (x1 : ByteArray) (x2 : Int) (x3 : Int) (d4 : D) (c4 : Value) (w : World) (l : Int)  (z1 : x1.size ≤ maxLen) (H4 : Has d4 (.list 3)) (h4 : DIn S w d4 c4) (l0 : 0 ≤ l) (l1 : l ≤ 1048576) :
  Calls Tryz.prog 38 #[.agg #[.int .i64 x0, .string x1, .int .i64 x2, .int .i64 x3, c4], .int .i64 l] w fun e w' => ∃ q : Int, e = .returned (.int .i64 q) ∧ -1 ≤ q ∧ q ≤ l ∧ (0 ≤ q → x1.size ≤ 1048576 ∧ SmallD d4 ∧ (lenD d4 : Int) ≤ l - q) ∧ Ext w w' := by
 unfold maxLen at z1
 have g4 := fun (W : World) (hW : Ext w W) => h4.ext hW
 obtain ⟨a4, cap4, l4, f4, hdd4, hcc4, hl4, _⟩ := list_shape H4 h4
 subst hcc4
 clear hdd4 h4
 go_enter Tryz.func38, Tryz.ntmps38
 go_wp2_with (first
  | (go_at_call 72; refine (szPropS_any d4 H4 S _ _ _ (g4 _ ((Ext.refl w).alloc _)) (by omega) (by omega)).mono ?_; rintro e w1 ⟨q1, rfl, qa1, qb1, qg1, E1⟩; have bx1_0 := box_cell E1 0 _ rfl; have bx1_1 := box_cell E1 1 _ rfl; have bx1_2 := box_cell E1 2 _ rfl; have bx1_3 := box_cell E1 3 _ rfl; have bx1_4 := box_cell E1 4 _ rfl))
 all_goals go_ret
 all_goals first
  | exact ⟨_, rfl, by omega, by omega, fun h => by omega, ((Ext.refl w).alloc _)⟩
  | exact ⟨_, rfl, by omega, by omega, fun h => by omega, (((Ext.refl w).alloc _).trans E1)⟩
  | exact ⟨_, rfl, by omega, by omega, fun h => by have G1 := qg1 (by omega); have L1 := G1.2; exact ⟨by omega, G1.1, by omega⟩, (((Ext.refl w).alloc _).trans E1)⟩

set_option maxHeartbeats 1000000 in
theorem szEdgeS_list (len : Nat) (f : Nat → Nat → D) (HRa : ∀ i, i < len → HasRow 5 (f i)) : SzD 16 (.list 5 len f) := by
 intro S v w l hv l0 l1
 obtain ⟨a, cap, rfl, hm⟩ := hv.list_eq
 unfold maxLen at hm
 by_cases hbig : l < len
 ·
  go_enter Tryz.func16, Tryz.ntmps16
  go_wp2
  go_ret
  exact ⟨_, rfl, by omega, by omega, fun h => by omega, Ext.refl _⟩
 ·
  go_enter Tryz.func16, Tryz.ntmps16
  go_wp2
  go_loopw [1, 5] (fun l' i wr => ∃ (k : Nat) (n : Int), k ≤ len ∧ i = .int .i64 k ∧ l' = .int .i64 n ∧ 0 ≤ n ∧ n + len + sumN (fun i => lenRow 5 (f i)) k ≤ l ∧ Ext w wr ∧ ∀ j, j < k → SmallRow 5 (f j)) (fun _ i _ => len - (intOf i).toNat)
  case atStart => exact ⟨0, _, Nat.zero_le _, rfl, rfl, by omega, by simp [sumN], Ext.refl _, fun j h => by omega⟩
  case round =>
   obtain ⟨k, n, hk, rfl, rfl, hn0, hn1, hE, hsm⟩ := hrel
   by_cases hlt : k < len
   ·
    obtain ⟨cap2, b, off, C, hsl, hlo, hb, ec, hx⟩ := (hv.ext hE).at hlt
    cases hsl
    have HR := HRa k hlt
    obtain ⟨x0, hd0⟩ := (show Has (f k 0) .int from HR 0 (by decide)).int
    have h0 := hx 0 (by decide)
    have e0 := ec 0 (by decide)
    rw [hd0] at h0
    obtain ⟨y0, z0⟩ := h0.int_eq
    rw [y0] at e0
    clear y0
    obtain ⟨x1, hd1⟩ := (show Has (f k 1) .str from HR 1 (by decide)).str
    have h1 := hx 1 (by decide)
    have e1 := ec 1 (by decide)
    rw [hd1] at h1
    obtain ⟨y1, z1⟩ := h1.str_eq
    rw [y1] at e1
    clear y1
    obtain ⟨x2, hd2⟩ := (show Has (f k 2) .int from HR 2 (by decide)).int
    have h2 := hx 2 (by decide)
    have e2 := ec 2 (by decide)
    rw [hd2] at h2
    obtain ⟨y2, z2⟩ := h2.int_eq
    rw [y2] at e2
    clear y2
    obtain ⟨x3, hd3⟩ := (show Has (f k 3) .int from HR 3 (by decide)).int
    have h3 := hx 3 (by decide)
    have e3 := ec 3 (by decide)
    rw [hd3] at h3
    obtain ⟨y3, z3⟩ := h3.int_eq
    rw [y3] at e3
    clear y3
    have H4 : Has (f k 4) (.list 3) := HR 4 (by decide)
    have h4 := hx 4 (by decide)
    have e4 := ec 4 (by decide)
    simp only [Nat.add_zero] at e0
    clear hx ec
    have hcall := szEdge_any S x0 x1 x2 x3 (f k 4) (C 4) wr n z1 H4 h4 hn0 (by omega)
    go_wp2_with (go_at_call 38; refine hcall.mono ?_; rintro e w' ⟨q, rfl, hr1, hr2, hr3, hE2⟩)
    ·
     go_ret
     exact ⟨_, rfl, by omega, by omega, fun h => by omega, hE.trans hE2⟩
    ·
     go_roundw
     case rel =>
      have hq := hr3 (by omega)
      have hql := hq.2.2
      have hrow : lenRow 5 (f k) = lenD (f k 4) := by simp [lenRow, sumN, lenD, hd0, hd1, hd2, hd3]
      refine ⟨k + 1, _, by omega, by go_num, rfl, by omega, ?_, hE.trans hE2, fun j h => ?_⟩
      ·
       have : sumN (fun i => lenRow 5 (f i)) (k + 1) = sumN (fun i => lenRow 5 (f i)) k + lenRow 5 (f k) := rfl
       omega
      ·
       rcases Nat.lt_succ_iff_lt_or_eq.1 h with h' | h'
       ·
        exact hsm j h'
       ·
        subst h'
        intro i hi
        match i, hi with
        | 0, _ => rw [hd0]; exact trivial
        | 1, _ => rw [hd1]; exact (show x1.size ≤ 1048576 from hq.1)
        | 2, _ => rw [hd2]; exact trivial
        | 3, _ => rw [hd3]; exact trivial
        | 4, _ => exact hq.2.1
     case measure => simp [intOf]; omega
   ·
    have hkx : k = len := by omega
    subst hkx
    go_wp2
    go_ret
    exact ⟨_, rfl, by omega, by omega, fun _ => ⟨sz_end (by omega) (by omega) hsm, by rw [lenD_list]; omega⟩, hE⟩

theorem szEdgeS_any (d : D) (H : Has d (.list 5)) : SzD 16 d := by
 obtain ⟨len, f, rfl, HRa⟩ := H.list
 exact szEdgeS_list len f HRa

set_option maxHeartbeats 1000000 in
theorem szGraph_any (S : Nat → Prop) (d0 : D) (c0 : Value) (d1 : D) (c1 : Value) (x2 : Int) (x3 : Int) (w : World) (l : Int)  (H0 : Has d0 (.list 4)) (h0 : DIn S w d0 c0) (H1 : Has d1 (.list 5)) (h1 : DIn S w d1 c1) (l0 : 0 ≤ l) (l1 : l ≤ 1048576) :
  Calls Tryz.prog 4 #[.agg #[c0, c1, .int .i64 x2, .int .i64 x3], .int .i64 l] w fun e w' => ∃ q : Int, e = .returned (.int .i64 q) ∧ -1 ≤ q ∧ q ≤ l ∧ (0 ≤ q → SmallD d0 ∧ SmallD d1 ∧ (lenD d0 : Int) + (lenD d1 : Int) ≤ l - q) ∧ Ext w w' := by
 have g0 := fun (W : World) (hW : Ext w W) => h0.ext hW
 obtain ⟨a0, cap0, l0, f0, hdd0, hcc0, hl0, _⟩ := list_shape H0 h0
 subst hcc0
 clear hdd0 h0
 have g1 := fun (W : World) (hW : Ext w W) => h1.ext hW
 obtain ⟨a1, cap1, l1, f1, hdd1, hcc1, hl1, _⟩ := list_shape H1 h1
 subst hcc1
 clear hdd1 h1
 go_enter Tryz.func4, Tryz.ntmps4
 go_wp2_with (first
  | (go_at_call 15; refine (szNodeS_any d0 H0 S _ _ _ (g0 _ ((Ext.refl w).alloc _)) (by omega) (by omega)).mono ?_; rintro e w1 ⟨q1, rfl, qa1, qb1, qg1, E1⟩; have bx1_0 := box_cell E1 0 _ rfl; have bx1_1 := box_cell E1 1 _ rfl; have bx1_2 := box_cell E1 2 _ rfl; have bx1_3 := box_cell E1 3 _ rfl)
  | (go_at_call 16; refine (szEdgeS_any d1 H1 S _ _ _ (g1 _ (((Ext.refl w).alloc _).trans E1)) (by omega) (by omega)).mono ?_; rintro e w2 ⟨q2, rfl, qa2, qb2, qg2, E2⟩; have bx2_0 := box_cell (E1.trans E2) 0 _ rfl; have bx2_1 := box_cell (E1.trans E2) 1 _ rfl; have bx2_2 := box_cell (E1.trans E2) 2 _ rfl; have bx2_3 := box_cell (E1.trans E2) 3 _ rfl))
 all_goals go_ret
 all_goals first
  | exact ⟨_, rfl, by omega, by omega, fun h => by omega, ((Ext.refl w).alloc _)⟩
  | exact ⟨_, rfl, by omega, by omega, fun h => by omega, (((Ext.refl w).alloc _).trans E1)⟩
  | exact ⟨_, rfl, by omega, by omega, fun h => by omega, ((((Ext.refl w).alloc _).trans E1).trans E2)⟩
  | exact ⟨_, rfl, by omega, by omega, fun h => by have G1 := qg1 (by omega); have L1 := G1.2; have G2 := qg2 (by omega); have L2 := G2.2; exact ⟨G1.1, G2.1, by omega⟩, ((((Ext.refl w).alloc _).trans E1).trans E2)⟩

end Go.Proofs.YteijgejpenlgjaaGreat
