/- What impl.partsWithin answers, if impl.exprWithin answers of one less deep. -/
import Derived.Test.YtjcbcfpdgdaffaaDoorEPair
namespace Go.Proofs.YtjcbcfpdgdaffaaDoor
open Go.RowKit Go.Deep

def EW (m : Nat) : Prop := ∀ (S : Nat → Prop) (x0 x1 x2 : Int) (x3 : ByteArray) (d4 : D) (c4 : Value) (x5 x6 : ByteArray) (d7 : D) (c7 : Value) (w : World), Pairs w → (Lit.int .i64 x0).wf = true → (Lit.int .i64 x1).wf = true → (Lit.int .i64 x2).wf = true → x3.size ≤ maxLen → Has d4 (.list 2) → DIn S w d4 c4 → x5.size ≤ maxLen → x6.size ≤ maxLen → Has d7 (.list 8) → DIn S w d7 c7 →
  Calls Tryd.prog 14 #[.agg #[.int .i64 x0, .int .i64 x1, .int .i64 x2, .string x3, c4, .string x5, .string x6, c7], .int .i64 m] w fun e w' => e = .returned (.bool (eok m x0 (.mk x1 x2 x3 (vsOf d4)) x5 x6 d7)) ∧ Ext w w'

set_option maxHeartbeats 1000000 in
theorem partOne_any (m : Nat) (hm : 0 < m) (hm4 : m ≤ 4) (ih : EW (m - 1)) (S : Nat → Prop) (x0 x1 x2 : Int) (x3 : ByteArray) (d4 : D) (c4 : Value) (x5 x6 : ByteArray) (d7 : D) (c7 : Value) (w : World) (B : Nat) (hB : w.cell? ⟨B, 0, none⟩ = some (.int .i64 m)) (hBz : B < w.heap.size) (hp : Pairs w)
    (z0 : (Lit.int .i64 x0).wf = true) (z1 : (Lit.int .i64 x1).wf = true) (z2 : (Lit.int .i64 x2).wf = true) (z3 : x3.size ≤ maxLen) (H4 : Has d4 (.list 2)) (h4 : DIn S w d4 c4) (z5 : x5.size ≤ maxLen) (z6 : x6.size ≤ maxLen) (H7 : Has d7 (.list 8)) (h7 : DIn S w d7 c7) :
    Calls Tryd.prog 40 #[.agg #[.int .i64 x0, .int .i64 x1, .int .i64 x2, .string x3, c4, .string x5, .string x6, c7], .pointer (some ⟨B, 0, none⟩)] w fun e w' => e = .returned (.bool (!eok (m - 1) x0 (.mk x1 x2 x3 (vsOf d4)) x5 x6 d7)) ∧ Ext w w' := by
  have hc := fun (W : World) (hW : Ext w W) => ih S x0 x1 x2 x3 d4 c4 x5 x6 d7 c7 W (hp.ext hW) z0 z1 z2 z3 H4 (h4.ext hW) z5 z6 H7 (h7.ext hW)
  generalize eok (m - 1) x0 (.mk x1 x2 x3 (vsOf d4)) x5 x6 d7 = R at hc ⊢
  obtain ⟨a4, cap4, l4, f4, hD4, hC4, _, _⟩ := list_shape H4 h4
  obtain ⟨a7, cap7, l7, f7, hD7, hC7, _, _⟩ := list_shape H7 h7
  subst hC4 hC7
  clear h4 h7 hD4 hD7 ih
  have hwm : IntKind.i64.wrap ((m : Int) - 1) = ((m - 1 : Nat) : Int) := by rw [wrap_i64 (by omega) (by omega)]; omega
  have hB2 : (w.alloc (.cells #[.int .i64 x0, .int .i64 x1, .int .i64 x2, .string x3, .slice a4 l4 cap4, .string x5, .string x6, .slice a7 l7 cap7] 35)).cell? ⟨B, 0, none⟩ = some (.int .i64 m) := by
    rw [((Ext.refl w).alloc _).cell hBz]; exact hB
  go_enter Tryd.func40, Tryd.ntmps40
  go_wp2_with (go_at_call 14; refine (hc _ ((Ext.refl _).alloc _)).mono ?_; rintro e w' ⟨rfl, hE2⟩)
  go_ret
  exact ⟨rfl, ((Ext.refl _).alloc _).trans hE2⟩

set_option maxRecDepth 100000 in
set_option maxHeartbeats 2000000 in
theorem idxParts_any (m : Nat) (hm : 0 < m) (hm4 : m ≤ 4) (ih : EW (m - 1)) (S : Nat → Prop) (len : Nat) (f : Nat → Nat → D) (v : Value) (w : World) (B : Nat) (hB : w.cell? ⟨B, 0, none⟩ = some (.int .i64 m)) (hBz : B < w.heap.size) (hp : Pairs w) (HRa : ∀ i, i < len → HasRow 8 (f i)) (hv : DIn S w (.list 8 len f) v) :
    Calls Tryd.prog 45 #[v, .func (.func 40) #[] #[.pointer (some ⟨B, 0, none⟩)]] w fun e w' => ∃ r : Int, e = .returned (.int .i64 r) ∧ decide (0 ≤ r) = !((List.range len).all fun i => eokRow (m - 1) (f i)) ∧ Ext w w' := by
  obtain ⟨a, cap, rfl, hl⟩ := hv.list_eq
  unfold maxLen at hl
  go_enter Tryd.func45, Tryd.ntmps45
  go_wp2
  go_loopw [8] (fun i wr => ∃ k : Nat, k ≤ len ∧ i = .int .i64 k ∧ Ext w wr ∧ ∀ j, j < k → eokRow (m - 1) (f j) = true) (fun i _ => len - (intOf i).toNat)
  case atStart => exact ⟨0, Nat.zero_le _, rfl, Ext.refl _, fun j h => by omega⟩
  case round =>
    obtain ⟨k, hk, rfl, hE, hno⟩ := hrel
    by_cases hlt : k < len
    · obtain ⟨cap2, b, off, C, hsl, hlo, hb, ec, hx⟩ := (hv.ext hE).at hlt
      cases hsl
      have HR := HRa k hlt
      obtain ⟨qx0, qhd0⟩ := (show Has (f k 0) .int from HR 0 (by decide)).int
      have qh0 := hx 0 (by decide)
      have qe0 := ec 0 (by decide)
      rw [qhd0] at qh0
      obtain ⟨qy0, qz0⟩ := qh0.int_eq
      rw [qy0] at qe0
      clear qy0
      obtain ⟨qx1, qhd1⟩ := (show Has (f k 1) .int from HR 1 (by decide)).int
      have qh1 := hx 1 (by decide)
      have qe1 := ec 1 (by decide)
      rw [qhd1] at qh1
      obtain ⟨qy1, qz1⟩ := qh1.int_eq
      rw [qy1] at qe1
      clear qy1
      obtain ⟨qx2, qhd2⟩ := (show Has (f k 2) .int from HR 2 (by decide)).int
      have qh2 := hx 2 (by decide)
      have qe2 := ec 2 (by decide)
      rw [qhd2] at qh2
      obtain ⟨qy2, qz2⟩ := qh2.int_eq
      rw [qy2] at qe2
      clear qy2
      obtain ⟨qx3, qhd3⟩ := (show Has (f k 3) .str from HR 3 (by decide)).str
      have qh3 := hx 3 (by decide)
      have qe3 := ec 3 (by decide)
      rw [qhd3] at qh3
      obtain ⟨qy3, qz3⟩ := qh3.str_eq
      rw [qy3] at qe3
      clear qy3
      have qH4 : Has (f k 4) (.list 2) := HR 4 (by decide)
      have qh4 := hx 4 (by decide)
      have qe4 := ec 4 (by decide)
      obtain ⟨qx5, qhd5⟩ := (show Has (f k 5) .str from HR 5 (by decide)).str
      have qh5 := hx 5 (by decide)
      have qe5 := ec 5 (by decide)
      rw [qhd5] at qh5
      obtain ⟨qy5, qz5⟩ := qh5.str_eq
      rw [qy5] at qe5
      clear qy5
      obtain ⟨qx6, qhd6⟩ := (show Has (f k 6) .str from HR 6 (by decide)).str
      have qh6 := hx 6 (by decide)
      have qe6 := ec 6 (by decide)
      rw [qhd6] at qh6
      obtain ⟨qy6, qz6⟩ := qh6.str_eq
      rw [qy6] at qe6
      clear qy6
      have qH7 : Has (f k 7) (.list 8) := HR 7 (by decide)
      have qh7 := hx 7 (by decide)
      have qe7 := ec 7 (by decide)
      simp only [Nat.add_zero] at qe0
      clear hx ec
      have hc := partOne_any m hm hm4 ih S qx0 qx1 qx2 qx3 (f k 4) (C 4) qx5 qx6 (f k 7) (C 7) wr B (by rw [hE.cell hBz]; exact hB) (Nat.lt_of_lt_of_le hBz hE.le) (hp.ext hE) qz0 qz1 qz2 qz3 qH4 qh4 qz5 qz6 qH7 qh7
      have hrk : eok (m - 1) qx0 (.mk qx1 qx2 qx3 (vsOf (f k 4))) qx5 qx6 (f k 7) = eokRow (m - 1) (f k) := by simp only [eokRow, evalOf, qhd0, qhd1, qhd2, qhd3, qhd5, qhd6, D.int!, D.str!]
      rw [hrk] at hc
      obtain ⟨qa4, qcap4, ql4, qf4, hD4, hC4, _, _⟩ := list_shape qH4 qh4
      obtain ⟨qa7, qcap7, ql7, qf7, hD7, hC7, _, _⟩ := list_shape qH7 qh7
      rw [hC4] at hc qe4
      rw [hC7] at hc qe7
      clear hrk qH4 qh4 qH7 qh7 hC4 hC7 HR hD4 hD7
      cases hr : eokRow (m - 1) (f k)
      · rw [hr] at hc
        have hf2 : Hid (((List.range len).all fun i => eokRow (m - 1) (f i)) = false) := all_no (p := fun i => eokRow (m - 1) (f i)) hlt hr
        go_wp2_with (go_at_call 40; refine hc.mono ?_; rintro e w' ⟨rfl, hE2⟩)
        go_ret
        exact ⟨k, rfl, by rw [hf2.out]; exact decide_eq_true (by omega), hE.trans hE2⟩
      · rw [hr] at hc
        have hr2 : Hid (eokRow (m - 1) (f k) = true) := hr
        go_wp2_with (go_at_call 40; refine hc.mono ?_; rintro e w' ⟨rfl, hE2⟩)
        go_roundw
        case rel => exact ⟨k + 1, by omega, by go_num, hE.trans hE2, upto_succ (p := fun i => eokRow (m - 1) (f i)) hno hr2.out⟩
        case measure => simp [intOf]; omega
    · have hkx : k = len := by omega
      subst hkx
      have hf2 : Hid (((List.range k).all fun i => eokRow (m - 1) (f i)) = true) := all_yes (p := fun i => eokRow (m - 1) (f i)) hno
      go_wp2
      go_ret
      exact ⟨-1, rfl, by rw [hf2.out]; rfl, hE⟩

set_option maxHeartbeats 1000000 in
theorem partsWithin_any (m : Nat) (hm : 0 < m) (hm4 : m ≤ 4) (ih : EW (m - 1)) (S : Nat → Prop) (len : Nat) (f : Nat → Nat → D) (v : Value) (w : World) (hp : Pairs w) (HRa : ∀ i, i < len → HasRow 8 (f i)) (hv : DIn S w (.list 8 len f) v) :
    Calls Tryd.prog 26 #[v, .int .i64 m] w fun e w' => e = .returned (.bool ((List.range len).all fun i => eokRow (m - 1) (f i))) ∧ Ext w w' := by
  have hE0 := (Ext.refl w).alloc (.cells #[.int .i64 m] 3)
  have hB := box_cell (Ext.refl (w.alloc (.cells #[.int .i64 m] 3))) 0 _ rfl
  have hi := idxParts_any m hm hm4 ih S len f v _ w.heap.size hB (by simp) (hp.ext hE0) HRa (hv.ext hE0)
  generalize ((List.range len).all fun i => eokRow (m - 1) (f i)) = R at hi ⊢
  obtain ⟨a, cap, rfl, hl⟩ := hv.list_eq
  have hcont : Calls Tryd.prog 39 #[.slice a len cap, .func (.func 40) #[] #[.pointer (some ⟨w.heap.size, 0, none⟩)]] (w.alloc (.cells #[.int .i64 m] 3)) fun e w' => e = .returned (.bool (!R)) ∧ Ext (w.alloc (.cells #[.int .i64 m] 3)) w' := by
    go_enter Tryd.func39, Tryd.ntmps39
    go_wp2_with (go_at_call 45; refine hi.mono ?_; rintro e w' ⟨r, rfl, hr, hE⟩)
    go_ret
    exact ⟨ret_bool (by rw [← hr]), hE⟩
  go_enter Tryd.func26, Tryd.ntmps26
  go_wp2_with (go_at_call 39; refine hcont.mono ?_; rintro e w' ⟨rfl, hE2⟩)
  go_ret
  exact ⟨ret_bool (by simp), hE0.trans hE2⟩
end Go.Proofs.YtjcbcfpdgdaffaaDoor
