/- What the laws' own functions answer of empty lists, and of a store without anything but rules. -/
import Derived.Test.YtbapbcdkmhkigaaStRules
import Derived.Test.YtbapbcdkmhkigaaDEqRule
import Derived.Test.YtbapbcdkmhkigaaDMkRule
import Derived.Test.YtbapbcdkmhkigaaDHlRule
namespace Go.Proofs.Ytbapbcdkmhkigaa
open Go.RowKit Go.Deep

theorem eqNodeS_nil (w : World) : Calls Try.prog 32 #[.slice none 0 0, .slice none 0 0] w fun e w' => e = .returned (.bool true) ∧ Ext w w' := by
  go_enter Try.func32, Try.ntmps32
  go_wp2
  go_loopw [5] (fun i wr => i = .int .i64 0 ∧ wr = w) (fun _ _ => 0)
  case atStart => exact ⟨rfl, rfl⟩
  case round =>
    obtain ⟨rfl, hw⟩ := hrel
    rw [hw]
    go_wp2
    go_ret
    exact ⟨rfl, Ext.refl _⟩
theorem eqEdgeS_nil (w : World) : Calls Try.prog 33 #[.slice none 0 0, .slice none 0 0] w fun e w' => e = .returned (.bool true) ∧ Ext w w' := by
  go_enter Try.func33, Try.ntmps33
  go_wp2
  go_loopw [5] (fun i wr => i = .int .i64 0 ∧ wr = w) (fun _ _ => 0)
  case atStart => exact ⟨rfl, rfl⟩
  case round =>
    obtain ⟨rfl, hw⟩ := hrel
    rw [hw]
    go_wp2
    go_ret
    exact ⟨rfl, Ext.refl _⟩
theorem eqAskS_nil (w : World) : Calls Try.prog 19 #[.slice none 0 0, .slice none 0 0] w fun e w' => e = .returned (.bool true) ∧ Ext w w' := by
  go_enter Try.func19, Try.ntmps19
  go_wp2
  go_loopw [5] (fun i wr => i = .int .i64 0 ∧ wr = w) (fun _ _ => 0)
  case atStart => exact ⟨rfl, rfl⟩
  case round =>
    obtain ⟨rfl, hw⟩ := hrel
    rw [hw]
    go_wp2
    go_ret
    exact ⟨rfl, Ext.refl _⟩
theorem eqTxS_nil (w : World) : Calls Try.prog 20 #[.slice none 0 0, .slice none 0 0] w fun e w' => e = .returned (.bool true) ∧ Ext w w' := by
  go_enter Try.func20, Try.ntmps20
  go_wp2
  go_loopw [5] (fun i wr => i = .int .i64 0 ∧ wr = w) (fun _ _ => 0)
  case atStart => exact ⟨rfl, rfl⟩
  case round =>
    obtain ⟨rfl, hw⟩ := hrel
    rw [hw]
    go_wp2
    go_ret
    exact ⟨rfl, Ext.refl _⟩
theorem markNodeS_nil (k : Int) (w : World) : Calls Try.prog 36 #[.slice none 0 0, .int .i64 k] w fun e w' => e = .returned (.int .i64 k) ∧ Ext w w' := by
  go_enter Try.func36, Try.ntmps36
  go_wp2
  go_loopw [1, 5] (fun q i wr => q = .int .i64 k ∧ i = .int .i64 0 ∧ wr = w) (fun _ _ _ => 0)
  case atStart => exact ⟨rfl, rfl, rfl⟩
  case round =>
    obtain ⟨rfl, rfl, hw⟩ := hrel
    rw [hw]
    go_wp2
    go_ret
    exact ⟨rfl, Ext.refl _⟩
theorem markEdgeS_nil (k : Int) (w : World) : Calls Try.prog 37 #[.slice none 0 0, .int .i64 k] w fun e w' => e = .returned (.int .i64 k) ∧ Ext w w' := by
  go_enter Try.func37, Try.ntmps37
  go_wp2
  go_loopw [1, 5] (fun q i wr => q = .int .i64 k ∧ i = .int .i64 0 ∧ wr = w) (fun _ _ _ => 0)
  case atStart => exact ⟨rfl, rfl, rfl⟩
  case round =>
    obtain ⟨rfl, rfl, hw⟩ := hrel
    rw [hw]
    go_wp2
    go_ret
    exact ⟨rfl, Ext.refl _⟩
theorem markAskS_nil (k : Int) (w : World) : Calls Try.prog 24 #[.slice none 0 0, .int .i64 k] w fun e w' => e = .returned (.int .i64 k) ∧ Ext w w' := by
  go_enter Try.func24, Try.ntmps24
  go_wp2
  go_loopw [1, 5] (fun q i wr => q = .int .i64 k ∧ i = .int .i64 0 ∧ wr = w) (fun _ _ _ => 0)
  case atStart => exact ⟨rfl, rfl, rfl⟩
  case round =>
    obtain ⟨rfl, rfl, hw⟩ := hrel
    rw [hw]
    go_wp2
    go_ret
    exact ⟨rfl, Ext.refl _⟩
theorem markTxS_nil (k : Int) (w : World) : Calls Try.prog 25 #[.slice none 0 0, .int .i64 k] w fun e w' => e = .returned (.int .i64 k) ∧ Ext w w' := by
  go_enter Try.func25, Try.ntmps25
  go_wp2
  go_loopw [1, 5] (fun q i wr => q = .int .i64 k ∧ i = .int .i64 0 ∧ wr = w) (fun _ _ _ => 0)
  case atStart => exact ⟨rfl, rfl, rfl⟩
  case round =>
    obtain ⟨rfl, rfl, hw⟩ := hrel
    rw [hw]
    go_wp2
    go_ret
    exact ⟨rfl, Ext.refl _⟩
theorem heldNodeS_nil (k : Int) (w : World) : Calls Try.prog 39 #[.slice none 0 0, .int .i64 k] w fun e w' => e = .returned (.int .i64 k) ∧ Ext w w' := by
  go_enter Try.func39, Try.ntmps39
  go_wp2
  go_loopw [1, 5] (fun q i wr => q = .int .i64 k ∧ i = .int .i64 0 ∧ wr = w) (fun _ _ _ => 0)
  case atStart => exact ⟨rfl, rfl, rfl⟩
  case round =>
    obtain ⟨rfl, rfl, hw⟩ := hrel
    rw [hw]
    go_wp2
    go_ret
    exact ⟨rfl, Ext.refl _⟩
theorem heldEdgeS_nil (k : Int) (w : World) : Calls Try.prog 40 #[.slice none 0 0, .int .i64 k] w fun e w' => e = .returned (.int .i64 k) ∧ Ext w w' := by
  go_enter Try.func40, Try.ntmps40
  go_wp2
  go_loopw [1, 5] (fun q i wr => q = .int .i64 k ∧ i = .int .i64 0 ∧ wr = w) (fun _ _ _ => 0)
  case atStart => exact ⟨rfl, rfl, rfl⟩
  case round =>
    obtain ⟨rfl, rfl, hw⟩ := hrel
    rw [hw]
    go_wp2
    go_ret
    exact ⟨rfl, Ext.refl _⟩
theorem heldAskS_nil (k : Int) (w : World) : Calls Try.prog 28 #[.slice none 0 0, .int .i64 k] w fun e w' => e = .returned (.int .i64 k) ∧ Ext w w' := by
  go_enter Try.func28, Try.ntmps28
  go_wp2
  go_loopw [1, 5] (fun q i wr => q = .int .i64 k ∧ i = .int .i64 0 ∧ wr = w) (fun _ _ _ => 0)
  case atStart => exact ⟨rfl, rfl, rfl⟩
  case round =>
    obtain ⟨rfl, rfl, hw⟩ := hrel
    rw [hw]
    go_wp2
    go_ret
    exact ⟨rfl, Ext.refl _⟩
theorem heldTxS_nil (k : Int) (w : World) : Calls Try.prog 29 #[.slice none 0 0, .int .i64 k] w fun e w' => e = .returned (.int .i64 k) ∧ Ext w w' := by
  go_enter Try.func29, Try.ntmps29
  go_wp2
  go_loopw [1, 5] (fun q i wr => q = .int .i64 k ∧ i = .int .i64 0 ∧ wr = w) (fun _ _ _ => 0)
  case atStart => exact ⟨rfl, rfl, rfl⟩
  case round =>
    obtain ⟨rfl, rfl, hw⟩ := hrel
    rw [hw]
    go_wp2
    go_ret
    exact ⟨rfl, Ext.refl _⟩
set_option maxHeartbeats 1000000 in
theorem eqGraph_nil (w : World) : Calls Try.prog 18 #[.agg #[.slice none 0 0, .slice none 0 0, .int .i64 0, .int .i64 0], .agg #[.slice none 0 0, .slice none 0 0, .int .i64 0, .int .i64 0]] w fun e w' => e = .returned (.bool true) ∧ Ext w w' := by
  go_enter Try.func18, Try.ntmps18
  go_wp2_with (first
    | (go_at_call 32; refine (eqNodeS_nil _).mono ?_; rintro e w1 ⟨rfl, E1⟩; have bx1_0 := box2_fst E1 0 _ rfl; have by1_0 := box2_snd E1 0 _ rfl; have bx1_1 := box2_fst E1 1 _ rfl; have by1_1 := box2_snd E1 1 _ rfl; have bx1_2 := box2_fst E1 2 _ rfl; have by1_2 := box2_snd E1 2 _ rfl; have bx1_3 := box2_fst E1 3 _ rfl; have by1_3 := box2_snd E1 3 _ rfl)
    | (go_at_call 33; refine (eqEdgeS_nil _).mono ?_; rintro e w2 ⟨rfl, E2⟩; have bx2_0 := box2_fst (E1.trans E2) 0 _ rfl; have by2_0 := box2_snd (E1.trans E2) 0 _ rfl; have bx2_1 := box2_fst (E1.trans E2) 1 _ rfl; have by2_1 := box2_snd (E1.trans E2) 1 _ rfl; have bx2_2 := box2_fst (E1.trans E2) 2 _ rfl; have by2_2 := box2_snd (E1.trans E2) 2 _ rfl; have bx2_3 := box2_fst (E1.trans E2) 3 _ rfl; have by2_3 := box2_snd (E1.trans E2) 3 _ rfl))
  go_ret
  exact ⟨rfl, ((((Ext.refl w).alloc _).alloc _).trans E1).trans E2⟩
set_option maxHeartbeats 4000000 in
theorem eqStore_new (S S2 : Nat → Prop) (d : D) (r u : Value) (w : World) (H : Has d (.list 7)) (hr : DIn S w d r) (hu : DIn S2 w d u) : Calls Try.prog 8 #[stV r, stV u] w fun e w' => e = .returned (.bool true) ∧ Ext w w' := by
  have g := fun (W : World) (hW : Ext w W) => hr.ext hW
  have m := fun (W : World) (hW : Ext w W) => hu.ext hW
  obtain ⟨ra, rc, rl, rf, hd1, hc1, _, _⟩ := list_shape H hr
  obtain ⟨ua, uc, ul, uf, hd2, hc2, _, _⟩ := list_shape H hu
  subst hc1 hc2
  clear hd1 hd2 hr hu
  unfold stV
  go_enter Try.func8, Try.ntmps8
  go_wp2_with (first
    | (go_at_call 18; refine (eqGraph_nil _).mono ?_; rintro e w1 ⟨rfl, E1⟩; have bx1_0 := box2_fst E1 0 _ rfl; have by1_0 := box2_snd E1 0 _ rfl; have bx1_1 := box2_fst E1 1 _ rfl; have by1_1 := box2_snd E1 1 _ rfl; have bx1_2 := box2_fst E1 2 _ rfl; have by1_2 := box2_snd E1 2 _ rfl; have bx1_3 := box2_fst E1 3 _ rfl; have by1_3 := box2_snd E1 3 _ rfl; have bx1_4 := box2_fst E1 4 _ rfl; have by1_4 := box2_snd E1 4 _ rfl; have bx1_5 := box2_fst E1 5 _ rfl; have by1_5 := box2_snd E1 5 _ rfl; have bx1_6 := box2_fst E1 6 _ rfl; have by1_6 := box2_snd E1 6 _ rfl; have bx1_7 := box2_fst E1 7 _ rfl; have by1_7 := box2_snd E1 7 _ rfl; have bx1_8 := box2_fst E1 8 _ rfl; have by1_8 := box2_snd E1 8 _ rfl)
    | (go_at_call 9; refine (eqRuleS_any d H S S2 _ _ _ (g _ ((((Ext.refl w).alloc _).alloc _).trans E1)) (m _ ((((Ext.refl w).alloc _).alloc _).trans E1))).mono ?_; rintro e w2 ⟨rfl, E2⟩; have bx2_0 := box2_fst (E1.trans E2) 0 _ rfl; have by2_0 := box2_snd (E1.trans E2) 0 _ rfl; have bx2_1 := box2_fst (E1.trans E2) 1 _ rfl; have by2_1 := box2_snd (E1.trans E2) 1 _ rfl; have bx2_2 := box2_fst (E1.trans E2) 2 _ rfl; have by2_2 := box2_snd (E1.trans E2) 2 _ rfl; have bx2_3 := box2_fst (E1.trans E2) 3 _ rfl; have by2_3 := box2_snd (E1.trans E2) 3 _ rfl; have bx2_4 := box2_fst (E1.trans E2) 4 _ rfl; have by2_4 := box2_snd (E1.trans E2) 4 _ rfl; have bx2_5 := box2_fst (E1.trans E2) 5 _ rfl; have by2_5 := box2_snd (E1.trans E2) 5 _ rfl; have bx2_6 := box2_fst (E1.trans E2) 6 _ rfl; have by2_6 := box2_snd (E1.trans E2) 6 _ rfl; have bx2_7 := box2_fst (E1.trans E2) 7 _ rfl; have by2_7 := box2_snd (E1.trans E2) 7 _ rfl; have bx2_8 := box2_fst (E1.trans E2) 8 _ rfl; have by2_8 := box2_snd (E1.trans E2) 8 _ rfl)
    | (go_at_call 19; refine (eqAskS_nil _).mono ?_; rintro e w3 ⟨rfl, E3⟩; have bx3_0 := box2_fst ((E1.trans E2).trans E3) 0 _ rfl; have by3_0 := box2_snd ((E1.trans E2).trans E3) 0 _ rfl; have bx3_1 := box2_fst ((E1.trans E2).trans E3) 1 _ rfl; have by3_1 := box2_snd ((E1.trans E2).trans E3) 1 _ rfl; have bx3_2 := box2_fst ((E1.trans E2).trans E3) 2 _ rfl; have by3_2 := box2_snd ((E1.trans E2).trans E3) 2 _ rfl; have bx3_3 := box2_fst ((E1.trans E2).trans E3) 3 _ rfl; have by3_3 := box2_snd ((E1.trans E2).trans E3) 3 _ rfl; have bx3_4 := box2_fst ((E1.trans E2).trans E3) 4 _ rfl; have by3_4 := box2_snd ((E1.trans E2).trans E3) 4 _ rfl; have bx3_5 := box2_fst ((E1.trans E2).trans E3) 5 _ rfl; have by3_5 := box2_snd ((E1.trans E2).trans E3) 5 _ rfl; have bx3_6 := box2_fst ((E1.trans E2).trans E3) 6 _ rfl; have by3_6 := box2_snd ((E1.trans E2).trans E3) 6 _ rfl; have bx3_7 := box2_fst ((E1.trans E2).trans E3) 7 _ rfl; have by3_7 := box2_snd ((E1.trans E2).trans E3) 7 _ rfl; have bx3_8 := box2_fst ((E1.trans E2).trans E3) 8 _ rfl; have by3_8 := box2_snd ((E1.trans E2).trans E3) 8 _ rfl)
    | (go_at_call 20; refine (eqTxS_nil _).mono ?_; rintro e w4 ⟨rfl, E4⟩; have bx4_0 := box2_fst (((E1.trans E2).trans E3).trans E4) 0 _ rfl; have by4_0 := box2_snd (((E1.trans E2).trans E3).trans E4) 0 _ rfl; have bx4_1 := box2_fst (((E1.trans E2).trans E3).trans E4) 1 _ rfl; have by4_1 := box2_snd (((E1.trans E2).trans E3).trans E4) 1 _ rfl; have bx4_2 := box2_fst (((E1.trans E2).trans E3).trans E4) 2 _ rfl; have by4_2 := box2_snd (((E1.trans E2).trans E3).trans E4) 2 _ rfl; have bx4_3 := box2_fst (((E1.trans E2).trans E3).trans E4) 3 _ rfl; have by4_3 := box2_snd (((E1.trans E2).trans E3).trans E4) 3 _ rfl; have bx4_4 := box2_fst (((E1.trans E2).trans E3).trans E4) 4 _ rfl; have by4_4 := box2_snd (((E1.trans E2).trans E3).trans E4) 4 _ rfl; have bx4_5 := box2_fst (((E1.trans E2).trans E3).trans E4) 5 _ rfl; have by4_5 := box2_snd (((E1.trans E2).trans E3).trans E4) 5 _ rfl; have bx4_6 := box2_fst (((E1.trans E2).trans E3).trans E4) 6 _ rfl; have by4_6 := box2_snd (((E1.trans E2).trans E3).trans E4) 6 _ rfl; have bx4_7 := box2_fst (((E1.trans E2).trans E3).trans E4) 7 _ rfl; have by4_7 := box2_snd (((E1.trans E2).trans E3).trans E4) 7 _ rfl; have bx4_8 := box2_fst (((E1.trans E2).trans E3).trans E4) 8 _ rfl; have by4_8 := box2_snd (((E1.trans E2).trans E3).trans E4) 8 _ rfl))
  go_ret
  exact ⟨rfl, ((((((Ext.refl w).alloc _).alloc _).trans E1).trans E2).trans E3).trans E4⟩
set_option maxHeartbeats 1000000 in
theorem markGraph_nil (k : Int) (k0 : 0 ≤ k) (w : World) : Calls Try.prog 23 #[.agg #[.slice none 0 0, .slice none 0 0, .int .i64 0, .int .i64 0], .int .i64 k] w fun e w' => e = .returned (.int .i64 k) ∧ Ext w w' := by
  have hk0 : ¬ k < 0 := by omega
  go_enter Try.func23, Try.ntmps23
  go_wp2_with (first
    | (go_at_call 36; refine (markNodeS_nil _ _).mono ?_; rintro e w1 ⟨rfl, E1⟩; have bx1_0 := box_cell E1 0 _ rfl; have bx1_1 := box_cell E1 1 _ rfl; have bx1_2 := box_cell E1 2 _ rfl; have bx1_3 := box_cell E1 3 _ rfl)
    | (go_at_call 37; refine (markEdgeS_nil _ _).mono ?_; rintro e w2 ⟨rfl, E2⟩; have bx2_0 := box_cell (E1.trans E2) 0 _ rfl; have bx2_1 := box_cell (E1.trans E2) 1 _ rfl; have bx2_2 := box_cell (E1.trans E2) 2 _ rfl; have bx2_3 := box_cell (E1.trans E2) 3 _ rfl))
  go_ret
  exact ⟨rfl, (((Ext.refl w).alloc _).trans E1).trans E2⟩
set_option maxHeartbeats 1000000 in
theorem heldGraph_nil (k : Int) (k0 : 0 ≤ k) (w : World) : Calls Try.prog 26 #[.agg #[.slice none 0 0, .slice none 0 0, .int .i64 0, .int .i64 0], .int .i64 k] w fun e w' => e = .returned (.int .i64 k) ∧ Ext w w' := by
  have hk0 : ¬ k < 0 := by omega
  go_enter Try.func26, Try.ntmps26
  go_wp2_with (first
    | (go_at_call 39; refine (heldNodeS_nil _ _).mono ?_; rintro e w1 ⟨rfl, E1⟩; have bx1_0 := box_cell E1 0 _ rfl; have bx1_1 := box_cell E1 1 _ rfl; have bx1_2 := box_cell E1 2 _ rfl; have bx1_3 := box_cell E1 3 _ rfl)
    | (go_at_call 40; refine (heldEdgeS_nil _ _).mono ?_; rintro e w2 ⟨rfl, E2⟩; have bx2_0 := box_cell (E1.trans E2) 0 _ rfl; have bx2_1 := box_cell (E1.trans E2) 1 _ rfl; have bx2_2 := box_cell (E1.trans E2) 2 _ rfl; have bx2_3 := box_cell (E1.trans E2) 3 _ rfl))
  go_ret
  exact ⟨rfl, (((Ext.refl w).alloc _).trans E1).trans E2⟩
set_option maxHeartbeats 4000000 in
theorem markStore_new (Q : Nat → Prop) (d : D) (r : Value) (w : World) (H : Has d (.list 7)) (hL : LenOk d) (ho : Own w d Q r) (hq : ∀ x, Q x → x < w.heap.size) (hb : 1 + cntD d ≤ 1000000000) :
    Calls Try.prog 11 #[stV r, .int .i64 1] w fun e w' => e = .returned (.int .i64 (1 + cntD d)) ∧ OnlyS Q w w' ∧ DIn Q w' (markD d 1) r := by
  have hc := fun (W : World) (hW : Ext w W) => markRuleS_any d H hL Q r W 1 1 rfl (ho.ext hW) hL.len hb
  have hsz : w.heap.size < (w.alloc (.cells #[.slice none 0 0, .slice none 0 0, .int .i64 0, .int .i64 0, r, .int .i64 0, .slice none 0 0, .slice none 0 0, .int .i64 0] 32)).heap.size := by simp
  have hlt : ∀ x, Q x → x ≠ w.heap.size := fun x hx => by have := hq x hx; omega
  obtain ⟨ra, rc, rfl⟩ := own_shape H ho
  unfold stV
  go_enter Try.func11, Try.ntmps11
  go_wp2_with fail
  refine (markGraph_nil _ (by decide) _).mono ?_
  rintro e w1 ⟨rfl, E1⟩; have bx1_0 := box_cell E1 0 _ rfl; have bx1_1 := box_cell E1 1 _ rfl; have bx1_2 := box_cell E1 2 _ rfl; have bx1_3 := box_cell E1 3 _ rfl; have bx1_4 := box_cell E1 4 _ rfl; have bx1_5 := box_cell E1 5 _ rfl; have bx1_6 := box_cell E1 6 _ rfl; have bx1_7 := box_cell E1 7 _ rfl; have bx1_8 := box_cell E1 8 _ rfl
  have hE1 := ((Ext.refl w).alloc (.cells #[.slice none 0 0, .slice none 0 0, .int .i64 0, .int .i64 0, .slice ra d.len! rc, .int .i64 0, .slice none 0 0, .slice none 0 0, .int .i64 0] 32)).trans E1
  go_wp2_with fail
  refine (hc _ hE1).mono ?_
  rintro e w2 ⟨rfl, hO2, hD2⟩
  have hbk := hO2.block w.heap.size (Nat.lt_of_lt_of_le hsz E1.le) (fun hx => hlt _ hx rfl)
  have p6 : w2.cell? ⟨w.heap.size, 6, none⟩ = some (.slice none 0 0) := by rw [World.cell?_of_block hbk]; exact bx1_6
  have p7 : w2.cell? ⟨w.heap.size, 7, none⟩ = some (.slice none 0 0) := by rw [World.cell?_of_block hbk]; exact bx1_7
  have hZ : w.heap.size < w2.heap.size := Nat.lt_of_lt_of_le hsz (Nat.le_trans E1.le hO2.size)
  have hO := (OnlyS.of_ext (S := Q) hE1).trans hO2
  clear hc bx1_0 bx1_1 bx1_2 bx1_3 bx1_4 bx1_5 bx1_6 bx1_7 bx1_8
  go_wp2_with fail
  refine (markAskS_nil _ _).mono ?_
  rintro e w3 ⟨rfl, E3⟩
  have p7' : w3.cell? ⟨w.heap.size, 7, none⟩ = some (.slice none 0 0) := by rw [E3.cell hZ]; exact p7
  clear p6 p7
  go_wp2_with fail
  refine (markTxS_nil _ _).mono ?_
  rintro e w4 ⟨rfl, E4⟩
  go_wp2
  go_ret
  exact ⟨rfl, hO.trans (.of_ext (E3.trans E4)), hD2.ext (E3.trans E4)⟩
set_option maxHeartbeats 4000000 in
theorem heldStore_new (S : Nat → Prop) (d : D) (r : Value) (w : World) (H : Has d (.list 7)) (hr : DIn S w (markD d 1) r) (hb : 1 + cntD d ≤ 1000000000) :
    Calls Try.prog 12 #[stV r, .int .i64 1] w fun e w' => e = .returned (.int .i64 (1 + cntD d)) ∧ Ext w w' := by
  have hc := fun (W : World) (hW : Ext w W) => heldRuleS_any d H S r W 1 1 rfl (hr.ext hW) hb
  have hneg : ¬ (1 + (cntD d : Int)) < 0 := by omega
  have hneg2 : (0 : Int) ≤ 1 + (cntD d : Int) := by omega
  obtain ⟨ra, rc, rfl⟩ := held_shape H hr
  unfold stV
  go_enter Try.func12, Try.ntmps12
  go_wp2_with (first
    | (go_at_call 26; refine (heldGraph_nil _ (by decide) _).mono ?_; rintro e w1 ⟨rfl, E1⟩; have bx1_0 := box_cell E1 0 _ rfl; have bx1_1 := box_cell E1 1 _ rfl; have bx1_2 := box_cell E1 2 _ rfl; have bx1_3 := box_cell E1 3 _ rfl; have bx1_4 := box_cell E1 4 _ rfl; have bx1_5 := box_cell E1 5 _ rfl; have bx1_6 := box_cell E1 6 _ rfl; have bx1_7 := box_cell E1 7 _ rfl; have bx1_8 := box_cell E1 8 _ rfl)
    | (go_at_call 27; refine (hc _ (((Ext.refl w).alloc _).trans E1)).mono ?_; rintro e w2 ⟨rfl, E2⟩; have bx2_0 := box_cell (E1.trans E2) 0 _ rfl; have bx2_1 := box_cell (E1.trans E2) 1 _ rfl; have bx2_2 := box_cell (E1.trans E2) 2 _ rfl; have bx2_3 := box_cell (E1.trans E2) 3 _ rfl; have bx2_4 := box_cell (E1.trans E2) 4 _ rfl; have bx2_5 := box_cell (E1.trans E2) 5 _ rfl; have bx2_6 := box_cell (E1.trans E2) 6 _ rfl; have bx2_7 := box_cell (E1.trans E2) 7 _ rfl; have bx2_8 := box_cell (E1.trans E2) 8 _ rfl)
    | (go_at_call 28; refine (heldAskS_nil _ _).mono ?_; rintro e w3 ⟨rfl, E3⟩; have bx3_0 := box_cell ((E1.trans E2).trans E3) 0 _ rfl; have bx3_1 := box_cell ((E1.trans E2).trans E3) 1 _ rfl; have bx3_2 := box_cell ((E1.trans E2).trans E3) 2 _ rfl; have bx3_3 := box_cell ((E1.trans E2).trans E3) 3 _ rfl; have bx3_4 := box_cell ((E1.trans E2).trans E3) 4 _ rfl; have bx3_5 := box_cell ((E1.trans E2).trans E3) 5 _ rfl; have bx3_6 := box_cell ((E1.trans E2).trans E3) 6 _ rfl; have bx3_7 := box_cell ((E1.trans E2).trans E3) 7 _ rfl; have bx3_8 := box_cell ((E1.trans E2).trans E3) 8 _ rfl)
    | (go_at_call 29; refine (heldTxS_nil _ _).mono ?_; rintro e w4 ⟨rfl, E4⟩))
  go_ret
  exact ⟨rfl, (((((Ext.refl w).alloc _).trans E1).trans E2).trans E3).trans E4⟩
end Go.Proofs.Ytbapbcdkmhkigaa
