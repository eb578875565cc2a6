/- What impl.exprWithin and impl.ExprOk answer. -/
import Derived.Test.YtjcbcfpdgdaffaaDoorEWithThy
namespace Go.Proofs.YtjcbcfpdgdaffaaDoor
open Go.RowKit Go.Deep
set_option linter.unusedVariables false

theorem box_frozen {w W : World} {cs : Array Value} {T : TypeId} (h : Ext (w.alloc (.cells cs T)) W) : ∀ o, W.frozen? ⟨w.heap.size, o, none⟩ = false := by
  intro o
  rw [(bcell h).2 _ _ (by simp)]
  simp
theorem box_lt {w W : World} {ob : Obj} (h : Ext (w.alloc ob) W) : w.heap.size < W.heap.size := by have := h.le; simp at this; omega

set_option maxRecDepth 100000 in
set_option maxHeartbeats 4000000 in
theorem within14 (m : Nat)  (S : Nat → Prop) (x0 x1 x2 : Int) (x3 : ByteArray) (d4 : D) (c4 : Value) (x5 x6 : ByteArray) (d7 : D) (c7 : Value) (w : World) (hp : Pairs w) (z0 : (Lit.int .i64 x0).wf = true) (z1 : (Lit.int .i64 x1).wf = true) (z2 : (Lit.int .i64 x2).wf = true) (z3 : x3.size ≤ maxLen) (H4 : Has d4 (.list 2)) (h4 : DIn S w d4 c4) (z5 : x5.size ≤ maxLen) (z6 : x6.size ≤ maxLen) (H7 : Has d7 (.list 8)) (h7 : DIn S w d7 c7) (hk : x0 = 14) :
    Calls Tryd.prog 14 #[.agg #[.int .i64 x0, .int .i64 x1, .int .i64 x2, .string x3, c4, .string x5, .string x6, c7], .int .i64 (m + 1 : Nat)] w fun e w' => e = .returned (.bool (eok (m + 1) x0 (.mk x1 x2 x3 (vsOf d4)) x5 x6 d7)) ∧ Ext w w' := by
  obtain ⟨a4, cap4, l4, f4, hD4, rfl, _, _⟩ := list_shape H4 h4
  obtain ⟨a7, cap7, len, f, rfl, rfl, hl7, HRa⟩ := list_shape H7 h7
  clear hD4
  unfold maxLen at hl7
  have hmz : (((m + 1 : Nat) : Int) == 0) = false := by simp; omega
  subst hk
  have HR : Hid (eok (m + 1) 14 (V.mk x1 x2 x3 (vsOf d4)) x5 x6 (.list (rowsOf 8).length len f) = noB 0 (V.mk x1 x2 x3 (vsOf d4)) x5 x6 (.list (rowsOf 8).length len f)) := eok14 m _ x5 x6 _ len f
  have hno := fun (W : World) (hW : Ext w W) => isNoExpr_any S 0 x1 x2 x3 d4 _ x5 x6 _ _ W z1 z2 z3 H4 (h4.ext hW) H7 (h7.ext hW)
  generalize noB 0 (V.mk x1 x2 x3 (vsOf d4)) x5 x6 (.list (rowsOf 8).length len f) = R at HR hno
  go_enter Tryd.func14, Tryd.ntmps14
  go_wp2_with (go_at_call 28; refine (hno _ ((Ext.refl w).alloc _)).mono ?_; rintro e w9 ⟨rfl, E9⟩)
  go_ret
  exact ⟨ret_bool HR.out.symm, ((Ext.refl w).alloc _).trans E9⟩

set_option maxRecDepth 100000 in
set_option maxHeartbeats 4000000 in
theorem within1 (m : Nat)  (S : Nat → Prop) (x0 x1 x2 : Int) (x3 : ByteArray) (d4 : D) (c4 : Value) (x5 x6 : ByteArray) (d7 : D) (c7 : Value) (w : World) (hp : Pairs w) (z0 : (Lit.int .i64 x0).wf = true) (z1 : (Lit.int .i64 x1).wf = true) (z2 : (Lit.int .i64 x2).wf = true) (z3 : x3.size ≤ maxLen) (H4 : Has d4 (.list 2)) (h4 : DIn S w d4 c4) (z5 : x5.size ≤ maxLen) (z6 : x6.size ≤ maxLen) (H7 : Has d7 (.list 8)) (h7 : DIn S w d7 c7) (hk : x0 = 1) :
    Calls Tryd.prog 14 #[.agg #[.int .i64 x0, .int .i64 x1, .int .i64 x2, .string x3, c4, .string x5, .string x6, c7], .int .i64 (m + 1 : Nat)] w fun e w' => e = .returned (.bool (eok (m + 1) x0 (.mk x1 x2 x3 (vsOf d4)) x5 x6 d7)) ∧ Ext w w' := by
  obtain ⟨a4, cap4, l4, f4, hD4, rfl, _, _⟩ := list_shape H4 h4
  obtain ⟨a7, cap7, len, f, rfl, rfl, hl7, HRa⟩ := list_shape H7 h7
  clear hD4
  unfold maxLen at hl7
  have hmz : (((m + 1 : Nat) : Int) == 0) = false := by simp; omega
  subst hk
  have hval : ∀ W, Ext w W → ValIn 0 W (V.mk x1 x2 x3 (vsOf d4)) (.agg #[.int .i64 x1, .int .i64 x2, .string x3, .slice a4 l4 cap4]) := fun W hW => valIn_of z1 z2 z3 H4 (h4.ext hW)
  have HR : Hid (eok (m + 1) 1 (V.mk x1 x2 x3 (vsOf d4)) x5 x6 (.list (rowsOf 8).length len f) = (okN 3 (V.mk x1 x2 x3 (vsOf d4)) && litB (V.mk x1 x2 x3 (vsOf d4)) && noB 0 zeroV x5 x6 (.list (rowsOf 8).length len f))) := eok1 m _ x5 x6 _ len f
  have hno : ∀ W, Ext w W → Calls Tryd.prog 28 #[.agg #[.int .i64 0, .int .i64 0, .int .i64 0, .string ⟨#[]⟩, .slice none 0 0, .string x5, .string x6, .slice a7 len cap7]] W fun e w' => e = .returned (.bool (noB 0 zeroV x5 x6 (.list (rowsOf 8).length len f))) ∧ Ext W w' := fun W hW => isNoExpr_any S 0 0 0 ⟨#[]⟩ nilV _ x5 x6 _ _ W (by decide) (by decide) (by decide) nilV_has (nilV_in S W) H7 (h7.ext hW)
  generalize noB 0 zeroV x5 x6 (.list (rowsOf 8).length len f) = R at HR hno
  generalize (V.mk x1 x2 x3 (vsOf d4)) = X at HR hval ⊢
  have hpl := fun (W : World) (hW : Ext w W) => isPlain_any X 0 _ W (hval W hW)
  generalize (okN 3 X && litB X) = pb at HR hpl
  clear hval
  go_enter Tryd.func14, Tryd.ntmps14
  go_wp2_with fail
  refine (hpl _ ((Ext.refl w).alloc _)).mono ?_
  rintro e w1 ⟨rfl, E1⟩
  have p0 := box_cell E1 0 _ rfl
  have p1 := box_cell E1 1 _ rfl
  have p2 := box_cell E1 2 _ rfl
  have p3 := box_cell E1 3 _ rfl
  have p4 := box_cell E1 4 _ rfl
  have p5 := box_cell E1 5 _ rfl
  have p6 := box_cell E1 6 _ rfl
  have p7 := box_cell E1 7 _ rfl
  have hfz := box_frozen E1
  have hzz := box_lt E1
  cases pb
  · go_wp2
    go_ret
    exact ⟨ret_bool (by rw [HR.out]; rfl), (Ext.setCell (Ext.setCell (Ext.setCell (Ext.setCell (Ext.setCell (((Ext.refl w).alloc _).trans E1) (Nat.le_refl _) _) (Nat.le_refl _) _) (Nat.le_refl _) _) (Nat.le_refl _) _) (Nat.le_refl _) _)⟩
  · go_wp2_with (go_at_call 28; refine (hno _ (Ext.setCell (Ext.setCell (Ext.setCell (Ext.setCell (Ext.setCell (((Ext.refl w).alloc _).trans E1) (Nat.le_refl _) _) (Nat.le_refl _) _) (Nat.le_refl _) _) (Nat.le_refl _) _) (Nat.le_refl _) _)).mono ?_; rintro e w9 ⟨rfl, E9⟩)
    go_ret
    exact ⟨ret_bool (by rw [HR.out]; rfl), ((Ext.setCell (Ext.setCell (Ext.setCell (Ext.setCell (Ext.setCell (((Ext.refl w).alloc _).trans E1) (Nat.le_refl _) _) (Nat.le_refl _) _) (Nat.le_refl _) _) (Nat.le_refl _) _) (Nat.le_refl _) _).trans E9)⟩

set_option maxRecDepth 100000 in
set_option maxHeartbeats 4000000 in
theorem within2 (m : Nat)  (S : Nat → Prop) (x0 x1 x2 : Int) (x3 : ByteArray) (d4 : D) (c4 : Value) (x5 x6 : ByteArray) (d7 : D) (c7 : Value) (w : World) (hp : Pairs w) (z0 : (Lit.int .i64 x0).wf = true) (z1 : (Lit.int .i64 x1).wf = true) (z2 : (Lit.int .i64 x2).wf = true) (z3 : x3.size ≤ maxLen) (H4 : Has d4 (.list 2)) (h4 : DIn S w d4 c4) (z5 : x5.size ≤ maxLen) (z6 : x6.size ≤ maxLen) (H7 : Has d7 (.list 8)) (h7 : DIn S w d7 c7) (hk : x0 = 2) :
    Calls Tryd.prog 14 #[.agg #[.int .i64 x0, .int .i64 x1, .int .i64 x2, .string x3, c4, .string x5, .string x6, c7], .int .i64 (m + 1 : Nat)] w fun e w' => e = .returned (.bool (eok (m + 1) x0 (.mk x1 x2 x3 (vsOf d4)) x5 x6 d7)) ∧ Ext w w' := by
  obtain ⟨a4, cap4, l4, f4, hD4, rfl, _, _⟩ := list_shape H4 h4
  obtain ⟨a7, cap7, len, f, rfl, rfl, hl7, HRa⟩ := list_shape H7 h7
  clear hD4
  unfold maxLen at hl7
  have hmz : (((m + 1 : Nat) : Int) == 0) = false := by simp; omega
  subst hk
  have HR : Hid (eok (m + 1) 2 (V.mk x1 x2 x3 (vsOf d4)) x5 x6 (.list (rowsOf 8).length len f) = (nameB x5 && noB 0 (V.mk x1 x2 x3 (vsOf d4)) ⟨#[]⟩ x6 (.list (rowsOf 8).length len f))) := eok24 m _ x5 x6 _ len f 2 (by decide)
  have hno := fun (W : World) (hW : Ext w W) => isNoExpr_any S 0 x1 x2 x3 d4 _ ⟨#[]⟩ x6 _ _ W z1 z2 z3 H4 (h4.ext hW) H7 (h7.ext hW)
  generalize noB 0 (V.mk x1 x2 x3 (vsOf d4)) ⟨#[]⟩ x6 (.list (rowsOf 8).length len f) = R at HR hno
  have hnm := fun (W : World) => implNameOk_any x5 W z5
  generalize nameB x5 = pb at HR hnm
  go_enter Tryd.func14, Tryd.ntmps14
  go_wp2_with fail
  refine (hnm _).mono ?_
  rintro e w1 ⟨rfl, rfl⟩
  cases pb
  · go_wp2
    go_ret
    exact ⟨ret_bool (by rw [HR.out]; rfl), ((Ext.refl w).alloc _)⟩
  · go_wp2_with (go_at_call 28; refine (hno _ ((Ext.refl w).alloc _)).mono ?_; rintro e w9 ⟨rfl, E9⟩)
    go_ret
    exact ⟨ret_bool (by rw [HR.out]; rfl), (((Ext.refl w).alloc _).trans E9)⟩

set_option maxRecDepth 100000 in
set_option maxHeartbeats 4000000 in
theorem within4 (m : Nat)  (S : Nat → Prop) (x0 x1 x2 : Int) (x3 : ByteArray) (d4 : D) (c4 : Value) (x5 x6 : ByteArray) (d7 : D) (c7 : Value) (w : World) (hp : Pairs w) (z0 : (Lit.int .i64 x0).wf = true) (z1 : (Lit.int .i64 x1).wf = true) (z2 : (Lit.int .i64 x2).wf = true) (z3 : x3.size ≤ maxLen) (H4 : Has d4 (.list 2)) (h4 : DIn S w d4 c4) (z5 : x5.size ≤ maxLen) (z6 : x6.size ≤ maxLen) (H7 : Has d7 (.list 8)) (h7 : DIn S w d7 c7) (hk : x0 = 4) :
    Calls Tryd.prog 14 #[.agg #[.int .i64 x0, .int .i64 x1, .int .i64 x2, .string x3, c4, .string x5, .string x6, c7], .int .i64 (m + 1 : Nat)] w fun e w' => e = .returned (.bool (eok (m + 1) x0 (.mk x1 x2 x3 (vsOf d4)) x5 x6 d7)) ∧ Ext w w' := by
  obtain ⟨a4, cap4, l4, f4, hD4, rfl, _, _⟩ := list_shape H4 h4
  obtain ⟨a7, cap7, len, f, rfl, rfl, hl7, HRa⟩ := list_shape H7 h7
  clear hD4
  unfold maxLen at hl7
  have hmz : (((m + 1 : Nat) : Int) == 0) = false := by simp; omega
  subst hk
  have HR : Hid (eok (m + 1) 4 (V.mk x1 x2 x3 (vsOf d4)) x5 x6 (.list (rowsOf 8).length len f) = (nameB x5 && noB 0 (V.mk x1 x2 x3 (vsOf d4)) ⟨#[]⟩ x6 (.list (rowsOf 8).length len f))) := eok24 m _ x5 x6 _ len f 4 (by decide)
  have hno := fun (W : World) (hW : Ext w W) => isNoExpr_any S 0 x1 x2 x3 d4 _ ⟨#[]⟩ x6 _ _ W z1 z2 z3 H4 (h4.ext hW) H7 (h7.ext hW)
  generalize noB 0 (V.mk x1 x2 x3 (vsOf d4)) ⟨#[]⟩ x6 (.list (rowsOf 8).length len f) = R at HR hno
  have hnm := fun (W : World) => implNameOk_any x5 W z5
  generalize nameB x5 = pb at HR hnm
  go_enter Tryd.func14, Tryd.ntmps14
  go_wp2_with fail
  refine (hnm _).mono ?_
  rintro e w1 ⟨rfl, rfl⟩
  cases pb
  · go_wp2
    go_ret
    exact ⟨ret_bool (by rw [HR.out]; rfl), ((Ext.refl w).alloc _)⟩
  · go_wp2_with (go_at_call 28; refine (hno _ ((Ext.refl w).alloc _)).mono ?_; rintro e w9 ⟨rfl, E9⟩)
    go_ret
    exact ⟨ret_bool (by rw [HR.out]; rfl), (((Ext.refl w).alloc _).trans E9)⟩

set_option maxRecDepth 100000 in
set_option maxHeartbeats 4000000 in
theorem within3 (m : Nat)  (S : Nat → Prop) (x0 x1 x2 : Int) (x3 : ByteArray) (d4 : D) (c4 : Value) (x5 x6 : ByteArray) (d7 : D) (c7 : Value) (w : World) (hp : Pairs w) (z0 : (Lit.int .i64 x0).wf = true) (z1 : (Lit.int .i64 x1).wf = true) (z2 : (Lit.int .i64 x2).wf = true) (z3 : x3.size ≤ maxLen) (H4 : Has d4 (.list 2)) (h4 : DIn S w d4 c4) (z5 : x5.size ≤ maxLen) (z6 : x6.size ≤ maxLen) (H7 : Has d7 (.list 8)) (h7 : DIn S w d7 c7) (hk : x0 = 3) :
    Calls Tryd.prog 14 #[.agg #[.int .i64 x0, .int .i64 x1, .int .i64 x2, .string x3, c4, .string x5, .string x6, c7], .int .i64 (m + 1 : Nat)] w fun e w' => e = .returned (.bool (eok (m + 1) x0 (.mk x1 x2 x3 (vsOf d4)) x5 x6 d7)) ∧ Ext w w' := by
  obtain ⟨a4, cap4, l4, f4, hD4, rfl, _, _⟩ := list_shape H4 h4
  obtain ⟨a7, cap7, len, f, rfl, rfl, hl7, HRa⟩ := list_shape H7 h7
  clear hD4
  unfold maxLen at hl7
  have hmz : (((m + 1 : Nat) : Int) == 0) = false := by simp; omega
  subst hk
  have HR : Hid (eok (m + 1) 3 (V.mk x1 x2 x3 (vsOf d4)) x5 x6 (.list (rowsOf 8).length len f) = (nameB x5 && nameB x6 && noB 0 (V.mk x1 x2 x3 (vsOf d4)) ⟨#[]⟩ ⟨#[]⟩ (.list (rowsOf 8).length len f))) := eok3 m _ x5 x6 _ len f
  have hno := fun (W : World) (hW : Ext w W) => isNoExpr_any S 0 x1 x2 x3 d4 _ ⟨#[]⟩ ⟨#[]⟩ _ _ W z1 z2 z3 H4 (h4.ext hW) H7 (h7.ext hW)
  generalize noB 0 (V.mk x1 x2 x3 (vsOf d4)) ⟨#[]⟩ ⟨#[]⟩ (.list (rowsOf 8).length len f) = R at HR hno
  have hnm := fun (W : World) => implNameOk_any x5 W z5
  have hky := fun (W : World) => implNameOk_any x6 W z6
  generalize nameB x5 = pb at HR hnm
  generalize nameB x6 = qb at HR hky
  go_enter Tryd.func14, Tryd.ntmps14
  go_wp2_with fail
  refine (hnm _).mono ?_
  rintro e w1 ⟨rfl, rfl⟩
  cases pb
  · go_wp2
    go_ret
    exact ⟨ret_bool (by rw [HR.out]; rfl), ((Ext.refl w).alloc _)⟩
  go_wp2_with fail
  refine (hky _).mono ?_
  rintro e w1 ⟨rfl, rfl⟩
  cases qb
  · go_wp2
    go_ret
    exact ⟨ret_bool (by rw [HR.out]; rfl), ((Ext.refl w).alloc _)⟩
  · go_wp2_with (go_at_call 28; refine (hno _ ((Ext.refl w).alloc _)).mono ?_; rintro e w9 ⟨rfl, E9⟩)
    go_ret
    exact ⟨ret_bool (by rw [HR.out]; rfl), (((Ext.refl w).alloc _).trans E9)⟩

set_option maxRecDepth 100000 in
set_option maxHeartbeats 4000000 in
theorem within9 (m : Nat) (hm4 : m + 1 ≤ 4) (ih : EW m) (S : Nat → Prop) (x0 x1 x2 : Int) (x3 : ByteArray) (d4 : D) (c4 : Value) (x5 x6 : ByteArray) (d7 : D) (c7 : Value) (w : World) (hp : Pairs w) (z0 : (Lit.int .i64 x0).wf = true) (z1 : (Lit.int .i64 x1).wf = true) (z2 : (Lit.int .i64 x2).wf = true) (z3 : x3.size ≤ maxLen) (H4 : Has d4 (.list 2)) (h4 : DIn S w d4 c4) (z5 : x5.size ≤ maxLen) (z6 : x6.size ≤ maxLen) (H7 : Has d7 (.list 8)) (h7 : DIn S w d7 c7) (hk : x0 = 9) :
    Calls Tryd.prog 14 #[.agg #[.int .i64 x0, .int .i64 x1, .int .i64 x2, .string x3, c4, .string x5, .string x6, c7], .int .i64 (m + 1 : Nat)] w fun e w' => e = .returned (.bool (eok (m + 1) x0 (.mk x1 x2 x3 (vsOf d4)) x5 x6 d7)) ∧ Ext w w' := by
  obtain ⟨a4, cap4, l4, f4, hD4, rfl, _, _⟩ := list_shape H4 h4
  obtain ⟨a7, cap7, len, f, rfl, rfl, hl7, HRa⟩ := list_shape H7 h7
  clear hD4
  unfold maxLen at hl7
  have hmz : (((m + 1 : Nat) : Int) == 0) = false := by simp; omega
  subst hk
  have HR : Hid (eok (m + 1) 9 (V.mk x1 x2 x3 (vsOf d4)) x5 x6 (.list (rowsOf 8).length len f) = (decide ((len : Int) = 1) && ((List.range len).all fun i => eokRow m (f i)) && noB 0 (V.mk x1 x2 x3 (vsOf d4)) x5 x6 nilD)) := eokOne m _ x5 x6 _ len f 9 (by decide)
  have hno := fun (W : World) (hW : Ext w W) => isNoExpr_any S 0 x1 x2 x3 d4 _ x5 x6 nilD _ W z1 z2 z3 H4 (h4.ext hW) nilD_has (nilD_in S W)
  generalize noB 0 (V.mk x1 x2 x3 (vsOf d4)) x5 x6 nilD = R at HR hno
  have hpw := fun (W : World) (hW : Ext w W) => partsWithin_any (m + 1) (Nat.succ_pos _) hm4 ih S len f _ W (hp.ext hW) HRa (h7.ext hW)
  change ∀ W, Ext w W → Calls Tryd.prog 26 #[.slice a7 len cap7, .int .i64 (m + 1 : Nat)] W fun e w' => e = .returned (.bool ((List.range len).all fun i => eokRow m (f i))) ∧ Ext W w' at hpw
  generalize ((List.range len).all fun i => eokRow m (f i)) = A at HR hpw
  by_cases hl1 : (len : Int) = 1
  · have hd : decide ((len : Int) = 1) = true := decide_eq_true hl1
    rw [hd] at HR
    have hb : ((len : Int) == 1) = true := by simpa using hl1
    go_enter Tryd.func14, Tryd.ntmps14
    go_wp2_with fail
    refine (hpw _ ((Ext.refl w).alloc _)).mono ?_
    rintro e w1 ⟨rfl, E1⟩
    have p0 := box_cell E1 0 _ rfl
    have p1 := box_cell E1 1 _ rfl
    have p2 := box_cell E1 2 _ rfl
    have p3 := box_cell E1 3 _ rfl
    have p4 := box_cell E1 4 _ rfl
    have p5 := box_cell E1 5 _ rfl
    have p6 := box_cell E1 6 _ rfl
    have p7 := box_cell E1 7 _ rfl
    have hfz := box_frozen E1
    have hzz := box_lt E1
    cases A
    · go_wp2
      go_ret
      exact ⟨ret_bool (by rw [HR.out]; rfl), (Ext.setCell (Ext.setCell (((Ext.refl w).alloc _).trans E1) (Nat.le_refl _) _) (Nat.le_refl _) _)⟩
    · go_wp2_with (go_at_call 28; refine (hno _ (Ext.setCell (Ext.setCell (((Ext.refl w).alloc _).trans E1) (Nat.le_refl _) _) (Nat.le_refl _) _)).mono ?_; rintro e w9 ⟨rfl, E9⟩)
      go_ret
      exact ⟨ret_bool (by rw [HR.out]; rfl), ((Ext.setCell (Ext.setCell (((Ext.refl w).alloc _).trans E1) (Nat.le_refl _) _) (Nat.le_refl _) _).trans E9)⟩
  · have hd : decide ((len : Int) = 1) = false := decide_eq_false hl1
    rw [hd] at HR
    have hb : ((len : Int) == 1) = false := by simpa using hl1
    go_enter Tryd.func14, Tryd.ntmps14
    go_wp2
    go_ret
    exact ⟨ret_bool (by rw [HR.out]; rfl), ((Ext.refl w).alloc _)⟩

set_option maxRecDepth 100000 in
set_option maxHeartbeats 4000000 in
theorem within11 (m : Nat) (hm4 : m + 1 ≤ 4) (ih : EW m) (S : Nat → Prop) (x0 x1 x2 : Int) (x3 : ByteArray) (d4 : D) (c4 : Value) (x5 x6 : ByteArray) (d7 : D) (c7 : Value) (w : World) (hp : Pairs w) (z0 : (Lit.int .i64 x0).wf = true) (z1 : (Lit.int .i64 x1).wf = true) (z2 : (Lit.int .i64 x2).wf = true) (z3 : x3.size ≤ maxLen) (H4 : Has d4 (.list 2)) (h4 : DIn S w d4 c4) (z5 : x5.size ≤ maxLen) (z6 : x6.size ≤ maxLen) (H7 : Has d7 (.list 8)) (h7 : DIn S w d7 c7) (hk : x0 = 11) :
    Calls Tryd.prog 14 #[.agg #[.int .i64 x0, .int .i64 x1, .int .i64 x2, .string x3, c4, .string x5, .string x6, c7], .int .i64 (m + 1 : Nat)] w fun e w' => e = .returned (.bool (eok (m + 1) x0 (.mk x1 x2 x3 (vsOf d4)) x5 x6 d7)) ∧ Ext w w' := by
  obtain ⟨a4, cap4, l4, f4, hD4, rfl, _, _⟩ := list_shape H4 h4
  obtain ⟨a7, cap7, len, f, rfl, rfl, hl7, HRa⟩ := list_shape H7 h7
  clear hD4
  unfold maxLen at hl7
  have hmz : (((m + 1 : Nat) : Int) == 0) = false := by simp; omega
  subst hk
  have HR : Hid (eok (m + 1) 11 (V.mk x1 x2 x3 (vsOf d4)) x5 x6 (.list (rowsOf 8).length len f) = (decide ((len : Int) = 1) && ((List.range len).all fun i => eokRow m (f i)) && noB 0 (V.mk x1 x2 x3 (vsOf d4)) x5 x6 nilD)) := eokOne m _ x5 x6 _ len f 11 (by decide)
  have hno := fun (W : World) (hW : Ext w W) => isNoExpr_any S 0 x1 x2 x3 d4 _ x5 x6 nilD _ W z1 z2 z3 H4 (h4.ext hW) nilD_has (nilD_in S W)
  generalize noB 0 (V.mk x1 x2 x3 (vsOf d4)) x5 x6 nilD = R at HR hno
  have hpw := fun (W : World) (hW : Ext w W) => partsWithin_any (m + 1) (Nat.succ_pos _) hm4 ih S len f _ W (hp.ext hW) HRa (h7.ext hW)
  change ∀ W, Ext w W → Calls Tryd.prog 26 #[.slice a7 len cap7, .int .i64 (m + 1 : Nat)] W fun e w' => e = .returned (.bool ((List.range len).all fun i => eokRow m (f i))) ∧ Ext W w' at hpw
  generalize ((List.range len).all fun i => eokRow m (f i)) = A at HR hpw
  by_cases hl1 : (len : Int) = 1
  · have hd : decide ((len : Int) = 1) = true := decide_eq_true hl1
    rw [hd] at HR
    have hb : ((len : Int) == 1) = true := by simpa using hl1
    go_enter Tryd.func14, Tryd.ntmps14
    go_wp2_with fail
    refine (hpw _ ((Ext.refl w).alloc _)).mono ?_
    rintro e w1 ⟨rfl, E1⟩
    have p0 := box_cell E1 0 _ rfl
    have p1 := box_cell E1 1 _ rfl
    have p2 := box_cell E1 2 _ rfl
    have p3 := box_cell E1 3 _ rfl
    have p4 := box_cell E1 4 _ rfl
    have p5 := box_cell E1 5 _ rfl
    have p6 := box_cell E1 6 _ rfl
    have p7 := box_cell E1 7 _ rfl
    have hfz := box_frozen E1
    have hzz := box_lt E1
    cases A
    · go_wp2
      go_ret
      exact ⟨ret_bool (by rw [HR.out]; rfl), (Ext.setCell (Ext.setCell (((Ext.refl w).alloc _).trans E1) (Nat.le_refl _) _) (Nat.le_refl _) _)⟩
    · go_wp2_with (go_at_call 28; refine (hno _ (Ext.setCell (Ext.setCell (((Ext.refl w).alloc _).trans E1) (Nat.le_refl _) _) (Nat.le_refl _) _)).mono ?_; rintro e w9 ⟨rfl, E9⟩)
      go_ret
      exact ⟨ret_bool (by rw [HR.out]; rfl), ((Ext.setCell (Ext.setCell (((Ext.refl w).alloc _).trans E1) (Nat.le_refl _) _) (Nat.le_refl _) _).trans E9)⟩
  · have hd : decide ((len : Int) = 1) = false := decide_eq_false hl1
    rw [hd] at HR
    have hb : ((len : Int) == 1) = false := by simpa using hl1
    go_enter Tryd.func14, Tryd.ntmps14
    go_wp2
    go_ret
    exact ⟨ret_bool (by rw [HR.out]; rfl), ((Ext.refl w).alloc _)⟩

set_option maxRecDepth 100000 in
set_option maxHeartbeats 4000000 in
theorem within13 (m : Nat) (hm4 : m + 1 ≤ 4) (ih : EW m) (S : Nat → Prop) (x0 x1 x2 : Int) (x3 : ByteArray) (d4 : D) (c4 : Value) (x5 x6 : ByteArray) (d7 : D) (c7 : Value) (w : World) (hp : Pairs w) (z0 : (Lit.int .i64 x0).wf = true) (z1 : (Lit.int .i64 x1).wf = true) (z2 : (Lit.int .i64 x2).wf = true) (z3 : x3.size ≤ maxLen) (H4 : Has d4 (.list 2)) (h4 : DIn S w d4 c4) (z5 : x5.size ≤ maxLen) (z6 : x6.size ≤ maxLen) (H7 : Has d7 (.list 8)) (h7 : DIn S w d7 c7) (hk : x0 = 13) :
    Calls Tryd.prog 14 #[.agg #[.int .i64 x0, .int .i64 x1, .int .i64 x2, .string x3, c4, .string x5, .string x6, c7], .int .i64 (m + 1 : Nat)] w fun e w' => e = .returned (.bool (eok (m + 1) x0 (.mk x1 x2 x3 (vsOf d4)) x5 x6 d7)) ∧ Ext w w' := by
  obtain ⟨a4, cap4, l4, f4, hD4, rfl, _, _⟩ := list_shape H4 h4
  obtain ⟨a7, cap7, len, f, rfl, rfl, hl7, HRa⟩ := list_shape H7 h7
  clear hD4
  unfold maxLen at hl7
  have hmz : (((m + 1 : Nat) : Int) == 0) = false := by simp; omega
  subst hk
  have HR : Hid (eok (m + 1) 13 (V.mk x1 x2 x3 (vsOf d4)) x5 x6 (.list (rowsOf 8).length len f) = (decide ((len : Int) = 1) && ((List.range len).all fun i => eokRow m (f i)) && noB 0 (V.mk x1 x2 x3 (vsOf d4)) x5 x6 nilD)) := eokOne m _ x5 x6 _ len f 13 (by decide)
  have hno := fun (W : World) (hW : Ext w W) => isNoExpr_any S 0 x1 x2 x3 d4 _ x5 x6 nilD _ W z1 z2 z3 H4 (h4.ext hW) nilD_has (nilD_in S W)
  generalize noB 0 (V.mk x1 x2 x3 (vsOf d4)) x5 x6 nilD = R at HR hno
  have hpw := fun (W : World) (hW : Ext w W) => partsWithin_any (m + 1) (Nat.succ_pos _) hm4 ih S len f _ W (hp.ext hW) HRa (h7.ext hW)
  change ∀ W, Ext w W → Calls Tryd.prog 26 #[.slice a7 len cap7, .int .i64 (m + 1 : Nat)] W fun e w' => e = .returned (.bool ((List.range len).all fun i => eokRow m (f i))) ∧ Ext W w' at hpw
  generalize ((List.range len).all fun i => eokRow m (f i)) = A at HR hpw
  by_cases hl1 : (len : Int) = 1
  · have hd : decide ((len : Int) = 1) = true := decide_eq_true hl1
    rw [hd] at HR
    have hb : ((len : Int) == 1) = true := by simpa using hl1
    go_enter Tryd.func14, Tryd.ntmps14
    go_wp2_with fail
    refine (hpw _ ((Ext.refl w).alloc _)).mono ?_
    rintro e w1 ⟨rfl, E1⟩
    have p0 := box_cell E1 0 _ rfl
    have p1 := box_cell E1 1 _ rfl
    have p2 := box_cell E1 2 _ rfl
    have p3 := box_cell E1 3 _ rfl
    have p4 := box_cell E1 4 _ rfl
    have p5 := box_cell E1 5 _ rfl
    have p6 := box_cell E1 6 _ rfl
    have p7 := box_cell E1 7 _ rfl
    have hfz := box_frozen E1
    have hzz := box_lt E1
    cases A
    · go_wp2
      go_ret
      exact ⟨ret_bool (by rw [HR.out]; rfl), (Ext.setCell (Ext.setCell (((Ext.refl w).alloc _).trans E1) (Nat.le_refl _) _) (Nat.le_refl _) _)⟩
    · go_wp2_with (go_at_call 28; refine (hno _ (Ext.setCell (Ext.setCell (((Ext.refl w).alloc _).trans E1) (Nat.le_refl _) _) (Nat.le_refl _) _)).mono ?_; rintro e w9 ⟨rfl, E9⟩)
      go_ret
      exact ⟨ret_bool (by rw [HR.out]; rfl), ((Ext.setCell (Ext.setCell (((Ext.refl w).alloc _).trans E1) (Nat.le_refl _) _) (Nat.le_refl _) _).trans E9)⟩
  · have hd : decide ((len : Int) = 1) = false := decide_eq_false hl1
    rw [hd] at HR
    have hb : ((len : Int) == 1) = false := by simpa using hl1
    go_enter Tryd.func14, Tryd.ntmps14
    go_wp2
    go_ret
    exact ⟨ret_bool (by rw [HR.out]; rfl), ((Ext.refl w).alloc _)⟩

set_option maxRecDepth 100000 in
set_option maxHeartbeats 4000000 in
theorem within15 (m : Nat) (hm4 : m + 1 ≤ 4) (ih : EW m) (S : Nat → Prop) (x0 x1 x2 : Int) (x3 : ByteArray) (d4 : D) (c4 : Value) (x5 x6 : ByteArray) (d7 : D) (c7 : Value) (w : World) (hp : Pairs w) (z0 : (Lit.int .i64 x0).wf = true) (z1 : (Lit.int .i64 x1).wf = true) (z2 : (Lit.int .i64 x2).wf = true) (z3 : x3.size ≤ maxLen) (H4 : Has d4 (.list 2)) (h4 : DIn S w d4 c4) (z5 : x5.size ≤ maxLen) (z6 : x6.size ≤ maxLen) (H7 : Has d7 (.list 8)) (h7 : DIn S w d7 c7) (hk : x0 = 15) :
    Calls Tryd.prog 14 #[.agg #[.int .i64 x0, .int .i64 x1, .int .i64 x2, .string x3, c4, .string x5, .string x6, c7], .int .i64 (m + 1 : Nat)] w fun e w' => e = .returned (.bool (eok (m + 1) x0 (.mk x1 x2 x3 (vsOf d4)) x5 x6 d7)) ∧ Ext w w' := by
  obtain ⟨a4, cap4, l4, f4, hD4, rfl, _, _⟩ := list_shape H4 h4
  obtain ⟨a7, cap7, len, f, rfl, rfl, hl7, HRa⟩ := list_shape H7 h7
  clear hD4
  unfold maxLen at hl7
  have hmz : (((m + 1 : Nat) : Int) == 0) = false := by simp; omega
  subst hk
  have HR : Hid (eok (m + 1) 15 (V.mk x1 x2 x3 (vsOf d4)) x5 x6 (.list (rowsOf 8).length len f) = (decide ((len : Int) = 1) && ((List.range len).all fun i => eokRow m (f i)) && noB 0 (V.mk x1 x2 x3 (vsOf d4)) x5 x6 nilD)) := eokOne m _ x5 x6 _ len f 15 (by decide)
  have hno := fun (W : World) (hW : Ext w W) => isNoExpr_any S 0 x1 x2 x3 d4 _ x5 x6 nilD _ W z1 z2 z3 H4 (h4.ext hW) nilD_has (nilD_in S W)
  generalize noB 0 (V.mk x1 x2 x3 (vsOf d4)) x5 x6 nilD = R at HR hno
  have hpw := fun (W : World) (hW : Ext w W) => partsWithin_any (m + 1) (Nat.succ_pos _) hm4 ih S len f _ W (hp.ext hW) HRa (h7.ext hW)
  change ∀ W, Ext w W → Calls Tryd.prog 26 #[.slice a7 len cap7, .int .i64 (m + 1 : Nat)] W fun e w' => e = .returned (.bool ((List.range len).all fun i => eokRow m (f i))) ∧ Ext W w' at hpw
  generalize ((List.range len).all fun i => eokRow m (f i)) = A at HR hpw
  by_cases hl1 : (len : Int) = 1
  · have hd : decide ((len : Int) = 1) = true := decide_eq_true hl1
    rw [hd] at HR
    have hb : ((len : Int) == 1) = true := by simpa using hl1
    go_enter Tryd.func14, Tryd.ntmps14
    go_wp2_with fail
    refine (hpw _ ((Ext.refl w).alloc _)).mono ?_
    rintro e w1 ⟨rfl, E1⟩
    have p0 := box_cell E1 0 _ rfl
    have p1 := box_cell E1 1 _ rfl
    have p2 := box_cell E1 2 _ rfl
    have p3 := box_cell E1 3 _ rfl
    have p4 := box_cell E1 4 _ rfl
    have p5 := box_cell E1 5 _ rfl
    have p6 := box_cell E1 6 _ rfl
    have p7 := box_cell E1 7 _ rfl
    have hfz := box_frozen E1
    have hzz := box_lt E1
    cases A
    · go_wp2
      go_ret
      exact ⟨ret_bool (by rw [HR.out]; rfl), (Ext.setCell (Ext.setCell (((Ext.refl w).alloc _).trans E1) (Nat.le_refl _) _) (Nat.le_refl _) _)⟩
    · go_wp2_with (go_at_call 28; refine (hno _ (Ext.setCell (Ext.setCell (((Ext.refl w).alloc _).trans E1) (Nat.le_refl _) _) (Nat.le_refl _) _)).mono ?_; rintro e w9 ⟨rfl, E9⟩)
      go_ret
      exact ⟨ret_bool (by rw [HR.out]; rfl), ((Ext.setCell (Ext.setCell (((Ext.refl w).alloc _).trans E1) (Nat.le_refl _) _) (Nat.le_refl _) _).trans E9)⟩
  · have hd : decide ((len : Int) = 1) = false := decide_eq_false hl1
    rw [hd] at HR
    have hb : ((len : Int) == 1) = false := by simpa using hl1
    go_enter Tryd.func14, Tryd.ntmps14
    go_wp2
    go_ret
    exact ⟨ret_bool (by rw [HR.out]; rfl), ((Ext.refl w).alloc _)⟩

set_option maxRecDepth 100000 in
set_option maxHeartbeats 4000000 in
theorem withinTwo (m : Nat) (hm4 : m + 1 ≤ 4) (ih : EW m) (S : Nat → Prop) (x0 x1 x2 : Int) (x3 : ByteArray) (d4 : D) (c4 : Value) (x5 x6 : ByteArray) (d7 : D) (c7 : Value) (w : World) (hp : Pairs w) (z0 : (Lit.int .i64 x0).wf = true) (z1 : (Lit.int .i64 x1).wf = true) (z2 : (Lit.int .i64 x2).wf = true) (z3 : x3.size ≤ maxLen) (H4 : Has d4 (.list 2)) (h4 : DIn S w d4 c4) (z5 : x5.size ≤ maxLen) (z6 : x6.size ≤ maxLen) (H7 : Has d7 (.list 8)) (h7 : DIn S w d7 c7) (h1 : ¬ x0 = 1) (h2 : ¬ x0 = 2) (h3 : ¬ x0 = 3) (hh4 : ¬ x0 = 4) (h9 : ¬ x0 = 9) (h11 : ¬ x0 = 11) (h13 : ¬ x0 = 13) (h14 : ¬ x0 = 14) (h15 : ¬ x0 = 15) :
    Calls Tryd.prog 14 #[.agg #[.int .i64 x0, .int .i64 x1, .int .i64 x2, .string x3, c4, .string x5, .string x6, c7], .int .i64 (m + 1 : Nat)] w fun e w' => e = .returned (.bool (eok (m + 1) x0 (.mk x1 x2 x3 (vsOf d4)) x5 x6 d7)) ∧ Ext w w' := by
  obtain ⟨a4, cap4, l4, f4, hD4, rfl, _, _⟩ := list_shape H4 h4
  obtain ⟨a7, cap7, len, f, rfl, rfl, hl7, HRa⟩ := list_shape H7 h7
  clear hD4
  unfold maxLen at hl7
  have hmz : (((m + 1 : Nat) : Int) == 0) = false := by simp; omega
  have HR : Hid (eok (m + 1) x0 (V.mk x1 x2 x3 (vsOf d4)) x5 x6 (.list (rowsOf 8).length len f) = (pairB x0 && decide ((len : Int) = 2) && ((List.range len).all fun i => eokRow m (f i)) && noB 0 (V.mk x1 x2 x3 (vsOf d4)) x5 x6 nilD)) := eokTwo m _ x5 x6 _ len f x0 h1 h2 h3 hh4 h9 h11 h13 h14 h15
  have hno := fun (W : World) (hW : Ext w W) => isNoExpr_any S 0 x1 x2 x3 d4 _ x5 x6 nilD _ W z1 z2 z3 H4 (h4.ext hW) nilD_has (nilD_in S W)
  generalize noB 0 (V.mk x1 x2 x3 (vsOf d4)) x5 x6 nilD = R at HR hno
  have hpw := fun (W : World) (hW : Ext w W) => partsWithin_any (m + 1) (Nat.succ_pos _) hm4 ih S len f _ W (hp.ext hW) HRa (h7.ext hW)
  change ∀ W, Ext w W → Calls Tryd.prog 26 #[.slice a7 len cap7, .int .i64 (m + 1 : Nat)] W fun e w' => e = .returned (.bool ((List.range len).all fun i => eokRow m (f i))) ∧ Ext W w' at hpw
  generalize ((List.range len).all fun i => eokRow m (f i)) = A at HR hpw
  have hpr := fun (W : World) (hW : Ext w W) => isPair_any x0 W (hp.ext hW)
  generalize pairB x0 = pb at HR hpr
  have n1 : (x0 == 1) = false := by simpa using h1
  have n2 : (x0 == 2) = false := by simpa using h2
  have n3 : (x0 == 3) = false := by simpa using h3
  have n4 : (x0 == 4) = false := by simpa using hh4
  have n9 : (x0 == 9) = false := by simpa using h9
  have n11 : (x0 == 11) = false := by simpa using h11
  have n13 : (x0 == 13) = false := by simpa using h13
  have n14 : (x0 == 14) = false := by simpa using h14
  have n15 : (x0 == 15) = false := by simpa using h15
  go_enter Tryd.func14, Tryd.ntmps14
  go_wp2_with fail
  refine (hpr _ ((Ext.refl w).alloc _)).mono ?_
  rintro e w1 ⟨rfl, rfl⟩
  cases pb
  · go_wp2
    go_ret
    exact ⟨ret_bool (by rw [HR.out]; rfl), ((Ext.refl w).alloc _)⟩
  by_cases hl1 : (len : Int) = 2
  · have hd : decide ((len : Int) = 2) = true := decide_eq_true hl1
    rw [hd] at HR
    have hb : ((len : Int) == 2) = true := by simpa using hl1
    go_wp2_with fail
    refine (hpw _ ((Ext.refl w).alloc _)).mono ?_
    rintro e w1 ⟨rfl, E1⟩
    have p0 := box_cell E1 0 _ rfl
    have p1 := box_cell E1 1 _ rfl
    have p2 := box_cell E1 2 _ rfl
    have p3 := box_cell E1 3 _ rfl
    have p4 := box_cell E1 4 _ rfl
    have p5 := box_cell E1 5 _ rfl
    have p6 := box_cell E1 6 _ rfl
    have p7 := box_cell E1 7 _ rfl
    have hfz := box_frozen E1
    have hzz := box_lt E1
    cases A
    · go_wp2
      go_ret
      exact ⟨ret_bool (by rw [HR.out]; rfl), (Ext.setCell (Ext.setCell (((Ext.refl w).alloc _).trans E1) (Nat.le_refl _) _) (Nat.le_refl _) _)⟩
    · go_wp2_with (go_at_call 28; refine (hno _ (Ext.setCell (Ext.setCell (((Ext.refl w).alloc _).trans E1) (Nat.le_refl _) _) (Nat.le_refl _) _)).mono ?_; rintro e w9 ⟨rfl, E9⟩)
      go_ret
      exact ⟨ret_bool (by rw [HR.out]; rfl), ((Ext.setCell (Ext.setCell (((Ext.refl w).alloc _).trans E1) (Nat.le_refl _) _) (Nat.le_refl _) _).trans E9)⟩
  · have hd : decide ((len : Int) = 2) = false := decide_eq_false hl1
    rw [hd] at HR
    have hb : ((len : Int) == 2) = false := by simpa using hl1
    go_wp2
    go_ret
    exact ⟨ret_bool (by rw [HR.out]; rfl), ((Ext.refl w).alloc _)⟩

theorem within_zero : EW 0 := by
  intro S x0 x1 x2 x3 d4 c4 x5 x6 d7 c7 w hp z0 z1 z2 z3 H4 h4 z5 z6 H7 h7
  obtain ⟨a4, cap4, l4, f4, hD4, rfl, _, _⟩ := list_shape H4 h4
  obtain ⟨a7, cap7, len, f, hD7, rfl, hl7, HRa⟩ := list_shape H7 h7
  clear hD4 hD7
  go_enter Tryd.func14, Tryd.ntmps14
  go_wp2
  go_ret
  exact ⟨rfl, ((Ext.refl w).alloc _)⟩
theorem within_any : ∀ m, m ≤ 4 → EW m := by
  intro m
  induction m with
  | zero => intro _; exact within_zero
  | succ m ih =>
    intro hm S x0 x1 x2 x3 d4 c4 x5 x6 d7 c7 w hp z0 z1 z2 z3 H4 h4 z5 z6 H7 h7
    have ihm := ih (by omega)
    by_cases h1 : x0 = 1
    · exact within1 m S x0 x1 x2 x3 d4 c4 x5 x6 d7 c7 w hp z0 z1 z2 z3 H4 h4 z5 z6 H7 h7 h1
    by_cases h2 : x0 = 2
    · exact within2 m S x0 x1 x2 x3 d4 c4 x5 x6 d7 c7 w hp z0 z1 z2 z3 H4 h4 z5 z6 H7 h7 h2
    by_cases h3 : x0 = 3
    · exact within3 m S x0 x1 x2 x3 d4 c4 x5 x6 d7 c7 w hp z0 z1 z2 z3 H4 h4 z5 z6 H7 h7 h3
    by_cases h4' : x0 = 4
    · exact within4 m S x0 x1 x2 x3 d4 c4 x5 x6 d7 c7 w hp z0 z1 z2 z3 H4 h4 z5 z6 H7 h7 h4'
    by_cases h9 : x0 = 9
    · exact within9 m hm ihm S x0 x1 x2 x3 d4 c4 x5 x6 d7 c7 w hp z0 z1 z2 z3 H4 h4 z5 z6 H7 h7 h9
    by_cases h11 : x0 = 11
    · exact within11 m hm ihm S x0 x1 x2 x3 d4 c4 x5 x6 d7 c7 w hp z0 z1 z2 z3 H4 h4 z5 z6 H7 h7 h11
    by_cases h13 : x0 = 13
    · exact within13 m hm ihm S x0 x1 x2 x3 d4 c4 x5 x6 d7 c7 w hp z0 z1 z2 z3 H4 h4 z5 z6 H7 h7 h13
    by_cases h14 : x0 = 14
    · exact within14 m S x0 x1 x2 x3 d4 c4 x5 x6 d7 c7 w hp z0 z1 z2 z3 H4 h4 z5 z6 H7 h7 h14
    by_cases h15 : x0 = 15
    · exact within15 m hm ihm S x0 x1 x2 x3 d4 c4 x5 x6 d7 c7 w hp z0 z1 z2 z3 H4 h4 z5 z6 H7 h7 h15
    exact withinTwo m hm ihm S x0 x1 x2 x3 d4 c4 x5 x6 d7 c7 w hp z0 z1 z2 z3 H4 h4 z5 z6 H7 h7 h1 h2 h3 h4' h9 h11 h13 h14 h15

set_option maxHeartbeats 400000 in
theorem implExprOk_any (S : Nat → Prop) (x0 x1 x2 : Int) (x3 : ByteArray) (d4 : D) (c4 : Value) (x5 x6 : ByteArray) (d7 : D) (c7 : Value) (w : World) (hp : Pairs w) (z0 : (Lit.int .i64 x0).wf = true) (z1 : (Lit.int .i64 x1).wf = true) (z2 : (Lit.int .i64 x2).wf = true) (z3 : x3.size ≤ maxLen) (H4 : Has d4 (.list 2)) (h4 : DIn S w d4 c4) (z5 : x5.size ≤ maxLen) (z6 : x6.size ≤ maxLen) (H7 : Has d7 (.list 8)) (h7 : DIn S w d7 c7) :
    Calls Tryd.prog 7 #[.agg #[.int .i64 x0, .int .i64 x1, .int .i64 x2, .string x3, c4, .string x5, .string x6, c7]] w fun e w' => e = .returned (.bool (eok 4 x0 (.mk x1 x2 x3 (vsOf d4)) x5 x6 d7)) ∧ Ext w w' := by
  have hc := fun (W : World) (hW : Ext w W) => within_any 4 (by omega) S x0 x1 x2 x3 d4 c4 x5 x6 d7 c7 W (hp.ext hW) z0 z1 z2 z3 H4 (h4.ext hW) z5 z6 H7 (h7.ext hW)
  generalize eok 4 x0 (.mk x1 x2 x3 (vsOf d4)) x5 x6 d7 = R at hc ⊢
  obtain ⟨a4, cap4, l4, f4, hD4, hC4, _, _⟩ := list_shape H4 h4
  obtain ⟨a7, cap7, l7, f7, hD7, hC7, _, _⟩ := list_shape H7 h7
  subst hC4 hC7
  clear h4 h7 hD4 hD7
  go_enter Tryd.func7, Tryd.ntmps7
  go_wp2_with (go_at_call 14; refine (hc _ ((Ext.refl _).alloc _)).mono ?_; rintro e w' ⟨rfl, hE2⟩)
  go_ret
  exact ⟨rfl, ((Ext.refl _).alloc _).trans hE2⟩
end Go.Proofs.YtjcbcfpdgdaffaaDoor
