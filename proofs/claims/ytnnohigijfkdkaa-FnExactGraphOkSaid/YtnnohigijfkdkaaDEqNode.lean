/- What the laws' functions eq.. answer of two that lie in memory as the same: true. -/
import Derived.Test.YtnnohigijfkdkaaDEqCell
import Derived.BigRegion
import Derived.Deep.RegionWith
namespace Go.Proofs.Ytnnohigijfkdkaa
open Go.RowKit Go.Deep

set_option maxHeartbeats 2000000 in
theorem eqNode_any (S S2 : Nat → Prop) (x0 : Int) (d1 : D) (c1 k1 : Value) (d2 : D) (c2 k2 : Value) (w : World)  (H1 : Has d1 (.list 0)) (h1 : DIn S w d1 c1) (i1 : DIn S2 w d1 k1) (H2 : Has d2 (.list 3)) (h2 : DIn S w d2 c2) (i2 : DIn S2 w d2 k2) :
    Calls Try.prog 34 #[.agg #[.int .i64 x0, c1, c2], .agg #[.int .i64 x0, k1, k2]] w fun e w' => e = .returned (.bool true) ∧ Ext w w' := by
  have g1 := fun (W : World) (hW : Ext w W) => h1.ext hW
  have m1 := fun (W : World) (hW : Ext w W) => i1.ext hW
  obtain ⟨a1, cap1, l1, f1, hdd1, hcc1, hl1, _⟩ := list_shape H1 h1
  subst hcc1
  clear hdd1 h1
  obtain ⟨b1, bcap1, bl1, bf1, hdd1, hcc1, hbl1, _⟩ := list_shape H1 i1
  subst hcc1
  clear hdd1 i1
  have g2 := fun (W : World) (hW : Ext w W) => h2.ext hW
  have m2 := fun (W : World) (hW : Ext w W) => i2.ext hW
  obtain ⟨a2, cap2, l2, f2, hdd2, hcc2, hl2, _⟩ := list_shape H2 h2
  subst hcc2
  clear hdd2 h2
  obtain ⟨b2, bcap2, bl2, bf2, hdd2, hcc2, hbl2, _⟩ := list_shape H2 i2
  subst hcc2
  clear hdd2 i2
  go_enter Try.func34, Try.ntmps34
  go_wp2_with (first
    | (go_at_call 47; refine (eqStringS_any d1 H1 S S2 _ _ _ (g1 _ (((Ext.refl w).alloc _).alloc _)) (m1 _ (((Ext.refl w).alloc _).alloc _))).mono ?_; rintro e w1 ⟨rfl, E1⟩; have bx1_0 := box2_fst E1 0 _ rfl; have by1_0 := box2_snd E1 0 _ rfl; have bx1_1 := box2_fst E1 1 _ rfl; have by1_1 := box2_snd E1 1 _ rfl; have bx1_2 := box2_fst E1 2 _ rfl; have by1_2 := box2_snd E1 2 _ rfl)
    | (go_at_call 48; refine (eqPropS_any d2 H2 S S2 _ _ _ (g2 _ ((((Ext.refl w).alloc _).alloc _).trans E1)) (m2 _ ((((Ext.refl w).alloc _).alloc _).trans E1))).mono ?_; rintro e w2 ⟨rfl, E2⟩; have bx2_0 := box2_fst (E1.trans E2) 0 _ rfl; have by2_0 := box2_snd (E1.trans E2) 0 _ rfl; have bx2_1 := box2_fst (E1.trans E2) 1 _ rfl; have by2_1 := box2_snd (E1.trans E2) 1 _ rfl; have bx2_2 := box2_fst (E1.trans E2) 2 _ rfl; have by2_2 := box2_snd (E1.trans E2) 2 _ rfl))
  go_ret
  exact ⟨rfl, (((((Ext.refl w).alloc _).alloc _).trans E1).trans E2)⟩

set_option maxHeartbeats 2000000 in
theorem eqNodeS_list (len : Nat) (f : Nat → Nat → D) (HRa : ∀ i, i < len → HasRow 4 (f i)) : EqD 19 (.list 3 len f) := by
  intro S S2 u v w hu hv
  obtain ⟨a, cap, rfl, hm⟩ := hu.list_eq
  obtain ⟨a2, cap2, rfl, _⟩ := hv.list_eq
  unfold maxLen at hm
  go_enter Try.func19, Try.ntmps19
  go_wp2
  go_loopw [5] (fun i wr => ∃ k : Nat, k ≤ len ∧ i = .int .i64 k ∧ Ext w wr) (fun i _ => len - (intOf i).toNat)
  case atStart => exact ⟨0, Nat.zero_le _, rfl, Ext.refl _⟩
  case round =>
    obtain ⟨k, hk, rfl, hE⟩ := hrel
    by_cases hlt : k < len
    · obtain ⟨cap3, b, off, C, hsl, _, _, ec, hx⟩ := (hu.ext hE).at hlt
      cases hsl
      obtain ⟨cap4, b4, off4, C4, hsl, _, _, ec4, hx4⟩ := (hv.ext hE).at hlt
      cases hsl
      have HR := HRa k hlt
      obtain ⟨x0, hd0⟩ := (show Has (f k 0) .int from HR 0 (by decide)).int
      have h0 := hx 0 (by decide)
      have e0 := ec 0 (by decide)
      rw [hd0] at h0
      obtain ⟨y0, z0⟩ := h0.int_eq
      rw [y0] at e0
      clear y0
      have H1 : Has (f k 1) (.list 0) := HR 1 (by decide)
      have h1 := hx 1 (by decide)
      have e1 := ec 1 (by decide)
      have H2 : Has (f k 2) (.list 3) := HR 2 (by decide)
      have h2 := hx 2 (by decide)
      have e2 := ec 2 (by decide)
      simp only [Nat.add_zero] at e0
      clear hx ec
      have r0 := hx4 0 (by decide)
      have re0 := ec4 0 (by decide)
      rw [hd0] at r0
      have ry0 := r0.int_eq.1
      rw [ry0] at re0
      clear ry0 r0
      have r1 := hx4 1 (by decide)
      have re1 := ec4 1 (by decide)
      have r2 := hx4 2 (by decide)
      have re2 := ec4 2 (by decide)
      simp only [Nat.add_zero] at re0
      clear hx4 ec4 HR
      have q1 := h1.ext (Ext.refl _).drew
      have p1 := r1.ext (Ext.refl _).drew
      have q2 := h2.ext (Ext.refl _).drew
      have p2 := r2.ext (Ext.refl _).drew
      have hcall := eqNode_any S S2 x0 (f k 1) (C 1) (C4 1) (f k 2) (C 2) (C4 2) _ H1 q1 p1 H2 q2 p2
      go_wp2_with fail
      go_region_with (go_at_call 34; refine hcall.mono ?_; rintro e w' ⟨rfl, hE2⟩)
      all_goals
        go_wp2
        go_roundw
        case rel => exact ⟨k + 1, by omega, by go_num, hE.drew.trans hE2⟩
        case measure => simp [intOf]; omega
    · go_wp2
      go_ret
      exact ⟨rfl, hE⟩

theorem eqNodeS_any (d : D) (H : Has d (.list 4)) : EqD 19 d := by
  obtain ⟨len, f, rfl, HRa⟩ := H.list
  exact eqNodeS_list len f HRa

end Go.Proofs.Ytnnohigijfkdkaa
