/- What the laws' functions eq.. answer of two that lie in memory as the same: true. -/
import Derived.Test.YtnnohigijfkdkaaDEqEdge
import Derived.BigRegion
import Derived.Deep.RegionWith
namespace Go.Proofs.Ytnnohigijfkdkaa
open Go.RowKit Go.Deep

set_option maxHeartbeats 2000000 in
theorem eqGraph_any (S S2 : Nat → Prop) (d0 : D) (c0 k0 : Value) (d1 : D) (c1 k1 : Value) (x2 : Int) (x3 : Int) (w : World)  (H0 : Has d0 (.list 4)) (h0 : DIn S w d0 c0) (i0 : DIn S2 w d0 k0) (H1 : Has d1 (.list 5)) (h1 : DIn S w d1 c1) (i1 : DIn S2 w d1 k1) :
    Calls Try.prog 8 #[.agg #[c0, c1, .int .i64 x2, .int .i64 x3], .agg #[k0, k1, .int .i64 x2, .int .i64 x3]] w fun e w' => e = .returned (.bool true) ∧ Ext w w' := by
  have g0 := fun (W : World) (hW : Ext w W) => h0.ext hW
  have m0 := fun (W : World) (hW : Ext w W) => i0.ext hW
  obtain ⟨a0, cap0, l0, f0, hdd0, hcc0, hl0, _⟩ := list_shape H0 h0
  subst hcc0
  clear hdd0 h0
  obtain ⟨b0, bcap0, bl0, bf0, hdd0, hcc0, hbl0, _⟩ := list_shape H0 i0
  subst hcc0
  clear hdd0 i0
  have g1 := fun (W : World) (hW : Ext w W) => h1.ext hW
  have m1 := fun (W : World) (hW : Ext w W) => i1.ext hW
  obtain ⟨a1, cap1, l1, f1, hdd1, hcc1, hl1, _⟩ := list_shape H1 h1
  subst hcc1
  clear hdd1 h1
  obtain ⟨b1, bcap1, bl1, bf1, hdd1, hcc1, hbl1, _⟩ := list_shape H1 i1
  subst hcc1
  clear hdd1 i1
  go_enter Try.func8, Try.ntmps8
  go_wp2_with (first
    | (go_at_call 19; refine (eqNodeS_any d0 H0 S S2 _ _ _ (g0 _ (((Ext.refl w).alloc _).alloc _)) (m0 _ (((Ext.refl w).alloc _).alloc _))).mono ?_; rintro e w1 ⟨rfl, E1⟩; have bx1_0 := box2_fst E1 0 _ rfl; have by1_0 := box2_snd E1 0 _ rfl; have bx1_1 := box2_fst E1 1 _ rfl; have by1_1 := box2_snd E1 1 _ rfl; have bx1_2 := box2_fst E1 2 _ rfl; have by1_2 := box2_snd E1 2 _ rfl; have bx1_3 := box2_fst E1 3 _ rfl; have by1_3 := box2_snd E1 3 _ rfl)
    | (go_at_call 20; refine (eqEdgeS_any d1 H1 S S2 _ _ _ (g1 _ ((((Ext.refl w).alloc _).alloc _).trans E1)) (m1 _ ((((Ext.refl w).alloc _).alloc _).trans E1))).mono ?_; rintro e w2 ⟨rfl, E2⟩; have bx2_0 := box2_fst (E1.trans E2) 0 _ rfl; have by2_0 := box2_snd (E1.trans E2) 0 _ rfl; have bx2_1 := box2_fst (E1.trans E2) 1 _ rfl; have by2_1 := box2_snd (E1.trans E2) 1 _ rfl; have bx2_2 := box2_fst (E1.trans E2) 2 _ rfl; have by2_2 := box2_snd (E1.trans E2) 2 _ rfl; have bx2_3 := box2_fst (E1.trans E2) 3 _ rfl; have by2_3 := box2_snd (E1.trans E2) 3 _ rfl))
  go_ret
  exact ⟨rfl, (((((Ext.refl w).alloc _).alloc _).trans E1).trans E2)⟩

end Go.Proofs.Ytnnohigijfkdkaa
