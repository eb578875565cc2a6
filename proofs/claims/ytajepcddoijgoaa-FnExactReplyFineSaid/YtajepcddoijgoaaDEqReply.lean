/- What the laws' functions eq.. answer of two that lie in memory as the same: true. -/
import Derived.Test.YtajepcddoijgoaaDEqValue
import Derived.BigRegion
import Derived.Deep.RegionWith
namespace Go.Proofs.Ytajepcddoijgoaa
open Go.RowKit Go.Deep

set_option maxHeartbeats 2000000 in
theorem eqReply_any (S S2 : Nat → Prop) (x0 : Int) (d1 : D) (c1 k1 : Value) (d2 : D) (c2 k2 : Value) (x3 : Int) (x4 : Bool) (w : World)  (H1 : Has d1 (.list 0)) (h1 : DIn S w d1 c1) (i1 : DIn S2 w d1 k1) (H2 : Has d2 (.list 2)) (h2 : DIn S w d2 c2) (i2 : DIn S2 w d2 k2) :
    Calls Try.prog 8 #[.agg #[.int .i64 x0, c1, c2, .int .i64 x3, .bool x4], .agg #[.int .i64 x0, k1, k2, .int .i64 x3, .bool x4]] w fun e w' => e = .returned (.bool true) ∧ Ext w w' := by
  have g1 := fun (W : World) (hW : Ext w W) => h1.ext hW
  have m1 := fun (W : World) (hW : Ext w W) => i1.ext hW
  obtain ⟨a1, cap1, l1, f1, hdd1, hcc1, hl1, _⟩ := list_shape H1 h1
  subst hcc1
  clear hdd1 h1
  obtain ⟨b1, bcap1, bl1, bf1, hdd1, hcc1, hbl1, _⟩ := list_shape H1 i1
  subst hcc1
  clear hdd1 i1
  have g2 := fun (W : World) (hW : Ext w W) => h2.ext hW
  have m2 := fun (W : World) (hW : Ext w W) => i2.ext hW
  obtain ⟨a2, cap2, l2, f2, hdd2, hcc2, hl2, _⟩ := list_shape H2 h2
  subst hcc2
  clear hdd2 h2
  obtain ⟨b2, bcap2, bl2, bf2, hdd2, hcc2, hbl2, _⟩ := list_shape H2 i2
  subst hcc2
  clear hdd2 i2
  go_enter Try.func8, Try.ntmps8
  go_wp2_with (first
    | (go_at_call 21; refine (eqStringS_any d1 H1 S S2 _ _ _ (g1 _ (((Ext.refl w).alloc _).alloc _)) (m1 _ (((Ext.refl w).alloc _).alloc _))).mono ?_; rintro e w1 ⟨rfl, E1⟩; have bx1_0 := box2_fst E1 0 _ rfl; have by1_0 := box2_snd E1 0 _ rfl; have bx1_1 := box2_fst E1 1 _ rfl; have by1_1 := box2_snd E1 1 _ rfl; have bx1_2 := box2_fst E1 2 _ rfl; have by1_2 := box2_snd E1 2 _ rfl; have bx1_3 := box2_fst E1 3 _ rfl; have by1_3 := box2_snd E1 3 _ rfl; have bx1_4 := box2_fst E1 4 _ rfl; have by1_4 := box2_snd E1 4 _ rfl)
    | (go_at_call 22; refine (eqValueS_any d2 H2 S S2 _ _ _ (g2 _ ((((Ext.refl w).alloc _).alloc _).trans E1)) (m2 _ ((((Ext.refl w).alloc _).alloc _).trans E1))).mono ?_; rintro e w2 ⟨rfl, E2⟩; have bx2_0 := box2_fst (E1.trans E2) 0 _ rfl; have by2_0 := box2_snd (E1.trans E2) 0 _ rfl; have bx2_1 := box2_fst (E1.trans E2) 1 _ rfl; have by2_1 := box2_snd (E1.trans E2) 1 _ rfl; have bx2_2 := box2_fst (E1.trans E2) 2 _ rfl; have by2_2 := box2_snd (E1.trans E2) 2 _ rfl; have bx2_3 := box2_fst (E1.trans E2) 3 _ rfl; have by2_3 := box2_snd (E1.trans E2) 3 _ rfl; have bx2_4 := box2_fst (E1.trans E2) 4 _ rfl; have by2_4 := box2_snd (E1.trans E2) 4 _ rfl))
  go_ret
  exact ⟨rfl, (((((Ext.refl w).alloc _).alloc _).trans E1).trans E2)⟩

end Go.Proofs.Ytajepcddoijgoaa
