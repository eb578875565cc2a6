/- What the laws' functions eq.. answer of two that lie in memory as the same: true. -/
import Derived.Test.YtepfppncfeaeiaaDEqCell
import Derived.BigRegion
import Derived.Deep.RegionWith
namespace Go.Proofs.Ytepfppncfeaeiaa
open Go.RowKit Go.Deep

set_option maxHeartbeats 2000000 in
theorem eqMsg_any (S S2 : Nat → Prop) (x0 : Int) (x1 : ByteArray) (d2 : D) (c2 k2 : Value) (x3 : Int) (w : World)  (H2 : Has d2 (.list 3)) (h2 : DIn S w d2 c2) (i2 : DIn S2 w d2 k2) :
    Calls Try.prog 8 #[.agg #[.int .i64 x0, .string x1, c2, .int .i64 x3], .agg #[.int .i64 x0, .string x1, k2, .int .i64 x3]] w fun e w' => e = .returned (.bool true) ∧ Ext w w' := by
  have g2 := fun (W : World) (hW : Ext w W) => h2.ext hW
  have m2 := fun (W : World) (hW : Ext w W) => i2.ext hW
  obtain ⟨a2, cap2, l2, f2, hdd2, hcc2, hl2, _⟩ := list_shape H2 h2
  subst hcc2
  clear hdd2 h2
  obtain ⟨b2, bcap2, bl2, bf2, hdd2, hcc2, hbl2, _⟩ := list_shape H2 i2
  subst hcc2
  clear hdd2 i2
  go_enter Try.func8, Try.ntmps8
  go_wp2_with (first
    | (go_at_call 17; refine (eqCellS_any d2 H2 S S2 _ _ _ (g2 _ (((Ext.refl w).alloc _).alloc _)) (m2 _ (((Ext.refl w).alloc _).alloc _))).mono ?_; rintro e w1 ⟨rfl, E1⟩; have bx1_0 := box2_fst E1 0 _ rfl; have by1_0 := box2_snd E1 0 _ rfl; have bx1_1 := box2_fst E1 1 _ rfl; have by1_1 := box2_snd E1 1 _ rfl; have bx1_2 := box2_fst E1 2 _ rfl; have by1_2 := box2_snd E1 2 _ rfl; have bx1_3 := box2_fst E1 3 _ rfl; have by1_3 := box2_snd E1 3 _ rfl))
  go_ret
  exact ⟨rfl, ((((Ext.refl w).alloc _).alloc _).trans E1)⟩

end Go.Proofs.Ytepfppncfeaeiaa
