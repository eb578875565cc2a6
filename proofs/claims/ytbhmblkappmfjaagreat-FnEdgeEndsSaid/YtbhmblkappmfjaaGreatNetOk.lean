/- What impl.GraphOk answers. -/
import Derived.Test.YtbhmblkappmfjaaGreatNetOf
namespace Go.Proofs.YtbhmblkappmfjaaGreat
open Go.RowKit Go.Deep

set_option maxHeartbeats 400000 in
theorem implGraphOk_any (S : Nat → Prop) (d0 d1 : D) (c0 c1 : Value) (x2 x3 : Int) (w : World) (H0 : Has d0 (.list 4)) (h0 : DIn S w d0 c0) (H1 : Has d1 (.list 5)) (h1 : DIn S w d1 c1) :
    Calls Tryz.prog 5 #[.agg #[c0, c1, .int .i64 x2, .int .i64 x3]] w fun e w' => e = .returned (.bool (graphB d0 d1 x2 x3)) ∧ Ext w w' := by
  have hcall := fun (W : World) (hW : Ext w W) => netOf_any S d0 d1 c0 c1 x2 x3 W H0 (h0.ext hW) H1 (h1.ext hW)
  obtain ⟨a0, cap0, l0, f0, hD0, rfl, _, _⟩ := list_shape H0 h0
  obtain ⟨a1, cap1, l1, f1, hD1, rfl, _, _⟩ := list_shape H1 h1
  clear hD0 hD1
  go_enter Tryz.func5, Tryz.ntmps5
  go_wp2_with fail
  refine (hcall _ ((Ext.refl _).alloc _)).mono ?_
  rintro e w' ⟨p, rfl, _, hE⟩
  go_wp2
  go_ret
  exact ⟨rfl, ((Ext.refl _).alloc _).trans hE⟩
end Go.Proofs.YtbhmblkappmfjaaGreat
