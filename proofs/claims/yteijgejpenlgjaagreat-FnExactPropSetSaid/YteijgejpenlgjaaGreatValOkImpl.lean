/- What impl.ValueOk answers. -/
import Derived.Test.YteijgejpenlgjaaGreatValTerm
namespace Go.Proofs.YteijgejpenlgjaaGreat
open Go.RowKit Go.Deep

set_option maxHeartbeats 400000 in
theorem implValueOk_any (x : V) (lo : Nat) (v : Value) (w : World) (hv : ValIn lo w x v) :
  Calls Tryz.prog 89 #[v] w fun e w' => e = .returned (.bool (okN 3 x)) ∧ Ext w w' := by
 have hcall := fun W (hW : Ext w W) => termOf_any x lo v W (hv.ext hW)
 obtain ⟨kk, nn, tt, aa, ll, cc, rfl⟩ := hv.shape
 go_enter Tryz.func89, Tryz.ntmps89
 go_wp2_with fail
 refine (hcall _ ((Ext.refl _).alloc _)).mono ?_
 rintro e w' ⟨t, rfl, hF, hT, hE2⟩
 clear hcall hT
 rcases hF with rfl | ⟨ty, y, rfl⟩
 all_goals
  go_wp2
  go_ret
  exact ⟨rfl, ((Ext.refl _).alloc _).trans hE2⟩
end Go.Proofs.YteijgejpenlgjaaGreat
