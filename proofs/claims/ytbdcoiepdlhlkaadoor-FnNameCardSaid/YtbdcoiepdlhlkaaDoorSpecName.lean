/- What spec.NameOk answers. -/
import Derived.Test.YtbdcoiepdlhlkaaDoorName
namespace Go.Proofs.YtbdcoiepdlhlkaaDoor
open Go.RowKit

set_option maxHeartbeats 400000 in
theorem specNameOk_any (s : ByteArray) (w : World) (hs : s.size ≤ maxLen) : Calls Tryd.prog 6 #[.string s] w fun e w' => e = .returned (.bool (nameB s)) ∧ Ext w w' := by
  go_enter Tryd.func6, Tryd.ntmps6
  go_wp2_with (go_at_call 13; refine (l2Name_any _ _ hs).mono ?_; rintro e w' ⟨rfl, hg⟩)
  go_ret
  exact ⟨rfl, hg⟩

end Go.Proofs.YtbdcoiepdlhlkaaDoor
