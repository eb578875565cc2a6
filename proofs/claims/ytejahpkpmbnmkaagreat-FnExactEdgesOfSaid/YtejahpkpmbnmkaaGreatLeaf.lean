/- What the small functions below the law answer: whether a text is one of the kept words. -/
import Derived.Test.YtejahpkpmbnmkaaGreatLeaf0
import Derived.Test.YtejahpkpmbnmkaaGreatIn1
namespace Go.Proofs.YtejahpkpmbnmkaaGreat
open Go.RowKit

def kept : List (List UInt8) := [[77, 65, 84, 67, 72], [79, 80, 84, 73, 79, 78, 65, 76], [87, 72, 69, 82, 69], [85, 78, 87, 73, 78, 68], [87, 73, 84, 72], [82, 69, 84, 85, 82, 78], [67, 82, 69, 65, 84, 69], [83, 69, 84], [68, 69, 76, 69, 84, 69], [68, 69, 84, 65, 67, 72], [65, 83], [65, 78, 68], [79, 82], [78, 79, 84], [73, 83], [78, 85, 76, 76], [73, 78], [68, 73, 83, 84, 73, 78, 67, 84], [79, 82, 68, 69, 82], [66, 89], [68, 69, 83, 67], [83, 75, 73, 80], [76, 73, 77, 73, 84], [110, 117, 108, 108], [116, 114, 117, 101], [102, 97, 108, 115, 101], [99, 111, 117, 110, 116], [115, 117, 109], [115, 105, 122, 101]]
def keptB (s : ByteArray) : Bool := kept.any fun k => s.toList == k

set_option maxHeartbeats 1000000 in
theorem isKept_any (s : ByteArray) (w : World) : Calls Tryz.prog 70 #[.string s] w fun e w' => e = .returned (.bool (keptB s)) ∧ w' = w := by
  go_enter Tryz.func70, Tryz.ntmps70
  go_wp2
  all_goals go_ret
  all_goals refine ⟨ret_bool ?_, rfl⟩
  all_goals first | (simp only [keptB, kept, List.any, *]; rfl) | simp_all
end Go.Proofs.YtejahpkpmbnmkaaGreat
