/- What the laws' functions to.. hand back: a copy in new memory of its own. -/
import Derived.Test.YtepfppncfeaeiaaDOwn
namespace Go.Proofs.Ytepfppncfeaeiaa
open Go.RowKit Go.Deep

def ToD (F : FuncId) (d : D) : Prop := ∀ (S : Nat → Prop) (v : Value) (w : World), DIn S w d v → SmallD d →
  Calls Try.prog F #[v] w fun e w' => ∃ u, e = .returned u ∧ DIn (New w.heap.size w'.heap.size) w' d u ∧ Own w' d (New w.heap.size w'.heap.size) u ∧ Ext w w'

end Go.Proofs.Ytepfppncfeaeiaa
