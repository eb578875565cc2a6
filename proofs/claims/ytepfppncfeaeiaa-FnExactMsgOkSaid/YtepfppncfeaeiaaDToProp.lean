/- What the laws' functions to.. hand back: a copy in new memory of its own. -/
import Derived.Test.YtepfppncfeaeiaaDToValue
namespace Go.Proofs.Ytepfppncfeaeiaa
open Go.RowKit Go.Deep

end Go.Proofs.Ytepfppncfeaeiaa
