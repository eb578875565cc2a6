/- What the laws' functions to.. hand back: a copy in new memory of its own. -/
import Derived.Test.YtnnohigijfkdkaaDToProp
namespace Go.Proofs.Ytnnohigijfkdkaa
open Go.RowKit Go.Deep

end Go.Proofs.Ytnnohigijfkdkaa
