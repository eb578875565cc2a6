/- What the laws' functions to.. hand back: a copy in new memory of its own. -/
import Derived.Test.YtjcbcfpdgdaffaaDoorDToNode
namespace Go.Proofs.YtjcbcfpdgdaffaaDoor
open Go.RowKit Go.Deep

end Go.Proofs.YtjcbcfpdgdaffaaDoor
