/- What the laws' functions eq.. answer of two that lie in memory as the same: true. -/
import Derived.Test.YtjcbcfpdgdaffaaDoorDEqGraph
import Derived.BigRegion
import Derived.Deep.RegionWith
namespace Go.Proofs.YtjcbcfpdgdaffaaDoor
open Go.RowKit Go.Deep

end Go.Proofs.YtjcbcfpdgdaffaaDoor
