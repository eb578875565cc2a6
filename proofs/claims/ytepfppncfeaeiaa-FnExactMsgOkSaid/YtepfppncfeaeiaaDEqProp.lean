/- What the laws' functions eq.. answer of two that lie in memory as the same: true. -/
import Derived.Test.YtepfppncfeaeiaaDEqValue
import Derived.BigRegion
import Derived.Deep.RegionWith
namespace Go.Proofs.Ytepfppncfeaeiaa
open Go.RowKit Go.Deep

end Go.Proofs.Ytepfppncfeaeiaa
