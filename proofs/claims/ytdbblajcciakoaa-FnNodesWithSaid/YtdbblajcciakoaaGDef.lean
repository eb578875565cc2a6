/- Lists without anything; the limits of a graph that is ok. -/
import Derived.Test.YtdbblajcciakoaaGSpec4
import Derived.Test.YtdbblajcciakoaaDa
namespace Go.Proofs.Ytdbblajcciakoaa
open Go.RowKit Go.Deep

end Go.Proofs.Ytdbblajcciakoaa
