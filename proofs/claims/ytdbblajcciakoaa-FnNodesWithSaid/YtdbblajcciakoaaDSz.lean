/- What the laws' functions sz.. answer: a number below nought, or nothing within is too long. -/
import Derived.Test.YtdbblajcciakoaaDa
namespace Go.Proofs.Ytdbblajcciakoaa
open Go.RowKit Go.Deep

end Go.Proofs.Ytdbblajcciakoaa
