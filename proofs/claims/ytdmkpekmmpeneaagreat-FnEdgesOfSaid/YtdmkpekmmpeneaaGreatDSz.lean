/- What the laws' functions sz.. answer: a number below nought, or nothing within is too long. -/
import Derived.Test.YtdmkpekmmpeneaaGreatDa
namespace Go.Proofs.YtdmkpekmmpeneaaGreat
open Go.RowKit Go.Deep

end Go.Proofs.YtdmkpekmmpeneaaGreat
