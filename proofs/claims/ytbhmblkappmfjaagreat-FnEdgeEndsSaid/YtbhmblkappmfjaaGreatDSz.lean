/- What the laws' functions sz.. answer: a number below nought, or nothing within is too long. -/
import Derived.Test.YtbhmblkappmfjaaGreatDa
namespace Go.Proofs.YtbhmblkappmfjaaGreat
open Go.RowKit Go.Deep

end Go.Proofs.YtbhmblkappmfjaaGreat
