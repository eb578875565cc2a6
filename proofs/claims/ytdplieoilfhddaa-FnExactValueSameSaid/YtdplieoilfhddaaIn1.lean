/- Whether a number lies between two. -/
import Derived.Test.YtdplieoilfhddaaBase
namespace Go.Proofs.Ytdplieoilfhddaa
open Go.RowKit

def inB (n a b : Int) : Bool := decide (a ≤ n ∧ n ≤ b)

end Go.Proofs.Ytdplieoilfhddaa
