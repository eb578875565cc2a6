/- What PropGet answers, as data. -/
import Derived.Test.YtbhmblkappmfjaaGreatGSpec3
import Derived.Test.YtbhmblkappmfjaaGreatDa
namespace Go.Proofs.YtbhmblkappmfjaaGreat
open Go.RowKit Go.Deep

/-- A value as data: its kind, number, text and list. -/
structure VD where
  k : Int
  n : Int
  t : ByteArray
  l : D
def noL : D := .list 4 0 (fun _ _ => .int 0)
def VD.zero : VD := ⟨0, 0, ByteArray.empty, noL⟩
end Go.Proofs.YtbhmblkappmfjaaGreat
