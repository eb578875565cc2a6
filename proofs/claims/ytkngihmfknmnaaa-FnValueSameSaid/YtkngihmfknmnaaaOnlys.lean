/- Worlds of which some blocks alone have turned. -/
import Derived.Test.YtkngihmfknmnaaaValMem
namespace Go.Proofs.Ytkngihmfknmnaaa
open Go.RowKit Go.Deep

theorem ValIn.only {lo l0 h0 : Nat} {w w' : World} {x : V} {v : Value} (h : ValIn lo w x v) (e : Only l0 h0 w w') (hl : h0 ≤ lo) : ValIn lo w' x v := h.carry e.size (fun b h1 h2 => e.block b h2 (.inr (Nat.le_trans hl h1)))
theorem ListIn.only {lo l0 h0 : Nat} {w w' : World} {l : List V} {v : Value} (h : ListIn lo w l v) (e : Only l0 h0 w w') (hl : h0 ≤ lo) : ListIn lo w' l v := h.carry e.size (fun b h1 h2 => e.block b h2 (.inr (Nat.le_trans hl h1)))
end Go.Proofs.Ytkngihmfknmnaaa
