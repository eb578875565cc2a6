/- Worlds of which some blocks alone have turned. -/
import Derived.Test.YtbhmblkappmfjaaGreatValMem
import Derived.Test.YtbhmblkappmfjaaGreatBoxes
namespace Go.Proofs.YtbhmblkappmfjaaGreat
open Go.RowKit Go.Deep

theorem ValIn.only {lo l0 h0 : Nat} {w w' : World} {x : V} {v : Value} (h : ValIn lo w x v) (e : Only l0 h0 w w') (hl : h0 ≤ lo) : ValIn lo w' x v := h.carry e.size (fun b h1 h2 => e.block b h2 (.inr (Nat.le_trans hl h1)))
theorem ListIn.only {lo l0 h0 : Nat} {w w' : World} {l : List V} {v : Value} (h : ListIn lo w l v) (e : Only l0 h0 w w') (hl : h0 ≤ lo) : ListIn lo w' l v := h.carry e.size (fun b h1 h2 => e.block b h2 (.inr (Nat.le_trans hl h1)))
end Go.Proofs.YtbhmblkappmfjaaGreat

/- How many values are within a value. -/
namespace Go.Proofs.YtbhmblkappmfjaaGreat
open Go.RowKit Go.Deep

mutual
def cntV : V → Nat
  | .mk _ _ _ l => cntL l
def cntL : List V → Nat
  | [] => 0
  | x :: r => 1 + cntV x + cntL r
end
theorem cntV_eq (x : V) : cntV x = cntL x.list := by obtain ⟨k, n, t, l⟩ := x; rw [cntV]; rfl
end Go.Proofs.YtbhmblkappmfjaaGreat

/- A value without a list and without a text; what spec.l1Bool answers. -/
namespace Go.Proofs.YtbhmblkappmfjaaGreat
open Go.RowKit Go.Deep

/-- A value without a list and without a text. -/
def flat (k n : Int) : Value := .agg #[.int .i64 k, .int .i64 n, .string ⟨#[]⟩, .slice none 0 0]
def b01 (b : Bool) : Int := if b then 1 else 0
set_option maxRecDepth 100000 in
set_option maxHeartbeats 400000 in
theorem l1Bool_any (b : Bool) (w : World) : Calls Tryz.prog 57 #[.bool b] w fun e w' => e = .returned (flat 1 (b01 b)) ∧ Ext w w' := by
  cases b
  · go_enter Tryz.func57, Tryz.ntmps57
    go_wp2
    exact bodyPost_ret (v := flat 1 0) (by simp [flat, results, Tryz.results57, go_sem]) rfl ⟨rfl, (Ext.refl _).alloc _⟩
  · go_enter Tryz.func57, Tryz.ntmps57
    go_wp2
    exact bodyPost_ret (v := flat 1 1) (by simp [flat, results, Tryz.results57, go_sem]) rfl ⟨rfl, (Ext.refl _).alloc _⟩
end Go.Proofs.YtbhmblkappmfjaaGreat
