/- What spec.DrawValueOrder, spec.DrawValueEqual and spec.DrawValueLess answer: two values, in new memory. -/
import Derived.Test.YtkngihmfknmnaaaDrawSame
namespace Go.Proofs.Ytkngihmfknmnaaa
open Go.RowKit Go.Deep

set_option maxRecDepth 100000 in
set_option maxHeartbeats 2000000 in
theorem drawLess_any (a : Option Addr) (n cap : Nat) (w : World) (h : CodeIn w a n cap) :
    Calls Try.prog 9 #[.slice a n cap] w fun e w' => ∃ x y u v, e = .returned (.tuple #[u, v]) ∧ ValS (fun b => w.heap.size ≤ b) w' x u ∧ ValS (fun b => w.heap.size ≤ b) w' y v ∧ Ext w w' := by
  have hB1 := FBox.new w (.int .i64 0) (.int .i64 0) (.string ⟨#[]⟩) (.slice none 0 0) 25
  have hB2 := FBox.new (w.alloc (.cells #[.int .i64 0, .int .i64 0, .string ⟨#[]⟩, .slice none 0 0] 25)) (.int .i64 0) (.int .i64 0) (.string ⟨#[]⟩) (.slice none 0 0) 25
  replace hB1 := hB1.ext ((Ext.refl _).alloc (.cells #[.int .i64 0, .int .i64 0, .string ⟨#[]⟩, .slice none 0 0] 25))
  have hE : Ext w ((w.alloc (.cells #[.int .i64 0, .int .i64 0, .string ⟨#[]⟩, .slice none 0 0] 25)).alloc (.cells #[.int .i64 0, .int .i64 0, .string ⟨#[]⟩, .slice none 0 0] 25)) := ((Ext.refl _).alloc _).alloc _
  simp only [World.size_alloc] at hB2
  have hcall := drawSame_any a n cap _ (h.ext hE)
  have n3 : w.heap.size ≠ w.heap.size + 1 := by omega
  have n4 : w.heap.size + 1 ≠ w.heap.size := by omega
  go_enter Try.func9, Try.ntmps9
  go_wp2_with fail
  refine hcall.mono ?_
  rintro e w4 ⟨x, y, u, v, rfl, hx, hy, hE4⟩
  clear hcall
  obtain ⟨xk, xn, xt, xa, xl, xc, hsh⟩ := hx.shape
  subst hsh
  obtain ⟨yk, yn, yt, ya, yl, yc, hsh⟩ := hy.shape
  subst hsh
  obtain ⟨⟨blt, b0, b1, b2, b3⟩, bf⟩ := hB1.ext hE4
  obtain ⟨⟨dlt, d0, d1, d2, d3⟩, df⟩ := hB2.ext hE4
  have hEw := hE.trans hE4
  have hx4 : ValS (fun b => w.heap.size + 1 + 1 ≤ b) w4 x (.agg #[.int .i64 xk, .int .i64 xn, .string xt, .slice xa xl xc]) := hx.mono (fun b h _ => by simpa using h)
  have hy4 : ValS (fun b => w.heap.size + 1 + 1 ≤ b) w4 y (.agg #[.int .i64 yk, .int .i64 yn, .string yt, .slice ya yl yc]) := hy.mono (fun b h _ => by simpa using h)
  clear hx hy hE hB1 hB2 hE4 h
  go_wp2
  refine bodyPost_ret (v := .tuple #[.agg #[.int .i64 xk, .int .i64 xn, .string xt, .slice xa xl xc], .agg #[.int .i64 yk, .int .i64 yn, .string yt, .slice ya yl yc]]) (by simp [results, Try.results9, go_sem, b0, b1, b2, b3, d0, d1, d2, d3]) rfl ?_
  refine ⟨_, _, _, _, rfl, hx4.carry (by simp) (fun b h _ => by omega) (fun b h _ => ?_), hy4.carry (by simp) (fun b h _ => by omega) (fun b h _ => ?_), ?_⟩
  · rw [Below.heap_setCell _ _ _ _ (by dsimp only; omega), Below.heap_setCell _ _ _ _ (by dsimp only; omega), Below.heap_setCell _ _ _ _ (by dsimp only; omega), Below.heap_setCell _ _ _ _ (by dsimp only; omega), Below.heap_setCell _ _ _ _ (by dsimp only; omega), Below.heap_setCell _ _ _ _ (by dsimp only; omega), Below.heap_setCell _ _ _ _ (by dsimp only; omega), Below.heap_setCell _ _ _ _ (by dsimp only; omega)]
  · rw [Below.heap_setCell _ _ _ _ (by dsimp only; omega), Below.heap_setCell _ _ _ _ (by dsimp only; omega), Below.heap_setCell _ _ _ _ (by dsimp only; omega), Below.heap_setCell _ _ _ _ (by dsimp only; omega), Below.heap_setCell _ _ _ _ (by dsimp only; omega), Below.heap_setCell _ _ _ _ (by dsimp only; omega), Below.heap_setCell _ _ _ _ (by dsimp only; omega), Below.heap_setCell _ _ _ _ (by dsimp only; omega)]
  · exact (((((((hEw.setCell (by dsimp only; omega) _).setCell (by dsimp only; omega) _).setCell (by dsimp only; omega) _).setCell (by dsimp only; omega) _).setCell (by dsimp only; omega) _).setCell (by dsimp only; omega) _).setCell (by dsimp only; omega) _).setCell (by dsimp only; omega) _
end Go.Proofs.Ytkngihmfknmnaaa
