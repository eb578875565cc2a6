/- What spec.DrawValueSame answers: two values, in new memory. -/
import Derived.Test.YtkngihmfknmnaaaDrawCopy
namespace Go.Proofs.Ytkngihmfknmnaaa
open Go.RowKit Go.Deep

theorem ValS.only {S : Nat → Prop} {w w' : World} {x : V} {v : Value} {lo hi : Nat} (h : ValS S w x v) (e : Only lo hi w w') (ho : ∀ b, S b → b < lo ∨ hi ≤ b) : ValS S w' x v := h.carry e.size (fun _ h _ => h) (fun b h1 h2 => e.block b h2 (ho b h1))

set_option maxRecDepth 100000 in
set_option maxHeartbeats 2000000 in
theorem drawSame_any (a : Option Addr) (n cap : Nat) (w : World) (h : CodeIn w a n cap) :
    Calls Try.prog 5 #[.slice a n cap] w fun e w' => ∃ x y u v, e = .returned (.tuple #[u, v]) ∧ ValS (fun b => w.heap.size ≤ b) w' x u ∧ ValS (fun b => w.heap.size ≤ b) w' y v ∧ Ext w w' ∧ cntV x ≤ 120 ∧ cntV y ≤ 120 := by
  have hB1 := FBox.new w (.int .i64 0) (.int .i64 0) (.string ⟨#[]⟩) (.slice none 0 0) 25
  have hB2 := FBox.new (w.alloc (.cells #[.int .i64 0, .int .i64 0, .string ⟨#[]⟩, .slice none 0 0] 25)) (.int .i64 0) (.int .i64 0) (.string ⟨#[]⟩) (.slice none 0 0) 25
  replace hB1 := hB1.ext ((Ext.refl _).alloc (.cells #[.int .i64 0, .int .i64 0, .string ⟨#[]⟩, .slice none 0 0] 25))
  have hE : Ext w ((w.alloc (.cells #[.int .i64 0, .int .i64 0, .string ⟨#[]⟩, .slice none 0 0] 25)).alloc (.cells #[.int .i64 0, .int .i64 0, .string ⟨#[]⟩, .slice none 0 0] 25)) := ((Ext.refl _).alloc _).alloc _
  simp only [World.size_alloc] at hB2
  have hop := l1Open_any a n cap _ (h.ext hE)
  go_enter Try.func5, Try.ntmps5
  go_wp2_with fail
  refine hop.mono ?_
  rintro e w1 ⟨rfl, hR1, hE1, hs1⟩
  clear hop
  simp only [World.size_alloc] at hR1 hs1 ⊢
  replace hB1 := hB1.ext hE1
  replace hB2 := hB2.ext hE1
  replace hE := hE.trans hE1
  clear hE1
  generalize hRR : w.heap.size + 1 + 1 = R at *
  have hav := anyValue_any R 0 w1 hR1 (by omega)
  go_wp2_with fail
  refine hav.mono ?_
  rintro e w2 ⟨x, u, q, rfl, hx, hR2, hq, hO2⟩
  clear hav
  obtain ⟨xk, xn, xt, xa, xl, xc, hsh⟩ := hx.shape
  subst hsh
  replace hB1 := hB1.only hO2 (.inl (by omega))
  replace hB2 := hB2.only hO2 (.inl (by omega))
  replace hE := Only.toExt hE hO2 (by omega)
  have hz2 : R + 1 ≤ w2.heap.size := by have := hO2.size; omega
  replace hx : ValS (fun b => R + 1 ≤ b) w2 x (.agg #[.int .i64 xk, .int .i64 xn, .string xt, .slice xa xl xc]) := hx.mono (fun b h _ => by omega)
  clear hO2 hR1
  have hAE : Ext w2 (w2.alloc (.cells #[.int .i64 xk, .int .i64 xn, .string xt, .slice xa xl xc] 25)) := (Ext.refl _).alloc _
  have hA := FBox.new w2 (.int .i64 xk) (.int .i64 xn) (.string xt) (.slice xa xl xc) 25
  have h3 := pick_any R q 3 _ (hR2.ext hAE) (by omega) (by omega) (by omega)
  go_wp2_with fail
  refine h3.mono ?_
  rintro e w3 ⟨m, rfl, hm, hR3, hO3⟩
  clear h3
  replace hB1 := (hB1.ext hAE).only hO3 (.inl (by omega))
  replace hB2 := (hB2.ext hAE).only hO3 (.inl (by omega))
  replace hA := hA.only hO3 (.inr (by omega))
  replace hE := Only.toExt (hE.trans hAE) hO3 (by omega)
  replace hx := (hx.ext hAE).only hO3 (fun b h => .inr h)
  clear hO3 hR2 hAE
  have hz3 : w2.heap.size < w3.heap.size := hA.box.lt
  generalize w2.heap.size = ab at *
  have n1 : ab ≠ w.heap.size := by omega
  have n2 : ab ≠ w.heap.size + 1 := by omega
  have n3 : w.heap.size ≠ w.heap.size + 1 := by omega
  have n4 : w.heap.size + 1 ≠ w.heap.size := by omega
  obtain ⟨⟨alt, a0, a1, a2, a3⟩, af⟩ := id hA
  by_cases hm0 : m = 0
  · subst hm0
    have hcp := l1Copy_any x 0 _ w3.drew ((hx.ext (Ext.refl _).drew).toIn (fun _ _ => Nat.zero_le _)) hx.small
    go_wp2_with fail
    go_region_with (first
      | (go_at_call 17
         refine hcp.mono ?_
         rintro e w4 ⟨v, rfl, hy, hE4⟩
         obtain ⟨yk, yn, yt, ya, yl, yc, hsh⟩ := hy.shape
         subst hsh
         replace hE4 := (Ext.refl w3).drew.trans hE4
         obtain ⟨⟨alt4, c0, c1, c2, c3⟩, cf⟩ := hA.ext hE4
         obtain ⟨⟨blt4, b0, b1, b2, b3⟩, bf⟩ := hB1.ext hE4
         obtain ⟨⟨dlt4, d0, d1, d2, d3⟩, df⟩ := hB2.ext hE4))
    all_goals
      have hx4 : ValS (fun b => R + 1 ≤ b) w4 x (.agg #[.int .i64 xk, .int .i64 xn, .string xt, .slice xa xl xc]) := hx.ext hE4
      have hEw : Ext w w4 := hE.trans hE4
      have hy4 : ValS (fun b => R + 1 ≤ b) w4 x (.agg #[.int .i64 yk, .int .i64 yn, .string yt, .slice ya yl yc]) := hy.mono (fun b h _ => by simp at h; omega)
      clear hx hy hE hA hB1 hB2 a0 a1 a2 a3 af c0 c1 c2 c3 cf
      go_wp2
      refine bodyPost_ret (v := .tuple #[.agg #[.int .i64 xk, .int .i64 xn, .string xt, .slice xa xl xc], .agg #[.int .i64 yk, .int .i64 yn, .string yt, .slice ya yl yc]]) (by simp [results, Try.results5, go_sem, b0, b1, b2, b3, d0, d1, d2, d3]) rfl ?_
      refine ⟨_, _, _, _, rfl, hx4.carry (by simp) (fun b h _ => by omega) (fun b h _ => ?_), hy4.carry (by simp) (fun b h _ => by omega) (fun b h _ => ?_), ?_, by omega, by omega⟩
      · rw [Below.heap_setCell _ _ _ _ (by dsimp only; omega), Below.heap_setCell _ _ _ _ (by dsimp only; omega), Below.heap_setCell _ _ _ _ (by dsimp only; omega), Below.heap_setCell _ _ _ _ (by dsimp only; omega), Below.heap_setCell _ _ _ _ (by dsimp only; omega), Below.heap_setCell _ _ _ _ (by dsimp only; omega), Below.heap_setCell _ _ _ _ (by dsimp only; omega), Below.heap_setCell _ _ _ _ (by dsimp only; omega)]
      · rw [Below.heap_setCell _ _ _ _ (by dsimp only; omega), Below.heap_setCell _ _ _ _ (by dsimp only; omega), Below.heap_setCell _ _ _ _ (by dsimp only; omega), Below.heap_setCell _ _ _ _ (by dsimp only; omega), Below.heap_setCell _ _ _ _ (by dsimp only; omega), Below.heap_setCell _ _ _ _ (by dsimp only; omega), Below.heap_setCell _ _ _ _ (by dsimp only; omega), Below.heap_setCell _ _ _ _ (by dsimp only; omega)]
      · exact (((((((hEw.setCell (by dsimp only; omega) _).setCell (by dsimp only; omega) _).setCell (by dsimp only; omega) _).setCell (by dsimp only; omega) _).setCell (by dsimp only; omega) _).setCell (by dsimp only; omega) _).setCell (by dsimp only; omega) _).setCell (by dsimp only; omega) _
  · have e0 : ((m : Int) == 0) = false := by simp; omega
    have hav := anyValue_any R (q + 1) w3.drew (hR3.ext (Ext.refl _).drew) (by omega)
    go_wp2_with fail
    go_region_with (first
      | (go_at_call 15
         refine hav.mono ?_
         rintro e w4 ⟨y, v, q2, rfl, hy, hR4, hq4, hO4⟩
         obtain ⟨yk, yn, yt, ya, yl, yc, hsh⟩ := hy.shape
         subst hsh
         replace hO4 := (Only.refl R (R + 1) w3).drew.trans hO4
         obtain ⟨⟨alt4, c0, c1, c2, c3⟩, cf⟩ := hA.only hO4 (.inr (by omega))
         obtain ⟨⟨blt4, b0, b1, b2, b3⟩, bf⟩ := hB1.only hO4 (.inl (by omega))
         obtain ⟨⟨dlt4, d0, d1, d2, d3⟩, df⟩ := hB2.only hO4 (.inl (by omega))))
    all_goals
      have hx4 : ValS (fun b => R + 1 ≤ b) w4 x (.agg #[.int .i64 xk, .int .i64 xn, .string xt, .slice xa xl xc]) := hx.only hO4 (fun b h => .inr h)
      have hEw : Ext w w4 := Only.toExt hE hO4 (by omega)
      have hy4 : ValS (fun b => R + 1 ≤ b) w4 y (.agg #[.int .i64 yk, .int .i64 yn, .string yt, .slice ya yl yc]) := hy.mono (fun b h _ => by simp at h; omega)
      clear hx hy hE hA hB1 hB2 a0 a1 a2 a3 af c0 c1 c2 c3 cf
      go_wp2
      refine bodyPost_ret (v := .tuple #[.agg #[.int .i64 xk, .int .i64 xn, .string xt, .slice xa xl xc], .agg #[.int .i64 yk, .int .i64 yn, .string yt, .slice ya yl yc]]) (by simp [results, Try.results5, go_sem, b0, b1, b2, b3, d0, d1, d2, d3]) rfl ?_
      refine ⟨_, _, _, _, rfl, hx4.carry (by simp) (fun b h _ => by omega) (fun b h _ => ?_), hy4.carry (by simp) (fun b h _ => by omega) (fun b h _ => ?_), ?_, by omega, by omega⟩
      · rw [Below.heap_setCell _ _ _ _ (by dsimp only; omega), Below.heap_setCell _ _ _ _ (by dsimp only; omega), Below.heap_setCell _ _ _ _ (by dsimp only; omega), Below.heap_setCell _ _ _ _ (by dsimp only; omega), Below.heap_setCell _ _ _ _ (by dsimp only; omega), Below.heap_setCell _ _ _ _ (by dsimp only; omega), Below.heap_setCell _ _ _ _ (by dsimp only; omega), Below.heap_setCell _ _ _ _ (by dsimp only; omega)]
      · rw [Below.heap_setCell _ _ _ _ (by dsimp only; omega), Below.heap_setCell _ _ _ _ (by dsimp only; omega), Below.heap_setCell _ _ _ _ (by dsimp only; omega), Below.heap_setCell _ _ _ _ (by dsimp only; omega), Below.heap_setCell _ _ _ _ (by dsimp only; omega), Below.heap_setCell _ _ _ _ (by dsimp only; omega), Below.heap_setCell _ _ _ _ (by dsimp only; omega), Below.heap_setCell _ _ _ _ (by dsimp only; omega)]
      · exact (((((((hEw.setCell (by dsimp only; omega) _).setCell (by dsimp only; omega) _).setCell (by dsimp only; omega) _).setCell (by dsimp only; omega) _).setCell (by dsimp only; omega) _).setCell (by dsimp only; omega) _).setCell (by dsimp only; omega) _).setCell (by dsimp only; omega) _
end Go.Proofs.Ytkngihmfknmnaaa
