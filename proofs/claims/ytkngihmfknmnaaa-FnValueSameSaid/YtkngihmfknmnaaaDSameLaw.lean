/- At every code the law FnValueSame answers true: two drawn values are the same just if all of both is. -/
import Derived.Test.YtkngihmfknmnaaaCodeRow
import Derived.Test.YtkngihmfknmnaaaDrawSame
import Derived.Test.YtkngihmfknmnaaaSameImpl
import Derived.Test.YtkngihmfknmnaaaAsVal
import Derived.Deep.DeepCutAuto
namespace Go.Proofs.Ytkngihmfknmnaaa.fnValueSame
open Go.RowKit Go.Deep

/-- One call of the law's: what it answers, and that it turns nothing old. -/
def Says (BW : World) (f : Nat) (args : Array Value) (r : Value) : Prop := ∀ W, Ext BW W → Calls Try.prog f args W fun e w' => e = .returned r ∧ Ext W w'

theorem toP {S : Nat → Prop} {w : World} {x : V} {v : Value} (h : ValS S w x v) : ValP w x v := by
  induction h with
  | mk kind num text l a cap b off c0 c1 c2 c3 hk hn ht hl ha hc hv ih =>
    exact .mk kind num text l a cap b off c0 c1 c2 c3 hk hn ht (by unfold maxLen; omega) (fun h0 => ⟨(ha h0).1, (ha h0).2.2.1, (ha h0).2.2.2⟩) hc ih
theorem same_symm (x y : V) : sameV y x = sameV x y := by
  cases h : sameV x y
  · cases h' : sameV y x
    · rfl
    · rw [sameV_eq y x h', sameV_refl] at h; cases h
  · rw [sameV_eq x y h, sameV_refl]

set_option maxRecDepth 100000 in
set_option maxHeartbeats 4000000 in
theorem walk (a0 : Option Addr) (len0 cap0 : Nat) (w : World) (h0 : CodeIn w a0 len0 cap0) :
    Calls Try.prog 3 #[.slice a0 len0 cap0] w fun e w' => e = .returned (.bool true) ∧ Ext w w' := by
  have hl0 := h0.len
  have g0 : decide ((len0 : Int) > 1048576) = false := decide_eq_false (by omega)
  go_enter Try.func3, Try.ntmps3
  go_wp2_with fail
  refine (drawSame_any a0 len0 cap0 w h0).mono ?_
  rintro e w1 ⟨x, y, u, v, rfl, hx, hy, hE1, hcx, hcy⟩
  obtain ⟨xk, xn, xt, xa, xl, xc, hsh⟩ := hx.shape
  subst hsh
  obtain ⟨yk, yn, yt, ya, yl, yc, hsh⟩ := hy.shape
  subst hsh
  have hA := FBox.new w1 (.int .i64 xk) (.int .i64 xn) (.string xt) (.slice xa xl xc) 25
  have hB := FBox.new (w1.alloc (.cells #[.int .i64 xk, .int .i64 xn, .string xt, .slice xa xl xc] 25)) (.int .i64 yk) (.int .i64 yn) (.string yt) (.slice ya yl yc) 25
  replace hA := hA.ext ((Ext.refl _).alloc (.cells #[.int .i64 yk, .int .i64 yn, .string yt, .slice ya yl yc] 25))
  have hE2 : Ext w1 ((w1.alloc (.cells #[.int .i64 xk, .int .i64 xn, .string xt, .slice xa xl xc] 25)).alloc (.cells #[.int .i64 yk, .int .i64 yn, .string yt, .slice ya yl yc] 25)) := ((Ext.refl _).alloc _).alloc _
  simp only [World.size_alloc] at hB
  have hX := hE1.trans hE2
  have px := toP (hx.ext hE2)
  have py := toP (hy.ext hE2)
  have c1 : Says ((w1.alloc (.cells #[.int .i64 xk, .int .i64 xn, .string xt, .slice xa xl xc] 25)).alloc (.cells #[.int .i64 yk, .int .i64 yn, .string yt, .slice ya yl yc] 25)) 6 #[.agg #[.int .i64 xk, .int .i64 xn, .string xt, .slice xa xl xc], .agg #[.int .i64 yk, .int .i64 yn, .string yt, .slice ya yl yc]] (.bool (sameV x y)) := fun W hW => implValueSame_any x y _ _ W (px.ext hW) (py.ext hW) (by omega)
  have c2 : Says ((w1.alloc (.cells #[.int .i64 xk, .int .i64 xn, .string xt, .slice xa xl xc] 25)).alloc (.cells #[.int .i64 yk, .int .i64 yn, .string yt, .slice ya yl yc] 25)) 7 #[.agg #[.int .i64 xk, .int .i64 xn, .string xt, .slice xa xl xc], .agg #[.int .i64 yk, .int .i64 yn, .string yt, .slice ya yl yc]] (.bool (sameV x y)) := fun W hW => specValueSame_any x y 0 0 _ _ W (px.toIn.ext hW) (py.toIn.ext hW)
  have c3 : Says ((w1.alloc (.cells #[.int .i64 xk, .int .i64 xn, .string xt, .slice xa xl xc] 25)).alloc (.cells #[.int .i64 yk, .int .i64 yn, .string yt, .slice ya yl yc] 25)) 8 #[.agg #[.int .i64 xk, .int .i64 xn, .string xt, .slice xa xl xc], .agg #[.int .i64 yk, .int .i64 yn, .string yt, .slice ya yl yc]] (.bool (sameV x y)) := fun W hW => asValue_any x y 0 0 _ _ W (px.toIn.ext hW) (py.toIn.ext hW)
  have c4 : Says ((w1.alloc (.cells #[.int .i64 xk, .int .i64 xn, .string xt, .slice xa xl xc] 25)).alloc (.cells #[.int .i64 yk, .int .i64 yn, .string yt, .slice ya yl yc] 25)) 6 #[.agg #[.int .i64 yk, .int .i64 yn, .string yt, .slice ya yl yc], .agg #[.int .i64 xk, .int .i64 xn, .string xt, .slice xa xl xc]] (.bool (sameV x y)) := fun W hW => by rw [← same_symm]; exact implValueSame_any y x _ _ W (py.ext hW) (px.ext hW) (by omega)
  have c5 : Says ((w1.alloc (.cells #[.int .i64 xk, .int .i64 xn, .string xt, .slice xa xl xc] 25)).alloc (.cells #[.int .i64 yk, .int .i64 yn, .string yt, .slice ya yl yc] 25)) 6 #[.agg #[.int .i64 xk, .int .i64 xn, .string xt, .slice xa xl xc], .agg #[.int .i64 xk, .int .i64 xn, .string xt, .slice xa xl xc]] (.bool true) := fun W hW => by rw [← sameV_refl x]; exact implValueSame_any x x _ _ W (px.ext hW) (px.ext hW) (by omega)
  generalize sameV x y = sm at *
  clear hx hy hE1 hE2 px py hcx hcy h0
  have hcur := Ext.refl ((w1.alloc (.cells #[.int .i64 xk, .int .i64 xn, .string xt, .slice xa xl xc] 25)).alloc (.cells #[.int .i64 yk, .int .i64 yn, .string yt, .slice ya yl yc] 25))
  obtain ⟨⟨_, p0, p1, p2, p3⟩, _⟩ := id hA
  obtain ⟨⟨_, q0, q1, q2, q3⟩, _⟩ := id hB
  go_wp2_with fail
  refine (c1 _ hcur).mono ?_
  rintro e w3 ⟨rfl, hE⟩
  replace hcur := hcur.trans hE
  clear hE p0 p1 p2 p3 q0 q1 q2 q3 c1
  generalize (w1.alloc (.cells #[.int .i64 xk, .int .i64 xn, .string xt, .slice xa xl xc] 25)).alloc (.cells #[.int .i64 yk, .int .i64 yn, .string yt, .slice ya yl yc] 25) = BW at *
  obtain ⟨⟨_, p0, p1, p2, p3⟩, _⟩ := hA.ext hcur
  obtain ⟨⟨_, q0, q1, q2, q3⟩, _⟩ := hB.ext hcur
  cases sm
  all_goals
    go_wp2_with fail
    refine (c2 _ hcur).mono ?_
    rintro e w4 ⟨rfl, hE⟩
    replace hcur := hcur.trans hE
    clear hE p0 p1 p2 p3 q0 q1 q2 q3
    obtain ⟨⟨_, p0, p1, p2, p3⟩, _⟩ := hA.ext hcur
    obtain ⟨⟨_, q0, q1, q2, q3⟩, _⟩ := hB.ext hcur
    go_wp2_with fail
    refine (c3 _ hcur).mono ?_
    rintro e w5 ⟨rfl, hE⟩
    replace hcur := hcur.trans hE
    clear hE p0 p1 p2 p3 q0 q1 q2 q3
    obtain ⟨⟨_, p0, p1, p2, p3⟩, _⟩ := hA.ext hcur
    obtain ⟨⟨_, q0, q1, q2, q3⟩, _⟩ := hB.ext hcur
    go_wp2_with fail
    refine (c4 _ hcur).mono ?_
    rintro e w6 ⟨rfl, hE⟩
    replace hcur := hcur.trans hE
    clear hE p0 p1 p2 p3 q0 q1 q2 q3
    obtain ⟨⟨_, p0, p1, p2, p3⟩, _⟩ := hA.ext hcur
    obtain ⟨⟨_, q0, q1, q2, q3⟩, _⟩ := hB.ext hcur
    go_wp2_with fail
    refine (c5 _ hcur).mono ?_
    rintro e w7 ⟨rfl, hE⟩
    replace hcur := hcur.trans hE
    clear hE p0 p1 p2 p3 q0 q1 q2 q3
    obtain ⟨⟨_, p0, p1, p2, p3⟩, _⟩ := hA.ext hcur
    obtain ⟨⟨_, q0, q1, q2, q3⟩, _⟩ := hB.ext hcur
    go_wp2
    go_ret
    exact ⟨rfl, hX.trans hcur⟩
end Go.Proofs.Ytkngihmfknmnaaa.fnValueSame
