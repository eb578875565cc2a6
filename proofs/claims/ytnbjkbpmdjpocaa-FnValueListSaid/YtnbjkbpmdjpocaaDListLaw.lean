/- At every code the law FnValueList answers true: a list is in order by its first values. -/
import Derived.Test.YtnbjkbpmdjpocaaCodeRow
import Derived.Test.YtnbjkbpmdjpocaaDrawWrap
import Derived.Test.YtnbjkbpmdjpocaaListThy
import Derived.Test.YtnbjkbpmdjpocaaValOkImpl
import Derived.Deep.DeepCutAuto
namespace Go.Proofs.Ytnbjkbpmdjpocaa.fnValueList
open Go.RowKit Go.Deep

/-- One call of the law's: what it answers, and that it turns nothing old. -/
def Says (BW : World) (f : Nat) (args : Array Value) (r : Value) : Prop := ∀ W, Ext BW W → Calls Try.prog f args W fun e w' => e = .returned r ∧ Ext W w'

set_option maxRecDepth 100000 in
set_option maxHeartbeats 4000000 in
theorem walk (a0 : Option Addr) (len0 cap0 : Nat) (w : World) (h0 : CodeIn w a0 len0 cap0) :
    Calls Try.prog 6 #[.slice a0 len0 cap0] w fun e w' => e = .returned (.bool true) ∧ Ext w w' := by
  have hl0 := h0.len
  have g0 : decide ((len0 : Int) > 1048576) = false := decide_eq_false (by omega)
  go_enter Try.func6, Try.ntmps6
  go_wp2_with fail
  refine (drawOrder_any a0 len0 cap0 w h0).mono ?_
  rintro e w1 ⟨x, y, u, v, rfl, hx, hy, hE1⟩
  obtain ⟨xk, xn, xt, xa, xl, xc, hsh⟩ := hx.shape
  subst hsh
  obtain ⟨yk, yn, yt, ya, yl, yc, hsh⟩ := hy.shape
  subst hsh
  have hA := (FBox.new w1 (.int .i64 xk) (.int .i64 xn) (.string xt) (.slice xa xl xc) 25).ext ((Ext.refl _).alloc (.cells #[.int .i64 yk, .int .i64 yn, .string yt, .slice ya yl yc] 25))
  have hB := FBox.new (w1.alloc (.cells #[.int .i64 xk, .int .i64 xn, .string xt, .slice xa xl xc] 25)) (.int .i64 yk) (.int .i64 yn) (.string yt) (.slice ya yl yc) 25
  have hE2 : Ext w1 ((w1.alloc (.cells #[.int .i64 xk, .int .i64 xn, .string xt, .slice xa xl xc] 25)).alloc (.cells #[.int .i64 yk, .int .i64 yn, .string yt, .slice ya yl yc] 25)) := ((Ext.refl _).alloc _).alloc _
  simp only [World.size_alloc] at hB
  have hx2 := hx.ext hE2
  have hy2 := hy.ext hE2
  have hX := hE1.trans hE2
  clear hx hy hE1 hE2 h0
  have c1 : Says ((w1.alloc (.cells #[.int .i64 xk, .int .i64 xn, .string xt, .slice xa xl xc] 25)).alloc (.cells #[.int .i64 yk, .int .i64 yn, .string yt, .slice ya yl yc] 25)) 8 #[.agg #[.int .i64 xk, .int .i64 xn, .string xt, .slice xa xl xc], .agg #[.int .i64 yk, .int .i64 yn, .string yt, .slice ya yl yc]] (.int .i64 (ordOk x y)) := fun W hW => implValueOrder_any x y 0 0 _ _ W ((hx2.ext hW).toIn (fun _ _ => Nat.zero_le _)) ((hy2.ext hW).toIn (fun _ _ => Nat.zero_le _))
  have c2 : Says ((w1.alloc (.cells #[.int .i64 xk, .int .i64 xn, .string xt, .slice xa xl xc] 25)).alloc (.cells #[.int .i64 yk, .int .i64 yn, .string yt, .slice ya yl yc] 25)) 9 #[.agg #[.int .i64 xk, .int .i64 xn, .string xt, .slice xa xl xc], .agg #[.int .i64 yk, .int .i64 yn, .string yt, .slice ya yl yc]] (.int .i64 (ordOk x y)) := fun W hW => specValueOrder_any x y 0 0 _ _ W ((hx2.ext hW).toIn (fun _ _ => Nat.zero_le _)) ((hy2.ext hW).toIn (fun _ _ => Nat.zero_le _))
  have hcur := Ext.refl ((w1.alloc (.cells #[.int .i64 xk, .int .i64 xn, .string xt, .slice xa xl xc] 25)).alloc (.cells #[.int .i64 yk, .int .i64 yn, .string yt, .slice ya yl yc] 25))
  obtain ⟨⟨_, p0, p1, p2, p3⟩, _⟩ := id hA
  obtain ⟨⟨_, q0, q1, q2, q3⟩, _⟩ := id hB
  go_wp2_with fail
  refine (c1 _ hcur).mono ?_
  rintro e w3 ⟨rfl, hE⟩
  replace hcur := hcur.trans hE
  clear hE p0 p1 p2 p3 q0 q1 q2 q3 c1
  generalize ((w1.alloc (.cells #[.int .i64 xk, .int .i64 xn, .string xt, .slice xa xl xc] 25)).alloc (.cells #[.int .i64 yk, .int .i64 yn, .string yt, .slice ya yl yc] 25)) = BW at *
  obtain ⟨⟨_, p0, p1, p2, p3⟩, _⟩ := hA.ext hcur
  obtain ⟨⟨_, q0, q1, q2, q3⟩, _⟩ := hB.ext hcur
  go_wp2_with fail
  refine (c2 _ hcur).mono ?_
  rintro e w4 ⟨rfl, hE⟩
  replace hcur := hcur.trans hE
  clear hE p0 p1 p2 p3 q0 q1 q2 q3 c2
  have hx4 := hx2.ext hcur
  have hy4 := hy2.ext hcur
  clear hx2 hy2
  replace hx4 : ValS (fun _ => True) w4 x (.agg #[.int .i64 xk, .int .i64 xn, .string xt, .slice xa xl xc]) := hx4.mono (fun _ _ _ => trivial)
  replace hy4 : ValS (fun _ => True) w4 y (.agg #[.int .i64 yk, .int .i64 yn, .string yt, .slice ya yl yc]) := hy4.mono (fun _ _ _ => trivial)
  have hXw := hX.trans hcur
  have hA := hA.ext hcur
  have hB := hB.ext hcur
  clear hX hcur
  obtain ⟨⟨pl, p0, p1, p2, p3⟩, _⟩ := id hA
  obtain ⟨⟨ql, q0, q1, q2, q3⟩, _⟩ := id hB
  go_upto_region 8 with fail
  clear p0 p1 p2 p3 q0 q1 q2 q3 pl ql
  have hE : Ext w4 ((w4.alloc (.cells #[.int .i64 xk, .int .i64 xn, .string xt, .slice xa xl xc] 25)).alloc (.cells #[.int .i64 4, .int .i64 0, .string ⟨#[]⟩, .slice (some ⟨w4.heap.size, 0, none⟩) 1 1] 25)) := ((Ext.refl _).alloc _).alloc _
  have hx5 := hx4.ext hE
  have hy5 := hy4.ext hE
  have hXB := FBox.new (w4.alloc (.cells #[.int .i64 xk, .int .i64 xn, .string xt, .slice xa xl xc] 25)) (.int .i64 4) (.int .i64 0) (.string ⟨#[]⟩) (.slice (some ⟨w4.heap.size, 0, none⟩) 1 1) 25
  simp only [World.size_alloc] at hXB
  have hrow := (BoxAt.new w4 (.int .i64 xk) (.int .i64 xn) (.string xt) (.slice xa xl xc) 25).ext ((Ext.refl _).alloc (.cells #[.int .i64 4, .int .i64 0, .string ⟨#[]⟩, .slice (some ⟨w4.heap.size, 0, none⟩) 1 1] 25))
  have hXL : ValS (fun _ => True) ((w4.alloc (.cells #[.int .i64 xk, .int .i64 xn, .string xt, .slice xa xl xc] 25)).alloc (.cells #[.int .i64 4, .int .i64 0, .string ⟨#[]⟩, .slice (some ⟨w4.heap.size, 0, none⟩) 1 1] 25)) (lst [x]) (.agg #[.int .i64 4, .int .i64 0, .string ⟨#[]⟩, .slice (some ⟨w4.heap.size, 0, none⟩) 1 1]) := (hx5.one rfl rfl (by unfold maxLen; decide) trivial hrow)
  clear hrow
  replace hA := hA.ext hE
  replace hB := hB.ext hE
  replace hXw := hXw.trans hE
  clear hE hx4 hy4
  generalize ((w4.alloc (.cells #[.int .i64 xk, .int .i64 xn, .string xt, .slice xa xl xc] 25)).alloc (.cells #[.int .i64 4, .int .i64 0, .string ⟨#[]⟩, .slice (some ⟨w4.heap.size, 0, none⟩) 1 1] 25)) = w5 at *
  generalize w4.heap.size + 1 = XB at *
  generalize w4.heap.size = XR at *
  obtain ⟨⟨pl, p0, p1, p2, p3⟩, _⟩ := id hA
  obtain ⟨⟨ql, q0, q1, q2, q3⟩, _⟩ := id hB
  go_upto_region 9 with fail
  clear p0 p1 p2 p3 q0 q1 q2 q3 pl ql
  have hE : Ext w5 ((w5.alloc (.cells #[.int .i64 yk, .int .i64 yn, .string yt, .slice ya yl yc] 25)).alloc (.cells #[.int .i64 4, .int .i64 0, .string ⟨#[]⟩, .slice (some ⟨w5.heap.size, 0, none⟩) 1 1] 25)) := ((Ext.refl _).alloc _).alloc _
  have hx6 := hx5.ext hE
  have hy6 := hy5.ext hE
  have hYB := FBox.new (w5.alloc (.cells #[.int .i64 yk, .int .i64 yn, .string yt, .slice ya yl yc] 25)) (.int .i64 4) (.int .i64 0) (.string ⟨#[]⟩) (.slice (some ⟨w5.heap.size, 0, none⟩) 1 1) 25
  simp only [World.size_alloc] at hYB
  have hrow := (BoxAt.new w5 (.int .i64 yk) (.int .i64 yn) (.string yt) (.slice ya yl yc) 25).ext ((Ext.refl _).alloc (.cells #[.int .i64 4, .int .i64 0, .string ⟨#[]⟩, .slice (some ⟨w5.heap.size, 0, none⟩) 1 1] 25))
  have hYL : ValS (fun _ => True) ((w5.alloc (.cells #[.int .i64 yk, .int .i64 yn, .string yt, .slice ya yl yc] 25)).alloc (.cells #[.int .i64 4, .int .i64 0, .string ⟨#[]⟩, .slice (some ⟨w5.heap.size, 0, none⟩) 1 1] 25)) (lst [y]) (.agg #[.int .i64 4, .int .i64 0, .string ⟨#[]⟩, .slice (some ⟨w5.heap.size, 0, none⟩) 1 1]) := (hy6.one rfl rfl (by unfold maxLen; decide) trivial hrow)
  clear hrow
  replace hA := hA.ext hE
  replace hB := hB.ext hE
  replace hXw := hXw.trans hE
  replace hXB := hXB.ext hE
  replace hXL := hXL.ext hE
  clear hE hx5 hy5
  generalize ((w5.alloc (.cells #[.int .i64 yk, .int .i64 yn, .string yt, .slice ya yl yc] 25)).alloc (.cells #[.int .i64 4, .int .i64 0, .string ⟨#[]⟩, .slice (some ⟨w5.heap.size, 0, none⟩) 1 1] 25)) = w6 at *
  generalize w5.heap.size + 1 = YB at *
  generalize w5.heap.size = YR at *
  obtain ⟨⟨pl, p0, p1, p2, p3⟩, _⟩ := id hA
  obtain ⟨⟨ql, q0, q1, q2, q3⟩, _⟩ := id hB
  go_upto_region 10 with fail
  clear p0 p1 p2 p3 q0 q1 q2 q3 pl ql
  have hE : Ext w6 ((w6.alloc (.cells #[.int .i64 xk, .int .i64 xn, .string xt, .slice xa xl xc, .int .i64 xk, .int .i64 xn, .string xt, .slice xa xl xc] 25)).alloc (.cells #[.int .i64 4, .int .i64 0, .string ⟨#[]⟩, .slice (some ⟨w6.heap.size, 0, none⟩) 2 2] 25)) := ((Ext.refl _).alloc _).alloc _
  have hx7 := hx6.ext hE
  have hy7 := hy6.ext hE
  have hUB := FBox.new (w6.alloc (.cells #[.int .i64 xk, .int .i64 xn, .string xt, .slice xa xl xc, .int .i64 xk, .int .i64 xn, .string xt, .slice xa xl xc] 25)) (.int .i64 4) (.int .i64 0) (.string ⟨#[]⟩) (.slice (some ⟨w6.heap.size, 0, none⟩) 2 2) 25
  simp only [World.size_alloc] at hUB
  have hrlt : w6.heap.size < ((w6.alloc (.cells #[.int .i64 xk, .int .i64 xn, .string xt, .slice xa xl xc, .int .i64 xk, .int .i64 xn, .string xt, .slice xa xl xc] 25)).alloc (.cells #[.int .i64 4, .int .i64 0, .string ⟨#[]⟩, .slice (some ⟨w6.heap.size, 0, none⟩) 2 2] 25)).heap.size := by simp; omega
  have z0 : ((w6.alloc (.cells #[.int .i64 xk, .int .i64 xn, .string xt, .slice xa xl xc, .int .i64 xk, .int .i64 xn, .string xt, .slice xa xl xc] 25)).alloc (.cells #[.int .i64 4, .int .i64 0, .string ⟨#[]⟩, .slice (some ⟨w6.heap.size, 0, none⟩) 2 2] 25)).cell? ⟨w6.heap.size, 0, none⟩ = some (.int .i64 xk) := by
    rw [Ext.cell ((Ext.refl (w6.alloc (.cells #[.int .i64 xk, .int .i64 xn, .string xt, .slice xa xl xc, .int .i64 xk, .int .i64 xn, .string xt, .slice xa xl xc] 25))).alloc _) (by simp)]
    simp
  have z1 : ((w6.alloc (.cells #[.int .i64 xk, .int .i64 xn, .string xt, .slice xa xl xc, .int .i64 xk, .int .i64 xn, .string xt, .slice xa xl xc] 25)).alloc (.cells #[.int .i64 4, .int .i64 0, .string ⟨#[]⟩, .slice (some ⟨w6.heap.size, 0, none⟩) 2 2] 25)).cell? ⟨w6.heap.size, 1, none⟩ = some (.int .i64 xn) := by
    rw [Ext.cell ((Ext.refl (w6.alloc (.cells #[.int .i64 xk, .int .i64 xn, .string xt, .slice xa xl xc, .int .i64 xk, .int .i64 xn, .string xt, .slice xa xl xc] 25))).alloc _) (by simp)]
    simp
  have z2 : ((w6.alloc (.cells #[.int .i64 xk, .int .i64 xn, .string xt, .slice xa xl xc, .int .i64 xk, .int .i64 xn, .string xt, .slice xa xl xc] 25)).alloc (.cells #[.int .i64 4, .int .i64 0, .string ⟨#[]⟩, .slice (some ⟨w6.heap.size, 0, none⟩) 2 2] 25)).cell? ⟨w6.heap.size, 2, none⟩ = some (.string xt) := by
    rw [Ext.cell ((Ext.refl (w6.alloc (.cells #[.int .i64 xk, .int .i64 xn, .string xt, .slice xa xl xc, .int .i64 xk, .int .i64 xn, .string xt, .slice xa xl xc] 25))).alloc _) (by simp)]
    simp
  have z3 : ((w6.alloc (.cells #[.int .i64 xk, .int .i64 xn, .string xt, .slice xa xl xc, .int .i64 xk, .int .i64 xn, .string xt, .slice xa xl xc] 25)).alloc (.cells #[.int .i64 4, .int .i64 0, .string ⟨#[]⟩, .slice (some ⟨w6.heap.size, 0, none⟩) 2 2] 25)).cell? ⟨w6.heap.size, 3, none⟩ = some (.slice xa xl xc) := by
    rw [Ext.cell ((Ext.refl (w6.alloc (.cells #[.int .i64 xk, .int .i64 xn, .string xt, .slice xa xl xc, .int .i64 xk, .int .i64 xn, .string xt, .slice xa xl xc] 25))).alloc _) (by simp)]
    simp
  have z4 : ((w6.alloc (.cells #[.int .i64 xk, .int .i64 xn, .string xt, .slice xa xl xc, .int .i64 xk, .int .i64 xn, .string xt, .slice xa xl xc] 25)).alloc (.cells #[.int .i64 4, .int .i64 0, .string ⟨#[]⟩, .slice (some ⟨w6.heap.size, 0, none⟩) 2 2] 25)).cell? ⟨w6.heap.size, 4, none⟩ = some (.int .i64 xk) := by
    rw [Ext.cell ((Ext.refl (w6.alloc (.cells #[.int .i64 xk, .int .i64 xn, .string xt, .slice xa xl xc, .int .i64 xk, .int .i64 xn, .string xt, .slice xa xl xc] 25))).alloc _) (by simp)]
    simp
  have z5 : ((w6.alloc (.cells #[.int .i64 xk, .int .i64 xn, .string xt, .slice xa xl xc, .int .i64 xk, .int .i64 xn, .string xt, .slice xa xl xc] 25)).alloc (.cells #[.int .i64 4, .int .i64 0, .string ⟨#[]⟩, .slice (some ⟨w6.heap.size, 0, none⟩) 2 2] 25)).cell? ⟨w6.heap.size, 5, none⟩ = some (.int .i64 xn) := by
    rw [Ext.cell ((Ext.refl (w6.alloc (.cells #[.int .i64 xk, .int .i64 xn, .string xt, .slice xa xl xc, .int .i64 xk, .int .i64 xn, .string xt, .slice xa xl xc] 25))).alloc _) (by simp)]
    simp
  have z6 : ((w6.alloc (.cells #[.int .i64 xk, .int .i64 xn, .string xt, .slice xa xl xc, .int .i64 xk, .int .i64 xn, .string xt, .slice xa xl xc] 25)).alloc (.cells #[.int .i64 4, .int .i64 0, .string ⟨#[]⟩, .slice (some ⟨w6.heap.size, 0, none⟩) 2 2] 25)).cell? ⟨w6.heap.size, 6, none⟩ = some (.string xt) := by
    rw [Ext.cell ((Ext.refl (w6.alloc (.cells #[.int .i64 xk, .int .i64 xn, .string xt, .slice xa xl xc, .int .i64 xk, .int .i64 xn, .string xt, .slice xa xl xc] 25))).alloc _) (by simp)]
    simp
  have z7 : ((w6.alloc (.cells #[.int .i64 xk, .int .i64 xn, .string xt, .slice xa xl xc, .int .i64 xk, .int .i64 xn, .string xt, .slice xa xl xc] 25)).alloc (.cells #[.int .i64 4, .int .i64 0, .string ⟨#[]⟩, .slice (some ⟨w6.heap.size, 0, none⟩) 2 2] 25)).cell? ⟨w6.heap.size, 7, none⟩ = some (.slice xa xl xc) := by
    rw [Ext.cell ((Ext.refl (w6.alloc (.cells #[.int .i64 xk, .int .i64 xn, .string xt, .slice xa xl xc, .int .i64 xk, .int .i64 xn, .string xt, .slice xa xl xc] 25))).alloc _) (by simp)]
    simp
  have hUL : ValS (fun _ => True) ((w6.alloc (.cells #[.int .i64 xk, .int .i64 xn, .string xt, .slice xa xl xc, .int .i64 xk, .int .i64 xn, .string xt, .slice xa xl xc] 25)).alloc (.cells #[.int .i64 4, .int .i64 0, .string ⟨#[]⟩, .slice (some ⟨w6.heap.size, 0, none⟩) 2 2] 25)) (lst [x, x]) (.agg #[.int .i64 4, .int .i64 0, .string ⟨#[]⟩, .slice (some ⟨w6.heap.size, 0, none⟩) 2 2]) := (ValS.two hx7 hx7 trivial hrlt z0 z1 z2 z3 z4 z5 z6 z7)
  clear hrlt z0 z1 z2 z3 z4 z5 z6 z7
  replace hA := hA.ext hE
  replace hB := hB.ext hE
  replace hXw := hXw.trans hE
  replace hXB := hXB.ext hE
  replace hXL := hXL.ext hE
  replace hYB := hYB.ext hE
  replace hYL := hYL.ext hE
  clear hE hx6 hy6
  generalize ((w6.alloc (.cells #[.int .i64 xk, .int .i64 xn, .string xt, .slice xa xl xc, .int .i64 xk, .int .i64 xn, .string xt, .slice xa xl xc] 25)).alloc (.cells #[.int .i64 4, .int .i64 0, .string ⟨#[]⟩, .slice (some ⟨w6.heap.size, 0, none⟩) 2 2] 25)) = w7 at *
  generalize w6.heap.size + 1 = UB at *
  generalize w6.heap.size = UR at *
  obtain ⟨⟨pl, p0, p1, p2, p3⟩, _⟩ := id hA
  obtain ⟨⟨ql, q0, q1, q2, q3⟩, _⟩ := id hB
  go_upto_region 11 with fail
  clear p0 p1 p2 p3 q0 q1 q2 q3 pl ql
  have hE : Ext w7 ((w7.alloc (.cells #[.int .i64 xk, .int .i64 xn, .string xt, .slice xa xl xc, .int .i64 yk, .int .i64 yn, .string yt, .slice ya yl yc] 25)).alloc (.cells #[.int .i64 4, .int .i64 0, .string ⟨#[]⟩, .slice (some ⟨w7.heap.size, 0, none⟩) 2 2] 25)) := ((Ext.refl _).alloc _).alloc _
  have hx8 := hx7.ext hE
  have hy8 := hy7.ext hE
  have hVB := FBox.new (w7.alloc (.cells #[.int .i64 xk, .int .i64 xn, .string xt, .slice xa xl xc, .int .i64 yk, .int .i64 yn, .string yt, .slice ya yl yc] 25)) (.int .i64 4) (.int .i64 0) (.string ⟨#[]⟩) (.slice (some ⟨w7.heap.size, 0, none⟩) 2 2) 25
  simp only [World.size_alloc] at hVB
  have hrlt : w7.heap.size < ((w7.alloc (.cells #[.int .i64 xk, .int .i64 xn, .string xt, .slice xa xl xc, .int .i64 yk, .int .i64 yn, .string yt, .slice ya yl yc] 25)).alloc (.cells #[.int .i64 4, .int .i64 0, .string ⟨#[]⟩, .slice (some ⟨w7.heap.size, 0, none⟩) 2 2] 25)).heap.size := by simp; omega
  have z0 : ((w7.alloc (.cells #[.int .i64 xk, .int .i64 xn, .string xt, .slice xa xl xc, .int .i64 yk, .int .i64 yn, .string yt, .slice ya yl yc] 25)).alloc (.cells #[.int .i64 4, .int .i64 0, .string ⟨#[]⟩, .slice (some ⟨w7.heap.size, 0, none⟩) 2 2] 25)).cell? ⟨w7.heap.size, 0, none⟩ = some (.int .i64 xk) := by
    rw [Ext.cell ((Ext.refl (w7.alloc (.cells #[.int .i64 xk, .int .i64 xn, .string xt, .slice xa xl xc, .int .i64 yk, .int .i64 yn, .string yt, .slice ya yl yc] 25))).alloc _) (by simp)]
    simp
  have z1 : ((w7.alloc (.cells #[.int .i64 xk, .int .i64 xn, .string xt, .slice xa xl xc, .int .i64 yk, .int .i64 yn, .string yt, .slice ya yl yc] 25)).alloc (.cells #[.int .i64 4, .int .i64 0, .string ⟨#[]⟩, .slice (some ⟨w7.heap.size, 0, none⟩) 2 2] 25)).cell? ⟨w7.heap.size, 1, none⟩ = some (.int .i64 xn) := by
    rw [Ext.cell ((Ext.refl (w7.alloc (.cells #[.int .i64 xk, .int .i64 xn, .string xt, .slice xa xl xc, .int .i64 yk, .int .i64 yn, .string yt, .slice ya yl yc] 25))).alloc _) (by simp)]
    simp
  have z2 : ((w7.alloc (.cells #[.int .i64 xk, .int .i64 xn, .string xt, .slice xa xl xc, .int .i64 yk, .int .i64 yn, .string yt, .slice ya yl yc] 25)).alloc (.cells #[.int .i64 4, .int .i64 0, .string ⟨#[]⟩, .slice (some ⟨w7.heap.size, 0, none⟩) 2 2] 25)).cell? ⟨w7.heap.size, 2, none⟩ = some (.string xt) := by
    rw [Ext.cell ((Ext.refl (w7.alloc (.cells #[.int .i64 xk, .int .i64 xn, .string xt, .slice xa xl xc, .int .i64 yk, .int .i64 yn, .string yt, .slice ya yl yc] 25))).alloc _) (by simp)]
    simp
  have z3 : ((w7.alloc (.cells #[.int .i64 xk, .int .i64 xn, .string xt, .slice xa xl xc, .int .i64 yk, .int .i64 yn, .string yt, .slice ya yl yc] 25)).alloc (.cells #[.int .i64 4, .int .i64 0, .string ⟨#[]⟩, .slice (some ⟨w7.heap.size, 0, none⟩) 2 2] 25)).cell? ⟨w7.heap.size, 3, none⟩ = some (.slice xa xl xc) := by
    rw [Ext.cell ((Ext.refl (w7.alloc (.cells #[.int .i64 xk, .int .i64 xn, .string xt, .slice xa xl xc, .int .i64 yk, .int .i64 yn, .string yt, .slice ya yl yc] 25))).alloc _) (by simp)]
    simp
  have z4 : ((w7.alloc (.cells #[.int .i64 xk, .int .i64 xn, .string xt, .slice xa xl xc, .int .i64 yk, .int .i64 yn, .string yt, .slice ya yl yc] 25)).alloc (.cells #[.int .i64 4, .int .i64 0, .string ⟨#[]⟩, .slice (some ⟨w7.heap.size, 0, none⟩) 2 2] 25)).cell? ⟨w7.heap.size, 4, none⟩ = some (.int .i64 yk) := by
    rw [Ext.cell ((Ext.refl (w7.alloc (.cells #[.int .i64 xk, .int .i64 xn, .string xt, .slice xa xl xc, .int .i64 yk, .int .i64 yn, .string yt, .slice ya yl yc] 25))).alloc _) (by simp)]
    simp
  have z5 : ((w7.alloc (.cells #[.int .i64 xk, .int .i64 xn, .string xt, .slice xa xl xc, .int .i64 yk, .int .i64 yn, .string yt, .slice ya yl yc] 25)).alloc (.cells #[.int .i64 4, .int .i64 0, .string ⟨#[]⟩, .slice (some ⟨w7.heap.size, 0, none⟩) 2 2] 25)).cell? ⟨w7.heap.size, 5, none⟩ = some (.int .i64 yn) := by
    rw [Ext.cell ((Ext.refl (w7.alloc (.cells #[.int .i64 xk, .int .i64 xn, .string xt, .slice xa xl xc, .int .i64 yk, .int .i64 yn, .string yt, .slice ya yl yc] 25))).alloc _) (by simp)]
    simp
  have z6 : ((w7.alloc (.cells #[.int .i64 xk, .int .i64 xn, .string xt, .slice xa xl xc, .int .i64 yk, .int .i64 yn, .string yt, .slice ya yl yc] 25)).alloc (.cells #[.int .i64 4, .int .i64 0, .string ⟨#[]⟩, .slice (some ⟨w7.heap.size, 0, none⟩) 2 2] 25)).cell? ⟨w7.heap.size, 6, none⟩ = some (.string yt) := by
    rw [Ext.cell ((Ext.refl (w7.alloc (.cells #[.int .i64 xk, .int .i64 xn, .string xt, .slice xa xl xc, .int .i64 yk, .int .i64 yn, .string yt, .slice ya yl yc] 25))).alloc _) (by simp)]
    simp
  have z7 : ((w7.alloc (.cells #[.int .i64 xk, .int .i64 xn, .string xt, .slice xa xl xc, .int .i64 yk, .int .i64 yn, .string yt, .slice ya yl yc] 25)).alloc (.cells #[.int .i64 4, .int .i64 0, .string ⟨#[]⟩, .slice (some ⟨w7.heap.size, 0, none⟩) 2 2] 25)).cell? ⟨w7.heap.size, 7, none⟩ = some (.slice ya yl yc) := by
    rw [Ext.cell ((Ext.refl (w7.alloc (.cells #[.int .i64 xk, .int .i64 xn, .string xt, .slice xa xl xc, .int .i64 yk, .int .i64 yn, .string yt, .slice ya yl yc] 25))).alloc _) (by simp)]
    simp
  have hVL : ValS (fun _ => True) ((w7.alloc (.cells #[.int .i64 xk, .int .i64 xn, .string xt, .slice xa xl xc, .int .i64 yk, .int .i64 yn, .string yt, .slice ya yl yc] 25)).alloc (.cells #[.int .i64 4, .int .i64 0, .string ⟨#[]⟩, .slice (some ⟨w7.heap.size, 0, none⟩) 2 2] 25)) (lst [x, y]) (.agg #[.int .i64 4, .int .i64 0, .string ⟨#[]⟩, .slice (some ⟨w7.heap.size, 0, none⟩) 2 2]) := (ValS.two hx8 hy8 trivial hrlt z0 z1 z2 z3 z4 z5 z6 z7)
  clear hrlt z0 z1 z2 z3 z4 z5 z6 z7
  replace hA := hA.ext hE
  replace hB := hB.ext hE
  replace hXw := hXw.trans hE
  replace hXB := hXB.ext hE
  replace hXL := hXL.ext hE
  replace hYB := hYB.ext hE
  replace hYL := hYL.ext hE
  replace hUB := hUB.ext hE
  replace hUL := hUL.ext hE
  clear hE hx7 hy7
  generalize ((w7.alloc (.cells #[.int .i64 xk, .int .i64 xn, .string xt, .slice xa xl xc, .int .i64 yk, .int .i64 yn, .string yt, .slice ya yl yc] 25)).alloc (.cells #[.int .i64 4, .int .i64 0, .string ⟨#[]⟩, .slice (some ⟨w7.heap.size, 0, none⟩) 2 2] 25)) = w8 at *
  generalize w7.heap.size + 1 = VB at *
  generalize w7.heap.size = VR at *
  have hbd := ordOk_bd x y
  have c3 : Says w8 19 #[.agg #[.int .i64 4, .int .i64 0, .string ⟨#[]⟩, .slice (some ⟨XR, 0, none⟩) 1 1]] (.bool (okN 3 (lst [x]))) := fun W hW => implValueOk_any _ 0 _ W ((hXL.ext hW).toIn (fun _ _ => Nat.zero_le _))
  have c4 : Says w8 19 #[.agg #[.int .i64 4, .int .i64 0, .string ⟨#[]⟩, .slice (some ⟨YR, 0, none⟩) 1 1]] (.bool (okN 3 (lst [y]))) := fun W hW => implValueOk_any _ 0 _ W ((hYL.ext hW).toIn (fun _ _ => Nat.zero_le _))
  have c5 : Says w8 8 #[.agg #[.int .i64 4, .int .i64 0, .string ⟨#[]⟩, .slice (some ⟨XR, 0, none⟩) 1 1], .agg #[.int .i64 4, .int .i64 0, .string ⟨#[]⟩, .slice (some ⟨YR, 0, none⟩) 1 1]] (.int .i64 (ordOk (lst [x]) (lst [y]))) := fun W hW => implValueOrder_any _ _ 0 0 _ _ W ((hXL.ext hW).toIn (fun _ _ => Nat.zero_le _)) ((hYL.ext hW).toIn (fun _ _ => Nat.zero_le _))
  have c6 : Says w8 8 #[.agg #[.int .i64 4, .int .i64 0, .string ⟨#[]⟩, .slice (some ⟨UR, 0, none⟩) 2 2], .agg #[.int .i64 4, .int .i64 0, .string ⟨#[]⟩, .slice (some ⟨VR, 0, none⟩) 2 2]] (.int .i64 (ordOk (lst [x, x]) (lst [x, y]))) := fun W hW => implValueOrder_any _ _ 0 0 _ _ W ((hUL.ext hW).toIn (fun _ _ => Nat.zero_le _)) ((hVL.ext hW).toIn (fun _ _ => Nat.zero_le _))
  have c7 : Says w8 8 #[.agg #[.int .i64 4, .int .i64 0, .string ⟨#[]⟩, .slice (some ⟨XR, 0, none⟩) 1 1], .agg #[.int .i64 4, .int .i64 0, .string ⟨#[]⟩, .slice (some ⟨VR, 0, none⟩) 2 2]] (.int .i64 (ordOk (lst [x]) (lst [x, y]))) := fun W hW => implValueOrder_any _ _ 0 0 _ _ W ((hXL.ext hW).toIn (fun _ _ => Nat.zero_le _)) ((hVL.ext hW).toIn (fun _ _ => Nat.zero_le _))
  have HL : Hid (okN 3 (lst [x]) = true → okN 3 (lst [y]) = true → ordOk (lst [x]) (lst [y]) = ordOk x y ∧ ordOk (lst [x, x]) (lst [x, y]) = ordOk x y ∧ ordOk (lst [x]) (lst [x, y]) = -1) := fun h1 h2 => list_law h1 h2
  generalize ordOk (lst [x]) (lst [y]) = k5 at *
  generalize ordOk (lst [x, x]) (lst [x, y]) = k6 at *
  generalize ordOk (lst [x]) (lst [x, y]) = k7 at *
  generalize ordOk x y = k at *
  generalize okN 3 (lst [x]) = ox at *
  generalize okN 3 (lst [y]) = oy at *
  clear hXL hYL hUL hVL hx8 hy8 hA hB
  have hcur := Ext.refl w8
  obtain ⟨⟨_, p0, p1, p2, p3⟩, _⟩ := hXB.ext hcur
  obtain ⟨⟨_, q0, q1, q2, q3⟩, _⟩ := hYB.ext hcur
  obtain ⟨⟨_, r0, r1, r2, r3⟩, _⟩ := hUB.ext hcur
  obtain ⟨⟨_, s0, s1, s2, s3⟩, _⟩ := hVB.ext hcur
  go_wp2_with fail
  refine (c3 _ hcur).mono ?_
  rintro e wn ⟨rfl, hE⟩
  replace hcur := hcur.trans hE
  clear hE p0 p1 p2 p3 q0 q1 q2 q3 r0 r1 r2 r3 s0 s1 s2 s3
  obtain ⟨⟨_, p0, p1, p2, p3⟩, _⟩ := hXB.ext hcur
  obtain ⟨⟨_, q0, q1, q2, q3⟩, _⟩ := hYB.ext hcur
  obtain ⟨⟨_, r0, r1, r2, r3⟩, _⟩ := hUB.ext hcur
  obtain ⟨⟨_, s0, s1, s2, s3⟩, _⟩ := hVB.ext hcur
  cases ox
  · clear HL
    go_wp2
    go_ret
    exact ⟨rfl, hXw.trans hcur⟩
  go_wp2_with fail
  refine (c4 _ hcur).mono ?_
  rintro e wn ⟨rfl, hE⟩
  replace hcur := hcur.trans hE
  clear hE p0 p1 p2 p3 q0 q1 q2 q3 r0 r1 r2 r3 s0 s1 s2 s3
  obtain ⟨⟨_, p0, p1, p2, p3⟩, _⟩ := hXB.ext hcur
  obtain ⟨⟨_, q0, q1, q2, q3⟩, _⟩ := hYB.ext hcur
  obtain ⟨⟨_, r0, r1, r2, r3⟩, _⟩ := hUB.ext hcur
  obtain ⟨⟨_, s0, s1, s2, s3⟩, _⟩ := hVB.ext hcur
  cases oy
  · clear HL
    go_wp2
    go_ret
    exact ⟨rfl, hXw.trans hcur⟩
  obtain ⟨rfl, rfl, rfl⟩ := HL.out (by trivial) (by trivial)
  clear HL
  go_wp2_with fail
  refine (c5 _ hcur).mono ?_
  rintro e wn ⟨rfl, hE⟩
  replace hcur := hcur.trans hE
  clear hE p0 p1 p2 p3 q0 q1 q2 q3 r0 r1 r2 r3 s0 s1 s2 s3
  obtain ⟨⟨_, p0, p1, p2, p3⟩, _⟩ := hXB.ext hcur
  obtain ⟨⟨_, q0, q1, q2, q3⟩, _⟩ := hYB.ext hcur
  obtain ⟨⟨_, r0, r1, r2, r3⟩, _⟩ := hUB.ext hcur
  obtain ⟨⟨_, s0, s1, s2, s3⟩, _⟩ := hVB.ext hcur
  go_wp2_with fail
  refine (c6 _ hcur).mono ?_
  rintro e wn ⟨rfl, hE⟩
  replace hcur := hcur.trans hE
  clear hE p0 p1 p2 p3 q0 q1 q2 q3 r0 r1 r2 r3 s0 s1 s2 s3
  obtain ⟨⟨_, p0, p1, p2, p3⟩, _⟩ := hXB.ext hcur
  obtain ⟨⟨_, q0, q1, q2, q3⟩, _⟩ := hYB.ext hcur
  obtain ⟨⟨_, r0, r1, r2, r3⟩, _⟩ := hUB.ext hcur
  obtain ⟨⟨_, s0, s1, s2, s3⟩, _⟩ := hVB.ext hcur
  go_wp2_with fail
  refine (c7 _ hcur).mono ?_
  rintro e wn ⟨rfl, hE⟩
  replace hcur := hcur.trans hE
  clear hE p0 p1 p2 p3 q0 q1 q2 q3 r0 r1 r2 r3 s0 s1 s2 s3
  obtain ⟨⟨_, p0, p1, p2, p3⟩, _⟩ := hXB.ext hcur
  obtain ⟨⟨_, q0, q1, q2, q3⟩, _⟩ := hYB.ext hcur
  obtain ⟨⟨_, r0, r1, r2, r3⟩, _⟩ := hUB.ext hcur
  obtain ⟨⟨_, s0, s1, s2, s3⟩, _⟩ := hVB.ext hcur
  go_wp2
  go_ret
  exact ⟨rfl, hXw.trans hcur⟩
end Go.Proofs.Ytnbjkbpmdjpocaa.fnValueList
