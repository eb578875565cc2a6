/- At every two codes the law FnValueOrder answers true: of two drawn values one is first, or they are the same. -/
import Derived.Test.YtnbjkbpmdjpocaaCodeRow
import Derived.Test.YtnbjkbpmdjpocaaDrawWrap
import Derived.Test.YtnbjkbpmdjpocaaOrdThy
import Derived.Test.YtnbjkbpmdjpocaaAsVal
import Derived.Deep.DeepCutAuto
namespace Go.Proofs.Ytnbjkbpmdjpocaa.fnValueOrder
open Go.RowKit Go.Deep

/-- One call of the law's: what it answers, and that it turns nothing old. -/
def Says (BW : World) (f : Nat) (args : Array Value) (r : Value) : Prop := ∀ W, Ext BW W → Calls Try.prog f args W fun e w' => e = .returned r ∧ Ext W w'

set_option maxRecDepth 100000 in
set_option maxHeartbeats 4000000 in
theorem walk (a0 : Option Addr) (len0 cap0 : Nat) (a1 : Option Addr) (len1 cap1 : Nat) (w : World) (h0 : CodeIn w a0 len0 cap0) (h1 : CodeIn w a1 len1 cap1) :
    Calls Try.prog 3 #[.slice a0 len0 cap0, .slice a1 len1 cap1] w fun e w' => e = .returned (.bool true) ∧ Ext w w' := by
  have hl0 := h0.len
  have hl1 := h1.len
  have g0 : decide ((len0 : Int) > 1048576) = false := decide_eq_false (by omega)
  have g1 : decide ((len1 : Int) > 1048576) = false := decide_eq_false (by omega)
  go_enter Try.func3, Try.ntmps3
  go_wp2_with fail
  refine (drawOrder_any a0 len0 cap0 w h0).mono ?_
  rintro e w1 ⟨x, y, u, v, rfl, hx, hy, hE1⟩
  obtain ⟨xk, xn, xt, xa, xl, xc, hsh⟩ := hx.shape
  subst hsh
  obtain ⟨yk, yn, yt, ya, yl, yc, hsh⟩ := hy.shape
  subst hsh
  have hA := FBox.new w1 (.int .i64 xk) (.int .i64 xn) (.string xt) (.slice xa xl xc) 25
  have hB := FBox.new (w1.alloc (.cells #[.int .i64 xk, .int .i64 xn, .string xt, .slice xa xl xc] 25)) (.int .i64 yk) (.int .i64 yn) (.string yt) (.slice ya yl yc) 25
  replace hA := hA.ext ((Ext.refl _).alloc (.cells #[.int .i64 yk, .int .i64 yn, .string yt, .slice ya yl yc] 25))
  have hE2 : Ext w1 ((w1.alloc (.cells #[.int .i64 xk, .int .i64 xn, .string xt, .slice xa xl xc] 25)).alloc (.cells #[.int .i64 yk, .int .i64 yn, .string yt, .slice ya yl yc] 25)) := ((Ext.refl _).alloc _).alloc _
  simp only [World.size_alloc] at hB
  have hcall := drawOrder_any a1 len1 cap1 _ (h1.ext (hE1.trans hE2))
  go_wp2_with fail
  refine hcall.mono ?_
  rintro e w2 ⟨z, z', u, v, rfl, hz, hz', hE3⟩
  clear hcall
  obtain ⟨zk, zn, zt, za, zl, zc, hsh⟩ := hz.shape
  subst hsh
  obtain ⟨zk', zn', zt', za', zl', zc', hsh⟩ := hz'.shape
  subst hsh
  replace hA := hA.ext hE3
  replace hB := hB.ext hE3
  have hA2 : Ext w2 ((w2.alloc (.cells #[.int .i64 zk, .int .i64 zn, .string zt, .slice za zl zc] 25)).alloc (.cells #[.int .i64 zk', .int .i64 zn', .string zt', .slice za' zl' zc'] 25)) := ((Ext.refl _).alloc _).alloc _
  have hC := (FBox.new w2 (.int .i64 zk) (.int .i64 zn) (.string zt) (.slice za zl zc) 25).ext ((Ext.refl _).alloc (.cells #[.int .i64 zk', .int .i64 zn', .string zt', .slice za' zl' zc'] 25))
  replace hA := hA.ext hA2
  replace hB := hB.ext hA2
  have hX : Ext w ((w2.alloc (.cells #[.int .i64 zk, .int .i64 zn, .string zt, .slice za zl zc] 25)).alloc (.cells #[.int .i64 zk', .int .i64 zn', .string zt', .slice za' zl' zc'] 25)) := ((hE1.trans hE2).trans hE3).trans hA2
  have ix := (((hx.ext hE2).ext hE3).ext hA2).toIn (lo := 0) (fun _ _ => Nat.zero_le _)
  have iy := (((hy.ext hE2).ext hE3).ext hA2).toIn (lo := 0) (fun _ _ => Nat.zero_le _)
  have iz := (hz.ext hA2).toIn (lo := 0) (fun _ _ => Nat.zero_le _)
  clear hx hy hz hz' hE1 hE2 hE3 hA2 h0 h1
  -- what the calls of the law answer
  have c1 : Says ((w2.alloc (.cells #[.int .i64 zk, .int .i64 zn, .string zt, .slice za zl zc] 25)).alloc (.cells #[.int .i64 zk', .int .i64 zn', .string zt', .slice za' zl' zc'] 25)) 8 #[.agg #[.int .i64 xk, .int .i64 xn, .string xt, .slice xa xl xc], .agg #[.int .i64 yk, .int .i64 yn, .string yt, .slice ya yl yc]] (.int .i64 (ordOk x y)) := fun W hW => implValueOrder_any x y 0 0 _ _ W (ix.ext hW) (iy.ext hW)
  have c2 : Says ((w2.alloc (.cells #[.int .i64 zk, .int .i64 zn, .string zt, .slice za zl zc] 25)).alloc (.cells #[.int .i64 zk', .int .i64 zn', .string zt', .slice za' zl' zc'] 25)) 9 #[.agg #[.int .i64 xk, .int .i64 xn, .string xt, .slice xa xl xc], .agg #[.int .i64 yk, .int .i64 yn, .string yt, .slice ya yl yc]] (.int .i64 (ordOk x y)) := fun W hW => specValueOrder_any x y 0 0 _ _ W (ix.ext hW) (iy.ext hW)
  have c3 : Says ((w2.alloc (.cells #[.int .i64 zk, .int .i64 zn, .string zt, .slice za zl zc] 25)).alloc (.cells #[.int .i64 zk', .int .i64 zn', .string zt', .slice za' zl' zc'] 25)) 8 #[.agg #[.int .i64 yk, .int .i64 yn, .string yt, .slice ya yl yc], .agg #[.int .i64 xk, .int .i64 xn, .string xt, .slice xa xl xc]] (.int .i64 (- ordOk x y)) := fun W hW => by rw [← ordOk_neg x y]; exact implValueOrder_any y x 0 0 _ _ W (iy.ext hW) (ix.ext hW)
  have c4 : Says ((w2.alloc (.cells #[.int .i64 zk, .int .i64 zn, .string zt, .slice za zl zc] 25)).alloc (.cells #[.int .i64 zk', .int .i64 zn', .string zt', .slice za' zl' zc'] 25)) 10 #[.agg #[.int .i64 xk, .int .i64 xn, .string xt, .slice xa xl xc]] (.bool (okN 3 x)) := fun W hW => specValueOk_any x 0 _ W (ix.ext hW)
  have c5 : Says ((w2.alloc (.cells #[.int .i64 zk, .int .i64 zn, .string zt, .slice za zl zc] 25)).alloc (.cells #[.int .i64 zk', .int .i64 zn', .string zt', .slice za' zl' zc'] 25)) 10 #[.agg #[.int .i64 yk, .int .i64 yn, .string yt, .slice ya yl yc]] (.bool (okN 3 y)) := fun W hW => specValueOk_any y 0 _ W (iy.ext hW)
  have c6 : Says ((w2.alloc (.cells #[.int .i64 zk, .int .i64 zn, .string zt, .slice za zl zc] 25)).alloc (.cells #[.int .i64 zk', .int .i64 zn', .string zt', .slice za' zl' zc'] 25)) 10 #[.agg #[.int .i64 zk, .int .i64 zn, .string zt, .slice za zl zc]] (.bool (okN 3 z)) := fun W hW => specValueOk_any z 0 _ W (iz.ext hW)
  have c7 : Says ((w2.alloc (.cells #[.int .i64 zk, .int .i64 zn, .string zt, .slice za zl zc] 25)).alloc (.cells #[.int .i64 zk', .int .i64 zn', .string zt', .slice za' zl' zc'] 25)) 8 #[.agg #[.int .i64 yk, .int .i64 yn, .string yt, .slice ya yl yc], .agg #[.int .i64 zk, .int .i64 zn, .string zt, .slice za zl zc]] (.int .i64 (ordOk y z)) := fun W hW => implValueOrder_any y z 0 0 _ _ W (iy.ext hW) (iz.ext hW)
  have c8 : Says ((w2.alloc (.cells #[.int .i64 zk, .int .i64 zn, .string zt, .slice za zl zc] 25)).alloc (.cells #[.int .i64 zk', .int .i64 zn', .string zt', .slice za' zl' zc'] 25)) 11 #[.agg #[.int .i64 xk, .int .i64 xn, .string xt, .slice xa xl xc], .agg #[.int .i64 yk, .int .i64 yn, .string yt, .slice ya yl yc]] (.bool (sameV x y)) := fun W hW => asValue_any x y 0 0 _ _ W (ix.ext hW) (iy.ext hW)
  have c9 : Says ((w2.alloc (.cells #[.int .i64 zk, .int .i64 zn, .string zt, .slice za zl zc] 25)).alloc (.cells #[.int .i64 zk', .int .i64 zn', .string zt', .slice za' zl' zc'] 25)) 8 #[.agg #[.int .i64 xk, .int .i64 xn, .string xt, .slice xa xl xc], .agg #[.int .i64 zk, .int .i64 zn, .string zt, .slice za zl zc]] (.int .i64 (ordOk x z)) := fun W hW => implValueOrder_any x z 0 0 _ _ W (ix.ext hW) (iz.ext hW)
  have c10 : Says ((w2.alloc (.cells #[.int .i64 zk, .int .i64 zn, .string zt, .slice za zl zc] 25)).alloc (.cells #[.int .i64 zk', .int .i64 zn', .string zt', .slice za' zl' zc'] 25)) 8 #[.agg #[.int .i64 xk, .int .i64 xn, .string xt, .slice xa xl xc], .agg #[.int .i64 0, .int .i64 0, .string ⟨#[]⟩, .slice none 0 0]] (.int .i64 (ordOk x (flatV 0 0))) := fun W hW => implValueOrder_any x (flatV 0 0) 0 0 _ _ W (ix.ext hW) (flat_in 0 W 0 0 rfl rfl)
  have hbd := ordOk_bd x y
  have hbd2 := ordOk_bd y z
  have hbd3 := ordOk_bd x z
  have hbd4 := ordOk_bd x (flatV 0 0)
  have HL : Hid (okN 3 x = true → okN 3 y = true → okN 3 z = true → sameV x y = decide (ordOk x y = 0) ∧ (ordOk x y ≤ 0 → ordOk y z ≤ 0 → ordOk x z ≤ 0) ∧ ordOk x (flatV 0 0) ≤ 0) :=
    fun h1 h2 h3 => ⟨ordOk_same h1 h2, ordOk_trans h1 h2 h3, ordOk_null h1⟩
  generalize ordOk x y = k at *
  generalize ordOk y z = n at *
  generalize ordOk x z = m at *
  generalize ordOk x (flatV 0 0) = o at *
  generalize okN 3 x = ox at *
  generalize okN 3 y = oy at *
  generalize okN 3 z = oz at *
  generalize sameV x y = sm at *
  clear ix iy iz
  have hcur := Ext.refl ((w2.alloc (.cells #[.int .i64 zk, .int .i64 zn, .string zt, .slice za zl zc] 25)).alloc (.cells #[.int .i64 zk', .int .i64 zn', .string zt', .slice za' zl' zc'] 25))
  obtain ⟨⟨_, p0, p1, p2, p3⟩, _⟩ := id hA
  obtain ⟨⟨_, q0, q1, q2, q3⟩, _⟩ := id hB
  go_wp2_with fail
  refine (c1 _ hcur).mono ?_
  rintro e w3 ⟨rfl, hE⟩
  replace hcur := hcur.trans hE
  clear hE p0 p1 p2 p3 q0 q1 q2 q3 c1
  generalize (w2.alloc (.cells #[.int .i64 zk, .int .i64 zn, .string zt, .slice za zl zc] 25)).alloc (.cells #[.int .i64 zk', .int .i64 zn', .string zt', .slice za' zl' zc'] 25) = BW at *
  obtain ⟨⟨_, p0, p1, p2, p3⟩, _⟩ := hA.ext hcur
  obtain ⟨⟨_, q0, q1, q2, q3⟩, _⟩ := hB.ext hcur
  go_wp2_with fail
  refine (c2 _ hcur).mono ?_
  rintro e w4 ⟨rfl, hE⟩
  replace hcur := hcur.trans hE
  clear hE p0 p1 p2 p3 q0 q1 q2 q3
  obtain ⟨⟨_, p0, p1, p2, p3⟩, _⟩ := hA.ext hcur
  obtain ⟨⟨_, q0, q1, q2, q3⟩, _⟩ := hB.ext hcur
  go_wp2_with fail
  refine (c3 _ hcur).mono ?_
  rintro e w5 ⟨rfl, hE⟩
  replace hcur := hcur.trans hE
  clear hE p0 p1 p2 p3 q0 q1 q2 q3
  obtain ⟨⟨_, p0, p1, p2, p3⟩, _⟩ := hA.ext hcur
  obtain ⟨⟨_, q0, q1, q2, q3⟩, _⟩ := hB.ext hcur
  go_wp2_with fail
  refine (c4 _ hcur).mono ?_
  rintro e w6 ⟨rfl, hE⟩
  replace hcur := hcur.trans hE
  clear hE p0 p1 p2 p3 q0 q1 q2 q3
  obtain ⟨⟨_, p0, p1, p2, p3⟩, _⟩ := hA.ext hcur
  obtain ⟨⟨_, q0, q1, q2, q3⟩, _⟩ := hB.ext hcur
  cases ox
  · clear HL
    go_wp2_with fail
    refine (c2 _ hcur).mono ?_
    rintro e w7 ⟨rfl, hE⟩
    replace hcur := hcur.trans hE
    clear hE p0 p1 p2 p3 q0 q1 q2 q3
    obtain ⟨⟨_, p0, p1, p2, p3⟩, _⟩ := hA.ext hcur
    obtain ⟨⟨_, q0, q1, q2, q3⟩, _⟩ := hB.ext hcur
    go_wp2_with fail
    refine (c3 _ hcur).mono ?_
    rintro e w8 ⟨rfl, hE⟩
    replace hcur := hcur.trans hE
    clear hE p0 p1 p2 p3 q0 q1 q2 q3
    obtain ⟨⟨_, p0, p1, p2, p3⟩, _⟩ := hA.ext hcur
    obtain ⟨⟨_, q0, q1, q2, q3⟩, _⟩ := hB.ext hcur
    go_wp2
    go_ret
    exact ⟨rfl, hX.trans hcur⟩
  go_wp2_with fail
  refine (c5 _ hcur).mono ?_
  rintro e w9 ⟨rfl, hE⟩
  replace hcur := hcur.trans hE
  clear hE p0 p1 p2 p3 q0 q1 q2 q3
  obtain ⟨⟨_, p0, p1, p2, p3⟩, _⟩ := hA.ext hcur
  obtain ⟨⟨_, q0, q1, q2, q3⟩, _⟩ := hB.ext hcur
  obtain ⟨⟨_, r0, r1, r2, r3⟩, _⟩ := hC.ext hcur
  cases oy
  · clear HL
    go_wp2_with fail
    refine (c2 _ hcur).mono ?_
    rintro e w10 ⟨rfl, hE⟩
    replace hcur := hcur.trans hE
    clear hE p0 p1 p2 p3 q0 q1 q2 q3 r0 r1 r2 r3
    obtain ⟨⟨_, p0, p1, p2, p3⟩, _⟩ := hA.ext hcur
    obtain ⟨⟨_, q0, q1, q2, q3⟩, _⟩ := hB.ext hcur
    go_wp2_with fail
    refine (c3 _ hcur).mono ?_
    rintro e w11 ⟨rfl, hE⟩
    replace hcur := hcur.trans hE
    clear hE p0 p1 p2 p3 q0 q1 q2 q3
    obtain ⟨⟨_, p0, p1, p2, p3⟩, _⟩ := hA.ext hcur
    obtain ⟨⟨_, q0, q1, q2, q3⟩, _⟩ := hB.ext hcur
    go_wp2
    go_ret
    exact ⟨rfl, hX.trans hcur⟩
  go_wp2_with fail
  refine (c6 _ hcur).mono ?_
  rintro e w12 ⟨rfl, hE⟩
  replace hcur := hcur.trans hE
  clear hE p0 p1 p2 p3 q0 q1 q2 q3 r0 r1 r2 r3
  obtain ⟨⟨_, p0, p1, p2, p3⟩, _⟩ := hA.ext hcur
  obtain ⟨⟨_, q0, q1, q2, q3⟩, _⟩ := hB.ext hcur
  obtain ⟨⟨_, r0, r1, r2, r3⟩, _⟩ := hC.ext hcur
  cases oz
  · clear HL
    go_wp2_with fail
    refine (c2 _ hcur).mono ?_
    rintro e w13 ⟨rfl, hE⟩
    replace hcur := hcur.trans hE
    clear hE p0 p1 p2 p3 q0 q1 q2 q3 r0 r1 r2 r3
    obtain ⟨⟨_, p0, p1, p2, p3⟩, _⟩ := hA.ext hcur
    obtain ⟨⟨_, q0, q1, q2, q3⟩, _⟩ := hB.ext hcur
    go_wp2_with fail
    refine (c3 _ hcur).mono ?_
    rintro e w14 ⟨rfl, hE⟩
    replace hcur := hcur.trans hE
    clear hE p0 p1 p2 p3 q0 q1 q2 q3
    obtain ⟨⟨_, p0, p1, p2, p3⟩, _⟩ := hA.ext hcur
    obtain ⟨⟨_, q0, q1, q2, q3⟩, _⟩ := hB.ext hcur
    go_wp2
    go_ret
    exact ⟨rfl, hX.trans hcur⟩
  obtain ⟨hsm, htr, hnl⟩ := HL.out (by trivial) (by trivial) (by trivial)
  subst hsm
  have HT : Hid (k ≤ 0 → n ≤ 0 → m ≤ 0) := htr
  clear htr HL
  have hk3 : k = 1 ∨ k = 0 ∨ k = -1 := by omega
  have hn3 : n = 1 ∨ n = 0 ∨ n = -1 := by omega
  go_wp2_with fail
  refine (c7 _ hcur).mono ?_
  rintro e w21 ⟨rfl, hE⟩
  replace hcur := hcur.trans hE
  clear hE p0 p1 p2 p3 q0 q1 q2 q3 r0 r1 r2 r3
  obtain ⟨⟨_, p0, p1, p2, p3⟩, _⟩ := hA.ext hcur
  obtain ⟨⟨_, q0, q1, q2, q3⟩, _⟩ := hB.ext hcur
  obtain ⟨⟨_, r0, r1, r2, r3⟩, _⟩ := hC.ext hcur
  go_wp2_with fail
  refine (c8 _ hcur).mono ?_
  rintro e w22 ⟨rfl, hE⟩
  replace hcur := hcur.trans hE
  clear hE p0 p1 p2 p3 q0 q1 q2 q3 r0 r1 r2 r3
  obtain ⟨⟨_, p0, p1, p2, p3⟩, _⟩ := hA.ext hcur
  obtain ⟨⟨_, q0, q1, q2, q3⟩, _⟩ := hB.ext hcur
  obtain ⟨⟨_, r0, r1, r2, r3⟩, _⟩ := hC.ext hcur
  have hdo : decide (o ≤ 0) = true := decide_eq_true hnl
  rcases hk3 with rfl | rfl | rfl
  · clear HT
    go_wp2_with fail
    refine (c10 _ hcur).mono ?_
    rintro e w23 ⟨rfl, hE⟩
    replace hcur := hcur.trans hE
    clear hE p0 p1 p2 p3 q0 q1 q2 q3 r0 r1 r2 r3
    obtain ⟨⟨_, p0, p1, p2, p3⟩, _⟩ := hA.ext hcur
    obtain ⟨⟨_, q0, q1, q2, q3⟩, _⟩ := hB.ext hcur
    obtain ⟨⟨_, r0, r1, r2, r3⟩, _⟩ := hC.ext hcur
    go_wp2
    go_ret
    exact ⟨rfl, hX.trans hcur⟩
  · rcases hn3 with rfl | rfl | rfl
    · clear HT
      go_wp2_with fail
      refine (c10 _ hcur).mono ?_
      rintro e w24 ⟨rfl, hE⟩
      replace hcur := hcur.trans hE
      clear hE p0 p1 p2 p3 q0 q1 q2 q3 r0 r1 r2 r3
      obtain ⟨⟨_, p0, p1, p2, p3⟩, _⟩ := hA.ext hcur
      obtain ⟨⟨_, q0, q1, q2, q3⟩, _⟩ := hB.ext hcur
      obtain ⟨⟨_, r0, r1, r2, r3⟩, _⟩ := hC.ext hcur
      go_wp2
      go_ret
      exact ⟨rfl, hX.trans hcur⟩
    · have hm0 := HT.out (by omega) (by omega)
      have hdm : decide (m ≤ 0) = true := decide_eq_true hm0
      clear HT
      go_wp2_with fail
      refine (c9 _ hcur).mono ?_
      rintro e w25 ⟨rfl, hE⟩
      replace hcur := hcur.trans hE
      clear hE p0 p1 p2 p3 q0 q1 q2 q3 r0 r1 r2 r3
      obtain ⟨⟨_, p0, p1, p2, p3⟩, _⟩ := hA.ext hcur
      obtain ⟨⟨_, q0, q1, q2, q3⟩, _⟩ := hB.ext hcur
      obtain ⟨⟨_, r0, r1, r2, r3⟩, _⟩ := hC.ext hcur
      go_wp2_with fail
      refine (c10 _ hcur).mono ?_
      rintro e w26 ⟨rfl, hE⟩
      replace hcur := hcur.trans hE
      clear hE p0 p1 p2 p3 q0 q1 q2 q3 r0 r1 r2 r3
      obtain ⟨⟨_, p0, p1, p2, p3⟩, _⟩ := hA.ext hcur
      obtain ⟨⟨_, q0, q1, q2, q3⟩, _⟩ := hB.ext hcur
      obtain ⟨⟨_, r0, r1, r2, r3⟩, _⟩ := hC.ext hcur
      go_wp2
      go_ret
      exact ⟨rfl, hX.trans hcur⟩
    · have hm0 := HT.out (by omega) (by omega)
      have hdm : decide (m ≤ 0) = true := decide_eq_true hm0
      clear HT
      go_wp2_with fail
      refine (c9 _ hcur).mono ?_
      rintro e w27 ⟨rfl, hE⟩
      replace hcur := hcur.trans hE
      clear hE p0 p1 p2 p3 q0 q1 q2 q3 r0 r1 r2 r3
      obtain ⟨⟨_, p0, p1, p2, p3⟩, _⟩ := hA.ext hcur
      obtain ⟨⟨_, q0, q1, q2, q3⟩, _⟩ := hB.ext hcur
      obtain ⟨⟨_, r0, r1, r2, r3⟩, _⟩ := hC.ext hcur
      go_wp2_with fail
      refine (c10 _ hcur).mono ?_
      rintro e w28 ⟨rfl, hE⟩
      replace hcur := hcur.trans hE
      clear hE p0 p1 p2 p3 q0 q1 q2 q3 r0 r1 r2 r3
      obtain ⟨⟨_, p0, p1, p2, p3⟩, _⟩ := hA.ext hcur
      obtain ⟨⟨_, q0, q1, q2, q3⟩, _⟩ := hB.ext hcur
      obtain ⟨⟨_, r0, r1, r2, r3⟩, _⟩ := hC.ext hcur
      go_wp2
      go_ret
      exact ⟨rfl, hX.trans hcur⟩
  · rcases hn3 with rfl | rfl | rfl
    · clear HT
      go_wp2_with fail
      refine (c10 _ hcur).mono ?_
      rintro e w29 ⟨rfl, hE⟩
      replace hcur := hcur.trans hE
      clear hE p0 p1 p2 p3 q0 q1 q2 q3 r0 r1 r2 r3
      obtain ⟨⟨_, p0, p1, p2, p3⟩, _⟩ := hA.ext hcur
      obtain ⟨⟨_, q0, q1, q2, q3⟩, _⟩ := hB.ext hcur
      obtain ⟨⟨_, r0, r1, r2, r3⟩, _⟩ := hC.ext hcur
      go_wp2
      go_ret
      exact ⟨rfl, hX.trans hcur⟩
    · have hm0 := HT.out (by omega) (by omega)
      have hdm : decide (m ≤ 0) = true := decide_eq_true hm0
      clear HT
      go_wp2_with fail
      refine (c9 _ hcur).mono ?_
      rintro e w30 ⟨rfl, hE⟩
      replace hcur := hcur.trans hE
      clear hE p0 p1 p2 p3 q0 q1 q2 q3 r0 r1 r2 r3
      obtain ⟨⟨_, p0, p1, p2, p3⟩, _⟩ := hA.ext hcur
      obtain ⟨⟨_, q0, q1, q2, q3⟩, _⟩ := hB.ext hcur
      obtain ⟨⟨_, r0, r1, r2, r3⟩, _⟩ := hC.ext hcur
      go_wp2_with fail
      refine (c10 _ hcur).mono ?_
      rintro e w31 ⟨rfl, hE⟩
      replace hcur := hcur.trans hE
      clear hE p0 p1 p2 p3 q0 q1 q2 q3 r0 r1 r2 r3
      obtain ⟨⟨_, p0, p1, p2, p3⟩, _⟩ := hA.ext hcur
      obtain ⟨⟨_, q0, q1, q2, q3⟩, _⟩ := hB.ext hcur
      obtain ⟨⟨_, r0, r1, r2, r3⟩, _⟩ := hC.ext hcur
      go_wp2
      go_ret
      exact ⟨rfl, hX.trans hcur⟩
    · have hm0 := HT.out (by omega) (by omega)
      have hdm : decide (m ≤ 0) = true := decide_eq_true hm0
      clear HT
      go_wp2_with fail
      refine (c9 _ hcur).mono ?_
      rintro e w32 ⟨rfl, hE⟩
      replace hcur := hcur.trans hE
      clear hE p0 p1 p2 p3 q0 q1 q2 q3 r0 r1 r2 r3
      obtain ⟨⟨_, p0, p1, p2, p3⟩, _⟩ := hA.ext hcur
      obtain ⟨⟨_, q0, q1, q2, q3⟩, _⟩ := hB.ext hcur
      obtain ⟨⟨_, r0, r1, r2, r3⟩, _⟩ := hC.ext hcur
      go_wp2_with fail
      refine (c10 _ hcur).mono ?_
      rintro e w33 ⟨rfl, hE⟩
      replace hcur := hcur.trans hE
      clear hE p0 p1 p2 p3 q0 q1 q2 q3 r0 r1 r2 r3
      obtain ⟨⟨_, p0, p1, p2, p3⟩, _⟩ := hA.ext hcur
      obtain ⟨⟨_, q0, q1, q2, q3⟩, _⟩ := hB.ext hcur
      obtain ⟨⟨_, r0, r1, r2, r3⟩, _⟩ := hC.ext hcur
      go_wp2
      go_ret
      exact ⟨rfl, hX.trans hcur⟩
end Go.Proofs.Ytnbjkbpmdjpocaa.fnValueOrder
