/- At every code the law FnValueLess answers true: of two drawn values of one kind one is less, or neither is. -/
import Derived.Test.YtkngihmfknmnaaaCodeRow
import Derived.Test.YtkngihmfknmnaaaDrawWrap
import Derived.Test.YtkngihmfknmnaaaLessThy
import Derived.Test.YtkngihmfknmnaaaAsVal
import Derived.Deep.RegionHeld3
import Derived.Deep.DrawnRows
import Derived.Deep.DeepCutAuto
namespace Go.Proofs.Ytkngihmfknmnaaa.fnValueLess
open Go.RowKit Go.Deep
attribute [local go_sem ↓] Go.wp_at_zero Go.wp_at_succ

/-- One call of the law's: what it answers, and that it turns nothing old. -/
def Says (BW : World) (f : Nat) (args : Array Value) (r : Value) : Prop := ∀ W, Ext BW W → Calls Try.prog f args W fun e w' => e = .returned r ∧ Ext W w'
theorem Says.mono {BW V : World} {f : Nat} {args : Array Value} {r : Value} (h : Says BW f args r) (e : Ext BW V) : Says V f args r := fun W hW => h W (e.trans hW)

set_option maxRecDepth 100000 in
set_option maxHeartbeats 4000000 in
theorem walk (a0 : Option Addr) (len0 cap0 : Nat) (w : World) (h0 : CodeIn w a0 len0 cap0) :
    Calls Try.prog 4 #[.slice a0 len0 cap0] w fun e w' => e = .returned (.bool true) ∧ Ext w w' := by
  have hl0 := h0.len
  have g0 : decide ((len0 : Int) > 1048576) = false := decide_eq_false (by omega)
  go_enter Try.func4, Try.ntmps4
  go_wp2_with fail
  refine (drawLess_any a0 len0 cap0 w h0).mono ?_
  rintro e w1 ⟨x, y, u, v, rfl, hx, hy, hE1⟩
  obtain ⟨xk, xn, xt, xa, xl, xc, hsh⟩ := hx.shape
  subst hsh
  obtain ⟨yk, yn, yt, ya, yl, yc, hsh⟩ := hy.shape
  subst hsh
  have hA := (FBox.new w1 (.int .i64 xk) (.int .i64 xn) (.string xt) (.slice xa xl xc) 25).ext ((Ext.refl _).alloc (.cells #[.int .i64 yk, .int .i64 yn, .string yt, .slice ya yl yc] 25))
  have hB := FBox.new (w1.alloc (.cells #[.int .i64 xk, .int .i64 xn, .string xt, .slice xa xl xc] 25)) (.int .i64 yk) (.int .i64 yn) (.string yt) (.slice ya yl yc) 25
  have hE2 : Ext w1 ((w1.alloc (.cells #[.int .i64 xk, .int .i64 xn, .string xt, .slice xa xl xc] 25)).alloc (.cells #[.int .i64 yk, .int .i64 yn, .string yt, .slice ya yl yc] 25)) := ((Ext.refl _).alloc _).alloc _
  simp only [World.size_alloc] at hB
  have ix := (hx.ext hE2).toIn (lo := 0) (fun _ _ => Nat.zero_le _)
  have iy := (hy.ext hE2).toIn (lo := 0) (fun _ _ => Nat.zero_le _)
  have hX := hE1.trans hE2
  clear hx hy hE1 hE2 h0
  have c1 : Says ((w1.alloc (.cells #[.int .i64 xk, .int .i64 xn, .string xt, .slice xa xl xc] 25)).alloc (.cells #[.int .i64 yk, .int .i64 yn, .string yt, .slice ya yl yc] 25)) 10 #[.agg #[.int .i64 xk, .int .i64 xn, .string xt, .slice xa xl xc], .agg #[.int .i64 yk, .int .i64 yn, .string yt, .slice ya yl yc]] (.agg #[.int .i64 (lessK x y), .int .i64 (lessN x y), .string ⟨#[]⟩, .slice none 0 0]) := fun W hW => implValueLess_any x y 0 0 _ _ W (ix.ext hW) (iy.ext hW)
  have c3 : Says ((w1.alloc (.cells #[.int .i64 xk, .int .i64 xn, .string xt, .slice xa xl xc] 25)).alloc (.cells #[.int .i64 yk, .int .i64 yn, .string yt, .slice ya yl yc] 25)) 10 #[.agg #[.int .i64 yk, .int .i64 yn, .string yt, .slice ya yl yc], .agg #[.int .i64 xk, .int .i64 xn, .string xt, .slice xa xl xc]] (.agg #[.int .i64 (lessK x y), .int .i64 (lessN y x), .string ⟨#[]⟩, .slice none 0 0]) := fun W hW => by rw [← lessK_symm x y]; exact implValueLess_any y x 0 0 _ _ W (iy.ext hW) (ix.ext hW)
  have c2 : Says ((w1.alloc (.cells #[.int .i64 xk, .int .i64 xn, .string xt, .slice xa xl xc] 25)).alloc (.cells #[.int .i64 yk, .int .i64 yn, .string yt, .slice ya yl yc] 25)) 11 #[.agg #[.int .i64 xk, .int .i64 xn, .string xt, .slice xa xl xc], .agg #[.int .i64 yk, .int .i64 yn, .string yt, .slice ya yl yc]] (.agg #[.int .i64 (lessK x y), .int .i64 (lessN x y), .string ⟨#[]⟩, .slice none 0 0]) := fun W hW => specValueLess_any x y 0 0 _ _ W (ix.ext hW) (iy.ext hW)
  have c4 : Says ((w1.alloc (.cells #[.int .i64 xk, .int .i64 xn, .string xt, .slice xa xl xc] 25)).alloc (.cells #[.int .i64 yk, .int .i64 yn, .string yt, .slice ya yl yc] 25)) 8 #[.agg #[.int .i64 (lessK x y), .int .i64 (lessN x y), .string ⟨#[]⟩, .slice none 0 0], .agg #[.int .i64 (lessK x y), .int .i64 (lessN x y), .string ⟨#[]⟩, .slice none 0 0]] (.bool true) := fun W hW => by
    have h := asValue_any (flatV (lessK x y) (lessN x y)) (flatV (lessK x y) (lessN x y)) 0 0 _ _ W (flat_in 0 W _ _ (wf_lessK' x y) (wf_lessN' x y)) (flat_in 0 W _ _ (wf_lessK' x y) (wf_lessN' x y))
    rw [sameV_refl] at h
    exact h
  have c5 : Says ((w1.alloc (.cells #[.int .i64 xk, .int .i64 xn, .string xt, .slice xa xl xc] 25)).alloc (.cells #[.int .i64 yk, .int .i64 yn, .string yt, .slice ya yl yc] 25)) 12 #[.agg #[.int .i64 xk, .int .i64 xn, .string xt, .slice xa xl xc]] (.bool (okN 3 x)) := fun W hW => specValueOk_any x 0 _ W (ix.ext hW)
  have c6 : Says ((w1.alloc (.cells #[.int .i64 xk, .int .i64 xn, .string xt, .slice xa xl xc] 25)).alloc (.cells #[.int .i64 yk, .int .i64 yn, .string yt, .slice ya yl yc] 25)) 12 #[.agg #[.int .i64 yk, .int .i64 yn, .string yt, .slice ya yl yc]] (.bool (okN 3 y)) := fun W hW => specValueOk_any y 0 _ W (iy.ext hW)
  have c7 : Says ((w1.alloc (.cells #[.int .i64 xk, .int .i64 xn, .string xt, .slice xa xl xc] 25)).alloc (.cells #[.int .i64 yk, .int .i64 yn, .string yt, .slice ya yl yc] 25)) 13 #[.agg #[.int .i64 xk, .int .i64 xn, .string xt, .slice xa xl xc], .agg #[.int .i64 yk, .int .i64 yn, .string yt, .slice ya yl yc]] (.int .i64 (ordOk x y)) := fun W hW => implValueOrder_any x y 0 0 _ _ W (ix.ext hW) (iy.ext hW)
  have HL : Hid (okN 3 x = true → okN 3 y = true → (lessK x y = 0 ∧ (¬ xk = yk ∨ xk = 0 ∨ 3 < xk)) ∨ (lessK x y = 1 ∧ xk = yk ∧ (lessN x y = 0 ∨ lessN x y = 1) ∧ (lessN y x = 0 ∨ lessN y x = 1) ∧ lessN x y + lessN y x ≤ 1 ∧ (lessN x y = 1 ↔ ordOk x y < 0))) := fun h1 h2 => by
    have h := less_law h1 h2
    rw [ix.kind_eq, iy.kind_eq] at h
    exact h
  generalize lessK x y = K at *
  generalize lessN x y = N at *
  generalize lessN y x = M at *
  generalize okN 3 x = ox at *
  generalize okN 3 y = oy at *
  generalize ordOk x y = o at *
  clear ix iy
  have hcur := Ext.refl ((w1.alloc (.cells #[.int .i64 xk, .int .i64 xn, .string xt, .slice xa xl xc] 25)).alloc (.cells #[.int .i64 yk, .int .i64 yn, .string yt, .slice ya yl yc] 25))
  obtain ⟨⟨_, p0, p1, p2, p3⟩, _⟩ := id hA
  obtain ⟨⟨_, q0, q1, q2, q3⟩, _⟩ := id hB
  go_wp2_with fail
  refine (c1 _ hcur).mono ?_
  rintro e w3 ⟨rfl, hE⟩
  replace hcur := hcur.trans hE
  clear hE p0 p1 p2 p3 q0 q1 q2 q3 c1
  generalize ((w1.alloc (.cells #[.int .i64 xk, .int .i64 xn, .string xt, .slice xa xl xc] 25)).alloc (.cells #[.int .i64 yk, .int .i64 yn, .string yt, .slice ya yl yc] 25)) = BW at *
  have hV := FBox.new w3 (.int .i64 K) (.int .i64 N) (.string ⟨#[]⟩) (.slice none 0 0) 25
  replace hcur := hcur.alloc (.cells #[.int .i64 K, .int .i64 N, .string ⟨#[]⟩, .slice none 0 0] 25)
  obtain ⟨⟨_, p0, p1, p2, p3⟩, _⟩ := hA.ext hcur
  obtain ⟨⟨_, q0, q1, q2, q3⟩, _⟩ := hB.ext hcur
  go_wp2_with fail
  refine (c3 _ hcur).mono ?_
  rintro e w4 ⟨rfl, hE⟩
  replace hcur := hcur.trans hE
  replace hV := hV.ext hE
  clear hE p0 p1 p2 p3 q0 q1 q2 q3 c3
  have hM := FBox.new w4 (.int .i64 K) (.int .i64 M) (.string ⟨#[]⟩) (.slice none 0 0) 25
  replace hV := hV.ext ((Ext.refl _).alloc (.cells #[.int .i64 K, .int .i64 M, .string ⟨#[]⟩, .slice none 0 0] 25))
  replace hcur := hcur.alloc (.cells #[.int .i64 K, .int .i64 M, .string ⟨#[]⟩, .slice none 0 0] 25)
  go_upto_region 6 with fail
  replace hA := (hA.ext hcur).box
  replace hB := (hB.ext hcur).box
  replace hV := hV.box
  replace hM := hM.box
  replace c2 := c2.mono hcur
  replace c4 := c4.mono hcur
  replace c5 := c5.mono hcur
  replace c6 := c6.mono hcur
  replace c7 := c7.mono hcur
  replace hX := hX.trans hcur
  clear hcur
  generalize (w4.alloc (.cells #[.int .i64 K, .int .i64 M, .string ⟨#[]⟩, .slice none 0 0] 25)) = V0 at *
  generalize w4.heap.size = MB at *
  generalize w3.heap.size = VB at *
  generalize w1.heap.size + 1 = BB at *
  generalize w1.heap.size = AB at *
  have HK : Hid (∀ W, Ext V0 W → W.cell? ⟨AB, 0, none⟩ = some (.int .i64 xk) ∧ W.cell? ⟨AB, 1, none⟩ = some (.int .i64 xn) ∧ W.cell? ⟨AB, 2, none⟩ = some (.string xt) ∧ W.cell? ⟨AB, 3, none⟩ = some (.slice xa xl xc) ∧ W.cell? ⟨BB, 0, none⟩ = some (.int .i64 yk) ∧ W.cell? ⟨BB, 1, none⟩ = some (.int .i64 yn) ∧ W.cell? ⟨BB, 2, none⟩ = some (.string yt) ∧ W.cell? ⟨BB, 3, none⟩ = some (.slice ya yl yc) ∧ W.cell? ⟨VB, 0, none⟩ = some (.int .i64 K) ∧ W.cell? ⟨VB, 1, none⟩ = some (.int .i64 N) ∧ W.cell? ⟨VB, 2, none⟩ = some (.string ⟨#[]⟩) ∧ W.cell? ⟨VB, 3, none⟩ = some (.slice none 0 0) ∧ W.cell? ⟨MB, 0, none⟩ = some (.int .i64 K) ∧ W.cell? ⟨MB, 1, none⟩ = some (.int .i64 M) ∧ W.cell? ⟨MB, 2, none⟩ = some (.string ⟨#[]⟩) ∧ W.cell? ⟨MB, 3, none⟩ = some (.slice none 0 0)) := fun W hW => by
    obtain ⟨_, p0, p1, p2, p3⟩ := hA.ext hW
    obtain ⟨_, q0, q1, q2, q3⟩ := hB.ext hW
    obtain ⟨_, r0, r1, r2, r3⟩ := hV.ext hW
    obtain ⟨_, s0, s1, s2, s3⟩ := hM.ext hW
    exact ⟨p0, p1, p2, p3, q0, q1, q2, q3, r0, r1, r2, r3, s0, s1, s2, s3⟩
  clear hA hB hV hM
  cases ox
  · clear HL
    have hcur : Ext V0 V0.drew := (Ext.refl _).drew
    refine wp_region_held_drew (S := (fun W => W.cell? ⟨AB, 0, none⟩ = some (.int .i64 xk) ∧ W.cell? ⟨AB, 1, none⟩ = some (.int .i64 xn) ∧ W.cell? ⟨AB, 2, none⟩ = some (.string xt) ∧ W.cell? ⟨AB, 3, none⟩ = some (.slice xa xl xc) ∧ W.cell? ⟨BB, 0, none⟩ = some (.int .i64 yk) ∧ W.cell? ⟨BB, 1, none⟩ = some (.int .i64 yn) ∧ W.cell? ⟨BB, 2, none⟩ = some (.string yt) ∧ W.cell? ⟨BB, 3, none⟩ = some (.slice ya yl yc) ∧ W.cell? ⟨VB, 0, none⟩ = some (.int .i64 K) ∧ W.cell? ⟨VB, 1, none⟩ = some (.int .i64 N) ∧ W.cell? ⟨VB, 2, none⟩ = some (.string ⟨#[]⟩) ∧ W.cell? ⟨VB, 3, none⟩ = some (.slice none 0 0) ∧ W.cell? ⟨MB, 0, none⟩ = some (.int .i64 K) ∧ W.cell? ⟨MB, 1, none⟩ = some (.int .i64 M) ∧ W.cell? ⟨MB, 2, none⟩ = some (.string ⟨#[]⟩) ∧ W.cell? ⟨MB, 3, none⟩ = some (.slice none 0 0))) (by kernel_rfl) (HK.out _ hcur) (fun hHeld => ?_)
    refine wpAnyH_take (i := 0) (oi := { dst := some 21, op := Op.load 25 (Operand.tmp 5), type := 25, pos := "laws.go:97", after := #[], guard := none }) (v := ?_) rfl (by kernel_rfl) (by kernel_rfl) (by kernel_rfl) (fun _ _ _ h => h) (Or.inl ⟨by rfl, ?yy0⟩) hHeld ?rr0
    case yy0 => first | (intro w hSw; (try dsimp only at hSw); go_simp; done) | (intro w hSw; (try dsimp only at hSw); go_simp; with_reducible rfl)
    try simp only [Act.put, List.setIfInBounds_toArray, List.set_cons_zero, List.set_cons_succ]
    refine wpAnyH_take (i := 1) (oi := { dst := some 22, op := Op.load 25 (Operand.tmp 3), type := 25, pos := "laws.go:97", after := #[], guard := none }) (v := ?_) rfl (by kernel_rfl) (by kernel_rfl) (by kernel_rfl) (fun _ _ _ h => h) (Or.inl ⟨by rfl, ?yy1⟩) hHeld ?rr1
    case yy1 => first | (intro w hSw; (try dsimp only at hSw); go_simp; done) | (intro w hSw; (try dsimp only at hSw); go_simp; with_reducible rfl)
    try simp only [Act.put, List.setIfInBounds_toArray, List.set_cons_zero, List.set_cons_succ]
    refine wpAnyH_take (i := 2) (oi := { dst := some 23, op := Op.load 25 (Operand.tmp 4), type := 25, pos := "laws.go:97", after := #[], guard := none }) (v := ?_) rfl (by kernel_rfl) (by kernel_rfl) (by kernel_rfl) (fun _ _ _ h => h) (Or.inl ⟨by rfl, ?yy2⟩) hHeld ?rr2
    case yy2 => first | (intro w hSw; (try dsimp only at hSw); go_simp; done) | (intro w hSw; (try dsimp only at hSw); go_simp; with_reducible rfl)
    try simp only [Act.put, List.setIfInBounds_toArray, List.set_cons_zero, List.set_cons_succ]
    refine wpAnyH_ready (rs := [3]) (by kernel_rfl) (by simp) ?_
    refine AllReadyH.cons (o := { dst := some 24, op := Op.call { callee := Callee.value (Operand.func 11), args := #[Operand.tmp 22, Operand.tmp 23], argTypes := #[25, 25] }, type := 25, pos := "laws.go:97", after := #[{ on := 1, ground := Ground.data }, { on := 2, ground := Ground.data }], guard := none }) rfl (fun K hK => ?_) AllReadyH.nil
    go_simp
    refine (c2 _ hcur).mono ?_
    rintro e wn ⟨rfl, hE⟩
    replace hcur := hcur.trans hE
    clear hE
    go_wp2_with fail
    refine hK.out _ _ (HK.out _ hcur) (fun hHeld => ?_)
    clear hK K
    try simp only [Act.put, List.setIfInBounds_toArray, List.set_cons_zero, List.set_cons_succ]
    refine wpAnyH_ready (rs := [4]) (by kernel_rfl) (by simp) ?_
    refine AllReadyH.cons (o := { dst := some 25, op := Op.call { callee := Callee.value (Operand.func 8), args := #[Operand.tmp 21, Operand.tmp 24], argTypes := #[25, 25] }, type := 4, pos := "laws.go:97", after := #[{ on := 0, ground := Ground.data }, { on := 3, ground := Ground.data }, { on := 3, ground := Ground.chain }], guard := none }) rfl (fun K hK => ?_) AllReadyH.nil
    go_simp
    refine (c4 _ hcur).mono ?_
    rintro e wn ⟨rfl, hE⟩
    replace hcur := hcur.trans hE
    clear hE
    go_wp2_with fail
    refine hK.out _ _ (HK.out _ hcur) (fun hHeld => ?_)
    clear hK K
    try simp only [Act.put, List.setIfInBounds_toArray, List.set_cons_zero, List.set_cons_succ]
    refine wpAnyH_take (i := 5) (oi := { dst := some 26, op := Op.unOp UnOp.not 4 (Operand.tmp 25), type := 4, pos := "laws.go:97", after := #[{ on := 4, ground := Ground.data }], guard := none }) (v := ?_) rfl (by kernel_rfl) (by kernel_rfl) (by kernel_rfl) (fun _ _ _ h => h) (Or.inl ⟨by rfl, ?yy5⟩) hHeld ?rr5
    case yy5 => first | (intro w hSw; (try dsimp only at hSw); go_simp; done) | (intro w hSw; (try dsimp only at hSw); go_simp; with_reducible rfl)
    try simp only [Act.put, List.setIfInBounds_toArray, List.set_cons_zero, List.set_cons_succ]
    refine wpAnyH_take (i := 6) (oi := { dst := some 27, op := Op.move (Operand.tmp 26), type := 4, pos := "laws.go:97", after := #[{ on := 5, ground := Ground.data }, { on := 4, ground := Ground.chain }], guard := none }) (v := ?_) rfl (by kernel_rfl) (by kernel_rfl) (by kernel_rfl) (fun _ _ _ h => h) (Or.inl ⟨by rfl, ?yy6⟩) hHeld ?rr6
    case yy6 => first | (intro w hSw; (try dsimp only at hSw); go_simp; done) | (intro w hSw; (try dsimp only at hSw); go_simp; with_reducible rfl)
    try simp only [Act.put, List.setIfInBounds_toArray, List.set_cons_zero, List.set_cons_succ]
    refine wpAnyH_take (i := 7) (oi := { dst := some 28, op := Op.fieldAddr 25 (Operand.tmp 5) 0, type := 0, pos := "laws.go:97", after := #[{ on := 6, ground := Ground.guard }], guard := some (6, false) }) (v := ?_) rfl (by kernel_rfl) (by kernel_rfl) (by kernel_rfl) (fun _ _ _ h => h) (Or.inl ⟨by rfl, ?yy7⟩) hHeld ?rr7
    case yy7 => first | (intro w hSw; (try dsimp only at hSw); go_simp; done) | (intro w hSw; (try dsimp only at hSw); go_simp; with_reducible rfl)
    try simp only [Act.put, List.setIfInBounds_toArray, List.set_cons_zero, List.set_cons_succ]
    refine wpAnyH_take (i := 8) (oi := { dst := some 29, op := Op.load 3 (Operand.tmp 28), type := 3, pos := "laws.go:97", after := #[{ on := 7, ground := Ground.data }, { on := 6, ground := Ground.guard }], guard := some (6, false) }) (v := ?_) rfl (by kernel_rfl) (by kernel_rfl) (by kernel_rfl) (fun _ _ _ h => h) (Or.inl ⟨by rfl, ?yy8⟩) hHeld ?rr8
    case yy8 => first | (intro w hSw; (try dsimp only at hSw); go_simp; done) | (intro w hSw; (try dsimp only at hSw); go_simp; with_reducible rfl)
    try simp only [Act.put, List.setIfInBounds_toArray, List.set_cons_zero, List.set_cons_succ]
    refine wpAnyH_take (i := 9) (oi := { dst := some 30, op := Op.fieldAddr 25 (Operand.tmp 6) 0, type := 0, pos := "laws.go:97", after := #[{ on := 6, ground := Ground.guard }], guard := some (6, false) }) (v := ?_) rfl (by kernel_rfl) (by kernel_rfl) (by kernel_rfl) (fun _ _ _ h => h) (Or.inl ⟨by rfl, ?yy9⟩) hHeld ?rr9
    case yy9 => first | (intro w hSw; (try dsimp only at hSw); go_simp; done) | (intro w hSw; (try dsimp only at hSw); go_simp; with_reducible rfl)
    try simp only [Act.put, List.setIfInBounds_toArray, List.set_cons_zero, List.set_cons_succ]
    refine wpAnyH_take (i := 10) (oi := { dst := some 31, op := Op.load 3 (Operand.tmp 30), type := 3, pos := "laws.go:97", after := #[{ on := 9, ground := Ground.data }, { on := 6, ground := Ground.guard }], guard := some (6, false) }) (v := ?_) rfl (by kernel_rfl) (by kernel_rfl) (by kernel_rfl) (fun _ _ _ h => h) (Or.inl ⟨by rfl, ?yy10⟩) hHeld ?rr10
    case yy10 => first | (intro w hSw; (try dsimp only at hSw); go_simp; done) | (intro w hSw; (try dsimp only at hSw); go_simp; with_reducible rfl)
    try simp only [Act.put, List.setIfInBounds_toArray, List.set_cons_zero, List.set_cons_succ]
    refine wpAnyH_take (i := 11) (oi := { dst := some 32, op := Op.binOp BinOp.neq 3 (Operand.tmp 29) (Operand.tmp 31) 3, type := 4, pos := "laws.go:97", after := #[{ on := 8, ground := Ground.data }, { on := 10, ground := Ground.data }, { on := 6, ground := Ground.guard }], guard := some (6, false) }) (v := ?_) rfl (by kernel_rfl) (by kernel_rfl) (by kernel_rfl) (fun _ _ _ h => h) (Or.inl ⟨by rfl, ?yy11⟩) hHeld ?rr11
    case yy11 => first | (intro w hSw; (try dsimp only at hSw); go_simp; done) | (intro w hSw; (try dsimp only at hSw); go_simp; with_reducible rfl)
    try simp only [Act.put, List.setIfInBounds_toArray, List.set_cons_zero, List.set_cons_succ]
    refine wpAnyH_take (i := 12) (oi := { dst := some 33, op := Op.pick (Operand.tmp 27) (Operand.const (Value.bool true)) (Operand.tmp 32), type := 4, pos := "laws.go:97", after := #[{ on := 6, ground := Ground.data }, { on := 11, ground := Ground.data }], guard := none }) (v := ?_) rfl (by kernel_rfl) (by kernel_rfl) (by kernel_rfl) (fun _ _ _ h => h) (Or.inl ⟨by rfl, ?yy12⟩) hHeld ?rr12
    case yy12 => first | (intro w hSw; (try dsimp only at hSw); go_simp; done) | (intro w hSw; (try dsimp only at hSw); go_simp; with_reducible rfl)
    try simp only [Act.put, List.setIfInBounds_toArray, List.set_cons_zero, List.set_cons_succ]
    refine wpAnyH_take (i := 13) (oi := { dst := some 34, op := Op.move (Operand.tmp 33), type := 4, pos := "laws.go:97", after := #[{ on := 12, ground := Ground.data }, { on := 6, ground := Ground.chain }], guard := none }) (v := ?_) rfl (by kernel_rfl) (by kernel_rfl) (by kernel_rfl) (fun _ _ _ h => h) (Or.inl ⟨by rfl, ?yy13⟩) hHeld ?rr13
    case yy13 => first | (intro w hSw; (try dsimp only at hSw); go_simp; done) | (intro w hSw; (try dsimp only at hSw); go_simp; with_reducible rfl)
    try simp only [Act.put, List.setIfInBounds_toArray, List.set_cons_zero, List.set_cons_succ]
    refine wpAnyH_take (i := 14) (oi := { dst := some 35, op := Op.load 25 (Operand.tmp 3), type := 25, pos := "laws.go:97", after := #[{ on := 13, ground := Ground.guard }], guard := some (13, false) }) (v := ?_) rfl (by kernel_rfl) (by kernel_rfl) (by kernel_rfl) (fun _ _ _ h => h) (Or.inl ⟨by rfl, ?yy14⟩) hHeld ?rr14
    case yy14 => first | (intro w hSw; (try dsimp only at hSw); go_simp; done) | (intro w hSw; (try dsimp only at hSw); go_simp; with_reducible rfl)
    try simp only [Act.put, List.setIfInBounds_toArray, List.set_cons_zero, List.set_cons_succ]
    refine wpAnyH_ready (rs := [15]) (by kernel_rfl) (by simp) ?_
    refine AllReadyH.cons (o := { dst := some 36, op := Op.call { callee := Callee.value (Operand.func 12), args := #[Operand.tmp 35], argTypes := #[25] }, type := 4, pos := "laws.go:97", after := #[{ on := 14, ground := Ground.data }, { on := 13, ground := Ground.chain }, { on := 13, ground := Ground.guard }], guard := some (13, false) }) rfl (fun K hK => ?_) AllReadyH.nil
    go_simp
    refine (c5 _ hcur).mono ?_
    rintro e wn ⟨rfl, hE⟩
    replace hcur := hcur.trans hE
    clear hE
    go_wp2_with fail
    refine hK.out _ _ (HK.out _ hcur) (fun hHeld => ?_)
    clear hK K
    try simp only [Act.put, List.setIfInBounds_toArray, List.set_cons_zero, List.set_cons_succ]
    refine wpAnyH_take (i := 16) (oi := { dst := some 37, op := Op.unOp UnOp.not 4 (Operand.tmp 36), type := 4, pos := "laws.go:97", after := #[{ on := 15, ground := Ground.data }, { on := 13, ground := Ground.guard }], guard := some (13, false) }) (v := ?_) rfl (by kernel_rfl) (by kernel_rfl) (by kernel_rfl) (fun _ _ _ h => h) (Or.inl ⟨by rfl, ?yy16⟩) hHeld ?rr16
    case yy16 => first | (intro w hSw; (try dsimp only at hSw); go_simp; done) | (intro w hSw; (try dsimp only at hSw); go_simp; with_reducible rfl)
    try simp only [Act.put, List.setIfInBounds_toArray, List.set_cons_zero, List.set_cons_succ]
    refine wpAnyH_take (i := 17) (oi := { dst := some 38, op := Op.pick (Operand.tmp 34) (Operand.const (Value.bool true)) (Operand.tmp 37), type := 4, pos := "laws.go:97", after := #[{ on := 13, ground := Ground.data }, { on := 16, ground := Ground.data }], guard := none }) (v := ?_) rfl (by kernel_rfl) (by kernel_rfl) (by kernel_rfl) (fun _ _ _ h => h) (Or.inl ⟨by rfl, ?yy17⟩) hHeld ?rr17
    case yy17 => first | (intro w hSw; (try dsimp only at hSw); go_simp; done) | (intro w hSw; (try dsimp only at hSw); go_simp; with_reducible rfl)
    try simp only [Act.put, List.setIfInBounds_toArray, List.set_cons_zero, List.set_cons_succ]
    refine wpAnyH_take (i := 18) (oi := { dst := some 39, op := Op.move (Operand.tmp 38), type := 4, pos := "laws.go:97", after := #[{ on := 17, ground := Ground.data }, { on := 15, ground := Ground.chain }], guard := none }) (v := ?_) rfl (by kernel_rfl) (by kernel_rfl) (by kernel_rfl) (fun _ _ _ h => h) (Or.inl ⟨by rfl, ?yy18⟩) hHeld ?rr18
    case yy18 => first | (intro w hSw; (try dsimp only at hSw); go_simp; done) | (intro w hSw; (try dsimp only at hSw); go_simp; with_reducible rfl)
    try simp only [Act.put, List.setIfInBounds_toArray, List.set_cons_zero, List.set_cons_succ]
    refine wpAnyH_take (i := 19) (oi := { dst := some 40, op := Op.load 25 (Operand.tmp 4), type := 25, pos := "laws.go:97", after := #[{ on := 18, ground := Ground.guard }], guard := some (18, false) }) (v := undef) rfl (by kernel_rfl) (by kernel_rfl) (by kernel_rfl) (fun _ _ _ h => h) (Or.inr ⟨by rfl, rfl⟩) hHeld ?_
    try simp only [Act.put, List.setIfInBounds_toArray, List.set_cons_zero, List.set_cons_succ]
    refine wpAnyH_ready (rs := [20]) (by kernel_rfl) (by simp) ?_
    refine AllReadyH.cons (o := { dst := some 41, op := Op.call { callee := Callee.value (Operand.func 12), args := #[Operand.tmp 40], argTypes := #[25] }, type := 4, pos := "laws.go:97", after := #[{ on := 19, ground := Ground.data }, { on := 18, ground := Ground.chain }, { on := 18, ground := Ground.guard }], guard := some (18, false) }) rfl (fun K hK => ?_) AllReadyH.nil
    rw [if_neg (by simp [Region.wanted, yielded])]
    refine hK.out _ _ hHeld (fun hHeld => ?_)
    clear hK K
    try simp only [Act.put, List.setIfInBounds_toArray, List.set_cons_zero, List.set_cons_succ]
    refine wpAnyH_take (i := 21) (oi := { dst := some 42, op := Op.unOp UnOp.not 4 (Operand.tmp 41), type := 4, pos := "laws.go:97", after := #[{ on := 20, ground := Ground.data }, { on := 18, ground := Ground.guard }], guard := some (18, false) }) (v := undef) rfl (by kernel_rfl) (by kernel_rfl) (by kernel_rfl) (fun _ _ _ h => h) (Or.inr ⟨by rfl, rfl⟩) hHeld ?_
    try simp only [Act.put, List.setIfInBounds_toArray, List.set_cons_zero, List.set_cons_succ]
    refine wpAnyH_take (i := 22) (oi := { dst := some 43, op := Op.pick (Operand.tmp 39) (Operand.const (Value.bool true)) (Operand.tmp 42), type := 4, pos := "laws.go:97", after := #[{ on := 18, ground := Ground.data }, { on := 21, ground := Ground.data }], guard := none }) (v := ?_) rfl (by kernel_rfl) (by kernel_rfl) (by kernel_rfl) (fun _ _ _ h => h) (Or.inl ⟨by rfl, ?yy22⟩) hHeld ?rr22
    case yy22 => first | (intro w hSw; (try dsimp only at hSw); go_simp; done) | (intro w hSw; (try dsimp only at hSw); go_simp; with_reducible rfl)
    try simp only [Act.put, List.setIfInBounds_toArray, List.set_cons_zero, List.set_cons_succ]
    refine wpAnyH_done (by kernel_rfl) ?_ _
    go_upto_region 7 with fail
    replace hcur := hcur.drew
    go_region_held3 (fun W => W.cell? ⟨AB, 0, none⟩ = some (.int .i64 xk) ∧ W.cell? ⟨AB, 1, none⟩ = some (.int .i64 xn) ∧ W.cell? ⟨AB, 2, none⟩ = some (.string xt) ∧ W.cell? ⟨AB, 3, none⟩ = some (.slice xa xl xc) ∧ W.cell? ⟨BB, 0, none⟩ = some (.int .i64 yk) ∧ W.cell? ⟨BB, 1, none⟩ = some (.int .i64 yn) ∧ W.cell? ⟨BB, 2, none⟩ = some (.string yt) ∧ W.cell? ⟨BB, 3, none⟩ = some (.slice ya yl yc) ∧ W.cell? ⟨VB, 0, none⟩ = some (.int .i64 K) ∧ W.cell? ⟨VB, 1, none⟩ = some (.int .i64 N) ∧ W.cell? ⟨VB, 2, none⟩ = some (.string ⟨#[]⟩) ∧ W.cell? ⟨VB, 3, none⟩ = some (.slice none 0 0) ∧ W.cell? ⟨MB, 0, none⟩ = some (.int .i64 K) ∧ W.cell? ⟨MB, 1, none⟩ = some (.int .i64 M) ∧ W.cell? ⟨MB, 2, none⟩ = some (.string ⟨#[]⟩) ∧ W.cell? ⟨MB, 3, none⟩ = some (.slice none 0 0)) (exact HK.out _ hcur)
      (first
        | (go_at_call 11
           refine (c2 _ hcur).mono ?_
           rintro e wn ⟨rfl, hE⟩
           replace hcur := hcur.trans hE
           clear hE)
        | (go_at_call 8
           refine (c4 _ hcur).mono ?_
           rintro e wn ⟨rfl, hE⟩
           replace hcur := hcur.trans hE
           clear hE)
        | (go_at_call_of 12 (Value.int .i64 xk)
           refine (c5 _ hcur).mono ?_
           rintro e wn ⟨rfl, hE⟩
           replace hcur := hcur.trans hE
           clear hE)
        | (go_at_call_of 12 (Value.int .i64 yk)
           refine (c6 _ hcur).mono ?_
           rintro e wn ⟨rfl, hE⟩
           replace hcur := hcur.trans hE
           clear hE)
        | (go_at_call 13
           refine (c7 _ hcur).mono ?_
           rintro e wn ⟨rfl, hE⟩
           replace hcur := hcur.trans hE
           clear hE))
    go_wp2
    go_ret
    exact ⟨rfl, hX.trans hcur⟩
  cases oy
  · clear HL
    have hcur : Ext V0 V0.drew := (Ext.refl _).drew
    go_region_held3 (fun W => W.cell? ⟨AB, 0, none⟩ = some (.int .i64 xk) ∧ W.cell? ⟨AB, 1, none⟩ = some (.int .i64 xn) ∧ W.cell? ⟨AB, 2, none⟩ = some (.string xt) ∧ W.cell? ⟨AB, 3, none⟩ = some (.slice xa xl xc) ∧ W.cell? ⟨BB, 0, none⟩ = some (.int .i64 yk) ∧ W.cell? ⟨BB, 1, none⟩ = some (.int .i64 yn) ∧ W.cell? ⟨BB, 2, none⟩ = some (.string yt) ∧ W.cell? ⟨BB, 3, none⟩ = some (.slice ya yl yc) ∧ W.cell? ⟨VB, 0, none⟩ = some (.int .i64 K) ∧ W.cell? ⟨VB, 1, none⟩ = some (.int .i64 N) ∧ W.cell? ⟨VB, 2, none⟩ = some (.string ⟨#[]⟩) ∧ W.cell? ⟨VB, 3, none⟩ = some (.slice none 0 0) ∧ W.cell? ⟨MB, 0, none⟩ = some (.int .i64 K) ∧ W.cell? ⟨MB, 1, none⟩ = some (.int .i64 M) ∧ W.cell? ⟨MB, 2, none⟩ = some (.string ⟨#[]⟩) ∧ W.cell? ⟨MB, 3, none⟩ = some (.slice none 0 0)) (exact HK.out _ hcur)
      (first
        | (go_at_call 11
           refine (c2 _ hcur).mono ?_
           rintro e wn ⟨rfl, hE⟩
           replace hcur := hcur.trans hE
           clear hE)
        | (go_at_call 8
           refine (c4 _ hcur).mono ?_
           rintro e wn ⟨rfl, hE⟩
           replace hcur := hcur.trans hE
           clear hE)
        | (go_at_call_of 12 (Value.int .i64 xk)
           refine (c5 _ hcur).mono ?_
           rintro e wn ⟨rfl, hE⟩
           replace hcur := hcur.trans hE
           clear hE)
        | (go_at_call_of 12 (Value.int .i64 yk)
           refine (c6 _ hcur).mono ?_
           rintro e wn ⟨rfl, hE⟩
           replace hcur := hcur.trans hE
           clear hE)
        | (go_at_call 13
           refine (c7 _ hcur).mono ?_
           rintro e wn ⟨rfl, hE⟩
           replace hcur := hcur.trans hE
           clear hE))
    go_upto_region 7 with fail
    replace hcur := hcur.drew
    go_region_held3 (fun W => W.cell? ⟨AB, 0, none⟩ = some (.int .i64 xk) ∧ W.cell? ⟨AB, 1, none⟩ = some (.int .i64 xn) ∧ W.cell? ⟨AB, 2, none⟩ = some (.string xt) ∧ W.cell? ⟨AB, 3, none⟩ = some (.slice xa xl xc) ∧ W.cell? ⟨BB, 0, none⟩ = some (.int .i64 yk) ∧ W.cell? ⟨BB, 1, none⟩ = some (.int .i64 yn) ∧ W.cell? ⟨BB, 2, none⟩ = some (.string yt) ∧ W.cell? ⟨BB, 3, none⟩ = some (.slice ya yl yc) ∧ W.cell? ⟨VB, 0, none⟩ = some (.int .i64 K) ∧ W.cell? ⟨VB, 1, none⟩ = some (.int .i64 N) ∧ W.cell? ⟨VB, 2, none⟩ = some (.string ⟨#[]⟩) ∧ W.cell? ⟨VB, 3, none⟩ = some (.slice none 0 0) ∧ W.cell? ⟨MB, 0, none⟩ = some (.int .i64 K) ∧ W.cell? ⟨MB, 1, none⟩ = some (.int .i64 M) ∧ W.cell? ⟨MB, 2, none⟩ = some (.string ⟨#[]⟩) ∧ W.cell? ⟨MB, 3, none⟩ = some (.slice none 0 0)) (exact HK.out _ hcur)
      (first
        | (go_at_call 11
           refine (c2 _ hcur).mono ?_
           rintro e wn ⟨rfl, hE⟩
           replace hcur := hcur.trans hE
           clear hE)
        | (go_at_call 8
           refine (c4 _ hcur).mono ?_
           rintro e wn ⟨rfl, hE⟩
           replace hcur := hcur.trans hE
           clear hE)
        | (go_at_call_of 12 (Value.int .i64 xk)
           refine (c5 _ hcur).mono ?_
           rintro e wn ⟨rfl, hE⟩
           replace hcur := hcur.trans hE
           clear hE)
        | (go_at_call_of 12 (Value.int .i64 yk)
           refine (c6 _ hcur).mono ?_
           rintro e wn ⟨rfl, hE⟩
           replace hcur := hcur.trans hE
           clear hE)
        | (go_at_call 13
           refine (c7 _ hcur).mono ?_
           rintro e wn ⟨rfl, hE⟩
           replace hcur := hcur.trans hE
           clear hE))
    go_wp2
    go_ret
    exact ⟨rfl, hX.trans hcur⟩
  have hcur : Ext V0 V0.drew := (Ext.refl _).drew
  go_region_held3 (fun W => W.cell? ⟨AB, 0, none⟩ = some (.int .i64 xk) ∧ W.cell? ⟨AB, 1, none⟩ = some (.int .i64 xn) ∧ W.cell? ⟨AB, 2, none⟩ = some (.string xt) ∧ W.cell? ⟨AB, 3, none⟩ = some (.slice xa xl xc) ∧ W.cell? ⟨BB, 0, none⟩ = some (.int .i64 yk) ∧ W.cell? ⟨BB, 1, none⟩ = some (.int .i64 yn) ∧ W.cell? ⟨BB, 2, none⟩ = some (.string yt) ∧ W.cell? ⟨BB, 3, none⟩ = some (.slice ya yl yc) ∧ W.cell? ⟨VB, 0, none⟩ = some (.int .i64 K) ∧ W.cell? ⟨VB, 1, none⟩ = some (.int .i64 N) ∧ W.cell? ⟨VB, 2, none⟩ = some (.string ⟨#[]⟩) ∧ W.cell? ⟨VB, 3, none⟩ = some (.slice none 0 0) ∧ W.cell? ⟨MB, 0, none⟩ = some (.int .i64 K) ∧ W.cell? ⟨MB, 1, none⟩ = some (.int .i64 M) ∧ W.cell? ⟨MB, 2, none⟩ = some (.string ⟨#[]⟩) ∧ W.cell? ⟨MB, 3, none⟩ = some (.slice none 0 0)) (exact HK.out _ hcur)
    (first
      | (go_at_call 11
         refine (c2 _ hcur).mono ?_
         rintro e wn ⟨rfl, hE⟩
         replace hcur := hcur.trans hE
         clear hE)
      | (go_at_call 8
         refine (c4 _ hcur).mono ?_
         rintro e wn ⟨rfl, hE⟩
         replace hcur := hcur.trans hE
         clear hE)
      | (go_at_call_of 12 (Value.int .i64 xk)
         refine (c5 _ hcur).mono ?_
         rintro e wn ⟨rfl, hE⟩
         replace hcur := hcur.trans hE
         clear hE)
      | (go_at_call_of 12 (Value.int .i64 yk)
         refine (c6 _ hcur).mono ?_
         rintro e wn ⟨rfl, hE⟩
         replace hcur := hcur.trans hE
         clear hE)
      | (go_at_call 13
         refine (c7 _ hcur).mono ?_
         rintro e wn ⟨rfl, hE⟩
         replace hcur := hcur.trans hE
         clear hE))
  rcases HL.out (by trivial) (by trivial) with ⟨rfl, hk⟩ | ⟨rfl, rfl, hN, hM, hNM, ho⟩
  · clear HL
    obtain ⟨p0, p1, p2, p3, q0, q1, q2, q3, r0, r1, r2, r3, s0, s1, s2, s3⟩ := HK.out _ hcur
    by_cases hxy : xk = yk
    · subst hxy
      rcases hk with hk | rfl | hk
      · exact absurd rfl hk
      · go_wp2
        go_ret
        exact ⟨rfl, hX.trans hcur⟩
      · have e0 : (xk == 0) = false := by simp; omega
        have e1 : decide (xk > 3) = true := decide_eq_true (by omega)
        go_wp2
        go_ret
        exact ⟨rfl, hX.trans hcur⟩
    · have e0 : (xk != yk) = true := by simp [hxy]
      clear hk hxy
      go_wp2
      go_ret
      exact ⟨rfl, hX.trans hcur⟩
  · clear HL
    obtain ⟨p0, p1, p2, p3, q0, q1, q2, q3, r0, r1, r2, r3, s0, s1, s2, s3⟩ := HK.out _ hcur
    go_upto_region 10 with fail
    clear p0 p1 p2 p3 q0 q1 q2 q3 r0 r1 r2 r3 s0 s1 s2 s3
    replace hcur := hcur.drew
    rcases hN with rfl | rfl
    · have e1 : decide (o < 0) = false := decide_eq_false (fun h => by have := ho.2 h; omega)
      clear ho
      rcases hM with rfl | rfl
      · clear hNM
        go_region_held3 (fun W => W.cell? ⟨AB, 0, none⟩ = some (.int .i64 xk) ∧ W.cell? ⟨AB, 1, none⟩ = some (.int .i64 xn) ∧ W.cell? ⟨AB, 2, none⟩ = some (.string xt) ∧ W.cell? ⟨AB, 3, none⟩ = some (.slice xa xl xc) ∧ W.cell? ⟨BB, 0, none⟩ = some (.int .i64 xk) ∧ W.cell? ⟨BB, 1, none⟩ = some (.int .i64 yn) ∧ W.cell? ⟨BB, 2, none⟩ = some (.string yt) ∧ W.cell? ⟨BB, 3, none⟩ = some (.slice ya yl yc) ∧ W.cell? ⟨VB, 0, none⟩ = some (.int .i64 1) ∧ W.cell? ⟨VB, 1, none⟩ = some (.int .i64 0) ∧ W.cell? ⟨VB, 2, none⟩ = some (.string ⟨#[]⟩) ∧ W.cell? ⟨VB, 3, none⟩ = some (.slice none 0 0) ∧ W.cell? ⟨MB, 0, none⟩ = some (.int .i64 1) ∧ W.cell? ⟨MB, 1, none⟩ = some (.int .i64 0) ∧ W.cell? ⟨MB, 2, none⟩ = some (.string ⟨#[]⟩) ∧ W.cell? ⟨MB, 3, none⟩ = some (.slice none 0 0)) (exact HK.out _ hcur)
          (first
            | (go_at_call 11
               refine (c2 _ hcur).mono ?_
               rintro e wn ⟨rfl, hE⟩
               replace hcur := hcur.trans hE
               clear hE)
            | (go_at_call 8
               refine (c4 _ hcur).mono ?_
               rintro e wn ⟨rfl, hE⟩
               replace hcur := hcur.trans hE
               clear hE)
            | (go_at_call_of 12 (Value.int .i64 xk)
               refine (c5 _ hcur).mono ?_
               rintro e wn ⟨rfl, hE⟩
               replace hcur := hcur.trans hE
               clear hE)
            | (go_at_call_of 12 (Value.int .i64 yk)
               refine (c6 _ hcur).mono ?_
               rintro e wn ⟨rfl, hE⟩
               replace hcur := hcur.trans hE
               clear hE)
            | (go_at_call 13
               refine (c7 _ hcur).mono ?_
               rintro e wn ⟨rfl, hE⟩
               replace hcur := hcur.trans hE
               clear hE))
        go_wp2
        go_ret
        exact ⟨rfl, hX.trans hcur⟩
      · clear hNM
        go_region_held3 (fun W => W.cell? ⟨AB, 0, none⟩ = some (.int .i64 xk) ∧ W.cell? ⟨AB, 1, none⟩ = some (.int .i64 xn) ∧ W.cell? ⟨AB, 2, none⟩ = some (.string xt) ∧ W.cell? ⟨AB, 3, none⟩ = some (.slice xa xl xc) ∧ W.cell? ⟨BB, 0, none⟩ = some (.int .i64 xk) ∧ W.cell? ⟨BB, 1, none⟩ = some (.int .i64 yn) ∧ W.cell? ⟨BB, 2, none⟩ = some (.string yt) ∧ W.cell? ⟨BB, 3, none⟩ = some (.slice ya yl yc) ∧ W.cell? ⟨VB, 0, none⟩ = some (.int .i64 1) ∧ W.cell? ⟨VB, 1, none⟩ = some (.int .i64 0) ∧ W.cell? ⟨VB, 2, none⟩ = some (.string ⟨#[]⟩) ∧ W.cell? ⟨VB, 3, none⟩ = some (.slice none 0 0) ∧ W.cell? ⟨MB, 0, none⟩ = some (.int .i64 1) ∧ W.cell? ⟨MB, 1, none⟩ = some (.int .i64 1) ∧ W.cell? ⟨MB, 2, none⟩ = some (.string ⟨#[]⟩) ∧ W.cell? ⟨MB, 3, none⟩ = some (.slice none 0 0)) (exact HK.out _ hcur)
          (first
            | (go_at_call 11
               refine (c2 _ hcur).mono ?_
               rintro e wn ⟨rfl, hE⟩
               replace hcur := hcur.trans hE
               clear hE)
            | (go_at_call 8
               refine (c4 _ hcur).mono ?_
               rintro e wn ⟨rfl, hE⟩
               replace hcur := hcur.trans hE
               clear hE)
            | (go_at_call_of 12 (Value.int .i64 xk)
               refine (c5 _ hcur).mono ?_
               rintro e wn ⟨rfl, hE⟩
               replace hcur := hcur.trans hE
               clear hE)
            | (go_at_call_of 12 (Value.int .i64 yk)
               refine (c6 _ hcur).mono ?_
               rintro e wn ⟨rfl, hE⟩
               replace hcur := hcur.trans hE
               clear hE)
            | (go_at_call 13
               refine (c7 _ hcur).mono ?_
               rintro e wn ⟨rfl, hE⟩
               replace hcur := hcur.trans hE
               clear hE))
        go_wp2
        go_ret
        exact ⟨rfl, hX.trans hcur⟩
    · have e1 : decide (o < 0) = true := decide_eq_true (ho.1 rfl)
      clear ho
      rcases hM with rfl | rfl
      · clear hNM
        go_region_held3 (fun W => W.cell? ⟨AB, 0, none⟩ = some (.int .i64 xk) ∧ W.cell? ⟨AB, 1, none⟩ = some (.int .i64 xn) ∧ W.cell? ⟨AB, 2, none⟩ = some (.string xt) ∧ W.cell? ⟨AB, 3, none⟩ = some (.slice xa xl xc) ∧ W.cell? ⟨BB, 0, none⟩ = some (.int .i64 xk) ∧ W.cell? ⟨BB, 1, none⟩ = some (.int .i64 yn) ∧ W.cell? ⟨BB, 2, none⟩ = some (.string yt) ∧ W.cell? ⟨BB, 3, none⟩ = some (.slice ya yl yc) ∧ W.cell? ⟨VB, 0, none⟩ = some (.int .i64 1) ∧ W.cell? ⟨VB, 1, none⟩ = some (.int .i64 1) ∧ W.cell? ⟨VB, 2, none⟩ = some (.string ⟨#[]⟩) ∧ W.cell? ⟨VB, 3, none⟩ = some (.slice none 0 0) ∧ W.cell? ⟨MB, 0, none⟩ = some (.int .i64 1) ∧ W.cell? ⟨MB, 1, none⟩ = some (.int .i64 0) ∧ W.cell? ⟨MB, 2, none⟩ = some (.string ⟨#[]⟩) ∧ W.cell? ⟨MB, 3, none⟩ = some (.slice none 0 0)) (exact HK.out _ hcur)
          (first
            | (go_at_call 11
               refine (c2 _ hcur).mono ?_
               rintro e wn ⟨rfl, hE⟩
               replace hcur := hcur.trans hE
               clear hE)
            | (go_at_call 8
               refine (c4 _ hcur).mono ?_
               rintro e wn ⟨rfl, hE⟩
               replace hcur := hcur.trans hE
               clear hE)
            | (go_at_call_of 12 (Value.int .i64 xk)
               refine (c5 _ hcur).mono ?_
               rintro e wn ⟨rfl, hE⟩
               replace hcur := hcur.trans hE
               clear hE)
            | (go_at_call_of 12 (Value.int .i64 yk)
               refine (c6 _ hcur).mono ?_
               rintro e wn ⟨rfl, hE⟩
               replace hcur := hcur.trans hE
               clear hE)
            | (go_at_call 13
               refine (c7 _ hcur).mono ?_
               rintro e wn ⟨rfl, hE⟩
               replace hcur := hcur.trans hE
               clear hE))
        go_wp2
        go_ret
        exact ⟨rfl, hX.trans hcur⟩
      · exact absurd hNM (by decide)
end Go.Proofs.Ytkngihmfknmnaaa.fnValueLess
