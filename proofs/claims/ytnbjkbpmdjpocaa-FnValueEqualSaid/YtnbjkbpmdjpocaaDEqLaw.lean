/- At every code the law FnValueEqual answers true: of two drawn values those without nothing within are equal just if they are the same. -/
import Derived.Test.YtnbjkbpmdjpocaaCodeRow
import Derived.Test.YtnbjkbpmdjpocaaDrawWrap
import Derived.Test.YtnbjkbpmdjpocaaEqThy
import Derived.Test.YtnbjkbpmdjpocaaAsVal
import Derived.Deep.RegionHeld3
import Derived.Deep.DrawnRows
import Derived.Deep.DeepCutAuto
namespace Go.Proofs.Ytnbjkbpmdjpocaa.fnValueEqual
open Go.RowKit Go.Deep
attribute [local go_sem ↓] Go.wp_at_zero Go.wp_at_succ

/-- One call of the law's: what it answers, and that it turns nothing old. -/
def Says (BW : World) (f : Nat) (args : Array Value) (r : Value) : Prop := ∀ W, Ext BW W → Calls Try.prog f args W fun e w' => e = .returned r ∧ Ext W w'

theorem Says.mono {BW V : World} {f : Nat} {args : Array Value} {r : Value} (h : Says BW f args r) (e : Ext BW V) : Says V f args r := fun W hW => h W (e.trans hW)

set_option maxRecDepth 100000 in
set_option maxHeartbeats 4000000 in
theorem walk (a0 : Option Addr) (len0 cap0 : Nat) (w : World) (h0 : CodeIn w a0 len0 cap0) :
    Calls Try.prog 4 #[.slice a0 len0 cap0] w fun e w' => e = .returned (.bool true) ∧ Ext w w' := by
  have hl0 := h0.len
  have g0 : decide ((len0 : Int) > 1048576) = false := decide_eq_false (by omega)
  go_enter Try.func4, Try.ntmps4
  go_wp2_with fail
  refine (drawEqual_any a0 len0 cap0 w h0).mono ?_
  rintro e w1 ⟨x, y, u, v, rfl, hx, hy, hE1⟩
  obtain ⟨xk, xn, xt, xa, xl, xc, hsh⟩ := hx.shape
  subst hsh
  obtain ⟨yk, yn, yt, ya, yl, yc, hsh⟩ := hy.shape
  subst hsh
  have hA := FBox.new w1 (.int .i64 xk) (.int .i64 xn) (.string xt) (.slice xa xl xc) 25
  have hB := FBox.new (w1.alloc (.cells #[.int .i64 xk, .int .i64 xn, .string xt, .slice xa xl xc] 25)) (.int .i64 yk) (.int .i64 yn) (.string yt) (.slice ya yl yc) 25
  replace hA := hA.ext ((Ext.refl _).alloc (.cells #[.int .i64 yk, .int .i64 yn, .string yt, .slice ya yl yc] 25))
  have hE2 : Ext w1 ((w1.alloc (.cells #[.int .i64 xk, .int .i64 xn, .string xt, .slice xa xl xc] 25)).alloc (.cells #[.int .i64 yk, .int .i64 yn, .string yt, .slice ya yl yc] 25)) := ((Ext.refl _).alloc _).alloc _
  simp only [World.size_alloc] at hB
  have ix := (hx.ext hE2).toIn (lo := 0) (fun _ _ => Nat.zero_le _)
  have iy := (hy.ext hE2).toIn (lo := 0) (fun _ _ => Nat.zero_le _)
  have hX := hE1.trans hE2
  clear hx hy hE1 hE2 h0
  have c1 : Says ((w1.alloc (.cells #[.int .i64 xk, .int .i64 xn, .string xt, .slice xa xl xc] 25)).alloc (.cells #[.int .i64 yk, .int .i64 yn, .string yt, .slice ya yl yc] 25)) 13 #[.agg #[.int .i64 xk, .int .i64 xn, .string xt, .slice xa xl xc], .agg #[.int .i64 yk, .int .i64 yn, .string yt, .slice ya yl yc]] (.agg #[.int .i64 (eqK x y), .int .i64 (eqN x y), .string ⟨#[]⟩, .slice none 0 0]) := fun W hW => implValueEqual_any x y 0 0 _ _ W (ix.ext hW) (iy.ext hW)
  have c2 : Says ((w1.alloc (.cells #[.int .i64 xk, .int .i64 xn, .string xt, .slice xa xl xc] 25)).alloc (.cells #[.int .i64 yk, .int .i64 yn, .string yt, .slice ya yl yc] 25)) 14 #[.agg #[.int .i64 xk, .int .i64 xn, .string xt, .slice xa xl xc], .agg #[.int .i64 yk, .int .i64 yn, .string yt, .slice ya yl yc]] (.agg #[.int .i64 (eqK x y), .int .i64 (eqN x y), .string ⟨#[]⟩, .slice none 0 0]) := fun W hW => specValueEqual_any x y 0 0 _ _ W (ix.ext hW) (iy.ext hW)
  have c3 : Says ((w1.alloc (.cells #[.int .i64 xk, .int .i64 xn, .string xt, .slice xa xl xc] 25)).alloc (.cells #[.int .i64 yk, .int .i64 yn, .string yt, .slice ya yl yc] 25)) 13 #[.agg #[.int .i64 yk, .int .i64 yn, .string yt, .slice ya yl yc], .agg #[.int .i64 xk, .int .i64 xn, .string xt, .slice xa xl xc]] (.agg #[.int .i64 (eqK x y), .int .i64 (eqN x y), .string ⟨#[]⟩, .slice none 0 0]) := fun W hW => by rw [← eqK_symm x y, ← eqN_symm x y]; exact implValueEqual_any y x 0 0 _ _ W (iy.ext hW) (ix.ext hW)
  have c4 : Says ((w1.alloc (.cells #[.int .i64 xk, .int .i64 xn, .string xt, .slice xa xl xc] 25)).alloc (.cells #[.int .i64 yk, .int .i64 yn, .string yt, .slice ya yl yc] 25)) 11 #[.agg #[.int .i64 (eqK x y), .int .i64 (eqN x y), .string ⟨#[]⟩, .slice none 0 0], .agg #[.int .i64 (eqK x y), .int .i64 (eqN x y), .string ⟨#[]⟩, .slice none 0 0]] (.bool true) := fun W hW => by
    have h := asValue_any (flatV (eqK x y) (eqN x y)) (flatV (eqK x y) (eqN x y)) 0 0 _ _ W (flat_in 0 W _ _ (wf_eqK x y) (wf_eqN x y)) (flat_in 0 W _ _ (wf_eqK x y) (wf_eqN x y))
    rw [sameV_refl] at h
    exact h
  have c5 : Says ((w1.alloc (.cells #[.int .i64 xk, .int .i64 xn, .string xt, .slice xa xl xc] 25)).alloc (.cells #[.int .i64 yk, .int .i64 yn, .string yt, .slice ya yl yc] 25)) 10 #[.agg #[.int .i64 xk, .int .i64 xn, .string xt, .slice xa xl xc]] (.bool (okN 3 x)) := fun W hW => specValueOk_any x 0 _ W (ix.ext hW)
  have c6 : Says ((w1.alloc (.cells #[.int .i64 xk, .int .i64 xn, .string xt, .slice xa xl xc] 25)).alloc (.cells #[.int .i64 yk, .int .i64 yn, .string yt, .slice ya yl yc] 25)) 10 #[.agg #[.int .i64 yk, .int .i64 yn, .string yt, .slice ya yl yc]] (.bool (okN 3 y)) := fun W hW => specValueOk_any y 0 _ W (iy.ext hW)
  have c7 : Says ((w1.alloc (.cells #[.int .i64 xk, .int .i64 xn, .string xt, .slice xa xl xc] 25)).alloc (.cells #[.int .i64 yk, .int .i64 yn, .string yt, .slice ya yl yc] 25)) 15 #[.agg #[.int .i64 xk, .int .i64 xn, .string xt, .slice xa xl xc]] (.bool (nullV x)) := fun W hW => asNull_any x 0 _ W (ix.ext hW)
  have c8 : Says ((w1.alloc (.cells #[.int .i64 xk, .int .i64 xn, .string xt, .slice xa xl xc] 25)).alloc (.cells #[.int .i64 yk, .int .i64 yn, .string yt, .slice ya yl yc] 25)) 15 #[.agg #[.int .i64 yk, .int .i64 yn, .string yt, .slice ya yl yc]] (.bool (nullV y)) := fun W hW => asNull_any y 0 _ W (iy.ext hW)
  have c9 : Says ((w1.alloc (.cells #[.int .i64 xk, .int .i64 xn, .string xt, .slice xa xl xc] 25)).alloc (.cells #[.int .i64 yk, .int .i64 yn, .string yt, .slice ya yl yc] 25)) 11 #[.agg #[.int .i64 xk, .int .i64 xn, .string xt, .slice xa xl xc], .agg #[.int .i64 yk, .int .i64 yn, .string yt, .slice ya yl yc]] (.bool (sameV x y)) := fun W hW => asValue_any x y 0 0 _ _ W (ix.ext hW) (iy.ext hW)
  have HL : Hid (okN 3 x = true → okN 3 y = true → ((nullV x = true ∨ nullV y = true) → eqK x y = 0 ∨ eqN x y = 0) ∧ (nullV x = false → nullV y = false → eqK x y = 1 ∧ (eqN x y == 1) = sameV x y)) := fun h1 h2 => eq_law h1 h2
  generalize eqK x y = K at *
  generalize eqN x y = N at *
  generalize okN 3 x = ox at *
  generalize okN 3 y = oy at *
  generalize nullV x = nx at *
  generalize nullV y = ny at *
  generalize sameV x y = sm at *
  clear ix iy
  have hcur := Ext.refl ((w1.alloc (.cells #[.int .i64 xk, .int .i64 xn, .string xt, .slice xa xl xc] 25)).alloc (.cells #[.int .i64 yk, .int .i64 yn, .string yt, .slice ya yl yc] 25))
  obtain ⟨⟨_, p0, p1, p2, p3⟩, _⟩ := id hA
  obtain ⟨⟨_, q0, q1, q2, q3⟩, _⟩ := id hB
  go_wp2_with fail
  refine (c1 _ hcur).mono ?_
  rintro e w3 ⟨rfl, hE⟩
  replace hcur := hcur.trans hE
  clear hE p0 p1 p2 p3 q0 q1 q2 q3 c1
  generalize ((w1.alloc (.cells #[.int .i64 xk, .int .i64 xn, .string xt, .slice xa xl xc] 25)).alloc (.cells #[.int .i64 yk, .int .i64 yn, .string yt, .slice ya yl yc] 25)) = BW at *
  have hV := FBox.new w3 (.int .i64 K) (.int .i64 N) (.string ⟨#[]⟩) (.slice none 0 0) 25
  have hcur2 := hcur.alloc (.cells #[.int .i64 K, .int .i64 N, .string ⟨#[]⟩, .slice none 0 0] 25)
  go_upto_region 5 with fail
  replace hA := (hA.ext hcur2).box
  replace hB := (hB.ext hcur2).box
  replace hV := hV.box
  replace c2 := c2.mono hcur2
  replace c3 := c3.mono hcur2
  replace c4 := c4.mono hcur2
  replace c5 := c5.mono hcur2
  replace c6 := c6.mono hcur2
  replace c7 := c7.mono hcur2
  replace c8 := c8.mono hcur2
  replace c9 := c9.mono hcur2
  replace hX := hX.trans hcur2
  clear hcur hcur2
  generalize (w3.alloc (.cells #[.int .i64 K, .int .i64 N, .string ⟨#[]⟩, .slice none 0 0] 25)) = V0 at *
  generalize w3.heap.size = VB at *
  generalize w1.heap.size + 1 = BB at *
  generalize w1.heap.size = AB at *
  have HK : Hid (∀ W, Ext V0 W → W.cell? ⟨AB, 0, none⟩ = some (.int .i64 xk) ∧ W.cell? ⟨AB, 1, none⟩ = some (.int .i64 xn) ∧ W.cell? ⟨AB, 2, none⟩ = some (.string xt) ∧ W.cell? ⟨AB, 3, none⟩ = some (.slice xa xl xc) ∧ W.cell? ⟨BB, 0, none⟩ = some (.int .i64 yk) ∧ W.cell? ⟨BB, 1, none⟩ = some (.int .i64 yn) ∧ W.cell? ⟨BB, 2, none⟩ = some (.string yt) ∧ W.cell? ⟨BB, 3, none⟩ = some (.slice ya yl yc) ∧ W.cell? ⟨VB, 0, none⟩ = some (.int .i64 K) ∧ W.cell? ⟨VB, 1, none⟩ = some (.int .i64 N) ∧ W.cell? ⟨VB, 2, none⟩ = some (.string ⟨#[]⟩) ∧ W.cell? ⟨VB, 3, none⟩ = some (.slice none 0 0)) := fun W hW => by
    obtain ⟨_, p0, p1, p2, p3⟩ := hA.ext hW
    obtain ⟨_, q0, q1, q2, q3⟩ := hB.ext hW
    obtain ⟨_, r0, r1, r2, r3⟩ := hV.ext hW
    exact ⟨p0, p1, p2, p3, q0, q1, q2, q3, r0, r1, r2, r3⟩
  clear hA hB hV
  cases ox
  · clear HL
    have hcur : Ext V0 V0.drew := (Ext.refl _).drew
    refine wp_region_held_drew (S := (fun W => W.cell? ⟨AB, 0, none⟩ = some (.int .i64 xk) ∧ W.cell? ⟨AB, 1, none⟩ = some (.int .i64 xn) ∧ W.cell? ⟨AB, 2, none⟩ = some (.string xt) ∧ W.cell? ⟨AB, 3, none⟩ = some (.slice xa xl xc) ∧ W.cell? ⟨BB, 0, none⟩ = some (.int .i64 yk) ∧ W.cell? ⟨BB, 1, none⟩ = some (.int .i64 yn) ∧ W.cell? ⟨BB, 2, none⟩ = some (.string yt) ∧ W.cell? ⟨BB, 3, none⟩ = some (.slice ya yl yc) ∧ W.cell? ⟨VB, 0, none⟩ = some (.int .i64 K) ∧ W.cell? ⟨VB, 1, none⟩ = some (.int .i64 N) ∧ W.cell? ⟨VB, 2, none⟩ = some (.string ⟨#[]⟩) ∧ W.cell? ⟨VB, 3, none⟩ = some (.slice none 0 0))) (by kernel_rfl) (HK.out _ hcur) (fun hHeld => ?_)
    refine wpAnyH_take (i := 0) (oi := { dst := some 17, op := Op.load 25 (Operand.tmp 5), type := 25, pos := "laws.go:80", after := #[], guard := none }) (v := ?_) rfl (by kernel_rfl) (by kernel_rfl) (by kernel_rfl) (fun _ _ _ h => h) (Or.inl ⟨by rfl, ?yy0⟩) hHeld ?rr0
    case yy0 => first | (intro w hSw; (try dsimp only at hSw); go_simp; done) | (intro w hSw; (try dsimp only at hSw); go_simp; with_reducible rfl)
    try simp only [Act.put, List.setIfInBounds_toArray, List.set_cons_zero, List.set_cons_succ]
    refine wpAnyH_take (i := 1) (oi := { dst := some 18, op := Op.load 25 (Operand.tmp 3), type := 25, pos := "laws.go:80", after := #[], guard := none }) (v := ?_) rfl (by kernel_rfl) (by kernel_rfl) (by kernel_rfl) (fun _ _ _ h => h) (Or.inl ⟨by rfl, ?yy1⟩) hHeld ?rr1
    case yy1 => first | (intro w hSw; (try dsimp only at hSw); go_simp; done) | (intro w hSw; (try dsimp only at hSw); go_simp; with_reducible rfl)
    try simp only [Act.put, List.setIfInBounds_toArray, List.set_cons_zero, List.set_cons_succ]
    refine wpAnyH_take (i := 2) (oi := { dst := some 19, op := Op.load 25 (Operand.tmp 4), type := 25, pos := "laws.go:80", after := #[], guard := none }) (v := ?_) rfl (by kernel_rfl) (by kernel_rfl) (by kernel_rfl) (fun _ _ _ h => h) (Or.inl ⟨by rfl, ?yy2⟩) hHeld ?rr2
    case yy2 => first | (intro w hSw; (try dsimp only at hSw); go_simp; done) | (intro w hSw; (try dsimp only at hSw); go_simp; with_reducible rfl)
    try simp only [Act.put, List.setIfInBounds_toArray, List.set_cons_zero, List.set_cons_succ]
    refine wpAnyH_ready (rs := [3]) (by kernel_rfl) (by simp) ?_
    refine AllReadyH.cons (o := { dst := some 20, op := Op.call { callee := Callee.value (Operand.func 14), args := #[Operand.tmp 18, Operand.tmp 19], argTypes := #[25, 25] }, type := 25, pos := "laws.go:80", after := #[{ on := 1, ground := Ground.data }, { on := 2, ground := Ground.data }], guard := none }) rfl (fun K hK => ?_) AllReadyH.nil
    go_simp
    refine (c2 _ hcur).mono ?_
    rintro e wn ⟨rfl, hE⟩
    replace hcur := hcur.trans hE
    clear hE
    go_wp2_with fail
    refine hK.out _ _ (HK.out _ hcur) (fun hHeld => ?_)
    clear hK K
    try simp only [Act.put, List.setIfInBounds_toArray, List.set_cons_zero, List.set_cons_succ]
    refine wpAnyH_ready (rs := [4]) (by kernel_rfl) (by simp) ?_
    refine AllReadyH.cons (o := { dst := some 21, op := Op.call { callee := Callee.value (Operand.func 11), args := #[Operand.tmp 17, Operand.tmp 20], argTypes := #[25, 25] }, type := 4, pos := "laws.go:80", after := #[{ on := 0, ground := Ground.data }, { on := 3, ground := Ground.data }, { on := 3, ground := Ground.chain }], guard := none }) rfl (fun K hK => ?_) AllReadyH.nil
    go_simp
    refine (c4 _ hcur).mono ?_
    rintro e wn ⟨rfl, hE⟩
    replace hcur := hcur.trans hE
    clear hE
    go_wp2_with fail
    refine hK.out _ _ (HK.out _ hcur) (fun hHeld => ?_)
    clear hK K
    try simp only [Act.put, List.setIfInBounds_toArray, List.set_cons_zero, List.set_cons_succ]
    refine wpAnyH_take (i := 5) (oi := { dst := some 22, op := Op.unOp UnOp.not 4 (Operand.tmp 21), type := 4, pos := "laws.go:80", after := #[{ on := 4, ground := Ground.data }], guard := none }) (v := ?_) rfl (by kernel_rfl) (by kernel_rfl) (by kernel_rfl) (fun _ _ _ h => h) (Or.inl ⟨by rfl, ?yy5⟩) hHeld ?rr5
    case yy5 => first | (intro w hSw; (try dsimp only at hSw); go_simp; done) | (intro w hSw; (try dsimp only at hSw); go_simp; with_reducible rfl)
    try simp only [Act.put, List.setIfInBounds_toArray, List.set_cons_zero, List.set_cons_succ]
    refine wpAnyH_take (i := 6) (oi := { dst := some 23, op := Op.move (Operand.tmp 22), type := 4, pos := "laws.go:80", after := #[{ on := 5, ground := Ground.data }, { on := 4, ground := Ground.chain }], guard := none }) (v := ?_) rfl (by kernel_rfl) (by kernel_rfl) (by kernel_rfl) (fun _ _ _ h => h) (Or.inl ⟨by rfl, ?yy6⟩) hHeld ?rr6
    case yy6 => first | (intro w hSw; (try dsimp only at hSw); go_simp; done) | (intro w hSw; (try dsimp only at hSw); go_simp; with_reducible rfl)
    try simp only [Act.put, List.setIfInBounds_toArray, List.set_cons_zero, List.set_cons_succ]
    refine wpAnyH_take (i := 7) (oi := { dst := some 24, op := Op.load 25 (Operand.tmp 4), type := 25, pos := "laws.go:80", after := #[{ on := 6, ground := Ground.guard }], guard := some (6, false) }) (v := ?_) rfl (by kernel_rfl) (by kernel_rfl) (by kernel_rfl) (fun _ _ _ h => h) (Or.inl ⟨by rfl, ?yy7⟩) hHeld ?rr7
    case yy7 => first | (intro w hSw; (try dsimp only at hSw); go_simp; done) | (intro w hSw; (try dsimp only at hSw); go_simp; with_reducible rfl)
    try simp only [Act.put, List.setIfInBounds_toArray, List.set_cons_zero, List.set_cons_succ]
    refine wpAnyH_take (i := 8) (oi := { dst := some 25, op := Op.load 25 (Operand.tmp 3), type := 25, pos := "laws.go:80", after := #[{ on := 6, ground := Ground.guard }], guard := some (6, false) }) (v := ?_) rfl (by kernel_rfl) (by kernel_rfl) (by kernel_rfl) (fun _ _ _ h => h) (Or.inl ⟨by rfl, ?yy8⟩) hHeld ?rr8
    case yy8 => first | (intro w hSw; (try dsimp only at hSw); go_simp; done) | (intro w hSw; (try dsimp only at hSw); go_simp; with_reducible rfl)
    try simp only [Act.put, List.setIfInBounds_toArray, List.set_cons_zero, List.set_cons_succ]
    refine wpAnyH_take (i := 10) (oi := { dst := some 27, op := Op.load 25 (Operand.tmp 5), type := 25, pos := "laws.go:80", after := #[{ on := 6, ground := Ground.guard }], guard := some (6, false) }) (v := ?_) rfl (by kernel_rfl) (by kernel_rfl) (by kernel_rfl) (fun _ _ _ h => h) (Or.inl ⟨by rfl, ?yy10⟩) hHeld ?rr10
    case yy10 => first | (intro w hSw; (try dsimp only at hSw); go_simp; done) | (intro w hSw; (try dsimp only at hSw); go_simp; with_reducible rfl)
    try simp only [Act.put, List.setIfInBounds_toArray, List.set_cons_zero, List.set_cons_succ]
    refine wpAnyH_ready (rs := [9]) (by kernel_rfl) (by simp) ?_
    refine AllReadyH.cons (o := { dst := some 26, op := Op.call { callee := Callee.value (Operand.func 13), args := #[Operand.tmp 24, Operand.tmp 25], argTypes := #[25, 25] }, type := 25, pos := "laws.go:80", after := #[{ on := 7, ground := Ground.data }, { on := 8, ground := Ground.data }, { on := 6, ground := Ground.chain }, { on := 6, ground := Ground.guard }], guard := some (6, false) }) rfl (fun K hK => ?_) AllReadyH.nil
    go_simp
    refine (c3 _ hcur).mono ?_
    rintro e wn ⟨rfl, hE⟩
    replace hcur := hcur.trans hE
    clear hE
    go_wp2_with fail
    refine hK.out _ _ (HK.out _ hcur) (fun hHeld => ?_)
    clear hK K
    try simp only [Act.put, List.setIfInBounds_toArray, List.set_cons_zero, List.set_cons_succ]
    refine wpAnyH_ready (rs := [11]) (by kernel_rfl) (by simp) ?_
    refine AllReadyH.cons (o := { dst := some 28, op := Op.call { callee := Callee.value (Operand.func 11), args := #[Operand.tmp 26, Operand.tmp 27], argTypes := #[25, 25] }, type := 4, pos := "laws.go:80", after := #[{ on := 9, ground := Ground.data }, { on := 10, ground := Ground.data }, { on := 9, ground := Ground.chain }, { on := 6, ground := Ground.guard }], guard := some (6, false) }) rfl (fun K hK => ?_) AllReadyH.nil
    go_simp
    refine (c4 _ hcur).mono ?_
    rintro e wn ⟨rfl, hE⟩
    replace hcur := hcur.trans hE
    clear hE
    go_wp2_with fail
    refine hK.out _ _ (HK.out _ hcur) (fun hHeld => ?_)
    clear hK K
    try simp only [Act.put, List.setIfInBounds_toArray, List.set_cons_zero, List.set_cons_succ]
    refine wpAnyH_take (i := 12) (oi := { dst := some 29, op := Op.unOp UnOp.not 4 (Operand.tmp 28), type := 4, pos := "laws.go:80", after := #[{ on := 11, ground := Ground.data }, { on := 6, ground := Ground.guard }], guard := some (6, false) }) (v := ?_) rfl (by kernel_rfl) (by kernel_rfl) (by kernel_rfl) (fun _ _ _ h => h) (Or.inl ⟨by rfl, ?yy12⟩) hHeld ?rr12
    case yy12 => first | (intro w hSw; (try dsimp only at hSw); go_simp; done) | (intro w hSw; (try dsimp only at hSw); go_simp; with_reducible rfl)
    try simp only [Act.put, List.setIfInBounds_toArray, List.set_cons_zero, List.set_cons_succ]
    refine wpAnyH_take (i := 13) (oi := { dst := some 30, op := Op.pick (Operand.tmp 23) (Operand.const (Value.bool true)) (Operand.tmp 29), type := 4, pos := "laws.go:80", after := #[{ on := 6, ground := Ground.data }, { on := 12, ground := Ground.data }], guard := none }) (v := ?_) rfl (by kernel_rfl) (by kernel_rfl) (by kernel_rfl) (fun _ _ _ h => h) (Or.inl ⟨by rfl, ?yy13⟩) hHeld ?rr13
    case yy13 => first | (intro w hSw; (try dsimp only at hSw); go_simp; done) | (intro w hSw; (try dsimp only at hSw); go_simp; with_reducible rfl)
    try simp only [Act.put, List.setIfInBounds_toArray, List.set_cons_zero, List.set_cons_succ]
    refine wpAnyH_take (i := 14) (oi := { dst := some 31, op := Op.move (Operand.tmp 30), type := 4, pos := "laws.go:80", after := #[{ on := 13, ground := Ground.data }, { on := 11, ground := Ground.chain }], guard := none }) (v := ?_) rfl (by kernel_rfl) (by kernel_rfl) (by kernel_rfl) (fun _ _ _ h => h) (Or.inl ⟨by rfl, ?yy14⟩) hHeld ?rr14
    case yy14 => first | (intro w hSw; (try dsimp only at hSw); go_simp; done) | (intro w hSw; (try dsimp only at hSw); go_simp; with_reducible rfl)
    try simp only [Act.put, List.setIfInBounds_toArray, List.set_cons_zero, List.set_cons_succ]
    refine wpAnyH_take (i := 15) (oi := { dst := some 32, op := Op.load 25 (Operand.tmp 3), type := 25, pos := "laws.go:80", after := #[{ on := 14, ground := Ground.guard }], guard := some (14, false) }) (v := ?_) rfl (by kernel_rfl) (by kernel_rfl) (by kernel_rfl) (fun _ _ _ h => h) (Or.inl ⟨by rfl, ?yy15⟩) hHeld ?rr15
    case yy15 => first | (intro w hSw; (try dsimp only at hSw); go_simp; done) | (intro w hSw; (try dsimp only at hSw); go_simp; with_reducible rfl)
    try simp only [Act.put, List.setIfInBounds_toArray, List.set_cons_zero, List.set_cons_succ]
    refine wpAnyH_ready (rs := [16]) (by kernel_rfl) (by simp) ?_
    refine AllReadyH.cons (o := { dst := some 33, op := Op.call { callee := Callee.value (Operand.func 10), args := #[Operand.tmp 32], argTypes := #[25] }, type := 4, pos := "laws.go:80", after := #[{ on := 15, ground := Ground.data }, { on := 14, ground := Ground.chain }, { on := 14, ground := Ground.guard }], guard := some (14, false) }) rfl (fun K hK => ?_) AllReadyH.nil
    go_simp
    refine (c5 _ hcur).mono ?_
    rintro e wn ⟨rfl, hE⟩
    replace hcur := hcur.trans hE
    clear hE
    go_wp2_with fail
    refine hK.out _ _ (HK.out _ hcur) (fun hHeld => ?_)
    clear hK K
    try simp only [Act.put, List.setIfInBounds_toArray, List.set_cons_zero, List.set_cons_succ]
    refine wpAnyH_take (i := 17) (oi := { dst := some 34, op := Op.unOp UnOp.not 4 (Operand.tmp 33), type := 4, pos := "laws.go:80", after := #[{ on := 16, ground := Ground.data }, { on := 14, ground := Ground.guard }], guard := some (14, false) }) (v := ?_) rfl (by kernel_rfl) (by kernel_rfl) (by kernel_rfl) (fun _ _ _ h => h) (Or.inl ⟨by rfl, ?yy17⟩) hHeld ?rr17
    case yy17 => first | (intro w hSw; (try dsimp only at hSw); go_simp; done) | (intro w hSw; (try dsimp only at hSw); go_simp; with_reducible rfl)
    try simp only [Act.put, List.setIfInBounds_toArray, List.set_cons_zero, List.set_cons_succ]
    refine wpAnyH_take (i := 18) (oi := { dst := some 35, op := Op.pick (Operand.tmp 31) (Operand.const (Value.bool true)) (Operand.tmp 34), type := 4, pos := "laws.go:80", after := #[{ on := 14, ground := Ground.data }, { on := 17, ground := Ground.data }], guard := none }) (v := ?_) rfl (by kernel_rfl) (by kernel_rfl) (by kernel_rfl) (fun _ _ _ h => h) (Or.inl ⟨by rfl, ?yy18⟩) hHeld ?rr18
    case yy18 => first | (intro w hSw; (try dsimp only at hSw); go_simp; done) | (intro w hSw; (try dsimp only at hSw); go_simp; with_reducible rfl)
    try simp only [Act.put, List.setIfInBounds_toArray, List.set_cons_zero, List.set_cons_succ]
    refine wpAnyH_take (i := 19) (oi := { dst := some 36, op := Op.move (Operand.tmp 35), type := 4, pos := "laws.go:80", after := #[{ on := 18, ground := Ground.data }, { on := 16, ground := Ground.chain }], guard := none }) (v := ?_) rfl (by kernel_rfl) (by kernel_rfl) (by kernel_rfl) (fun _ _ _ h => h) (Or.inl ⟨by rfl, ?yy19⟩) hHeld ?rr19
    case yy19 => first | (intro w hSw; (try dsimp only at hSw); go_simp; done) | (intro w hSw; (try dsimp only at hSw); go_simp; with_reducible rfl)
    try simp only [Act.put, List.setIfInBounds_toArray, List.set_cons_zero, List.set_cons_succ]
    refine wpAnyH_take (i := 20) (oi := { dst := some 37, op := Op.load 25 (Operand.tmp 4), type := 25, pos := "laws.go:80", after := #[{ on := 19, ground := Ground.guard }], guard := some (19, false) }) (v := undef) rfl (by kernel_rfl) (by kernel_rfl) (by kernel_rfl) (fun _ _ _ h => h) (Or.inr ⟨by rfl, rfl⟩) hHeld ?_
    try simp only [Act.put, List.setIfInBounds_toArray, List.set_cons_zero, List.set_cons_succ]
    refine wpAnyH_ready (rs := [21]) (by kernel_rfl) (by simp) ?_
    refine AllReadyH.cons (o := { dst := some 38, op := Op.call { callee := Callee.value (Operand.func 10), args := #[Operand.tmp 37], argTypes := #[25] }, type := 4, pos := "laws.go:80", after := #[{ on := 20, ground := Ground.data }, { on := 19, ground := Ground.chain }, { on := 19, ground := Ground.guard }], guard := some (19, false) }) rfl (fun K hK => ?_) AllReadyH.nil
    rw [if_neg (by simp [Region.wanted, yielded])]
    refine hK.out _ _ hHeld (fun hHeld => ?_)
    clear hK K
    try simp only [Act.put, List.setIfInBounds_toArray, List.set_cons_zero, List.set_cons_succ]
    refine wpAnyH_take (i := 22) (oi := { dst := some 39, op := Op.unOp UnOp.not 4 (Operand.tmp 38), type := 4, pos := "laws.go:80", after := #[{ on := 21, ground := Ground.data }, { on := 19, ground := Ground.guard }], guard := some (19, false) }) (v := undef) rfl (by kernel_rfl) (by kernel_rfl) (by kernel_rfl) (fun _ _ _ h => h) (Or.inr ⟨by rfl, rfl⟩) hHeld ?_
    try simp only [Act.put, List.setIfInBounds_toArray, List.set_cons_zero, List.set_cons_succ]
    refine wpAnyH_take (i := 23) (oi := { dst := some 40, op := Op.pick (Operand.tmp 36) (Operand.const (Value.bool true)) (Operand.tmp 39), type := 4, pos := "laws.go:80", after := #[{ on := 19, ground := Ground.data }, { on := 22, ground := Ground.data }], guard := none }) (v := ?_) rfl (by kernel_rfl) (by kernel_rfl) (by kernel_rfl) (fun _ _ _ h => h) (Or.inl ⟨by rfl, ?yy23⟩) hHeld ?rr23
    case yy23 => first | (intro w hSw; (try dsimp only at hSw); go_simp; done) | (intro w hSw; (try dsimp only at hSw); go_simp; with_reducible rfl)
    try simp only [Act.put, List.setIfInBounds_toArray, List.set_cons_zero, List.set_cons_succ]
    refine wpAnyH_done (by kernel_rfl) ?_ _
    go_upto_region 6 with fail
    replace hcur := hcur.drew
    go_region_held3 (fun W => W.cell? ⟨AB, 0, none⟩ = some (.int .i64 xk) ∧ W.cell? ⟨AB, 1, none⟩ = some (.int .i64 xn) ∧ W.cell? ⟨AB, 2, none⟩ = some (.string xt) ∧ W.cell? ⟨AB, 3, none⟩ = some (.slice xa xl xc) ∧ W.cell? ⟨BB, 0, none⟩ = some (.int .i64 yk) ∧ W.cell? ⟨BB, 1, none⟩ = some (.int .i64 yn) ∧ W.cell? ⟨BB, 2, none⟩ = some (.string yt) ∧ W.cell? ⟨BB, 3, none⟩ = some (.slice ya yl yc) ∧ W.cell? ⟨VB, 0, none⟩ = some (.int .i64 K) ∧ W.cell? ⟨VB, 1, none⟩ = some (.int .i64 N) ∧ W.cell? ⟨VB, 2, none⟩ = some (.string ⟨#[]⟩) ∧ W.cell? ⟨VB, 3, none⟩ = some (.slice none 0 0)) (exact HK.out _ hcur)
      (first
        | (go_at_call 14
           refine (c2 _ hcur).mono ?_
           rintro e wn ⟨rfl, hE⟩
           replace hcur := hcur.trans hE
           clear hE)
        | (go_at_call 13
           refine (c3 _ hcur).mono ?_
           rintro e wn ⟨rfl, hE⟩
           replace hcur := hcur.trans hE
           clear hE)
        | (go_at_call 11
           refine (c4 _ hcur).mono ?_
           rintro e wn ⟨rfl, hE⟩
           replace hcur := hcur.trans hE
           clear hE)
        | (go_at_call_of 10 (Value.int .i64 xk)
           refine (c5 _ hcur).mono ?_
           rintro e wn ⟨rfl, hE⟩
           replace hcur := hcur.trans hE
           clear hE)
        | (go_at_call_of 10 (Value.int .i64 yk)
           refine (c6 _ hcur).mono ?_
           rintro e wn ⟨rfl, hE⟩
           replace hcur := hcur.trans hE
           clear hE))
    go_wp2
    go_ret
    exact ⟨rfl, hX.trans hcur⟩
  cases oy
  · clear HL
    have hcur : Ext V0 V0.drew := (Ext.refl _).drew
    go_region_held3 (fun W => W.cell? ⟨AB, 0, none⟩ = some (.int .i64 xk) ∧ W.cell? ⟨AB, 1, none⟩ = some (.int .i64 xn) ∧ W.cell? ⟨AB, 2, none⟩ = some (.string xt) ∧ W.cell? ⟨AB, 3, none⟩ = some (.slice xa xl xc) ∧ W.cell? ⟨BB, 0, none⟩ = some (.int .i64 yk) ∧ W.cell? ⟨BB, 1, none⟩ = some (.int .i64 yn) ∧ W.cell? ⟨BB, 2, none⟩ = some (.string yt) ∧ W.cell? ⟨BB, 3, none⟩ = some (.slice ya yl yc) ∧ W.cell? ⟨VB, 0, none⟩ = some (.int .i64 K) ∧ W.cell? ⟨VB, 1, none⟩ = some (.int .i64 N) ∧ W.cell? ⟨VB, 2, none⟩ = some (.string ⟨#[]⟩) ∧ W.cell? ⟨VB, 3, none⟩ = some (.slice none 0 0)) (exact HK.out _ hcur)
      (first
        | (go_at_call 14
           refine (c2 _ hcur).mono ?_
           rintro e wn ⟨rfl, hE⟩
           replace hcur := hcur.trans hE
           clear hE)
        | (go_at_call 13
           refine (c3 _ hcur).mono ?_
           rintro e wn ⟨rfl, hE⟩
           replace hcur := hcur.trans hE
           clear hE)
        | (go_at_call 11
           refine (c4 _ hcur).mono ?_
           rintro e wn ⟨rfl, hE⟩
           replace hcur := hcur.trans hE
           clear hE)
        | (go_at_call_of 10 (Value.int .i64 xk)
           refine (c5 _ hcur).mono ?_
           rintro e wn ⟨rfl, hE⟩
           replace hcur := hcur.trans hE
           clear hE)
        | (go_at_call_of 10 (Value.int .i64 yk)
           refine (c6 _ hcur).mono ?_
           rintro e wn ⟨rfl, hE⟩
           replace hcur := hcur.trans hE
           clear hE))
    go_upto_region 6 with fail
    replace hcur := hcur.drew
    go_region_held3 (fun W => W.cell? ⟨AB, 0, none⟩ = some (.int .i64 xk) ∧ W.cell? ⟨AB, 1, none⟩ = some (.int .i64 xn) ∧ W.cell? ⟨AB, 2, none⟩ = some (.string xt) ∧ W.cell? ⟨AB, 3, none⟩ = some (.slice xa xl xc) ∧ W.cell? ⟨BB, 0, none⟩ = some (.int .i64 yk) ∧ W.cell? ⟨BB, 1, none⟩ = some (.int .i64 yn) ∧ W.cell? ⟨BB, 2, none⟩ = some (.string yt) ∧ W.cell? ⟨BB, 3, none⟩ = some (.slice ya yl yc) ∧ W.cell? ⟨VB, 0, none⟩ = some (.int .i64 K) ∧ W.cell? ⟨VB, 1, none⟩ = some (.int .i64 N) ∧ W.cell? ⟨VB, 2, none⟩ = some (.string ⟨#[]⟩) ∧ W.cell? ⟨VB, 3, none⟩ = some (.slice none 0 0)) (exact HK.out _ hcur)
      (first
        | (go_at_call 14
           refine (c2 _ hcur).mono ?_
           rintro e wn ⟨rfl, hE⟩
           replace hcur := hcur.trans hE
           clear hE)
        | (go_at_call 13
           refine (c3 _ hcur).mono ?_
           rintro e wn ⟨rfl, hE⟩
           replace hcur := hcur.trans hE
           clear hE)
        | (go_at_call 11
           refine (c4 _ hcur).mono ?_
           rintro e wn ⟨rfl, hE⟩
           replace hcur := hcur.trans hE
           clear hE)
        | (go_at_call_of 10 (Value.int .i64 xk)
           refine (c5 _ hcur).mono ?_
           rintro e wn ⟨rfl, hE⟩
           replace hcur := hcur.trans hE
           clear hE)
        | (go_at_call_of 10 (Value.int .i64 yk)
           refine (c6 _ hcur).mono ?_
           rintro e wn ⟨rfl, hE⟩
           replace hcur := hcur.trans hE
           clear hE))
    go_wp2
    go_ret
    exact ⟨rfl, hX.trans hcur⟩
  have hcur : Ext V0 V0.drew := (Ext.refl _).drew
  go_region_held3 (fun W => W.cell? ⟨AB, 0, none⟩ = some (.int .i64 xk) ∧ W.cell? ⟨AB, 1, none⟩ = some (.int .i64 xn) ∧ W.cell? ⟨AB, 2, none⟩ = some (.string xt) ∧ W.cell? ⟨AB, 3, none⟩ = some (.slice xa xl xc) ∧ W.cell? ⟨BB, 0, none⟩ = some (.int .i64 yk) ∧ W.cell? ⟨BB, 1, none⟩ = some (.int .i64 yn) ∧ W.cell? ⟨BB, 2, none⟩ = some (.string yt) ∧ W.cell? ⟨BB, 3, none⟩ = some (.slice ya yl yc) ∧ W.cell? ⟨VB, 0, none⟩ = some (.int .i64 K) ∧ W.cell? ⟨VB, 1, none⟩ = some (.int .i64 N) ∧ W.cell? ⟨VB, 2, none⟩ = some (.string ⟨#[]⟩) ∧ W.cell? ⟨VB, 3, none⟩ = some (.slice none 0 0)) (exact HK.out _ hcur)
    (first
      | (go_at_call 14
         refine (c2 _ hcur).mono ?_
         rintro e wn ⟨rfl, hE⟩
         replace hcur := hcur.trans hE
         clear hE)
      | (go_at_call 13
         refine (c3 _ hcur).mono ?_
         rintro e wn ⟨rfl, hE⟩
         replace hcur := hcur.trans hE
         clear hE)
      | (go_at_call 11
         refine (c4 _ hcur).mono ?_
         rintro e wn ⟨rfl, hE⟩
         replace hcur := hcur.trans hE
         clear hE)
      | (go_at_call_of 10 (Value.int .i64 xk)
         refine (c5 _ hcur).mono ?_
         rintro e wn ⟨rfl, hE⟩
         replace hcur := hcur.trans hE
         clear hE)
      | (go_at_call_of 10 (Value.int .i64 yk)
         refine (c6 _ hcur).mono ?_
         rintro e wn ⟨rfl, hE⟩
         replace hcur := hcur.trans hE
         clear hE))
  obtain ⟨hl1, hl2⟩ := HL.out (by trivial) (by trivial)
  have HL1 : Hid (nx = true ∨ ny = true → K = 0 ∨ N = 0) := hl1
  have HL2 : Hid (nx = false → ny = false → K = 1 ∧ (N == 1) = sm) := hl2
  clear hl1 hl2 HL
  go_upto_region 7 with fail
  obtain ⟨p0, p1, p2, p3, q0, q1, q2, q3, r0, r1, r2, r3⟩ := HK.out _ hcur
  go_wp2_with fail
  refine (c7 _ hcur).mono ?_
  rintro e wn ⟨rfl, hE⟩
  replace hcur := hcur.trans hE
  clear hE p0 p1 p2 p3 q0 q1 q2 q3 r0 r1 r2 r3
  obtain ⟨p0, p1, p2, p3, q0, q1, q2, q3, r0, r1, r2, r3⟩ := HK.out _ hcur
  cases nx
  case true =>
    rcases HL1.out (by first | exact .inl rfl | exact .inr rfl | simp) with rfl | rfl
    · clear HL1 HL2
      go_wp2
      go_ret
      exact ⟨rfl, hX.trans hcur⟩
    · clear HL1 HL2
      by_cases hK0 : K = 0
      · subst hK0
        go_wp2
        go_ret
        exact ⟨rfl, hX.trans hcur⟩
      · have eK : (K == 0) = false := by simp [hK0]
        go_wp2
        go_ret
        exact ⟨rfl, hX.trans hcur⟩
  go_wp2_with fail
  refine (c8 _ hcur).mono ?_
  rintro e wn ⟨rfl, hE⟩
  replace hcur := hcur.trans hE
  clear hE p0 p1 p2 p3 q0 q1 q2 q3 r0 r1 r2 r3
  obtain ⟨p0, p1, p2, p3, q0, q1, q2, q3, r0, r1, r2, r3⟩ := HK.out _ hcur
  cases ny
  case true =>
    rcases HL1.out (by first | exact .inl rfl | exact .inr rfl | simp) with rfl | rfl
    · clear HL1 HL2
      go_wp2
      go_ret
      exact ⟨rfl, hX.trans hcur⟩
    · clear HL1 HL2
      by_cases hK0 : K = 0
      · subst hK0
        go_wp2
        go_ret
        exact ⟨rfl, hX.trans hcur⟩
      · have eK : (K == 0) = false := by simp [hK0]
        go_wp2
        go_ret
        exact ⟨rfl, hX.trans hcur⟩
  obtain ⟨rfl, hsm⟩ := HL2.out (by first | rfl | trivial) (by first | rfl | trivial)
  subst hsm
  clear HL1 HL2
  go_upto_region 9 with fail
  clear p0 p1 p2 p3 q0 q1 q2 q3 r0 r1 r2 r3
  replace hcur := hcur.drew
  by_cases hN : N = 1
  · subst hN
    go_region_held3 (fun W => W.cell? ⟨AB, 0, none⟩ = some (.int .i64 xk) ∧ W.cell? ⟨AB, 1, none⟩ = some (.int .i64 xn) ∧ W.cell? ⟨AB, 2, none⟩ = some (.string xt) ∧ W.cell? ⟨AB, 3, none⟩ = some (.slice xa xl xc) ∧ W.cell? ⟨BB, 0, none⟩ = some (.int .i64 yk) ∧ W.cell? ⟨BB, 1, none⟩ = some (.int .i64 yn) ∧ W.cell? ⟨BB, 2, none⟩ = some (.string yt) ∧ W.cell? ⟨BB, 3, none⟩ = some (.slice ya yl yc) ∧ W.cell? ⟨VB, 0, none⟩ = some (.int .i64 1) ∧ W.cell? ⟨VB, 1, none⟩ = some (.int .i64 1) ∧ W.cell? ⟨VB, 2, none⟩ = some (.string ⟨#[]⟩) ∧ W.cell? ⟨VB, 3, none⟩ = some (.slice none 0 0)) (exact HK.out _ hcur)
      (first
        | (go_at_call 11
           refine (c9 _ hcur).mono ?_
           rintro e wn ⟨rfl, hE⟩
           replace hcur := hcur.trans hE
           clear hE))
    go_wp2
    go_ret
    exact ⟨rfl, hX.trans hcur⟩
  · have eN : (N == 1) = false := by simp [hN]
    rw [eN] at c9
    go_region_held3 (fun W => W.cell? ⟨AB, 0, none⟩ = some (.int .i64 xk) ∧ W.cell? ⟨AB, 1, none⟩ = some (.int .i64 xn) ∧ W.cell? ⟨AB, 2, none⟩ = some (.string xt) ∧ W.cell? ⟨AB, 3, none⟩ = some (.slice xa xl xc) ∧ W.cell? ⟨BB, 0, none⟩ = some (.int .i64 yk) ∧ W.cell? ⟨BB, 1, none⟩ = some (.int .i64 yn) ∧ W.cell? ⟨BB, 2, none⟩ = some (.string yt) ∧ W.cell? ⟨BB, 3, none⟩ = some (.slice ya yl yc) ∧ W.cell? ⟨VB, 0, none⟩ = some (.int .i64 1) ∧ W.cell? ⟨VB, 1, none⟩ = some (.int .i64 N) ∧ W.cell? ⟨VB, 2, none⟩ = some (.string ⟨#[]⟩) ∧ W.cell? ⟨VB, 3, none⟩ = some (.slice none 0 0)) (exact HK.out _ hcur)
      (first
        | (go_at_call 11
           refine (c9 _ hcur).mono ?_
           rintro e wn ⟨rfl, hE⟩
           replace hcur := hcur.trans hE
           clear hE))
    go_wp2
    go_ret
    exact ⟨rfl, hX.trans hcur⟩
end Go.Proofs.Ytnbjkbpmdjpocaa.fnValueEqual
