/- The reader of a drawn code: what (*spec.l1Rd).pick answers. -/
import Derived.Test.YtkngihmfknmnaaaBase
import Derived.Deep.RegionHeld3
namespace Go.Proofs.Ytkngihmfknmnaaa
open Go.RowKit Go.Deep

/-- A reader lies in block R, at its place p; what it reads lies elsewhere. -/
structure RdAt (w : World) (R p : Nat) : Prop where
  lt : R < w.heap.size
  st : ∃ (a : Option Addr) (n cap b off : Nat) (c : Nat → Int), w.cell? ⟨R, 0, none⟩ = some (.slice a n cap) ∧ n ≤ 2000 ∧ (0 < n → a = some ⟨b, off, none⟩ ∧ b < R) ∧ ∀ i, i < n → w.cell? ⟨b, off + i, none⟩ = some (.int .u8 (c i)) ∧ 0 ≤ c i ∧ c i ≤ 255
  pos : w.cell? ⟨R, 1, none⟩ = some (.int .i64 p)
  free : w.frozen? ⟨R, 1, none⟩ = false

theorem RdAt.ext {w w' : World} {R p : Nat} (h : RdAt w R p) (e : Ext w w') : RdAt w' R p := by
  obtain ⟨lt, ⟨a, n, cap, b, off, c, h0, hn, ha, hc⟩, hp, hf⟩ := h
  refine ⟨Nat.lt_of_lt_of_le lt e.le, ⟨a, n, cap, b, off, c, ?_, hn, ha, fun i hi => ?_⟩, ?_, ?_⟩
  · rw [e.cell lt]; exact h0
  · have hb := (ha (by omega)).2
    rw [e.cell (by dsimp only; omega)]; exact hc i hi
  · rw [e.cell lt]; exact hp
  · rw [Below.frozen e (p := ⟨R, 1, none⟩) lt]; exact hf

theorem RdAt.step {w : World} {R p : Nat} (h : RdAt w R p) : RdAt (w.setCell ⟨R, 1, none⟩ (.int .i64 ((p + 1 : Nat) : Int))) R (p + 1) := by
  obtain ⟨lt, ⟨a, n, cap, b, off, c, h0, hn, ha, hc⟩, hp, hf⟩ := h
  refine ⟨by simpa using lt, ⟨a, n, cap, b, off, c, ?_, hn, ha, fun i hi => ?_⟩, ?_, ?_⟩
  · simp [go_sem, h0]
  · have hb := (ha (by omega)).2
    have := (hc i hi).1
    rw [World.cell?_setCell_far _ _ _ _ (by dsimp only; omega)]
    simp [this, (hc i hi).2.1, (hc i hi).2.2]
  · simp [go_sem, hp]
  · simp [go_sem, hf]

theorem xor_nonneg (x y : Int) (h0 : 0 ≤ x) (h1 : x < 4611686018427387904) (h2 : 0 ≤ y) (h3 : y < 4611686018427387904) : 0 ≤ bits BinOp.xor IntKind.i64 x y := by
  obtain ⟨a, rfl⟩ := Int.eq_ofNat_of_zero_le h0
  obtain ⟨b, rfl⟩ := Int.eq_ofNat_of_zero_le h2
  have ha : a < 2 ^ 62 := by omega
  have hb : b < 2 ^ 62 := by omega
  have hx := Nat.xor_lt_two_pow ha hb
  have e : (BitVec.ofInt 64 (a : Int) ^^^ BitVec.ofInt 64 (b : Int)).toNat = a ^^^ b := by
    rw [BitVec.toNat_xor, BitVec.ofInt_natCast, BitVec.ofInt_natCast, BitVec.toNat_ofNat, BitVec.toNat_ofNat, Nat.mod_eq_of_lt (by omega), Nat.mod_eq_of_lt (by omega)]
  show 0 ≤ IntKind.i64.wrap ((BitVec.ofInt 64 (a : Int) ^^^ BitVec.ofInt 64 (b : Int)).toNat : Int)
  rw [e]
  generalize a ^^^ b = c at hx
  have : IntKind.i64.wrap (c : Int) = (c : Int) := by
    simp [IntKind.wrap, IntKind.signed, IntKind.bits]
    omega
  rw [this]
  omega

set_option maxRecDepth 100000 in
set_option maxHeartbeats 4000000 in
theorem pick_any (R p n : Nat) (w : World) (h : RdAt w R p) (hp : p ≤ 1000000) (hn : 1 ≤ n) (hn2 : n ≤ 1000) :
    Calls Try.prog 16 #[.pointer (some ⟨R, 0, none⟩), .int .i64 n] w fun e w' => ∃ m : Nat, e = .returned (.int .i64 m) ∧ m < n ∧ RdAt w' R (p + 1) ∧ Only R (R + 1) w w' := by
  have hst := h.step
  have hon : Only R (R + 1) w (w.setCell ⟨R, 1, none⟩ (.int .i64 ((p + 1 : Nat) : Int))) := (Only.refl R (R + 1) w).setCell (p := ⟨R, 1, none⟩) (Nat.le_refl R) (Nat.lt_succ_self R) _
  obtain ⟨lt, ⟨a, ln, cap, b, off, c, h0, hln, ha, hc⟩, hpos, hf⟩ := h
  by_cases hz : ln = 0
  · subst hz
    clear hc ha
    go_enter Try.func16, Try.ntmps16
    go_wp2
    go_ret
    exact ⟨0, rfl, by omega, hst, hon⟩
  obtain ⟨rfl, hbR⟩ := ha (by omega)
  have hne : b ≠ R := by omega
  have hzb : ((ln : Int) == 0) = false := by simp; omega
  have hnb : decide ((n : Int) < 1) = false := decide_eq_false (by omega)
  by_cases hlt : p < ln
  · obtain ⟨g0, g1, g2⟩ := hc p hlt
    clear hc ha
    generalize c p = u at g0 g1 g2
    go_enter Try.func16, Try.ntmps16
    go_wp2
    go_ret
    have h1 := Int.emod_nonneg u (show (n : Int) ≠ 0 by omega)
    have h2 := Int.emod_lt_of_pos u (show (0 : Int) < (n : Int) by omega)
    exact ⟨(u % n).toNat, ret_int (Int.toNat_of_nonneg h1).symm, by omega, hst, hon⟩
  · have e1 : ((p : Int) % (ln : Int)) = ((p % ln : Nat) : Int) := (Int.natCast_emod p ln).symm
    have e2 : (((p : Int) * 7 + 3) % (ln : Int)) = (((p * 7 + 3) % ln : Nat) : Int) := by rw [Int.natCast_emod]; rfl
    have m1 : p % ln < ln := Nat.mod_lt _ (by omega)
    have m2 : (p * 7 + 3) % ln < ln := Nat.mod_lt _ (by omega)
    obtain ⟨g0, g1, g2⟩ := hc _ m1
    obtain ⟨i0, i1, i2⟩ := hc _ m2
    have e3 : ((p : Int) / (ln : Int)) = ((p / ln : Nat) : Int) := (Int.natCast_ediv p ln).symm
    have m3 : p / ln ≤ p := Nat.div_le_self _ _
    clear hc ha
    generalize c (p % ln) = u at g0 g1 g2
    generalize c ((p * 7 + 3) % ln) = v at i0 i1 i2
    generalize p % ln = j1 at e1 m1 g0
    generalize (p * 7 + 3) % ln = j2 at e2 m2 i0
    generalize p / ln = q at e3 m3
    go_enter Try.func16, Try.ntmps16
    go_wp2_with fail
    go_quiet (fail)
    go_wp2
    go_ret
    have hx := xor_nonneg (u * 131 + v * 1117 + p * 29 + q * 53) ((u * 131 + v * 1117 + p * 29 + q * 53) / 64) (by omega) (by omega) (by omega) (by omega)
    generalize bits BinOp.xor IntKind.i64 (u * 131 + v * 1117 + p * 29 + q * 53) ((u * 131 + v * 1117 + p * 29 + q * 53) / 64) = X at hx ⊢
    have h0 : X.tmod n = X % n := Int.tmod_eq_emod_of_nonneg hx
    have h1 := Int.emod_nonneg X (show (n : Int) ≠ 0 by omega)
    have h2 := Int.emod_lt_of_pos X (show (0 : Int) < (n : Int) by omega)
    exact ⟨(X % n).toNat, ret_int (h0.trans (Int.toNat_of_nonneg h1).symm), by omega, hst.ext (Ext.drewN (Ext.refl _) _), hon.trans (.of_ext (Ext.drewN (Ext.refl _) _))⟩
end Go.Proofs.Ytkngihmfknmnaaa
