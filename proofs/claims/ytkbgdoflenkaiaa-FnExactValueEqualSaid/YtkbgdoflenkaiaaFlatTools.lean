/- Boxes that stay; what laws.heldValue and laws.markValue answer of a value without a list. -/
import Derived.Test.YtkbgdoflenkaiaaValMark
import Derived.Test.YtkbgdoflenkaiaaValTo2
import Derived.Test.YtkbgdoflenkaiaaValEq
import Derived.Test.YtkbgdoflenkaiaaLessSpec
namespace Go.Proofs.Ytkbgdoflenkaiaa
open Go.RowKit Go.Deep

structure BoxAt (W : World) (p : Nat) (c0 c1 c2 c3 : Value) : Prop where
  lt : p < W.heap.size
  h0 : W.cell? ⟨p, 0, none⟩ = some c0
  h1 : W.cell? ⟨p, 1, none⟩ = some c1
  h2 : W.cell? ⟨p, 2, none⟩ = some c2
  h3 : W.cell? ⟨p, 3, none⟩ = some c3
theorem BoxAt.new (w : World) (c0 c1 c2 c3 : Value) (T : TypeId) : BoxAt (w.alloc (.cells #[c0, c1, c2, c3] T)) w.heap.size c0 c1 c2 c3 := by
  obtain ⟨a, b, c, d, e⟩ := box4 (Ext.refl (w.alloc (.cells #[c0, c1, c2, c3] T)))
  exact ⟨e, a, b, c, d⟩
theorem BoxAt.block {W W' : World} {p : Nat} {c0 c1 c2 c3 : Value} (h : BoxAt W p c0 c1 c2 c3) (hz : W.heap.size ≤ W'.heap.size) (e : W'.heap[p]? = W.heap[p]?) : BoxAt W' p c0 c1 c2 c3 := by
  have hc : ∀ o, W'.cell? ⟨p, o, none⟩ = W.cell? ⟨p, o, none⟩ := fun o => World.cell?_of_block e
  exact ⟨by have := h.lt; omega, by rw [hc]; exact h.h0, by rw [hc]; exact h.h1, by rw [hc]; exact h.h2, by rw [hc]; exact h.h3⟩
theorem BoxAt.ext {W W' : World} {p : Nat} {c0 c1 c2 c3 : Value} (h : BoxAt W p c0 c1 c2 c3) (e : Ext W W') : BoxAt W' p c0 c1 c2 c3 := h.block e.le (Below.block e p h.lt)
theorem BoxAt.only {W W' : World} {p lo hi : Nat} {c0 c1 c2 c3 : Value} (h : BoxAt W p c0 c1 c2 c3) (e : Only lo hi W W') (ho : p < lo ∨ hi ≤ p) : BoxAt W' p c0 c1 c2 c3 := h.block e.size (e.block p h.lt ho)
theorem Ext.only {a b c : World} {lo hi : Nat} (h : Ext a b) (e : Only lo hi b c) (hlo : a.heap.size ≤ lo) : Ext a c :=
  ⟨e.os.trans (Below.os h), e.tape.trans (Below.tape h), e.output.trans (Below.output h), Nat.le_trans (Below.size h) e.size, fun i hi => by rw [e.block i (Nat.lt_of_lt_of_le hi (Below.size h)) (.inl (by omega))]; exact Below.block h i hi⟩
theorem Skel.only {w w' : World} {lo hi lo' hi' : Nat} {l : List V} {v : Value} (h : Skel w lo hi l v) (e : Only lo' hi' w w') (ho : hi ≤ lo' ∨ hi' ≤ lo) : Skel w' lo hi l v :=
  h.carry e.size (fun b h1 h2 h3 => e.block b h3 (by omega))
theorem Skel.nil (w : World) : Skel w 0 0 [] (.slice none 0 0) :=
  .mk 0 0 [] none 0 0 (fun _ => undef) (fun _ => 0) (by simp) (fun h => by simp at h) (fun i hi => by simp at hi) (fun h => by simp at h) (fun j hj => by simp at hj) (fun h => by simp at h) (fun i hi => by simp at hi) (fun i hi => by simp at hi)
theorem Only.ext {a b : World} (h : Only 0 0 a b) : Ext a b := ⟨h.os, h.tape, h.output, h.size, fun i hi => h.block i hi (.inr (Nat.zero_le _))⟩

/-- Block p is new since BW, has four empty cells, none of them frozen. -/
structure NewBox (BW W : World) (p : Nat) : Prop where
  lo : BW.heap.size ≤ p
  box : BoxAt W p (.int .i64 0) (.int .i64 0) (.string ⟨#[]⟩) (.slice none 0 0)
  frozen : ∀ o, W.frozen? ⟨p, o, none⟩ = false
theorem NewBox.ext {BW W W' : World} {p : Nat} (h : NewBox BW W p) (e : Ext W W') : NewBox BW W' p :=
  ⟨h.lo, h.box.ext e, fun o => by rw [Below.frozen e (p := ⟨p, o, none⟩) h.box.lt]; exact h.frozen o⟩
theorem NewBox.mk' {BW W W' : World} {T : TypeId} (h : Ext BW W) (e : Ext (W.alloc (.cells #[.int .i64 0, .int .i64 0, .string ⟨#[]⟩, .slice none 0 0] T)) W') : NewBox BW W' W.heap.size := by
  have h1 : NewBox BW (W.alloc (.cells #[.int .i64 0, .int .i64 0, .string ⟨#[]⟩, .slice none 0 0] T)) W.heap.size := ⟨h.le, BoxAt.new _ _ _ _ _ _, fun o => by rw [frozen?_alloc_cells]; simp [World.frozen?]⟩
  exact h1.ext e
theorem BoxAt.store {BW W : World} {p : Nat} (h : NewBox BW W p) (hX : Ext BW W) (c0 c1 c2 c3 : Value) :
    Ext BW ((((W.setCell ⟨p, 0, none⟩ c0).setCell ⟨p, 1, none⟩ c1).setCell ⟨p, 2, none⟩ c2).setCell ⟨p, 3, none⟩ c3) ∧ BoxAt ((((W.setCell ⟨p, 0, none⟩ c0).setCell ⟨p, 1, none⟩ c1).setCell ⟨p, 2, none⟩ c2).setCell ⟨p, 3, none⟩ c3) p c0 c1 c2 c3 := by
  have hlo := h.lo
  obtain ⟨_, ⟨lt, z0, z1, z2, z3⟩, _⟩ := h
  refine ⟨(((hX.setCell hlo _).setCell hlo _).setCell hlo _).setCell hlo _, by simpa using lt, ?_, ?_, ?_, ?_⟩
  all_goals simp [go_sem, z0, z1, z2, z3]

theorem mark_flat (k n : Int) (w : World) : Calls Try.prog 16 #[flat k n, .int .i64 1] w fun e w' => e = .returned (.int .i64 1) ∧ Ext w w' := by
  have hc : cntV (flatV k n) = 0 := by rw [cntV_eq]; rfl
  refine (mark_any (flatV k n) k n ⟨#[]⟩ (.slice none 0 0) 0 0 w 1 (Skel.nil w) (Nat.zero_le _) (by omega) (by rw [hc]; omega)).mono ?_
  rintro e w' ⟨r, rfl, h1, h2, hO⟩
  rw [hc] at h2
  have : r = 1 := by omega
  subst this
  exact ⟨rfl, hO.ext⟩

set_option maxRecDepth 100000 in
set_option maxHeartbeats 400000 in
theorem heldS_nil (w : World) : Calls Try.prog 31 #[.slice none 0 0, .int .i64 1] w fun e w' => e = .returned (.int .i64 1) ∧ w' = w := by
  go_enter Try.func31, Try.ntmps31
  go_wp2
  go_loop [1, 5] (fun k i => k = .int .i64 1 ∧ i = .int .i64 0) (fun _ _ => 0)
  case atStart => exact ⟨rfl, rfl⟩
  case round =>
    obtain ⟨rfl, rfl⟩ := hrel
    go_wp2
    go_ret
    exact ⟨rfl, rfl⟩

set_option maxRecDepth 100000 in
set_option maxHeartbeats 400000 in
theorem held_flat (k n : Int) (w : World) : Calls Try.prog 17 #[flat k n, .int .i64 1] w fun e w' => e = .returned (.int .i64 1) ∧ Ext w w' := by
  unfold flat
  go_enter Try.func17, Try.ntmps17
  go_wp2_with (go_at_call 31; refine (heldS_nil _).mono ?_; rintro e w' ⟨rfl, rfl⟩)
  go_ret
  exact ⟨rfl, (Ext.refl _).alloc _⟩

theorem wf_b01 (b : Bool) : (Lit.int .i64 (b01 b)).wf = true := by cases b <;> rfl
theorem wf_lessK (x y : V) : (Lit.int .i64 (lessK x y)).wf = true := by unfold lessK; split <;> rfl
theorem wf_lessN (x y : V) : (Lit.int .i64 (lessN x y)).wf = true := by unfold lessN; split; exact wf_b01 _; rfl
end Go.Proofs.Ytkbgdoflenkaiaa
