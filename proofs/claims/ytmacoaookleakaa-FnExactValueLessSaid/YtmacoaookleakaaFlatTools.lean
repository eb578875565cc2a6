/- Boxes that stay; what laws.heldValue and laws.markValue answer of a value without a list. -/
import Derived.Test.YtmacoaookleakaaBoxes
import Derived.Test.YtmacoaookleakaaValMark
import Derived.Test.YtmacoaookleakaaValTo2
import Derived.Test.YtmacoaookleakaaValEq
import Derived.Test.YtmacoaookleakaaLessSpec
namespace Go.Proofs.Ytmacoaookleakaa
open Go.RowKit Go.Deep

theorem BoxAt.only {W W' : World} {p lo hi : Nat} {c0 c1 c2 c3 : Value} (h : BoxAt W p c0 c1 c2 c3) (e : Only lo hi W W') (ho : p < lo ∨ hi ≤ p) : BoxAt W' p c0 c1 c2 c3 := h.block e.size (e.block p h.lt ho)
theorem Ext.only {a b c : World} {lo hi : Nat} (h : Ext a b) (e : Only lo hi b c) (hlo : a.heap.size ≤ lo) : Ext a c :=
  ⟨e.os.trans (Below.os h), e.tape.trans (Below.tape h), e.output.trans (Below.output h), Nat.le_trans (Below.size h) e.size, fun i hi => by rw [e.block i (Nat.lt_of_lt_of_le hi (Below.size h)) (.inl (by omega))]; exact Below.block h i hi⟩
theorem Skel.only {w w' : World} {lo hi lo' hi' : Nat} {l : List V} {v : Value} (h : Skel w lo hi l v) (e : Only lo' hi' w w') (ho : hi ≤ lo' ∨ hi' ≤ lo) : Skel w' lo hi l v :=
  h.carry e.size (fun b h1 h2 h3 => e.block b h3 (by omega))
theorem Skel.nil (w : World) : Skel w 0 0 [] (.slice none 0 0) :=
  .mk 0 0 [] none 0 0 (fun _ => undef) (fun _ => 0) (by simp) (fun h => by simp at h) (fun i hi => by simp at hi) (fun h => by simp at h) (fun j hj => by simp at hj) (fun h => by simp at h) (fun i hi => by simp at hi) (fun i hi => by simp at hi)
theorem Only.ext {a b : World} (h : Only 0 0 a b) : Ext a b := ⟨h.os, h.tape, h.output, h.size, fun i hi => h.block i hi (.inr (Nat.zero_le _))⟩

theorem mark_flat (k n : Int) (w : World) : Calls Try.prog 9 #[flat k n, .int .i64 1] w fun e w' => e = .returned (.int .i64 1) ∧ Ext w w' := by
  have hc : cntV (flatV k n) = 0 := by rw [cntV_eq]; rfl
  refine (mark_any (flatV k n) k n ⟨#[]⟩ (.slice none 0 0) 0 0 w 1 (Skel.nil w) (Nat.zero_le _) (by omega) (by rw [hc]; omega)).mono ?_
  rintro e w' ⟨r, rfl, h1, h2, hO⟩
  rw [hc] at h2
  have : r = 1 := by omega
  subst this
  exact ⟨rfl, hO.ext⟩

set_option maxRecDepth 100000 in
set_option maxHeartbeats 400000 in
theorem heldS_nil (w : World) : Calls Try.prog 19 #[.slice none 0 0, .int .i64 1] w fun e w' => e = .returned (.int .i64 1) ∧ w' = w := by
  go_enter Try.func19, Try.ntmps19
  go_wp2
  go_loop [1, 5] (fun k i => k = .int .i64 1 ∧ i = .int .i64 0) (fun _ _ => 0)
  case atStart => exact ⟨rfl, rfl⟩
  case round =>
    obtain ⟨rfl, rfl⟩ := hrel
    go_wp2
    go_ret
    exact ⟨rfl, rfl⟩

set_option maxRecDepth 100000 in
set_option maxHeartbeats 400000 in
theorem held_flat (k n : Int) (w : World) : Calls Try.prog 10 #[flat k n, .int .i64 1] w fun e w' => e = .returned (.int .i64 1) ∧ Ext w w' := by
  unfold flat
  go_enter Try.func10, Try.ntmps10
  go_wp2_with (go_at_call 19; refine (heldS_nil _).mono ?_; rintro e w' ⟨rfl, rfl⟩)
  go_ret
  exact ⟨rfl, (Ext.refl _).alloc _⟩

theorem wf_b01 (b : Bool) : (Lit.int .i64 (b01 b)).wf = true := by cases b <;> rfl
theorem wf_lessK (x y : V) : (Lit.int .i64 (lessK x y)).wf = true := by unfold lessK; split <;> rfl
theorem wf_lessN (x y : V) : (Lit.int .i64 (lessN x y)).wf = true := by unfold lessN; split; exact wf_b01 _; rfl
end Go.Proofs.Ytmacoaookleakaa
