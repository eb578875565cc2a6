/- What impl.FrameGet answers: the reader of frames, step by step. -/
import Derived.Test.YtjladmfcnajpnaaFrSpec
namespace Go.Proofs.Ytjladmfcnajpnaa
open Go.RowKit Go.Deep

/-- The reader lies in block b: how long the body is, how much of it came, whether the frame is whole. -/
structure FrAt (W : World) (b : Nat) (x0 x1 : Int) (x2 : Bool) : Prop where
  lt : b < W.heap.size
  h0 : W.cell? ⟨b, 0, none⟩ = some (.int .i64 x0)
  h1 : W.cell? ⟨b, 1, none⟩ = some (.int .i64 x1)
  h2 : W.cell? ⟨b, 2, none⟩ = some (.bool x2)
  fz : ∀ o, W.frozen? ⟨b, o, none⟩ = false
theorem FrAt.new (w : World) (T : TypeId) : FrAt (w.alloc (.cells #[.int .i64 0, .int .i64 0, .bool false] T)) w.heap.size 0 0 false :=
  ⟨by simp, by simp, by simp, by simp, fun o => by rw [frozen?_alloc_cells]; simp [World.frozen?]⟩
theorem FrAt.set0 {W : World} {b : Nat} {x0 x1 : Int} {x2 : Bool} (h : FrAt W b x0 x1 x2) (u : Int) : FrAt (W.setCell ⟨b, 0, none⟩ (.int .i64 u)) b u x1 x2 := by
  obtain ⟨lt, h0, h1, h2, hf⟩ := h
  exact ⟨by simpa using lt, by simp [go_sem, h0], by simp [go_sem, h1], by simp [go_sem, h2], fun o => by simp [hf]⟩
theorem FrAt.set1 {W : World} {b : Nat} {x0 x1 : Int} {x2 : Bool} (h : FrAt W b x0 x1 x2) (u : Int) : FrAt (W.setCell ⟨b, 1, none⟩ (.int .i64 u)) b x0 u x2 := by
  obtain ⟨lt, h0, h1, h2, hf⟩ := h
  exact ⟨by simpa using lt, by simp [go_sem, h0], by simp [go_sem, h1], by simp [go_sem, h2], fun o => by simp [hf]⟩
theorem FrAt.set2 {W : World} {b : Nat} {x0 x1 : Int} {x2 : Bool} (h : FrAt W b x0 x1 x2) (u : Bool) : FrAt (W.setCell ⟨b, 2, none⟩ (.bool u)) b x0 x1 u := by
  obtain ⟨lt, h0, h1, h2, hf⟩ := h
  exact ⟨by simpa using lt, by simp [go_sem, h0], by simp [go_sem, h1], by simp [go_sem, h2], fun o => by simp [hf]⟩

theorem FrAt.drew {W : World} {b : Nat} {x0 x1 : Int} {x2 : Bool} (h : FrAt W b x0 x1 x2) : FrAt W.drew b x0 x1 x2 := ⟨h.lt, h.h0, h.h1, h.h2, h.fz⟩

def bodyF (b : Nat) : Value := .func (.func 11) #[.pointer (some ⟨b, 0, none⟩)] #[]
def colonF (b : Nat) : Value := .func (.func 9) #[.pointer (some ⟨b, 0, none⟩)] #[]
def moreF (b : Nat) : Value := .func (.func 10) #[.pointer (some ⟨b, 0, none⟩)] #[]
def firstF (b : Nat) : Value := .func (.func 7) #[.pointer (some ⟨b, 0, none⟩)] #[]

def colonR (b : Nat) (c : Int) : Value := if c = 58 then bodyF b else .nilFunc
def moreR (b : Nat) (n : Int) : Value := if 6000 < n then .nilFunc else moreF b
theorem hmf : ∀ (fn : Fn) (first cap : Array Value) (w : World), (Instr.makeFunc fn first cap).run Try.prog w = .ok (.func fn first cap) w := fun _ _ _ _ => rfl

set_option maxHeartbeats 400000 in
theorem colon_any (b : Nat) (c : Int) (w : World) : Calls Try.prog 9 #[.pointer (some ⟨b, 0, none⟩), .int .u8 c] w fun e w' => e = .returned (colonR b c) ∧ w' = w := by
  have hmf := hmf
  by_cases h : c = 58
  · have hfin : Hid (colonR b c = bodyF b) := if_pos h
    have hb : (c != 58) = false := by simp [h]
    clear h
    go_enter Try.func9, Try.ntmps9
    go_wp2
    go_ret
    exact ⟨by rw [hfin.out]; rfl, rfl⟩
  · have hfin : Hid (colonR b c = .nilFunc) := if_neg h
    have hb : (c != 58) = true := by simp [h]
    clear h
    go_enter Try.func9, Try.ntmps9
    go_wp2
    go_ret
    exact ⟨by rw [hfin.out]; rfl, rfl⟩

set_option maxHeartbeats 400000 in
theorem figure_no (b : Nat) (c : Int) (hc : figB c = false) (w : World) : Calls Try.prog 7 #[.pointer (some ⟨b, 0, none⟩), .int .u8 c] w fun e w' => e = .returned .nilFunc ∧ w' = w := by
  go_enter Try.func7, Try.ntmps7
  go_wp2_with (go_at_call 8; refine (isFigure_any _ _).mono ?_; rintro e w' ⟨rfl, rfl⟩; rw [hc])
  go_ret
  exact ⟨rfl, rfl⟩
set_option maxHeartbeats 400000 in
theorem figure_0 (b : Nat) (c : Int) (h48 : c = 48) (w : World) {x0 : Int} (h0 : w.cell? ⟨b, 0, none⟩ = some (.int .i64 x0)) (hz : w.frozen? ⟨b, 0, none⟩ = false) : Calls Try.prog 7 #[.pointer (some ⟨b, 0, none⟩), .int .u8 c] w fun e w' => e = .returned (colonF b) ∧ w' = w.setCell ⟨b, 0, none⟩ (.int .i64 0) := by
  have hmf := hmf
  subst h48
  have hc : figB 48 = true := rfl
  go_enter Try.func7, Try.ntmps7
  go_wp2_with (go_at_call 8; refine (isFigure_any _ _).mono ?_; rintro e w' ⟨rfl, rfl⟩; rw [hc])
  go_ret
  exact ⟨rfl, rfl⟩
set_option maxHeartbeats 400000 in
theorem figure_more (b : Nat) (c : Int) (hc : figB c = true) (h48 : c ≠ 48) (w : World) {x0 : Int} (h0 : w.cell? ⟨b, 0, none⟩ = some (.int .i64 x0)) (hz : w.frozen? ⟨b, 0, none⟩ = false) : Calls Try.prog 7 #[.pointer (some ⟨b, 0, none⟩), .int .u8 c] w fun e w' => e = .returned (moreF b) ∧ w' = w.setCell ⟨b, 0, none⟩ (.int .i64 (c - 48)) := by
  have hmf := hmf
  obtain ⟨g1, g2⟩ := (figB_iff c).1 hc
  have hne : (c - 48 == 0) = false := by simp; omega
  go_enter Try.func7, Try.ntmps7
  go_wp2_with (go_at_call 8; refine (isFigure_any _ _).mono ?_; rintro e w' ⟨rfl, rfl⟩; rw [hc])
  go_ret
  exact ⟨rfl, rfl⟩

set_option maxHeartbeats 400000 in
theorem more_no (b : Nat) (c : Int) (hc : figB c = false) (w : World) : Calls Try.prog 10 #[.pointer (some ⟨b, 0, none⟩), .int .u8 c] w fun e w' => e = .returned (colonR b c) ∧ w' = w := by
  have hcol := colon_any b c
  go_enter Try.func10, Try.ntmps10
  go_wp2_with (first | (go_at_call 8; refine (isFigure_any _ _).mono ?_; rintro e w' ⟨rfl, rfl⟩; rw [hc]) | (go_at_call 9; refine (hcol _).mono ?_; rintro e w' ⟨rfl, rfl⟩))
  go_ret
  exact ⟨rfl, rfl⟩
set_option maxHeartbeats 400000 in
theorem more_yes (b : Nat) (c : Int) (hc : figB c = true) (w : World) (x0 : Int) (hx : 0 ≤ x0 ∧ x0 ≤ 6000) (h0 : w.cell? ⟨b, 0, none⟩ = some (.int .i64 x0)) (hz : w.frozen? ⟨b, 0, none⟩ = false) : Calls Try.prog 10 #[.pointer (some ⟨b, 0, none⟩), .int .u8 c] w fun e w' => e = .returned (moreR b (x0 * 10 + (c - 48))) ∧ w' = w.setCell ⟨b, 0, none⟩ (.int .i64 (x0 * 10 + (c - 48))) := by
  have hmf := hmf
  obtain ⟨g1, g2⟩ := (figB_iff c).1 hc
  by_cases hb : 6000 < x0 * 10 + (c - 48)
  · have hfin : Hid ((moreR b (x0 * 10 + (c - 48))) = .nilFunc) := if_pos hb
    go_enter Try.func10, Try.ntmps10
    go_wp2_with (go_at_call 8; refine (isFigure_any _ _).mono ?_; rintro e w' ⟨rfl, rfl⟩; rw [hc])
    go_ret
    exact ⟨by rw [hfin.out]; rfl, rfl⟩
  · have hfin : Hid ((moreR b (x0 * 10 + (c - 48))) = moreF b) := if_neg hb
    go_enter Try.func10, Try.ntmps10
    go_wp2_with (go_at_call 8; refine (isFigure_any _ _).mono ?_; rintro e w' ⟨rfl, rfl⟩; rw [hc])
    go_ret
    exact ⟨by rw [hfin.out]; rfl, rfl⟩

set_option maxHeartbeats 400000 in
theorem body_less (b : Nat) (c : Int) (w : World) (x0 x1 : Int) (hx : 0 ≤ x1 ∧ x1 < x0 ∧ x0 ≤ 6000) (h0 : w.cell? ⟨b, 0, none⟩ = some (.int .i64 x0)) (h1 : w.cell? ⟨b, 1, none⟩ = some (.int .i64 x1)) (hz : w.frozen? ⟨b, 1, none⟩ = false) : Calls Try.prog 11 #[.pointer (some ⟨b, 0, none⟩), .int .u8 c] w fun e w' => e = .returned (bodyF b) ∧ w' = w.drew.setCell ⟨b, 1, none⟩ (.int .i64 (x1 + 1)) := by
  have hmf := hmf
  obtain ⟨g1, g2, g3⟩ := hx
  go_enter Try.func11, Try.ntmps11
  go_wp2
  go_region
  all_goals (try go_wp2)
  all_goals go_ret
  all_goals exact ⟨rfl, rfl⟩
set_option maxHeartbeats 400000 in
theorem body_end (b : Nat) (c : Int) (w : World) (x0 : Int) (x2 : Bool) (h0 : w.cell? ⟨b, 0, none⟩ = some (.int .i64 x0)) (h1 : w.cell? ⟨b, 1, none⟩ = some (.int .i64 x0)) (h2 : w.cell? ⟨b, 2, none⟩ = some (.bool x2)) (hz : w.frozen? ⟨b, 2, none⟩ = false) : Calls Try.prog 11 #[.pointer (some ⟨b, 0, none⟩), .int .u8 c] w fun e w' => e = .returned .nilFunc ∧ w' = w.drew.setCell ⟨b, 2, none⟩ (.bool (c == 10)) := by
  go_enter Try.func11, Try.ntmps11
  go_wp2
  go_region
  all_goals (try go_wp2)
  all_goals go_ret
  all_goals exact ⟨rfl, rfl⟩
end Go.Proofs.Ytjladmfcnajpnaa
