/- The walk of the law FnName: it answers true at every code. -/
import Derived.Test.YtbdcoiepdlhlkaaDoorNThy
import Derived.Test.YtbdcoiepdlhlkaaDoorSpecName
import Derived.Test.YtbdcoiepdlhlkaaDoorRdr3
import Derived.Test.YtbdcoiepdlhlkaaDoorCodeRow
namespace Go.Proofs.YtbdcoiepdlhlkaaDoor
open Go.RowKit

def drawn : List ByteArray := [⟨#[97]⟩, ⟨#[80, 57]⟩, ⟨#[]⟩, ⟨#[57, 97]⟩, ⟨#[77, 65, 84, 67, 72]⟩, ⟨#[110, 117, 108, 108]⟩, ⟨#[99, 111, 117, 110, 116]⟩, ⟨#[116, 111, 111, 108, 111, 110, 103, 49, 50]⟩, ⟨#[105, 110]⟩, ⟨#[95, 120]⟩]

set_option maxRecDepth 100000 in
set_option maxHeartbeats 1000000 in
theorem drawNameOk_any (a : Option Addr) (n cap : Nat) (w : World) (h : CodeIn w a n cap) :
    Calls Tryd.prog 4 #[.slice a n cap] w fun e w' => ∃ s : ByteArray, e = .returned (.string s) ∧ s.size ≤ 9 ∧ Ext w w' := by
  go_enter Tryd.func4, Tryd.ntmps4
  go_wp2_with fail
  refine (l1Open_any a n cap w h).mono ?_
  rintro e w1 ⟨rfl, hR, hE, hsz⟩
  clear hsz
  have hof := ofList_any w.heap.size 0 10 drawn #[Value.string ⟨#[97]⟩, Value.string ⟨#[80, 57]⟩, Value.string ⟨#[]⟩, Value.string ⟨#[57, 97]⟩, Value.string ⟨#[77, 65, 84, 67, 72]⟩, Value.string ⟨#[110, 117, 108, 108]⟩, Value.string ⟨#[99, 111, 117, 110, 116]⟩, Value.string ⟨#[116, 111, 111, 108, 111, 110, 103, 49, 50]⟩, Value.string ⟨#[105, 110]⟩, Value.string ⟨#[95, 120]⟩] 9 w1 hR (by omega) rfl rfl (by omega) (by omega)
  go_wp2_with fail
  refine hof.mono ?_
  rintro e w2 ⟨s, hs, rfl, _, hO⟩
  go_wp2
  go_ret
  refine ⟨s, rfl, ?_, Only.toExt hE hO (Nat.le_refl _)⟩
  simp only [drawn, List.mem_cons, List.not_mem_nil, or_false] at hs
  rcases hs with rfl | rfl | rfl | rfl | rfl | rfl | rfl | rfl | rfl | rfl <;> decide
end Go.Proofs.YtbdcoiepdlhlkaaDoor
namespace Go.Proofs.YtbdcoiepdlhlkaaDoor.fnName
open Go.RowKit

set_option maxRecDepth 100000 in
set_option maxHeartbeats 2000000 in
theorem walk (a : Option Addr) (n cap : Nat) (w : World) (h : CodeIn w a n cap) :
    Calls Tryd.prog 3 #[.slice a n cap] w fun e w' => e = .returned (.bool true) ∧ Ext w w' := by
  have hlen := h.len
  have g0 : decide ((n : Int) > 1048576) = false := decide_eq_false (by omega)
  go_enter Tryd.func3, Tryd.ntmps3
  go_wp2_with fail
  refine (drawNameOk_any a n cap w h).mono ?_
  rintro e w1 ⟨s, rfl, hs, hE1⟩
  have hmax : s.size ≤ maxLen := by unfold maxLen; omega
  have hN := fun W => implNameOk_any s W hmax
  have hM := fun W => specNameOk_any s W hmax
  cases hb : nameB s
  · rw [hb] at hN hM
    go_wp2_with (first | (go_at_call 6; refine (hM _).mono ?_; rintro e w' ⟨rfl, hE2⟩; replace hE1 := hE1.trans hE2; clear hE2) | (go_at_call 5; refine (hN _).mono ?_; rintro e w' ⟨rfl, rfl⟩))
    go_ret
    exact ⟨rfl, hE1⟩
  · rw [hb] at hN hM
    have hz1 : (⟨#[32]⟩ ++ s ++ ⟨#[10]⟩ : ByteArray).size ≤ 1048576 := by rw [ByteArray.size_append, ByteArray.size_append]; show 1 + s.size + 1 ≤ _; omega
    have hz2 : (s ++ ⟨#[32]⟩ : ByteArray).size ≤ maxLen := by rw [ByteArray.size_append]; show s.size + 1 ≤ _; unfold maxLen; omega
    have hz3 : (⟨#[49]⟩ ++ s : ByteArray).size ≤ maxLen := by rw [ByteArray.size_append]; show 1 + s.size ≤ _; unfold maxLen; omega
    have hW := fun W => implWords_any (⟨#[32]⟩ ++ s ++ ⟨#[10]⟩) W hz1
    rw [(words_name hb).1, (words_name hb).2] at hW
    have hN2 := fun W => implNameOk_any (s ++ ⟨#[32]⟩) W hz2
    rw [blank_behind] at hN2
    have hN3 := fun W => implNameOk_any (⟨#[49]⟩ ++ s) W hz3
    rw [figure_ahead] at hN3
    go_wp2_with (first | (go_at_call 6; refine (hM _).mono ?_; rintro e w' ⟨rfl, hE2⟩; replace hE1 := hE1.trans hE2; clear hE2) | (go_at_call 5; refine (hN _).mono ?_; rintro e w' ⟨rfl, rfl⟩; clear hN))
    refine (hW _).mono ?_
    rintro e w3 ⟨v, rfl, hv, hE3⟩
    rcases hv.2 with ⟨_, h0⟩ | ⟨g, c, cur, rfl, _, hg, _, _, _, _⟩
    · simp at h0
    have hc := World.ownsRow.cells hv (g := g) rfl 0 (encS s.data.toList) rfl
    rw [Go.WideShapes.add_plain, encS, bs_data] at hc
    go_wp2_with (first | (go_at_call 5; refine (hN2 _).mono ?_; rintro e w' ⟨rfl, rfl⟩; clear hN2) | (go_at_call 5; refine (hN3 _).mono ?_; rintro e w' ⟨rfl, rfl⟩; clear hN3))
    go_ret
    exact ⟨rfl, hE1.trans hE3⟩
end Go.Proofs.YtbdcoiepdlhlkaaDoor.fnName
