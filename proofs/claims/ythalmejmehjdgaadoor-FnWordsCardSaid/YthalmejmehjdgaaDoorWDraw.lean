/- What spec.DrawWords draws: some text of at most 48 bytes. -/
import Derived.Test.YthalmejmehjdgaaDoorRdr3
import Derived.Test.YthalmejmehjdgaaDoorCodeRow
namespace Go.Proofs.YthalmejmehjdgaaDoor
open Go.RowKit

def drawnW : List ByteArray := [⟨#[77, 65, 84, 67, 72]⟩, ⟨#[120]⟩, ⟨#[61]⟩, ⟨#[40]⟩, ⟨#[41]⟩, ⟨#[53]⟩, ⟨#[39, 97, 32, 98, 39]⟩, ⟨#[32]⟩, ⟨#[10]⟩, ⟨#[36]⟩, ⟨#[60]⟩, ⟨#[45]⟩, ⟨#[62]⟩, ⟨#[91]⟩, ⟨#[93]⟩, ⟨#[39]⟩]
def drawnX : List ByteArray := [⟨#[35]⟩, ⟨#[1]⟩, ⟨#[59]⟩]
theorem drawnW_size : ∀ s ∈ drawnW, s.size ≤ 5 := by
  intro s hs
  simp only [drawnW, List.mem_cons, List.not_mem_nil, or_false] at hs
  rcases hs with rfl | rfl | rfl | rfl | rfl | rfl | rfl | rfl | rfl | rfl | rfl | rfl | rfl | rfl | rfl | rfl <;> decide
theorem drawnX_size : ∀ s ∈ drawnX, s.size ≤ 1 := by
  intro s hs
  simp only [drawnX, List.mem_cons, List.not_mem_nil, or_false] at hs
  rcases hs with rfl | rfl | rfl <;> decide

set_option maxRecDepth 100000 in
set_option maxHeartbeats 4000000 in
theorem drawWords_any (a : Option Addr) (n cap : Nat) (w : World) (h : CodeIn w a n cap) :
    Calls Tryd.prog 4 #[.slice a n cap] w fun e w' => ∃ s : ByteArray, e = .returned (.string s) ∧ s.size ≤ 48 ∧ Ext w w' := by
  go_enter Tryd.func4, Tryd.ntmps4
  go_wp2_with fail
  refine (l1Open_any a n cap w h).mono ?_
  rintro e w1 ⟨rfl, hR, hE, hsz⟩
  clear hsz
  go_wp2_with fail
  refine (pick_any w.heap.size 0 9 w1 hR (by omega) (by omega) (by omega)).mono ?_
  rintro e w2 ⟨m, rfl, hm, hR2, hO2⟩
  go_wp2
  go_loopw [4, 5] (fun o i wr => ∃ (s : ByteArray) (q p : Nat), o = .string s ∧ i = .int .i64 q ∧ q ≤ 8 ∧ s.size + 6 * q ≤ 48 ∧ RdAt wr w.heap.size p ∧ p + 3 * q ≤ 100 ∧ Only w.heap.size (w.heap.size + 1) w1 wr) (fun _ i _ => (intOf i).toNat)
  case atStart => exact ⟨_, m, 1, rfl, rfl, by omega, by show 0 + _ ≤ _; omega, hR2, by omega, hO2⟩
  case round =>
    obtain ⟨s, q, p, rfl, rfl, hq, hs, hRd, hp, hO⟩ := hrel
    by_cases hq0 : 0 < q
    · have hof := ofList_any w.heap.size p 16 drawnW #[Value.string ⟨#[77, 65, 84, 67, 72]⟩, Value.string ⟨#[120]⟩, Value.string ⟨#[61]⟩, Value.string ⟨#[40]⟩, Value.string ⟨#[41]⟩, Value.string ⟨#[53]⟩, Value.string ⟨#[39, 97, 32, 98, 39]⟩, Value.string ⟨#[32]⟩, Value.string ⟨#[10]⟩, Value.string ⟨#[36]⟩, Value.string ⟨#[60]⟩, Value.string ⟨#[45]⟩, Value.string ⟨#[62]⟩, Value.string ⟨#[91]⟩, Value.string ⟨#[93]⟩, Value.string ⟨#[39]⟩] 9 wr hRd (by omega) rfl rfl (by omega) (by omega)
      go_wp2_with fail
      refine hof.mono ?_
      rintro e w3 ⟨x, hx, rfl, hR3, hO3⟩
      have hxs := drawnW_size x hx
      clear hof hx
      go_wp2_with fail
      refine (pick_any w.heap.size (p + 1) 12 w3 hR3 (by omega) (by omega) (by omega)).mono ?_
      rintro e w4 ⟨c, rfl, hc, hR4, hO4⟩
      by_cases hc0 : c = 0
      · subst hc0
        have hof := ofList_any w.heap.size (p + 1 + 1) 3 drawnX #[Value.string ⟨#[35]⟩, Value.string ⟨#[1]⟩, Value.string ⟨#[59]⟩] 9 w4 hR4 (by omega) rfl rfl (by omega) (by omega)
        go_wp2_with fail
        refine hof.mono ?_
        rintro e w5 ⟨y, hy, rfl, hR5, hO5⟩
        have hys := drawnX_size y hy
        clear hof hy
        go_wp2
        go_roundw
        case rel => exact ⟨_, q - 1, p + 1 + 1 + 1, rfl, by go_num, by omega, by rw [ByteArray.size_append, ByteArray.size_append]; omega, hR5, by omega, ((hO.trans hO3).trans hO4).trans hO5⟩
        case measure => simp [intOf]; omega
      · have hcb : ((c : Int) == 0) = false := by simpa using hc0
        go_wp2
        go_roundw
        case rel => exact ⟨_, q - 1, p + 1 + 1, rfl, by go_num, by omega, by rw [ByteArray.size_append]; omega, hR4, by omega, (hO.trans hO3).trans hO4⟩
        case measure => simp [intOf]; omega
    · go_wp2
      go_ret
      exact ⟨s, rfl, by omega, Only.toExt hE hO (Nat.le_refl _)⟩
end Go.Proofs.YthalmejmehjdgaaDoor
