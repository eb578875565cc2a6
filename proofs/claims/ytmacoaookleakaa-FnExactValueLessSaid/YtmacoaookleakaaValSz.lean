/- What laws.szValue and laws.szValueS answer: a number below nought, or no list is too long. -/
import Derived.Test.YtmacoaookleakaaValMem
namespace Go.Proofs.Ytmacoaookleakaa
open Go.RowKit Go.Deep

def SzOk (x : V) : Prop := ∀ (lo : Nat) (v : Value) (w : World) (l : Int), ValIn lo w x v → 0 ≤ l → l ≤ 1048576 →
  Calls Try.prog 4 #[v, .int .i64 l] w fun e w' => ∃ r : Int, e = .returned (.int .i64 r) ∧ -1 ≤ r ∧ r ≤ l ∧ (0 ≤ r → Small x) ∧ Ext w w'
def SzSOk (xs : List V) : Prop := ∀ (lo : Nat) (v : Value) (w : World) (l : Int), ListIn lo w xs v → 0 ≤ l → l ≤ 1048576 →
  Calls Try.prog 11 #[v, .int .i64 l] w fun e w' => ∃ r : Int, e = .returned (.int .i64 r) ∧ -1 ≤ r ∧ r ≤ l ∧ (0 ≤ r → xs.length ≤ 1048576 ∧ ∀ i (hi : i < xs.length), Small xs[i]) ∧ Ext w w'

set_option maxHeartbeats 400000 in
theorem szValueS_of (xs : List V) (ih : ∀ i (hi : i < xs.length), SzOk xs[i]) : SzSOk xs := by
  intro lo v w l hv h0 h1
  obtain ⟨a, cap, b0, off0, c0, c1, c2, c3, rfl, hm, _⟩ := id hv
  unfold maxLen at hm
  by_cases hbig : l < xs.length
  · go_enter Try.func11, Try.ntmps11
    go_wp2
    go_ret
    exact ⟨_, rfl, by omega, by omega, fun h => by omega, Ext.refl _⟩
  · go_enter Try.func11, Try.ntmps11
    go_wp2
    go_loopw [1, 5] (fun l' i wr => ∃ (k : Nat) (n : Int), k ≤ xs.length ∧ i = .int .i64 k ∧ l' = .int .i64 n ∧ 0 ≤ n ∧ n ≤ l ∧ Ext w wr ∧ ∀ j (hj : j < xs.length), j < k → Small xs[j]) (fun _ i _ => xs.length - (intOf i).toNat)
    case atStart => exact ⟨0, _, Nat.zero_le _, rfl, rfl, by omega, by omega, Ext.refl _, fun j _ h => by omega⟩
    case round =>
      obtain ⟨k, n, hk, rfl, rfl, hn0, hn1, hE, hsm⟩ := hrel
      by_cases hlt : k < xs.length
      · obtain ⟨cap2, b, off, hsl, hlo, hb, hcs⟩ := (hv.ext hE).at (by omega)
        cases hsl
        obtain ⟨d0, d1, d2, d3, e0, e1, e2, e3, hx⟩ := hcs k hlt
        clear hcs
        go_wp2_with (go_at_call 4; refine (ih k hlt lo _ _ _ hx hn0 (by omega)).mono ?_; rintro e w' ⟨r, rfl, hr1, hr2, hr3, hE2⟩)
        · go_ret
          exact ⟨_, rfl, by omega, by omega, fun h => by omega, hE.trans hE2⟩
        · go_roundw
          case rel =>
            refine ⟨k + 1, _, by omega, by go_num, rfl, by omega, by omega, hE.trans hE2, fun j hj h => ?_⟩
            rcases Nat.lt_succ_iff_lt_or_eq.1 h with h' | h'
            · exact hsm j hj h'
            · subst h'; exact hr3 (by omega)
          case measure => simp [intOf]; omega
      · go_wp2
        go_ret
        exact ⟨_, rfl, by omega, by omega, fun _ => ⟨by omega, fun i hi => hsm i hi (by omega)⟩, hE⟩

set_option maxHeartbeats 400000 in
theorem szValue_any : ∀ x, SzOk x := by
  refine V.ind fun k n t xs ih => ?_
  have hS := szValueS_of xs ih
  clear ih
  intro lo v w l hv h0 h1
  obtain ⟨a, cap, rfl, hk, hn, ht, hl, hL⟩ := hv.open
  unfold maxLen at ht hl
  clear hk hn
  by_cases hbig : l < t.size
  · go_enter Try.func4, Try.ntmps4
    go_wp2
    go_ret
    exact ⟨_, rfl, by omega, by omega, fun h => by omega, (Ext.refl _).alloc _⟩
  · go_enter Try.func4, Try.ntmps4
    go_wp2_with (go_at_call 11; refine (hS lo _ _ _ (hL.ext ((Ext.refl _).alloc _)) (by omega) (by omega)).mono ?_; rintro e w' ⟨r, rfl, hr1, hr2, hr3, hE2⟩)
    all_goals go_ret
    · exact ⟨_, rfl, by omega, by omega, fun h => by omega, ((Ext.refl _).alloc _).trans hE2⟩
    · exact ⟨_, rfl, by omega, by omega, fun h => .mk _ _ _ _ (hr3 h).1 (hr3 h).2, ((Ext.refl _).alloc _).trans hE2⟩
end Go.Proofs.Ytmacoaookleakaa
