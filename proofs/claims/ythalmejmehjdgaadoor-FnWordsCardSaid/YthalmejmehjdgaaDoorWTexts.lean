/- What laws.asTexts answers of two lists of the same texts: true. -/
import Derived.Test.YthalmejmehjdgaaDoorWThy
import Derived.Laws.OwnMore
import Derived.BigRegion
namespace Go.Proofs.YthalmejmehjdgaaDoor
open Go.RowKit

/-- The slice v lies in w as the texts ws. -/
structure TextsAt (w : World) (v : Value) (ws : List By) : Prop where
  len : ws.length ≤ 1048576
  at' : ∃ a cap, v = .slice a ws.length cap ∧ ws.length ≤ cap ∧ cap ≤ maxLen ∧ (0 < ws.length → ∃ b off, a = some ⟨b, off, none⟩ ∧ b < w.heap.size ∧ ∀ i (h : i < ws.length), w.cell? ⟨b, off + i, none⟩ = some (.string (bs ws[i])))
theorem TextsAt.ext {w w' : World} {v : Value} {ws : List By} (h : TextsAt w v ws) (e : Ext w w') : TextsAt w' v ws := by
  obtain ⟨h1, a, cap, h2, h3, h5, h4⟩ := h
  refine ⟨h1, a, cap, h2, h3, h5, fun h0 => ?_⟩
  obtain ⟨b, off, e1, e2, e3⟩ := h4 h0
  exact ⟨b, off, e1, Nat.lt_of_lt_of_le e2 e.le, fun i hi => by rw [e.cell e2]; exact e3 i hi⟩
theorem TextsAt.of_own {base : Nat} {w : World} {v : Value} {ws : List By} (h : OwnS base w v ws) (hl : ws.length ≤ 1048576) : TextsAt w v ws := by
  rcases h.2 with ⟨rfl, h0⟩ | ⟨g, cap, cur, rfl, _, hg, hc, hm, _⟩
  · exact ⟨hl, none, 0, by rw [h0], by omega, by unfold maxLen; omega, fun h => by omega⟩
  · refine ⟨hl, _, cap, rfl, hc, hm, fun _ => ⟨g, 0, rfl, (Array.getElem?_eq_some_iff.1 hg).1, fun i hi => ?_⟩⟩
    have := World.ownsRow.cellAt h i (by omega)
    rw [List.getElem?_map, List.getElem?_eq_getElem hi] at this
    rw [Nat.zero_add, this]; rfl

set_option maxHeartbeats 1000000 in
theorem asTexts_same (v u : Value) (ws : List By) (w : World) (hv : TextsAt w v ws) (hu : TextsAt w u ws) :
    Calls Tryd.prog 7 #[v, u] w fun e w' => e = .returned (.bool true) ∧ Ext w w' := by
  obtain ⟨hl, a1, c1, rfl, hc1, hm1, hv⟩ := hv
  obtain ⟨_, a2, c2, rfl, hc2, hm2, hu⟩ := hu
  go_enter Tryd.func7, Tryd.ntmps7
  go_wp2
  go_loopw [5] (fun i wr => ∃ k : Nat, k ≤ ws.length ∧ i = .int .i64 k ∧ Ext w wr) (fun i _ => ws.length - (intOf i).toNat)
  case atStart => exact ⟨0, Nat.zero_le _, rfl, Ext.refl _⟩
  case round =>
    obtain ⟨k, hk, rfl, hE⟩ := hrel
    by_cases hlt : k < ws.length
    · obtain ⟨b1, o1, rfl, hb1, q1⟩ := hv (by omega)
      obtain ⟨b2, o2, rfl, hb2, q2⟩ := hu (by omega)
      have q1 := q1 k hlt
      have q2 := q2 k hlt
      rw [← hE.cell hb1] at q1
      rw [← hE.cell hb2] at q2
      generalize bs ws[k] = y at q1 q2
      go_wp2_with fail
      go_region
      all_goals
        go_wp2
        go_roundw
        case rel => exact ⟨k + 1, by omega, by go_num, hE.drew⟩
        case measure => simp [intOf]; omega
    · go_wp2
      go_ret
      exact ⟨rfl, hE⟩
end Go.Proofs.YthalmejmehjdgaaDoor
