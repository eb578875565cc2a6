/- What laws.asNull answers. -/
import Derived.Test.YtnbjkbpmdjpocaaEqSpec
import Derived.Test.YtnbjkbpmdjpocaaFBox
namespace Go.Proofs.Ytnbjkbpmdjpocaa
open Go.RowKit Go.Deep

mutual
def nullV : V → Bool
  | .mk k _ _ l => nullVL l || k == 0
def nullVL : List V → Bool
  | [] => false
  | a :: r => nullV a || nullVL r
end
theorem nullVL_at : ∀ (k : Nat) (l : List V) (h : k < l.length), nullV l[k] = true → nullVL l = true
  | _, [], h, _ => by simp at h
  | 0, a :: r, _, h => by simp at h; unfold nullVL; rw [h]; rfl
  | k + 1, a :: r, h1, h => by
    have := nullVL_at k r (by simpa using h1) (by simpa using h)
    unfold nullVL
    rw [this]; simp
theorem nullVL_all : ∀ (l : List V), (∀ j (h : j < l.length), nullV l[j] = false) → nullVL l = false
  | [], _ => by unfold nullVL; rfl
  | a :: r, hall => by
    have h0 := hall 0 (by simp)
    simp at h0
    have := nullVL_all r (fun j h1 => by have := hall (j + 1) (by simpa using h1); simpa using this)
    unfold nullVL
    rw [h0, this]; rfl

def AN (x : V) : Prop := ∀ (lo : Nat) (u : Value) (w : World), ValIn lo w x u →
  Calls Try.prog 15 #[u] w fun e w' => e = .returned (.bool (nullV x)) ∧ Ext w w'
set_option maxRecDepth 100000 in
set_option maxHeartbeats 4000000 in
theorem asNull_any : ∀ x, AN x := by
  refine V.ind fun k n t l ih => ?_
  intro lo u w hu
  obtain ⟨a, c, rfl, _, _, _, hm, hL⟩ := hu.open
  clear hu
  have HC : Hid (∀ i (hi : i < l.length), AN l[i]) := ih
  clear ih
  unfold maxLen at hm
  have hP := FBox.new w (.int .i64 k) (.int .i64 n) (.string t) (.slice a l.length c) 25
  have hE : Ext w (w.alloc (.cells #[.int .i64 k, .int .i64 n, .string t, .slice a l.length c] 25)) := (Ext.refl _).alloc _
  go_enter Try.func15, Try.ntmps15
  go_wp2_with fail
  go_loopw [3] (fun i wr => ∃ j : Nat, j ≤ l.length ∧ i = .int .i64 j ∧ FBox wr w.heap.size (.int .i64 k) (.int .i64 n) (.string t) (.slice a l.length c) ∧ Ext w wr ∧ ∀ q (h1 : q < l.length), q < j → nullV l[q] = false) (fun i _ => l.length - (intOf i).toNat)
  case atStart => exact ⟨0, Nat.zero_le _, rfl, hP, hE, fun j _ h => by omega⟩
  case round =>
    clear hP hE
    obtain ⟨j, hj, rfl, hP, hE, hall⟩ := hrel
    have HA : Hid (∀ q (h1 : q < l.length), q < j → nullV l[q] = false) := hall
    clear hall
    obtain ⟨⟨plt, p0, p1, p2, p3⟩, pf⟩ := id hP
    by_cases hlt : j < l.length
    · obtain ⟨cap2, b, off, hsl, _, _, hcs⟩ := (hL.ext hE).at (by omega)
      cases hsl
      obtain ⟨d0, d1, d2, d3, g0, g1, g2, g3, hx⟩ := hcs j hlt
      clear hcs
      have hc := HC.out j hlt lo _ wr hx
      go_wp2_with fail
      refine hc.mono ?_
      rintro e w3 ⟨rfl, hE3⟩
      clear hc
      cases hb : nullV l[j]
      · have HB : Hid (nullV l[j] = false) := hb
        clear hb
        go_wp2
        go_roundw
        case rel => exact ⟨j + 1, by omega, by go_num, hP.ext hE3, hE.trans hE3, fun q h1 h2 => by
          by_cases e : q = j
          · subst e; exact HB.out
          · exact HA.out q h1 (by omega)⟩
        case measure => simp [intOf]; omega
      · have hfin : Hid (nullV (.mk k n t l) = true) := by show _ = _; unfold nullV; rw [nullVL_at j l hlt hb]; rfl
        clear hb
        go_wp2
        go_ret
        exact ⟨ret_bool hfin.out.symm, hE.trans hE3⟩
    · have hfin : Hid (nullV (.mk k n t l) = (k == 0)) := by show _ = _; unfold nullV; rw [nullVL_all l (fun q h => HA.out q h (by omega))]; rfl
      go_wp2
      go_ret
      exact ⟨ret_bool hfin.out.symm, hE⟩
end Go.Proofs.Ytnbjkbpmdjpocaa
