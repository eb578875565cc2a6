/- What spec.l4Arity, spec.l4Lit and spec.l4Ok answer. -/
import Derived.Test.YtjcbcfpdgdaffaaDoorEThy
import Derived.Test.YtjcbcfpdgdaffaaDoorValL1Ok
import Derived.Deep.DeepCutAuto
import Derived.Deep.RegionHeld3
namespace Go.Proofs.YtjcbcfpdgdaffaaDoor
open Go.RowKit Go.Deep

set_option maxHeartbeats 2000000 in
theorem l4Arity_any (k : Int) (w : World) : Calls Tryd.prog 22 #[.int .i64 k] w fun e w' => e = .returned (.int .i64 (arityI k)) ∧ w' = w := by
  by_cases h1 : 1 ≤ k ∧ k ≤ 4
  · have i1 : inB k 1 4 = true := decide_eq_true h1
    have hf : Hid (arityI k = 0) := by show _ = _; simp [arityI, h1]
    go_enter Tryd.func22, Tryd.ntmps22
    go_wp2_with (go_at_call 32; refine (l1In_any _ _ _ _).mono ?_; rintro e w' ⟨rfl, rfl⟩)
    go_ret
    exact ⟨ret_int hf.out.symm, rfl⟩
  have i1 : inB k 1 4 = false := decide_eq_false h1
  by_cases hk14 : k = 14
  · subst hk14
    have i1 : inB 14 1 4 = false := rfl
    have i2 : inB 14 5 8 = false := rfl
    go_enter Tryd.func22, Tryd.ntmps22
    go_wp2_with (go_at_call 32; refine (l1In_any _ _ _ _).mono ?_; rintro e w' ⟨rfl, rfl⟩)
    go_ret
    exact ⟨rfl, rfl⟩
  by_cases hk9 : k = 9
  · subst hk9
    have i1 : inB 9 1 4 = false := rfl
    have i2 : inB 9 5 8 = false := rfl
    go_enter Tryd.func22, Tryd.ntmps22
    go_wp2_with (go_at_call 32; refine (l1In_any _ _ _ _).mono ?_; rintro e w' ⟨rfl, rfl⟩)
    go_ret
    exact ⟨rfl, rfl⟩
  by_cases hk11 : k = 11
  · subst hk11
    have i1 : inB 11 1 4 = false := rfl
    have i2 : inB 11 5 8 = false := rfl
    go_enter Tryd.func22, Tryd.ntmps22
    go_wp2_with (go_at_call 32; refine (l1In_any _ _ _ _).mono ?_; rintro e w' ⟨rfl, rfl⟩)
    go_ret
    exact ⟨rfl, rfl⟩
  by_cases hk13 : k = 13
  · subst hk13
    have i1 : inB 13 1 4 = false := rfl
    have i2 : inB 13 5 8 = false := rfl
    go_enter Tryd.func22, Tryd.ntmps22
    go_wp2_with (go_at_call 32; refine (l1In_any _ _ _ _).mono ?_; rintro e w' ⟨rfl, rfl⟩)
    go_ret
    exact ⟨rfl, rfl⟩
  by_cases hk15 : k = 15
  · subst hk15
    have i1 : inB 15 1 4 = false := rfl
    have i2 : inB 15 5 8 = false := rfl
    go_enter Tryd.func22, Tryd.ntmps22
    go_wp2_with (go_at_call 32; refine (l1In_any _ _ _ _).mono ?_; rintro e w' ⟨rfl, rfl⟩)
    go_ret
    exact ⟨rfl, rfl⟩
  by_cases hk10 : k = 10
  · subst hk10
    have i1 : inB 10 1 4 = false := rfl
    have i2 : inB 10 5 8 = false := rfl
    go_enter Tryd.func22, Tryd.ntmps22
    go_wp2_with (go_at_call 32; refine (l1In_any _ _ _ _).mono ?_; rintro e w' ⟨rfl, rfl⟩)
    go_ret
    exact ⟨rfl, rfl⟩
  by_cases hk12 : k = 12
  · subst hk12
    have i1 : inB 12 1 4 = false := rfl
    have i2 : inB 12 5 8 = false := rfl
    go_enter Tryd.func22, Tryd.ntmps22
    go_wp2_with (go_at_call 32; refine (l1In_any _ _ _ _).mono ?_; rintro e w' ⟨rfl, rfl⟩)
    go_ret
    exact ⟨rfl, rfl⟩
  have n14 : (k == 14) = false := by simpa using hk14
  have n9 : (k == 9) = false := by simpa using hk9
  have n11 : (k == 11) = false := by simpa using hk11
  have n13 : (k == 13) = false := by simpa using hk13
  have n15 : (k == 15) = false := by simpa using hk15
  have n10 : (k == 10) = false := by simpa using hk10
  have n12 : (k == 12) = false := by simpa using hk12
  by_cases h2 : 5 ≤ k ∧ k ≤ 8
  · have i2 : inB k 5 8 = true := decide_eq_true h2
    have hf : Hid (arityI k = 2) := by
      show _ = _
      unfold arityI
      rw [if_neg (by omega), if_neg (by omega), if_pos (by omega)]
    go_enter Tryd.func22, Tryd.ntmps22
    go_wp2_with (go_at_call 32; refine (l1In_any _ _ _ _).mono ?_; rintro e w' ⟨rfl, rfl⟩)
    go_ret
    exact ⟨ret_int hf.out.symm, rfl⟩
  · have i2 : inB k 5 8 = false := decide_eq_false h2
    have hf : Hid (arityI k = -1) := by
      show _ = _
      unfold arityI
      rw [if_neg (by omega), if_neg (by omega), if_neg (by omega)]
    go_enter Tryd.func22, Tryd.ntmps22
    go_wp2_with (go_at_call 32; refine (l1In_any _ _ _ _).mono ?_; rintro e w' ⟨rfl, rfl⟩)
    go_ret
    exact ⟨ret_int hf.out.symm, rfl⟩

set_option maxHeartbeats 1000000 in
theorem l4Lit_any : ∀ (x : V) (lo : Nat) (v : Value) (w : World), ValIn lo w x v → Calls Tryd.prog 19 #[v] w fun e w' => e = .returned (.bool (litB x)) ∧ Ext w w' := by
  refine V.ind fun k n t l ih => ?_
  intro lo v w hv
  obtain ⟨a, cap, rfl, hk, hn, ht, hl, hL⟩ := hv.open
  unfold maxLen at hl
  have HB : Hid (litB (.mk k n t l) = (litL l && decide (k ≤ 4))) := by show _ = _; rw [litB]
  go_enter Tryd.func19, Tryd.ntmps19
  go_wp2
  generalize hW0 : w.alloc _ = W0
  have hE0 : Ext w W0 := by subst hW0; exact (Ext.refl _).alloc _
  have hbx : ∀ W, Ext W0 W → W.cell? ⟨w.heap.size, 0, none⟩ = some (.int .i64 k) ∧ W.cell? ⟨w.heap.size, 3, none⟩ = some (.slice a l.length cap) := by
    intro W hW
    subst hW0
    exact ⟨box_cell hW 0 _ rfl, box_cell hW 3 _ rfl⟩
  clear hW0
  go_loopw [3] (fun i wr => ∃ j : Nat, j ≤ l.length ∧ i = .int .i64 j ∧ Ext W0 wr ∧ ∀ i (hi : i < l.length), i < j → litB l[i] = true) (fun i _ => l.length - (intOf i).toNat)
  case atStart => exact ⟨0, Nat.zero_le _, rfl, Ext.refl _, fun i _ h => by omega⟩
  case round =>
    obtain ⟨j, hj, rfl, hE, hno⟩ := hrel
    obtain ⟨b0, b3⟩ := hbx wr hE
    by_cases hlt : j < l.length
    · obtain ⟨cap2, b, off, hsl, _, hb, hcs⟩ := ((hL.ext hE0).ext hE).at (by omega)
      cases hsl
      obtain ⟨d0, d1, d2, d3, e0, e1, e2, e3, hx⟩ := hcs j hlt
      clear hcs
      have hcall := ih j hlt lo _ _ hx
      clear ih
      go_wp2_with fail
      refine hcall.mono ?_
      rintro e w' ⟨rfl, hE2⟩
      cases hp : litB l[j]
      · have hfin : Hid (litB (.mk k n t l) = false) := by show _ = _; rw [HB.out, litL_no l j hlt hp]; rfl
        go_wp2
        go_ret
        exact ⟨ret_bool hfin.out.symm, hE0.trans (hE.trans hE2)⟩
      · have hp' : Hid (litB l[j] = true) := hp
        go_wp2
        go_roundw
        case rel =>
          refine ⟨j + 1, by omega, by go_num, hE.trans hE2, fun i hi h => ?_⟩
          rcases Nat.lt_succ_iff_lt_or_eq.1 h with h' | h'
          · exact hno i hi h'
          · subst h'; exact hp'.out
        case measure => simp [intOf]; omega
    · have hfin : Hid (litL l = true) := litL_yes l (fun i hi => hno i hi (by omega))
      clear ih
      go_wp2
      go_ret
      exact ⟨ret_bool (by rw [HB.out, hfin.out]; rfl), hE0.trans hE⟩
end Go.Proofs.YtjcbcfpdgdaffaaDoor
