/- The walk of the law FnWords: it answers true at every two codes. -/
import Derived.Test.YthalmejmehjdgaaDoorWTexts
import Derived.Test.YthalmejmehjdgaaDoorWDraw
namespace Go.Proofs.YthalmejmehjdgaaDoor.fnWords
open Go.RowKit

theorem spaced_snoc : ∀ (ws : List By) (x : By), spaced (ws ++ [x]) = spaced ws ++ (x ++ [32])
  | [], x => by simp [spaced]
  | y :: r, x => by rw [List.cons_append, spaced, spaced, spaced_snoc r x]; simp
theorem bs_app (a b : By) : bs a ++ bs b = bs (a ++ b) := by
  apply ByteArray.ext
  simp [bs, ByteArray.data_append]
theorem spaced_len : ∀ (ws : List By) (n : Nat), (∀ x ∈ ws, x.length ≤ n) → (spaced ws).length ≤ ws.length * (n + 1)
  | [], n, _ => by simp [spaced]
  | y :: r, n, h => by
    have h1 := spaced_len r n (fun x hx => h x (List.mem_cons_of_mem _ hx))
    have h2 := h y (by simp)
    rw [spaced, List.length_append, List.length_cons, List.length_cons, Nat.succ_mul]
    omega

set_option maxRecDepth 100000 in
set_option maxHeartbeats 4000000 in
theorem walk (a : Option Addr) (n cap : Nat) (a2 : Option Addr) (n2 cap2 : Nat) (w : World) (h : CodeIn w a n cap) (h2 : CodeIn w a2 n2 cap2) :
    Calls Tryd.prog 3 #[.slice a n cap, .slice a2 n2 cap2] w fun e w' => e = .returned (.bool true) ∧ Ext w w' := by
  have hlen := h.len
  have hlen2 := h2.len
  have g0 : decide ((n : Int) > 1048576) = false := decide_eq_false (by omega)
  have g1 : decide ((n2 : Int) > 1048576) = false := decide_eq_false (by omega)
  go_enter Tryd.func3, Tryd.ntmps3
  go_wp2_with fail
  refine (drawWords_any a n cap w h).mono ?_
  rintro e w1 ⟨s, rfl, hs, hE1⟩
  go_wp2_with fail
  refine (implWords_any s w1 (by omega)).mono ?_
  rintro e w2 ⟨v1, rfl, ho1, hE2⟩
  have hwl : (wordsOf s.data.toList).length ≤ 48 := by
    have : (wordsOf s.data.toList).length ≤ s.data.toList.length := by unfold wordsOf; split; exact seqOf_len _; simp
    rw [← Lib.size_eq] at this; omega
  have ht1 := TextsAt.of_own ho1 (by omega)
  clear ho1
  go_wp2_with fail
  refine (specWords_any s w2 (by omega)).mono ?_
  rintro e w3 ⟨v2, rfl, ho2, hE3⟩
  have ht2 := TextsAt.of_own ho2 (by omega)
  have ht1 := ht1.ext hE3
  clear ho2
  cases hf : fine s.data.toList
  · have has := fun W (hW : Ext w3 W) => asTexts_same v1 v2 _ W (ht1.ext hW) (ht2.ext hW)
    go_wp2_with fail
    refine (has _ (Ext.refl _)).mono ?_
    rintro e w4 ⟨rfl, hE4⟩
    go_wp2_with fail
    refine (has _ hE4).mono ?_
    rintro e w5 ⟨rfl, hE5⟩
    go_wp2
    go_ret
    exact ⟨rfl, (((hE1.trans hE2).trans hE3).trans hE4).trans hE5⟩
  · have hfi := (fine_iff _).1 hf
    have hws := fine_of hfi
    have hsp : seqOf (spaced (seqOf s.data.toList)) = seqOf s.data.toList := seqOf_spaced _ (fun x hx => ⟨hfi x hx, seqOf_each _ hfi x hx⟩)
    rw [hws.2] at ht1 ht2 hwl
    go_wp2_with fail
    refine (asTexts_same v1 v2 _ _ ht1 ht2).mono ?_
    rintro e w4 ⟨rfl, hE4⟩
    have ht1 := ht1.ext hE4
    have hE14 := ((hE1.trans hE2).trans hE3).trans hE4
    have hsz := seqOf_size s.data.toList
    rw [← Lib.size_eq] at hsz
    clear ht2 hE1 hE2 hE3 hE4
    have ht1' := ht1
    obtain ⟨_, b1, c1, rfl, hc1, hm1, hat⟩ := ht1
    have hother := fun W (hW : Ext w W) => drawWords_any a2 n2 cap2 W (h2.ext hW)
    clear h h2
    generalize hwseq : seqOf s.data.toList = ws at *
    go_wp2
    go_loop [10, 11] (fun o i => ∃ k : Nat, k ≤ ws.length ∧ i = .int .i64 k ∧ o = .string (bs (spaced (ws.take k)))) (fun _ i => ws.length - (intOf i).toNat)
    case atStart => exact ⟨0, Nat.zero_le _, rfl, by rw [List.take_zero]; rfl⟩
    case round =>
      obtain ⟨k, hk, rfl, rfl⟩ := hrel
      have hspl : (spaced (ws.take k)).length ≤ 2400 := by
        have := spaced_len (ws.take k) 48 (fun x hx => by have := hsz x (List.mem_of_mem_take hx); omega)
        have h3 : (ws.take k).length ≤ 48 := by rw [List.length_take]; omega
        have h4 : (ws.take k).length * (48 + 1) ≤ 48 * 49 := Nat.mul_le_mul_right _ h3
        omega
      have hspz : (bs (spaced (ws.take k))).size ≤ 2400 := by rw [bs_size]; exact hspl
      by_cases hlt : k < ws.length
      · obtain ⟨b, off, rfl, hb, hcell⟩ := hat (by omega)
        have q := hcell k hlt
        have hxz : (bs ws[k]).size ≤ 48 := by rw [bs_size]; have := hsz ws[k] (List.getElem_mem _); omega
        have hnext : Hid (bs (spaced (ws.take k)) ++ bs ws[k] ++ ⟨#[32]⟩ = bs (spaced (ws.take (k + 1)))) := by
          show _ = _
          have e : (⟨#[32]⟩ : ByteArray) = bs [32] := rfl
          rw [e, bs_app, bs_app, List.take_succ_eq_append_getElem hlt, spaced_snoc, List.append_assoc]
        clear hcell hat hother hsz hwseq hsp hfi hws
        generalize bs (spaced (ws.take k)) = A at hspz hnext
        generalize bs ws[k] = B at hxz hnext q
        go_wp2
        go_round
        case rel => exact ⟨k + 1, by omega, by go_num, by rw [hnext.out]⟩
        case measure => simp [intOf]; omega
      · obtain rfl : k = ws.length := by omega
        rw [List.take_length] at hspz hspl ⊢
        have hW1 := implWords_any (bs (spaced ws)) w4 (by omega)
        rw [data_bs] at hW1
        have hfs := fine_of (l := spaced ws) (by rw [hsp]; exact hfi)
        rw [hfs.1, hfs.2, hsp] at hW1
        generalize bs (spaced ws) = A at hspz hW1
        clear hat hspl hsz
        go_wp2_with fail
        refine hW1.mono ?_
        rintro e w5 ⟨v3, rfl, ho3, hE5⟩
        have ht3 := TextsAt.of_own ho3 (by omega)
        have ht15 := ht1'.ext hE5
        clear ho3 hW1
        go_wp2_with fail
        refine (hother _ (hE14.trans hE5)).mono ?_
        rintro e w6 ⟨s2, rfl, hs2, hE6⟩
        have hlen4 : (wordsOf s2.data.toList).length ≤ 48 := by
          have : (wordsOf s2.data.toList).length ≤ s2.data.toList.length := by unfold wordsOf; split; exact seqOf_len _; simp
          rw [← Lib.size_eq] at this; omega
        clear hother
        go_wp2_with fail
        refine (implWords_any s2 w6 (by omega)).mono ?_
        rintro e w7 ⟨v4, rfl, ho4, hE7⟩
        have ht4 := TextsAt.of_own ho4 (by omega)
        clear ho4
        have hzz : (s ++ ⟨#[10]⟩ ++ s2 : ByteArray).size ≤ 97 := by rw [ByteArray.size_append, ByteArray.size_append]; show s.size + 1 + s2.size ≤ _; omega
        have hW2 := implWords_any (s ++ ⟨#[10]⟩ ++ s2) w7 (by omega)
        have hdat : (s ++ ⟨#[10]⟩ ++ s2 : ByteArray).data.toList = s.data.toList ++ 10 :: s2.data.toList := by simp
        have happ := seqOf_app s.data.toList s2.data.toList 10 rfl (by rw [hwseq]; exact hfi)
        rw [hwseq] at happ
        rw [hdat] at hW2
        clear hdat
        go_wp2_with fail
        refine hW2.mono ?_
        rintro e w8 ⟨v5, rfl, ho5, hE8⟩
        have hE58 := (hE6.trans hE7).trans hE8
        have hEall := (hE14.trans hE5).trans hE58
        have hA := asTexts_same v3 (.slice b1 ws.length c1) ws w8 (ht3.ext hE58) (ht15.ext hE58)
        cases hf2 : fine s2.data.toList
        · have hbad : [] ∈ seqOf (s.data.toList ++ 10 :: s2.data.toList) := by
            rw [happ]
            have : ¬ ∀ x ∈ seqOf s2.data.toList, x ≠ [] := fun hh => by rw [(fine_iff _).2 hh] at hf2; cases hf2
            simp only [List.mem_append]
            right
            refine Classical.byContradiction fun hn => this fun x hx e => hn ?_
            rw [e] at hx; exact hx
          rw [(fine_not hbad).1]
          go_wp2_with (go_at_call 7; refine hA.mono ?_; rintro e w9 ⟨rfl, hE9⟩)
          go_ret
          exact ⟨rfl, hEall.trans hE9⟩
        · have hf2i := (fine_iff _).1 hf2
          have hgood : ∀ x ∈ seqOf (s.data.toList ++ 10 :: s2.data.toList), x ≠ [] := by
            rw [happ]
            intro x hx
            rcases List.mem_append.1 hx with hx | hx
            · exact hfi x hx
            · exact hf2i x hx
          have hg2 := fine_of hgood
          have hw2 := fine_of hf2i
          rw [hg2.2, happ] at ho5
          rw [hw2.2] at ht4 hlen4
          rw [hg2.1]
          generalize seqOf s2.data.toList = ys at *
          have ht48 := ht4.ext hE8
          obtain ⟨_, b4, c4, rfl, _, _, _⟩ := ht4
          rcases ho5.2 with ⟨rfl, h0⟩ | ⟨g, c5, cur, rfl, _, hg, hc5, hm5, _⟩
          · rw [List.length_append] at h0
            obtain rfl : ws = [] := List.eq_nil_of_length_eq_zero (by omega)
            obtain rfl : ys = [] := List.eq_nil_of_length_eq_zero (by omega)
            have hB : ∀ W, Ext w8 W → Calls Tryd.prog 7 #[.slice none 0 0, .slice b4 0 c4] W fun e w' => e = .returned (.bool true) ∧ Ext W w' :=
              fun W hW => asTexts_same _ _ [] W ⟨by simp, none, 0, rfl, Nat.le_refl _, by unfold maxLen; omega, fun h => absurd h (by simp)⟩ (ht48.ext hW)
            go_wp2_with (first | (go_at_call 7; refine hA.mono ?_; rintro e w9 ⟨rfl, hE9⟩; clear hA; replace hB := hB w9 hE9) | (go_at_call 7; refine hB.mono ?_; rintro e w10 ⟨rfl, hE10⟩))
            go_ret
            exact ⟨rfl, (hEall.trans hE9).trans hE10⟩
          · have hn5 : (ws ++ ys).length = ws.length + ys.length := List.length_append
            rw [hn5] at hc5
            rw [hn5]
            by_cases hcap : ws.length < c5
            · have hcz : c5 - ws.length ≠ 0 := by omega
              have ht6 : TextsAt w8 (.slice (some ⟨g, ws.length, none⟩) ys.length (c5 - ws.length)) ys := by
                refine ⟨by omega, _, _, rfl, by omega, by omega, fun _ => ⟨g, ws.length, rfl, (Array.getElem?_eq_some_iff.1 hg).1, fun i hi => ?_⟩⟩
                have := World.ownsRow.cellAt ho5 (ws.length + i) (by omega)
                rw [List.getElem?_map, List.getElem?_append_right (by omega), Nat.add_sub_cancel_left, List.getElem?_eq_getElem hi] at this
                rw [this]; rfl
              have hB : ∀ W, Ext w8 W → Calls Tryd.prog 7 #[.slice (some ⟨g, ws.length, none⟩) ys.length (c5 - ws.length), .slice b4 ys.length c4] W fun e w' => e = .returned (.bool true) ∧ Ext W w' :=
                fun W hW => asTexts_same _ _ ys W (ht6.ext hW) (ht48.ext hW)
              go_wp2_with (first | (go_at_call 7; refine hA.mono ?_; rintro e w9 ⟨rfl, hE9⟩; clear hA; replace hB := hB w9 hE9) | (go_at_call 7; refine hB.mono ?_; rintro e w10 ⟨rfl, hE10⟩))
              go_ret
              exact ⟨rfl, (hEall.trans hE9).trans hE10⟩
            · obtain rfl : c5 = ws.length := by omega
              obtain rfl : ys = [] := List.eq_nil_of_length_eq_zero (by omega)
              have hB : ∀ W, Ext w8 W → Calls Tryd.prog 7 #[.slice (some ⟨g, 0, none⟩) 0 0, .slice b4 0 c4] W fun e w' => e = .returned (.bool true) ∧ Ext W w' :=
                fun W hW => asTexts_same _ _ [] W ⟨by simp, _, 0, rfl, Nat.le_refl _, by unfold maxLen; omega, fun h => absurd h (by simp)⟩ (ht48.ext hW)
              go_wp2_with (first | (go_at_call 7; refine hA.mono ?_; rintro e w9 ⟨rfl, hE9⟩; clear hA; replace hB := hB w9 hE9) | (go_at_call 7; refine hB.mono ?_; rintro e w10 ⟨rfl, hE10⟩))
              go_ret
              exact ⟨rfl, (hEall.trans hE9).trans hE10⟩
end Go.Proofs.YthalmejmehjdgaaDoor.fnWords
