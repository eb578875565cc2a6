/- What the law's own functions do: laws.eqStringS holds two lists of texts against each other, laws.markText writes a number, laws.markStringS marks a list, laws.heldStringS asks whether the marks are still there. -/
import Derived.Test.YtgfoepodbmlbbaaDoorWImpl
import Derived.Laws.OwnMore
import Derived.Laws.BytesArg
import Derived.BigRegion
import Derived.Deep.RegionWith
namespace Go.Proofs.YtgfoepodbmlbbaaDoor
open Go.RowKit

theorem row_at {base : Nat} {w : World} {v : Value} {n : Nat} {xs : List Value} (h : w.ownsRow base 9 1 v n xs) (hn : 0 < n) : ∃ g cap, v = .slice (some ⟨g, 0, none⟩) n cap ∧ base ≤ g ∧ g < w.heap.size ∧ n ≤ cap ∧ cap ≤ maxLen := by
  rcases h.2 with ⟨_, h0⟩ | ⟨g, cap, cur, rfl, hb, hg, h1, h2, _⟩
  · omega
  · exact ⟨g, cap, rfl, hb, (Array.getElem?_eq_some_iff.1 hg).1, h1, h2⟩
theorem row_shape {base : Nat} {w : World} {v : Value} {n : Nat} {xs : List Value} (h : w.ownsRow base 9 1 v n xs) : ∃ a cap, v = .slice a n cap := by
  rcases h.2 with ⟨rfl, rfl⟩ | ⟨g, cap, cur, rfl, _⟩
  · exact ⟨_, _, rfl⟩
  · exact ⟨_, _, rfl⟩
theorem row_set {base : Nat} {w : World} {g n cap : Nat} {xs : List Value} (h : w.ownsRow base 9 1 (.slice (some ⟨g, 0, none⟩) n cap) n xs) (j : Nat) (u : Value) :
    (w.setCell ⟨g, j, none⟩ u).ownsRow base 9 1 (.slice (some ⟨g, 0, none⟩) n cap) n (xs.set j u) := by
  obtain ⟨h1, h2⟩ := h
  refine ⟨by rw [List.length_set]; exact h1, ?_⟩
  rcases h2 with ⟨h0, _⟩ | ⟨g', cap', cur, he, hb, hg, hc1, hc2, hsz, ht⟩
  · cases h0
  · cases he
    refine .inr ⟨g, cap, cur.setIfInBounds j u, rfl, hb, ?_, hc1, hc2, by rw [Array.size_setIfInBounds]; exact hsz, ?_⟩
    · obtain ⟨hlt, hk⟩ := Array.getElem?_eq_some_iff.1 hg
      show (w.heap.modify g _)[g]? = _
      rw [Array.getElem?_eq_getElem (by rw [Array.size_modify]; exact hlt), Array.getElem_modify_self, hk]
      rfl
    · rw [← ht, Array.toList_setIfInBounds, List.take_set]

set_option maxHeartbeats 1000000 in
theorem eqStringS_same (v u : Value) (b1 b2 : Nat) (ws : List By) (w : World) (hv : OwnS b1 w v ws) (hu : OwnS b2 w u ws) :
    Calls Tryd.prog 6 #[v, u] w fun e w' => e = .returned (.bool true) ∧ Ext w w' := by
  obtain ⟨a1, c1, rfl⟩ := row_shape hv
  obtain ⟨a2, c2, rfl⟩ := row_shape hu
  have hmax : ws.length ≤ maxLen := by
    by_cases h0 : 0 < ws.length
    · obtain ⟨g, cap, _, _, _, h1, h2⟩ := row_at hv h0; omega
    · unfold maxLen; omega
  unfold maxLen at hmax
  go_enter Tryd.func6, Tryd.ntmps6
  go_wp2
  go_loopw [5] (fun i wr => ∃ k : Nat, k ≤ ws.length ∧ i = .int .i64 k ∧ Ext w wr) (fun i _ => ws.length - (intOf i).toNat)
  case atStart => exact ⟨0, Nat.zero_le _, rfl, Ext.refl _⟩
  case round =>
    obtain ⟨k, hk, rfl, hE⟩ := hrel
    by_cases hlt : k < ws.length
    · obtain ⟨g1, d1, e1, _, hg1, hn1, _⟩ := row_at hv (by omega)
      obtain ⟨g2, d2, e2, _, hg2, hn2, _⟩ := row_at hu (by omega)
      cases e1
      cases e2
      have q1 := (World.ownsRow.cellAt hv k (by omega))
      have q2 := (World.ownsRow.cellAt hu k (by omega))
      rw [List.getElem?_map, List.getElem?_eq_getElem hlt] at q1 q2
      rw [← hE.cell hg1] at q1
      rw [← hE.cell hg2] at q2
      simp only [Option.map_some, encS] at q1 q2
      generalize bs ws[k] = y at q1 q2
      go_wp2_with fail
      go_region
      all_goals
        go_wp2
        go_roundw
        case rel => exact ⟨k + 1, by omega, by go_num, hE.drew⟩
        case measure => simp [intOf]; omega
    · go_wp2
      go_ret
      exact ⟨rfl, hE⟩

/-- A number's figures ahead of a text. -/
def digs (m : Int) (acc : ByteArray) : ByteArray :=
  if 0 < m then digs (m / 10) (strOfNums [48 + m % 10] ++ acc) else acc
termination_by m.toNat
decreasing_by omega
/-- The mark of a number. -/
def markT (k : Int) : ByteArray := if k ≤ 0 then ⟨#[109, 48]⟩ else ⟨#[109]⟩ ++ digs k ⟨#[]⟩

set_option maxRecDepth 100000 in
set_option maxHeartbeats 1000000 in
theorem markText_any (k : Int) (w : World) (h0 : 0 ≤ k) (h1 : k ≤ 1000000000) :
    Calls Tryd.prog 11 #[.int .i64 k] w fun e w' => e = .returned (.string (markT k)) ∧ Ext w w' := by
  by_cases hk : k ≤ 0
  · have hfin : Hid (markT k = ⟨#[109, 48]⟩) := by show _ = _; rw [markT, if_pos hk]
    go_enter Tryd.func11, Tryd.ntmps11
    go_wp2
    go_ret
    exact ⟨ret_str hfin.out.symm, Ext.refl _⟩
  · have hfin : Hid (markT k = ⟨#[109]⟩ ++ digs k ⟨#[]⟩) := by show _ = _; rw [markT, if_neg hk]
    go_enter Tryd.func11, Tryd.ntmps11
    go_wp2
    go_loopw [0, 3] (fun n o wr => ∃ (m : Int) (s : ByteArray), n = .int .i64 m ∧ o = .string s ∧ 0 ≤ m ∧ m ≤ 1000000000 ∧ (s.size : Int) + m ≤ 1000000000 ∧ Ext w wr ∧ digs m s = digs k ⟨#[]⟩) (fun n _ _ => (intOf n).toNat)
    case atStart => exact ⟨k, _, rfl, rfl, h0, h1, by show ((0 : Nat) : Int) + k ≤ _; omega, Ext.refl _, rfl⟩
    case round =>
      obtain ⟨m, s, rfl, rfl, hm0, hm1, hsz, hE, hd⟩ := hrel
      by_cases hm : 0 < m
      · have hcv := run_convert_bytes_arg (P := Tryd.prog) (wr.alloc (.cells #[.int .u8 (48 + m % 10)] 5)) 36 5 Tryd.underlying36 Tryd.underlying5 wr.heap.size 0 1 1 [48 + m % 10] rfl (fun i hi => by
          have : i = 0 := by omega
          subst this
          simp) 9 Tryd.underlying9
        have hs1 : (strOfNums [48 + m % 10]).size = 1 := rfl
        have HD : Hid (digs (m / 10) (strOfNums [48 + m % 10] ++ s) = digs k ⟨#[]⟩) := by show _ = _; rw [← hd, digs.eq_1 m, if_pos hm]
        clear hd
        generalize strOfNums [48 + m % 10] = s1 at hcv hs1 HD
        go_wp2
        go_roundw
        case rel => exact ⟨m / 10, s1 ++ s, rfl, rfl, by omega, by omega, by rw [ByteArray.size_append]; omega, hE.alloc _, HD.out⟩
        case measure => simp [intOf]; omega
      · have HD : Hid (s = digs k ⟨#[]⟩) := by show _ = _; rw [← hd, digs, if_neg hm]
        clear hd
        go_wp2
        go_ret
        exact ⟨ret_str (by rw [hfin.out, ← HD.out]), hE⟩

/-- The marks from a number on. -/
def marks (k : Int) (n : Nat) : List Value := (List.range n).map fun (j : Nat) => .string (markT (k + j))
theorem marks_len (k : Int) (n : Nat) : (marks k n).length = n := by simp [marks]
theorem marks_succ (k : Int) (n : Nat) : marks k (n + 1) = marks k n ++ [.string (markT (k + n))] := by simp [marks, List.range_succ]
theorem marks_at (k : Int) (n j : Nat) (h : j < n) : (marks k n)[j]? = some (.string (markT (k + j))) := by simp [marks, h]

theorem set_mid (k : Int) (m : Nat) (xs : List Value) (h : m < xs.length) : (marks k m ++ xs.drop m).set m (.string (markT (k + m))) = marks k (m + 1) ++ xs.drop (m + 1) := by
  rw [List.set_append_right _ _ (by rw [marks_len]; exact Nat.le_refl _), marks_len, Nat.sub_self, List.drop_eq_getElem_cons h, List.set_cons_zero, marks_succ]
  simp
theorem grown_but {a c : World} (h : a.grownBy c none) (row : Option Nat) : a.grownBy c row := ⟨h.os, h.tape, h.output, h.size, fun i hi _ => h.block i hi (by simp)⟩

set_option maxHeartbeats 1000000 in
theorem markStringS_any (v : Value) (base : Nat) (n : Nat) (xs : List Value) (k : Int) (w : World) (hv : w.ownsRow base 9 1 v n xs) (hn : n ≤ 1048576) (h0 : 0 ≤ k) (h1 : k ≤ 1000000) :
    Calls Tryd.prog 7 #[v, .int .i64 k] w fun e w' => e = .returned (.int .i64 (k + n)) ∧ w'.ownsRow base 9 1 v n (marks k n) ∧ w.grownBy w' v.ownBlock := by
  obtain ⟨a1, c1, rfl⟩ := row_shape hv
  have hxl : xs.length = n := by have := hv.1; omega
  go_enter Tryd.func7, Tryd.ntmps7
  go_wp2
  go_loopw [1, 5] (fun q i wr => ∃ m : Nat, m ≤ n ∧ i = .int .i64 m ∧ q = .int .i64 (k + m) ∧ wr.ownsRow base 9 1 (.slice a1 n c1) n (marks k m ++ xs.drop m) ∧ w.grownBy wr (Value.slice a1 n c1).ownBlock) (fun _ i _ => n - (intOf i).toNat)
  case atStart => exact ⟨0, Nat.zero_le _, rfl, by simp, by simpa [marks] using hv, World.grownBy.refl _ _⟩
  case round =>
    obtain ⟨m, hm, rfl, rfl, hr, hg⟩ := hrel
    by_cases hlt : m < n
    · obtain ⟨g, d, he, _, hgl, hnd, _⟩ := row_at hr (by omega)
      cases he
      have hcall := markText_any (k + m) wr (by omega) (by omega)
      go_wp2_with fail
      refine hcall.mono ?_
      rintro e w2 ⟨rfl, hE2⟩
      have hr2 := World.ownsRow.kept hr hE2.grown (.inr (by simp [Value.ownBlock]))
      have hg2 : w.grownBy w2 (Value.slice (some ⟨g, 0, none⟩) n c1).ownBlock := hg.trans (grown_but hE2.grown _)
      have q1 := World.ownsRow.cellAt hr2 m (by omega)
      have q2 := World.ownsRow.frozenAt hr2 m
      have q1' : ∃ u, w2.cell? ⟨g, m, none⟩ = some u := by
        rw [q1]
        exact ⟨_, List.getElem?_eq_getElem (by rw [List.length_append, marks_len, List.length_drop]; omega)⟩
      clear q1
      obtain ⟨u, q1⟩ := q1'
      have hr3 := row_set hr2 m (.string (markT (k + m)))
      rw [set_mid k m xs (by omega)] at hr3
      have hg3 : w.grownBy (w2.setCell ⟨g, m, none⟩ (.string (markT (k + m)))) (Value.slice (some ⟨g, 0, none⟩) n c1).ownBlock := by
        refine hg2.trans ⟨rfl, rfl, rfl, by simp, fun b _ hb => Below.heap_setCell _ _ _ _ (fun e => hb (by simp [Value.ownBlock, e]))⟩
      clear hr hg hr2 hg2 hcall
      generalize markT (k + m) = y at hr3 hg3 ⊢
      go_wp2
      go_roundw
      case rel => exact ⟨m + 1, by omega, by go_num, by go_num, hr3, hg3⟩
      case measure => simp [intOf]; omega
    · obtain rfl : m = n := by omega
      rw [List.drop_of_length_le (by omega), List.append_nil] at hr
      go_wp2
      go_ret
      exact ⟨rfl, hr, hg⟩

set_option maxHeartbeats 1000000 in
theorem heldStringS_any (v : Value) (base : Nat) (n : Nat) (k : Int) (w : World) (hv : w.ownsRow base 9 1 v n (marks k n)) (hn : n ≤ 1048576) (h0 : 0 ≤ k) (h1 : k ≤ 1000000) :
    Calls Tryd.prog 8 #[v, .int .i64 k] w fun e w' => e = .returned (.int .i64 (k + n)) ∧ Ext w w' := by
  obtain ⟨a1, c1, rfl⟩ := row_shape hv
  go_enter Tryd.func8, Tryd.ntmps8
  go_wp2
  go_loopw [1, 5] (fun q i wr => ∃ m : Nat, m ≤ n ∧ i = .int .i64 m ∧ q = .int .i64 (k + m) ∧ Ext w wr) (fun _ i _ => n - (intOf i).toNat)
  case atStart => exact ⟨0, Nat.zero_le _, rfl, by simp, Ext.refl _⟩
  case round =>
    obtain ⟨m, hm, rfl, rfl, hE⟩ := hrel
    by_cases hlt : m < n
    · obtain ⟨g, d, he, _, hgl, hnd, _⟩ := row_at hv (by omega)
      cases he
      have q1 := World.ownsRow.cellAt hv m (by omega)
      rw [marks_at k n m hlt] at q1
      have hcall := fun W => markText_any (k + m) W (by omega) (by omega)
      have q2 := fun W (h : Ext wr W) => ((hE.trans h).cell (p := ⟨g, m, none⟩) hgl).trans q1
      rw [← hE.cell hgl] at q1
      have hone : ∀ W, Ext wr W → Calls Tryd.prog 11 #[.int .i64 (k + m)] W fun e w' => e = .returned (.string (markT (k + m))) ∧ Ext W w' ∧ w'.cell? ⟨g, m, none⟩ = some (.string (markT (k + m))) :=
        fun W hW => (hcall W).mono fun e w' ⟨h1, h2⟩ => ⟨h1, h2, q2 _ (hW.trans h2)⟩
      clear hcall q2 hv
      generalize markT (k + m) = y at q1 hone
      have hdr : Ext wr wr.drew := (Ext.refl _).drew
      go_wp2_with fail
      go_region_with (go_at_call 11; refine (hone _ ?_).mono ?_; exact hdr; rintro e w2 ⟨rfl, hE2, q3⟩)
      all_goals
        go_wp2
        go_roundw
        case rel => exact ⟨m + 1, by omega, by go_num, by go_num, hE.trans (hdr.trans hE2)⟩
        case measure => simp [intOf]; omega
    · obtain rfl : m = n := by omega
      go_wp2
      go_ret
      exact ⟨rfl, hE⟩
end Go.Proofs.YtgfoepodbmlbbaaDoor
