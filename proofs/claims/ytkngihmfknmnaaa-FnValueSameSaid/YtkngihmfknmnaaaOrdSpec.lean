/- What spec.l1Order answers. -/
import Derived.Test.YtkngihmfknmnaaaOrdCmp
import Derived.Test.YtkngihmfknmnaaaBoxes
import Derived.BigRegion
import Derived.Deep.RegionWith
namespace Go.Proofs.Ytkngihmfknmnaaa
open Go.RowKit Go.Deep

def rankS (k : Int) : Int := if k = 0 then 6 else if k = 1 then 4 else if k = 2 then 5 else if k = 3 then 3 else if k = 4 then 2 else if k = 5 then 0 else if k = 6 then 1 else 7

set_option maxHeartbeats 400000 in
theorem l1Ints_any (a b : Int) (w : World) : Calls Try.prog 41 #[.int .i64 a, .int .i64 b] w fun e w' => e = .returned (.int .i64 (cmpI a b)) ∧ w' = w := by
  go_enter Try.func41, Try.ntmps41
  go_wp2
  all_goals go_ret
  all_goals exact ⟨ret_int (by unfold cmpI; split <;> (try split) <;> omega), rfl⟩

set_option maxHeartbeats 1000000 in
theorem l1Rank_any (k : Int) (w : World) : Calls Try.prog 42 #[.int .i64 k] w fun e w' => e = .returned (.int .i64 (rankS k)) ∧ Ext w w' := by
  by_cases hin : 0 ≤ k ∧ k ≤ 6
  · have hb : Hid (inB k 0 6 = true) := decide_eq_true hin
    have hk : k = 0 ∨ k = 1 ∨ k = 2 ∨ k = 3 ∨ k = 4 ∨ k = 5 ∨ k = 6 := by omega
    clear hin hb
    rcases hk with rfl | rfl | rfl | rfl | rfl | rfl | rfl
    all_goals
      go_enter Try.func42, Try.ntmps42
      go_wp2
      go_ret
      exact ⟨rfl, (Ext.refl _).alloc _⟩
  · have hb : inB k 0 6 = false := decide_eq_false hin
    have hfin : Hid (rankS k = 7) := by
      show _ = _
      unfold rankS
      rw [if_neg (by omega), if_neg (by omega), if_neg (by omega), if_neg (by omega), if_neg (by omega), if_neg (by omega), if_neg (by omega)]
    clear hin
    go_enter Try.func42, Try.ntmps42
    go_wp2_with (go_at_call 34; refine (l1In_any _ _ _ _).mono ?_; rintro e w' ⟨rfl, rfl⟩)
    go_ret
    exact ⟨ret_int hfin.out.symm, (Ext.refl _).alloc _⟩

mutual
def ordV : V → V → Int
  | .mk k n t l, .mk k' n' t' l' => if ¬ k = k' then cmpI (rankS k) (rankS k') else if k = 3 then cmpT t t' else if k = 4 then ordVL l l' else cmpI n n'
def ordVL : List V → List V → Int
  | [], [] => 0
  | [], _ :: _ => -1
  | _ :: _, [] => 1
  | a :: r, b :: r' => if ordV a b = 0 then ordVL r r' else ordV a b
end

theorem ordVL_nil_nil : ordVL [] [] = 0 := by unfold ordVL; rfl
theorem ordVL_skip : ∀ (k : Nat) (a b : List V), k ≤ a.length → k ≤ b.length → (∀ j (h1 : j < a.length) (h2 : j < b.length), j < k → ordV a[j] b[j] = 0) → ordVL a b = ordVL (a.drop k) (b.drop k)
  | 0, a, b, _, _, _ => rfl
  | k + 1, [], b, h, _, _ => by simp at h
  | k + 1, a :: r, [], _, h, _ => by simp at h
  | k + 1, x :: r, y :: r', h1, h2, h => by
    have h0 := h 0 (by simp) (by simp) (by omega)
    simp at h0
    have ih := ordVL_skip k r r' (by simpa using h1) (by simpa using h2) (fun j g1 g2 hj => by have := h (j + 1) (by simpa using g1) (by simpa using g2) (by omega); simpa using this)
    rw [ordVL, if_pos h0, ih]; rfl
theorem ordVL_at (k : Nat) (a b : List V) (h1 : k < a.length) (h2 : k < b.length) (h : ∀ j (h1 : j < a.length) (h2 : j < b.length), j < k → ordV a[j] b[j] = 0) (hk : ¬ ordV a[k] b[k] = 0) : ordVL a b = ordV a[k] b[k] := by
  rw [ordVL_skip k a b (by omega) (by omega) h, List.drop_eq_getElem_cons h1, List.drop_eq_getElem_cons h2, ordVL, if_neg hk]
theorem ordVL_end (k : Nat) (a b : List V) (h1 : k ≤ a.length) (h2 : k ≤ b.length) (hk : ¬ (k < a.length ∧ k < b.length)) (h : ∀ j (h1 : j < a.length) (h2 : j < b.length), j < k → ordV a[j] b[j] = 0) : ordVL a b = cmpI a.length b.length := by
  rw [ordVL_skip k a b h1 h2 h]
  by_cases e1 : k < a.length
  · have e2 : b.drop k = [] := List.drop_of_length_le (by omega)
    rw [List.drop_eq_getElem_cons e1, e2]
    unfold ordVL cmpI
    rw [if_neg (by omega), if_pos (by omega)]
  · rw [List.drop_of_length_le (l := a) (by omega)]
    by_cases e3 : k < b.length
    · rw [List.drop_eq_getElem_cons e3]
      unfold ordVL cmpI
      rw [if_pos (by omega)]
    · rw [List.drop_of_length_le (l := b) (by omega), ordVL_nil_nil]
      unfold cmpI
      rw [if_neg (by omega), if_neg (by omega)]

def SO (x : V) : Prop := ∀ (y : V) (lo lo' : Nat) (u v : Value) (w : World), ValIn lo w x u → ValIn lo' w y v →
  Calls Try.prog 33 #[u, v] w fun e w' => e = .returned (.int .i64 (ordV x y)) ∧ Ext w w'

set_option maxRecDepth 100000 in
set_option maxHeartbeats 2000000 in
theorem l1Order_other (k n : Int) (t : ByteArray) (l : List V) (k' n' : Int) (t' : ByteArray) (l' : List V) (a a' : Option Addr) (c c' : Nat) (w : World) (hk : ¬ k = k') :
    Calls Try.prog 33 #[.agg #[.int .i64 k, .int .i64 n, .string t, .slice a l.length c], .agg #[.int .i64 k', .int .i64 n', .string t', .slice a' l'.length c']] w fun e w' => e = .returned (.int .i64 (cmpI (rankS k) (rankS k'))) ∧ Ext w w' := by
  have hkk : (k == k') = false := by simp [hk]
  have hB : Ext w ((w.alloc (.cells #[.int .i64 k, .int .i64 n, .string t, .slice a l.length c] 25)).alloc (.cells #[.int .i64 k', .int .i64 n', .string t', .slice a' l'.length c'] 25)) := ((Ext.refl _).alloc _).alloc _
  have hX : Ext ((w.alloc (.cells #[.int .i64 k, .int .i64 n, .string t, .slice a l.length c] 25)).alloc (.cells #[.int .i64 k', .int .i64 n', .string t', .slice a' l'.length c'] 25)) ((w.alloc (.cells #[.int .i64 k, .int .i64 n, .string t, .slice a l.length c] 25)).alloc (.cells #[.int .i64 k', .int .i64 n', .string t', .slice a' l'.length c'] 25)).drew := (Ext.refl _).drew
  clear hk
  go_enter Try.func33, Try.ntmps33
  go_wp2_with fail
  go_region_with (first
    | (go_at_call 42
       refine (l1Rank_any _ _).mono ?_
       rintro e w1 ⟨rfl, hE⟩
       replace hX := hX.trans hE
       obtain ⟨⟨p0, _, _, _⟩, ⟨q0, _, _, _⟩⟩ := box42 hX
       clear hE)
    | (go_at_call 41
       refine (l1Ints_any _ _ _).mono ?_
       rintro e w1 ⟨rfl, rfl⟩))
  all_goals
    go_wp2
    go_ret
    exact ⟨rfl, hB.trans hX⟩
end Go.Proofs.Ytkngihmfknmnaaa
