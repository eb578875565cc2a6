/- What spec.l1Order answers of two values of one kind; of all. -/
import Derived.Test.YtkngihmfknmnaaaOrdSpec
import Derived.Test.YtkngihmfknmnaaaValL1Ok
namespace Go.Proofs.Ytkngihmfknmnaaa
open Go.RowKit Go.Deep

set_option maxRecDepth 100000 in
set_option maxHeartbeats 2000000 in
theorem l1Order_num (k n : Int) (t : ByteArray) (l : List V) (n' : Int) (t' : ByteArray) (l' : List V) (a a' : Option Addr) (c c' : Nat) (w : World) (h3 : ¬ k = 3) (h4 : ¬ k = 4) :
    Calls Try.prog 33 #[.agg #[.int .i64 k, .int .i64 n, .string t, .slice a l.length c], .agg #[.int .i64 k, .int .i64 n', .string t', .slice a' l'.length c']] w fun e w' => e = .returned (.int .i64 (cmpI n n')) ∧ Ext w w' := by
  have e3 : (k == 3) = false := by simp [h3]
  have e4 : (k == 4) = false := by simp [h4]
  clear h3 h4
  go_enter Try.func33, Try.ntmps33
  go_wp2_with (go_at_call 41; refine (l1Ints_any _ _ _).mono ?_; rintro e w' ⟨rfl, rfl⟩)
  go_ret
  exact ⟨rfl, ((Ext.refl _).alloc _).alloc _⟩

set_option maxRecDepth 100000 in
set_option maxHeartbeats 2000000 in
theorem l1Order_text (n : Int) (t : ByteArray) (l : List V) (n' : Int) (t' : ByteArray) (l' : List V) (a a' : Option Addr) (c c' : Nat) (w : World) :
    Calls Try.prog 33 #[.agg #[.int .i64 3, .int .i64 n, .string t, .slice a l.length c], .agg #[.int .i64 3, .int .i64 n', .string t', .slice a' l'.length c']] w fun e w' => e = .returned (.int .i64 (cmpT t t')) ∧ Ext w w' := by
  go_enter Try.func33, Try.ntmps33
  go_wp2
  all_goals go_ret
  all_goals exact ⟨ret_int (by simp [cmpT, *]), ((Ext.refl _).alloc _).alloc _⟩

set_option maxRecDepth 100000 in
set_option maxHeartbeats 4000000 in
theorem l1Order_list (n : Int) (t : ByteArray) (l : List V) (n' : Int) (t' : ByteArray) (l' : List V) (ih : ∀ i (hi : i < l.length), SO l[i]) (a a' : Option Addr) (c c' lo lo' : Nat) (w : World)
    (hL : ListIn lo w l (.slice a l.length c)) (hL' : ListIn lo' w l' (.slice a' l'.length c')) :
    Calls Try.prog 33 #[.agg #[.int .i64 4, .int .i64 n, .string t, .slice a l.length c], .agg #[.int .i64 4, .int .i64 n', .string t', .slice a' l'.length c']] w fun e w' => e = .returned (.int .i64 (ordVL l l')) ∧ Ext w w' := by
  have hm : l.length ≤ maxLen := by obtain ⟨_, _, _, _, _, _, _, _, _, h, _⟩ := hL; exact h
  have hm' : l'.length ≤ maxLen := by obtain ⟨_, _, _, _, _, _, _, _, _, h, _⟩ := hL'; exact h
  unfold maxLen at hm hm'
  have hB : Ext w ((w.alloc (.cells #[.int .i64 4, .int .i64 n, .string t, .slice a l.length c] 25)).alloc (.cells #[.int .i64 4, .int .i64 n', .string t', .slice a' l'.length c'] 25)) := ((Ext.refl _).alloc _).alloc _
  go_enter Try.func33, Try.ntmps33
  go_wp2
  generalize hW1 : (w.alloc _).alloc _ = W1 at hB ⊢
  have hbox : ∀ wr, Ext W1 wr → wr.cell? ⟨w.heap.size, 3, none⟩ = some (.slice a l.length c) ∧ wr.cell? ⟨w.heap.size + 1, 3, none⟩ = some (.slice a' l'.length c') := by
    intro wr h
    subst hW1
    exact ⟨(box42 h).1.2.2.2, (box42 h).2.2.2.2⟩
  clear hW1
  go_loopw [5] (fun i wr => ∃ k : Nat, k ≤ l.length ∧ k ≤ l'.length ∧ i = .int .i64 k ∧ Ext W1 wr ∧ ∀ j (h1 : j < l.length) (h2 : j < l'.length), j < k → ordV l[j] l'[j] = 0) (fun i _ => l.length - (intOf i).toNat)
  case atStart => exact ⟨0, Nat.zero_le _, Nat.zero_le _, rfl, Ext.refl _, fun j _ _ h => by omega⟩
  case round =>
    obtain ⟨k, hk, hk2, rfl, hE, hall⟩ := hrel
    obtain ⟨p3, q3⟩ := hbox _ hE
    have hE0 := hB.trans hE
    by_cases hlt : k < l.length
    · by_cases hlt2 : k < l'.length
      · obtain ⟨cap3, b, off, hsl, _, _, hcs⟩ := (hL.ext hE0).at (by omega)
        cases hsl
        obtain ⟨cap4, b2, off2, hsl, _, _, hcs2⟩ := (hL'.ext hE0).at (by omega)
        cases hsl
        obtain ⟨d0, d1, d2, d3, g0, g1, g2, g3, hx⟩ := hcs k hlt
        obtain ⟨f0, f1, f2, f3, i0, i1, i2, i3, hy⟩ := hcs2 k hlt2
        clear hcs hcs2
        have hcall := ih k hlt l'[k] lo lo' _ _ wr.drew (hx.ext (Ext.refl _).drew) (hy.ext (Ext.refl _).drew)
        have HA : Hid (∀ j (h1 : j < l.length) (h2 : j < l'.length), j < k → ordV l[j] l'[j] = 0) := hall
        clear hall ih hx hy hbox
        generalize hr : ordV l[k] l'[k] = r at hcall
        have HR : Hid (ordV l[k] l'[k] = r) := hr
        clear hr
        go_wp2_with fail
        go_region_with (go_at_call 33; refine hcall.mono ?_; rintro e w' ⟨rfl, hE2⟩)
        all_goals
          by_cases hr0 : r = 0
          · subst hr0
            go_wp2
            go_roundw
            case rel =>
              refine ⟨k + 1, by omega, by omega, by go_num, hE.drew.trans hE2, fun j h1 h2 h => ?_⟩
              rcases Nat.lt_succ_iff_lt_or_eq.1 h with h' | h'
              · exact HA.out j h1 h2 h'
              · subst h'; exact HR.out
            case measure => simp [intOf]; omega
          · have hr1 : (r == 0) = false := by simp [hr0]
            have hfin : Hid (ordVL l l' = r) := by rw [← HR.out]; exact ordVL_at k l l' hlt hlt2 HA.out (by rw [HR.out]; exact hr0)
            go_wp2
            go_ret
            exact ⟨ret_int hfin.out.symm, hE0.drew.trans hE2⟩
      · have hfin : Hid (ordVL l l' = cmpI l.length l'.length) := ordVL_end k l l' hk hk2 (by omega) hall
        clear hall ih hbox
        go_wp2_with (go_at_call 41; refine (l1Ints_any _ _ _).mono ?_; rintro e w' ⟨rfl, rfl⟩)
        go_ret
        exact ⟨ret_int hfin.out.symm, hE0⟩
    · have hfin : Hid (ordVL l l' = cmpI l.length l'.length) := ordVL_end k l l' hk hk2 (by omega) hall
      clear hall ih hbox
      go_wp2_with (go_at_call 41; refine (l1Ints_any _ _ _).mono ?_; rintro e w' ⟨rfl, rfl⟩)
      go_ret
      exact ⟨ret_int hfin.out.symm, hE0⟩

theorem l1Order_any : ∀ x, SO x := by
  refine V.ind fun k n t l ih => ?_
  intro y lo lo' u v w hu hv
  obtain ⟨k', n', t', l'⟩ := y
  obtain ⟨a, c, rfl, _, _, _, _, hL⟩ := hu.open
  obtain ⟨a', c', rfl, _, _, _, _, hL'⟩ := hv.open
  by_cases hk : k = k'
  · subst hk
    by_cases h3 : k = 3
    · subst h3
      have e : ordV (.mk 3 n t l) (.mk 3 n' t' l') = cmpT t t' := by unfold ordV; rfl
      rw [e]; exact l1Order_text n t l n' t' l' a a' c c' w
    by_cases h4 : k = 4
    · subst h4
      have e : ordV (.mk 4 n t l) (.mk 4 n' t' l') = ordVL l l' := by unfold ordV; rfl
      rw [e]; exact l1Order_list n t l n' t' l' ih a a' c c' lo lo' w hL hL'
    have e : ordV (.mk k n t l) (.mk k n' t' l') = cmpI n n' := by unfold ordV; rw [if_neg (fun h => h rfl), if_neg h3, if_neg h4]
    rw [e]; exact l1Order_num k n t l n' t' l' a a' c c' w h3 h4
  · have e : ordV (.mk k n t l) (.mk k' n' t' l') = cmpI (rankS k) (rankS k') := by unfold ordV; rw [if_pos hk]
    rw [e]; exact l1Order_other k n t l k' n' t' l' a a' c c' w hk

def ordOk (x y : V) : Int := if okN 3 x = true ∧ okN 3 y = true then ordV x y else 0

end Go.Proofs.Ytkngihmfknmnaaa
