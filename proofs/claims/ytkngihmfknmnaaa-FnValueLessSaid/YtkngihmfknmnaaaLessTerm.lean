/- What impl.lessTerms answers. -/
import Derived.Test.YtkngihmfknmnaaaOrdTerm
import Derived.Test.YtkngihmfknmnaaaTruth
namespace Go.Proofs.Ytkngihmfknmnaaa
open Go.RowKit Go.Deep

def lessT (x y : V) : Option Bool := if lessB x y = true then some (decide (ordT x y < 0)) else none
theorem lessT_no {x y : V} (h : lessB x y = false) : lessT x y = none := by unfold lessT; rw [h]; simp
theorem lessT_yes {x y : V} (h : lessB x y = true) : lessT x y = some (decide (ordT x y < 0)) := by unfold lessT; rw [if_pos h]

def TLs (x : V) : Prop := ∀ (y : V) (S S' : Nat → Prop) (t u : Value) (w : World), TermIn S w x t → TermIn S' w y u →
  Calls Try.prog 21 #[t, u] w fun e w' => e = .returned (tO (lessT x y)) ∧ Ext w w'

theorem rankL_ne {k k' : Int} (hk : k = 0 ∨ k = 1 ∨ k = 2 ∨ k = 3 ∨ k = 4 ∨ k = 5 ∨ k = 6) (hk' : k' = 0 ∨ k' = 1 ∨ k' = 2 ∨ k' = 3 ∨ k' = 4 ∨ k' = 5 ∨ k' = 6) (h : ¬ k = k') : (cmpI (rankB k) (rankB k') == 0) = false := by
  rcases hk with rfl | rfl | rfl | rfl | rfl | rfl | rfl <;> rcases hk' with rfl | rfl | rfl | rfl | rfl | rfl | rfl <;> first | (exact absurd rfl h) | rfl
theorem rankL_eq (k : Int) : cmpI (rankB k) (rankB k) = 0 := by unfold cmpI; simp

set_option maxRecDepth 100000 in
set_option maxHeartbeats 1000000 in
theorem less_null (n : Int) (t : ByteArray) (l : List V) : TLs (.mk 0 n t l) := by
  intro y S S' s u w hx hy
  have hno : lessT (.mk 0 n t l) y = none := lessT_no (by unfold lessB; exact decide_eq_false (fun h => by rcases h.2 with h | h | h <;> (change (0 : Int) = _ at h; omega)))
  rw [hno]
  obtain ⟨ty, z, rfl⟩ := hy.shape
  obtain ⟨z1, hs, _⟩ := hx.ty
  change s = .iface 67 z1 at hs
  subst hs
  have a1 := as_num
  have a2 := as_text
  have a3 := as_bool
  clear hx hy
  go_enter Try.func21, Try.ntmps21
  go_wp2
  go_ret
  first | exact ⟨rfl, Ext.refl _⟩ | exact ⟨rfl, (Ext.refl _).alloc _⟩

set_option maxRecDepth 100000 in
set_option maxHeartbeats 2000000 in
theorem less_bool (n : Int) (t : ByteArray) (l : List V) : TLs (.mk 1 n t l) := by
  intro y S S' s u w hx hy
  obtain ⟨z, hs, _⟩ := hx.ty
  change s = .iface 63 z at hs
  subst hs
  have a1 := as_num
  have a2 := as_text
  have a3 := as_bool
  have hkc : ∀ W, Ext w W → Calls Try.prog 30 #[.iface 63 z, u] W fun e w' => e = .returned (.int .i64 (cmpI (rankB 1) (rankB y.kind))) ∧ w' = W := fun W hW => kinds_any S S' (.mk 1 n t l) y _ _ W (hx.ext hW) (hy.ext hW)
  have hcall : ∀ W, Ext w W → Calls Try.prog 69 #[z, u] W fun e w' => e = .returned (.int .i64 (ordT (.mk 1 n t l) y)) ∧ Ext W w' := fun W hW => order_any (.mk 1 n t l) (by simp [V.kind]) y S S' z u W (hx.ext hW) (hy.ext hW)
  obtain ⟨zz, hu, hk⟩ := hy.ty
  subst hu
  generalize tyF y.kind = ty at hcall hkc ⊢
  have hmeth := meth_bool
  by_cases h : (1 : Int) = y.kind
  · have hyes : lessT (.mk 1 n t l) y = some (decide (ordT (.mk 1 n t l) y < 0)) := lessT_yes (by unfold lessB; exact decide_eq_true ⟨h, by simp [V.kind]⟩)
    rw [hyes]
    rw [← h, rankL_eq] at hkc
    clear hx hy h hk hyes
    generalize ordT (.mk 1 n t l) y = r at hcall ⊢
    go_enter Try.func21, Try.ntmps21
    go_wp2_with (first
      | (go_at_call 30; refine (hkc _ (by first | exact Ext.refl _ | exact (Ext.refl _).alloc _)).mono ?_; rintro e w3 ⟨rfl, rfl⟩)
      | (go_at_call 69; refine (hcall _ (by first | exact Ext.refl _ | exact (Ext.refl _).alloc _)).mono ?_; rintro e w4 ⟨rfl, hE4⟩)
      | (go_at_call 31; refine (truth_any _ _).mono ?_; rintro e w5 ⟨rfl, rfl⟩))
    go_ret
    exact ⟨by first | rfl | (simp [tO]), by first | exact hE4 | exact ((Ext.refl _).alloc _).trans hE4⟩
  · have hno : lessT (.mk 1 n t l) y = none := lessT_no (by unfold lessB; exact decide_eq_false (fun hh => h hh.1))
    rw [hno]
    have hz := rankL_ne (k := 1) (by simp) hk h
    generalize cmpI (rankB 1) (rankB y.kind) = r at hkc hz
    clear hx hy h hk hno hcall
    go_enter Try.func21, Try.ntmps21
    go_wp2_with (go_at_call 30; refine (hkc _ (by first | exact Ext.refl _ | exact (Ext.refl _).alloc _)).mono ?_; rintro e w3 ⟨rfl, rfl⟩)
    go_ret
    first | exact ⟨rfl, Ext.refl _⟩ | exact ⟨rfl, (Ext.refl _).alloc _⟩

set_option maxRecDepth 100000 in
set_option maxHeartbeats 2000000 in
theorem less_num (n : Int) (t : ByteArray) (l : List V) : TLs (.mk 2 n t l) := by
  intro y S S' s u w hx hy
  obtain ⟨z, hs, _⟩ := hx.ty
  change s = .iface 61 z at hs
  subst hs
  have a1 := as_num
  have a2 := as_text
  have a3 := as_bool
  have hkc : ∀ W, Ext w W → Calls Try.prog 30 #[.iface 61 z, u] W fun e w' => e = .returned (.int .i64 (cmpI (rankB 2) (rankB y.kind))) ∧ w' = W := fun W hW => kinds_any S S' (.mk 2 n t l) y _ _ W (hx.ext hW) (hy.ext hW)
  have hcall : ∀ W, Ext w W → Calls Try.prog 59 #[z, u] W fun e w' => e = .returned (.int .i64 (ordT (.mk 2 n t l) y)) ∧ Ext W w' := fun W hW => order_any (.mk 2 n t l) (by simp [V.kind]) y S S' z u W (hx.ext hW) (hy.ext hW)
  obtain ⟨zz, hu, hk⟩ := hy.ty
  subst hu
  generalize tyF y.kind = ty at hcall hkc ⊢
  have hmeth := meth_num
  by_cases h : (2 : Int) = y.kind
  · have hyes : lessT (.mk 2 n t l) y = some (decide (ordT (.mk 2 n t l) y < 0)) := lessT_yes (by unfold lessB; exact decide_eq_true ⟨h, by simp [V.kind]⟩)
    rw [hyes]
    rw [← h, rankL_eq] at hkc
    clear hx hy h hk hyes
    generalize ordT (.mk 2 n t l) y = r at hcall ⊢
    go_enter Try.func21, Try.ntmps21
    go_wp2_with (first
      | (go_at_call 30; refine (hkc _ (by first | exact Ext.refl _ | exact (Ext.refl _).alloc _)).mono ?_; rintro e w3 ⟨rfl, rfl⟩)
      | (go_at_call 59; refine (hcall _ (by first | exact Ext.refl _ | exact (Ext.refl _).alloc _)).mono ?_; rintro e w4 ⟨rfl, hE4⟩)
      | (go_at_call 31; refine (truth_any _ _).mono ?_; rintro e w5 ⟨rfl, rfl⟩))
    go_ret
    exact ⟨by first | rfl | (simp [tO]), by first | exact hE4 | exact ((Ext.refl _).alloc _).trans hE4⟩
  · have hno : lessT (.mk 2 n t l) y = none := lessT_no (by unfold lessB; exact decide_eq_false (fun hh => h hh.1))
    rw [hno]
    have hz := rankL_ne (k := 2) (by simp) hk h
    generalize cmpI (rankB 2) (rankB y.kind) = r at hkc hz
    clear hx hy h hk hno hcall
    go_enter Try.func21, Try.ntmps21
    go_wp2_with (go_at_call 30; refine (hkc _ (by first | exact Ext.refl _ | exact (Ext.refl _).alloc _)).mono ?_; rintro e w3 ⟨rfl, rfl⟩)
    go_ret
    first | exact ⟨rfl, Ext.refl _⟩ | exact ⟨rfl, (Ext.refl _).alloc _⟩

set_option maxRecDepth 100000 in
set_option maxHeartbeats 2000000 in
theorem less_text (n : Int) (t : ByteArray) (l : List V) : TLs (.mk 3 n t l) := by
  intro y S S' s u w hx hy
  obtain ⟨z, hs, _⟩ := hx.ty
  change s = .iface 62 z at hs
  subst hs
  have a1 := as_num
  have a2 := as_text
  have a3 := as_bool
  have hkc : ∀ W, Ext w W → Calls Try.prog 30 #[.iface 62 z, u] W fun e w' => e = .returned (.int .i64 (cmpI (rankB 3) (rankB y.kind))) ∧ w' = W := fun W hW => kinds_any S S' (.mk 3 n t l) y _ _ W (hx.ext hW) (hy.ext hW)
  have hcall : ∀ W, Ext w W → Calls Try.prog 64 #[z, u] W fun e w' => e = .returned (.int .i64 (ordT (.mk 3 n t l) y)) ∧ Ext W w' := fun W hW => order_any (.mk 3 n t l) (by simp [V.kind]) y S S' z u W (hx.ext hW) (hy.ext hW)
  obtain ⟨zz, hu, hk⟩ := hy.ty
  subst hu
  generalize tyF y.kind = ty at hcall hkc ⊢
  have hmeth := meth_text
  by_cases h : (3 : Int) = y.kind
  · have hyes : lessT (.mk 3 n t l) y = some (decide (ordT (.mk 3 n t l) y < 0)) := lessT_yes (by unfold lessB; exact decide_eq_true ⟨h, by simp [V.kind]⟩)
    rw [hyes]
    rw [← h, rankL_eq] at hkc
    clear hx hy h hk hyes
    generalize ordT (.mk 3 n t l) y = r at hcall ⊢
    go_enter Try.func21, Try.ntmps21
    go_wp2_with (first
      | (go_at_call 30; refine (hkc _ (by first | exact Ext.refl _ | exact (Ext.refl _).alloc _)).mono ?_; rintro e w3 ⟨rfl, rfl⟩)
      | (go_at_call 64; refine (hcall _ (by first | exact Ext.refl _ | exact (Ext.refl _).alloc _)).mono ?_; rintro e w4 ⟨rfl, hE4⟩)
      | (go_at_call 31; refine (truth_any _ _).mono ?_; rintro e w5 ⟨rfl, rfl⟩))
    go_ret
    exact ⟨by first | rfl | (simp [tO]), by first | exact hE4 | exact ((Ext.refl _).alloc _).trans hE4⟩
  · have hno : lessT (.mk 3 n t l) y = none := lessT_no (by unfold lessB; exact decide_eq_false (fun hh => h hh.1))
    rw [hno]
    have hz := rankL_ne (k := 3) (by simp) hk h
    generalize cmpI (rankB 3) (rankB y.kind) = r at hkc hz
    clear hx hy h hk hno hcall
    go_enter Try.func21, Try.ntmps21
    go_wp2_with (go_at_call 30; refine (hkc _ (by first | exact Ext.refl _ | exact (Ext.refl _).alloc _)).mono ?_; rintro e w3 ⟨rfl, rfl⟩)
    go_ret
    first | exact ⟨rfl, Ext.refl _⟩ | exact ⟨rfl, (Ext.refl _).alloc _⟩

set_option maxRecDepth 100000 in
set_option maxHeartbeats 1000000 in
theorem less_list (n : Int) (t : ByteArray) (l : List V) : TLs (.mk 4 n t l) := by
  intro y S S' s u w hx hy
  have hno : lessT (.mk 4 n t l) y = none := lessT_no (by unfold lessB; exact decide_eq_false (fun h => by rcases h.2 with h | h | h <;> (change (4 : Int) = _ at h; omega)))
  rw [hno]
  obtain ⟨ty, z, rfl⟩ := hy.shape
  obtain ⟨z1, hs, _⟩ := hx.ty
  change s = .iface 76 z1 at hs
  subst hs
  have a1 := as_num
  have a2 := as_text
  have a3 := as_bool
  clear hx hy
  go_enter Try.func21, Try.ntmps21
  go_wp2
  go_ret
  first | exact ⟨rfl, Ext.refl _⟩ | exact ⟨rfl, (Ext.refl _).alloc _⟩

set_option maxRecDepth 100000 in
set_option maxHeartbeats 1000000 in
theorem less_node (n : Int) (t : ByteArray) (l : List V) : TLs (.mk 5 n t l) := by
  intro y S S' s u w hx hy
  have hno : lessT (.mk 5 n t l) y = none := lessT_no (by unfold lessB; exact decide_eq_false (fun h => by rcases h.2 with h | h | h <;> (change (5 : Int) = _ at h; omega)))
  rw [hno]
  obtain ⟨ty, z, rfl⟩ := hy.shape
  obtain ⟨z1, hs, _⟩ := hx.ty
  change s = .iface 72 z1 at hs
  subst hs
  have a1 := as_num
  have a2 := as_text
  have a3 := as_bool
  clear hx hy
  go_enter Try.func21, Try.ntmps21
  go_wp2
  go_ret
  first | exact ⟨rfl, Ext.refl _⟩ | exact ⟨rfl, (Ext.refl _).alloc _⟩

set_option maxRecDepth 100000 in
set_option maxHeartbeats 1000000 in
theorem less_edge (n : Int) (t : ByteArray) (l : List V) : TLs (.mk 6 n t l) := by
  intro y S S' s u w hx hy
  have hno : lessT (.mk 6 n t l) y = none := lessT_no (by unfold lessB; exact decide_eq_false (fun h => by rcases h.2 with h | h | h <;> (change (6 : Int) = _ at h; omega)))
  rw [hno]
  obtain ⟨ty, z, rfl⟩ := hy.shape
  obtain ⟨z1, hs, _⟩ := hx.ty
  change s = .iface 73 z1 at hs
  subst hs
  have a1 := as_num
  have a2 := as_text
  have a3 := as_bool
  clear hx hy
  go_enter Try.func21, Try.ntmps21
  go_wp2
  go_ret
  first | exact ⟨rfl, Ext.refl _⟩ | exact ⟨rfl, (Ext.refl _).alloc _⟩

theorem less_any (x : V) (hk : x.kind = 0 ∨ x.kind = 1 ∨ x.kind = 2 ∨ x.kind = 3 ∨ x.kind = 4 ∨ x.kind = 5 ∨ x.kind = 6) : TLs x := by
  obtain ⟨k, n, t, l⟩ := x
  rcases hk with h | h | h | h | h | h | h <;> change k = _ at h <;> subst h
  · exact less_null n t l
  · exact less_bool n t l
  · exact less_num n t l
  · exact less_text n t l
  · exact less_list n t l
  · exact less_node n t l
  · exact less_edge n t l
end Go.Proofs.Ytkngihmfknmnaaa
