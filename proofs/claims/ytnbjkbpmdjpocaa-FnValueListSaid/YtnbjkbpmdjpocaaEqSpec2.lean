/- What spec.l1Equal and spec.ValueEqual answer. -/
import Derived.Test.YtnbjkbpmdjpocaaEqSpec
namespace Go.Proofs.Ytnbjkbpmdjpocaa
open Go.RowKit Go.Deep

mutual
def eqV : V → V → Option Bool
  | .mk k n t l, .mk k' n' t' l' => if k = 0 ∨ k' = 0 then none else if ¬ k = 4 ∨ ¬ k' = 4 then some (sameV (.mk k n t l) (.mk k' n' t' l')) else if ¬ l.length = l'.length then some false else eqVL l l' true
def eqVL : List V → List V → Bool → Option Bool
  | a :: r, b :: r', known => match eqV a b with
    | some false => some false
    | some true => eqVL r r' known
    | none => eqVL r r' false
  | _, _, known => if known then some true else none
end

def kO : Option Bool → Int
  | none => 0
  | some _ => 1
def nO : Option Bool → Int
  | some true => 1
  | _ => 0

theorem eqVL_end (k : Nat) (l l' : List V) (b : Bool) (h : l.length ≤ k) : eqVL (l.drop k) (l'.drop k) b = if b then some true else none := by
  rw [List.drop_of_length_le h]
  unfold eqVL
  rfl
theorem eqVL_none {k : Nat} {l l' : List V} (b : Bool) (h1 : k < l.length) (h2 : k < l'.length) (h : eqV l[k] l'[k] = none) : eqVL (l.drop k) (l'.drop k) b = eqVL (l.drop (k + 1)) (l'.drop (k + 1)) false := by
  rw [List.drop_eq_getElem_cons h1, List.drop_eq_getElem_cons h2]
  conv => lhs; unfold eqVL
  rw [h]
theorem eqVL_true {k : Nat} {l l' : List V} (b : Bool) (h1 : k < l.length) (h2 : k < l'.length) (h : eqV l[k] l'[k] = some true) : eqVL (l.drop k) (l'.drop k) b = eqVL (l.drop (k + 1)) (l'.drop (k + 1)) b := by
  rw [List.drop_eq_getElem_cons h1, List.drop_eq_getElem_cons h2]
  conv => lhs; unfold eqVL
  rw [h]
theorem eqVL_false {k : Nat} {l l' : List V} (b : Bool) (h1 : k < l.length) (h2 : k < l'.length) (h : eqV l[k] l'[k] = some false) : eqVL (l.drop k) (l'.drop k) b = some false := by
  rw [List.drop_eq_getElem_cons h1, List.drop_eq_getElem_cons h2]
  unfold eqVL
  rw [h]

def SE (x : V) : Prop := ∀ (y : V) (lo lo' : Nat) (u v : Value) (w : World), ValIn lo w x u → ValIn lo' w y v →
  Calls Try.prog 25 #[u, v] w fun e w' => e = .returned (flat (kO (eqV x y)) (nO (eqV x y))) ∧ Ext w w'

theorem box43 {w W : World} {c0 c1 c2 c3 d0 d1 d2 d3 : Value} {T T' T'' : TypeId} (h : Ext (((w.alloc (.cells #[c0, c1, c2, c3] T)).alloc (.cells #[d0, d1, d2, d3] T')).alloc (.cells #[.int .i64 0, .int .i64 0, .string ⟨#[]⟩, .slice none 0 0] T'')) W) :
    W.cell? ⟨w.heap.size, 3, none⟩ = some c3 ∧ W.cell? ⟨w.heap.size + 1, 3, none⟩ = some d3 ∧ NewBox w W (w.heap.size + 2) := by
  have h2 := box42 (((Ext.refl ((w.alloc (.cells #[c0, c1, c2, c3] T)).alloc (.cells #[d0, d1, d2, d3] T'))).alloc (.cells #[.int .i64 0, .int .i64 0, .string ⟨#[]⟩, .slice none 0 0] T'')).trans h)
  have h3 := NewBox.mk' (BW := w) (((Ext.refl _).alloc _).alloc _) h
  simp only [World.size_alloc] at h3
  exact ⟨h2.1.2.2.2, h2.2.2.2.2, h3⟩

set_option maxRecDepth 100000 in
set_option maxHeartbeats 2000000 in
theorem l1Equal_null (k n : Int) (t : ByteArray) (l : List V) (k' n' : Int) (t' : ByteArray) (l' : List V) (a a' : Option Addr) (c c' : Nat) (w : World) (h : k = 0 ∨ k' = 0) :
    Calls Try.prog 25 #[.agg #[.int .i64 k, .int .i64 n, .string t, .slice a l.length c], .agg #[.int .i64 k', .int .i64 n', .string t', .slice a' l'.length c']] w fun e w' => e = .returned (flat 0 0) ∧ Ext w w' := by
  by_cases h0 : k = 0
  · subst h0
    clear h
    go_enter Try.func25, Try.ntmps25
    go_wp2
    exact bodyPost_ret (v := flat 0 0) (by simp [flat, results, Try.results25, go_sem]) rfl ⟨rfl, (((Ext.refl _).alloc _).alloc _).alloc _⟩
  · obtain rfl : k' = 0 := h.resolve_left h0
    have e0 : (k == 0) = false := by simp [h0]
    clear h h0
    go_enter Try.func25, Try.ntmps25
    go_wp2
    exact bodyPost_ret (v := flat 0 0) (by simp [flat, results, Try.results25, go_sem]) rfl ⟨rfl, (((Ext.refl _).alloc _).alloc _).alloc _⟩

set_option maxRecDepth 100000 in
set_option maxHeartbeats 4000000 in
theorem l1Equal_one (k n : Int) (t : ByteArray) (l : List V) (k' n' : Int) (t' : ByteArray) (l' : List V) (a a' : Option Addr) (c c' : Nat) (w : World) (r : Bool) (h0 : ¬ k = 0) (h0' : ¬ k' = 0) (h4 : ¬ k = 4 ∨ ¬ k' = 4)
    (c3 : ∀ W, Ext w W → Calls Try.prog 41 #[.agg #[.int .i64 k, .int .i64 n, .string t, .slice a l.length c], .agg #[.int .i64 k', .int .i64 n', .string t', .slice a' l'.length c']] W fun e w' => e = .returned (.bool r) ∧ Ext W w') :
    Calls Try.prog 25 #[.agg #[.int .i64 k, .int .i64 n, .string t, .slice a l.length c], .agg #[.int .i64 k', .int .i64 n', .string t', .slice a' l'.length c']] w fun e w' => e = .returned (flat 1 (b01 r)) ∧ Ext w w' := by
  have e0 : (k == 0) = false := by simp [h0]
  have e0' : (k' == 0) = false := by simp [h0']
  by_cases hk4 : k = 4
  · have hk4' : ¬ k' = 4 := h4.resolve_left (fun h => h hk4)
    subst hk4
    have e4 : (k' != 4) = true := by simp [hk4']
    clear h4 h0 h0' hk4' e0
    go_enter Try.func25, Try.ntmps25
    go_wp2_with fail
    refine (c3 _ ((((Ext.refl _).alloc _).alloc _).alloc _)).mono ?_
    rintro e w1 ⟨rfl, hE1⟩
    clear c3
    go_wp2_with fail
    refine (l1Bool_any _ _).mono ?_
    rintro e w2 ⟨rfl, hE2⟩
    have hX := hE1.trans hE2
    obtain ⟨hc, hf⟩ := bcell hX
    simp only [World.size_alloc] at hc hf
    have hE : Ext w w2 := ((((Ext.refl _).alloc _).alloc _).alloc _).trans hX
    unfold flat
    go_wp2
    refine bodyPost_ret (v := flat 1 (b01 r)) (by simp [flat, results, Try.results25, go_sem, hc]) rfl ⟨rfl, ?_⟩
    exact (((hE.setCell (by dsimp only; omega) _).setCell (by dsimp only; omega) _).setCell (by dsimp only; omega) _).setCell (by dsimp only; omega) _
  · have e4 : (k != 4) = true := by simp [hk4]
    clear h4 h0 h0' hk4
    go_enter Try.func25, Try.ntmps25
    go_wp2_with fail
    refine (c3 _ ((((Ext.refl _).alloc _).alloc _).alloc _)).mono ?_
    rintro e w1 ⟨rfl, hE1⟩
    clear c3
    go_wp2_with fail
    refine (l1Bool_any _ _).mono ?_
    rintro e w2 ⟨rfl, hE2⟩
    have hX := hE1.trans hE2
    obtain ⟨hc, hf⟩ := bcell hX
    simp only [World.size_alloc] at hc hf
    have hE : Ext w w2 := ((((Ext.refl _).alloc _).alloc _).alloc _).trans hX
    unfold flat
    go_wp2
    refine bodyPost_ret (v := flat 1 (b01 r)) (by simp [flat, results, Try.results25, go_sem, hc]) rfl ⟨rfl, ?_⟩
    exact (((hE.setCell (by dsimp only; omega) _).setCell (by dsimp only; omega) _).setCell (by dsimp only; omega) _).setCell (by dsimp only; omega) _

set_option maxRecDepth 100000 in
set_option maxHeartbeats 4000000 in
theorem l1Equal_long (n : Int) (t : ByteArray) (l : List V) (n' : Int) (t' : ByteArray) (l' : List V) (a a' : Option Addr) (c c' : Nat) (w : World) (hlen : ¬ l.length = l'.length) :
    Calls Try.prog 25 #[.agg #[.int .i64 4, .int .i64 n, .string t, .slice a l.length c], .agg #[.int .i64 4, .int .i64 n', .string t', .slice a' l'.length c']] w fun e w' => e = .returned (flat 1 0) ∧ Ext w w' := by
  have e0 : ((l.length : Int) != (l'.length : Int)) = true := by simp; omega
  clear hlen
  go_enter Try.func25, Try.ntmps25
  go_wp2_with fail
  refine (l1Bool_any _ _).mono ?_
  rintro e w2 ⟨rfl, hX⟩
  obtain ⟨hc, hf⟩ := bcell hX
  simp only [World.size_alloc] at hc hf
  have hE : Ext w w2 := ((((Ext.refl _).alloc _).alloc _).alloc _).trans hX
  unfold flat
  go_wp2
  refine bodyPost_ret (v := flat 1 0) (by simp [flat, b01, results, Try.results25, go_sem, hc]) rfl ⟨rfl, ?_⟩
  exact (((hE.setCell (by dsimp only; omega) _).setCell (by dsimp only; omega) _).setCell (by dsimp only; omega) _).setCell (by dsimp only; omega) _
end Go.Proofs.Ytnbjkbpmdjpocaa
