/- What spec.l1Same answers. -/
import Derived.Test.YtjcbcfpdgdaffaaDoorBoxes
import Derived.BigRegion
import Derived.Deep.RegionWith
namespace Go.Proofs.YtjcbcfpdgdaffaaDoor
open Go.RowKit Go.Deep

mutual
def sameV : V → V → Bool
  | .mk k n t l, .mk k' n' t' l' => decide (k = k') && decide (n = n') && (t.toList == t'.toList) && sameVL l l'
def sameVL : List V → List V → Bool
  | [], [] => true
  | [], _ :: _ => false
  | _ :: _, [] => false
  | a :: r, b :: r' => sameV a b && sameVL r r'
end

theorem sameVL_length : ∀ (l l' : List V), sameVL l l' = true → l.length = l'.length
  | [], [], _ => rfl
  | [], _ :: _, h => by unfold sameVL at h; cases h
  | _ :: _, [], h => by unfold sameVL at h; cases h
  | a :: r, b :: r', h => by
    unfold sameVL at h
    rw [Bool.and_eq_true] at h
    simp [sameVL_length r r' h.2]
theorem sameVL_at : ∀ (k : Nat) (l l' : List V) (h1 : k < l.length) (h2 : k < l'.length), sameV l[k] l'[k] = false → sameVL l l' = false
  | _, [], _, h, _, _ => by simp at h
  | _, _ :: _, [], _, h, _ => by simp at h
  | 0, a :: r, b :: r', _, _, h => by simp at h; unfold sameVL; rw [h]; rfl
  | k + 1, a :: r, b :: r', h1, h2, h => by
    have := sameVL_at k r r' (by simpa using h1) (by simpa using h2) (by simpa using h)
    unfold sameVL
    rw [this]; simp
theorem sameVL_all : ∀ (l l' : List V), l.length = l'.length → (∀ j (h1 : j < l.length) (h2 : j < l'.length), sameV l[j] l'[j] = true) → sameVL l l' = true
  | [], [], _, _ => by unfold sameVL; rfl
  | [], _ :: _, h, _ => by simp at h
  | _ :: _, [], h, _ => by simp at h
  | a :: r, b :: r', h, hall => by
    have h0 := hall 0 (by simp) (by simp)
    simp at h0
    have := sameVL_all r r' (by simpa using h) (fun j h1 h2 => by have := hall (j + 1) (by simpa using h1) (by simpa using h2); simpa using this)
    unfold sameVL
    rw [h0, this]; rfl

def SS (x : V) : Prop := ∀ (y : V) (lo lo' : Nat) (u v : Value) (w : World), ValIn lo w x u → ValIn lo' w y v →
  Calls Tryd.prog 20 #[u, v] w fun e w' => e = .returned (.bool (sameV x y)) ∧ Ext w w'

set_option maxRecDepth 100000 in
set_option maxHeartbeats 4000000 in
theorem l1Same_any : ∀ x, SS x := by
  refine V.ind fun k n t l ih => ?_
  intro y lo lo' u v w hu hv
  obtain ⟨k', n', t', l'⟩ := y
  obtain ⟨a, c, rfl, _, _, _, hm, hL⟩ := hu.open
  obtain ⟨a', c', rfl, _, _, _, hm', hL'⟩ := hv.open
  clear hu hv
  by_cases hk : k = k'
  case neg =>
    have e0 : (k != k') = true := by simp [hk]
    have hfin : Hid (sameV (.mk k n t l) (.mk k' n' t' l') = false) := by show _ = _; unfold sameV; simp [hk]
    clear hk ih hL hL'
    go_enter Tryd.func20, Tryd.ntmps20
    go_wp2
    go_ret
    exact ⟨ret_bool hfin.out.symm, ((Ext.refl _).alloc _).alloc _⟩
  subst hk
  by_cases hn : n = n'
  case neg =>
    have e0 : (n != n') = true := by simp [hn]
    have hfin : Hid (sameV (.mk k n t l) (.mk k n' t' l') = false) := by show _ = _; unfold sameV; simp [hn]
    clear hn ih hL hL'
    go_enter Tryd.func20, Tryd.ntmps20
    go_wp2
    go_ret
    exact ⟨ret_bool hfin.out.symm, ((Ext.refl _).alloc _).alloc _⟩
  subst hn
  by_cases ht : (t.toList == t'.toList) = true
  case neg =>
    have e0 : (t.toList == t'.toList) = false := by simpa using ht
    have hfin : Hid (sameV (.mk k n t l) (.mk k n t' l') = false) := by show _ = _; unfold sameV; rw [e0]; simp
    clear ht ih hL hL'
    go_enter Tryd.func20, Tryd.ntmps20
    go_wp2
    go_ret
    exact ⟨ret_bool hfin.out.symm, ((Ext.refl _).alloc _).alloc _⟩
  unfold maxLen at hm hm'
  by_cases hlen : l.length = l'.length
  case neg =>
    have e0 : ((l.length : Int) != (l'.length : Int)) = true := by simp; omega
    have hfin : Hid (sameV (.mk k n t l) (.mk k n t' l') = false) := by
      show _ = _
      unfold sameV
      cases h : sameVL l l'
      · simp
      · exact absurd (sameVL_length _ _ h) hlen
    clear ih hL hL'
    go_enter Tryd.func20, Tryd.ntmps20
    go_wp2
    go_ret
    exact ⟨ret_bool hfin.out.symm, ((Ext.refl _).alloc _).alloc _⟩
  have HLEN : Hid (l.length = l'.length) := hlen
  clear hlen
  have hB : Ext w ((w.alloc (.cells #[.int .i64 k, .int .i64 n, .string t, .slice a l.length c] 32)).alloc (.cells #[.int .i64 k, .int .i64 n, .string t', .slice a' l'.length c'] 32)) := ((Ext.refl _).alloc _).alloc _
  have hsame : Hid (sameV (.mk k n t l) (.mk k n t' l') = sameVL l l') := by show _ = _; unfold sameV; rw [ht]; simp
  have hl2 : ((l.length : Int) != (l'.length : Int)) = false := by have := HLEN.out; simp; omega
  go_enter Tryd.func20, Tryd.ntmps20
  go_wp2
  generalize hW1 : (w.alloc _).alloc _ = W1 at hB ⊢
  have hbox : ∀ wr, Ext W1 wr → wr.cell? ⟨w.heap.size, 3, none⟩ = some (.slice a l.length c) ∧ wr.cell? ⟨w.heap.size + 1, 3, none⟩ = some (.slice a' l'.length c') := by
    intro wr h
    subst hW1
    exact ⟨(box42 h).1.2.2.2, (box42 h).2.2.2.2⟩
  clear hW1
  go_loopw [5] (fun i wr => ∃ k : Nat, k ≤ l.length ∧ i = .int .i64 k ∧ Ext W1 wr ∧ ∀ j (h1 : j < l.length) (h2 : j < l'.length), j < k → sameV l[j] l'[j] = true) (fun i _ => l.length - (intOf i).toNat)
  case atStart => exact ⟨0, Nat.zero_le _, rfl, Ext.refl _, fun j _ _ h => by omega⟩
  case round =>
    obtain ⟨k, hk, rfl, hE, hall⟩ := hrel
    obtain ⟨p3, q3⟩ := hbox _ hE
    have hE0 := hB.trans hE
    by_cases hlt : k < l.length
    · have hlt2 : k < l'.length := by have := HLEN.out; omega
      obtain ⟨cap3, b, off, hsl, _, _, hcs⟩ := (hL.ext hE0).at (by omega)
      cases hsl
      obtain ⟨cap4, b2, off2, hsl, _, _, hcs2⟩ := (hL'.ext hE0).at (by omega)
      cases hsl
      obtain ⟨d0, d1, d2, d3, g0, g1, g2, g3, hx⟩ := hcs k hlt
      obtain ⟨f0, f1, f2, f3, i0, i1, i2, i3, hy⟩ := hcs2 k hlt2
      clear hcs hcs2
      have hcall := ih k hlt l'[k] lo lo' _ _ wr.drew (hx.ext (Ext.refl _).drew) (hy.ext (Ext.refl _).drew)
      have HA : Hid (∀ j (h1 : j < l.length) (h2 : j < l'.length), j < k → sameV l[j] l'[j] = true) := hall
      clear hall ih hx hy hbox
      cases hr : sameV l[k] l'[k]
      · rw [hr] at hcall
        have hfin : Hid (sameVL l l' = false) := sameVL_at k l l' hlt hlt2 hr
        clear hr
        go_wp2_with fail
        go_region_with (go_at_call 20; refine hcall.mono ?_; rintro e w' ⟨rfl, hE2⟩)
        all_goals
          go_wp2
          go_ret
          exact ⟨ret_bool (by rw [hsame.out, hfin.out]), hE0.drew.trans hE2⟩
      · rw [hr] at hcall
        have HR : Hid (sameV l[k] l'[k] = true) := hr
        clear hr
        go_wp2_with fail
        go_region_with (go_at_call 20; refine hcall.mono ?_; rintro e w' ⟨rfl, hE2⟩)
        all_goals
          go_wp2
          go_roundw
          case rel =>
            refine ⟨k + 1, by omega, by go_num, hE.drew.trans hE2, fun j h1 h2 h => ?_⟩
            rcases Nat.lt_succ_iff_lt_or_eq.1 h with h' | h'
            · exact HA.out j h1 h2 h'
            · subst h'; exact HR.out
          case measure => simp [intOf]; omega
    · have hfin : Hid (sameVL l l' = true) := sameVL_all l l' HLEN.out (fun j h1 h2 => hall j h1 h2 (by omega))
      clear hall ih hbox
      go_wp2
      go_ret
      exact ⟨ret_bool (by rw [hsame.out, hfin.out]), hE0⟩
end Go.Proofs.YtjcbcfpdgdaffaaDoor
