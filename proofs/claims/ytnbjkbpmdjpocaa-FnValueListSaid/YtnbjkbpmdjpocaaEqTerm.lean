/- What impl.equalTerms and impl.equalLists answer. -/
import Derived.Test.YtnbjkbpmdjpocaaOrdTerm
import Derived.Test.YtnbjkbpmdjpocaaEqSpec2
import Derived.Test.YtnbjkbpmdjpocaaLessImpl
import Derived.Deep.RegionHeld3
import Derived.Deep.DeepCutAuto
namespace Go.Proofs.Ytnbjkbpmdjpocaa
open Go.RowKit Go.Deep

mutual
def eqT : V → V → Option Bool
  | .mk k n t l, .mk k' n' t' l' => if k = 0 then none else if k = 4 ∧ k' = 4 ∧ l.length = l'.length then eqTL l l' true else if k' = 0 then none else some (decide (ordT (.mk k n t l) (.mk k' n' t' l') = 0))
def eqTL : List V → List V → Bool → Option Bool
  | a :: r, b :: r', known => match eqT a b with
    | some false => some false
    | some true => eqTL r r' known
    | none => eqTL r r' false
  | _, _, known => if known then some true else none
end

theorem eqTL_end (k : Nat) (l l' : List V) (b : Bool) (h : l.length ≤ k) : eqTL (l.drop k) (l'.drop k) b = if b then some true else none := by
  rw [List.drop_of_length_le h]
  unfold eqTL
  rfl
theorem eqTL_none {k : Nat} {l l' : List V} (b : Bool) (h1 : k < l.length) (h2 : k < l'.length) (h : eqT l[k] l'[k] = none) : eqTL (l.drop k) (l'.drop k) b = eqTL (l.drop (k + 1)) (l'.drop (k + 1)) false := by
  rw [List.drop_eq_getElem_cons h1, List.drop_eq_getElem_cons h2]
  conv => lhs; unfold eqTL
  rw [h]
theorem eqTL_true {k : Nat} {l l' : List V} (b : Bool) (h1 : k < l.length) (h2 : k < l'.length) (h : eqT l[k] l'[k] = some true) : eqTL (l.drop k) (l'.drop k) b = eqTL (l.drop (k + 1)) (l'.drop (k + 1)) b := by
  rw [List.drop_eq_getElem_cons h1, List.drop_eq_getElem_cons h2]
  conv => lhs; unfold eqTL
  rw [h]
theorem eqTL_false {k : Nat} {l l' : List V} (b : Bool) (h1 : k < l.length) (h2 : k < l'.length) (h : eqT l[k] l'[k] = some false) : eqTL (l.drop k) (l'.drop k) b = some false := by
  rw [List.drop_eq_getElem_cons h1, List.drop_eq_getElem_cons h2]
  unfold eqTL
  rw [h]

/-- The term of an answer. -/
def tO : Option Bool → Value
  | none => .iface 55 (.agg #[])
  | some b => .iface 43 (.int .i64 (b01 b))
theorem ret_tO {a b : Option Bool} (h : a = b) : Ending.returned (tO a) = .returned (tO b) := by rw [h]

theorem as_null (U : TypeId) (v : Value) (w : World) : (Instr.typeAssert (.iface U v) 35 55 true).run Try.prog w = .ok (if U = 55 then .tuple #[v, .bool true] else .tuple #[.agg #[], .bool false]) w := by
  have hz : (zeroValue 55).run Try.prog w = .ok (.agg #[]) w := by kernel_rfl
  by_cases h : U = 55 <;> simp [Instr.typeAssert, run_underlying Try.underlying55, h, hz, Result.andThen]

def TE (x : V) : Prop := ∀ (y : V) (S S' : Nat → Prop) (t u : Value) (w : World), TermIn S w x t → TermIn S' w y u →
  Calls Try.prog 24 #[t, u] w fun e w' => e = .returned (tO (eqT x y)) ∧ Ext w w'

set_option maxRecDepth 100000 in
set_option maxHeartbeats 4000000 in
theorem equalLists_of (l : List V) (ih : ∀ i (hi : i < l.length), TE l[i]) (l' : List V) (S S' : Nat → Prop) (u v : Value) (w : World) (hu : TermsIn S w l u) (hv : TermsIn S' w l' v) (hlen : l.length = l'.length) :
    Calls Try.prog 39 #[u, v] w fun e w' => e = .returned (tO (eqTL l l' true)) ∧ Ext w w' := by
  obtain ⟨a, cap, _, _, _, rfl, hm, _⟩ := id hu
  obtain ⟨a2, cap2, _, _, _, rfl, hm2, _⟩ := id hv
  have HLEN : Hid (l.length = l'.length) := hlen
  clear hlen
  generalize hR : eqTL l l' true = R
  have HR : Hid (eqTL l l' true = R) := hR
  clear hR
  have a1 := as_null
  have a2 := as_bool
  go_enter Try.func39, Try.ntmps39
  go_wp2_with (go_at_call 27; refine (truth_any _ _).mono ?_; rintro e w1 ⟨rfl, hw1⟩; obtain rfl := hw1.symm)
  go_loopw [5, 13] (fun al i wr => ∃ (k : Nat) (b : Bool), k ≤ l.length ∧ al = tO (if b then some true else none) ∧ i = .int .i64 k ∧ Ext w wr ∧ eqTL (l.drop k) (l'.drop k) b = R) (fun _ i _ => l.length - (intOf i).toNat)
  case atStart => exact ⟨0, true, Nat.zero_le _, rfl, rfl, Ext.refl _, HR.out⟩
  case round =>
    obtain ⟨k, kb, hk, rfl, rfl, hE, hrest⟩ := hrel
    have HS : Hid (eqTL (l.drop k) (l'.drop k) kb = R) := hrest
    clear hrest HR
    by_cases hlt : k < l.length
    · have hlt2 : k < l'.length := by have := HLEN.out; omega
      obtain ⟨cap3, b, off, hsl, hcs⟩ := (hu.ext hE).at (by omega)
      cases hsl
      obtain ⟨cap4, b2, off2, hsl, hcs2⟩ := (hv.ext hE).at (by omega)
      cases hsl
      obtain ⟨c, g0, hx⟩ := hcs k hlt
      obtain ⟨c', g1, hy⟩ := hcs2 k hlt2
      clear hcs hcs2
      obtain ⟨ty, z, rfl⟩ := hx.shape
      obtain ⟨ty', z', rfl⟩ := hy.shape
      have hcall := fun W (hW : Ext wr W) => ih k hlt l'[k] S S' _ _ W (hx.ext hW) (hy.ext hW)
      clear ih hx hy
      have hS : ∀ W', Ext wr W' → Ext wr W' ∧ W'.cell? ⟨b, off + k, none⟩ = some (.iface ty z) ∧ W'.cell? ⟨b2, off2 + k, none⟩ = some (.iface ty' z') := by
        intro W' h
        refine ⟨h, ?_, ?_⟩
        · rw [h.cell (World.block_lt_of_cell? _ _ g0)]; exact g0
        · rw [h.cell (World.block_lt_of_cell? _ _ g1)]; exact g1
      rcases ho : eqT l[k] l'[k] with _ | (_ | _)
      · rw [ho] at hcall
        have HN : Hid (eqTL (l.drop (k + 1)) (l'.drop (k + 1)) false = R) := by rw [← HS.out]; exact (eqTL_none kb hlt hlt2 ho).symm
        clear ho HS
        cases kb
        all_goals
          simp only [tO, b01, if_true, Bool.false_eq_true, if_false]
          go_wp2_with fail
          go_region_held3 (fun W' => Ext wr W' ∧ W'.cell? ⟨b, off + k, none⟩ = some (.iface ty z) ∧ W'.cell? ⟨b2, off2 + k, none⟩ = some (.iface ty' z'))
            ((first | exact hS _ (Ext.refl _).drew | exact hS _ hXw))
            ((first | (go_at_call 24; refine (hcall _ (And.left (by assumption))).mono ?_; rintro e w' ⟨rfl, hE2⟩; have hXw := Ext.trans (And.left (by assumption)) hE2; simp only [tO])))
          all_goals
            go_wp2
            go_roundw
            case rel => exact ⟨k + 1, false, by omega, rfl, by go_num, (hE.trans hXw).alloc _, HN.out⟩
            case measure => simp [intOf]; omega
      · rw [ho] at hcall
        have HN : Hid (some false = R) := by rw [← HS.out]; exact (eqTL_false kb hlt hlt2 ho).symm
        clear ho HS
        cases kb
        all_goals
          simp only [tO, b01, if_true, Bool.false_eq_true, if_false]
          go_wp2_with fail
          go_region_held3 (fun W' => Ext wr W' ∧ W'.cell? ⟨b, off + k, none⟩ = some (.iface ty z) ∧ W'.cell? ⟨b2, off2 + k, none⟩ = some (.iface ty' z'))
            ((first | exact hS _ (Ext.refl _).drew | exact hS _ hXw))
            ((first | (go_at_call 24; refine (hcall _ (And.left (by assumption))).mono ?_; rintro e w' ⟨rfl, hE2⟩; have hXw := Ext.trans (And.left (by assumption)) hE2; simp only [tO, b01])))
          all_goals
            go_wp2
            go_ret
            exact ⟨ret_tO HN.out, hE.trans hXw⟩
      · rw [ho] at hcall
        have HN : Hid (eqTL (l.drop (k + 1)) (l'.drop (k + 1)) kb = R) := by rw [← HS.out]; exact (eqTL_true kb hlt hlt2 ho).symm
        clear ho HS
        cases kb
        all_goals
          simp only [tO, b01, if_true, Bool.false_eq_true, if_false]
          go_wp2_with fail
          go_region_held3 (fun W' => Ext wr W' ∧ W'.cell? ⟨b, off + k, none⟩ = some (.iface ty z) ∧ W'.cell? ⟨b2, off2 + k, none⟩ = some (.iface ty' z'))
            ((first | exact hS _ (Ext.refl _).drew | exact hS _ hXw))
            ((first | (go_at_call 24; refine (hcall _ (And.left (by assumption))).mono ?_; rintro e w' ⟨rfl, hE2⟩; have hXw := Ext.trans (And.left (by assumption)) hE2; simp only [tO, b01])))
          all_goals
            go_wp2
            go_roundw
            case rel => first | exact ⟨k + 1, true, by omega, rfl, by go_num, hE.trans hXw, HN.out⟩ | exact ⟨k + 1, false, by omega, rfl, by go_num, hE.trans hXw, HN.out⟩
            case measure => simp [intOf]; omega
    · have HE := eqTL_end k l l' kb (by omega)
      rw [HS.out] at HE
      have HF : Hid (R = if kb then some true else none) := HE
      clear HE HS ih
      cases kb
      all_goals
        simp only [tO]
        go_wp2
        go_ret
        exact ⟨ret_tO HF.out.symm, hE⟩

theorem eqT_null (n : Int) (t : ByteArray) (l : List V) (y : V) : eqT (.mk 0 n t l) y = none := by
  obtain ⟨k', n', t', l'⟩ := y
  unfold eqT
  rw [if_pos rfl]
theorem eqT_list (n : Int) (t : ByteArray) (l : List V) (n' : Int) (t' : ByteArray) (l' : List V) (h : l.length = l'.length) : eqT (.mk 4 n t l) (.mk 4 n' t' l') = eqTL l l' true := by
  unfold eqT
  rw [if_neg (by decide), if_pos ⟨rfl, rfl, h⟩]
theorem eqT_none (k n : Int) (t : ByteArray) (l : List V) (y : V) (h : y.kind = 0) : eqT (.mk k n t l) y = none := by
  obtain ⟨k', n', t', l'⟩ := y
  change k' = 0 at h
  subst h
  unfold eqT
  rw [if_neg (show ¬ (k = 4 ∧ (0 : Int) = 4 ∧ l.length = l'.length) from fun h => absurd h.2.1 (by decide)), if_pos rfl]
  split <;> rfl
theorem eqT_other (k n : Int) (t : ByteArray) (l : List V) (y : V) (h0 : ¬ k = 0) (h0' : ¬ y.kind = 0) (h : ¬ (k = 4 ∧ y.kind = 4 ∧ l.length = y.list.length)) : eqT (.mk k n t l) y = some (decide (ordT (.mk k n t l) y = 0)) := by
  obtain ⟨k', n', t', l'⟩ := y
  change ¬ k' = 0 at h0'
  change ¬ (k = 4 ∧ k' = 4 ∧ l.length = l'.length) at h
  unfold eqT
  rw [if_neg h0, if_neg h, if_neg h0']

set_option maxRecDepth 100000 in
set_option maxHeartbeats 1000000 in
theorem equal_null (n : Int) (t : ByteArray) (l : List V) : TE (.mk 0 n t l) := by
  intro y S S' s u w hx hy
  rw [eqT_null]
  obtain ⟨ty, z, rfl⟩ := hy.shape
  cases hx
  have a1 := as_null
  clear hy
  go_enter Try.func24, Try.ntmps24
  go_wp2
  go_ret
  exact ⟨rfl, (Ext.refl _).alloc _⟩

set_option maxRecDepth 100000 in
set_option maxHeartbeats 2000000 in
theorem equal_bool (n : Int) (t : ByteArray) (l : List V) : TE (.mk 1 n t l) := by
  intro y S S' s u w hx hy
  obtain ⟨z, hs, _⟩ := hx.ty
  change s = .iface 43 z at hs
  subst hs
  have a1 := as_null
  have a2 := as_list
  by_cases h0 : y.kind = 0
  · rw [eqT_none _ _ _ _ _ h0]
    obtain ⟨zz, rfl, _⟩ := hy.ty
    rw [h0]
    have e : zz = .agg #[] := by
      obtain ⟨k', n', t', l'⟩ := y
      change k' = 0 at h0
      subst h0
      cases hy; rfl
    subst e
    change Calls Try.prog 24 #[_, .iface 55 _] _ _
    clear hx hy
    go_enter Try.func24, Try.ntmps24
    go_wp2
    go_ret
    exact ⟨rfl, (Ext.refl _).alloc _⟩
  · rw [eqT_other _ _ _ _ _ (by decide) h0 (fun h => absurd h.1 (by decide))]
    have hcall : ∀ W, Ext w W → Calls Try.prog 65 #[z, u] W fun e w' => e = .returned (.int .i64 (ordT (.mk 1 n t l) y)) ∧ Ext W w' := fun W hW => order_any (.mk 1 n t l) (by simp [V.kind]) y S S' z u W (hx.ext hW) (hy.ext hW)
    obtain ⟨zz, hu, hk⟩ := hy.ty
    have hty : ¬ tyF y.kind = 55 := by
      rcases hk with hk | hk | hk | hk | hk | hk | hk <;> rw [hk] at h0 ⊢ <;> first | (exact absurd rfl h0) | decide
    subst hu
    clear hx hy h0 hk
    generalize ordT (.mk 1 n t l) y = r at hcall ⊢
    generalize tyF y.kind = ty at hcall hty ⊢
    have hmeth := meth_bool
    go_enter Try.func24, Try.ntmps24
    go_wp2_with (first
      | (go_at_call 65; refine (hcall _ ((Ext.refl _).alloc _)).mono ?_; rintro e w4 ⟨rfl, hE4⟩)
      | (go_at_call 27; refine (truth_any _ _).mono ?_; rintro e w5 ⟨rfl, rfl⟩))
    go_ret
    exact ⟨by first | rfl | (simp [tO]), ((Ext.refl _).alloc _).trans hE4⟩

set_option maxRecDepth 100000 in
set_option maxHeartbeats 2000000 in
theorem equal_num (n : Int) (t : ByteArray) (l : List V) : TE (.mk 2 n t l) := by
  intro y S S' s u w hx hy
  obtain ⟨z, hs, _⟩ := hx.ty
  change s = .iface 70 z at hs
  subst hs
  have a1 := as_null
  have a2 := as_list
  by_cases h0 : y.kind = 0
  · rw [eqT_none _ _ _ _ _ h0]
    obtain ⟨zz, rfl, _⟩ := hy.ty
    rw [h0]
    have e : zz = .agg #[] := by
      obtain ⟨k', n', t', l'⟩ := y
      change k' = 0 at h0
      subst h0
      cases hy; rfl
    subst e
    change Calls Try.prog 24 #[_, .iface 55 _] _ _
    clear hx hy
    go_enter Try.func24, Try.ntmps24
    go_wp2
    go_ret
    exact ⟨rfl, (Ext.refl _).alloc _⟩
  · rw [eqT_other _ _ _ _ _ (by decide) h0 (fun h => absurd h.1 (by decide))]
    have hcall : ∀ W, Ext w W → Calls Try.prog 80 #[z, u] W fun e w' => e = .returned (.int .i64 (ordT (.mk 2 n t l) y)) ∧ Ext W w' := fun W hW => order_any (.mk 2 n t l) (by simp [V.kind]) y S S' z u W (hx.ext hW) (hy.ext hW)
    obtain ⟨zz, hu, hk⟩ := hy.ty
    have hty : ¬ tyF y.kind = 55 := by
      rcases hk with hk | hk | hk | hk | hk | hk | hk <;> rw [hk] at h0 ⊢ <;> first | (exact absurd rfl h0) | decide
    subst hu
    clear hx hy h0 hk
    generalize ordT (.mk 2 n t l) y = r at hcall ⊢
    generalize tyF y.kind = ty at hcall hty ⊢
    have hmeth := meth_num
    go_enter Try.func24, Try.ntmps24
    go_wp2_with (first
      | (go_at_call 80; refine (hcall _ ((Ext.refl _).alloc _)).mono ?_; rintro e w4 ⟨rfl, hE4⟩)
      | (go_at_call 27; refine (truth_any _ _).mono ?_; rintro e w5 ⟨rfl, rfl⟩))
    go_ret
    exact ⟨by first | rfl | (simp [tO]), ((Ext.refl _).alloc _).trans hE4⟩

set_option maxRecDepth 100000 in
set_option maxHeartbeats 2000000 in
theorem equal_text (n : Int) (t : ByteArray) (l : List V) : TE (.mk 3 n t l) := by
  intro y S S' s u w hx hy
  obtain ⟨z, hs, _⟩ := hx.ty
  change s = .iface 71 z at hs
  subst hs
  have a1 := as_null
  have a2 := as_list
  by_cases h0 : y.kind = 0
  · rw [eqT_none _ _ _ _ _ h0]
    obtain ⟨zz, rfl, _⟩ := hy.ty
    rw [h0]
    have e : zz = .agg #[] := by
      obtain ⟨k', n', t', l'⟩ := y
      change k' = 0 at h0
      subst h0
      cases hy; rfl
    subst e
    change Calls Try.prog 24 #[_, .iface 55 _] _ _
    clear hx hy
    go_enter Try.func24, Try.ntmps24
    go_wp2
    go_ret
    exact ⟨rfl, (Ext.refl _).alloc _⟩
  · rw [eqT_other _ _ _ _ _ (by decide) h0 (fun h => absurd h.1 (by decide))]
    have hcall : ∀ W, Ext w W → Calls Try.prog 85 #[z, u] W fun e w' => e = .returned (.int .i64 (ordT (.mk 3 n t l) y)) ∧ Ext W w' := fun W hW => order_any (.mk 3 n t l) (by simp [V.kind]) y S S' z u W (hx.ext hW) (hy.ext hW)
    obtain ⟨zz, hu, hk⟩ := hy.ty
    have hty : ¬ tyF y.kind = 55 := by
      rcases hk with hk | hk | hk | hk | hk | hk | hk <;> rw [hk] at h0 ⊢ <;> first | (exact absurd rfl h0) | decide
    subst hu
    clear hx hy h0 hk
    generalize ordT (.mk 3 n t l) y = r at hcall ⊢
    generalize tyF y.kind = ty at hcall hty ⊢
    have hmeth := meth_text
    go_enter Try.func24, Try.ntmps24
    go_wp2_with (first
      | (go_at_call 85; refine (hcall _ ((Ext.refl _).alloc _)).mono ?_; rintro e w4 ⟨rfl, hE4⟩)
      | (go_at_call 27; refine (truth_any _ _).mono ?_; rintro e w5 ⟨rfl, rfl⟩))
    go_ret
    exact ⟨by first | rfl | (simp [tO]), ((Ext.refl _).alloc _).trans hE4⟩

set_option maxRecDepth 100000 in
set_option maxHeartbeats 2000000 in
theorem equal_node (n : Int) (t : ByteArray) (l : List V) : TE (.mk 5 n t l) := by
  intro y S S' s u w hx hy
  obtain ⟨z, hs, _⟩ := hx.ty
  change s = .iface 73 z at hs
  subst hs
  have a1 := as_null
  have a2 := as_list
  by_cases h0 : y.kind = 0
  · rw [eqT_none _ _ _ _ _ h0]
    obtain ⟨zz, rfl, _⟩ := hy.ty
    rw [h0]
    have e : zz = .agg #[] := by
      obtain ⟨k', n', t', l'⟩ := y
      change k' = 0 at h0
      subst h0
      cases hy; rfl
    subst e
    change Calls Try.prog 24 #[_, .iface 55 _] _ _
    clear hx hy
    go_enter Try.func24, Try.ntmps24
    go_wp2
    go_ret
    exact ⟨rfl, (Ext.refl _).alloc _⟩
  · rw [eqT_other _ _ _ _ _ (by decide) h0 (fun h => absurd h.1 (by decide))]
    have hcall : ∀ W, Ext w W → Calls Try.prog 90 #[z, u] W fun e w' => e = .returned (.int .i64 (ordT (.mk 5 n t l) y)) ∧ Ext W w' := fun W hW => order_any (.mk 5 n t l) (by simp [V.kind]) y S S' z u W (hx.ext hW) (hy.ext hW)
    obtain ⟨zz, hu, hk⟩ := hy.ty
    have hty : ¬ tyF y.kind = 55 := by
      rcases hk with hk | hk | hk | hk | hk | hk | hk <;> rw [hk] at h0 ⊢ <;> first | (exact absurd rfl h0) | decide
    subst hu
    clear hx hy h0 hk
    generalize ordT (.mk 5 n t l) y = r at hcall ⊢
    generalize tyF y.kind = ty at hcall hty ⊢
    have hmeth := meth_node
    go_enter Try.func24, Try.ntmps24
    go_wp2_with (first
      | (go_at_call 90; refine (hcall _ ((Ext.refl _).alloc _)).mono ?_; rintro e w4 ⟨rfl, hE4⟩)
      | (go_at_call 27; refine (truth_any _ _).mono ?_; rintro e w5 ⟨rfl, rfl⟩))
    go_ret
    exact ⟨by first | rfl | (simp [tO]), ((Ext.refl _).alloc _).trans hE4⟩

set_option maxRecDepth 100000 in
set_option maxHeartbeats 2000000 in
theorem equal_edge (n : Int) (t : ByteArray) (l : List V) : TE (.mk 6 n t l) := by
  intro y S S' s u w hx hy
  obtain ⟨z, hs, _⟩ := hx.ty
  change s = .iface 74 z at hs
  subst hs
  have a1 := as_null
  have a2 := as_list
  by_cases h0 : y.kind = 0
  · rw [eqT_none _ _ _ _ _ h0]
    obtain ⟨zz, rfl, _⟩ := hy.ty
    rw [h0]
    have e : zz = .agg #[] := by
      obtain ⟨k', n', t', l'⟩ := y
      change k' = 0 at h0
      subst h0
      cases hy; rfl
    subst e
    change Calls Try.prog 24 #[_, .iface 55 _] _ _
    clear hx hy
    go_enter Try.func24, Try.ntmps24
    go_wp2
    go_ret
    exact ⟨rfl, (Ext.refl _).alloc _⟩
  · rw [eqT_other _ _ _ _ _ (by decide) h0 (fun h => absurd h.1 (by decide))]
    have hcall : ∀ W, Ext w W → Calls Try.prog 95 #[z, u] W fun e w' => e = .returned (.int .i64 (ordT (.mk 6 n t l) y)) ∧ Ext W w' := fun W hW => order_any (.mk 6 n t l) (by simp [V.kind]) y S S' z u W (hx.ext hW) (hy.ext hW)
    obtain ⟨zz, hu, hk⟩ := hy.ty
    have hty : ¬ tyF y.kind = 55 := by
      rcases hk with hk | hk | hk | hk | hk | hk | hk <;> rw [hk] at h0 ⊢ <;> first | (exact absurd rfl h0) | decide
    subst hu
    clear hx hy h0 hk
    generalize ordT (.mk 6 n t l) y = r at hcall ⊢
    generalize tyF y.kind = ty at hcall hty ⊢
    have hmeth := meth_edge
    go_enter Try.func24, Try.ntmps24
    go_wp2_with (first
      | (go_at_call 95; refine (hcall _ ((Ext.refl _).alloc _)).mono ?_; rintro e w4 ⟨rfl, hE4⟩)
      | (go_at_call 27; refine (truth_any _ _).mono ?_; rintro e w5 ⟨rfl, rfl⟩))
    go_ret
    exact ⟨by first | rfl | (simp [tO]), ((Ext.refl _).alloc _).trans hE4⟩

set_option maxRecDepth 100000 in
set_option maxHeartbeats 2000000 in
theorem equal_list (n : Int) (t : ByteArray) (l : List V) (ih : ∀ i (hi : i < l.length), TE l[i]) : TE (.mk 4 n t l) := by
  intro y S S' s u w hx hy
  obtain ⟨z, hs, _⟩ := hx.ty
  change s = .iface 57 z at hs
  subst hs
  have a1 := as_null
  have a2 := as_list
  have hz := TermIn.to_list hx
  obtain ⟨a, cap, _, _, _, hzs, hm, _⟩ := id hz
  by_cases h0 : y.kind = 0
  · rw [eqT_none _ _ _ _ _ h0]
    obtain ⟨zz, rfl, _⟩ := hy.ty
    rw [h0]
    have e : zz = .agg #[] := by
      obtain ⟨k', n', t', l'⟩ := y
      change k' = 0 at h0
      subst h0
      cases hy; rfl
    subst e
    change Calls Try.prog 24 #[_, .iface 55 _] _ _
    subst hzs
    clear hx hy hz ih
    go_enter Try.func24, Try.ntmps24
    go_wp2
    go_ret
    exact ⟨rfl, (Ext.refl _).alloc _⟩
  · have hcall : ∀ W, Ext w W → Calls Try.prog 76 #[z, u] W fun e w' => e = .returned (.int .i64 (ordT (.mk 4 n t l) y)) ∧ Ext W w' := fun W hW => order_any (.mk 4 n t l) (by simp [V.kind]) y S S' z u W (hx.ext hW) (hy.ext hW)
    have hmeth := meth_list
    by_cases h4 : y.kind = 4
    · obtain ⟨k', n', t', l'⟩ := y
      change k' = 4 at h4
      subst h4
      obtain ⟨z', hu, _⟩ := hy.ty
      change u = .iface 57 z' at hu
      subst hu
      have hz' := TermIn.to_list hy
      obtain ⟨a', cap', _, _, _, hzs', hm', _⟩ := id hz'
      by_cases hlen : l.length = l'.length
      · rw [eqT_list _ _ _ _ _ _ hlen]
        have heq := equalLists_of l ih l' S S' z z' w hz hz' hlen
        subst hzs hzs'
        have e0 : ((l.length : Int) == (l'.length : Int)) = true := by simp; omega
        generalize eqTL l l' true = R at heq ⊢
        clear hcall hlen hx hy hz hz' ih h0
        rcases R with _ | R
        all_goals
          simp only [tO] at heq ⊢
          go_enter Try.func24, Try.ntmps24
          go_wp2_with (go_at_call 39; refine heq.mono ?_; rintro e w' ⟨rfl, hE⟩)
          go_ret
          exact ⟨rfl, hE⟩
      · rw [eqT_other _ _ _ _ _ (by decide) h0 (fun h => hlen h.2.2)]
        have e0 : ((l.length : Int) == (l'.length : Int)) = false := by simp; omega
        subst hzs hzs'
        clear hlen hx hy hz hz' ih h0
        generalize ordT (.mk 4 n t l) (.mk 4 n' t' l') = r at hcall ⊢
        go_enter Try.func24, Try.ntmps24
        go_wp2_with (first
          | (go_at_call 76; refine (hcall _ ((Ext.refl _).alloc _)).mono ?_; rintro e w4 ⟨rfl, hE4⟩)
          | (go_at_call 27; refine (truth_any _ _).mono ?_; rintro e w5 ⟨rfl, rfl⟩))
        go_ret
        exact ⟨by first | rfl | (simp [tO]), ((Ext.refl _).alloc _).trans hE4⟩
    · rw [eqT_other _ _ _ _ _ (by decide) h0 (fun h => h4 h.2.1)]
      obtain ⟨zz, hu, hk⟩ := hy.ty
      have hty : ¬ tyF y.kind = 55 := by
        rcases hk with hk | hk | hk | hk | hk | hk | hk <;> rw [hk] at h0 ⊢ <;> first | (exact absurd rfl h0) | decide
      have hty4 : ¬ tyF y.kind = 57 := by
        rcases hk with hk | hk | hk | hk | hk | hk | hk <;> rw [hk] at h4 ⊢ <;> first | (exact absurd rfl h4) | decide
      subst hu hzs
      clear hx hy h0 h4 hk hz ih
      generalize ordT (.mk 4 n t l) y = r at hcall ⊢
      generalize tyF y.kind = ty at hcall hty hty4 ⊢
      go_enter Try.func24, Try.ntmps24
      go_wp2_with (first
        | (go_at_call 76; refine (hcall _ ((Ext.refl _).alloc _)).mono ?_; rintro e w4 ⟨rfl, hE4⟩)
        | (go_at_call 27; refine (truth_any _ _).mono ?_; rintro e w5 ⟨rfl, rfl⟩))
      go_ret
      exact ⟨by first | rfl | (simp [tO]), ((Ext.refl _).alloc _).trans hE4⟩

/-- Of every term. -/
theorem equal_any : ∀ (x : V), (x.kind = 0 ∨ x.kind = 1 ∨ x.kind = 2 ∨ x.kind = 3 ∨ x.kind = 4 ∨ x.kind = 5 ∨ x.kind = 6) → TE x := by
  refine V.ind fun k n t l ih => ?_
  intro hk
  rcases hk with h | h | h | h | h | h | h <;> change k = _ at h <;> subst h
  · exact equal_null n t l
  · exact equal_bool n t l
  · exact equal_num n t l
  · exact equal_text n t l
  · refine equal_list n t l fun i hi y S S' z u w hx hy => ?_
    obtain ⟨_, _, hk⟩ := hx.ty
    exact ih i hi hk y S S' z u w hx hy
  · exact equal_node n t l
  · exact equal_edge n t l
end Go.Proofs.Ytnbjkbpmdjpocaa
