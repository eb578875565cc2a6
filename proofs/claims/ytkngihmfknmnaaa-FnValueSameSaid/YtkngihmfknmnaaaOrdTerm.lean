/- What the terms' method order answers. -/
import Derived.Test.YtkngihmfknmnaaaOrdCmp
import Derived.BigRegion
import Derived.Deep.RegionWith
namespace Go.Proofs.Ytkngihmfknmnaaa
open Go.RowKit Go.Deep

mutual
def ordT : V → V → Int
  | .mk k n t l, .mk k' n' t' l' => if ¬ k = k' then cmpI (rankB k) (rankB k') else if k = 0 then 0 else if k = 3 then cmpT t t' else if k = 4 then ordTL l l' else cmpI n n'
def ordTL : List V → List V → Int
  | [], [] => 0
  | [], _ :: _ => -1
  | _ :: _, [] => 1
  | a :: r, b :: r' => if ordT a b = 0 then ordTL r r' else ordT a b
end

def tyF (k : Int) : TypeId := if k = 0 then 67 else if k = 1 then 63 else if k = 2 then 61 else if k = 3 then 62 else if k = 4 then 76 else if k = 5 then 72 else 73
def orF (k : Int) : Nat := if k = 0 then 74 else if k = 1 then 69 else if k = 2 then 59 else if k = 3 then 64 else if k = 4 then 87 else if k = 5 then 77 else 82

theorem TermIn.ty {S : Nat → Prop} {w : World} {x : V} {t : Value} (h : TermIn S w x t) : ∃ z, t = .iface (tyF x.kind) z ∧ (x.kind = 0 ∨ x.kind = 1 ∨ x.kind = 2 ∨ x.kind = 3 ∨ x.kind = 4 ∨ x.kind = 5 ∨ x.kind = 6) := by
  cases h <;> exact ⟨_, rfl, by simp [V.kind]⟩

/-- What order answers of the term of x, asked of any other one. -/
def TO (x : V) : Prop := ∀ (y : V) (S S' : Nat → Prop) (z u : Value) (w : World), TermIn S w x (.iface (tyF x.kind) z) → TermIn S' w y u →
  Calls Try.prog (orF x.kind) #[z, u] w fun e w' => e = .returned (.int .i64 (ordT x y)) ∧ Ext w w'

theorem ordT_other (k n : Int) (t : ByteArray) (l : List V) (y : V) (h : ¬ k = y.kind) : ordT (.mk k n t l) y = cmpI (rankB k) (rankB y.kind) := by
  obtain ⟨k', n', t', l'⟩ := y
  change ¬ k = k' at h
  unfold ordT
  rw [if_pos h]; rfl

set_option maxRecDepth 100000 in
set_option maxHeartbeats 1000000 in
theorem order_null (n : Int) (t : ByteArray) (l : List V) : TO (.mk 0 n t l) := by
  intro y S S' z u w hx hy
  have hz : z = .agg #[] := by cases hx; rfl
  subst hz
  have hfin : Hid (ordT (.mk 0 n t l) y = cmpI (rankB 0) (rankB y.kind)) := by
    by_cases h : (0 : Int) = y.kind
    · show _ = _
      obtain ⟨k', n', t', l'⟩ := y
      change (0 : Int) = k' at h
      subst h
      unfold ordT
      rfl
    · exact ordT_other 0 n t l y h
  have hE0 : Ext w (w.alloc (.cells #[] 67)) := (Ext.refl _).alloc _
  have hcall := kinds_any S S' (.mk 0 n t l) y _ _ _ (hx.ext hE0) (hy.ext hE0)
  obtain ⟨ty, zz, rfl⟩ := hy.shape
  show Calls Try.prog 74 _ _ _
  go_enter Try.func74, Try.ntmps74
  go_wp2_with (go_at_call 30; refine hcall.mono ?_; rintro e w' ⟨rfl, rfl⟩)
  go_ret
  exact ⟨ret_int hfin.out.symm, hE0⟩

set_option maxRecDepth 100000 in
set_option maxHeartbeats 1000000 in
theorem order_bool (n : Int) (t : ByteArray) (l : List V) : TO (.mk 1 n t l) := by
  intro y S S' z u w hx hy
  have hz : z = .int .i64 n := by cases hx; rfl
  subst hz
  have hcall := kinds_any S S' (.mk 1 n t l) y _ _ _ hx hy
  have a1 := as_bool
  show Calls Try.prog 69 _ _ _
  by_cases h : (1 : Int) = y.kind
  · obtain ⟨k', n', t', l'⟩ := y
    change (1 : Int) = k' at h
    subst h
    cases hy
    clear hcall
    go_enter Try.func69, Try.ntmps69
    go_wp2_with (go_at_call 72; refine (cmpBool_any _ _ _).mono ?_; rintro e w' ⟨rfl, rfl⟩)
    go_ret
    exact ⟨ret_int (by unfold ordT; rfl), Ext.refl _⟩
  · have hfin : Hid (ordT (.mk 1 n t l) y = cmpI (rankB 1) (rankB y.kind)) := ordT_other 1 n t l y h
    obtain ⟨zz, hu, hk⟩ := hy.ty
    have hty : ¬ tyF y.kind = 63 := by
      rcases hk with hk | hk | hk | hk | hk | hk | hk <;> rw [hk] at h ⊢ <;> first | (exact absurd rfl h) | decide
    subst hu
    generalize tyF y.kind = ty at hcall hty ⊢
    go_enter Try.func69, Try.ntmps69
    go_wp2_with (go_at_call 30; refine hcall.mono ?_; rintro e w' ⟨rfl, rfl⟩)
    go_ret
    exact ⟨ret_int hfin.out.symm, Ext.refl _⟩
set_option maxRecDepth 100000 in
set_option maxHeartbeats 1000000 in
theorem order_num (n : Int) (t : ByteArray) (l : List V) : TO (.mk 2 n t l) := by
  intro y S S' z u w hx hy
  have hz : z = .int .i64 n := by cases hx; rfl
  subst hz
  have hcall := kinds_any S S' (.mk 2 n t l) y _ _ _ hx hy
  have a1 := as_num
  show Calls Try.prog 59 _ _ _
  by_cases h : (2 : Int) = y.kind
  · obtain ⟨k', n', t', l'⟩ := y
    change (2 : Int) = k' at h
    subst h
    cases hy
    clear hcall
    go_enter Try.func59, Try.ntmps59
    go_wp2_with (go_at_call 62; refine (cmpNum_any _ _ _).mono ?_; rintro e w' ⟨rfl, rfl⟩)
    go_ret
    exact ⟨ret_int (by unfold ordT; rfl), Ext.refl _⟩
  · have hfin : Hid (ordT (.mk 2 n t l) y = cmpI (rankB 2) (rankB y.kind)) := ordT_other 2 n t l y h
    obtain ⟨zz, hu, hk⟩ := hy.ty
    have hty : ¬ tyF y.kind = 61 := by
      rcases hk with hk | hk | hk | hk | hk | hk | hk <;> rw [hk] at h ⊢ <;> first | (exact absurd rfl h) | decide
    subst hu
    generalize tyF y.kind = ty at hcall hty ⊢
    go_enter Try.func59, Try.ntmps59
    go_wp2_with (go_at_call 30; refine hcall.mono ?_; rintro e w' ⟨rfl, rfl⟩)
    go_ret
    exact ⟨ret_int hfin.out.symm, Ext.refl _⟩
set_option maxRecDepth 100000 in
set_option maxHeartbeats 1000000 in
theorem order_text (n : Int) (t : ByteArray) (l : List V) : TO (.mk 3 n t l) := by
  intro y S S' z u w hx hy
  have hz : z = .string t := by cases hx; rfl
  subst hz
  have hcall := kinds_any S S' (.mk 3 n t l) y _ _ _ hx hy
  have a1 := as_text
  show Calls Try.prog 64 _ _ _
  by_cases h : (3 : Int) = y.kind
  · obtain ⟨k', n', t', l'⟩ := y
    change (3 : Int) = k' at h
    subst h
    cases hy
    clear hcall
    go_enter Try.func64, Try.ntmps64
    go_wp2_with (go_at_call 67; refine (cmpText_any _ _ _).mono ?_; rintro e w' ⟨rfl, rfl⟩)
    go_ret
    exact ⟨ret_int (by unfold ordT; rfl), Ext.refl _⟩
  · have hfin : Hid (ordT (.mk 3 n t l) y = cmpI (rankB 3) (rankB y.kind)) := ordT_other 3 n t l y h
    obtain ⟨zz, hu, hk⟩ := hy.ty
    have hty : ¬ tyF y.kind = 62 := by
      rcases hk with hk | hk | hk | hk | hk | hk | hk <;> rw [hk] at h ⊢ <;> first | (exact absurd rfl h) | decide
    subst hu
    generalize tyF y.kind = ty at hcall hty ⊢
    go_enter Try.func64, Try.ntmps64
    go_wp2_with (go_at_call 30; refine hcall.mono ?_; rintro e w' ⟨rfl, rfl⟩)
    go_ret
    exact ⟨ret_int hfin.out.symm, Ext.refl _⟩
set_option maxRecDepth 100000 in
set_option maxHeartbeats 1000000 in
theorem order_node (n : Int) (t : ByteArray) (l : List V) : TO (.mk 5 n t l) := by
  intro y S S' z u w hx hy
  have hz : z = .int .i64 n := by cases hx; rfl
  subst hz
  have hcall := kinds_any S S' (.mk 5 n t l) y _ _ _ hx hy
  have a1 := as_node
  show Calls Try.prog 77 _ _ _
  by_cases h : (5 : Int) = y.kind
  · obtain ⟨k', n', t', l'⟩ := y
    change (5 : Int) = k' at h
    subst h
    cases hy
    clear hcall
    go_enter Try.func77, Try.ntmps77
    go_wp2_with (go_at_call 80; refine (cmpNode_any _ _ _).mono ?_; rintro e w' ⟨rfl, rfl⟩)
    go_ret
    exact ⟨ret_int (by unfold ordT; rfl), Ext.refl _⟩
  · have hfin : Hid (ordT (.mk 5 n t l) y = cmpI (rankB 5) (rankB y.kind)) := ordT_other 5 n t l y h
    obtain ⟨zz, hu, hk⟩ := hy.ty
    have hty : ¬ tyF y.kind = 72 := by
      rcases hk with hk | hk | hk | hk | hk | hk | hk <;> rw [hk] at h ⊢ <;> first | (exact absurd rfl h) | decide
    subst hu
    generalize tyF y.kind = ty at hcall hty ⊢
    go_enter Try.func77, Try.ntmps77
    go_wp2_with (go_at_call 30; refine hcall.mono ?_; rintro e w' ⟨rfl, rfl⟩)
    go_ret
    exact ⟨ret_int hfin.out.symm, Ext.refl _⟩
set_option maxRecDepth 100000 in
set_option maxHeartbeats 1000000 in
theorem order_edge (n : Int) (t : ByteArray) (l : List V) : TO (.mk 6 n t l) := by
  intro y S S' z u w hx hy
  have hz : z = .int .i64 n := by cases hx; rfl
  subst hz
  have hcall := kinds_any S S' (.mk 6 n t l) y _ _ _ hx hy
  have a1 := as_edge
  show Calls Try.prog 82 _ _ _
  by_cases h : (6 : Int) = y.kind
  · obtain ⟨k', n', t', l'⟩ := y
    change (6 : Int) = k' at h
    subst h
    cases hy
    clear hcall
    go_enter Try.func82, Try.ntmps82
    go_wp2_with (go_at_call 85; refine (cmpEdge_any _ _ _).mono ?_; rintro e w' ⟨rfl, rfl⟩)
    go_ret
    exact ⟨ret_int (by unfold ordT; rfl), Ext.refl _⟩
  · have hfin : Hid (ordT (.mk 6 n t l) y = cmpI (rankB 6) (rankB y.kind)) := ordT_other 6 n t l y h
    obtain ⟨zz, hu, hk⟩ := hy.ty
    have hty : ¬ tyF y.kind = 73 := by
      rcases hk with hk | hk | hk | hk | hk | hk | hk <;> rw [hk] at h ⊢ <;> first | (exact absurd rfl h) | decide
    subst hu
    generalize tyF y.kind = ty at hcall hty ⊢
    go_enter Try.func82, Try.ntmps82
    go_wp2_with (go_at_call 30; refine hcall.mono ?_; rintro e w' ⟨rfl, rfl⟩)
    go_ret
    exact ⟨ret_int hfin.out.symm, Ext.refl _⟩

theorem ordTL_nil_nil : ordTL [] [] = 0 := by unfold ordTL; rfl
theorem ordTL_skip : ∀ (k : Nat) (a b : List V), k ≤ a.length → k ≤ b.length → (∀ j (h1 : j < a.length) (h2 : j < b.length), j < k → ordT a[j] b[j] = 0) → ordTL a b = ordTL (a.drop k) (b.drop k)
  | 0, a, b, _, _, _ => rfl
  | k + 1, [], b, h, _, _ => by simp at h
  | k + 1, a :: r, [], _, h, _ => by simp at h
  | k + 1, x :: r, y :: r', h1, h2, h => by
    have h0 := h 0 (by simp) (by simp) (by omega)
    simp at h0
    have ih := ordTL_skip k r r' (by simpa using h1) (by simpa using h2) (fun j g1 g2 hj => by have := h (j + 1) (by simpa using g1) (by simpa using g2) (by omega); simpa using this)
    rw [ordTL, if_pos h0, ih]; rfl
theorem ordTL_at (k : Nat) (a b : List V) (h1 : k < a.length) (h2 : k < b.length) (h : ∀ j (h1 : j < a.length) (h2 : j < b.length), j < k → ordT a[j] b[j] = 0) (hk : ¬ ordT a[k] b[k] = 0) : ordTL a b = ordT a[k] b[k] := by
  rw [ordTL_skip k a b (by omega) (by omega) h, List.drop_eq_getElem_cons h1, List.drop_eq_getElem_cons h2, ordTL, if_neg hk]
theorem ordTL_end (k : Nat) (a b : List V) (h1 : k ≤ a.length) (h2 : k ≤ b.length) (hk : ¬ (k < a.length ∧ k < b.length)) (h : ∀ j (h1 : j < a.length) (h2 : j < b.length), j < k → ordT a[j] b[j] = 0) : ordTL a b = cmpI a.length b.length := by
  rw [ordTL_skip k a b h1 h2 h]
  by_cases e1 : k < a.length
  · have e2 : b.drop k = [] := List.drop_of_length_le (by omega)
    rw [List.drop_eq_getElem_cons e1, e2]
    unfold ordTL cmpI
    rw [if_neg (by omega), if_pos (by omega)]
  · rw [List.drop_of_length_le (l := a) (by omega)]
    by_cases e3 : k < b.length
    · rw [List.drop_eq_getElem_cons e3]
      unfold ordTL cmpI
      rw [if_pos (by omega)]
    · rw [List.drop_of_length_le (l := b) (by omega), ordTL_nil_nil]
      unfold cmpI
      rw [if_neg (by omega), if_neg (by omega)]

theorem TermsIn.ext {S : Nat → Prop} {w w' : World} {l : List V} {u : Value} (h : TermsIn S w l u) (e : Ext w w') : TermsIn S w' l u := by
  obtain ⟨a, cap, b, off, c, rfl, h1, h2, h3, h4⟩ := h
  refine ⟨a, cap, b, off, c, rfl, h1, fun h0 => ⟨(h2 h0).1, (h2 h0).2.1, Nat.lt_of_lt_of_le (h2 h0).2.2 e.le⟩, fun i hi => ?_, fun i hi => (h4 i hi).ext e⟩
  rw [e.cell (h2 (by omega)).2.2]; exact h3 i hi
theorem TermsIn.at {S : Nat → Prop} {w : World} {l : List V} {u : Value} (h : TermsIn S w l u) (hp : 0 < l.length) : ∃ cap b off, u = .slice (some ⟨b, off, none⟩) l.length cap ∧
    ∀ i (hi : i < l.length), ∃ c, w.cell? ⟨b, off + i, none⟩ = some c ∧ TermIn S w l[i] c := by
  obtain ⟨a, cap, b, off, c, rfl, h1, h2, h3, h4⟩ := h
  obtain ⟨rfl, _, _⟩ := h2 hp
  exact ⟨cap, b, off, rfl, fun i hi => ⟨c i, h3 i hi, h4 i hi⟩⟩
theorem TermIn.to_list {S : Nat → Prop} {w : World} {n : Int} {t : ByteArray} {l : List V} {z : Value} (h : TermIn S w (.mk 4 n t l) (.iface 76 z)) : TermsIn S w l z := by
  cases h with
  | list _ _ _ a cap b off c h1 h2 h3 h4 => exact ⟨a, cap, b, off, c, rfl, h1, h2, h3, h4⟩

theorem meth_null (z : Value) (w : World) : (method 212 67 z "loop.example/ashlar/impl.order").run Try.prog w = .ok (74, z) w := by kernel_rfl
theorem meth_bool (z : Value) (w : World) : (method 212 63 z "loop.example/ashlar/impl.order").run Try.prog w = .ok (69, z) w := by kernel_rfl
theorem meth_num (z : Value) (w : World) : (method 212 61 z "loop.example/ashlar/impl.order").run Try.prog w = .ok (59, z) w := by kernel_rfl
theorem meth_text (z : Value) (w : World) : (method 212 62 z "loop.example/ashlar/impl.order").run Try.prog w = .ok (64, z) w := by kernel_rfl
theorem meth_list (z : Value) (w : World) : (method 212 76 z "loop.example/ashlar/impl.order").run Try.prog w = .ok (87, z) w := by kernel_rfl
theorem meth_node (z : Value) (w : World) : (method 212 72 z "loop.example/ashlar/impl.order").run Try.prog w = .ok (77, z) w := by kernel_rfl
theorem meth_edge (z : Value) (w : World) : (method 212 73 z "loop.example/ashlar/impl.order").run Try.prog w = .ok (82, z) w := by kernel_rfl

def TOL (l : List V) : Prop := ∀ (l' : List V) (S S' : Nat → Prop) (u v : Value) (w : World), TermsIn S w l u → TermsIn S' w l' v →
  Calls Try.prog 90 #[u, v] w fun e w' => e = .returned (.int .i64 (ordTL l l')) ∧ Ext w w'

set_option maxRecDepth 100000 in
set_option maxHeartbeats 2000000 in
theorem orderLists_of (l : List V) (ih : ∀ i (hi : i < l.length), TO l[i]) : TOL l := by
  intro l' S S' u v w hu hv
  obtain ⟨a, cap, _, _, _, rfl, hm, _⟩ := id hu
  obtain ⟨a2, cap2, _, _, _, rfl, hm2, _⟩ := id hv
  go_enter Try.func90, Try.ntmps90
  go_wp2
  go_loopw [5] (fun i wr => ∃ k : Nat, k ≤ l.length ∧ k ≤ l'.length ∧ i = .int .i64 k ∧ Ext w wr ∧ ∀ j (h1 : j < l.length) (h2 : j < l'.length), j < k → ordT l[j] l'[j] = 0) (fun i _ => l.length - (intOf i).toNat)
  case atStart => exact ⟨0, Nat.zero_le _, Nat.zero_le _, rfl, Ext.refl _, fun j _ _ h => by omega⟩
  case round =>
    obtain ⟨k, hk, hk2, rfl, hE, hall⟩ := hrel
    by_cases hlt : k < l.length
    · by_cases hlt2 : k < l'.length
      · obtain ⟨cap3, b, off, hsl, hcs⟩ := (hu.ext hE).at (by omega)
        cases hsl
        obtain ⟨cap4, b2, off2, hsl, hcs2⟩ := (hv.ext hE).at (by omega)
        cases hsl
        obtain ⟨c, g0, hx⟩ := hcs k hlt
        obtain ⟨c', g1, hy⟩ := hcs2 k hlt2
        clear hcs hcs2
        obtain ⟨z, rfl, hkind⟩ := hx.ty
        obtain ⟨ty', z', rfl⟩ := hy.shape
        have hcall := ih k hlt l'[k] S S' z _ wr.drew (hx.ext (Ext.refl _).drew) (hy.ext (Ext.refl _).drew)
        clear ih
        have HA : Hid (∀ j (h1 : j < l.length) (h2 : j < l'.length), j < k → ordT l[j] l'[j] = 0) := hall
        clear hall hx hy
        generalize hr : ordT l[k] l'[k] = r at hcall
        have HR : Hid (ordT l[k] l'[k] = r) := hr
        clear hr
        rcases hkind with hk0 | hk0 | hk0 | hk0 | hk0 | hk0 | hk0
        · rw [hk0] at hcall g0
          change Calls Try.prog 74 _ _ _ at hcall
          change wr.cell? _ = some (.iface 67 z) at g0
          clear hk0
          have hmeth := meth_null
          go_wp2_with fail
          go_region_with (go_at_call 74; refine hcall.mono ?_; rintro e w' ⟨rfl, hE2⟩)
          all_goals
            by_cases hr0 : r = 0
            · subst hr0
              go_wp2
              go_roundw
              case rel =>
                refine ⟨k + 1, by omega, by omega, by go_num, hE.drew.trans hE2, fun j h1 h2 h => ?_⟩
                rcases Nat.lt_succ_iff_lt_or_eq.1 h with h' | h'
                · exact HA.out j h1 h2 h'
                · subst h'; exact HR.out
              case measure => simp [intOf]; omega
            · have hr1 : (r == 0) = false := by simp [hr0]
              have hfin : Hid (ordTL l l' = r) := by rw [← HR.out]; exact ordTL_at k l l' hlt hlt2 HA.out (by rw [HR.out]; exact hr0)
              go_wp2
              go_ret
              exact ⟨ret_int hfin.out.symm, hE.drew.trans hE2⟩
        · rw [hk0] at hcall g0
          change Calls Try.prog 69 _ _ _ at hcall
          change wr.cell? _ = some (.iface 63 z) at g0
          clear hk0
          have hmeth := meth_bool
          go_wp2_with fail
          go_region_with (go_at_call 69; refine hcall.mono ?_; rintro e w' ⟨rfl, hE2⟩)
          all_goals
            by_cases hr0 : r = 0
            · subst hr0
              go_wp2
              go_roundw
              case rel =>
                refine ⟨k + 1, by omega, by omega, by go_num, hE.drew.trans hE2, fun j h1 h2 h => ?_⟩
                rcases Nat.lt_succ_iff_lt_or_eq.1 h with h' | h'
                · exact HA.out j h1 h2 h'
                · subst h'; exact HR.out
              case measure => simp [intOf]; omega
            · have hr1 : (r == 0) = false := by simp [hr0]
              have hfin : Hid (ordTL l l' = r) := by rw [← HR.out]; exact ordTL_at k l l' hlt hlt2 HA.out (by rw [HR.out]; exact hr0)
              go_wp2
              go_ret
              exact ⟨ret_int hfin.out.symm, hE.drew.trans hE2⟩
        · rw [hk0] at hcall g0
          change Calls Try.prog 59 _ _ _ at hcall
          change wr.cell? _ = some (.iface 61 z) at g0
          clear hk0
          have hmeth := meth_num
          go_wp2_with fail
          go_region_with (go_at_call 59; refine hcall.mono ?_; rintro e w' ⟨rfl, hE2⟩)
          all_goals
            by_cases hr0 : r = 0
            · subst hr0
              go_wp2
              go_roundw
              case rel =>
                refine ⟨k + 1, by omega, by omega, by go_num, hE.drew.trans hE2, fun j h1 h2 h => ?_⟩
                rcases Nat.lt_succ_iff_lt_or_eq.1 h with h' | h'
                · exact HA.out j h1 h2 h'
                · subst h'; exact HR.out
              case measure => simp [intOf]; omega
            · have hr1 : (r == 0) = false := by simp [hr0]
              have hfin : Hid (ordTL l l' = r) := by rw [← HR.out]; exact ordTL_at k l l' hlt hlt2 HA.out (by rw [HR.out]; exact hr0)
              go_wp2
              go_ret
              exact ⟨ret_int hfin.out.symm, hE.drew.trans hE2⟩
        · rw [hk0] at hcall g0
          change Calls Try.prog 64 _ _ _ at hcall
          change wr.cell? _ = some (.iface 62 z) at g0
          clear hk0
          have hmeth := meth_text
          go_wp2_with fail
          go_region_with (go_at_call 64; refine hcall.mono ?_; rintro e w' ⟨rfl, hE2⟩)
          all_goals
            by_cases hr0 : r = 0
            · subst hr0
              go_wp2
              go_roundw
              case rel =>
                refine ⟨k + 1, by omega, by omega, by go_num, hE.drew.trans hE2, fun j h1 h2 h => ?_⟩
                rcases Nat.lt_succ_iff_lt_or_eq.1 h with h' | h'
                · exact HA.out j h1 h2 h'
                · subst h'; exact HR.out
              case measure => simp [intOf]; omega
            · have hr1 : (r == 0) = false := by simp [hr0]
              have hfin : Hid (ordTL l l' = r) := by rw [← HR.out]; exact ordTL_at k l l' hlt hlt2 HA.out (by rw [HR.out]; exact hr0)
              go_wp2
              go_ret
              exact ⟨ret_int hfin.out.symm, hE.drew.trans hE2⟩
        · rw [hk0] at hcall g0
          change Calls Try.prog 87 _ _ _ at hcall
          change wr.cell? _ = some (.iface 76 z) at g0
          clear hk0
          have hmeth := meth_list
          go_wp2_with fail
          go_region_with (go_at_call 87; refine hcall.mono ?_; rintro e w' ⟨rfl, hE2⟩)
          all_goals
            by_cases hr0 : r = 0
            · subst hr0
              go_wp2
              go_roundw
              case rel =>
                refine ⟨k + 1, by omega, by omega, by go_num, hE.drew.trans hE2, fun j h1 h2 h => ?_⟩
                rcases Nat.lt_succ_iff_lt_or_eq.1 h with h' | h'
                · exact HA.out j h1 h2 h'
                · subst h'; exact HR.out
              case measure => simp [intOf]; omega
            · have hr1 : (r == 0) = false := by simp [hr0]
              have hfin : Hid (ordTL l l' = r) := by rw [← HR.out]; exact ordTL_at k l l' hlt hlt2 HA.out (by rw [HR.out]; exact hr0)
              go_wp2
              go_ret
              exact ⟨ret_int hfin.out.symm, hE.drew.trans hE2⟩
        · rw [hk0] at hcall g0
          change Calls Try.prog 77 _ _ _ at hcall
          change wr.cell? _ = some (.iface 72 z) at g0
          clear hk0
          have hmeth := meth_node
          go_wp2_with fail
          go_region_with (go_at_call 77; refine hcall.mono ?_; rintro e w' ⟨rfl, hE2⟩)
          all_goals
            by_cases hr0 : r = 0
            · subst hr0
              go_wp2
              go_roundw
              case rel =>
                refine ⟨k + 1, by omega, by omega, by go_num, hE.drew.trans hE2, fun j h1 h2 h => ?_⟩
                rcases Nat.lt_succ_iff_lt_or_eq.1 h with h' | h'
                · exact HA.out j h1 h2 h'
                · subst h'; exact HR.out
              case measure => simp [intOf]; omega
            · have hr1 : (r == 0) = false := by simp [hr0]
              have hfin : Hid (ordTL l l' = r) := by rw [← HR.out]; exact ordTL_at k l l' hlt hlt2 HA.out (by rw [HR.out]; exact hr0)
              go_wp2
              go_ret
              exact ⟨ret_int hfin.out.symm, hE.drew.trans hE2⟩
        · rw [hk0] at hcall g0
          change Calls Try.prog 82 _ _ _ at hcall
          change wr.cell? _ = some (.iface 73 z) at g0
          clear hk0
          have hmeth := meth_edge
          go_wp2_with fail
          go_region_with (go_at_call 82; refine hcall.mono ?_; rintro e w' ⟨rfl, hE2⟩)
          all_goals
            by_cases hr0 : r = 0
            · subst hr0
              go_wp2
              go_roundw
              case rel =>
                refine ⟨k + 1, by omega, by omega, by go_num, hE.drew.trans hE2, fun j h1 h2 h => ?_⟩
                rcases Nat.lt_succ_iff_lt_or_eq.1 h with h' | h'
                · exact HA.out j h1 h2 h'
                · subst h'; exact HR.out
              case measure => simp [intOf]; omega
            · have hr1 : (r == 0) = false := by simp [hr0]
              have hfin : Hid (ordTL l l' = r) := by rw [← HR.out]; exact ordTL_at k l l' hlt hlt2 HA.out (by rw [HR.out]; exact hr0)
              go_wp2
              go_ret
              exact ⟨ret_int hfin.out.symm, hE.drew.trans hE2⟩
      · have hfin : Hid (ordTL l l' = cmpI l.length l'.length) := ordTL_end k l l' hk hk2 (by omega) hall
        clear hall ih
        go_wp2_with (go_at_call 39; refine (cmpInt_any _ _ _).mono ?_; rintro e w' ⟨rfl, rfl⟩)
        go_ret
        exact ⟨ret_int hfin.out.symm, hE⟩
    · have hfin : Hid (ordTL l l' = cmpI l.length l'.length) := ordTL_end k l l' hk hk2 (by omega) hall
      clear hall ih
      go_wp2_with (go_at_call 39; refine (cmpInt_any _ _ _).mono ?_; rintro e w' ⟨rfl, rfl⟩)
      go_ret
      exact ⟨ret_int hfin.out.symm, hE⟩

set_option maxRecDepth 100000 in
set_option maxHeartbeats 1000000 in
theorem order_list (n : Int) (t : ByteArray) (l : List V) (ih : ∀ i (hi : i < l.length), TO l[i]) : TO (.mk 4 n t l) := by
  have hL := orderLists_of l ih
  clear ih
  intro y S S' z u w hx hy
  have hcall := kinds_any S S' (.mk 4 n t l) y _ _ _ hx hy
  have hz := TermIn.to_list hx
  obtain ⟨a, cap, _, _, _, hzs, _⟩ := id hz
  have a1 := as_list
  show Calls Try.prog 87 _ _ _
  by_cases h : (4 : Int) = y.kind
  · obtain ⟨k', n', t', l'⟩ := y
    change (4 : Int) = k' at h
    subst h
    obtain ⟨z', hu, _⟩ := hy.ty
    change u = .iface 76 z' at hu
    subst hu
    have hz' := TermIn.to_list hy
    obtain ⟨a', cap', _, _, _, hzs', _⟩ := id hz'
    have hord := hL l' S S' z z' w hz hz'
    subst hzs hzs'
    clear hcall hL
    go_enter Try.func87, Try.ntmps87
    go_wp2_with (go_at_call 90; refine hord.mono ?_; rintro e w' ⟨rfl, hE⟩)
    go_ret
    exact ⟨ret_int (by unfold ordT; rfl), hE⟩
  · have hfin : Hid (ordT (.mk 4 n t l) y = cmpI (rankB 4) (rankB y.kind)) := ordT_other 4 n t l y h
    obtain ⟨zz, hu, hk⟩ := hy.ty
    have hty : ¬ tyF y.kind = 76 := by
      rcases hk with hk | hk | hk | hk | hk | hk | hk <;> rw [hk] at h ⊢ <;> first | (exact absurd rfl h) | decide
    subst hu hzs
    clear hL
    generalize tyF y.kind = ty at hcall hty ⊢
    go_enter Try.func87, Try.ntmps87
    go_wp2_with (go_at_call 30; refine hcall.mono ?_; rintro e w' ⟨rfl, rfl⟩)
    go_ret
    exact ⟨ret_int hfin.out.symm, Ext.refl _⟩

/-- Of every term. -/
theorem order_any : ∀ (x : V), (x.kind = 0 ∨ x.kind = 1 ∨ x.kind = 2 ∨ x.kind = 3 ∨ x.kind = 4 ∨ x.kind = 5 ∨ x.kind = 6) → TO x := by
  refine V.ind fun k n t l ih => ?_
  intro hk
  rcases hk with h | h | h | h | h | h | h <;> change k = _ at h <;> subst h
  · exact order_null n t l
  · exact order_bool n t l
  · exact order_num n t l
  · exact order_text n t l
  · refine order_list n t l fun i hi y S S' z u w hx hy => ?_
    obtain ⟨_, _, hk⟩ := hx.ty
    exact ih i hi hk y S S' z u w hx hy
  · exact order_node n t l
  · exact order_edge n t l
end Go.Proofs.Ytkngihmfknmnaaa
