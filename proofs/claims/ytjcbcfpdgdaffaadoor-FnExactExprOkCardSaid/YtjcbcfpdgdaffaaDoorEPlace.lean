/- What impl.hasPlaces and impl.isPlain answer. -/
import Derived.Test.YtjcbcfpdgdaffaaDoorEThy
import Derived.Test.YtjcbcfpdgdaffaaDoorValTerm
namespace Go.Proofs.YtjcbcfpdgdaffaaDoor
open Go.RowKit Go.Deep

mutual
/-- Something within is a node or an edge. -/
def placesB : V → Bool
  | .mk k _ _ l => if k = 5 ∨ k = 6 then true else if k = 4 then placesL l else false
def placesL : List V → Bool
  | [] => false
  | x :: r => placesB x || placesL r
end
theorem placesL_yes : ∀ (l : List V) (i : Nat) (hi : i < l.length), placesB l[i] = true → placesL l = true
  | [], _, hi, _ => by simp at hi
  | x :: r, 0, _, h => by simp only [List.getElem_cons_zero] at h; rw [placesL, h]; rfl
  | x :: r, i + 1, hi, h => by
    simp only [List.getElem_cons_succ] at h
    rw [placesL, placesL_yes r i (by simpa using hi) h]
    exact Bool.or_true _
theorem placesL_no : ∀ (l : List V), (∀ i (hi : i < l.length), placesB l[i] = false) → placesL l = false
  | [], _ => by rw [placesL]
  | x :: r, h => by
    have h0 := h 0 (by simp)
    simp only [List.getElem_cons_zero] at h0
    rw [placesL, h0, placesL_no r (fun i hi => by have := h (i + 1) (by simpa using hi); simpa using this)]
    rfl

def HP (x : V) : Prop := ∀ (S : Nat → Prop) (t : Value) (w : World), TermIn S w x t → Calls Tryd.prog 35 #[t] w fun e w' => e = .returned (.bool (placesB x)) ∧ Ext w w'

set_option maxHeartbeats 1000000 in
theorem idxPlaces (l : List V) (ih : ∀ i (hi : i < l.length), HP l[i]) (S : Nat → Prop) (u : Value) (w : World) (hu : TermsIn S w l u) :
    Calls Tryd.prog 48 #[u, .func (.func 35) #[] #[]] w fun e w' => ∃ r : Int, e = .returned (.int .i64 r) ∧ decide (0 ≤ r) = placesL l ∧ Ext w w' := by
  obtain ⟨a, cap, b, off, c, rfl, hl, ha, hc, hv⟩ := hu
  go_enter Tryd.func48, Tryd.ntmps48
  go_wp2
  go_loopw [8] (fun i wr => ∃ k : Nat, k ≤ l.length ∧ i = .int .i64 k ∧ Ext w wr ∧ ∀ j (hj : j < l.length), j < k → placesB l[j] = false) (fun i _ => l.length - (intOf i).toNat)
  case atStart => exact ⟨0, Nat.zero_le _, rfl, Ext.refl _, fun j _ h => by omega⟩
  case round =>
    obtain ⟨k, hk, rfl, hE, hno⟩ := hrel
    by_cases hlt : k < l.length
    · obtain ⟨rfl, hS, hb⟩ := ha (by omega)
      have e0 := hc k hlt
      rw [← hE.cell hb] at e0
      have hcall := ih k hlt S (c k) wr ((hv k hlt).ext hE)
      obtain ⟨ty, y, hsh⟩ := (hv k hlt).shape
      rw [hsh] at e0 hcall
      clear ih
      go_wp2_with (go_at_call 35; refine hcall.mono ?_; rintro e w' ⟨rfl, hE2⟩)
      · have hf : Hid (placesL l = true) := placesL_yes l k hlt (by assumption)
        go_ret
        exact ⟨k, rfl, by rw [hf.out]; exact decide_eq_true (by omega), hE.trans hE2⟩
      · go_roundw
        case rel =>
          refine ⟨k + 1, by omega, by go_num, hE.trans hE2, fun j hj h => ?_⟩
          rcases Nat.lt_succ_iff_lt_or_eq.1 h with h' | h'
          · exact hno j hj h'
          · subst h'; assumption
        case measure => simp [intOf]; omega
    · have hf : Hid (placesL l = false) := placesL_no l (fun i hi => hno i hi (by omega))
      clear ih
      go_wp2
      go_ret
      exact ⟨-1, rfl, by rw [hf.out]; rfl, hE⟩

set_option maxHeartbeats 400000 in
theorem hasPlacesList (l : List V) (ih : ∀ i (hi : i < l.length), HP l[i]) (S : Nat → Prop) (u : Value) (w : World) (hu : TermsIn S w l u) :
    Calls Tryd.prog 44 #[u, .func (.func 35) #[] #[]] w fun e w' => e = .returned (.bool (placesL l)) ∧ Ext w w' := by
  have hcall := idxPlaces l ih S u w hu
  obtain ⟨a, cap, b, off, c, rfl, _⟩ := hu
  go_enter Tryd.func44, Tryd.ntmps44
  go_wp2_with (go_at_call 48; refine hcall.mono ?_; rintro e w' ⟨r, rfl, hr, hE⟩)
  go_ret
  exact ⟨ret_bool (by rw [← hr]), hE⟩

theorem asT_node (U : TypeId) (v : Value) (w : World) : (Instr.typeAssert (.iface U v) 58 66 true).run Tryd.prog w = .ok (if U = 66 then .tuple #[v, .bool true] else .tuple #[.int .i64 0, .bool false]) w := by
  have hz : (zeroValue 66).run Tryd.prog w = .ok (.int .i64 0) w := by kernel_rfl
  by_cases h : U = 66 <;> simp [Instr.typeAssert, run_underlying Tryd.underlying66, h, hz, Result.andThen]
theorem asT_edge (U : TypeId) (v : Value) (w : World) : (Instr.typeAssert (.iface U v) 58 67 true).run Tryd.prog w = .ok (if U = 67 then .tuple #[v, .bool true] else .tuple #[.int .i64 0, .bool false]) w := by
  have hz : (zeroValue 67).run Tryd.prog w = .ok (.int .i64 0) w := by kernel_rfl
  by_cases h : U = 67 <;> simp [Instr.typeAssert, run_underlying Tryd.underlying67, h, hz, Result.andThen]
theorem asT_list (U : TypeId) (v : Value) (w : World) : (Instr.typeAssert (.iface U v) 58 69 true).run Tryd.prog w = .ok (if U = 69 then .tuple #[v, .bool true] else .tuple #[.slice none 0 0, .bool false]) w := by
  have hz : (zeroValue 69).run Tryd.prog w = .ok (.slice none 0 0) w := by kernel_rfl
  by_cases h : U = 69 <;> simp [Instr.typeAssert, run_underlying Tryd.underlying69, h, hz, Result.andThen]

set_option maxHeartbeats 2000000 in
theorem hasPlaces_any : ∀ x, HP x := by
  refine V.ind fun k n t l ih => ?_
  intro S tm w hT
  have hn := fun (U : TypeId) (v : Value) (w : World) => asT_node U v w
  have he := fun (U : TypeId) (v : Value) (w : World) => asT_edge U v w
  have hl := fun (U : TypeId) (v : Value) (w : World) => asT_list U v w
  cases hT with
  | list _ _ _ a cap b off c hll ha hc hv =>
    have hcall := hasPlacesList l ih S (.slice a l.length cap) w ⟨a, cap, b, off, c, rfl, hll, ha, hc, hv⟩
    have hf : Hid (placesB (.mk 4 n t l) = placesL l) := by show _ = _; rw [placesB]; simp
    clear ih
    go_enter Tryd.func35, Tryd.ntmps35
    go_wp2_with (go_at_call 44; refine hcall.mono ?_; rintro e w' ⟨rfl, hE⟩)
    go_ret
    exact ⟨ret_bool hf.out.symm, hE⟩
  | _ =>
    clear ih
    go_enter Tryd.func35, Tryd.ntmps35
    go_wp2
    go_ret
    exact ⟨ret_bool (by rw [placesB]; rfl), Ext.refl _⟩

theorem okN_kind (d : Nat) (k n : Int) (t : ByteArray) (l : List V) (h : okN d (.mk k n t l) = true) : 0 ≤ k ∧ k ≤ 6 ∧ (¬ k = 4 → l.length = 0) := by
  match d with
  | 0 | 1 | d + 2 =>
    unfold okN at h
    repeat' split at h
    all_goals simp_all
    all_goals omega
theorem okN_list4 (d : Nat) (n : Int) (t : ByteArray) (l : List V) (h : okN (d + 1) (.mk 4 n t l) = true) : ∀ i (hi : i < l.length), okN d l[i] = true := by
  match d with
  | 0 =>
    unfold okN at h
    simp at h
    intro i hi
    rw [h.1.1] at hi
    simp at hi
  | d + 1 =>
    unfold okN at h
    simp at h
    intro i hi
    exact h.1.1.1 _ (List.getElem_mem hi)

/-- Of a value that is ok: nothing within is a node or an edge, said in both ways. -/
theorem lit_places : ∀ (d : Nat) (x : V), okN d x = true → litB x = !placesB x := by
  intro d
  induction d with
  | zero =>
    rintro ⟨k, n, t, l⟩ h
    obtain ⟨h0, h6, hl⟩ := okN_kind 0 k n t l h
    by_cases h4 : k = 4
    · subst h4
      unfold okN at h
      simp at h
      have : l = [] := h.1.1
      subst this
      simp [litB, litL, placesB, placesL]
    · have : l = [] := by simpa using hl h4
      subst this
      by_cases h5 : k = 5 ∨ k = 6
      · simp only [litB, litL, placesB, if_pos h5, Bool.true_and, Bool.not_true, decide_eq_false_iff_not]
        omega
      · simp only [litB, litL, placesB, if_neg h5, if_neg h4, Bool.true_and, Bool.not_false, decide_eq_true_eq]
        omega
  | succ d ih =>
    rintro ⟨k, n, t, l⟩ h
    obtain ⟨h0, h6, hl⟩ := okN_kind (d + 1) k n t l h
    by_cases h4 : k = 4
    · subst h4
      have hL := okN_list4 d n t l h
      have : litL l = !placesL l := by
        clear h hl
        induction l with
        | nil => simp [litL, placesL]
        | cons x r ihr =>
          have h1 := ih x (by have := hL 0 (by simp); simpa using this)
          have h2 := ihr (fun i hi => by have := hL (i + 1) (by simpa using hi); simpa using this)
          rw [litL, placesL, h1, h2]
          simp
      simp [litB, placesB, this]
    · have : l = [] := by simpa using hl h4
      subst this
      by_cases h5 : k = 5 ∨ k = 6
      · simp only [litB, litL, placesB, if_pos h5, Bool.true_and, Bool.not_true, decide_eq_false_iff_not]
        omega
      · simp only [litB, litL, placesB, if_neg h5, if_neg h4, Bool.true_and, Bool.not_false, decide_eq_true_eq]
        omega

set_option maxHeartbeats 1000000 in
theorem isPlain_any (x : V) (lo : Nat) (v : Value) (w : World) (hv : ValIn lo w x v) :
    Calls Tryd.prog 24 #[v] w fun e w' => e = .returned (.bool (okN 3 x && litB x)) ∧ Ext w w' := by
  have hcall := fun W (hW : Ext w W) => termOf_any x lo v W (hv.ext hW)
  have hlp := lit_places 3 x
  obtain ⟨kk, nn, tt, aa, ll, cc, rfl⟩ := hv.shape
  clear hv
  go_enter Tryd.func24, Tryd.ntmps24
  go_wp2_with fail
  refine (hcall _ ((Ext.refl _).alloc _)).mono ?_
  rintro e w1 ⟨t, rfl, hF, hT, hE1⟩
  clear hcall
  cases ho : okN 3 x
  · clear hT
    have HO : Hid (okN 3 x = false) := ho
    rcases hF with rfl | ⟨ty, y, rfl⟩
    all_goals
      go_wp2
      go_ret
      exact ⟨ret_bool (by rw [HO.out]; rfl), ((Ext.refl _).alloc _).trans hE1⟩
  · have hTI := hT ho
    have hp := hasPlaces_any x _ t w1 hTI
    have HL : Hid ((!placesB x) = (okN 3 x && litB x)) := by show _ = _; rw [hlp ho, ho]; rfl
    clear hT hlp
    obtain ⟨ty, y, rfl⟩ := hTI.shape
    clear hTI hF
    go_wp2_with (go_at_call 35; refine hp.mono ?_; rintro e w2 ⟨rfl, hE2⟩)
    go_ret
    exact ⟨ret_bool HL.out, (((Ext.refl _).alloc _).trans hE1).trans hE2⟩
end Go.Proofs.YtjcbcfpdgdaffaaDoor
