/- What impl.mayBeProp answers. -/
import Derived.Test.YtejahpkpmbnmkaaGreatGVal
import Derived.Test.YtejahpkpmbnmkaaGreatValTerm
namespace Go.Proofs.YtejahpkpmbnmkaaGreat
open Go.RowKit Go.Deep

mutual
/-- Nothing within a term is nothing, a node or an edge. -/
def mbB : V → Bool
  | .mk k _ _ l => if k = 0 ∨ k = 5 ∨ k = 6 then false else if k = 4 then mbL l else true
def mbL : List V → Bool
  | [] => true
  | x :: r => mbB x && mbL r
end
theorem mbL_no : ∀ (l : List V) (i : Nat) (hi : i < l.length), mbB l[i] = false → mbL l = false
  | [], _, hi, _ => by simp at hi
  | x :: r, 0, _, h => by simp only [List.getElem_cons_zero] at h; rw [mbL, h]; rfl
  | x :: r, i + 1, hi, h => by
    simp only [List.getElem_cons_succ] at h
    rw [mbL, mbL_no r i (by simpa using hi) h]
    exact Bool.and_false _
theorem mbL_yes : ∀ (l : List V), (∀ i (hi : i < l.length), mbB l[i] = true) → mbL l = true
  | [], _ => by rw [mbL]
  | x :: r, h => by
    have h0 := h 0 (by simp)
    simp only [List.getElem_cons_zero] at h0
    rw [mbL, h0, mbL_yes r (fun i hi => by have := h (i + 1) (by simpa using hi); simpa using this)]
    rfl

def MB (x : V) : Prop := ∀ (S : Nat → Prop) (t : Value) (w : World), TermIn S w x t → Calls Tryz.prog 88 #[t] w fun e w' => e = .returned (.bool (mbB x)) ∧ Ext w w'

set_option maxHeartbeats 1000000 in
theorem mbOne (x : V) (ih : MB x) (S : Nat → Prop) (t : Value) (w : World) (h : TermIn S w x t) : Calls Tryz.prog 100 #[t] w fun e w' => e = .returned (.bool (!mbB x)) ∧ Ext w w' := by
  have hcall := ih S t w h
  obtain ⟨ty, y, rfl⟩ := h.shape
  go_enter Tryz.func100, Tryz.ntmps100
  go_wp2_with (go_at_call 88; refine hcall.mono ?_; rintro e w' ⟨rfl, hE⟩)
  go_ret
  exact ⟨rfl, hE⟩

set_option maxHeartbeats 1000000 in
theorem idxMb (l : List V) (ih : ∀ i (hi : i < l.length), MB l[i]) (S : Nat → Prop) (u : Value) (w : World) (hu : TermsIn S w l u) :
    Calls Tryz.prog 106 #[u, .func (.func 100) #[] #[]] w fun e w' => ∃ r : Int, e = .returned (.int .i64 r) ∧ decide (0 ≤ r) = !mbL l ∧ Ext w w' := by
  obtain ⟨a, cap, b, off, c, rfl, hl, ha, hc, hv⟩ := hu
  go_enter Tryz.func106, Tryz.ntmps106
  go_wp2
  go_loopw [8] (fun i wr => ∃ k : Nat, k ≤ l.length ∧ i = .int .i64 k ∧ Ext w wr ∧ ∀ j (hj : j < l.length), j < k → mbB l[j] = true) (fun i _ => l.length - (intOf i).toNat)
  case atStart => exact ⟨0, Nat.zero_le _, rfl, Ext.refl _, fun j _ h => by omega⟩
  case round =>
    obtain ⟨k, hk, rfl, hE, hno⟩ := hrel
    by_cases hlt : k < l.length
    · obtain ⟨rfl, hS, hb⟩ := ha (by omega)
      have e0 := hc k hlt
      rw [← hE.cell hb] at e0
      have hcall := mbOne l[k] (ih k hlt) S (c k) wr ((hv k hlt).ext hE)
      obtain ⟨ty, y, hsh⟩ := (hv k hlt).shape
      rw [hsh] at e0 hcall
      clear ih
      cases hp : mbB l[k]
      · have hf : Hid (mbL l = false) := mbL_no l k hlt hp
        rw [hp] at hcall
        go_wp2_with (go_at_call 100; refine hcall.mono ?_; rintro e w' ⟨rfl, hE2⟩)
        go_ret
        exact ⟨k, rfl, by rw [hf.out]; exact decide_eq_true (by omega), hE.trans hE2⟩
      · have hp' : Hid (mbB l[k] = true) := hp
        rw [hp] at hcall
        go_wp2_with (go_at_call 100; refine hcall.mono ?_; rintro e w' ⟨rfl, hE2⟩)
        go_roundw
        case rel =>
          refine ⟨k + 1, by omega, by go_num, hE.trans hE2, fun j hj h => ?_⟩
          rcases Nat.lt_succ_iff_lt_or_eq.1 h with h' | h'
          · exact hno j hj h'
          · subst h'; exact hp'.out
        case measure => simp [intOf]; omega
    · have hf : Hid (mbL l = true) := mbL_yes l (fun i hi => hno i hi (by omega))
      clear ih
      go_wp2
      go_ret
      exact ⟨-1, rfl, by rw [hf.out]; rfl, hE⟩

set_option maxHeartbeats 400000 in
theorem mbList (l : List V) (ih : ∀ i (hi : i < l.length), MB l[i]) (S : Nat → Prop) (u : Value) (w : World) (hu : TermsIn S w l u) :
    Calls Tryz.prog 99 #[u, .func (.func 100) #[] #[]] w fun e w' => e = .returned (.bool (!mbL l)) ∧ Ext w w' := by
  have hcall := idxMb l ih S u w hu
  obtain ⟨a, cap, b, off, c, rfl, _⟩ := hu
  go_enter Tryz.func99, Tryz.ntmps99
  go_wp2_with (go_at_call 106; refine hcall.mono ?_; rintro e w' ⟨r, rfl, hr, hE⟩)
  go_ret
  exact ⟨ret_bool (by rw [← hr]), hE⟩

theorem gsT_null (U : TypeId) (v : Value) (w : World) : (Instr.typeAssert (.iface U v) 145 161 true).run Tryz.prog w = .ok (if U = 161 then .tuple #[v, .bool true] else .tuple #[.agg #[], .bool false]) w := by
  have hz : (zeroValue 161).run Tryz.prog w = .ok (.agg #[]) w := by kernel_rfl
  by_cases h : U = 161 <;> simp [Instr.typeAssert, run_underlying Tryz.underlying161, h, hz, Result.andThen]
theorem gsT_node (U : TypeId) (v : Value) (w : World) : (Instr.typeAssert (.iface U v) 145 162 true).run Tryz.prog w = .ok (if U = 162 then .tuple #[v, .bool true] else .tuple #[.int .i64 0, .bool false]) w := by
  have hz : (zeroValue 162).run Tryz.prog w = .ok (.int .i64 0) w := by kernel_rfl
  by_cases h : U = 162 <;> simp [Instr.typeAssert, run_underlying Tryz.underlying162, h, hz, Result.andThen]
theorem gsT_edge (U : TypeId) (v : Value) (w : World) : (Instr.typeAssert (.iface U v) 145 163 true).run Tryz.prog w = .ok (if U = 163 then .tuple #[v, .bool true] else .tuple #[.int .i64 0, .bool false]) w := by
  have hz : (zeroValue 163).run Tryz.prog w = .ok (.int .i64 0) w := by kernel_rfl
  by_cases h : U = 163 <;> simp [Instr.typeAssert, run_underlying Tryz.underlying163, h, hz, Result.andThen]
theorem gsT_list (U : TypeId) (v : Value) (w : World) : (Instr.typeAssert (.iface U v) 145 165 true).run Tryz.prog w = .ok (if U = 165 then .tuple #[v, .bool true] else .tuple #[.slice none 0 0, .bool false]) w := by
  have hz : (zeroValue 165).run Tryz.prog w = .ok (.slice none 0 0) w := by kernel_rfl
  by_cases h : U = 165 <;> simp [Instr.typeAssert, run_underlying Tryz.underlying165, h, hz, Result.andThen]

set_option maxHeartbeats 2000000 in
theorem mayBeProp_any : ∀ x, MB x := by
  refine V.ind fun k n t l ih => ?_
  intro S tm w hT
  have h0 := fun (U : TypeId) (v : Value) (w : World) => gsT_null U v w
  have hn := fun (U : TypeId) (v : Value) (w : World) => gsT_node U v w
  have he := fun (U : TypeId) (v : Value) (w : World) => gsT_edge U v w
  have hl := fun (U : TypeId) (v : Value) (w : World) => gsT_list U v w
  cases hT with
  | list _ _ _ a cap b off c hll ha hc hv =>
    have hcall := mbList l ih S (.slice a l.length cap) w ⟨a, cap, b, off, c, rfl, hll, ha, hc, hv⟩
    have hf : Hid (mbB (.mk 4 n t l) = mbL l) := by show _ = _; rw [mbB]; simp
    clear ih
    go_enter Tryz.func88, Tryz.ntmps88
    go_wp2_with (go_at_call 99; refine hcall.mono ?_; rintro e w' ⟨rfl, hE⟩)
    go_ret
    exact ⟨ret_bool (by rw [hf.out]), hE⟩
  | _ =>
    clear ih
    go_enter Tryz.func88, Tryz.ntmps88
    go_wp2
    go_ret
    exact ⟨ret_bool (by rw [mbB]; rfl), Ext.refl _⟩

theorem gokN_kind (d : Nat) (k n : Int) (t : ByteArray) (l : List V) (h : okN d (.mk k n t l) = true) : 0 ≤ k ∧ k ≤ 6 ∧ (¬ k = 4 → l.length = 0) ∧ (¬ k = 3 → t.toList = []) ∧ (k = 0 ∨ k = 3 ∨ k = 4 → n = 0) := by
  match d with
  | 0 | 1 | d + 2 =>
    unfold okN at h
    repeat' split at h
    all_goals simp_all
    all_goals omega
theorem gokN_list4 (d : Nat) (n : Int) (t : ByteArray) (l : List V) (h : okN d (.mk 4 n t l) = true) : ∀ i (hi : i < l.length), okN (d - 1) l[i] = true := by
  match d with
  | 0 | 1 =>
    unfold okN at h
    simp at h
    intro i hi
    rw [h.1.1] at hi
    simp at hi
  | d + 2 =>
    unfold okN at h
    simp at h
    intro i hi
    exact h.1.1.1 _ (List.getElem_mem hi)

/-- Of a value that is ok both ways to say that it may be a prop are one. -/
theorem mb_plain : ∀ (x : V) (d : Nat), okN d x = true → mbB x = plainB x := by
  refine V.ind fun k n t l ih => ?_
  intro d h
  obtain ⟨h0, h6, hl, _, _⟩ := gokN_kind d k n t l h
  by_cases h4 : k = 4
  · subst h4
    have hL := gokN_list4 d n t l h
    have : mbL l = plainL l := by
      clear h hl
      have key : ∀ (r : List V), (∀ i (hi : i < r.length), mbB r[i] = plainB r[i]) → mbL r = plainL r := by
        intro r
        induction r with
        | nil => intro _; rw [mbL, plainL]
        | cons x r ihr =>
          intro hr
          have h1 := hr 0 (by simp)
          simp only [List.getElem_cons_zero] at h1
          rw [mbL, plainL, h1, ihr (fun i hi => by have := hr (i + 1) (by simpa using hi); simpa using this)]
      exact key l (fun i hi => ih i hi (d - 1) (hL i hi))
    rw [mbB, plainB, if_neg (by omega), if_pos rfl, this]
    exact (Bool.and_true _).symm
  · have : l = [] := by simpa using hl h4
    subst this
    rw [mbB, plainB, plainL, Bool.true_and]
    by_cases h5 : k = 0 ∨ k = 5 ∨ k = 6
    · rw [if_pos h5]
      rcases h5 with rfl | rfl | rfl <;> rfl
    · rw [if_neg h5, if_neg h4]
      have : k = 1 ∨ k = 2 ∨ k = 3 := by omega
      rcases this with rfl | rfl | rfl <;> rfl
end Go.Proofs.YtejahpkpmbnmkaaGreat
