/- What impl.mayBeProp answers. -/
import Derived.Test.YtbhmblkappmfjaaGreatGVal
import Derived.Test.YtbhmblkappmfjaaGreatValTerm
import Derived.Test.YtbhmblkappmfjaaGreatLf
import Derived.Test.YtbhmblkappmfjaaGreatDGrow
import Derived.WalkSpells
import Derived.Deep.AppendLies
import Derived.Test.YtbhmblkappmfjaaGreatGSpec2
import Derived.Test.YtbhmblkappmfjaaGreatTk
namespace Go.Proofs.YtbhmblkappmfjaaGreat
open Go.RowKit Go.Deep

mutual
/-- Nothing within a term is nothing, a node or an edge. -/
def mbB : V → Bool
  | .mk k _ _ l => if k = 0 ∨ k = 5 ∨ k = 6 then false else if k = 4 then mbL l else true
def mbL : List V → Bool
  | [] => true
  | x :: r => mbB x && mbL r
end
theorem mbL_no : ∀ (l : List V) (i : Nat) (hi : i < l.length), mbB l[i] = false → mbL l = false
  | [], _, hi, _ => by simp at hi
  | x :: r, 0, _, h => by simp only [List.getElem_cons_zero] at h; rw [mbL, h]; rfl
  | x :: r, i + 1, hi, h => by
    simp only [List.getElem_cons_succ] at h
    rw [mbL, mbL_no r i (by simpa using hi) h]
    exact Bool.and_false _
theorem mbL_yes : ∀ (l : List V), (∀ i (hi : i < l.length), mbB l[i] = true) → mbL l = true
  | [], _ => by rw [mbL]
  | x :: r, h => by
    have h0 := h 0 (by simp)
    simp only [List.getElem_cons_zero] at h0
    rw [mbL, h0, mbL_yes r (fun i hi => by have := h (i + 1) (by simpa using hi); simpa using this)]
    rfl

def MB (x : V) : Prop := ∀ (S : Nat → Prop) (t : Value) (w : World), TermIn S w x t → Calls Tryz.prog 75 #[t] w fun e w' => e = .returned (.bool (mbB x)) ∧ Ext w w'

set_option maxHeartbeats 1000000 in
theorem mbOne (x : V) (ih : MB x) (S : Nat → Prop) (t : Value) (w : World) (h : TermIn S w x t) : Calls Tryz.prog 84 #[t] w fun e w' => e = .returned (.bool (!mbB x)) ∧ Ext w w' := by
  have hcall := ih S t w h
  obtain ⟨ty, y, rfl⟩ := h.shape
  go_enter Tryz.func84, Tryz.ntmps84
  go_wp2_with (go_at_call 75; refine hcall.mono ?_; rintro e w' ⟨rfl, hE⟩)
  go_ret
  exact ⟨rfl, hE⟩

set_option maxHeartbeats 1000000 in
theorem idxMb (l : List V) (ih : ∀ i (hi : i < l.length), MB l[i]) (S : Nat → Prop) (u : Value) (w : World) (hu : TermsIn S w l u) :
    Calls Tryz.prog 89 #[u, .func (.func 84) #[] #[]] w fun e w' => ∃ r : Int, e = .returned (.int .i64 r) ∧ decide (0 ≤ r) = !mbL l ∧ Ext w w' := by
  obtain ⟨a, cap, b, off, c, rfl, hl, ha, hc, hv⟩ := hu
  go_enter Tryz.func89, Tryz.ntmps89
  go_wp2
  go_loopw [8] (fun i wr => ∃ k : Nat, k ≤ l.length ∧ i = .int .i64 k ∧ Ext w wr ∧ ∀ j (hj : j < l.length), j < k → mbB l[j] = true) (fun i _ => l.length - (intOf i).toNat)
  case atStart => exact ⟨0, Nat.zero_le _, rfl, Ext.refl _, fun j _ h => by omega⟩
  case round =>
    obtain ⟨k, hk, rfl, hE, hno⟩ := hrel
    by_cases hlt : k < l.length
    · obtain ⟨rfl, hS, hb⟩ := ha (by omega)
      have e0 := hc k hlt
      rw [← hE.cell hb] at e0
      have hcall := mbOne l[k] (ih k hlt) S (c k) wr ((hv k hlt).ext hE)
      obtain ⟨ty, y, hsh⟩ := (hv k hlt).shape
      rw [hsh] at e0 hcall
      clear ih
      cases hp : mbB l[k]
      · have hf : Hid (mbL l = false) := mbL_no l k hlt hp
        rw [hp] at hcall
        go_wp2_with (go_at_call 84; refine hcall.mono ?_; rintro e w' ⟨rfl, hE2⟩)
        go_ret
        exact ⟨k, rfl, by rw [hf.out]; exact decide_eq_true (by omega), hE.trans hE2⟩
      · have hp' : Hid (mbB l[k] = true) := hp
        rw [hp] at hcall
        go_wp2_with (go_at_call 84; refine hcall.mono ?_; rintro e w' ⟨rfl, hE2⟩)
        go_roundw
        case rel =>
          refine ⟨k + 1, by omega, by go_num, hE.trans hE2, fun j hj h => ?_⟩
          rcases Nat.lt_succ_iff_lt_or_eq.1 h with h' | h'
          · exact hno j hj h'
          · subst h'; exact hp'.out
        case measure => simp [intOf]; omega
    · have hf : Hid (mbL l = true) := mbL_yes l (fun i hi => hno i hi (by omega))
      clear ih
      go_wp2
      go_ret
      exact ⟨-1, rfl, by rw [hf.out]; rfl, hE⟩

set_option maxHeartbeats 400000 in
theorem mbList (l : List V) (ih : ∀ i (hi : i < l.length), MB l[i]) (S : Nat → Prop) (u : Value) (w : World) (hu : TermsIn S w l u) :
    Calls Tryz.prog 83 #[u, .func (.func 84) #[] #[]] w fun e w' => e = .returned (.bool (!mbL l)) ∧ Ext w w' := by
  have hcall := idxMb l ih S u w hu
  obtain ⟨a, cap, b, off, c, rfl, _⟩ := hu
  go_enter Tryz.func83, Tryz.ntmps83
  go_wp2_with (go_at_call 89; refine hcall.mono ?_; rintro e w' ⟨r, rfl, hr, hE⟩)
  go_ret
  exact ⟨ret_bool (by rw [← hr]), hE⟩

theorem gsT_null (U : TypeId) (v : Value) (w : World) : (Instr.typeAssert (.iface U v) 121 134 true).run Tryz.prog w = .ok (if U = 134 then .tuple #[v, .bool true] else .tuple #[.agg #[], .bool false]) w := by
  have hz : (zeroValue 134).run Tryz.prog w = .ok (.agg #[]) w := by kernel_rfl
  by_cases h : U = 134 <;> simp [Instr.typeAssert, run_underlying Tryz.underlying134, h, hz, Result.andThen]
theorem gsT_node (U : TypeId) (v : Value) (w : World) : (Instr.typeAssert (.iface U v) 121 135 true).run Tryz.prog w = .ok (if U = 135 then .tuple #[v, .bool true] else .tuple #[.int .i64 0, .bool false]) w := by
  have hz : (zeroValue 135).run Tryz.prog w = .ok (.int .i64 0) w := by kernel_rfl
  by_cases h : U = 135 <;> simp [Instr.typeAssert, run_underlying Tryz.underlying135, h, hz, Result.andThen]
theorem gsT_edge (U : TypeId) (v : Value) (w : World) : (Instr.typeAssert (.iface U v) 121 136 true).run Tryz.prog w = .ok (if U = 136 then .tuple #[v, .bool true] else .tuple #[.int .i64 0, .bool false]) w := by
  have hz : (zeroValue 136).run Tryz.prog w = .ok (.int .i64 0) w := by kernel_rfl
  by_cases h : U = 136 <;> simp [Instr.typeAssert, run_underlying Tryz.underlying136, h, hz, Result.andThen]
theorem gsT_list (U : TypeId) (v : Value) (w : World) : (Instr.typeAssert (.iface U v) 121 138 true).run Tryz.prog w = .ok (if U = 138 then .tuple #[v, .bool true] else .tuple #[.slice none 0 0, .bool false]) w := by
  have hz : (zeroValue 138).run Tryz.prog w = .ok (.slice none 0 0) w := by kernel_rfl
  by_cases h : U = 138 <;> simp [Instr.typeAssert, run_underlying Tryz.underlying138, h, hz, Result.andThen]

set_option maxHeartbeats 2000000 in
theorem mayBeProp_any : ∀ x, MB x := by
  refine V.ind fun k n t l ih => ?_
  intro S tm w hT
  have h0 := fun (U : TypeId) (v : Value) (w : World) => gsT_null U v w
  have hn := fun (U : TypeId) (v : Value) (w : World) => gsT_node U v w
  have he := fun (U : TypeId) (v : Value) (w : World) => gsT_edge U v w
  have hl := fun (U : TypeId) (v : Value) (w : World) => gsT_list U v w
  cases hT with
  | list _ _ _ a cap b off c hll ha hc hv =>
    have hcall := mbList l ih S (.slice a l.length cap) w ⟨a, cap, b, off, c, rfl, hll, ha, hc, hv⟩
    have hf : Hid (mbB (.mk 4 n t l) = mbL l) := by show _ = _; rw [mbB]; simp
    clear ih
    go_enter Tryz.func75, Tryz.ntmps75
    go_wp2_with (go_at_call 83; refine hcall.mono ?_; rintro e w' ⟨rfl, hE⟩)
    go_ret
    exact ⟨ret_bool (by rw [hf.out]), hE⟩
  | _ =>
    clear ih
    go_enter Tryz.func75, Tryz.ntmps75
    go_wp2
    go_ret
    exact ⟨ret_bool (by rw [mbB]; rfl), Ext.refl _⟩

theorem gokN_kind (d : Nat) (k n : Int) (t : ByteArray) (l : List V) (h : okN d (.mk k n t l) = true) : 0 ≤ k ∧ k ≤ 6 ∧ (¬ k = 4 → l.length = 0) ∧ (¬ k = 3 → t.toList = []) ∧ (k = 0 ∨ k = 3 ∨ k = 4 → n = 0) := by
  match d with
  | 0 | 1 | d + 2 =>
    unfold okN at h
    repeat' split at h
    all_goals simp_all
    all_goals omega
theorem gokN_list4 (d : Nat) (n : Int) (t : ByteArray) (l : List V) (h : okN d (.mk 4 n t l) = true) : ∀ i (hi : i < l.length), okN (d - 1) l[i] = true := by
  match d with
  | 0 | 1 =>
    unfold okN at h
    simp at h
    intro i hi
    rw [h.1.1] at hi
    simp at hi
  | d + 2 =>
    unfold okN at h
    simp at h
    intro i hi
    exact h.1.1.1 _ (List.getElem_mem hi)

/-- Of a value that is ok both ways to say that it may be a prop are one. -/
theorem mb_plain : ∀ (x : V) (d : Nat), okN d x = true → mbB x = plainB x := by
  refine V.ind fun k n t l ih => ?_
  intro d h
  obtain ⟨h0, h6, hl, _, _⟩ := gokN_kind d k n t l h
  by_cases h4 : k = 4
  · subst h4
    have hL := gokN_list4 d n t l h
    have : mbL l = plainL l := by
      clear h hl
      have key : ∀ (r : List V), (∀ i (hi : i < r.length), mbB r[i] = plainB r[i]) → mbL r = plainL r := by
        intro r
        induction r with
        | nil => intro _; rw [mbL, plainL]
        | cons x r ihr =>
          intro hr
          have h1 := hr 0 (by simp)
          simp only [List.getElem_cons_zero] at h1
          rw [mbL, plainL, h1, ihr (fun i hi => by have := hr (i + 1) (by simpa using hi); simpa using this)]
      exact key l (fun i hi => ih i hi (d - 1) (hL i hi))
    rw [mbB, plainB, if_neg (by omega), if_pos rfl, this]
    exact (Bool.and_true _).symm
  · have : l = [] := by simpa using hl h4
    subst this
    rw [mbB, plainB, plainL, Bool.true_and]
    by_cases h5 : k = 0 ∨ k = 5 ∨ k = 6
    · rw [if_pos h5]
      rcases h5 with rfl | rfl | rfl <;> rfl
    · rw [if_neg h5, if_neg h4]
      have : k = 1 ∨ k = 2 ∨ k = 3 := by omega
      rcases this with rfl | rfl | rfl <;> rfl
end Go.Proofs.YtbhmblkappmfjaaGreat

/- What the terms' method value answers: the value that the term was made of, in new memory of its own. -/
namespace Go.Proofs.YtbhmblkappmfjaaGreat
open Go.RowKit Go.Deep

def tyV (k : Int) : TypeId := if k = 0 then 134 else if k = 1 then 143 else if k = 2 then 144 else if k = 3 then 145 else if k = 4 then 138 else if k = 5 then 135 else 136
def vaF (k : Int) : Nat := if k = 0 then 111 else if k = 1 then 123 else if k = 2 then 126 else if k = 3 then 129 else if k = 4 then 120 else if k = 5 then 114 else 117

theorem TermIn.tyv {S : Nat → Prop} {w : World} {k n : Int} {s : ByteArray} {l : List V} {t : Value} (h : TermIn S w (.mk k n s l) t) : ∃ z, t = .iface (tyV k) z ∧ (k = 0 ∨ k = 1 ∨ k = 2 ∨ k = 3 ∨ k = 4 ∨ k = 5 ∨ k = 6) := by
  cases h <;> exact ⟨_, rfl, by simp⟩
theorem mval_null (z : Value) (w : World) : (method 266 134 z "loop.example/ashlar/impl.value").run Tryz.prog w = .ok (111, z) w := by kernel_rfl
theorem mval_bool (z : Value) (w : World) : (method 266 143 z "loop.example/ashlar/impl.value").run Tryz.prog w = .ok (123, z) w := by kernel_rfl
theorem mval_num (z : Value) (w : World) : (method 266 144 z "loop.example/ashlar/impl.value").run Tryz.prog w = .ok (126, z) w := by kernel_rfl
theorem mval_text (z : Value) (w : World) : (method 266 145 z "loop.example/ashlar/impl.value").run Tryz.prog w = .ok (129, z) w := by kernel_rfl
theorem mval_list (z : Value) (w : World) : (method 266 138 z "loop.example/ashlar/impl.value").run Tryz.prog w = .ok (120, z) w := by kernel_rfl
theorem mval_node (z : Value) (w : World) : (method 266 135 z "loop.example/ashlar/impl.value").run Tryz.prog w = .ok (114, z) w := by kernel_rfl
theorem mval_edge (z : Value) (w : World) : (method 266 136 z "loop.example/ashlar/impl.value").run Tryz.prog w = .ok (117, z) w := by kernel_rfl
theorem mval_any (k : Int) (hk : k = 0 ∨ k = 1 ∨ k = 2 ∨ k = 3 ∨ k = 4 ∨ k = 5 ∨ k = 6) (z : Value) (w : World) : (method 266 (tyV k) z "loop.example/ashlar/impl.value").run Tryz.prog w = .ok (vaF k, z) w := by
  rcases hk with rfl | rfl | rfl | rfl | rfl | rfl | rfl
  · exact mval_null z w
  · exact mval_bool z w
  · exact mval_num z w
  · exact mval_text z w
  · exact mval_list z w
  · exact mval_node z w
  · exact mval_edge z w

theorem enter_any (k : Int) (hk : k = 0 ∨ k = 1 ∨ k = 2 ∨ k = 3 ∨ k = 4 ∨ k = 5 ∨ k = 6) (z : Value) (w : World) : (callFunc (vaF k) #[z]).run Tryz.prog w = .ok (.enter (vaF k) #[z]) w := by
  rcases hk with rfl | rfl | rfl | rfl | rfl | rfl | rfl <;> kernel_rfl

/-- What value answers of the term of x. -/
def VL (x : V) : Prop := ∀ (k n : Int) (t : ByteArray) (d3 : D) (dp : Nat) (S : Nat → Prop) (z : Value) (w : World), x = .mk k n t (vsOf d3) → Has d3 (.list 2) → okN dp x = true → TermIn S w x (.iface (tyV k) z) →
  Calls Tryz.prog (vaF k) #[z] w fun e w' => ∃ u, e = .returned (.agg #[.int .i64 k, .int .i64 n, .string t, u]) ∧ DIn (New w.heap.size w'.heap.size) w' d3 u ∧ Own w' d3 (New w.heap.size w'.heap.size) u ∧ Ext w w'

theorem wfOf {n : Int} (h : -1000000000 ≤ n ∧ n ≤ 1000000000) : (Lit.int .i64 n).wf = true := by
  simp [Lit.wf, IntKind.min, IntKind.max, IntKind.signed, IntKind.bits]; omega
theorem gokN_num (d : Nat) (k n : Int) (t : ByteArray) (l : List V) (h : okN d (.mk k n t l) = true) : (-1000000000 ≤ n ∧ n ≤ 1000000000) ∧ t.size ≤ 16 := by
  have hs : t.toList = [] → t.size ≤ 16 := fun e => by rw [(toList_nil t).1 e]; omega
  match d with
  | 0 | 1 | d + 2 =>
    unfold okN at h
    repeat' split at h
    all_goals simp [inB, textB] at h
    all_goals first | exact ⟨by omega, by omega⟩ | exact ⟨by omega, hs (by simp_all)⟩
theorem gokN_wf (d : Nat) (k n : Int) (t : ByteArray) (l : List V) (h : okN d (.mk k n t l) = true) : (Lit.int .i64 k).wf = true ∧ (Lit.int .i64 n).wf = true ∧ t.size ≤ maxLen := by
  obtain ⟨h0, h6, _⟩ := gokN_kind d k n t l h
  obtain ⟨h1, h2⟩ := gokN_num d k n t l h
  exact ⟨wfOf (by omega), wfOf h1, by unfold maxLen; omega⟩
theorem empty_str {t : ByteArray} (h : t.toList = []) : t = ⟨#[]⟩ := by
  rw [ByteArray.toList_eq] at h
  cases t with
  | mk a =>
    have : a = #[] := by simpa using h
    rw [this]
theorem none_in {d3 : D} (H : Has d3 (.list 2)) (h : (vsOf d3).length = 0) (S : Nat → Prop) (w : World) : DIn S w d3 (.slice none 0 0) ∧ Own w d3 S (.slice none 0 0) := by
  obtain ⟨len, f, rfl, _⟩ := H.list
  rw [vsOf_len] at h
  subst h
  exact ⟨⟨none, 0, 0, 0, rfl, Nat.zero_le _, fun h => by omega, fun i hi => by omega⟩, ⟨none, 0, 0, 0, fun _ _ _ => False, rfl, fun h => by omega, fun i _ hi => by omega, fun i _ _ _ hi => by omega, fun i hi => by omega⟩⟩

set_option maxHeartbeats 1000000 in
theorem value_flat (k n : Int) (t : ByteArray) (l : List V) (h4 : ¬ k = 4) : VL (.mk k n t l) := by
  intro k' n' t' d3 dp S z w hx H hok hT
  cases hx
  obtain ⟨_, _, hl, ht, hn⟩ := gokN_kind dp k n t _ hok
  have hd := fun (Q : Nat → Prop) (W : World) => none_in H (hl h4) Q W
  cases hT with
  | list => exact absurd rfl h4
  | null =>
    have e1 := empty_str (ht (by omega))
    subst e1
    have e2 := hn (by omega)
    subst e2
    show Calls Tryz.prog 111 _ _ _
    go_enter Tryz.func111, Tryz.ntmps111
    go_wp2
    refine bodyPost_ret (v := .agg #[.int .i64 0, .int .i64 0, .string ⟨#[]⟩, .slice none 0 0]) (by simp [results, Tryz.results111, go_sem]) rfl ⟨_, rfl, (hd _ _).1, (hd _ _).2, ?_⟩
    first | exact (Ext.refl _).alloc _ | exact ((Ext.refl _).alloc _).alloc _
  | bool =>
    have e1 := empty_str (ht (by omega))
    subst e1
    show Calls Tryz.prog 123 _ _ _
    go_enter Tryz.func123, Tryz.ntmps123
    go_wp2
    refine bodyPost_ret (v := .agg #[.int .i64 1, .int .i64 n, .string ⟨#[]⟩, .slice none 0 0]) (by simp [results, Tryz.results123, go_sem]) rfl ⟨_, rfl, (hd _ _).1, (hd _ _).2, ?_⟩
    first | exact (Ext.refl _).alloc _ | exact ((Ext.refl _).alloc _).alloc _
  | num =>
    have e1 := empty_str (ht (by omega))
    subst e1
    show Calls Tryz.prog 126 _ _ _
    go_enter Tryz.func126, Tryz.ntmps126
    go_wp2
    refine bodyPost_ret (v := .agg #[.int .i64 2, .int .i64 n, .string ⟨#[]⟩, .slice none 0 0]) (by simp [results, Tryz.results126, go_sem]) rfl ⟨_, rfl, (hd _ _).1, (hd _ _).2, ?_⟩
    first | exact (Ext.refl _).alloc _ | exact ((Ext.refl _).alloc _).alloc _
  | text =>
    have e2 := hn (by omega)
    subst e2
    show Calls Tryz.prog 129 _ _ _
    go_enter Tryz.func129, Tryz.ntmps129
    go_wp2
    refine bodyPost_ret (v := .agg #[.int .i64 3, .int .i64 0, .string t, .slice none 0 0]) (by simp [results, Tryz.results129, go_sem]) rfl ⟨_, rfl, (hd _ _).1, (hd _ _).2, ?_⟩
    first | exact (Ext.refl _).alloc _ | exact ((Ext.refl _).alloc _).alloc _
  | node =>
    have e1 := empty_str (ht (by omega))
    subst e1
    show Calls Tryz.prog 114 _ _ _
    go_enter Tryz.func114, Tryz.ntmps114
    go_wp2
    refine bodyPost_ret (v := .agg #[.int .i64 5, .int .i64 n, .string ⟨#[]⟩, .slice none 0 0]) (by simp [results, Tryz.results114, go_sem]) rfl ⟨_, rfl, (hd _ _).1, (hd _ _).2, ?_⟩
    first | exact (Ext.refl _).alloc _ | exact ((Ext.refl _).alloc _).alloc _
  | edge =>
    have e1 := empty_str (ht (by omega))
    subst e1
    show Calls Tryz.prog 117 _ _ _
    go_enter Tryz.func117, Tryz.ntmps117
    go_wp2
    refine bodyPost_ret (v := .agg #[.int .i64 6, .int .i64 n, .string ⟨#[]⟩, .slice none 0 0]) (by simp [results, Tryz.results117, go_sem]) rfl ⟨_, rfl, (hd _ _).1, (hd _ _).2, ?_⟩
    first | exact (Ext.refl _).alloc _ | exact ((Ext.refl _).alloc _).alloc _

theorem Tryz.infoV : (Tryz.prog.info? 73).map (fun i => (i.zero, i.size, i.bytes)) = some (some (.agg #[.int .i64 0, .int .i64 0, .string ⟨#[]⟩, .slice none 0 0]), 4, 56) := by kernel_rfl

set_option maxRecDepth 4000 in
set_option maxHeartbeats 2000000 in
theorem value_list (n : Int) (t : ByteArray) (l : List V) (ih : ∀ i (hi : i < l.length), VL l[i]) : VL (.mk 4 n t l) := by
  intro k' n' t' d3 dp S z w hx H hok hT
  obtain ⟨rfl, rfl, rfl, rfl⟩ : 4 = k' ∧ n = n' ∧ t = t' ∧ l = vsOf d3 := by injection hx; exact ⟨by assumption, by assumption, by assumption, by assumption⟩
  clear hx
  obtain ⟨_, _, _, ht, hn⟩ := gokN_kind dp 4 n t _ hok
  have hoks := gokN_list4 dp n t _ hok
  have e1 := empty_str (ht (by omega))
  have e2 := hn (by omega)
  subst e1 e2
  clear ht hn hok
  obtain ⟨len, f, rfl, HR⟩ := H.list
  rw [show (rowsOf 2).length = 4 from rfl] at *
  have hlen := vsOf_len 4 len f
  cases hT with
  | list _ _ _ a cap b off c hll ha hc hv =>
  rw [hlen] at hll ha
  generalize hls : vsOf (D.list 4 len f) = ls at *
  show Calls Tryz.prog 120 _ _ _
  obtain ⟨i0, hi, hz0, hz1, hz2⟩ := info_parts Tryz.infoV
  go_enter Tryz.func120, Tryz.ntmps120
  go_wp2
  generalize hW0 : w.alloc _ = W0
  have hE0 : Ext w W0 := by subst hW0; exact (Ext.refl _).alloc _
  have hz : W0.heap.size = w.heap.size + 1 := by subst hW0; simp
  have hfz : ∀ W, Ext W0 W → ∀ o, W.frozen? ⟨w.heap.size, o, none⟩ = false := fun W hW o => by rw [(bcell hW).2 _ _ (by omega)]; subst hW0; simp
  have hbx : ∀ W, Ext W0 W → ∃ c0 c1 c2 c3, W.cell? ⟨w.heap.size, 0, none⟩ = some c0 ∧ W.cell? ⟨w.heap.size, 1, none⟩ = some c1 ∧ W.cell? ⟨w.heap.size, 2, none⟩ = some c2 ∧ W.cell? ⟨w.heap.size, 3, none⟩ = some c3 := fun W hW => by
    subst hW0; exact ⟨_, _, _, _, box_cell hW 0 _ rfl, box_cell hW 1 _ rfl, box_cell hW 2 _ rfl, box_cell hW 3 _ rfl⟩
  clear hW0
  go_loopw [3, 8] (fun u i wr => ∃ (k : Nat) (cs : List Value), k ≤ len ∧ i = .int .i64 k ∧ GSt wr W0.heap.size 73 4 f k u cs ∧ Ext W0 wr) (fun _ i _ => len - (intOf i).toNat)
  case atStart => exact ⟨0, [], Nat.zero_le _, rfl, GSt.nil _ _ _ _ _, Ext.refl _⟩
  case round =>
    obtain ⟨k, cs, hk, rfl, hG, hE⟩ := hrel
    obtain ⟨ua, ucap, rfl⟩ := hG.shape
    by_cases hlt : k < len
    · obtain ⟨rfl, hS, hb⟩ := ha (by omega)
      have g0 := hc k (by omega)
      have hEw : Ext w wr := hE0.trans hE
      rw [← hEw.cell hb] at g0
      have hx := (hv k (by omega)).ext hEw
      have hat : ls[k] = .mk (f k 0).int! (f k 1).int! (f k 2).str! (vsOf (f k 3)) := by subst hls; exact vsOf_at 4 len f k hlt
      have HRk := HR k hlt
      have H3 : Has (f k 3) (.list 2) := HRk 3 (by decide)
      obtain ⟨x0, hd0⟩ := (show Has (f k 0) .int from HRk 0 (by decide)).int
      obtain ⟨x1, hd1⟩ := (show Has (f k 1) .int from HRk 1 (by decide)).int
      obtain ⟨x2, hd2⟩ := (show Has (f k 2) .str from HRk 2 (by decide)).str
      rw [hd0, hd1, hd2] at hat
      simp only [D.int!, D.str!] at hat
      have hx2 := hx
      rw [hat] at hx2
      obtain ⟨zz, hzz, hkind⟩ := hx2.tyv
      rw [hzz] at g0
      have hcall := ih k (by omega) x0 x1 x2 (f k 3) (dp - 1) S zz wr hat H3 (hoks k (by omega)) (by rw [← hzz]; exact hx)
      have hmeth := mval_any x0 hkind zz
      have hent := enter_any x0 hkind zz
      have hwf := gokN_wf (dp - 1) x0 x1 x2 (vsOf (f k 3)) (by rw [← hat]; exact hoks k (by omega))
      clear ih hoks hx hx2 hzz hat HRk
      go_wp2_with fail
      refine hcall.mono ?_
      rintro e w' ⟨u, rfl, hDi, hOw, hE2⟩
      clear hcall hmeth hent g0
      obtain ⟨len3, f3, hd3, _⟩ := H3.list
      have hDi2 := hDi
      rw [hd3] at hDi2
      obtain ⟨a3, cap3, rfl, _⟩ := hDi2.list_eq
      clear hDi2
      have hz2' := hE2.le
      have hz1' := hE.le
      go_wp2_with (at_builtin; go_must (refine wpList_append_own_at _ rfl _ _ 71 rfl W0.heap.size 73 i0 _ 4 56 Tryz.underlying71 hi hz0 hz1 hz2 rfl (by decide) _ _ _ rfl ((hG.ext hE2).row.alloc _) ⟨w'.heap.size, 0, none⟩ 1 1 [.int .i64 x0, .int .i64 x1, .string x2, .slice a3 len3 cap3] rfl rfl (World.news_of_block (cs := #[.int .i64 x0, .int .i64 x1, .string x2, .slice a3 len3 cap3]) (t := 73) (fr := (0, 0)) (heap_alloc_new w' _)) (by simp [Value.oneCell']) (by unfold maxLen; omega) (by omega) (by simp; omega) ?_); intro v' w3 hown' hgrow hnil hloc)
      go_roundw
      case rel =>
        refine ⟨k + 1, cs ++ [.int .i64 x0, .int .i64 x1, .string x2, .slice a3 len3 cap3], by omega, by go_num, ?_, hG.grew ((hE.trans hE2).alloc _) hgrow⟩
        refine hG.push (w1 := w'.alloc _) (hE2.alloc _) (by have := hE.le; omega) [.int .i64 x0, .int .i64 x1, .string x2, .slice a3 len3 cap3] rfl (fun j => if j = 3 then New wr.heap.size w'.heap.size else fun _ => False) (fun j hj => ?_) (fun j j' hj hj' hne x hx => ?_) hown' hgrow hloc
        · have hc : j = 0 ∨ j = 1 ∨ j = 2 ∨ j = 3 := by omega
          rcases hc with rfl | rfl | rfl | rfl
          · rw [hd0]; exact ⟨⟨rfl, hwf.1⟩, trivial, fun x hx => absurd hx (by simp)⟩
          · rw [hd1]; exact ⟨⟨rfl, hwf.2.1⟩, trivial, fun x hx => absurd hx (by simp)⟩
          · rw [hd2]; exact ⟨⟨rfl, hwf.2.2⟩, trivial, fun x hx => absurd hx (by simp)⟩
          · exact ⟨hDi.ext ((Ext.refl _).alloc _), hOw.ext ((Ext.refl _).alloc _), fun x hx => ⟨hx.1, Nat.lt_of_lt_of_le hx.2 (by simp)⟩⟩
        · intro hx'
          by_cases h3 : j = 3
          · rw [if_neg (by omega)] at hx'; exact hx'
          · rw [if_neg h3] at hx; exact hx
      case measure => simp [intOf]; omega
    · have hkl : k = len := by omega
      subst hkl
      obtain ⟨hD, hO⟩ := hG.end (by unfold maxLen; omega)
      obtain ⟨c0, c1, c2, c3, b0, b1, b2, b3⟩ := hbx wr hE
      have q0 := hfz wr hE 0
      have q1 := hfz wr hE 1
      have q2 := hfz wr hE 2
      have q3 := hfz wr hE 3
      have hlt0 : w.heap.size < wr.heap.size := by have := hE.le; omega
      clear ih hoks
      go_wp2
      have hnot : ¬ New W0.heap.size wr.heap.size w.heap.size := fun h => by have := h.1; omega
      have hmono : ∀ x, New W0.heap.size wr.heap.size x → New w.heap.size wr.heap.size x := fun x h => ⟨by have := h.1; omega, h.2⟩
      refine bodyPost_ret (v := .agg #[.int .i64 4, .int .i64 0, .string ⟨#[]⟩, .slice ua k ucap]) (by simp [results, Tryz.results120, go_sem, b0, b1, b2, b3]) rfl ⟨_, rfl, ?_, ?_, ?_⟩
      · simp only [World.size_setCell]
        exact ((((hD.setCell hnot _).setCell hnot _).setCell hnot _).setCell hnot _).mono hmono
      · simp only [World.size_setCell]
        exact ((((hO.setCell hnot _).setCell hnot _).setCell hnot _).setCell hnot _).mono hmono
      · exact ((((hE0.trans hE).setCell (Nat.le_refl _) _).setCell (Nat.le_refl _) _).setCell (Nat.le_refl _) _).setCell (Nat.le_refl _) _

theorem value_any : ∀ x, VL x := by
  refine V.ind fun k n t l ih => ?_
  by_cases h4 : k = 4
  · subst h4; exact value_list n t l ih
  · exact value_flat k n t l h4
end Go.Proofs.YtbhmblkappmfjaaGreat

/- What impl.labelsOf and impl.propValue answer. -/
namespace Go.Proofs.YtbhmblkappmfjaaGreat
open Go.RowKit Go.Deep

theorem Tryz.infoS : (Tryz.prog.info? 9).map (fun i => (i.zero, i.size, i.bytes)) = some (some (.string ⟨#[]⟩), 1, 16) := by kernel_rfl

set_option maxRecDepth 4000 in
set_option maxHeartbeats 2000000 in
theorem labelsOf_any (d : D) (H : Has d (.list 0)) (S : Nat → Prop) (v : Value) (w : World) (hv : DIn S w d v) :
    Calls Tryz.prog 43 #[v] w fun e w' => ∃ a l c, e = .returned (.tuple #[.slice a l c, .bool (labelsB d)]) ∧ (labelsB d = true → DIn (New w.heap.size w'.heap.size) w' d (.slice a l c) ∧ Own w' d (New w.heap.size w'.heap.size) (.slice a l c)) ∧ (labelsB d = true → l ≤ c) ∧ Ext w w' := by
  obtain ⟨len, f, rfl, HRa⟩ := H.list
  change DIn S w (.list 1 len f) v at hv
  obtain ⟨a, cap, rfl, hm⟩ := hv.list_eq
  unfold maxLen at hm
  have HB : Hid (labelsB (.list (rowsOf 0).length len f) = ((List.range len).all (labelB f) && decide (len ≤ 3))) := rfl
  generalize hlb : labelsB (.list (rowsOf 0).length len f) = lb at *
  rw [show (rowsOf 0).length = 1 from rfl] at *
  clear hlb
  by_cases hl3 : 3 < len
  · have hf : Hid (lb = false) := by show _ = _; rw [HB.out, decide_eq_false (by omega : ¬ len ≤ 3), Bool.and_false]
    go_enter Tryz.func43, Tryz.ntmps43
    go_wp2
    go_ret2
    exact ⟨_, _, _, by rw [hf.out]; rfl, fun h => (by rw [hf.out] at h; cases h), fun h => (by rw [hf.out] at h; cases h), Ext.refl _⟩
  obtain ⟨i0, hi, hz0, hz1, hz2⟩ := info_parts Tryz.infoS
  go_enter Tryz.func43, Tryz.ntmps43
  go_wp2
  go_loopw [4, 12] (fun u i wr => ∃ (k : Nat) (cs : List Value), k ≤ len ∧ i = .int .i64 k ∧ GSt wr w.heap.size 9 1 f k u cs ∧ Ext w wr ∧ ∀ j, j < k → labelB f j = true) (fun _ i _ => len - (intOf i).toNat)
  case atStart => exact ⟨0, [], Nat.zero_le _, rfl, GSt.nil _ _ _ _ _, Ext.refl _, fun j h => by omega⟩
  case round =>
    obtain ⟨k, cs, hk, rfl, hG, hE, hno⟩ := hrel
    obtain ⟨ua, ucap, rfl⟩ := hG.shape
    by_cases hlt : k < len
    · obtain ⟨cap2, b, off, C, hsl, _, hb, ec, hx⟩ := (hv.ext hE).at hlt
      cases hsl
      have HR := HRa k hlt
      obtain ⟨x0, hd0⟩ := (show Has (f k 0) .str from HR 0 (by decide)).str
      have h0 := hx 0 (by decide)
      have e0 := ec 0 (by decide)
      rw [hd0] at h0
      obtain ⟨y0, z0⟩ := h0.str_eq
      rw [y0] at e0
      have e0 : wr.cell? ⟨b, off + k, none⟩ = some (.string x0) := by simpa using e0
      clear y0 hx ec HR
      have hLk : Hid (labelB f k = (nameB x0 && (k == 0 || ltS (f (k - 1) 0).str! x0))) := by show _ = _; simp [labelB, hd0, D.str!]
      have hbad : labelB f k = false → lb = false := fun h => by rw [HB.out, all_no hlt h]; rfl
      have hstep : ∀ {w3 v'}, w3.ownsRow w.heap.size 9 1 v' (k + 1) (cs ++ [.string x0]) → (wr.alloc (.cells #[.string x0] 9)).grownBy w3 (Value.slice ua k ucap).ownBlock → (v'.ownBlock = (Value.slice ua k ucap).ownBlock ∨ v'.ownBlock = some (wr.alloc (.cells #[.string x0] 9)).heap.size) → GSt w3 w.heap.size 9 1 f (k + 1) v' (cs ++ [.string x0]) ∧ Ext w w3 := by
        intro w3 v' hown hg hloc
        refine ⟨hG.push (w1 := wr.alloc _) ((Ext.refl _).alloc _) hE.le [.string x0] rfl (fun _ _ => False) (fun j hj => ?_) (fun j j' _ _ _ x hx => hx.elim) hown hg hloc, hG.grew (hE.alloc _) hg⟩
        obtain rfl : j = 0 := by omega
        rw [hd0]
        exact ⟨⟨rfl, z0⟩, trivial, fun x hx => hx.elim⟩
      cases hn : nameB x0
      · have hfin : Hid (lb = false) := hbad (by rw [hLk.out, hn]; rfl)
        go_wp2_with (go_at_call 46; refine (implNameOk_any _ _ z0).mono ?_; rintro e w' ⟨rfl, hw⟩; rw [hw, hn]; clear hw w')
        go_ret2
        exact ⟨_, _, _, by rw [hfin.out]; rfl, fun h => (by rw [hfin.out] at h; cases h), fun h => (by rw [hfin.out] at h; cases h), hE⟩
      · by_cases hk0 : k = 0
        · subst hk0
          have hok : Hid (labelB f 0 = true) := by show _ = _; rw [hLk.out, hn]; rfl
          replace e0 : wr.cell? ⟨b, off, none⟩ = some (.string x0) := by simpa using e0
          go_wp2_with (first | (go_at_call 46; refine (implNameOk_any _ _ z0).mono ?_; rintro e w' ⟨rfl, hw⟩; rw [hw, hn]; clear hw w') | (at_builtin; refine wpList_append_own_at _ rfl _ _ 31 rfl w.heap.size 9 i0 _ 1 16 Tryz.underlying31 hi hz0 hz1 hz2 rfl (by decide) _ _ _ rfl (hG.row.alloc _) ⟨wr.heap.size, 0, none⟩ 1 1 [.string x0] rfl rfl (cell_one_new _ _ _) (by simp [Value.oneCell']) (by unfold maxLen; omega) (by omega) (by have := hE.le; simp; omega) ?_; intro v' w3 hown' hgrow hnil hloc))
          go_roundw
          case rel =>
            obtain ⟨s1, s2⟩ := hstep hown' hgrow hloc
            exact ⟨1, _, by omega, by go_num, s1, s2, upto_succ hno hok.out⟩
          case measure => simp [intOf]; omega
        · obtain ⟨m, rfl⟩ : ∃ m, k = m + 1 := ⟨k - 1, by omega⟩
          obtain ⟨cap3, b3, off3, C3, hsl, _, hb3, ec3, hx3⟩ := (hv.ext hE).at (i := m) (by omega)
          cases hsl
          have HR := HRa m (by omega)
          obtain ⟨x1, hd1⟩ := (show Has (f m 0) .str from HR 0 (by decide)).str
          have h1 := hx3 0 (by decide)
          have e1 := ec3 0 (by decide)
          rw [hd1] at h1
          rw [h1.str_eq.1] at e1
          clear hx3 ec3 HR
          have e1 : wr.cell? ⟨b, off + m, none⟩ = some (.string x1) := by simpa using e1
          have hLk2 : Hid (labelB f (m + 1) = ltS x1 x0) := by show _ = _; rw [hLk.out, hn]; simp [hd1, D.str!]
          clear hLk
          have i0' : 0 ≤ (m : Int) + 1 := by omega
          have i1 : (m : Int) + 1 < (len : Int) := by omega
          have i2 : (m : Int) < (len : Int) := by omega
          have iw : IntKind.i64.wrap (m : Int) = m := wrap_i64 (by omega) (by omega)
          cases hcmp : Op.bytesLess x1.toList x0.toList
          · have hfin : Hid (lb = false) := hbad (by rw [hLk2.out]; exact hcmp)
            go_wp2_with (go_at_call 46; refine (implNameOk_any _ _ z0).mono ?_; rintro e w' ⟨rfl, hw⟩; rw [hw, hn]; clear hw w')
            go_ret2
            exact ⟨_, _, _, by rw [hfin.out]; rfl, fun h => (by rw [hfin.out] at h; cases h), fun h => (by rw [hfin.out] at h; cases h), hE⟩
          · have hok : Hid (labelB f (m + 1) = true) := by show _ = _; rw [hLk2.out]; exact hcmp
            go_wp2_with (first | (go_at_call 46; refine (implNameOk_any _ _ z0).mono ?_; rintro e w' ⟨rfl, hw⟩; rw [hw, hn]; clear hw w') | (at_builtin; refine wpList_append_own_at _ rfl _ _ 31 rfl w.heap.size 9 i0 _ 1 16 Tryz.underlying31 hi hz0 hz1 hz2 rfl (by decide) _ _ _ rfl (hG.row.alloc _) ⟨wr.heap.size, 0, none⟩ 1 1 [.string x0] rfl rfl (cell_one_new _ _ _) (by simp [Value.oneCell']) (by unfold maxLen; omega) (by omega) (by have := hE.le; simp; omega) ?_; intro v' w3 hown' hgrow hnil hloc))
            go_roundw
            case rel =>
              obtain ⟨s1, s2⟩ := hstep hown' hgrow hloc
              exact ⟨m + 1 + 1, _, by omega, by go_num, s1, s2, upto_succ hno hok.out⟩
            case measure => simp [intOf]; omega
    · have hkx : k = len := by omega
      subst hkx
      have hfin : Hid (lb = true) := by show _ = _; rw [HB.out, all_yes hno, decide_eq_true (by omega : k ≤ 3)]; rfl
      have hend := hG.end (by unfold maxLen; omega)
      have hcapk := (show Hid _ from hG.cap)
      go_wp2
      go_ret2
      exact ⟨_, _, _, by rw [hfin.out]; rfl, fun _ => hend, fun _ => hcapk.out, hE⟩

set_option maxRecDepth 4000 in
set_option maxHeartbeats 2000000 in
theorem propValue_any (x0 x1 : Int) (x2 : ByteArray) (d3 : D) (c3 : Value) (S : Nat → Prop) (w : World) (z0 : (Lit.int .i64 x0).wf = true) (z1 : (Lit.int .i64 x1).wf = true) (z2 : x2.size ≤ maxLen) (H3 : Has d3 (.list 2)) (h3 : DIn S w d3 c3) :
    Calls Tryz.prog 58 #[.agg #[.int .i64 x0, .int .i64 x1, .string x2, c3]] w fun e w' => ∃ y0 y1 y2 a l c, e = .returned (.tuple #[.agg #[.int .i64 y0, .int .i64 y1, .string y2, .slice a l c], .bool (okN 3 (.mk x0 x1 x2 (vsOf d3)) && plainB (.mk x0 x1 x2 (vsOf d3)))]) ∧
      ((okN 3 (.mk x0 x1 x2 (vsOf d3)) && plainB (.mk x0 x1 x2 (vsOf d3))) = true → y0 = x0 ∧ y1 = x1 ∧ y2 = x2 ∧ DIn (New w.heap.size w'.heap.size) w' d3 (.slice a l c) ∧ Own w' d3 (New w.heap.size w'.heap.size) (.slice a l c)) ∧ Ext w w' := by
  have hv := valIn_of z0 z1 z2 H3 h3
  have hcall := fun W (hW : Ext w W) => termOf_any _ 0 _ W (hv.ext hW)
  have hmb := fun (h : okN 3 (.mk x0 x1 x2 (vsOf d3)) = true) => mb_plain (.mk x0 x1 x2 (vsOf d3)) 3 h
  obtain ⟨a3, cap3, l3, f3, hD3, rfl, _, _⟩ := list_shape H3 h3
  clear hD3 h3 hv
  generalize hB : (okN 3 (V.mk x0 x1 x2 (vsOf d3)) && plainB (V.mk x0 x1 x2 (vsOf d3))) = B
  have HB : Hid ((okN 3 (V.mk x0 x1 x2 (vsOf d3)) && plainB (V.mk x0 x1 x2 (vsOf d3))) = B) := hB
  clear hB
  have HE0 : Ext w ((w.alloc (.cells #[.int .i64 x0, .int .i64 x1, .string x2, .slice a3 l3 cap3] 73)).alloc (.cells #[.int .i64 0, .int .i64 0, .string ⟨#[]⟩, .slice none 0 0] 73)) := ((Ext.refl _).alloc _).alloc _
  go_enter Tryz.func58, Tryz.ntmps58
  go_wp2_with fail
  refine (hcall _ HE0).mono ?_
  rintro e w1 ⟨t, rfl, hF, hT, hE1⟩
  clear hcall
  have hbx : ∀ W, Ext w1 W → W.cell? ⟨w.heap.size + 1, 0, none⟩ = some (.int .i64 0) ∧ W.cell? ⟨w.heap.size + 1, 1, none⟩ = some (.int .i64 0) ∧ W.cell? ⟨w.heap.size + 1, 2, none⟩ = some (.string ⟨#[]⟩) ∧ W.cell? ⟨w.heap.size + 1, 3, none⟩ = some (.slice none 0 0) := fun W hW => by
    have q := (bcell (hE1.trans hW)).1
    simp only [World.size_alloc] at q
    refine ⟨?_, ?_, ?_, ?_⟩ <;> (rw [q _ _ (by omega)]; simp)
  have hfz : ∀ W, Ext w1 W → ∀ o, W.frozen? ⟨w.heap.size + 1, o, none⟩ = false := fun W hW o => by
    have q := (bcell (hE1.trans hW)).2
    simp only [World.size_alloc] at q
    rw [q _ _ (by omega)]; simp
  have hz1 : w.heap.size + 2 ≤ w1.heap.size := by have := hE1.le; simp at this; omega
  cases ho : okN 3 (V.mk x0 x1 x2 (vsOf d3))
  · clear hT hmb
    have HO : Hid (B = false) := by show _ = _; rw [← HB.out, ho]; rfl
    obtain ⟨b0, b1, b2, b3⟩ := hbx w1 (Ext.refl _)
    have q0 := hfz w1 (Ext.refl _) 0
    have q1 := hfz w1 (Ext.refl _) 1
    have q2 := hfz w1 (Ext.refl _) 2
    have q3 := hfz w1 (Ext.refl _) 3
    rcases hF with rfl | ⟨ty, y, rfl⟩
    all_goals
      go_wp2
      refine bodyPost_ret (v := .tuple #[.agg #[.int .i64 0, .int .i64 0, .string ⟨#[]⟩, .slice none 0 0], .bool false]) (by simp [results, Tryz.results58, go_sem, b0, b1, b2, b3]) rfl ⟨_, _, _, _, _, _, by rw [HO.out], fun h => (by rw [HO.out] at h; cases h), ?_⟩
      exact ((((HE0.trans hE1).setCell (by simp) _).setCell (by simp) _).setCell (by simp) _).setCell (by simp) _
  · have hTI := hT ho
    have hm := hmb ho
    have hp := fun W (hW : Ext w1 W) => mayBeProp_any _ _ t W (hTI.ext hW)
    have hva := fun z W (hW : Ext w1 W) (e : t = .iface (tyV x0) z) => value_any _ x0 x1 x2 d3 3 _ z W rfl H3 ho (by rw [← e]; exact hTI.ext hW)
    obtain ⟨z, hz, hkind⟩ := hTI.tyv
    subst hz
    replace hva := fun W hW => hva z W hW rfl
    have hmeth := mval_any x0 hkind z
    have hent := enter_any x0 hkind z
    rw [hm] at hp
    clear hT hmb hF hTI
    cases hpl : plainB (V.mk x0 x1 x2 (vsOf d3))
    · have HO : Hid (B = false) := by show _ = _; rw [← HB.out, hpl]; exact Bool.and_false _
      rw [hpl] at hp
      clear hva
      obtain ⟨b0, b1, b2, b3⟩ := hbx w1 (Ext.refl _)
      have q0 := hfz w1 (Ext.refl _) 0
      have q1 := hfz w1 (Ext.refl _) 1
      have q2 := hfz w1 (Ext.refl _) 2
      have q3 := hfz w1 (Ext.refl _) 3
      go_wp2_with (go_at_call 75; refine (hp _ (Ext.refl _)).mono ?_; rintro e w2 ⟨rfl, hE2⟩; obtain ⟨b0, b1, b2, b3⟩ := hbx w2 hE2; have q0 := hfz w2 hE2 0; have q1 := hfz w2 hE2 1; have q2 := hfz w2 hE2 2; have q3 := hfz w2 hE2 3)
      refine bodyPost_ret (v := .tuple #[.agg #[.int .i64 0, .int .i64 0, .string ⟨#[]⟩, .slice none 0 0], .bool false]) (by simp [results, Tryz.results58, go_sem, *]) rfl ⟨_, _, _, _, _, _, by rw [HO.out], fun h => (by rw [HO.out] at h; cases h), ?_⟩
      exact (((((HE0.trans hE1).trans hE2).setCell (by simp) _).setCell (by simp) _).setCell (by simp) _).setCell (by simp) _
    · have HO : Hid (B = true) := by show _ = _; rw [← HB.out, hpl, ho]; rfl
      rw [hpl] at hp
      go_wp2_with (go_at_call 75; refine (hp _ (Ext.refl _)).mono ?_; rintro e w2 ⟨rfl, hE2⟩)
      refine (hva _ hE2).mono ?_
      rintro e w3 ⟨u, rfl, hDi, hOw, hE3⟩
      obtain ⟨a4, cap4, l4, f4, _, rfl, _, _⟩ := list_shape H3 hDi
      obtain ⟨b0, b1, b2, b3⟩ := hbx w3 (hE2.trans hE3)
      have q0 := hfz w3 (hE2.trans hE3) 0
      have q1 := hfz w3 (hE2.trans hE3) 1
      have q2 := hfz w3 (hE2.trans hE3) 2
      have q3 := hfz w3 (hE2.trans hE3) 3
      have hz2 := hE2.le
      have hz3 := hE3.le
      clear hp hva hmeth hent
      go_wp2
      have hnot : ¬ New w2.heap.size w3.heap.size (w.heap.size + 1) := fun h => by have := h.1; omega
      have hmono : ∀ x, New w2.heap.size w3.heap.size x → New w.heap.size w3.heap.size x := fun x h => ⟨by have := h.1; omega, h.2⟩
      refine bodyPost_ret (v := .tuple #[.agg #[.int .i64 x0, .int .i64 x1, .string x2, .slice a4 l4 cap4], .bool true]) (by simp [results, Tryz.results58, go_sem, b0, b1, b2, b3]) rfl ⟨_, _, _, _, _, _, by rw [HO.out], fun _ => ⟨rfl, rfl, rfl, ?_, ?_⟩, ?_⟩
      · simp only [World.size_setCell]
        exact ((((hDi.setCell hnot _).setCell hnot _).setCell hnot _).setCell hnot _).mono hmono
      · simp only [World.size_setCell]
        exact ((((hOw.setCell hnot _).setCell hnot _).setCell hnot _).setCell hnot _).mono hmono
      · exact ((((((HE0.trans hE1).trans hE2).trans hE3).setCell (by simp) _).setCell (by simp) _).setCell (by simp) _).setCell (by simp) _
end Go.Proofs.YtbhmblkappmfjaaGreat

/- What impl.propsOf answers. -/
namespace Go.Proofs.YtbhmblkappmfjaaGreat
open Go.RowKit Go.Deep

theorem Tryz.infoP : (Tryz.prog.info? 75).map (fun i => (i.zero, i.size, i.bytes)) = some (some (.agg #[.string ⟨#[]⟩, .int .i64 0, .int .i64 0, .string ⟨#[]⟩, .slice none 0 0]), 5, 72) := by kernel_rfl

set_option maxRecDepth 100000 in
set_option maxHeartbeats 4000000 in
theorem propsOf_any (d : D) (H : Has d (.list 3)) (S : Nat → Prop) (v : Value) (w : World) (hv : DIn S w d v) :
    Calls Tryz.prog 44 #[v] w fun e w' => ∃ a l c, e = .returned (.tuple #[.slice a l c, .bool (propsB d)]) ∧ (propsB d = true → DIn (New w.heap.size w'.heap.size) w' d (.slice a l c) ∧ Own w' d (New w.heap.size w'.heap.size) (.slice a l c)) ∧ (propsB d = true → l ≤ c) ∧ Ext w w' := by
  obtain ⟨len, f, rfl, HRa⟩ := H.list
  change DIn S w (.list 5 len f) v at hv
  obtain ⟨a, cap, rfl, hm⟩ := hv.list_eq
  unfold maxLen at hm
  have HB : Hid (propsB (.list (rowsOf 3).length len f) = ((List.range len).all (propB f) && decide (len ≤ 4))) := rfl
  generalize hlb : propsB (.list (rowsOf 3).length len f) = lb at *
  rw [show (rowsOf 3).length = 5 from rfl] at *
  clear hlb
  by_cases hl3 : 4 < len
  · have hf : Hid (lb = false) := by show _ = _; rw [HB.out, decide_eq_false (by omega : ¬ len ≤ 4), Bool.and_false]
    go_enter Tryz.func44, Tryz.ntmps44
    go_wp2
    go_ret2
    exact ⟨_, _, _, by rw [hf.out]; rfl, fun h => (by rw [hf.out] at h; cases h), fun h => (by rw [hf.out] at h; cases h), Ext.refl _⟩
  obtain ⟨i0, hi, hz0, hz1, hz2⟩ := info_parts Tryz.infoP
  go_enter Tryz.func44, Tryz.ntmps44
  go_wp2
  go_loopw [4, 14] (fun u i wr => ∃ (k : Nat) (cs : List Value), k ≤ len ∧ i = .int .i64 k ∧ GSt wr w.heap.size 75 5 f k u cs ∧ Ext w wr ∧ ∀ j, j < k → propB f j = true) (fun _ i _ => len - (intOf i).toNat)
  case atStart => exact ⟨0, [], Nat.zero_le _, rfl, GSt.nil _ _ _ _ _, Ext.refl _, fun j h => by omega⟩
  case round =>
    obtain ⟨k, cs, hk, rfl, hG, hE, hno⟩ := hrel
    obtain ⟨ua, ucap, rfl⟩ := hG.shape
    by_cases hlt : k < len
    · obtain ⟨cap2, b, off, C, hsl, _, hb, ec, hx⟩ := (hv.ext hE).at hlt
      cases hsl
      have HR := HRa k hlt
      obtain ⟨x0, hd0⟩ := (show Has (f k 0) .str from HR 0 (by decide)).str
      have h0 := hx 0 (by decide)
      have e0 := ec 0 (by decide)
      rw [hd0] at h0
      obtain ⟨y0, z0⟩ := h0.str_eq
      rw [y0] at e0
      clear y0
      obtain ⟨x1, hd1⟩ := (show Has (f k 1) .int from HR 1 (by decide)).int
      have h1 := hx 1 (by decide)
      have e1 := ec 1 (by decide)
      rw [hd1] at h1
      obtain ⟨y1, z1⟩ := h1.int_eq
      rw [y1] at e1
      clear y1
      obtain ⟨x2, hd2⟩ := (show Has (f k 2) .int from HR 2 (by decide)).int
      have h2 := hx 2 (by decide)
      have e2 := ec 2 (by decide)
      rw [hd2] at h2
      obtain ⟨y2, z2⟩ := h2.int_eq
      rw [y2] at e2
      clear y2
      obtain ⟨x3, hd3⟩ := (show Has (f k 3) .str from HR 3 (by decide)).str
      have h3 := hx 3 (by decide)
      have e3 := ec 3 (by decide)
      rw [hd3] at h3
      obtain ⟨y3, z3⟩ := h3.str_eq
      rw [y3] at e3
      clear y3
      have H4 : Has (f k 4) (.list 2) := HR 4 (by decide)
      have h4 := hx 4 (by decide)
      have e4 := ec 4 (by decide)
      simp only [Nat.add_zero] at e0
      clear hx ec
      obtain ⟨X, hX⟩ : ∃ X, X = pvalOf (f k) := ⟨_, rfl⟩
      have hXe : X = .mk x1 x2 x3 (vsOf (f k 4)) := by rw [hX, pvalOf, hd1, hd2, hd3]; rfl
      have hLk : Hid (propB f k = (nameB x0 && okN 3 X && plainB X && (k == 0 || ltS (f (k - 1) 0).str! x0))) := by show _ = _; rw [propB, ← hX, hd0]; rfl
      have hbad : propB f k = false → lb = false := fun h => by rw [HB.out, all_no hlt h]; rfl
      have hcall := fun W (hW : Ext wr W) => propValue_any x1 x2 x3 (f k 4) (C 4) S W z1 z2 z3 H4 (h4.ext hW)
      rw [← hXe] at hcall
      obtain ⟨a4, cap4, l4, f4, _, hC4, _, _⟩ := list_shape H4 h4
      rw [hC4] at hcall e4
      clear HR hX hXe h4 hC4
      go_wp2_with fail
      refine (hcall _ ((Ext.refl _).alloc _)).mono ?_
      rintro e w1 ⟨y0, y1, y2, ya, yl, yc, rfl, hcp, hE1⟩
      clear hcall
      have hE1' : Ext wr w1 := ((Ext.refl _).alloc _).trans hE1
      have hszb : wr.heap.size < w1.heap.size := by have := hE1.le; simp at this; omega
      go_wp2_with fail
      generalize hW1 : w1.alloc _ = W1
      have hEa : Ext w1 W1 := by subst hW1; exact (Ext.refl _).alloc _
      have hszW : W1.heap.size = w1.heap.size + 1 := by subst hW1; simp
      have hnm : ∀ W, Ext W1 W → W.cell? ⟨wr.heap.size, 0, none⟩ = some (.string x0) := fun W hW => box_cell (hE1.trans (hEa.trans hW)) 0 _ rfl
      have hvb : ∀ W, Ext W1 W → W.cell? ⟨w1.heap.size, 0, none⟩ = some (.int .i64 y0) ∧ W.cell? ⟨w1.heap.size, 1, none⟩ = some (.int .i64 y1) ∧ W.cell? ⟨w1.heap.size, 2, none⟩ = some (.string y2) ∧ W.cell? ⟨w1.heap.size, 3, none⟩ = some (.slice ya yl yc) := fun W hW => by
        subst hW1; exact ⟨box_cell hW 0 _ rfl, box_cell hW 1 _ rfl, box_cell hW 2 _ rfl, box_cell hW 3 _ rfl⟩
      clear hW1
      have hA : Ext w W1 := (hE.trans hE1').trans hEa
      cases hop : (okN 3 X && plainB X)
      · have hfin : Hid (lb = false) := hbad (by rw [hLk.out, Bool.and_assoc (nameB x0), hop]; simp)
        clear hcp
        have HK : Hid (∀ W, Ext W1 W → W.cell? ⟨wr.heap.size, 0, none⟩ = some (.string x0)) := hnm
        have hcur : Ext W1 W1.drew := (Ext.refl _).drew
        refine wp_region_held_drew (S := (fun W => W.cell? ⟨wr.heap.size, 0, none⟩ = some (.string x0))) (by kernel_rfl) (HK.out _ hcur) (fun hHeld => ?_)
        refine tkL 0 ⟨some 25, .move (.tmp 8), 4, _, #[], none⟩ ?_ hHeld ?yyA0 ?rrA0
        case yyA0 => (intro w hSw; (try dsimp only at hSw); go_simp; try with_reducible rfl)
        try simp only [Act.put, putA, putB, putC]
        refine tkL 1 ⟨some 26, .unOp .not 4 (.tmp 25), 4, _, #[⟨0, .data⟩], none⟩ ?_ hHeld ?yyA1 ?rrA1
        case yyA1 => (intro w hSw; (try dsimp only at hSw); go_simp; try with_reducible rfl)
        try simp only [Act.put, putA, putB, putC]
        refine tkL 2 ⟨some 27, .move (.tmp 26), 4, _, #[⟨1, .data⟩], none⟩ ?_ hHeld ?yyA2 ?rrA2
        case yyA2 => (intro w hSw; (try dsimp only at hSw); go_simp; try with_reducible rfl)
        try simp only [Act.put, putA, putB, putC]
        refine tkR 3 ⟨some 28, .fieldAddr 75 (.tmp 6) 0, 0, _, #[⟨2, .guard⟩], some (2, false)⟩ hHeld ?_
        try simp only [Act.put, putA, putB, putC]
        refine tkR 4 ⟨some 29, .load 9 (.tmp 28), 9, _, #[⟨3, .data⟩, ⟨2, .guard⟩], some (2, false)⟩ hHeld ?_
        try simp only [Act.put, putA, putB, putC]
        refine wpAnyH_ready (rs := [5]) (by kernel_rfl) (by simp) ?_
        refine AllReadyH.cons (o := ⟨some 30, .call { callee := .value (.func 46), args := #[.tmp 29], argTypes := #[9] }, 4, _, #[⟨4, .data⟩, ⟨2, .chain⟩, ⟨2, .guard⟩], some (2, false)⟩) rfl (fun K hK => ?_) AllReadyH.nil
        rw [if_neg (by simp [Region.wanted, yielded])]
        refine hK.out _ _ hHeld (fun hHeld => ?_)
        clear hK K
        try simp only [Act.put, putA, putB, putC]
        refine tkR 6 ⟨some 31, .unOp .not 4 (.tmp 30), 4, _, #[⟨5, .data⟩, ⟨2, .guard⟩], some (2, false)⟩ hHeld ?_
        try simp only [Act.put, putA, putB, putC]
        refine tkL 7 ⟨some 32, .pick (.tmp 27) (.const (.bool true)) (.tmp 31), 4, _, #[⟨2, .data⟩, ⟨6, .data⟩], none⟩ ?_ hHeld ?yyA7 ?rrA7
        case yyA7 => (intro w hSw; (try dsimp only at hSw); go_simp; try with_reducible rfl)
        try simp only [Act.put, putA, putB, putC]
        refine tkL 8 ⟨some 33, .move (.tmp 32), 4, _, #[⟨7, .data⟩, ⟨5, .chain⟩], none⟩ ?_ hHeld ?yyA8 ?rrA8
        case yyA8 => (intro w hSw; (try dsimp only at hSw); go_simp; try with_reducible rfl)
        try simp only [Act.put, putA, putB, putC]
        refine tkR 9 ⟨some 34, .move (.tmp 5), 3, _, #[⟨8, .guard⟩], some (8, false)⟩ hHeld ?_
        try simp only [Act.put, putA, putB, putC]
        refine tkR 10 ⟨some 35, .binOp .gtr 3 (.tmp 34) (.const (.int .i64 0)) 3, 4, _, #[⟨9, .data⟩, ⟨8, .guard⟩], some (8, false)⟩ hHeld ?_
        try simp only [Act.put, putA, putB, putC]
        refine tkR 11 ⟨some 36, .move (.tmp 35), 4, _, #[⟨10, .data⟩, ⟨8, .chain⟩, ⟨8, .guard⟩], some (8, false)⟩ hHeld ?_
        try simp only [Act.put, putA, putB, putC]
        refine tkR 12 ⟨some 37, .move (.tmp 0), 32, _, #[⟨11, .guard⟩], some (11, true)⟩ hHeld ?_
        try simp only [Act.put, putA, putB, putC]
        refine tkR 13 ⟨some 38, .move (.tmp 5), 3, _, #[⟨11, .guard⟩], some (11, true)⟩ hHeld ?_
        try simp only [Act.put, putA, putB, putC]
        refine tkR 14 ⟨some 39, .binOp .sub 3 (.tmp 38) (.const (.int .i64 1)) 3, 3, _, #[⟨13, .data⟩, ⟨11, .guard⟩], some (11, true)⟩ hHeld ?_
        try simp only [Act.put, putA, putB, putC]
        refine tkR 15 ⟨some 40, .indexAddr 32 (.tmp 37) (.tmp 39), 0, _, #[⟨12, .data⟩, ⟨14, .data⟩, ⟨11, .guard⟩], some (11, true)⟩ hHeld ?_
        try simp only [Act.put, putA, putB, putC]
        refine tkR 16 ⟨some 41, .fieldAddr 75 (.tmp 40) 0, 0, _, #[⟨15, .data⟩, ⟨11, .guard⟩], some (11, true)⟩ hHeld ?_
        try simp only [Act.put, putA, putB, putC]
        refine tkR 17 ⟨some 42, .load 9 (.tmp 41), 9, _, #[⟨16, .data⟩, ⟨11, .guard⟩], some (11, true)⟩ hHeld ?_
        try simp only [Act.put, putA, putB, putC]
        refine tkR 18 ⟨some 43, .fieldAddr 75 (.tmp 6) 0, 0, _, #[⟨11, .guard⟩], some (11, true)⟩ hHeld ?_
        try simp only [Act.put, putA, putB, putC]
        refine tkR 19 ⟨some 44, .load 9 (.tmp 43), 9, _, #[⟨18, .data⟩, ⟨11, .guard⟩], some (11, true)⟩ hHeld ?_
        try simp only [Act.put, putA, putB, putC]
        refine tkR 20 ⟨some 45, .binOp .geq 9 (.tmp 42) (.tmp 44) 9, 4, _, #[⟨17, .data⟩, ⟨19, .data⟩, ⟨11, .guard⟩], some (11, true)⟩ hHeld ?_
        try simp only [Act.put, putA, putB, putC]
        refine tkR 21 ⟨some 46, .pick (.tmp 36) (.tmp 45) (.const (.bool false)), 4, _, #[⟨11, .data⟩, ⟨20, .data⟩, ⟨8, .guard⟩], some (8, false)⟩ hHeld ?_
        try simp only [Act.put, putA, putB, putC]
        refine tkL 22 ⟨some 47, .pick (.tmp 33) (.const (.bool true)) (.tmp 46), 4, _, #[⟨8, .data⟩, ⟨21, .data⟩], none⟩ ?_ hHeld ?yyA22 ?rrA22
        case yyA22 => (intro w hSw; (try dsimp only at hSw); go_simp; try with_reducible rfl)
        try simp only [Act.put, putA, putB, putC]
        refine wpAnyH_done (by kernel_rfl) ?_ _
        go_wp2
        go_ret2
        exact ⟨_, _, _, by rw [hfin.out]; rfl, fun h => (by rw [hfin.out] at h; cases h), fun h => (by rw [hfin.out] at h; cases h), hA.trans hcur⟩
      · obtain ⟨rfl, rfl, rfl, hDi, hOw⟩ := hcp hop
        clear hcp
        have hstep : ∀ {W w3 : World} {v' : Value}, Ext W1 W → w3.ownsRow w.heap.size 75 5 v' (k + 1) (cs ++ [.string x0, .int .i64 y0, .int .i64 y1, .string y2, .slice ya yl yc]) → (W.alloc (.cells #[.string x0, .int .i64 y0, .int .i64 y1, .string y2, .slice ya yl yc] 75)).grownBy w3 (Value.slice ua k ucap).ownBlock → (v'.ownBlock = (Value.slice ua k ucap).ownBlock ∨ v'.ownBlock = some (W.alloc (.cells #[.string x0, .int .i64 y0, .int .i64 y1, .string y2, .slice ya yl yc] 75)).heap.size) → GSt w3 w.heap.size 75 5 f (k + 1) v' (cs ++ [.string x0, .int .i64 y0, .int .i64 y1, .string y2, .slice ya yl yc]) ∧ Ext w w3 := by
          intro W w3 v' hEW hown hg hloc
          have hEW2 : Ext w1 (W.alloc (.cells #[.string x0, .int .i64 y0, .int .i64 y1, .string y2, .slice ya yl yc] 75)) := (hEa.trans hEW).alloc _
          have hsz3 := hEW2.le
          refine ⟨hG.push (w1 := W.alloc _) (hE1'.trans hEW2) hE.le [.string x0, .int .i64 y0, .int .i64 y1, .string y2, .slice ya yl yc] rfl (fun j => if j = 4 then New (wr.heap.size + 1) w1.heap.size else fun _ => False) (fun j hj => ?_) (fun j j' hj hj' hne x hx hx' => ?_) hown hg hloc, hG.grew (hE.trans (hE1'.trans hEW2)) hg⟩
          · have hc : j = 0 ∨ j = 1 ∨ j = 2 ∨ j = 3 ∨ j = 4 := by omega
            rcases hc with rfl | rfl | rfl | rfl | rfl
            · rw [hd0]; exact ⟨⟨rfl, z0⟩, trivial, fun x hx => absurd hx (by simp)⟩
            · rw [hd1]; exact ⟨⟨rfl, z1⟩, trivial, fun x hx => absurd hx (by simp)⟩
            · rw [hd2]; exact ⟨⟨rfl, z2⟩, trivial, fun x hx => absurd hx (by simp)⟩
            · rw [hd3]; exact ⟨⟨rfl, z3⟩, trivial, fun x hx => absurd hx (by simp)⟩
            · simp only [World.size_alloc] at hDi hOw
              exact ⟨hDi.ext hEW2, hOw.ext hEW2, fun x hx => ⟨by have := hx.1; omega, Nat.lt_of_lt_of_le hx.2 hsz3⟩⟩
          · by_cases h3 : j = 4
            · rw [if_neg (by omega)] at hx'; exact hx'
            · rw [if_neg h3] at hx; exact hx
        clear hDi hOw
        cases hn : nameB x0
        · have hfin : Hid (lb = false) := hbad (by rw [hLk.out, hn]; rfl)
          have HK : Hid (∀ W, Ext W1 W → W.cell? ⟨wr.heap.size, 0, none⟩ = some (.string x0)) := hnm
          have hcur : Ext W1 W1.drew := (Ext.refl _).drew
          refine wp_region_held_drew (S := (fun W => W.cell? ⟨wr.heap.size, 0, none⟩ = some (.string x0))) (by kernel_rfl) (HK.out _ hcur) (fun hHeld => ?_)
          refine tkL 0 ⟨some 25, .move (.tmp 8), 4, _, #[], none⟩ ?_ hHeld ?yyB0 ?rrB0
          case yyB0 => (intro w hSw; (try dsimp only at hSw); go_simp; try with_reducible rfl)
          try simp only [Act.put, putA, putB, putC]
          refine tkL 1 ⟨some 26, .unOp .not 4 (.tmp 25), 4, _, #[⟨0, .data⟩], none⟩ ?_ hHeld ?yyB1 ?rrB1
          case yyB1 => (intro w hSw; (try dsimp only at hSw); go_simp; try with_reducible rfl)
          try simp only [Act.put, putA, putB, putC]
          refine tkL 2 ⟨some 27, .move (.tmp 26), 4, _, #[⟨1, .data⟩], none⟩ ?_ hHeld ?yyB2 ?rrB2
          case yyB2 => (intro w hSw; (try dsimp only at hSw); go_simp; try with_reducible rfl)
          try simp only [Act.put, putA, putB, putC]
          refine tkL 3 ⟨some 28, .fieldAddr 75 (.tmp 6) 0, 0, _, #[⟨2, .guard⟩], some (2, false)⟩ ?_ hHeld ?yyB3 ?rrB3
          case yyB3 => (intro w hSw; (try dsimp only at hSw); go_simp; try with_reducible rfl)
          try simp only [Act.put, putA, putB, putC]
          refine tkL 4 ⟨some 29, .load 9 (.tmp 28), 9, _, #[⟨3, .data⟩, ⟨2, .guard⟩], some (2, false)⟩ ?_ hHeld ?yyB4 ?rrB4
          case yyB4 => (intro w hSw; (try dsimp only at hSw); go_simp; try with_reducible rfl)
          try simp only [Act.put, putA, putB, putC]
          refine wpAnyH_ready (rs := [5]) (by kernel_rfl) (by simp) ?_
          refine AllReadyH.cons (o := ⟨some 30, .call { callee := .value (.func 46), args := #[.tmp 29], argTypes := #[9] }, 4, _, #[⟨4, .data⟩, ⟨2, .chain⟩, ⟨2, .guard⟩], some (2, false)⟩) rfl (fun K hK => ?_) AllReadyH.nil
          go_simp
          refine (implNameOk_any _ _ z0).mono ?_
          rintro e w2 ⟨rfl, hw⟩
          rw [hw, hn]
          clear hw w2
          go_wp2_with fail
          refine hK.out _ _ (HK.out _ hcur) (fun hHeld => ?_)
          clear hK K
          try simp only [Act.put, putA, putB, putC]
          refine tkL 6 ⟨some 31, .unOp .not 4 (.tmp 30), 4, _, #[⟨5, .data⟩, ⟨2, .guard⟩], some (2, false)⟩ ?_ hHeld ?yyB6 ?rrB6
          case yyB6 => (intro w hSw; (try dsimp only at hSw); go_simp; try with_reducible rfl)
          try simp only [Act.put, putA, putB, putC]
          refine tkL 7 ⟨some 32, .pick (.tmp 27) (.const (.bool true)) (.tmp 31), 4, _, #[⟨2, .data⟩, ⟨6, .data⟩], none⟩ ?_ hHeld ?yyB7 ?rrB7
          case yyB7 => (intro w hSw; (try dsimp only at hSw); go_simp; try with_reducible rfl)
          try simp only [Act.put, putA, putB, putC]
          refine tkL 8 ⟨some 33, .move (.tmp 32), 4, _, #[⟨7, .data⟩, ⟨5, .chain⟩], none⟩ ?_ hHeld ?yyB8 ?rrB8
          case yyB8 => (intro w hSw; (try dsimp only at hSw); go_simp; try with_reducible rfl)
          try simp only [Act.put, putA, putB, putC]
          refine tkR 9 ⟨some 34, .move (.tmp 5), 3, _, #[⟨8, .guard⟩], some (8, false)⟩ hHeld ?_
          try simp only [Act.put, putA, putB, putC]
          refine tkR 10 ⟨some 35, .binOp .gtr 3 (.tmp 34) (.const (.int .i64 0)) 3, 4, _, #[⟨9, .data⟩, ⟨8, .guard⟩], some (8, false)⟩ hHeld ?_
          try simp only [Act.put, putA, putB, putC]
          refine tkR 11 ⟨some 36, .move (.tmp 35), 4, _, #[⟨10, .data⟩, ⟨8, .chain⟩, ⟨8, .guard⟩], some (8, false)⟩ hHeld ?_
          try simp only [Act.put, putA, putB, putC]
          refine tkR 12 ⟨some 37, .move (.tmp 0), 32, _, #[⟨11, .guard⟩], some (11, true)⟩ hHeld ?_
          try simp only [Act.put, putA, putB, putC]
          refine tkR 13 ⟨some 38, .move (.tmp 5), 3, _, #[⟨11, .guard⟩], some (11, true)⟩ hHeld ?_
          try simp only [Act.put, putA, putB, putC]
          refine tkR 14 ⟨some 39, .binOp .sub 3 (.tmp 38) (.const (.int .i64 1)) 3, 3, _, #[⟨13, .data⟩, ⟨11, .guard⟩], some (11, true)⟩ hHeld ?_
          try simp only [Act.put, putA, putB, putC]
          refine tkR 15 ⟨some 40, .indexAddr 32 (.tmp 37) (.tmp 39), 0, _, #[⟨12, .data⟩, ⟨14, .data⟩, ⟨11, .guard⟩], some (11, true)⟩ hHeld ?_
          try simp only [Act.put, putA, putB, putC]
          refine tkR 16 ⟨some 41, .fieldAddr 75 (.tmp 40) 0, 0, _, #[⟨15, .data⟩, ⟨11, .guard⟩], some (11, true)⟩ hHeld ?_
          try simp only [Act.put, putA, putB, putC]
          refine tkR 17 ⟨some 42, .load 9 (.tmp 41), 9, _, #[⟨16, .data⟩, ⟨11, .guard⟩], some (11, true)⟩ hHeld ?_
          try simp only [Act.put, putA, putB, putC]
          refine tkR 18 ⟨some 43, .fieldAddr 75 (.tmp 6) 0, 0, _, #[⟨11, .guard⟩], some (11, true)⟩ hHeld ?_
          try simp only [Act.put, putA, putB, putC]
          refine tkR 19 ⟨some 44, .load 9 (.tmp 43), 9, _, #[⟨18, .data⟩, ⟨11, .guard⟩], some (11, true)⟩ hHeld ?_
          try simp only [Act.put, putA, putB, putC]
          refine tkR 20 ⟨some 45, .binOp .geq 9 (.tmp 42) (.tmp 44) 9, 4, _, #[⟨17, .data⟩, ⟨19, .data⟩, ⟨11, .guard⟩], some (11, true)⟩ hHeld ?_
          try simp only [Act.put, putA, putB, putC]
          refine tkR 21 ⟨some 46, .pick (.tmp 36) (.tmp 45) (.const (.bool false)), 4, _, #[⟨11, .data⟩, ⟨20, .data⟩, ⟨8, .guard⟩], some (8, false)⟩ hHeld ?_
          try simp only [Act.put, putA, putB, putC]
          refine tkL 22 ⟨some 47, .pick (.tmp 33) (.const (.bool true)) (.tmp 46), 4, _, #[⟨8, .data⟩, ⟨21, .data⟩], none⟩ ?_ hHeld ?yyB22 ?rrB22
          case yyB22 => (intro w hSw; (try dsimp only at hSw); go_simp; try with_reducible rfl)
          try simp only [Act.put, putA, putB, putC]
          refine wpAnyH_done (by kernel_rfl) ?_ _
          go_wp2
          go_ret2
          exact ⟨_, _, _, by rw [hfin.out]; rfl, fun h => (by rw [hfin.out] at h; cases h), fun h => (by rw [hfin.out] at h; cases h), hA.trans hcur⟩
        · by_cases hk0 : k = 0
          · subst hk0
            have hok : Hid (propB f 0 = true) := by show _ = _; rw [hLk.out, hn, Bool.and_assoc true, hop]; rfl
            have HK : Hid (∀ W, Ext W1 W → W.cell? ⟨wr.heap.size, 0, none⟩ = some (.string x0)) := hnm
            have hcur : Ext W1 W1.drew := (Ext.refl _).drew
            refine wp_region_held_drew (S := (fun W => W.cell? ⟨wr.heap.size, 0, none⟩ = some (.string x0))) (by kernel_rfl) (HK.out _ hcur) (fun hHeld => ?_)
            refine tkL 0 ⟨some 25, .move (.tmp 8), 4, _, #[], none⟩ ?_ hHeld ?yyC0 ?rrC0
            case yyC0 => (intro w hSw; (try dsimp only at hSw); go_simp; try with_reducible rfl)
            try simp only [Act.put, putA, putB, putC]
            refine tkL 1 ⟨some 26, .unOp .not 4 (.tmp 25), 4, _, #[⟨0, .data⟩], none⟩ ?_ hHeld ?yyC1 ?rrC1
            case yyC1 => (intro w hSw; (try dsimp only at hSw); go_simp; try with_reducible rfl)
            try simp only [Act.put, putA, putB, putC]
            refine tkL 2 ⟨some 27, .move (.tmp 26), 4, _, #[⟨1, .data⟩], none⟩ ?_ hHeld ?yyC2 ?rrC2
            case yyC2 => (intro w hSw; (try dsimp only at hSw); go_simp; try with_reducible rfl)
            try simp only [Act.put, putA, putB, putC]
            refine tkL 3 ⟨some 28, .fieldAddr 75 (.tmp 6) 0, 0, _, #[⟨2, .guard⟩], some (2, false)⟩ ?_ hHeld ?yyC3 ?rrC3
            case yyC3 => (intro w hSw; (try dsimp only at hSw); go_simp; try with_reducible rfl)
            try simp only [Act.put, putA, putB, putC]
            refine tkL 4 ⟨some 29, .load 9 (.tmp 28), 9, _, #[⟨3, .data⟩, ⟨2, .guard⟩], some (2, false)⟩ ?_ hHeld ?yyC4 ?rrC4
            case yyC4 => (intro w hSw; (try dsimp only at hSw); go_simp; try with_reducible rfl)
            try simp only [Act.put, putA, putB, putC]
            refine wpAnyH_ready (rs := [5]) (by kernel_rfl) (by simp) ?_
            refine AllReadyH.cons (o := ⟨some 30, .call { callee := .value (.func 46), args := #[.tmp 29], argTypes := #[9] }, 4, _, #[⟨4, .data⟩, ⟨2, .chain⟩, ⟨2, .guard⟩], some (2, false)⟩) rfl (fun K hK => ?_) AllReadyH.nil
            go_simp
            refine (implNameOk_any _ _ z0).mono ?_
            rintro e w2 ⟨rfl, hw⟩
            rw [hw, hn]
            clear hw w2
            go_wp2_with fail
            refine hK.out _ _ (HK.out _ hcur) (fun hHeld => ?_)
            clear hK K
            try simp only [Act.put, putA, putB, putC]
            refine tkL 6 ⟨some 31, .unOp .not 4 (.tmp 30), 4, _, #[⟨5, .data⟩, ⟨2, .guard⟩], some (2, false)⟩ ?_ hHeld ?yyC6 ?rrC6
            case yyC6 => (intro w hSw; (try dsimp only at hSw); go_simp; try with_reducible rfl)
            try simp only [Act.put, putA, putB, putC]
            refine tkL 7 ⟨some 32, .pick (.tmp 27) (.const (.bool true)) (.tmp 31), 4, _, #[⟨2, .data⟩, ⟨6, .data⟩], none⟩ ?_ hHeld ?yyC7 ?rrC7
            case yyC7 => (intro w hSw; (try dsimp only at hSw); go_simp; try with_reducible rfl)
            try simp only [Act.put, putA, putB, putC]
            refine tkL 8 ⟨some 33, .move (.tmp 32), 4, _, #[⟨7, .data⟩, ⟨5, .chain⟩], none⟩ ?_ hHeld ?yyC8 ?rrC8
            case yyC8 => (intro w hSw; (try dsimp only at hSw); go_simp; try with_reducible rfl)
            try simp only [Act.put, putA, putB, putC]
            refine tkL 9 ⟨some 34, .move (.tmp 5), 3, _, #[⟨8, .guard⟩], some (8, false)⟩ ?_ hHeld ?yyC9 ?rrC9
            case yyC9 => (intro w hSw; (try dsimp only at hSw); go_simp; try with_reducible rfl)
            try simp only [Act.put, putA, putB, putC]
            refine tkL 10 ⟨some 35, .binOp .gtr 3 (.tmp 34) (.const (.int .i64 0)) 3, 4, _, #[⟨9, .data⟩, ⟨8, .guard⟩], some (8, false)⟩ ?_ hHeld ?yyC10 ?rrC10
            case yyC10 => (intro w hSw; (try dsimp only at hSw); go_simp; try with_reducible rfl)
            try simp only [Act.put, putA, putB, putC]
            refine tkL 11 ⟨some 36, .move (.tmp 35), 4, _, #[⟨10, .data⟩, ⟨8, .chain⟩, ⟨8, .guard⟩], some (8, false)⟩ ?_ hHeld ?yyC11 ?rrC11
            case yyC11 => (intro w hSw; (try dsimp only at hSw); go_simp; try with_reducible rfl)
            try simp only [Act.put, putA, putB, putC]
            refine tkR 12 ⟨some 37, .move (.tmp 0), 32, _, #[⟨11, .guard⟩], some (11, true)⟩ hHeld ?_
            try simp only [Act.put, putA, putB, putC]
            refine tkR 13 ⟨some 38, .move (.tmp 5), 3, _, #[⟨11, .guard⟩], some (11, true)⟩ hHeld ?_
            try simp only [Act.put, putA, putB, putC]
            refine tkR 14 ⟨some 39, .binOp .sub 3 (.tmp 38) (.const (.int .i64 1)) 3, 3, _, #[⟨13, .data⟩, ⟨11, .guard⟩], some (11, true)⟩ hHeld ?_
            try simp only [Act.put, putA, putB, putC]
            refine tkR 15 ⟨some 40, .indexAddr 32 (.tmp 37) (.tmp 39), 0, _, #[⟨12, .data⟩, ⟨14, .data⟩, ⟨11, .guard⟩], some (11, true)⟩ hHeld ?_
            try simp only [Act.put, putA, putB, putC]
            refine tkR 16 ⟨some 41, .fieldAddr 75 (.tmp 40) 0, 0, _, #[⟨15, .data⟩, ⟨11, .guard⟩], some (11, true)⟩ hHeld ?_
            try simp only [Act.put, putA, putB, putC]
            refine tkR 17 ⟨some 42, .load 9 (.tmp 41), 9, _, #[⟨16, .data⟩, ⟨11, .guard⟩], some (11, true)⟩ hHeld ?_
            try simp only [Act.put, putA, putB, putC]
            refine tkR 18 ⟨some 43, .fieldAddr 75 (.tmp 6) 0, 0, _, #[⟨11, .guard⟩], some (11, true)⟩ hHeld ?_
            try simp only [Act.put, putA, putB, putC]
            refine tkR 19 ⟨some 44, .load 9 (.tmp 43), 9, _, #[⟨18, .data⟩, ⟨11, .guard⟩], some (11, true)⟩ hHeld ?_
            try simp only [Act.put, putA, putB, putC]
            refine tkR 20 ⟨some 45, .binOp .geq 9 (.tmp 42) (.tmp 44) 9, 4, _, #[⟨17, .data⟩, ⟨19, .data⟩, ⟨11, .guard⟩], some (11, true)⟩ hHeld ?_
            try simp only [Act.put, putA, putB, putC]
            refine tkL 21 ⟨some 46, .pick (.tmp 36) (.tmp 45) (.const (.bool false)), 4, _, #[⟨11, .data⟩, ⟨20, .data⟩, ⟨8, .guard⟩], some (8, false)⟩ ?_ hHeld ?yyC21 ?rrC21
            case yyC21 => (intro w hSw; (try dsimp only at hSw); go_simp; try with_reducible rfl)
            try simp only [Act.put, putA, putB, putC]
            refine tkL 22 ⟨some 47, .pick (.tmp 33) (.const (.bool true)) (.tmp 46), 4, _, #[⟨8, .data⟩, ⟨21, .data⟩], none⟩ ?_ hHeld ?yyC22 ?rrC22
            case yyC22 => (intro w hSw; (try dsimp only at hSw); go_simp; try with_reducible rfl)
            try simp only [Act.put, putA, putB, putC]
            refine wpAnyH_done (by kernel_rfl) ?_ _
            generalize W1.drew = W2 at hcur ⊢
            have n0 := hnm _ hcur
            obtain ⟨v0, v1, v2, v3⟩ := hvb _ hcur
            have hsz4 := hcur.le
            have hsz5 := hA.le
            have hown0 := (hG.ext (hE1'.trans (hEa.trans hcur))).row
            go_wp2_with (at_builtin; refine wpList_append_own_at _ rfl _ _ 32 rfl w.heap.size 75 i0 _ 5 72 Tryz.underlying32 hi hz0 hz1 hz2 rfl (by decide) _ _ _ rfl (hown0.alloc _) ⟨_, 0, none⟩ 1 1 [.string x0, .int .i64 y0, .int .i64 y1, .string y2, .slice ya yl yc] rfl rfl (World.news_of_block (cs := #[.string x0, .int .i64 y0, .int .i64 y1, .string y2, .slice ya yl yc]) (t := 75) (fr := (0, 0)) (heap_alloc_new _ _)) (by simp [Value.oneCell']) (by unfold maxLen; omega) (by omega) (by simp; omega) ?_; intro v' w3 hown' hgrow hnil hloc)
            go_roundw
            case rel =>
              obtain ⟨s1, s2⟩ := hstep hcur hown' hgrow hloc
              exact ⟨1, _, by omega, by go_num, s1, s2, upto_succ hno hok.out⟩
            case measure => simp [intOf]; omega
          · obtain ⟨m, rfl⟩ : ∃ m, k = m + 1 := ⟨k - 1, by omega⟩
            obtain ⟨cap3, b3, off3, C3, hsl, _, hb3, ec3, hx3⟩ := (hv.ext hE).at (i := m) (by omega)
            cases hsl
            have HR := HRa m (by omega)
            obtain ⟨xp, hdp⟩ := (show Has (f m 0) .str from HR 0 (by decide)).str
            have h1 := hx3 0 (by decide)
            have f0 := ec3 0 (by decide)
            rw [hdp] at h1
            rw [h1.str_eq.1] at f0
            simp only [Nat.add_zero] at f0
            clear hx3 ec3 HR h1
            have hLk2 : Hid (propB f (m + 1) = ltS xp x0) := by show _ = _; rw [hLk.out, hn, Bool.and_assoc true, hop]; simp [hdp, D.str!]
            clear hLk
            have i0' : 0 ≤ (m : Int) + 1 := by omega
            have i1 : (m : Int) + 1 < (len : Int) := by omega
            have i2 : (m : Int) < (len : Int) := by omega
            have iw : IntKind.i64.wrap (m : Int) = m := wrap_i64 (by omega) (by omega)
            have HK : Hid (∀ W, Ext W1 W → W.cell? ⟨wr.heap.size, 0, none⟩ = some (.string x0) ∧ W.cell? ⟨b, off + m * 5, none⟩ = some (.string xp)) := fun W hW => ⟨hnm W hW, by rw [((hE1'.trans hEa).trans hW).cell hb]; exact f0⟩
            have hcur : Ext W1 W1.drew := (Ext.refl _).drew
            refine wp_region_held_drew (S := (fun W => W.cell? ⟨wr.heap.size, 0, none⟩ = some (.string x0) ∧ W.cell? ⟨b, off + m * 5, none⟩ = some (.string xp))) (by kernel_rfl) (HK.out _ hcur) (fun hHeld => ?_)
            refine tkL 0 ⟨some 25, .move (.tmp 8), 4, _, #[], none⟩ ?_ hHeld ?yyD0 ?rrD0
            case yyD0 => (intro w hSw; (try dsimp only at hSw); go_simp; try with_reducible rfl)
            try simp only [Act.put, putA, putB, putC]
            refine tkL 1 ⟨some 26, .unOp .not 4 (.tmp 25), 4, _, #[⟨0, .data⟩], none⟩ ?_ hHeld ?yyD1 ?rrD1
            case yyD1 => (intro w hSw; (try dsimp only at hSw); go_simp; try with_reducible rfl)
            try simp only [Act.put, putA, putB, putC]
            refine tkL 2 ⟨some 27, .move (.tmp 26), 4, _, #[⟨1, .data⟩], none⟩ ?_ hHeld ?yyD2 ?rrD2
            case yyD2 => (intro w hSw; (try dsimp only at hSw); go_simp; try with_reducible rfl)
            try simp only [Act.put, putA, putB, putC]
            refine tkL 3 ⟨some 28, .fieldAddr 75 (.tmp 6) 0, 0, _, #[⟨2, .guard⟩], some (2, false)⟩ ?_ hHeld ?yyD3 ?rrD3
            case yyD3 => (intro w hSw; (try dsimp only at hSw); go_simp; try with_reducible rfl)
            try simp only [Act.put, putA, putB, putC]
            refine tkL 4 ⟨some 29, .load 9 (.tmp 28), 9, _, #[⟨3, .data⟩, ⟨2, .guard⟩], some (2, false)⟩ ?_ hHeld ?yyD4 ?rrD4
            case yyD4 => (intro w hSw; (try dsimp only at hSw); go_simp; try with_reducible rfl)
            try simp only [Act.put, putA, putB, putC]
            refine wpAnyH_ready (rs := [5]) (by kernel_rfl) (by simp) ?_
            refine AllReadyH.cons (o := ⟨some 30, .call { callee := .value (.func 46), args := #[.tmp 29], argTypes := #[9] }, 4, _, #[⟨4, .data⟩, ⟨2, .chain⟩, ⟨2, .guard⟩], some (2, false)⟩) rfl (fun K hK => ?_) AllReadyH.nil
            go_simp
            refine (implNameOk_any _ _ z0).mono ?_
            rintro e w2 ⟨rfl, hw⟩
            rw [hw, hn]
            clear hw w2
            go_wp2_with fail
            refine hK.out _ _ (HK.out _ hcur) (fun hHeld => ?_)
            clear hK K
            try simp only [Act.put, putA, putB, putC]
            refine tkL 6 ⟨some 31, .unOp .not 4 (.tmp 30), 4, _, #[⟨5, .data⟩, ⟨2, .guard⟩], some (2, false)⟩ ?_ hHeld ?yyD6 ?rrD6
            case yyD6 => (intro w hSw; (try dsimp only at hSw); go_simp; try with_reducible rfl)
            try simp only [Act.put, putA, putB, putC]
            refine tkL 7 ⟨some 32, .pick (.tmp 27) (.const (.bool true)) (.tmp 31), 4, _, #[⟨2, .data⟩, ⟨6, .data⟩], none⟩ ?_ hHeld ?yyD7 ?rrD7
            case yyD7 => (intro w hSw; (try dsimp only at hSw); go_simp; try with_reducible rfl)
            try simp only [Act.put, putA, putB, putC]
            refine tkL 8 ⟨some 33, .move (.tmp 32), 4, _, #[⟨7, .data⟩, ⟨5, .chain⟩], none⟩ ?_ hHeld ?yyD8 ?rrD8
            case yyD8 => (intro w hSw; (try dsimp only at hSw); go_simp; try with_reducible rfl)
            try simp only [Act.put, putA, putB, putC]
            refine tkL 9 ⟨some 34, .move (.tmp 5), 3, _, #[⟨8, .guard⟩], some (8, false)⟩ ?_ hHeld ?yyD9 ?rrD9
            case yyD9 => (intro w hSw; (try dsimp only at hSw); go_simp; try with_reducible rfl)
            try simp only [Act.put, putA, putB, putC]
            refine tkL 10 ⟨some 35, .binOp .gtr 3 (.tmp 34) (.const (.int .i64 0)) 3, 4, _, #[⟨9, .data⟩, ⟨8, .guard⟩], some (8, false)⟩ ?_ hHeld ?yyD10 ?rrD10
            case yyD10 => (intro w hSw; (try dsimp only at hSw); go_simp; try with_reducible rfl)
            try simp only [Act.put, putA, putB, putC]
            refine tkL 11 ⟨some 36, .move (.tmp 35), 4, _, #[⟨10, .data⟩, ⟨8, .chain⟩, ⟨8, .guard⟩], some (8, false)⟩ ?_ hHeld ?yyD11 ?rrD11
            case yyD11 => (intro w hSw; (try dsimp only at hSw); go_simp; try with_reducible rfl)
            try simp only [Act.put, putA, putB, putC]
            refine tkL 12 ⟨some 37, .move (.tmp 0), 32, _, #[⟨11, .guard⟩], some (11, true)⟩ ?_ hHeld ?yyD12 ?rrD12
            case yyD12 => (intro w hSw; (try dsimp only at hSw); go_simp; try with_reducible rfl)
            try simp only [Act.put, putA, putB, putC]
            refine tkL 13 ⟨some 38, .move (.tmp 5), 3, _, #[⟨11, .guard⟩], some (11, true)⟩ ?_ hHeld ?yyD13 ?rrD13
            case yyD13 => (intro w hSw; (try dsimp only at hSw); go_simp; try with_reducible rfl)
            try simp only [Act.put, putA, putB, putC]
            refine tkL 14 ⟨some 39, .binOp .sub 3 (.tmp 38) (.const (.int .i64 1)) 3, 3, _, #[⟨13, .data⟩, ⟨11, .guard⟩], some (11, true)⟩ ?_ hHeld ?yyD14 ?rrD14
            case yyD14 => (intro w hSw; (try dsimp only at hSw); go_simp; try with_reducible rfl)
            try simp only [Act.put, putA, putB, putC]
            refine tkL 15 ⟨some 40, .indexAddr 32 (.tmp 37) (.tmp 39), 0, _, #[⟨12, .data⟩, ⟨14, .data⟩, ⟨11, .guard⟩], some (11, true)⟩ ?_ hHeld ?yyD15 ?rrD15
            case yyD15 => (intro w hSw; (try dsimp only at hSw); go_simp; try with_reducible rfl)
            try simp only [Act.put, putA, putB, putC]
            refine tkL 16 ⟨some 41, .fieldAddr 75 (.tmp 40) 0, 0, _, #[⟨15, .data⟩, ⟨11, .guard⟩], some (11, true)⟩ ?_ hHeld ?yyD16 ?rrD16
            case yyD16 => (intro w hSw; (try dsimp only at hSw); go_simp; try with_reducible rfl)
            try simp only [Act.put, putA, putB, putC]
            refine tkL 17 ⟨some 42, .load 9 (.tmp 41), 9, _, #[⟨16, .data⟩, ⟨11, .guard⟩], some (11, true)⟩ ?_ hHeld ?yyD17 ?rrD17
            case yyD17 => (intro w hSw; (try dsimp only at hSw); go_simp; try with_reducible rfl)
            try simp only [Act.put, putA, putB, putC]
            refine tkL 18 ⟨some 43, .fieldAddr 75 (.tmp 6) 0, 0, _, #[⟨11, .guard⟩], some (11, true)⟩ ?_ hHeld ?yyD18 ?rrD18
            case yyD18 => (intro w hSw; (try dsimp only at hSw); go_simp; try with_reducible rfl)
            try simp only [Act.put, putA, putB, putC]
            refine tkL 19 ⟨some 44, .load 9 (.tmp 43), 9, _, #[⟨18, .data⟩, ⟨11, .guard⟩], some (11, true)⟩ ?_ hHeld ?yyD19 ?rrD19
            case yyD19 => (intro w hSw; (try dsimp only at hSw); go_simp; try with_reducible rfl)
            try simp only [Act.put, putA, putB, putC]
            refine tkL 20 ⟨some 45, .binOp .geq 9 (.tmp 42) (.tmp 44) 9, 4, _, #[⟨17, .data⟩, ⟨19, .data⟩, ⟨11, .guard⟩], some (11, true)⟩ ?_ hHeld ?yyD20 ?rrD20
            case yyD20 => (intro w hSw; (try dsimp only at hSw); go_simp; try with_reducible rfl)
            try simp only [Act.put, putA, putB, putC]
            refine tkL 21 ⟨some 46, .pick (.tmp 36) (.tmp 45) (.const (.bool false)), 4, _, #[⟨11, .data⟩, ⟨20, .data⟩, ⟨8, .guard⟩], some (8, false)⟩ ?_ hHeld ?yyD21 ?rrD21
            case yyD21 => (intro w hSw; (try dsimp only at hSw); go_simp; try with_reducible rfl)
            try simp only [Act.put, putA, putB, putC]
            refine tkL 22 ⟨some 47, .pick (.tmp 33) (.const (.bool true)) (.tmp 46), 4, _, #[⟨8, .data⟩, ⟨21, .data⟩], none⟩ ?_ hHeld ?yyD22 ?rrD22
            case yyD22 => (intro w hSw; (try dsimp only at hSw); go_simp; try with_reducible rfl)
            try simp only [Act.put, putA, putB, putC]
            refine wpAnyH_done (by kernel_rfl) ?_ _
            cases hcmp : Op.bytesLess xp.toList x0.toList
            · have hfin : Hid (lb = false) := hbad (by rw [hLk2.out]; exact hcmp)
              go_wp2
              go_ret2
              exact ⟨_, _, _, by rw [hfin.out]; rfl, fun h => (by rw [hfin.out] at h; cases h), fun h => (by rw [hfin.out] at h; cases h), hA.trans hcur⟩
            · have hok : Hid (propB f (m + 1) = true) := by show _ = _; rw [hLk2.out]; exact hcmp
              generalize W1.drew = W2 at hcur ⊢
              have n0 := hnm _ hcur
              obtain ⟨v0, v1, v2, v3⟩ := hvb _ hcur
              have hsz4 := hcur.le
              have hsz5 := hA.le
              have hown0 := (hG.ext (hE1'.trans (hEa.trans hcur))).row
              go_wp2_with (at_builtin; refine wpList_append_own_at _ rfl _ _ 32 rfl w.heap.size 75 i0 _ 5 72 Tryz.underlying32 hi hz0 hz1 hz2 rfl (by decide) _ _ _ rfl (hown0.alloc _) ⟨_, 0, none⟩ 1 1 [.string x0, .int .i64 y0, .int .i64 y1, .string y2, .slice ya yl yc] rfl rfl (World.news_of_block (cs := #[.string x0, .int .i64 y0, .int .i64 y1, .string y2, .slice ya yl yc]) (t := 75) (fr := (0, 0)) (heap_alloc_new _ _)) (by simp [Value.oneCell']) (by unfold maxLen; omega) (by omega) (by simp; omega) ?_; intro v' w3 hown' hgrow hnil hloc)
              go_roundw
              case rel =>
                obtain ⟨s1, s2⟩ := hstep hcur hown' hgrow hloc
                exact ⟨m + 1 + 1, _, by omega, by go_num, s1, s2, upto_succ hno hok.out⟩
              case measure => simp [intOf]; omega
    · have hkx : k = len := by omega
      subst hkx
      have hfin : Hid (lb = true) := by show _ = _; rw [HB.out, all_yes hno, decide_eq_true (by omega : k ≤ 4)]; rfl
      have hend := hG.end (by unfold maxLen; omega)
      have hcapk := (show Hid _ from hG.cap)
      go_wp2
      go_ret2
      exact ⟨_, _, _, by rw [hfin.out]; rfl, fun _ => hend, fun _ => hcapk.out, hE⟩
end Go.Proofs.YtbhmblkappmfjaaGreat
