/- Maps by numbers: looking up, storing. -/
import Derived.Test.YtjbppmclhdaaoaaGreatBase
import Derived.Maps.Keyed
import Derived.ChangeMaps5
namespace Go.Proofs.YtjbppmclhdaaoaaGreat
open Go.RowKit Go.Deep
open Go.ChangeMaps (setBlock heap_setBlock_same heap_setBlock_other)
open Go.Maps

/-- Block B of w is a map with these keys, in the order in which they came, and what stands under each. -/
def MapF (w : World) (B : Nat) (keys : List Int) (val : Int → Value) : Prop :=
  ∃ (es : Array MapEntry) (c : Nat), w.heap[B]? = some (.map es c) ∧ es.toList.map (fun e => (e.key, e.val)) = keys.map (fun k => (Value.int .i64 k, val k)) ∧ keys.Nodup ∧ ∀ k ∈ keys, (Lit.int .i64 k).wf = true

theorem MapF.lt {w : World} {B : Nat} {keys : List Int} {val : Int → Value} (h : MapF w B keys val) : B < w.heap.size := by
  obtain ⟨es, c, hb, _⟩ := h
  exact Array.getElem?_eq_some_iff.1 hb |>.1
theorem MapF.block {w w' : World} {B : Nat} {keys : List Int} {val : Int → Value} (h : MapF w B keys val) (e : w'.heap[B]? = w.heap[B]?) : MapF w' B keys val := by
  obtain ⟨es, c, hb, r⟩ := h
  exact ⟨es, c, by rw [e]; exact hb, r⟩
theorem MapF.ext {w w' : World} {B : Nat} {keys : List Int} {val : Int → Value} (h : MapF w B keys val) (e : Ext w w') : MapF w' B keys val := h.block (Below.block e B h.lt)
theorem MapF.new (w : World) (val : Int → Value) : MapF (w.alloc (.map #[] 0)) w.heap.size [] val := ⟨#[], 0, heap_alloc_new w _, rfl, List.nodup_nil, fun _ h => by simp at h⟩
theorem MapF.congr {w : World} {B : Nat} {keys : List Int} {val val' : Int → Value} (h : MapF w B keys val) (e : ∀ k ∈ keys, val k = val' k) : MapF w B keys val' := by
  obtain ⟨es, c, hb, h1, h2, h3⟩ := h
  exact ⟨es, c, hb, by rw [h1]; exact List.map_congr_left (fun k hk => by rw [e k hk]), h2, h3⟩

theorem intKeyed : Keyed Tryz.prog 3 := int_keyed Tryz.underlying3
theorem intKey {k : Int} (h : (Lit.int .i64 k).wf = true) : keyOf Tryz.prog 3 (.int .i64 k) = some (.int .i64 k) := keyOf_int_mk Tryz.underlying3 h

theorem mapf_find {w : World} {es : Array MapEntry} {keys : List Int} {val : Int → Value} (h1 : es.toList.map (fun e => (e.key, e.val)) = keys.map (fun k => (Value.int .i64 k, val k))) (h3 : ∀ k ∈ keys, (Lit.int .i64 k).wf = true) {k : Int} (hk : (Lit.int .i64 k).wf = true) :
    ((Instr.findKey 3 (.int .i64 k) es.toList).run Tryz.prog w = .ok none w ∧ k ∉ keys) ∨ ∃ j e, (Instr.findKey 3 (.int .i64 k) es.toList).run Tryz.prog w = .ok (some (j, val k)) w ∧ es.toList[j]? = some e ∧ e.key = .int .i64 k ∧ keys[j]? = some k := by
  have hks : ∀ e ∈ es.toList, ∃ l, keyOf Tryz.prog 3 e.key = some l := by
    intro e he
    have : (e.key, e.val) ∈ es.toList.map (fun e => (e.key, e.val)) := List.mem_map.2 ⟨e, he, rfl⟩
    rw [h1] at this
    obtain ⟨k', hk', e2⟩ := List.mem_map.1 this
    have := congrArg Prod.fst e2
    dsimp only at this
    exact ⟨_, by rw [← this]; exact intKey (h3 k' hk')⟩
  rcases intKeyed.find w (intKey hk) es.toList hks with ⟨f1, f2⟩ | ⟨j, e, f1, f2, f3⟩
  · refine .inl ⟨f1, fun hin => ?_⟩
    have : (Value.int .i64 k, val k) ∈ keys.map (fun k => (Value.int .i64 k, val k)) := List.mem_map.2 ⟨k, hin, rfl⟩
    rw [← h1] at this
    obtain ⟨e, he, e2⟩ := List.mem_map.1 this
    exact f2 e he (congrArg Prod.fst e2)
  · have hat : (es.toList.map (fun e => (e.key, e.val)))[j]? = some (e.key, e.val) := by rw [List.getElem?_map, f2]; rfl
    rw [h1, List.getElem?_map] at hat
    cases hkj : keys[j]? with
    | none => rw [hkj] at hat; cases hat
    | some k' =>
      rw [hkj] at hat
      simp only [Option.map_some, Option.some.injEq, Prod.mk.injEq] at hat
      have hkk : k' = k := by have := hat.1.trans f3; injection this
      subst hkk
      exact .inr ⟨j, e, by rw [f1, hat.2], f2, f3, hkj⟩

theorem MapF.look {w : World} {B : Nat} {keys : List Int} {val : Int → Value} (h : MapF w B keys val) {t e : TypeId} (ht : Tryz.prog.underlying t = some (.map 3 e)) {z : Value} (hz : (zeroValue e).run Tryz.prog w = .ok z w) {k : Int} (hk : (Lit.int .i64 k).wf = true) (c : Bool) :
    (Instr.lookup t (.map (some B)) (.int .i64 k) c).run Tryz.prog w = .ok (if c then .tuple #[if k ∈ keys then val k else z, .bool (decide (k ∈ keys))] else if k ∈ keys then val k else z) w := by
  obtain ⟨es, cl, hb, h1, h2, h3⟩ := h
  have hch := intKeyed.check w es.isEmpty (intKey hk)
  rcases mapf_find (w := w) h1 h3 hk with ⟨f1, f2⟩ | ⟨j, e', f1, _, _, f4⟩
  · cases c <;> simp [Instr.lookup, run_underlying ht, MapKept.run_getObj_map hb, hch, f1, hz, Result.andThen, f2]
  · have hin : k ∈ keys := List.mem_of_getElem? f4
    cases c <;> simp [Instr.lookup, run_underlying ht, MapKept.run_getObj_map hb, hch, f1, Result.andThen, hin]

theorem nodup_inj {l : List Int} (h : l.Nodup) {i j : Nat} (hi : i < l.length) (hj : j < l.length) (e : l[i] = l[j]) : i = j := by
  have hp := List.pairwise_iff_getElem.1 h
  rcases Nat.lt_trichotomy i j with h1 | h1 | h1
  · exact absurd e (hp i j hi hj h1)
  · exact h1
  · exact absurd e.symm (hp j i hj hi h1)
def putKeys (keys : List Int) (k : Int) : List Int := if k ∈ keys then keys else keys ++ [k]
def putVal (val : Int → Value) (k : Int) (v : Value) : Int → Value := fun x => if x = k then v else val x
theorem mem_putKeys (keys : List Int) (k x : Int) : x ∈ putKeys keys k ↔ x ∈ keys ∨ x = k := by
  unfold putKeys
  by_cases h : k ∈ keys
  · rw [if_pos h]; exact ⟨.inl, fun hx => hx.elim id (fun e => e ▸ h)⟩
  · rw [if_neg h]; simp

set_option maxRecDepth 10000 in
theorem MapF.put {w : World} {B : Nat} {keys : List Int} {val : Int → Value} (h : MapF w B keys val) {t e : TypeId} (ht : Tryz.prog.underlying t = some (.map 3 e)) {k : Int} (hk : (Lit.int .i64 k).wf = true) (v : Value) :
    ∃ o, (Instr.mapUpdate t (.map (some B)) (.int .i64 k) v).run Tryz.prog w = .ok () (setBlock w B o) ∧ MapF (setBlock w B o) B (putKeys keys k) (putVal val k v) ∧ (setBlock w B o).heap.size = w.heap.size ∧ ∀ b, b ≠ B → (setBlock w B o).heap[b]? = w.heap[b]? := by
  obtain ⟨es, cl, hb, h1, h2, h3⟩ := h
  have hch := intKeyed.check w false (intKey hk)
  rcases mapf_find (w := w) h1 h3 hk with ⟨f1, f2⟩ | ⟨j, e', f1, f2, f3, f4⟩
  · refine ⟨.map (es.push ⟨.int .i64 k, v, cl⟩) (cl + 1), ?_, ⟨_, _, heap_setBlock_same hb _, ?_, ?_, ?_⟩, by simp [setBlock], fun b hb2 => heap_setBlock_other hb _ hb2⟩
    · simp [Instr.mapUpdate, run_underlying ht, MapKept.run_getObj_map hb, hch, f1, MapKept.run_setObj_map _ hb, Result.andThen, setBlock]
    · rw [putKeys, if_neg f2, Array.toList_push, List.map_append, List.map_append, h1]
      congr 1
      · refine List.map_congr_left (fun x hx => ?_)
        rw [putVal, if_neg (show ¬ x = k from fun e => f2 (e ▸ hx))]
      · simp [putVal]
    · rw [putKeys, if_neg f2]
      exact List.nodup_append.2 ⟨h2, by simp, fun a ha b hb e => by simp at hb; subst hb; subst e; exact f2 ha⟩
    · intro x hx
      rcases (mem_putKeys _ _ _).1 hx with hx | rfl
      · exact h3 x hx
      · exact hk
  · have hin : k ∈ keys := List.mem_of_getElem? f4
    have hj : es[j]? = some e' := by simpa using f2
    have hst := intKeyed.stays w (intKey hk)
    refine ⟨.map (es.modify j (fun e => { e with key := .int .i64 k, val := v })) cl, ?_, ⟨_, _, heap_setBlock_same hb _, ?_, ?_, ?_⟩, by simp [setBlock], fun b hb2 => heap_setBlock_other hb _ hb2⟩
    · simp [Instr.mapUpdate, run_underlying ht, MapKept.run_getObj_map hb, hch, f1, hj, f3, hst, MapKept.run_setObj_map _ hb, Result.andThen, setBlock]
    · rw [putKeys, if_pos hin]
      apply List.ext_getElem?
      intro i
      have hi := congrArg (·[i]?) h1
      simp only [List.getElem?_map] at hi ⊢
      rw [Array.toList_modify, List.getElem?_modify]
      by_cases hij : j = i
      · subst hij
        rw [f4, f2]
        simp [putVal]
      · cases hki : keys[i]? with
        | none =>
          rw [hki] at hi
          cases hei : es.toList[i]? with
          | none => simp
          | some e2 => rw [hei] at hi; cases hi
        | some k2 =>
          rw [hki] at hi
          have hne : k2 ≠ k := by
            intro e
            subst e
            obtain ⟨a1, a2⟩ := List.getElem?_eq_some_iff.1 f4
            obtain ⟨b1, b2⟩ := List.getElem?_eq_some_iff.1 hki
            exact hij (nodup_inj h2 a1 b1 (a2.trans b2.symm))
          cases hei : es.toList[i]? with
          | none => rw [hei] at hi; cases hi
          | some e2 =>
            rw [hei] at hi
            simp only [Option.map_some, Option.some.injEq] at hi
            simp [hij, hi, putVal, hne]
    · rw [putKeys, if_pos hin]; exact h2
    · rw [putKeys, if_pos hin]; exact h3
end Go.Proofs.YtjbppmclhdaaoaaGreat
