/- Maps by texts: looking up, storing. -/
import Derived.Test.YtepfppncfeaeiaaBase
import Derived.Maps.Keyed
import Derived.StringKeys
import Derived.ChangeMaps5
namespace Go.Proofs.Ytepfppncfeaeiaa
open Go.RowKit Go.Deep
open Go.ChangeMaps (setBlock heap_setBlock_same heap_setBlock_other)
open Go.Maps

instance decText : DecidableEq ByteArray := fun a b => if h : a.data = b.data then .isTrue (by cases a; cases b; simpa using h) else .isFalse (fun e => h (by rw [e]))
instance decMemText (k : ByteArray) (keys : List ByteArray) : Decidable (k ∈ keys) := decidable_of_iff (keys.any (fun x => decide (x = k)) = true) (by simp)

/-- Block B of w is a map with these keys, in the order in which they came, and what stands under each. -/
def MapS (w : World) (B : Nat) (keys : List ByteArray) (val : ByteArray → Value) : Prop :=
  ∃ (es : Array MapEntry) (c : Nat), w.heap[B]? = some (.map es c) ∧ es.toList.map (fun e => (e.key, e.val)) = keys.map (fun k => (Value.string k, val k)) ∧ keys.Nodup ∧ ∀ k ∈ keys, k.size ≤ maxLen

theorem MapS.lt {w : World} {B : Nat} {keys : List ByteArray} {val : ByteArray → Value} (h : MapS w B keys val) : B < w.heap.size := by
  obtain ⟨es, c, hb, _⟩ := h
  exact Array.getElem?_eq_some_iff.1 hb |>.1
theorem MapS.block {w w' : World} {B : Nat} {keys : List ByteArray} {val : ByteArray → Value} (h : MapS w B keys val) (e : w'.heap[B]? = w.heap[B]?) : MapS w' B keys val := by
  obtain ⟨es, c, hb, r⟩ := h
  exact ⟨es, c, by rw [e]; exact hb, r⟩
theorem MapS.ext {w w' : World} {B : Nat} {keys : List ByteArray} {val : ByteArray → Value} (h : MapS w B keys val) (e : Ext w w') : MapS w' B keys val := h.block (Below.block e B h.lt)
theorem MapS.new (w : World) (val : ByteArray → Value) : MapS (w.alloc (.map #[] 0)) w.heap.size [] val := ⟨#[], 0, heap_alloc_new w _, rfl, List.nodup_nil, fun _ h => by simp at h⟩
theorem MapS.congr {w : World} {B : Nat} {keys : List ByteArray} {val val' : ByteArray → Value} (h : MapS w B keys val) (e : ∀ k ∈ keys, val k = val' k) : MapS w B keys val' := by
  obtain ⟨es, c, hb, h1, h2, h3⟩ := h
  exact ⟨es, c, hb, by rw [h1]; exact List.map_congr_left (fun k hk => by rw [e k hk]), h2, h3⟩

theorem strKeyed : Keyed Try.prog 9 := string_keyed Try.underlying9
theorem strKey {k : ByteArray} (h : k.size ≤ maxLen) : keyOf Try.prog 9 (.string k) = some (.string k.data.toList) := WideMaps.keyOf_string_mk Try.underlying9 h

theorem maps_find {w : World} {es : Array MapEntry} {keys : List ByteArray} {val : ByteArray → Value} (h1 : es.toList.map (fun e => (e.key, e.val)) = keys.map (fun k => (Value.string k, val k))) (h3 : ∀ k ∈ keys, k.size ≤ maxLen) {k : ByteArray} (hk : k.size ≤ maxLen) :
    ((Instr.findKey 9 (.string k) es.toList).run Try.prog w = .ok none w ∧ k ∉ keys) ∨ ∃ j e, (Instr.findKey 9 (.string k) es.toList).run Try.prog w = .ok (some (j, val k)) w ∧ es.toList[j]? = some e ∧ e.key = .string k ∧ keys[j]? = some k := by
  have hks : ∀ e ∈ es.toList, ∃ l, keyOf Try.prog 9 e.key = some l := by
    intro e he
    have : (e.key, e.val) ∈ es.toList.map (fun e => (e.key, e.val)) := List.mem_map.2 ⟨e, he, rfl⟩
    rw [h1] at this
    obtain ⟨k', hk', e2⟩ := List.mem_map.1 this
    have := congrArg Prod.fst e2
    dsimp only at this
    exact ⟨_, by rw [← this]; exact strKey (h3 k' hk')⟩
  rcases strKeyed.find w (strKey hk) es.toList hks with ⟨f1, f2⟩ | ⟨j, e, f1, f2, f3⟩
  · refine .inl ⟨f1, fun hin => ?_⟩
    have : (Value.string k, val k) ∈ keys.map (fun k => (Value.string k, val k)) := List.mem_map.2 ⟨k, hin, rfl⟩
    rw [← h1] at this
    obtain ⟨e, he, e2⟩ := List.mem_map.1 this
    exact f2 e he (congrArg Prod.fst e2)
  · have hat : (es.toList.map (fun e => (e.key, e.val)))[j]? = some (e.key, e.val) := by rw [List.getElem?_map, f2]; rfl
    rw [h1, List.getElem?_map] at hat
    cases hkj : keys[j]? with
    | none => rw [hkj] at hat; cases hat
    | some k' =>
      rw [hkj] at hat
      simp only [Option.map_some, Option.some.injEq, Prod.mk.injEq] at hat
      have hkk : k' = k := by have := hat.1.trans f3; injection this
      subst hkk
      exact .inr ⟨j, e, by rw [f1, hat.2], f2, f3, hkj⟩

theorem MapS.look {w : World} {B : Nat} {keys : List ByteArray} {val : ByteArray → Value} (h : MapS w B keys val) {t e : TypeId} (ht : Try.prog.underlying t = some (.map 9 e)) {z : Value} (hz : (zeroValue e).run Try.prog w = .ok z w) {k : ByteArray} (hk : k.size ≤ maxLen) (c : Bool) :
    (Instr.lookup t (.map (some B)) (.string k) c).run Try.prog w = .ok (if c then .tuple #[if k ∈ keys then val k else z, .bool (decide (k ∈ keys))] else if k ∈ keys then val k else z) w := by
  obtain ⟨es, cl, hb, h1, h2, h3⟩ := h
  have hch := strKeyed.check w es.isEmpty (strKey hk)
  rcases maps_find (w := w) h1 h3 hk with ⟨f1, f2⟩ | ⟨j, e', f1, _, _, f4⟩
  · cases c <;> simp [Instr.lookup, run_underlying ht, MapKept.run_getObj_map hb, hch, f1, hz, Result.andThen, f2]
  · have hin : k ∈ keys := List.mem_of_getElem? f4
    cases c <;> simp [Instr.lookup, run_underlying ht, MapKept.run_getObj_map hb, hch, f1, Result.andThen, hin]

theorem nodupS_inj {l : List ByteArray} (h : l.Nodup) {i j : Nat} (hi : i < l.length) (hj : j < l.length) (e : l[i] = l[j]) : i = j := by
  have hp := List.pairwise_iff_getElem.1 h
  rcases Nat.lt_trichotomy i j with h1 | h1 | h1
  · exact absurd e (hp i j hi hj h1)
  · exact h1
  · exact absurd e.symm (hp j i hj hi h1)
def putKeysS (keys : List ByteArray) (k : ByteArray) : List ByteArray := if k ∈ keys then keys else keys ++ [k]
def putValS (val : ByteArray → Value) (k : ByteArray) (v : Value) : ByteArray → Value := fun x => if x = k then v else val x
theorem mem_putKeysS (keys : List ByteArray) (k x : ByteArray) : x ∈ putKeysS keys k ↔ x ∈ keys ∨ x = k := by
  unfold putKeysS
  by_cases h : k ∈ keys
  · rw [if_pos h]; exact ⟨.inl, fun hx => hx.elim id (fun e => e ▸ h)⟩
  · rw [if_neg h]; simp

set_option maxRecDepth 10000 in
theorem MapS.put {w : World} {B : Nat} {keys : List ByteArray} {val : ByteArray → Value} (h : MapS w B keys val) {t e : TypeId} (ht : Try.prog.underlying t = some (.map 9 e)) {k : ByteArray} (hk : k.size ≤ maxLen) (v : Value) :
    ∃ o, (Instr.mapUpdate t (.map (some B)) (.string k) v).run Try.prog w = .ok () (setBlock w B o) ∧ MapS (setBlock w B o) B (putKeysS keys k) (putValS val k v) ∧ (setBlock w B o).heap.size = w.heap.size ∧ ∀ b, b ≠ B → (setBlock w B o).heap[b]? = w.heap[b]? := by
  obtain ⟨es, cl, hb, h1, h2, h3⟩ := h
  have hch := strKeyed.check w false (strKey hk)
  rcases maps_find (w := w) h1 h3 hk with ⟨f1, f2⟩ | ⟨j, e', f1, f2, f3, f4⟩
  · refine ⟨.map (es.push ⟨.string k, v, cl⟩) (cl + 1), ?_, ⟨_, _, heap_setBlock_same hb _, ?_, ?_, ?_⟩, by simp [setBlock], fun b hb2 => heap_setBlock_other hb _ hb2⟩
    · simp [Instr.mapUpdate, run_underlying ht, MapKept.run_getObj_map hb, hch, f1, MapKept.run_setObj_map _ hb, Result.andThen, setBlock]
    · rw [putKeysS, if_neg f2, Array.toList_push, List.map_append, List.map_append, h1]
      congr 1
      · refine List.map_congr_left (fun x hx => ?_)
        rw [putValS, if_neg (show ¬ x = k from fun e => f2 (e ▸ hx))]
      · simp [putValS]
    · rw [putKeysS, if_neg f2]
      exact List.nodup_append.2 ⟨h2, by simp, fun a ha b hb e => by simp at hb; subst hb; subst e; exact f2 ha⟩
    · intro x hx
      rcases (mem_putKeysS _ _ _).1 hx with hx | rfl
      · exact h3 x hx
      · exact hk
  · have hin : k ∈ keys := List.mem_of_getElem? f4
    have hj : es[j]? = some e' := by simpa using f2
    have hst := strKeyed.stays w (strKey hk)
    refine ⟨.map (es.modify j (fun e => { e with key := .string k, val := v })) cl, ?_, ⟨_, _, heap_setBlock_same hb _, ?_, ?_, ?_⟩, by simp [setBlock], fun b hb2 => heap_setBlock_other hb _ hb2⟩
    · simp [Instr.mapUpdate, run_underlying ht, MapKept.run_getObj_map hb, hch, f1, hj, f3, hst, MapKept.run_setObj_map _ hb, Result.andThen, setBlock]
    · rw [putKeysS, if_pos hin]
      apply List.ext_getElem?
      intro i
      have hi := congrArg (·[i]?) h1
      simp only [List.getElem?_map] at hi ⊢
      rw [Array.toList_modify, List.getElem?_modify]
      by_cases hij : j = i
      · subst hij
        rw [f4, f2]
        simp [putValS]
      · cases hki : keys[i]? with
        | none =>
          rw [hki] at hi
          cases hei : es.toList[i]? with
          | none => simp
          | some e2 => rw [hei] at hi; cases hi
        | some k2 =>
          rw [hki] at hi
          have hne : k2 ≠ k := by
            intro e
            subst e
            obtain ⟨a1, a2⟩ := List.getElem?_eq_some_iff.1 f4
            obtain ⟨b1, b2⟩ := List.getElem?_eq_some_iff.1 hki
            exact hij (nodupS_inj h2 a1 b1 (a2.trans b2.symm))
          cases hei : es.toList[i]? with
          | none => rw [hei] at hi; cases hi
          | some e2 =>
            rw [hei] at hi
            simp only [Option.map_some, Option.some.injEq] at hi
            simp [hij, hi, putValS, hne]
    · rw [putKeysS, if_pos hin]; exact h2
    · rw [putKeysS, if_pos hin]; exact h3
end Go.Proofs.Ytepfppncfeaeiaa
