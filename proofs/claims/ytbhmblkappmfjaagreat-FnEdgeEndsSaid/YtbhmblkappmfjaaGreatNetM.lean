/- Maps by numbers: looking up, storing. -/
import Derived.Test.YtbhmblkappmfjaaGreatBase
import Derived.Maps.Keyed
import Derived.ChangeMaps5
import Derived.Maps.AppendAt
namespace Go.Proofs.YtbhmblkappmfjaaGreat
open Go.RowKit Go.Deep
open Go.ChangeMaps (setBlock heap_setBlock_same heap_setBlock_other)
open Go.Maps

/-- Block B of w is a map with these keys, in the order in which they came, and what stands under each. -/
def MapF (w : World) (B : Nat) (keys : List Int) (val : Int → Value) : Prop :=
  ∃ (es : Array MapEntry) (c : Nat), w.heap[B]? = some (.map es c) ∧ es.toList.map (fun e => (e.key, e.val)) = keys.map (fun k => (Value.int .i64 k, val k)) ∧ keys.Nodup ∧ ∀ k ∈ keys, (Lit.int .i64 k).wf = true

theorem MapF.lt {w : World} {B : Nat} {keys : List Int} {val : Int → Value} (h : MapF w B keys val) : B < w.heap.size := by
  obtain ⟨es, c, hb, _⟩ := h
  exact Array.getElem?_eq_some_iff.1 hb |>.1
theorem MapF.block {w w' : World} {B : Nat} {keys : List Int} {val : Int → Value} (h : MapF w B keys val) (e : w'.heap[B]? = w.heap[B]?) : MapF w' B keys val := by
  obtain ⟨es, c, hb, r⟩ := h
  exact ⟨es, c, by rw [e]; exact hb, r⟩
theorem MapF.ext {w w' : World} {B : Nat} {keys : List Int} {val : Int → Value} (h : MapF w B keys val) (e : Ext w w') : MapF w' B keys val := h.block (Below.block e B h.lt)
theorem MapF.new (w : World) (val : Int → Value) : MapF (w.alloc (.map #[] 0)) w.heap.size [] val := ⟨#[], 0, heap_alloc_new w _, rfl, List.nodup_nil, fun _ h => by simp at h⟩
theorem MapF.congr {w : World} {B : Nat} {keys : List Int} {val val' : Int → Value} (h : MapF w B keys val) (e : ∀ k ∈ keys, val k = val' k) : MapF w B keys val' := by
  obtain ⟨es, c, hb, h1, h2, h3⟩ := h
  exact ⟨es, c, hb, by rw [h1]; exact List.map_congr_left (fun k hk => by rw [e k hk]), h2, h3⟩

theorem intKeyed : Keyed Tryz.prog 3 := int_keyed Tryz.underlying3
theorem intKey {k : Int} (h : (Lit.int .i64 k).wf = true) : keyOf Tryz.prog 3 (.int .i64 k) = some (.int .i64 k) := keyOf_int_mk Tryz.underlying3 h

theorem mapf_find {w : World} {es : Array MapEntry} {keys : List Int} {val : Int → Value} (h1 : es.toList.map (fun e => (e.key, e.val)) = keys.map (fun k => (Value.int .i64 k, val k))) (h3 : ∀ k ∈ keys, (Lit.int .i64 k).wf = true) {k : Int} (hk : (Lit.int .i64 k).wf = true) :
    ((Instr.findKey 3 (.int .i64 k) es.toList).run Tryz.prog w = .ok none w ∧ k ∉ keys) ∨ ∃ j e, (Instr.findKey 3 (.int .i64 k) es.toList).run Tryz.prog w = .ok (some (j, val k)) w ∧ es.toList[j]? = some e ∧ e.key = .int .i64 k ∧ keys[j]? = some k := by
  have hks : ∀ e ∈ es.toList, ∃ l, keyOf Tryz.prog 3 e.key = some l := by
    intro e he
    have : (e.key, e.val) ∈ es.toList.map (fun e => (e.key, e.val)) := List.mem_map.2 ⟨e, he, rfl⟩
    rw [h1] at this
    obtain ⟨k', hk', e2⟩ := List.mem_map.1 this
    have := congrArg Prod.fst e2
    dsimp only at this
    exact ⟨_, by rw [← this]; exact intKey (h3 k' hk')⟩
  rcases intKeyed.find w (intKey hk) es.toList hks with ⟨f1, f2⟩ | ⟨j, e, f1, f2, f3⟩
  · refine .inl ⟨f1, fun hin => ?_⟩
    have : (Value.int .i64 k, val k) ∈ keys.map (fun k => (Value.int .i64 k, val k)) := List.mem_map.2 ⟨k, hin, rfl⟩
    rw [← h1] at this
    obtain ⟨e, he, e2⟩ := List.mem_map.1 this
    exact f2 e he (congrArg Prod.fst e2)
  · have hat : (es.toList.map (fun e => (e.key, e.val)))[j]? = some (e.key, e.val) := by rw [List.getElem?_map, f2]; rfl
    rw [h1, List.getElem?_map] at hat
    cases hkj : keys[j]? with
    | none => rw [hkj] at hat; cases hat
    | some k' =>
      rw [hkj] at hat
      simp only [Option.map_some, Option.some.injEq, Prod.mk.injEq] at hat
      have hkk : k' = k := by have := hat.1.trans f3; injection this
      subst hkk
      exact .inr ⟨j, e, by rw [f1, hat.2], f2, f3, hkj⟩

theorem MapF.look {w : World} {B : Nat} {keys : List Int} {val : Int → Value} (h : MapF w B keys val) {t e : TypeId} (ht : Tryz.prog.underlying t = some (.map 3 e)) {z : Value} (hz : (zeroValue e).run Tryz.prog w = .ok z w) {k : Int} (hk : (Lit.int .i64 k).wf = true) (c : Bool) :
    (Instr.lookup t (.map (some B)) (.int .i64 k) c).run Tryz.prog w = .ok (if c then .tuple #[if k ∈ keys then val k else z, .bool (decide (k ∈ keys))] else if k ∈ keys then val k else z) w := by
  obtain ⟨es, cl, hb, h1, h2, h3⟩ := h
  have hch := intKeyed.check w es.isEmpty (intKey hk)
  rcases mapf_find (w := w) h1 h3 hk with ⟨f1, f2⟩ | ⟨j, e', f1, _, _, f4⟩
  · cases c <;> simp [Instr.lookup, run_underlying ht, MapKept.run_getObj_map hb, hch, f1, hz, Result.andThen, f2]
  · have hin : k ∈ keys := List.mem_of_getElem? f4
    cases c <;> simp [Instr.lookup, run_underlying ht, MapKept.run_getObj_map hb, hch, f1, Result.andThen, hin]

theorem nodup_inj {l : List Int} (h : l.Nodup) {i j : Nat} (hi : i < l.length) (hj : j < l.length) (e : l[i] = l[j]) : i = j := by
  have hp := List.pairwise_iff_getElem.1 h
  rcases Nat.lt_trichotomy i j with h1 | h1 | h1
  · exact absurd e (hp i j hi hj h1)
  · exact h1
  · exact absurd e.symm (hp j i hj hi h1)
def putKeys (keys : List Int) (k : Int) : List Int := if k ∈ keys then keys else keys ++ [k]
def putVal (val : Int → Value) (k : Int) (v : Value) : Int → Value := fun x => if x = k then v else val x
theorem mem_putKeys (keys : List Int) (k x : Int) : x ∈ putKeys keys k ↔ x ∈ keys ∨ x = k := by
  unfold putKeys
  by_cases h : k ∈ keys
  · rw [if_pos h]; exact ⟨.inl, fun hx => hx.elim id (fun e => e ▸ h)⟩
  · rw [if_neg h]; simp

set_option maxRecDepth 10000 in
theorem MapF.put {w : World} {B : Nat} {keys : List Int} {val : Int → Value} (h : MapF w B keys val) {t e : TypeId} (ht : Tryz.prog.underlying t = some (.map 3 e)) {k : Int} (hk : (Lit.int .i64 k).wf = true) (v : Value) :
    ∃ o, (Instr.mapUpdate t (.map (some B)) (.int .i64 k) v).run Tryz.prog w = .ok () (setBlock w B o) ∧ MapF (setBlock w B o) B (putKeys keys k) (putVal val k v) ∧ (setBlock w B o).heap.size = w.heap.size ∧ ∀ b, b ≠ B → (setBlock w B o).heap[b]? = w.heap[b]? := by
  obtain ⟨es, cl, hb, h1, h2, h3⟩ := h
  have hch := intKeyed.check w false (intKey hk)
  rcases mapf_find (w := w) h1 h3 hk with ⟨f1, f2⟩ | ⟨j, e', f1, f2, f3, f4⟩
  · refine ⟨.map (es.push ⟨.int .i64 k, v, cl⟩) (cl + 1), ?_, ⟨_, _, heap_setBlock_same hb _, ?_, ?_, ?_⟩, by simp [setBlock], fun b hb2 => heap_setBlock_other hb _ hb2⟩
    · simp [Instr.mapUpdate, run_underlying ht, MapKept.run_getObj_map hb, hch, f1, MapKept.run_setObj_map _ hb, Result.andThen, setBlock]
    · rw [putKeys, if_neg f2, Array.toList_push, List.map_append, List.map_append, h1]
      congr 1
      · refine List.map_congr_left (fun x hx => ?_)
        rw [putVal, if_neg (show ¬ x = k from fun e => f2 (e ▸ hx))]
      · simp [putVal]
    · rw [putKeys, if_neg f2]
      exact List.nodup_append.2 ⟨h2, by simp, fun a ha b hb e => by simp at hb; subst hb; subst e; exact f2 ha⟩
    · intro x hx
      rcases (mem_putKeys _ _ _).1 hx with hx | rfl
      · exact h3 x hx
      · exact hk
  · have hin : k ∈ keys := List.mem_of_getElem? f4
    have hj : es[j]? = some e' := by simpa using f2
    have hst := intKeyed.stays w (intKey hk)
    refine ⟨.map (es.modify j (fun e => { e with key := .int .i64 k, val := v })) cl, ?_, ⟨_, _, heap_setBlock_same hb _, ?_, ?_, ?_⟩, by simp [setBlock], fun b hb2 => heap_setBlock_other hb _ hb2⟩
    · simp [Instr.mapUpdate, run_underlying ht, MapKept.run_getObj_map hb, hch, f1, hj, f3, hst, MapKept.run_setObj_map _ hb, Result.andThen, setBlock]
    · rw [putKeys, if_pos hin]
      apply List.ext_getElem?
      intro i
      have hi := congrArg (·[i]?) h1
      simp only [List.getElem?_map] at hi ⊢
      rw [Array.toList_modify, List.getElem?_modify]
      by_cases hij : j = i
      · subst hij
        rw [f4, f2]
        simp [putVal]
      · cases hki : keys[i]? with
        | none =>
          rw [hki] at hi
          cases hei : es.toList[i]? with
          | none => simp
          | some e2 => rw [hei] at hi; cases hi
        | some k2 =>
          rw [hki] at hi
          have hne : k2 ≠ k := by
            intro e
            subst e
            obtain ⟨a1, a2⟩ := List.getElem?_eq_some_iff.1 f4
            obtain ⟨b1, b2⟩ := List.getElem?_eq_some_iff.1 hki
            exact hij (nodup_inj h2 a1 b1 (a2.trans b2.symm))
          cases hei : es.toList[i]? with
          | none => rw [hei] at hi; cases hi
          | some e2 =>
            rw [hei] at hi
            simp only [Option.map_some, Option.some.injEq] at hi
            simp [hij, hi, putVal, hne]
    · rw [putKeys, if_pos hin]; exact h2
    · rw [putKeys, if_pos hin]; exact h3
end Go.Proofs.YtbhmblkappmfjaaGreat

/- A net as it lies in memory: its rows of numbers, its maps, its own block. -/
namespace Go.Proofs.YtbhmblkappmfjaaGreat
open Go.RowKit Go.Deep
open Go.ChangeMaps (setBlock heap_setBlock_same heap_setBlock_other)

/-- Of what lay in w nothing but blocks of R may have turned in w'. -/
structure Chg (R : Nat → Prop) (w w' : World) : Prop where
  os : w'.os = w.os
  tape : w'.tape = w.tape
  output : w'.output = w.output
  size : w.heap.size ≤ w'.heap.size
  block : ∀ b, b < w.heap.size → ¬ R b → w'.heap[b]? = w.heap[b]?
theorem Chg.refl (R : Nat → Prop) (w : World) : Chg R w w := ⟨rfl, rfl, rfl, Nat.le_refl _, fun _ _ _ => rfl⟩
theorem Chg.trans {R : Nat → Prop} {a b c : World} (h : Chg R a b) (k : Chg R b c) : Chg R a c :=
  ⟨k.os.trans h.os, k.tape.trans h.tape, k.output.trans h.output, Nat.le_trans h.size k.size, fun i hi ho => (k.block i (Nat.lt_of_lt_of_le hi h.size) ho).trans (h.block i hi ho)⟩
theorem Chg.mono {R R' : Nat → Prop} {a b : World} (h : Chg R a b) (e : ∀ x, R x → R' x) : Chg R' a b := ⟨h.os, h.tape, h.output, h.size, fun i hi ho => h.block i hi (fun hr => ho (e i hr))⟩
theorem Chg.of_ext {R : Nat → Prop} {a b : World} (h : Ext a b) : Chg R a b := ⟨Below.os h, Below.tape h, Below.output h, Below.size h, fun i hi _ => Below.block h i hi⟩
/-- What is new may turn as it likes. -/
theorem Chg.toExt {R : Nat → Prop} {a b c : World} (h : Ext a b) (k : Chg R b c) (hl : ∀ x, R x → a.heap.size ≤ x) : Ext a c :=
  ⟨k.os.trans (Below.os h), k.tape.trans (Below.tape h), k.output.trans (Below.output h), Nat.le_trans (Below.size h) k.size, fun i hi => by rw [k.block i (Nat.lt_of_lt_of_le hi (Below.size h)) (fun hr => by have := hl i hr; omega)]; exact Below.block h i hi⟩
theorem Chg.grown {R : Nat → Prop} {a b c : World} (h : Chg R a b) {row : Option Nat} (e : b.grownBy c row) (hr : ∀ k, row = some k → R k) : Chg R a c :=
  ⟨e.os.trans h.os, e.tape.trans h.tape, e.output.trans h.output, Nat.le_trans h.size e.size, fun i hi ho => by rw [e.block i (Nat.lt_of_lt_of_le hi h.size) (fun e2 => ho (hr i e2.symm))]; exact h.block i hi ho⟩
theorem Chg.setCell {R : Nat → Prop} {a b : World} (h : Chg R a b) {p : Addr} (hp : R p.block) (u : Value) : Chg R a (b.setCell p u) :=
  ⟨h.os, h.tape, h.output, by simpa using h.size, fun i hi ho => by rw [Below.heap_setCell _ _ _ _ (fun e => ho (by rw [e]; exact hp))]; exact h.block i hi ho⟩
theorem Chg.setBlock {R : Nat → Prop} {a b : World} (h : Chg R a b) {B : Nat} (hB : R B) (o : Obj) (hblk : ∀ x, x ≠ B → (setBlock b B o).heap[x]? = b.heap[x]?) : Chg R a (setBlock b B o) :=
  ⟨h.os, h.tape, h.output, by simpa [ChangeMaps.setBlock] using h.size, fun i hi ho => by rw [hblk i (fun e => ho (by rw [e]; exact hB))]; exact h.block i hi ho⟩

/-- The rows of numbers of a net: of its nodes, its edges, those out of a node, those into one. -/
inductive RN where
  | n | e
  | o (k : Int)
  | i (k : Int)
/-- The maps of a net. -/
inductive MI where
  | n | e | o | i

instance : DecidableEq RN := fun a b => by
  cases a with
  | o k => cases b with
    | o k' => exact decidable_of_iff (k = k') (by rw [RN.o.injEq])
    | _ => exact isFalse (by simp)
  | i k => cases b with
    | i k' => exact decidable_of_iff (k = k') (by rw [RN.i.injEq])
    | _ => exact isFalse (by simp)
  | _ =>
    cases b
    all_goals first | exact isTrue rfl | exact isFalse (by simp)
instance : DecidableEq MI := fun a b => by
  cases a <;> cases b
  all_goals first | exact isTrue rfl | exact isFalse (by simp)

structure NetD where
  rows : RN → Value
  lists : RN → List Int
  mb : MI → Nat
  keys : MI → List Int
  val : MI → Int → Value
  nn : Int
  ne : Int
  nb : Nat

def NetD.cells (N : NetD) : Array Value := #[N.rows .n, .map (some (N.mb .n)), .int .i64 N.nn, N.rows .e, .map (some (N.mb .e)), .int .i64 N.ne, .map (some (N.mb .o)), .map (some (N.mb .i))]

/-- The cells of a node, and of an edge. -/
def Shp : MI → Value → Prop
  | .n, v => ∃ id a l c a' l' c', v = .agg #[.int .i64 id, .slice a l c, .slice a' l' c'] ∧ l ≤ c ∧ l' ≤ c'
  | .e, v => ∃ id s x y a l c, v = .agg #[.int .i64 id, .string s, .int .i64 x, .int .i64 y, .slice a l c] ∧ l ≤ c
  | _, _ => True

/-- So it lies in w, from block base on; no row is longer than c. -/
structure NetIn (w : World) (base c : Nat) (N : NetD) : Prop where
  blk : w.heap[N.nb]? = some (.cells N.cells 68 (0, 0))
  lo : base ≤ N.nb
  own : ∀ r, w.ownsRow base 3 1 (N.rows r) (N.lists r).length ((N.lists r).map (Value.int .i64))
  len : ∀ r, (N.lists r).length ≤ c
  sep : ∀ r r', r ≠ r' → ∀ x, (N.rows r).ownBlock = some x → (N.rows r').ownBlock ≠ some x
  maps : ∀ j, MapF w (N.mb j) (N.keys j) (N.val j)
  mlo : ∀ j, base ≤ N.mb j
  minj : ∀ j j', N.mb j = N.mb j' → j = j'
  outs : ∀ k, if k ∈ N.keys .o then N.val .o k = N.rows (.o k) else N.rows (.o k) = .slice none 0 0
  ins : ∀ k, if k ∈ N.keys .i then N.val .i k = N.rows (.i k) else N.rows (.i k) = .slice none 0 0
  shp : ∀ j, ∀ k ∈ N.keys j, Shp j (N.val j k)

theorem own_block {w : World} {base : Nat} {u : Value} {n : Nat} {xs : List Value} (h : w.ownsRow base 3 1 u n xs) {x : Nat} (e : u.ownBlock = some x) : ∃ cur, w.heap[x]? = some (.cells cur 3 (0, 0)) := by
  rcases h.2 with ⟨rfl, _⟩ | ⟨g, cap, cur, rfl, _, hg, _⟩
  · cases e
  · cases e; exact ⟨cur, hg⟩
theorem own_kept {w w' : World} {base : Nat} {u : Value} {n : Nat} {xs : List Value} (h : w.ownsRow base 3 1 u n xs) {B : Nat} (hne : ∀ y, u.ownBlock = some y → y ≠ B) (hg : w.grownBy w' (some B)) : w'.ownsRow base 3 1 u n xs := by
  refine h.kept hg ?_
  cases e : u.ownBlock with
  | none => exact .inl rfl
  | some y => exact .inr (fun e2 => hne y e (Option.some.inj e2))
theorem NetIn.row_nb {w : World} {base c : Nat} {N : NetD} (h : NetIn w base c N) (r : RN) {x : Nat} (e : (N.rows r).ownBlock = some x) : x ≠ N.nb := by
  rintro rfl
  obtain ⟨cur, hc⟩ := own_block (h.own r) e
  rw [h.blk] at hc
  injection hc with hc
  injection hc with _ hc
  exact absurd hc (by decide)
theorem NetIn.row_mb {w : World} {base c : Nat} {N : NetD} (h : NetIn w base c N) (r : RN) (j : MI) {x : Nat} (e : (N.rows r).ownBlock = some x) : x ≠ N.mb j := by
  rintro rfl
  obtain ⟨cur, hc⟩ := own_block (h.own r) e
  obtain ⟨es, cl, hm, _⟩ := h.maps j
  rw [hm] at hc
  injection hc with hc
  cases hc
theorem NetIn.mb_nb {w : World} {base c : Nat} {N : NetD} (h : NetIn w base c N) (j : MI) : N.mb j ≠ N.nb := by
  intro e
  obtain ⟨es, cl, hm, _⟩ := h.maps j
  rw [e, h.blk] at hm
  injection hm with hm
  cases hm
theorem NetIn.nb_lt {w : World} {base c : Nat} {N : NetD} (h : NetIn w base c N) : N.nb < w.heap.size := Array.getElem?_eq_some_iff.1 h.blk |>.1
theorem NetIn.row_lt {w : World} {base c : Nat} {N : NetD} (h : NetIn w base c N) (r : RN) {x : Nat} (e : (N.rows r).ownBlock = some x) : base ≤ x ∧ x < w.heap.size := (h.own r).lt x e
theorem NetIn.cell {w : World} {base c : Nat} {N : NetD} (h : NetIn w base c N) (o : Nat) (v : Value) (e : N.cells[o]? = some v) : w.cell? ⟨N.nb, o, none⟩ = some v := by
  simp [World.cell?, h.blk, e]
theorem NetIn.c0 {w : World} {base c : Nat} {N : NetD} (h : NetIn w base c N) : w.cell? ⟨N.nb, 0, none⟩ = some (N.rows .n) := h.cell 0 _ rfl
theorem NetIn.c1 {w : World} {base c : Nat} {N : NetD} (h : NetIn w base c N) : w.cell? ⟨N.nb, 1, none⟩ = some (.map (some (N.mb .n))) := h.cell 1 _ rfl
theorem NetIn.c2 {w : World} {base c : Nat} {N : NetD} (h : NetIn w base c N) : w.cell? ⟨N.nb, 2, none⟩ = some (.int .i64 N.nn) := h.cell 2 _ rfl
theorem NetIn.c3 {w : World} {base c : Nat} {N : NetD} (h : NetIn w base c N) : w.cell? ⟨N.nb, 3, none⟩ = some (N.rows .e) := h.cell 3 _ rfl
theorem NetIn.c4 {w : World} {base c : Nat} {N : NetD} (h : NetIn w base c N) : w.cell? ⟨N.nb, 4, none⟩ = some (.map (some (N.mb .e))) := h.cell 4 _ rfl
theorem NetIn.c5 {w : World} {base c : Nat} {N : NetD} (h : NetIn w base c N) : w.cell? ⟨N.nb, 5, none⟩ = some (.int .i64 N.ne) := h.cell 5 _ rfl
theorem NetIn.c6 {w : World} {base c : Nat} {N : NetD} (h : NetIn w base c N) : w.cell? ⟨N.nb, 6, none⟩ = some (.map (some (N.mb .o))) := h.cell 6 _ rfl
theorem NetIn.c7 {w : World} {base c : Nat} {N : NetD} (h : NetIn w base c N) : w.cell? ⟨N.nb, 7, none⟩ = some (.map (some (N.mb .i))) := h.cell 7 _ rfl
theorem NetIn.frozen {w : World} {base c : Nat} {N : NetD} (h : NetIn w base c N) (o : Nat) : w.frozen? ⟨N.nb, o, none⟩ = false := by
  simp [World.frozen?, h.blk]
theorem NetIn.ext {w w' : World} {base c : Nat} {N : NetD} (h : NetIn w base c N) (e : Ext w w') : NetIn w' base c N :=
  ⟨by rw [Below.block e _ h.nb_lt]; exact h.blk, h.lo, fun r => (h.own r).kept e.grown (by cases h : (N.rows r).ownBlock <;> simp), h.len, h.sep, fun j => (h.maps j).ext e, h.mlo, h.minj, h.outs, h.ins, h.shp⟩
theorem NetIn.mono {w : World} {base c c' : Nat} {N : NetD} (h : NetIn w base c N) (e : c ≤ c') : NetIn w base c' N :=
  ⟨h.blk, h.lo, h.own, fun r => Nat.le_trans (h.len r) e, h.sep, h.maps, h.mlo, h.minj, h.outs, h.ins, h.shp⟩

def upd {α : Type} {β : Type} [DecidableEq α] (f : α → β) (a : α) (b : β) : α → β := fun x => if x = a then b else f x
theorem upd_same {α β : Type} [DecidableEq α] (f : α → β) (a : α) (b : β) : upd f a b a = b := by simp [upd]
theorem upd_other {α β : Type} [DecidableEq α] (f : α → β) (a : α) (b : β) {x : α} (h : x ≠ a) : upd f a b x = f x := by simp [upd, h]

/-- One number more in a row: what the append leaves. -/
theorem NetIn.rows_push {w w3 : World} {base c : Nat} {N : NetD} (h : NetIn w base c N) (r : RN) {x : Int} {v' : Value} (hown : w3.ownsRow base 3 1 v' ((N.lists r).length + 1) ((N.lists r).map (Value.int .i64) ++ [.int .i64 x])) (hg : w.grownBy w3 (N.rows r).ownBlock) (hloc : v'.ownBlock = (N.rows r).ownBlock ∨ v'.ownBlock = some w.heap.size) :
    (∀ q, w3.ownsRow base 3 1 (upd N.rows r v' q) (upd N.lists r (N.lists r ++ [x]) q).length ((upd N.lists r (N.lists r ++ [x]) q).map (Value.int .i64))) ∧ (∀ q, (upd N.lists r (N.lists r ++ [x]) q).length ≤ c + 1) ∧
    (∀ q q', q ≠ q' → ∀ y, (upd N.rows r v' q).ownBlock = some y → (upd N.rows r v' q').ownBlock ≠ some y) := by
  have hnew : ∀ q, q ≠ r → ∀ y, v'.ownBlock = some y → (N.rows q).ownBlock ≠ some y := by
    intro q hq y hy e
    rcases hloc with hl | hl
    · rw [hl] at hy; exact h.sep r q (Ne.symm hq) y hy e
    · rw [hl] at hy
      cases hy
      have := (h.row_lt q e).2
      omega
  refine ⟨fun q => ?_, fun q => ?_, fun q q' hne y hy => ?_⟩
  · by_cases hq : q = r
    · subst hq; rw [upd_same, upd_same]; simpa using hown
    · rw [upd_other _ _ _ hq, upd_other _ _ _ hq]
      refine (h.own q).kept hg ?_
      cases e : (N.rows q).ownBlock with
      | none => exact .inl rfl
      | some y => exact .inr (fun e2 => h.sep q r hq y e e2.symm)
  · by_cases hq : q = r
    · subst hq; rw [upd_same]; have := h.len q; simp; omega
    · rw [upd_other _ _ _ hq]; have := h.len q; omega
  · by_cases hq : q = r
    · subst hq
      rw [upd_same] at hy
      rw [upd_other _ _ _ (Ne.symm hne)]
      exact hnew q' (Ne.symm hne) y hy
    · rw [upd_other _ _ _ hq] at hy
      by_cases hq' : q' = r
      · subst hq'
        rw [upd_same]
        exact fun e => hnew q hq y e hy
      · rw [upd_other _ _ _ hq']
        exact h.sep q q' hne y hy

def cellAt : RN → Nat
  | .n => 0
  | .e => 3
  | _ => 8
def NetD.push (N : NetD) (r : RN) (v' : Value) (x : Int) : NetD := { N with rows := upd N.rows r v', lists := upd N.lists r (N.lists r ++ [x]) }
def NetD.put (N : NetD) (j : MI) (k : Int) (v : Value) : NetD := { N with keys := upd N.keys j (putKeys (N.keys j) k), val := upd N.val j (putVal (N.val j) k v) }

theorem heap_set_same (w : World) (g i : Nat) (cs : Array Value) (t : TypeId) (v : Value) (hg : w.heap[g]? = some (.cells cs t (0, 0))) : (w.setCell ⟨g, i, none⟩ v).heap[g]? = some (.cells (cs.setIfInBounds i v) t (0, 0)) := by
  simp only [World.setCell, Array.getElem?_modify, hg]
  simp

/-- A row of the net's own (of nodes, of edges) has grown, and is stored. -/
theorem NetIn.push {w w3 : World} {base c : Nat} {N : NetD} (h : NetIn w base c N) (r : RN) (hr : r = .n ∨ r = .e) {x : Int} {v' : Value} (hown : w3.ownsRow base 3 1 v' ((N.lists r).length + 1) ((N.lists r).map (Value.int .i64) ++ [.int .i64 x])) (hg : w.grownBy w3 (N.rows r).ownBlock) (hloc : v'.ownBlock = (N.rows r).ownBlock ∨ v'.ownBlock = some w.heap.size) :
    NetIn (w3.setCell ⟨N.nb, cellAt r, none⟩ v') base (c + 1) (N.push r v' x) := by
  obtain ⟨h1, h2, h3⟩ := h.rows_push r hown hg hloc
  have hnb : w3.heap[N.nb]? = some (.cells N.cells 68 (0, 0)) := by rw [hg.block _ h.nb_lt (fun e => h.row_nb r e.symm rfl)]; exact h.blk
  have hnr : ∀ q y, (upd N.rows r v' q).ownBlock = some y → y ≠ N.nb := by
    intro q y hy e
    subst e
    obtain ⟨cur, hc⟩ := own_block (h1 q) hy
    rw [hnb] at hc
    injection hc with hc
    injection hc with _ hc
    exact absurd hc (by decide)
  have hoth : ∀ b, b ≠ N.nb → (w3.setCell ⟨N.nb, cellAt r, none⟩ v').heap[b]? = w3.heap[b]? := fun b hb => Below.heap_setCell _ _ _ _ hb
  refine ⟨?_, h.lo, fun q => ?_, h2, h3, fun j => ?_, h.mlo, h.minj, fun k => ?_, fun k => ?_, h.shp⟩
  · rw [show (N.push r v' x).nb = N.nb from rfl, heap_set_same _ _ _ _ _ _ hnb]
    rcases hr with rfl | rfl
    · simp [NetD.cells, NetD.push, cellAt, upd]
    · simp [NetD.cells, NetD.push, cellAt, upd]
  · exact own_kept (h1 q) (hnr q) ⟨rfl, rfl, rfl, by simp, fun b _ hb => hoth b (fun e => hb (by rw [e]))⟩
  · refine (h.maps j).block ?_
    rw [hoth _ (h.mb_nb j), hg.block _ (h.maps j).lt (fun e => h.row_mb r j e.symm rfl)]
  · have := h.outs k
    have hne : (RN.o k) ≠ r := by rcases hr with rfl | rfl <;> simp
    show if k ∈ N.keys .o then N.val .o k = upd N.rows r v' (.o k) else upd N.rows r v' (.o k) = _
    rw [upd_other _ _ _ hne]
    exact this
  · have := h.ins k
    have hne : (RN.i k) ≠ r := by rcases hr with rfl | rfl <;> simp
    show if k ∈ N.keys .i then N.val .i k = upd N.rows r v' (.i k) else upd N.rows r v' (.i k) = _
    rw [upd_other _ _ _ hne]
    exact this

theorem shp_put {w : World} {base c : Nat} {N : NetD} (h : NetIn w base c N) {j : MI} {k : Int} {v : Value} (hsh : Shp j v) : ∀ jj, ∀ x ∈ upd N.keys j (putKeys (N.keys j) k) jj, Shp jj (upd N.val j (putVal (N.val j) k v) jj x) := by
  intro jj x hx
  by_cases hj : jj = j
  · subst hj
    rw [upd_same] at hx ⊢
    by_cases hxk : x = k
    · rw [putVal, if_pos hxk]; exact hsh
    · rw [putVal, if_neg hxk]
      exact h.shp _ x (((mem_putKeys _ _ _).1 hx).resolve_right hxk)
  · rw [upd_other _ _ _ hj] at hx ⊢
    exact h.shp _ x hx
/-- A map of rows (of nodes, of edges) has one more. -/
theorem NetIn.put {w : World} {base c : Nat} {N : NetD} (h : NetIn w base c N) (j : MI) (hj : j = .n ∨ j = .e) {k : Int} {v : Value} {o : Obj} (hm : MapF (setBlock w (N.mb j) o) (N.mb j) (putKeys (N.keys j) k) (putVal (N.val j) k v)) (hoth : ∀ b, b ≠ N.mb j → (setBlock w (N.mb j) o).heap[b]? = w.heap[b]?) (hsh : Shp j v) :
    NetIn (setBlock w (N.mb j) o) base c (N.put j k v) := by
  refine ⟨?_, h.lo, fun q => ?_, h.len, h.sep, fun jj => ?_, h.mlo, h.minj, fun x => ?_, fun x => ?_, shp_put h hsh⟩
  · rw [show (N.put j k v).nb = N.nb from rfl, hoth _ (Ne.symm (h.mb_nb j))]; exact h.blk
  · exact own_kept (h.own q) (fun y e => h.row_mb q j e) ⟨rfl, rfl, rfl, by simp [ChangeMaps.setBlock], fun b _ hb => hoth b (fun e => hb (by rw [e]))⟩
  · show MapF _ (N.mb jj) (upd N.keys j _ jj) (upd N.val j _ jj)
    by_cases hi : jj = j
    · subst hi; rw [upd_same, upd_same]; exact hm
    · rw [upd_other _ _ _ hi, upd_other _ _ _ hi]
      exact (h.maps jj).block (hoth _ (fun e => hi (h.minj _ _ e)))
  · have := h.outs x
    have hne : MI.o ≠ j := by rcases hj with rfl | rfl <;> simp
    show if x ∈ upd N.keys j _ .o then upd N.val j _ .o x = _ else _
    rw [upd_other _ _ _ hne, upd_other _ _ _ hne]
    exact this
  · have := h.ins x
    have hne : MI.i ≠ j := by rcases hj with rfl | rfl <;> simp
    show if x ∈ upd N.keys j _ .i then upd N.val j _ .i x = _ else _
    rw [upd_other _ _ _ hne, upd_other _ _ _ hne]
    exact this

/-- The row out of a node, and into it. -/
def ownRow : MI → Int → RN
  | .o, k => .o k
  | _, k => .i k
/-- A row of a map of rows has grown, and is stored there. -/
theorem NetIn.grow {w w3 : World} {base c : Nat} {N : NetD} (h : NetIn w base c N) (j : MI) (hj : j = .o ∨ j = .i) {k x : Int} {v' : Value} (hown : w3.ownsRow base 3 1 v' ((N.lists (ownRow j k)).length + 1) ((N.lists (ownRow j k)).map (Value.int .i64) ++ [.int .i64 x])) (hg : w.grownBy w3 (N.rows (ownRow j k)).ownBlock) (hloc : v'.ownBlock = (N.rows (ownRow j k)).ownBlock ∨ v'.ownBlock = some w.heap.size)
    {o : Obj} (hm : MapF (setBlock w3 (N.mb j) o) (N.mb j) (putKeys (N.keys j) k) (putVal (N.val j) k v')) (hoth : ∀ b, b ≠ N.mb j → (setBlock w3 (N.mb j) o).heap[b]? = w3.heap[b]?) :
    NetIn (setBlock w3 (N.mb j) o) base (c + 1) ((N.push (ownRow j k) v' x).put j k v') := by
  obtain ⟨h1, h2, h3⟩ := h.rows_push (ownRow j k) hown hg hloc
  have hmap : ∀ jj, w3.heap[N.mb jj]? = w.heap[N.mb jj]? := fun jj => hg.block _ (h.maps jj).lt (fun e => h.row_mb (ownRow j k) jj e.symm rfl)
  refine ⟨?_, h.lo, fun q => ?_, h2, h3, fun jj => ?_, h.mlo, h.minj, fun y => ?_, fun y => ?_, shp_put h (by rcases hj with rfl | rfl <;> trivial)⟩
  · show (setBlock w3 (N.mb j) o).heap[N.nb]? = some (.cells ((N.push (ownRow j k) v' x).put j k v').cells _ _)
    rw [hoth _ (Ne.symm (h.mb_nb j)), hg.block _ h.nb_lt (fun e => h.row_nb _ e.symm rfl), h.blk]
    rcases hj with rfl | rfl <;> simp [NetD.cells, NetD.push, NetD.put, ownRow, upd]
  · refine own_kept (h1 q) (fun y e e2 => ?_) ⟨rfl, rfl, rfl, by simp [ChangeMaps.setBlock], fun b _ hb => hoth b (fun e => hb (by rw [e]))⟩
    subst e2
    obtain ⟨cur, hc⟩ := own_block (h1 q) e
    obtain ⟨es, cl, hmj, _⟩ := h.maps j
    rw [hmap, hmj] at hc
    injection hc with hc
    cases hc
  · show MapF _ (N.mb jj) (upd N.keys j _ jj) (upd N.val j _ jj)
    by_cases hi : jj = j
    · subst hi; rw [upd_same, upd_same]; exact hm
    · rw [upd_other _ _ _ hi, upd_other _ _ _ hi]
      exact (h.maps jj).block (by rw [hoth _ (fun e => hi (h.minj _ _ e)), hmap])
  · have hy := h.outs y
    show if y ∈ upd N.keys j (putKeys (N.keys j) k) .o then upd N.val j (putVal (N.val j) k v') .o y = upd N.rows (ownRow j k) v' (.o y) else upd N.rows (ownRow j k) v' (.o y) = _
    rcases hj with rfl | rfl
    · rw [upd_same, upd_same]
      by_cases hyk : y = k
      · subst hyk
        rw [if_pos ((mem_putKeys _ _ _).2 (.inr rfl)), putVal, if_pos rfl]
        exact (upd_same _ _ _).symm
      · rw [upd_other _ _ _ (show RN.o y ≠ ownRow .o k by simp [ownRow, hyk]), putVal, if_neg hyk]
        by_cases hin : y ∈ N.keys .o
        · rw [if_pos ((mem_putKeys _ _ _).2 (.inl hin))]; rw [if_pos hin] at hy; exact hy
        · rw [if_neg (fun e => ((mem_putKeys _ _ _).1 e).elim hin hyk)]; rw [if_neg hin] at hy; exact hy
    · rw [upd_other _ _ _ (show MI.o ≠ .i by simp), upd_other _ _ _ (show MI.o ≠ .i by simp), upd_other _ _ _ (show RN.o y ≠ ownRow .i k by simp [ownRow])]
      exact hy
  · have hy := h.ins y
    show if y ∈ upd N.keys j (putKeys (N.keys j) k) .i then upd N.val j (putVal (N.val j) k v') .i y = upd N.rows (ownRow j k) v' (.i y) else upd N.rows (ownRow j k) v' (.i y) = _
    rcases hj with rfl | rfl
    · rw [upd_other _ _ _ (show MI.i ≠ .o by simp), upd_other _ _ _ (show MI.i ≠ .o by simp), upd_other _ _ _ (show RN.i y ≠ ownRow .o k by simp [ownRow])]
      exact hy
    · rw [upd_same, upd_same]
      by_cases hyk : y = k
      · subst hyk
        rw [if_pos ((mem_putKeys _ _ _).2 (.inr rfl)), putVal, if_pos rfl]
        exact (upd_same _ _ _).symm
      · rw [upd_other _ _ _ (show RN.i y ≠ ownRow .i k by simp [ownRow, hyk]), putVal, if_neg hyk]
        by_cases hin : y ∈ N.keys .i
        · rw [if_pos ((mem_putKeys _ _ _).2 (.inl hin))]; rw [if_pos hin] at hy; exact hy
        · rw [if_neg (fun e => ((mem_putKeys _ _ _).1 e).elim hin hyk)]; rw [if_neg hin] at hy; exact hy
theorem NetIn.look {w : World} {base c : Nat} {N : NetD} (h : NetIn w base c N) (j : MI) (hj : j = .o ∨ j = .i) (k : Int) : (if k ∈ N.keys j then N.val j k else .slice none 0 0) = N.rows (ownRow j k) := by
  rcases hj with rfl | rfl
  · have := h.outs k
    by_cases hin : k ∈ N.keys .o
    · rw [if_pos hin] at this ⊢; exact this
    · rw [if_neg hin] at this ⊢; exact this.symm
  · have := h.ins k
    by_cases hin : k ∈ N.keys .i
    · rw [if_pos hin] at this ⊢; exact this
    · rw [if_neg hin] at this ⊢; exact this.symm
theorem NetIn.shape {w : World} {base c : Nat} {N : NetD} (h : NetIn w base c N) (r : RN) : ∃ a cap, N.rows r = .slice a (N.lists r).length cap := by
  rcases (h.own r).2 with ⟨e, e2⟩ | ⟨g, cap, cur, e, _⟩
  · exact ⟨none, 0, by rw [e, e2]⟩
  · exact ⟨_, _, e⟩

/-- The blocks of a net that may turn: its own, its maps, its rows of numbers. -/
def NetR (N : NetD) : Nat → Prop := fun x => x = N.nb ∨ (∃ j, x = N.mb j) ∨ ∃ r, (N.rows r).ownBlock = some x
theorem NetR.lt {w : World} {base c : Nat} {N : NetD} (h : NetIn w base c N) {x : Nat} (hx : NetR N x) : base ≤ x ∧ x < w.heap.size := by
  rcases hx with rfl | ⟨j, rfl⟩ | ⟨r, hx⟩
  · exact ⟨h.lo, h.nb_lt⟩
  · exact ⟨h.mlo j, (h.maps j).lt⟩
  · exact h.row_lt r hx
/-- From one net to the next: nothing but its own blocks turned, and what is its own then was so, or is new. -/
structure NStep (w : World) (N : NetD) (w' : World) (N' : NetD) : Prop where
  chg : Chg (NetR N) w w'
  own : ∀ x, NetR N' x → NetR N x ∨ w.heap.size ≤ x
theorem NStep.refl (w : World) (N : NetD) : NStep w N w N := ⟨Chg.refl _ _, fun _ h => .inl h⟩
theorem NStep.ext {w w' : World} (N : NetD) (e : Ext w w') : NStep w N w' N := ⟨Chg.of_ext e, fun _ h => .inl h⟩
theorem NStep.trans {a b c : World} {M N O : NetD} (h : NStep a M b N) (k : NStep b N c O) : NStep a M c O := by
  refine ⟨⟨k.chg.os.trans h.chg.os, k.chg.tape.trans h.chg.tape, k.chg.output.trans h.chg.output, Nat.le_trans h.chg.size k.chg.size, fun i hi ho => ?_⟩, fun x hx => ?_⟩
  · rw [k.chg.block i (Nat.lt_of_lt_of_le hi h.chg.size) (fun hn => (h.own i hn).elim ho (fun h2 => by omega))]
    exact h.chg.block i hi ho
  · rcases k.own x hx with h1 | h1
    · exact h.own x h1
    · exact .inr (Nat.le_trans h.chg.size h1)
theorem NStep.toExt {a b c : World} {N O : NetD} (h : Ext a b) (k : NStep b N c O) (hl : ∀ x, NetR N x → a.heap.size ≤ x) : Ext a c := k.chg.toExt h hl
theorem NetR.push {N : NetD} {r : RN} {v' : Value} {y : Int} {m x : Nat} (hv : ∀ x, v'.ownBlock = some x → (N.rows r).ownBlock = some x ∨ m ≤ x) (h : NetR (N.push r v' y) x) : NetR N x ∨ m ≤ x := by
  rcases h with h | ⟨j, h⟩ | ⟨q, h⟩
  · exact .inl (.inl h)
  · exact .inl (.inr (.inl ⟨j, h⟩))
  · change (upd N.rows r v' q).ownBlock = some x at h
    by_cases hq : q = r
    · subst hq
      rw [upd_same] at h
      exact (hv x h).elim (fun h2 => .inl (.inr (.inr ⟨q, h2⟩))) .inr
    · rw [upd_other _ _ _ hq] at h
      exact .inl (.inr (.inr ⟨q, h⟩))
theorem NetR.put {N : NetD} {j : MI} {k : Int} {v : Value} {x : Nat} (h : NetR (N.put j k v) x) : NetR N x := h

/-- 'm[k] = append(m[k], x)' of a map of rows, whole. -/
theorem NetIn.grows {W w5 : World} {base c : Nat} {N : NetD} (h : NetIn W base c N) (j : MI) (hj : j = .o ∨ j = .i) {k x : Int} (hk : (Lit.int .i64 k).wf = true) {u : Value} (hu : N.rows (ownRow j k) = u) {obj : Obj} {g cap : Nat}
    (hown : w5.ownsRow base 3 1 (.slice (some ⟨g, 0, none⟩) ((N.lists (ownRow j k)).length + 1) cap) ((N.lists (ownRow j k)).length + 1) ((N.lists (ownRow j k)).map (Value.int .i64) ++ [.int .i64 x])) (hg : (W.alloc obj).grownBy w5 u.ownBlock) (hat : u.ownBlock = some g ∨ g = (W.alloc obj).heap.size) :
    ∃ o, (Instr.mapUpdate 66 (.map (some (N.mb j))) (.int .i64 k) (.slice (some ⟨g, 0, none⟩) ((N.lists (ownRow j k)).length + 1) cap)).run Tryz.prog w5 = .ok () (setBlock w5 (N.mb j) o) ∧
      NetIn (setBlock w5 (N.mb j) o) base (c + 1) ((N.push (ownRow j k) (.slice (some ⟨g, 0, none⟩) ((N.lists (ownRow j k)).length + 1) cap) x).put j k (.slice (some ⟨g, 0, none⟩) ((N.lists (ownRow j k)).length + 1) cap)) ∧
      NStep W N (setBlock w5 (N.mb j) o) ((N.push (ownRow j k) (.slice (some ⟨g, 0, none⟩) ((N.lists (ownRow j k)).length + 1) cap) x).put j k (.slice (some ⟨g, 0, none⟩) ((N.lists (ownRow j k)).length + 1) cap)) ∧ ∀ b, b ≠ N.mb j → (setBlock w5 (N.mb j) o).heap[b]? = w5.heap[b]? := by
  subst hu
  have hA : NetIn (W.alloc obj) base c N := h.ext ((Ext.refl _).alloc _)
  have hm5 : MapF w5 (N.mb j) (N.keys j) (N.val j) := (hA.maps j).block (hg.block _ (hA.maps j).lt (fun e => hA.row_mb _ j e.symm rfl))
  obtain ⟨o, hput, hM, hsz, hoth⟩ := hm5.put Tryz.underlying66 hk (.slice (some ⟨g, 0, none⟩) ((N.lists (ownRow j k)).length + 1) cap)
  have hloc : (Value.slice (some ⟨g, 0, none⟩) ((N.lists (ownRow j k)).length + 1) cap).ownBlock = (N.rows (ownRow j k)).ownBlock ∨ (Value.slice (some ⟨g, 0, none⟩) ((N.lists (ownRow j k)).length + 1) cap).ownBlock = some (W.alloc obj).heap.size := by
    rcases hat with e | e
    · exact .inl e.symm
    · exact .inr (by rw [← e]; rfl)
  refine ⟨o, hput, hA.grow j hj hown hg hloc hM hoth, ⟨?_, fun y hy => NetR.push (fun z hz => ?_) (NetR.put hy)⟩, hoth⟩
  · exact ((Chg.of_ext ((Ext.refl W).alloc obj)).grown hg (fun b hb => .inr (.inr ⟨_, hb⟩))).setBlock (.inr (.inl ⟨j, rfl⟩)) o hoth
  · rcases hloc with e | e
    · rw [e] at hz; exact .inl hz
    · rw [e] at hz; cases hz; exact .inr (by simp)
end Go.Proofs.YtbhmblkappmfjaaGreat
