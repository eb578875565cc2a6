/- The map whose keys are two addresses and a number: looking up, and storing what is new. -/
import Derived.Test.YtkngihmfknmnaaaStackMem
namespace Go.Proofs.Ytkngihmfknmnaaa
open Go.RowKit Go.Deep
open Go.ChangeMaps (setBlock heap_setBlock_same)

abbrev Key3 := Addr × Addr × Nat
def kv (k : Key3) : Value := .agg #[.pointer (some k.1), .pointer (some k.2.1), .int .i64 (k.2.2 : Int)]
def Cool3 (w : World) (k : Key3) : Prop := Cool w k.1 ∧ Cool w k.2.1
theorem Cool3.ext {w w' : World} {k : Key3} (h : Cool3 w k) (e : Ext w w') : Cool3 w' k := ⟨h.1.ext e, h.2.ext e⟩
theorem kv_inj {a b : Key3} (h : kv a = kv b) : a = b := by
  obtain ⟨a1, a2, a3⟩ := a
  obtain ⟨b1, b2, b3⟩ := b
  unfold kv at h
  simp only [Value.agg.injEq, Array.mk.injEq, List.cons.injEq, Value.pointer.injEq, Option.some.injEq, Value.int.injEq, and_true, true_and] at h
  obtain ⟨rfl, rfl, h3⟩ := h
  have : a3 = b3 := by omega
  rw [this]

theorem Try.part0 (x y z : Value) (w : World) : (part 58 #[x, y, z] 0).run Try.prog w = .ok x w := by kernel_rfl
theorem Try.part1 (x y z : Value) (w : World) : (part 58 #[x, y, z] 1).run Try.prog w = .ok y w := by kernel_rfl
theorem Try.part2 (x y z : Value) (w : World) : (part 3 #[x, y, z] 2).run Try.prog w = .ok z w := by kernel_rfl
theorem Try.stoodK : Try.prog.stoodInHeld 60 = false := by kernel_rfl

theorem run_equalIn_ptr {w : World} {a b : Addr} (ha : Cool w a) (hb : Cool w b) (d : Nat) : (Op.equalIn (d + 1) 58 (.pointer (some a)) (.pointer (some b))).run Try.prog w = .ok (decide (a = b)) w := by
  simp [Op.equalIn, run_underlying Try.underlying58, run_sameAddr_cool ha hb]

theorem run_equal_key {w : World} {a b : Key3} (ha : Cool3 w a) (hb : Cool3 w b) : (Op.equal 60 (kv a) (kv b)).run Try.prog w = .ok (decide (a = b)) w := by
  obtain ⟨a1, a2, a3⟩ := a
  obtain ⟨b1, b2, b3⟩ := b
  have e1 := run_equalIn_ptr ha.1 hb.1 9998
  have e2 := run_equalIn_ptr ha.2 hb.2 9998
  have e3 := run_equalIn_int (P := Try.prog) w 9998 3 .i64 .i64 (a3 : Int) (b3 : Int) Try.underlying3
  dsimp only at e1 e2
  unfold Op.equal Op.maxDepth kv
  dsimp only
  rw [show (10000 : Nat) = 9999 + 1 from rfl, run_equalIn_struct (P := Try.prog) w 9999 60 _ _ (by kernel_rfl) Try.stoodK]
  have hfs : (Try.prog.fieldsOf 60).toList.map (fun f => (f.name != "_", f.type, f.offset)) = [(true, 58, 0), (true, 58, 1), (true, 3, 2)] := by kernel_rfl
  generalize (Try.prog.fieldsOf 60).toList = fs at hfs
  rcases fs with _ | ⟨f0, _ | ⟨f1, _ | ⟨f2, _ | ⟨f3, fs⟩⟩⟩⟩
  · simp at hfs
  · simp at hfs
  · simp at hfs
  · simp only [List.map_cons, List.map_nil, List.cons.injEq, Prod.mk.injEq, bne_iff_ne, and_true] at hfs
    obtain ⟨⟨n0, t0, o0⟩, ⟨n1, t1, o1⟩, ⟨n2, t2, o2⟩⟩ := hfs
    by_cases h1 : a1 = b1
    · by_cases h2 : a2 = b2
      · by_cases h3 : a3 = b3
        · subst h1 h2 h3
          simp [Op.eqFields, n0, t0, o0, n1, t1, o1, n2, t2, o2, Try.part0, Try.part1, Try.part2, e1, e2, e3]
        · subst h1 h2
          have : ((a3 : Int) == (b3 : Int)) = false := by simp; omega
          rw [this] at e3
          simp [Op.eqFields, n0, t0, o0, n1, t1, o1, n2, t2, o2, Try.part0, Try.part1, Try.part2, e1, e2, e3, h3]
      · subst h1
        rw [decide_eq_false h2] at e2
        simp [Op.eqFields, n0, t0, o0, n1, t1, o1, Try.part0, Try.part1, e1, e2, h2]
    · rw [decide_eq_false h1] at e1
      simp [Op.eqFields, n0, t0, o0, Try.part0, e1, h1]
  · simp at hfs

theorem run_check_key (w : World) (em : Bool) (k : Key3) : (Instr.checkKey em 10000 60 (kv k)).run Try.prog w = .ok () w := by
  kernel_rfl

theorem find_asking {w : World} {k : Key3} (hk : Cool3 w k) : ∀ (es : List MapEntry) (i : Nat) (ks : List Key3), es.map (·.key) = ks.map kv → (∀ x ∈ ks, Cool3 w x) →
    ((Instr.findAsking 60 (kv k) es i).run Try.prog w = .ok none w ∧ k ∉ ks) ∨ ∃ j e, (Instr.findAsking 60 (kv k) es i).run Try.prog w = .ok (some (i + j, e.val)) w ∧ es[j]? = some e ∧ k ∈ ks
  | [], i, ks, h, _ => by
    have : ks = [] := by cases ks with
      | nil => rfl
      | cons a r => simp at h
    subst this
    exact .inl ⟨by simp [Instr.findAsking], by simp⟩
  | e :: es, i, [], h, _ => by simp at h
  | e :: es, i, x :: ks, h, hc => by
    simp only [List.map_cons, List.cons.injEq] at h
    obtain ⟨he, hr⟩ := h
    have hq := run_equal_key hk (hc x (by simp))
    by_cases hx : k = x
    · right
      subst hx
      refine ⟨0, e, ?_, by simp, by simp⟩
      simp [Instr.findAsking, he, hq]
    · rcases find_asking hk es (i + 1) ks hr (fun y hy => hc y (by simp [hy])) with ⟨h1, h2⟩ | ⟨j, e', h1, h2, h3⟩
      · left
        refine ⟨?_, by simp [hx, h2]⟩
        simp [Instr.findAsking, he, hq, hx, h1]
      · right
        refine ⟨j + 1, e', ?_, by simpa using h2, by simp [h3]⟩
        simp [Instr.findAsking, he, hq, hx, h1]
        omega

/-- Block B of w is the map with these keys, one under each. -/
def MetIn (w : World) (B : Nat) (ks : List Key3) : Prop :=
  ∃ (es : Array MapEntry) (c : Nat), w.heap[B]? = some (.map es c) ∧ es.toList.map (·.key) = ks.map kv ∧ (∀ e ∈ es.toList, e.val = .int .i64 1) ∧ ∀ x ∈ ks, Cool3 w x

theorem find_met {w : World} {k : Key3} (hk : Cool3 w k) {es : Array MapEntry} {ks : List Key3} (h1 : es.toList.map (·.key) = ks.map kv) (h2 : ∀ e ∈ es.toList, e.val = .int .i64 1) (h3 : ∀ x ∈ ks, Cool3 w x) :
    (k ∉ ks → (Instr.findKey 60 (kv k) es.toList).run Try.prog w = .ok none w) ∧ (k ∈ ks → ∃ j, (Instr.findKey 60 (kv k) es.toList).run Try.prog w = .ok (some (j, .int .i64 1)) w) := by
  have e := run_findKey_eq (P := Try.prog) w (k := 60) (by kernel_rfl) (kv k) es.toList
  rw [e]
  rcases find_asking hk es.toList 0 ks h1 h3 with ⟨a1, a2⟩ | ⟨j, e, a1, a2, a3⟩
  · exact ⟨fun _ => a1, fun h => absurd h a2⟩
  · exact ⟨fun h => absurd a3 h, fun _ => ⟨0 + j, by rw [a1, h2 e (List.mem_of_getElem? a2)]⟩⟩

theorem look_met {w : World} {B : Nat} {ks : List Key3} (h : MetIn w B ks) {k : Key3} (hk : Cool3 w k) :
    (k ∉ ks → (Instr.lookup 55 (.map (some B)) (kv k) false).run Try.prog w = .ok (.int .i64 0) w) ∧ (k ∈ ks → (Instr.lookup 55 (.map (some B)) (kv k) false).run Try.prog w = .ok (.int .i64 1) w) := by
  obtain ⟨es, c, hb, h1, h2, h3⟩ := h
  obtain ⟨f1, f2⟩ := find_met hk h1 h2 h3
  have hu := run_underlying (P := Try.prog) (w := w) Try.underlying55
  have hc := run_check_key w es.isEmpty k
  refine ⟨fun hn => ?_, fun hy => ?_⟩
  · simp [Instr.lookup, hu, MapKept.run_getObj_map hb, hc, f1 hn, Result.andThen]
  · obtain ⟨j, hj⟩ := f2 hy
    simp [Instr.lookup, hu, MapKept.run_getObj_map hb, hc, hj, Result.andThen]

theorem put_met {w0 w : World} {B : Nat} {ks : List Key3} (h : MetIn w B ks) {k : Key3} (hk : Cool3 w k) (hn : k ∉ ks) (hE : Ext w0 w) (hB : w0.heap.size ≤ B) :
    ∃ w', (Instr.mapUpdate 55 (.map (some B)) (kv k) (.int .i64 1)).run Try.prog w = .ok () w' ∧ MetIn w' B (ks ++ [k]) ∧ Ext w0 w' ∧ w'.heap.size = w.heap.size ∧ (∀ b, b ≠ B → w'.heap[b]? = w.heap[b]?) := by
  obtain ⟨es, c, hb, h1, h2, h3⟩ := h
  obtain ⟨f1, _⟩ := find_met hk h1 h2 h3
  have hu := run_underlying (P := Try.prog) (w := w) Try.underlying55
  have hc := run_check_key w false k
  have hblk : ∀ b, b ≠ B → (ChangeMaps.setBlock w B (.map (es.push ⟨kv k, .int .i64 1, c⟩) (c + 1))).heap[b]? = w.heap[b]? := fun b hb2 => ChangeMaps.heap_setBlock_other hb _ hb2
  have hcool : ∀ x, Cool3 w x → Cool3 (ChangeMaps.setBlock w B (.map (es.push ⟨kv k, .int .i64 1, c⟩) (c + 1))) x := by
    have one : ∀ a, Cool w a → Cool (ChangeMaps.setBlock w B (.map (es.push ⟨kv k, .int .i64 1, c⟩) (c + 1))) a := by
      rintro a ⟨cc, t, f, hh, hf⟩
      have hne : a.block ≠ B := fun h => by rw [h, hb] at hh; cases hh
      exact ⟨cc, t, f, by rw [hblk _ hne]; exact hh, fun o => by rw [World.frozen?_of_block (a := ⟨a.block, o, none⟩) (hblk _ hne)]; exact hf o⟩
    exact fun x hx => ⟨one _ hx.1, one _ hx.2⟩
  refine ⟨_, ?_, ⟨es.push ⟨kv k, .int .i64 1, c⟩, c + 1, heap_setBlock_same hb _, by simp [h1], fun e he => ?_, fun x hx => ?_⟩, ?_, by simp [ChangeMaps.setBlock], hblk⟩
  · simp [Instr.mapUpdate, hu, MapKept.run_getObj_map hb, hc, f1 hn, MapKept.run_setObj_map _ hb, Result.andThen, ChangeMaps.setBlock]
  · simp only [Array.toList_push, List.mem_append, List.mem_singleton] at he
    rcases he with he | rfl
    · exact h2 e he
    · rfl
  · rcases List.mem_append.1 hx with hx | hx
    · exact hcool x (h3 x hx)
    · simp at hx; subst hx; exact hcool _ hk
  · have o1 := Below.os hE
    have o2 := Below.tape hE
    have o3 := Below.output hE
    exact ⟨o1, o2, o3, Nat.le_trans (Below.size hE) (by simp [ChangeMaps.setBlock]), fun i hi => by rw [hblk i (by omega)]; exact Below.block hE i hi⟩
end Go.Proofs.Ytkngihmfknmnaaa
