/- What impl.RulesOk answers. -/
import Derived.Test.YtbapbcdkmhkigaaRulSpec
import Derived.DeepKeys4
import Derived.WideKeyEntry
import Derived.BigRegion
import Derived.ProofKit
namespace Go.Proofs.Ytbapbcdkmhkigaa
open Go.RowKit Go.Deep
open Go.WideMaps (KeyLaw)
open Go.ChangeMaps (setBlock heap_setBlock_same)

theorem Try.laidOut : laidOutB Try.prog = true := by kernel_rfl
theorem Try.rowR : 45 < Try.prog.types.size := of_decide_eq_true (by kernel_rfl)
theorem Try.wideR : (match Try.prog.underlying 45 with | some (.array _ _) | some (.struct _) => true | _ => false) = true := by kernel_rfl
theorem Try.lawR : KeyLaw Try.prog 45 := deep_law_laid Try.laidOut (m := 3) (by omega) Try.rowR (by kernel_rfl) Try.wideR
theorem Try.ktR : Try.prog.keyType 45 = true := by kernel_rfl
theorem Try.cellsS : Try.prog.cellsOf 9 = 1 := by kernel_rfl
theorem Try.cellsR : Try.prog.cellsOf 45 = 2 := by kernel_rfl
theorem lits_str (d : Nat) (x : ByteArray) (hx : x.size ≤ maxLen) : Try.prog.keyLits (d + 1) 9 [.string x] = some [.string x.data.toList] := by
  unfold Program.keyLits
  rw [Try.underlying9]
  exact if_pos hx
theorem lits_rule (d : Nat) (x y : ByteArray) (hx : x.size ≤ maxLen) (hy : y.size ≤ maxLen) : Try.prog.keyLits (d + 2) 45 [.string x, .string y] = some [.string x.data.toList, .string y.data.toList] := by
  unfold Program.keyLits
  rw [Try.underlying45]
  show (if _ then _ else _) = _
  rw [if_pos ⟨by rw [Try.cellsR]; rfl, by kernel_rfl⟩]
  simp only [List.mapM_cons, List.mapM_nil, Try.cellsS, List.drop, List.take]
  rw [lits_str d x hx, lits_str d y hy]
  rfl
theorem key_ok (x y : ByteArray) (hx : x.size ≤ maxLen) (hy : y.size ≤ maxLen) : ∃ l, keyOf Try.prog 45 (.agg #[.string x, .string y]) = some l := by
  have hf : (Value.agg #[.string x, .string y]).formed Try.prog 45 = true := by kernel_rfl
  obtain ⟨m, hm⟩ : ∃ m, Try.prog.types.size + 1 = m + 2 := ⟨Try.prog.types.size - 1, by have := Try.rowR; omega⟩
  have hl := lits_rule m x y hx hy
  rw [← hm] at hl
  unfold keyOf
  rw [Try.underlying45]
  have hkf : (Try.prog.keyType 45 && (Value.agg #[.string x, .string y]).formed Try.prog 45) = true := by rw [Try.ktR, hf]; rfl
  dsimp only
  rw [if_pos hkf]
  have hc : (Value.agg #[.string x, .string y]).cells.toList = [.string x, .string y] := rfl
  rw [hc, hl]
  exact ⟨_, rfl⟩

def agR (r : RulT) : Value := .agg #[.string r.1, .string r.2]
theorem agR_inj {a b : RulT} (h : agR a = agR b) : a = b := by
  unfold agR at h
  cases a; cases b
  simpa using h
def entR (xs : List RulT) (i : Nat) : MapEntry := ⟨agR (nameAt xs i), .int .i64 1, i⟩

/-- Block B of w is the map of the first k rules, each with one, in their order. -/
def SeenIn (w : World) (B : Nat) (xs : List RulT) (k : Nat) : Prop :=
  ∃ es : Array MapEntry, w.heap[B]? = some (.map es k) ∧ es.toList = (List.range k).map (entR xs)

def Short (xs : List RulT) : Prop := ∀ k, k < xs.length → (nameAt xs k).1.size ≤ maxLen ∧ (nameAt xs k).2.size ≤ maxLen

theorem eqR_true {a b : RulT} (h : eqR a b = true) : a = b := by
  unfold eqR at h
  simp only [Bool.and_eq_true, beq_iff_eq, ByteArray.toList_eq] at h
  have e : ∀ x y : ByteArray, x.data.toList = y.data.toList → x = y := fun x y h => WideShapes.bytes_inj h
  cases a; cases b
  simp only [Prod.mk.injEq]
  exact ⟨e _ _ h.1, e _ _ h.2⟩
theorem eqR_self (a : RulT) : eqR a a = true := by simp [eqR]

theorem find_seen (w : World) (xs : List RulT) (k : Nat) (hk : k < xs.length) (hx : Short xs) (es : List MapEntry) (hes : es = (List.range k).map (entR xs)) :
    (newK xs k = true → (Instr.findKey 45 (agR (nameAt xs k)) es).run Try.prog w = .ok none w) ∧
    (newK xs k = false → ∃ j, (Instr.findKey 45 (agR (nameAt xs k)) es).run Try.prog w = .ok (some (j, .int .i64 1)) w) := by
  obtain ⟨l, hkey⟩ := key_ok (nameAt xs k).1 (nameAt xs k).2 (hx k hk).1 (hx k hk).2
  have hkeys : ∀ e ∈ es, ∃ l, keyOf Try.prog 45 e.key = some l := by
    intro e he
    subst hes
    obtain ⟨i, hi, rfl⟩ := List.mem_map.1 he
    have := List.mem_range.1 hi
    exact key_ok _ _ (hx i (by omega)).1 (hx i (by omega)).2
  have hmem : ∀ e, e ∈ es ↔ ∃ i, i < k ∧ entR xs i = e := by
    intro e; subst hes; simp
  rcases Try.lawR.find w hkey es hkeys with ⟨h1, h2⟩ | ⟨j, e, h1, h2, h3⟩
  · refine ⟨fun _ => h1, fun hf => ?_⟩
    exfalso
    unfold newK at hf
    rw [List.all_eq_false] at hf
    obtain ⟨i, hi, he⟩ := hf
    have he2 : eqR (nameAt xs i) (nameAt xs k) = true := by simpa using he
    refine h2 (entR xs i) ((hmem _).2 ⟨i, List.mem_range.1 hi, rfl⟩) ?_
    show agR (nameAt xs i) = agR (nameAt xs k)
    rw [eqR_true he2]
  · obtain ⟨i, hi, rfl⟩ := (hmem e).1 (List.mem_of_getElem? h2)
    have hse : nameAt xs i = nameAt xs k := agR_inj h3
    refine ⟨fun ht => ?_, fun _ => ⟨j, h1⟩⟩
    exfalso
    unfold newK at ht
    rw [List.all_eq_true] at ht
    have := ht i (List.mem_range.2 hi)
    rw [hse, eqR_self] at this
    cases this

theorem look_seen (w : World) (B : Nat) (xs : List RulT) (k : Nat) (hk : k < xs.length) (hx : Short xs) (hS : SeenIn w B xs k) :
    (Instr.lookup 57 (.map (some B)) (.agg #[.string (nameAt xs k).1, .string (nameAt xs k).2]) false).run Try.prog w = .ok (.int .i64 (if newK xs k then 0 else 1)) w := by
  obtain ⟨es, hb, hes⟩ := hS
  obtain ⟨l, hkey⟩ := key_ok (nameAt xs k).1 (nameAt xs k).2 (hx k hk).1 (hx k hk).2
  obtain ⟨f1, f2⟩ := find_seen w xs k hk hx es.toList hes
  have hu := run_underlying (P := Try.prog) (w := w) Try.underlying57
  have hc := Try.lawR.check w es.isEmpty hkey
  cases hn : newK xs k
  · obtain ⟨j, hj⟩ := f2 hn
    unfold agR at hj
    simp [Instr.lookup, hu, MapKept.run_getObj_map hb, hc, hj, Result.andThen]
  · have hj := f1 hn
    unfold agR at hj
    simp [Instr.lookup, hu, MapKept.run_getObj_map hb, hc, hj, Result.andThen]
set_option maxRecDepth 100000 in

theorem enter_seen (w W : World) (xs : List RulT) (k : Nat) (hk : k < xs.length) (hx : Short xs) (hS : SeenIn W w.heap.size xs k) (hn : newK xs k = true) (hE : Ext w W) :
    ∃ V2 V3, (Instr.mapEntry 57 (.map (some w.heap.size)) (.agg #[.string (nameAt xs k).1, .string (nameAt xs k).2])).run Try.prog W = .ok (.tuple #[.int .i64 0, .int .i64 (k : Int)]) V2 ∧
      (Instr.lookup 57 (.map (some w.heap.size)) (.agg #[.string (nameAt xs k).1, .string (nameAt xs k).2]) false).run Try.prog V2 = .ok (.int .i64 0) V2 ∧
      (Instr.entryStore 57 (.map (some w.heap.size)) (.int .i64 (k : Int)) (.int .i64 1)).run Try.prog V2 = .ok () V3 ∧
      SeenIn V3 w.heap.size xs (k + 1) ∧ Ext w V3 := by
  obtain ⟨es, hb, hes⟩ := hS
  obtain ⟨l, hkey⟩ := key_ok (nameAt xs k).1 (nameAt xs k).2 (hx k hk).1 (hx k hk).2
  obtain ⟨f1, _⟩ := find_seen W xs k hk hx es.toList hes
  have hj := f1 hn
  unfold agR at hj
  have hu := fun u : World => run_underlying (P := Try.prog) (w := u) Try.underlying57
  have hsz : es.size = k := by rw [← Array.length_toList, hes]; simp
  refine ⟨setBlock W w.heap.size (.map (es.push ⟨.agg #[.string (nameAt xs k).1, .string (nameAt xs k).2], .int .i64 0, k⟩) (k + 1)), setBlock W w.heap.size (.map (es.push ⟨.agg #[.string (nameAt xs k).1, .string (nameAt xs k).2], .int .i64 1, k⟩) (k + 1)), ?_, ?_, ?_, ?_, ?_⟩
  · simp [Instr.mapEntry, hu, MapKept.run_getObj_map hb, Try.lawR.check W false hkey, hj, MapKept.run_setObj_map _ hb, Result.andThen, setBlock, goInt]
  · have hb2 : (setBlock W w.heap.size (.map (es.push ⟨.agg #[.string (nameAt xs k).1, .string (nameAt xs k).2], .int .i64 0, k⟩) (k + 1))).heap[w.heap.size]? = some (.map (es.push ⟨.agg #[.string (nameAt xs k).1, .string (nameAt xs k).2], .int .i64 0, k⟩) (k + 1)) := heap_setBlock_same hb _
    generalize setBlock W w.heap.size (.map (es.push ⟨.agg #[.string (nameAt xs k).1, .string (nameAt xs k).2], .int .i64 0, k⟩) (k + 1)) = V2 at hb2 ⊢
    have hkeys : ∀ e ∈ es.toList, ∃ l, keyOf Try.prog 45 e.key = some l := by
      intro e he
      rw [hes] at he
      obtain ⟨i, hi, rfl⟩ := List.mem_map.1 he
      have := List.mem_range.1 hi
      exact key_ok _ _ (hx i (by omega)).1 (hx i (by omega)).2
    have hne : ∀ e ∈ es.toList, e.key ≠ .agg #[.string (nameAt xs k).1, .string (nameAt xs k).2] := by
      rcases Try.lawR.find W hkey es.toList hkeys with ⟨_, h2⟩ | ⟨j, e, h1, _, _⟩
      · exact h2
      · rw [hj] at h1; cases h1
    have hkeys2 : ∀ e ∈ (es.push ⟨.agg #[.string (nameAt xs k).1, .string (nameAt xs k).2], .int .i64 0, k⟩).toList, ∃ l, keyOf Try.prog 45 e.key = some l := by
      intro e he
      simp only [Array.toList_push, List.mem_append, List.mem_singleton] at he
      rcases he with he | rfl
      · exact hkeys e he
      · exact ⟨l, hkey⟩
    rcases Try.lawR.find V2 hkey _ hkeys2 with ⟨_, h2⟩ | ⟨j, e, h1, h2, h3⟩
    · exact absurd rfl (h2 ⟨.agg #[.string (nameAt xs k).1, .string (nameAt xs k).2], .int .i64 0, k⟩ (by simp))
    · have he := List.mem_of_getElem? h2
      simp only [Array.toList_push, List.mem_append, List.mem_singleton] at he
      rcases he with he | rfl
      · exact absurd h3 (hne e he)
      · have hc := fun em => Try.lawR.check V2 em hkey
        dsimp only at h1
        clear h2 h3 hkeys2 hkeys hne
        generalize es.push ⟨.agg #[.string (nameAt xs k).1, .string (nameAt xs k).2], .int .i64 0, k⟩ = es2 at h1 hb2
        simp [Instr.lookup, hu, MapKept.run_getObj_map hb2, hc, h1, Result.andThen]
  · have hb2 : (setBlock W w.heap.size (.map (es.push ⟨.agg #[.string (nameAt xs k).1, .string (nameAt xs k).2], .int .i64 0, k⟩) (k + 1))).heap[w.heap.size]? = some (.map (es.push ⟨.agg #[.string (nameAt xs k).1, .string (nameAt xs k).2], .int .i64 0, k⟩) (k + 1)) := heap_setBlock_same hb _
    have hidx : (es.push ⟨.agg #[.string (nameAt xs k).1, .string (nameAt xs k).2], .int .i64 0, k⟩).findIdx? (fun e => ((e.born : Nat) : Int) == ((k : Nat) : Int)) = some es.size := by
      rw [WideElems.findIdx_arr]
      refine WideElems.findIdx_born (l := (es.push ⟨.agg #[.string (nameAt xs k).1, .string (nameAt xs k).2], .int .i64 0, k⟩).toList) (j := es.size) (e0 := ⟨.agg #[.string (nameAt xs k).1, .string (nameAt xs k).2], .int .i64 0, k⟩) ?_ (by simp)
      simp only [Array.toList_push, List.map_append, List.map_cons, List.map_nil, hes, List.map_map]
      have e1 : (List.range k).map ((fun x : MapEntry => x.born) ∘ entR xs) ++ [k] = List.range (k + 1) := by
        rw [List.range_succ]
        congr 1
        exact List.map_id' _
      rw [e1]
      exact List.nodup_range
    have hmod : (es.push ⟨.agg #[.string (nameAt xs k).1, .string (nameAt xs k).2], .int .i64 0, k⟩).modify es.size (fun e => { e with val := .int .i64 1 }) = es.push ⟨.agg #[.string (nameAt xs k).1, .string (nameAt xs k).2], .int .i64 1, k⟩ := by
      apply Array.ext'
      rw [Array.toList_modify, Array.toList_push, Array.toList_push, ← Array.length_toList, WideElems.modify_last]
    have hcol : setBlock (setBlock W w.heap.size (.map (es.push ⟨.agg #[.string (nameAt xs k).1, .string (nameAt xs k).2], .int .i64 0, k⟩) (k + 1))) w.heap.size (.map (es.push ⟨.agg #[.string (nameAt xs k).1, .string (nameAt xs k).2], .int .i64 1, k⟩) (k + 1)) = setBlock W w.heap.size (.map (es.push ⟨.agg #[.string (nameAt xs k).1, .string (nameAt xs k).2], .int .i64 1, k⟩) (k + 1)) := by simp [setBlock]
    rw [← hcol]
    generalize setBlock W w.heap.size (.map (es.push ⟨.agg #[.string (nameAt xs k).1, .string (nameAt xs k).2], .int .i64 0, k⟩) (k + 1)) = V2 at hb2 ⊢
    rw [← hmod]
    generalize es.push ⟨.agg #[.string (nameAt xs k).1, .string (nameAt xs k).2], .int .i64 0, k⟩ = es2 at hb2 hidx ⊢
    simp [Instr.entryStore, MapKept.run_getObj_map hb2, asInt, asIntOf, hidx, MapKept.run_setObj_map _ hb2, Result.andThen, setBlock]
  · exact ⟨_, heap_setBlock_same hb _, by simp [hes, List.range_succ, entR, agR]⟩
  · exact ⟨hE.os, hE.tape, hE.output, Nat.le_trans hE.size (by simp [setBlock]), fun i hi => by rw [ChangeMaps.heap_setBlock_other hb _ (by omega)]; exact hE.block i hi⟩

set_option maxRecDepth 100000 in
set_option maxHeartbeats 1000000 in
theorem implRulesOk_any (v : Value) (xs : List RulT) (w : World) (hv : RulIn w v xs) :
    Calls Try.prog 16 #[v] w fun e w' => e = .returned (.bool (rulesB xs)) ∧ Ext w w' := by
  obtain ⟨a, cap, rfl, hm, hin⟩ := hv
  have hx : Short xs := fun k hk => ⟨(hin k hk).1, (hin k hk).2.1⟩
  unfold maxLen at hm
  by_cases h3 : 3 < xs.length
  · go_enter Try.func16, Try.ntmps16
    go_wp2
    go_ret
    have : decide (xs.length ≤ 3) = false := decide_eq_false (by omega)
    exact ⟨ret_bool (by simp [rulesB, this]), Ext.refl _⟩
  · have hmm := @run_makeMap Try.prog
    go_enter Try.func16, Try.ntmps16
    go_wp2
    clear hmm
    generalize hW1 : w.alloc _ = W1
    have hs0 : SeenIn W1 w.heap.size xs 0 := by subst hW1; exact ⟨#[], blk_alloc_new _ _, rfl⟩
    have hg : Ext w W1 := by subst hW1; exact (Ext.refl _).alloc _
    clear hW1
    go_loopw [12] (fun i wr => ∃ k : Nat, k ≤ xs.length ∧ i = .int .i64 k ∧ Ext w wr ∧ SeenIn wr w.heap.size xs k ∧ ∀ j, j < k → okK xs j = true) (fun i _ => xs.length - (intOf i).toNat)
    case atStart => exact ⟨0, Nat.zero_le _, rfl, hg, hs0, fun j h => by omega⟩
    case round =>
      obtain ⟨k, hk, rfl, hE, hS, hno⟩ := hrel
      by_cases hlt : k < xs.length
      · obtain ⟨s1, s2, b, off, rfl, hb, c1, c2⟩ := hin k hlt
        rw [← hE.cell hb] at c1 c2
        cases hn1 : nameB (nameAt xs k).1
        · have hfin : Hid (rulesB xs = false) := rules_no xs k hlt (by simp [okK, namesK, hn1])
          go_wp2_with (go_at_call 31; refine (implNameOk_any _ _ s1).mono ?_; rintro e w' ⟨rfl, rfl⟩)
          go_ret
          exact ⟨ret_bool hfin.out.symm, hE.alloc _⟩
        · cases hn2 : nameB (nameAt xs k).2
          · have hfin : Hid (rulesB xs = false) := rules_no xs k hlt (by simp [okK, namesK, hn2])
            go_wp2_with fail
            refine (implNameOk_any _ _ s1).mono ?_; rintro e w' ⟨rfl, rfl⟩
            go_wp2_with fail
            refine (implNameOk_any _ _ s2).mono ?_; rintro e w' ⟨rfl, rfl⟩
            go_wp2
            go_ret
            exact ⟨ret_bool hfin.out.symm, hE.alloc _⟩
          · go_wp2_with fail
            refine (implNameOk_any _ _ s1).mono ?_; rintro e w' ⟨rfl, rfl⟩
            go_wp2_with fail
            refine (implNameOk_any _ _ s2).mono ?_; rintro e w' ⟨rfl, rfl⟩
            have hS1 : SeenIn (wr.alloc (.cells #[.string (nameAt xs k).1, .string (nameAt xs k).2] 45)) w.heap.size xs k := by
              obtain ⟨es, hb1, hes⟩ := hS
              exact ⟨es, by rw [blk_alloc_lt _ _ _ (lt_of_block hb1)]; exact hb1, hes⟩
            have hl1 := look_seen _ _ xs k hlt hx hS1
            cases hnew : newK xs k
            · have hfin : Hid (rulesB xs = false) := rules_no xs k hlt (by simp [okK, hnew])
              rw [hnew] at hl1
              go_wp2
              go_ret
              exact ⟨ret_bool hfin.out.symm, hE.alloc _⟩
            · rw [hnew] at hl1
              go_wp2_with fail
              have hl2 := look_seen (wr.alloc (.cells #[.string (nameAt xs k).1, .string (nameAt xs k).2] 45)).drew w.heap.size xs k hlt hx hS1
              rw [hnew] at hl2
              obtain ⟨V2, V3, hme, hl3, hst, hS3, hE3⟩ := enter_seen w (wr.alloc (.cells #[.string (nameAt xs k).1, .string (nameAt xs k).2] 45)).drew xs k hlt hx hS1 hnew (hE.alloc _).drew
              go_region
              all_goals
                go_wp2
                go_roundw
                case rel =>
                  refine ⟨k + 1, by omega, by go_num, hE3, hS3, fun i hi => ?_⟩
                  rcases Nat.lt_succ_iff_lt_or_eq.1 hi with h' | h'
                  · exact hno i h'
                  · subst h'; simp [okK, namesK, hn1, hn2, hnew]
                case measure => simp [intOf]; omega
      · go_wp2
        go_ret
        refine ⟨ret_bool ?_, hE⟩
        have h1 : (List.range xs.length).all (okK xs) = true := by
          rw [List.all_eq_true]
          intro j hj
          exact hno j (by have := List.mem_range.1 hj; omega)
        have h2 : decide (xs.length ≤ 3) = true := decide_eq_true (by omega)
        simp [rulesB, h1, h2]
end Go.Proofs.Ytbapbcdkmhkigaa
