/- Rows of numbers: appended whole, sorted, each kept once. -/
import Derived.Test.YtdnigcndjmmkcaaGreatNetPut
import Derived.Test.YtdnigcndjmmkcaaGreatLay
import Derived.Shelf.Sort.Plain
import Derived.Shelf.Slices.In.SortNone
import Derived.Shelf.Slices.CompactI
import Derived.Sort.OwnSortedInts
import Derived.Lib.OwnBridge
namespace Go.Proofs.YtdnigcndjmmkcaaGreat
open Go.RowKit Go.Deep

theorem ownI_shape {w : World} {base n : Nat} {v : Value} {xs : List Value} (h : w.ownsRow base 3 1 v n xs) : ∃ a c, v = .slice a n c ∧ n ≤ c := by
  rcases h.2 with ⟨rfl, rfl⟩ | ⟨g, cap, cur, rfl, _, _, hn, _⟩
  · exact ⟨_, _, rfl, Nat.le_refl _⟩
  · exact ⟨_, _, rfl, hn⟩
theorem run_append_ints {base B0 : Nat} (w : World) {l m : List Int} {u v : Value} (hu : w.ownsRow base 3 1 u l.length (l.map (Value.int .i64))) (hv : w.ownsRow B0 3 1 v m.length (m.map (Value.int .i64))) (hl : l.length ≤ 1000) (hm : m.length ≤ 1000) (hb : B0 ≤ w.heap.size) (ty : TypeId) :
    ∃ a c w', (Builtin.append_ #[70, 70] ty #[v, u]).run Tryz.prog w = .ok (.slice a (m ++ l).length c) w' ∧ w'.ownsRow B0 3 1 (.slice a (m ++ l).length c) (m ++ l).length ((m ++ l).map (Value.int .i64)) ∧ w.grownBy w' v.ownBlock := by
  obtain ⟨i0, hi, hz0, hz1, hz2⟩ := info_parts Tryz.infoI
  rcases hu.2 with ⟨rfl, h0⟩ | ⟨g, cap, cur, rfl, _, hg, _⟩
  · have hl0 : l = [] := List.length_eq_zero_iff.1 h0
    subst hl0
    obtain ⟨a, c, rfl, hmc⟩ := ownI_shape hv
    rw [List.append_nil]
    refine ⟨a, c, w, ?_, hv, ⟨rfl, rfl, rfl, Nat.le_refl _, fun _ _ _ => rfl⟩⟩
    simp [Builtin.append_, run_underlying Tryz.underlying70, sizeOf, typeInfo, hi, Builtin.lenOf, Builtin.firstCells, loadCells]
    cases a <;> simp [storeCells, hmc]
  · obtain ⟨v', w', hr, h1, h2, _, h4⟩ := run_append_own_at (P := Tryz.prog) w B0 70 ty 3 i0 _ 1 8 Tryz.underlying70 hi hz0 hz1 hz2 rfl (by decide) v m.length (m.map (Value.int .i64)) hv ⟨g, 0, none⟩ l.length cap (l.map (Value.int .i64)) (by simp) (fun j u hj => hu.cells (g := g) rfl j u hj) (by
      intro u hu
      obtain ⟨o, _, rfl⟩ := List.mem_map.1 hu
      rfl) (by unfold maxLen; omega) (by omega) hb
    rw [← List.map_append, ← List.length_append] at h1
    obtain ⟨a, c, rfl, _⟩ := ownI_shape h1
    exact ⟨a, c, w', hr, h1, h2⟩
/-- An append whose end is known, at the walk. -/
theorem wpList_append_ran {ops : Array Oper} {rest : List Oper} {o : Oper} {a : Act} {Q : Exit → Act → World → Prop} (w : World) (hgd : o.guard = none) (s x : Operand) (ho : o.op = .call { callee := .builtin .append, args := #[s, x], argTypes := #[70, 70] }) {v u r : Value} {w' : World}
    (hr : (Builtin.append_ #[70, 70] o.type #[v, u]).run Tryz.prog w = .ok r w') (hs : a.eval s = v) (hx : a.eval x = u) (h : wpList Tryz.prog ops Q rest (a.put o.dst r) w') : wpList Tryz.prog ops Q (o :: rest) a w := by
  refine wpList_plain hgd fun K hK => ?_
  unfold Oper.wp execOp
  simp only [ho, resolve, invoke, builtin, Sem.run_bind, Sem.run_pure, Result.andThen_ok, List.map_toArray, List.map_cons, List.map_nil, hs, hx, hr]
  exact hK _ _ h
def sorted (l : List Int) : List Int := l.mergeSort fun x y => decide (x ≤ y)
theorem sorted_len (l : List Int) : (sorted l).length = l.length := by simp [sorted]
theorem sort_any {base : Nat} (w : World) {l : List Int} {u : Value} (hu : w.ownsRow base 3 1 u l.length (l.map (Value.int .i64))) (hl : l.length ≤ 1000) :
    Calls Tryz.prog 71 #[u] w fun e w' => e = .returned (.tuple #[]) ∧ w'.ownsRow base 3 1 u (sorted l).length ((sorted l).map (Value.int .i64)) ∧ w.grownBy w' u.ownBlock := by
  rcases hu.2 with ⟨rfl, h0⟩ | ⟨g, cap, cur, rfl, hbg, hg, hn, hm, hs, ht⟩
  · have hl0 : l = [] := List.length_eq_zero_iff.1 h0
    subst hl0
    have h := Any.slices_Sort_int_none (P := Tryz.prog) { Tryz.lays189 with } none 0 w
    change Calls Tryz.prog 71 _ _ _ at h
    refine h.mono ?_
    rintro e w' ⟨rfl, rfl⟩
    exact ⟨rfl, by simpa [sorted] using hu, ⟨rfl, rfl, rfl, Nat.le_refl _, fun _ _ _ => rfl⟩⟩
  · have hglt : g < w.heap.size := lt_of_block hg
    have hH := holds_of_blockI (w := w) (g := g) (ss := l) hg (by simpa using ht)
    have h := Any.slices_Sort_int (P := Tryz.prog) { Tryz.lays189 with } g 0 cap l w hH hglt (by omega)
    change Calls Tryz.prog 71 _ _ _ at h
    refine h.mono ?_
    rintro e w' ⟨rfl, n, os, rfl⟩
    refine ⟨rfl, ?_, grownBy_sortedI _⟩
    have := ownsRow_sortedI (w := w) (base := base) (n := n) (os := os) (ss := l) (ts := sorted l) (sorted_len l) hbg hg hn hm hs
    rw [sorted_len]
    exact this
theorem compact_len (l : List Int) : (Lib.compact l).length ≤ l.length := by
  unfold Lib.compact Lib.compactUpTo
  rw [List.length_map]
  exact Nat.le_trans (List.length_filter_le _ _) (by simp)
theorem compact_any {base : Nat} (w : World) {l : List Int} {u : Value} (hu : w.ownsRow base 3 1 u l.length (l.map (Value.int .i64))) (hl : l.length ≤ 1000) :
    Calls Tryz.prog 72 #[u] w fun e w' => ∃ a c, e = .returned (.slice a (Lib.compact l).length c) ∧ w'.ownsRow base 3 1 (.slice a (Lib.compact l).length c) (Lib.compact l).length ((Lib.compact l).map (Value.int .i64)) ∧ w.grownBy w' u.ownBlock := by
  rcases hu.2 with ⟨rfl, h0⟩ | ⟨g, cap, cur, rfl, hbg, hg, hn, hm, hs, ht⟩
  · have hl0 : l = [] := List.length_eq_zero_iff.1 h0
    subst hl0
    have h := Any.slices_Compact_int_empty (P := Tryz.prog) Tryz.lays20 none 0 w
    change Calls Tryz.prog 72 _ _ _ at h
    refine h.mono ?_
    rintro e w' ⟨rfl, rfl⟩
    exact ⟨none, 0, rfl, by simpa [Lib.compact, Lib.compactUpTo] using hu, ⟨rfl, rfl, rfl, Nat.le_refl _, fun _ _ _ => rfl⟩⟩
  · have hH := holds_of_blockI (w := w) (g := g) (ss := l) hg (by simpa using ht)
    have h := Any.slices_Compact_int (P := Tryz.prog) Tryz.lays20 g 0 cap l w hH (by omega) hn
    change Calls Tryz.prog 72 _ _ _ at h
    refine h.mono ?_
    rintro e w' ⟨rfl, q, rfl⟩
    have hle := compact_len l
    have hown := Go.Lib.ownsRow_putRow (enc := Value.int .i64) (q := q) hu (ys := Lib.compact l ++ List.replicate (l.length - (Lib.compact l).length) 0) (by simp; omega) hle
    rw [List.take_left'] at hown
    · refine ⟨_, _, rfl, hown, ?_⟩
      have hc : w.grownBy (Sort.putRow (Value.int .i64) (Sort.ahead w q) g 0 (Lib.compact l ++ List.replicate (l.length - (Lib.compact l).length) 0).toArray) (some g) :=
        ⟨rfl, rfl, rfl, by simp [Sort.putRow, Sort.mapBlock, Sort.ahead], fun b _ hn => by
          have hne : g ≠ b := fun e => hn (by rw [e])
          simp [Sort.putRow, Sort.mapBlock, Sort.ahead, Array.getElem?_modify, hne]⟩
      exact hc
    · rfl
end Go.Proofs.YtdnigcndjmmkcaaGreat
