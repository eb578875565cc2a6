/- Rows of numbers: appended whole, sorted, each kept once. -/
import Derived.Test.YtbhmblkappmfjaaGreatNetD
import Derived.Test.YtbhmblkappmfjaaGreatLay
import Derived.Shelf.Sort.Plain
import Derived.Shelf.Slices.In.SortNone
import Derived.Shelf.Slices.CompactI
import Derived.Sort.OwnSortedInts
import Derived.Lib.OwnBridge
import Derived.Test.YtbhmblkappmfjaaGreatNdX
import Derived.Test.YtbhmblkappmfjaaGreatEdS
namespace Go.Proofs.YtbhmblkappmfjaaGreat
open Go.RowKit Go.Deep

theorem ownI_shape {w : World} {base n : Nat} {v : Value} {xs : List Value} (h : w.ownsRow base 3 1 v n xs) : ∃ a c, v = .slice a n c ∧ n ≤ c := by
  rcases h.2 with ⟨rfl, rfl⟩ | ⟨g, cap, cur, rfl, _, _, hn, _⟩
  · exact ⟨_, _, rfl, Nat.le_refl _⟩
  · exact ⟨_, _, rfl, hn⟩
theorem run_append_ints {base B0 : Nat} (w : World) {l m : List Int} {u v : Value} (hu : w.ownsRow base 3 1 u l.length (l.map (Value.int .i64))) (hv : w.ownsRow B0 3 1 v m.length (m.map (Value.int .i64))) (hl : l.length ≤ 1000) (hm : m.length ≤ 1000) (hb : B0 ≤ w.heap.size) (ty : TypeId) :
    ∃ a c w', (Builtin.append_ #[29, 29] ty #[v, u]).run Tryz.prog w = .ok (.slice a (m ++ l).length c) w' ∧ w'.ownsRow B0 3 1 (.slice a (m ++ l).length c) (m ++ l).length ((m ++ l).map (Value.int .i64)) ∧ w.grownBy w' v.ownBlock := by
  obtain ⟨i0, hi, hz0, hz1, hz2⟩ := info_parts Tryz.infoI
  rcases hu.2 with ⟨rfl, h0⟩ | ⟨g, cap, cur, rfl, _, hg, _⟩
  · have hl0 : l = [] := List.length_eq_zero_iff.1 h0
    subst hl0
    obtain ⟨a, c, rfl, hmc⟩ := ownI_shape hv
    rw [List.append_nil]
    refine ⟨a, c, w, ?_, hv, ⟨rfl, rfl, rfl, Nat.le_refl _, fun _ _ _ => rfl⟩⟩
    simp [Builtin.append_, run_underlying Tryz.underlying29, sizeOf, typeInfo, hi, Builtin.lenOf, Builtin.firstCells, loadCells]
    cases a <;> simp [storeCells, hmc]
  · obtain ⟨v', w', hr, h1, h2, _, h4⟩ := run_append_own_at (P := Tryz.prog) w B0 29 ty 3 i0 _ 1 8 Tryz.underlying29 hi hz0 hz1 hz2 rfl (by decide) v m.length (m.map (Value.int .i64)) hv ⟨g, 0, none⟩ l.length cap (l.map (Value.int .i64)) (by simp) (fun j u hj => hu.cells (g := g) rfl j u hj) (by
      intro u hu
      obtain ⟨o, _, rfl⟩ := List.mem_map.1 hu
      rfl) (by unfold maxLen; omega) (by omega) hb
    rw [← List.map_append, ← List.length_append] at h1
    obtain ⟨a, c, rfl, _⟩ := ownI_shape h1
    exact ⟨a, c, w', hr, h1, h2⟩
/-- An append whose end is known, at the walk. -/
theorem wpList_append_ran {ops : Array Oper} {rest : List Oper} {o : Oper} {a : Act} {Q : Exit → Act → World → Prop} (w : World) (hgd : o.guard = none) (s x : Operand) (ho : o.op = .call { callee := .builtin .append, args := #[s, x], argTypes := #[29, 29] }) {v u r : Value} {w' : World}
    (hr : (Builtin.append_ #[29, 29] o.type #[v, u]).run Tryz.prog w = .ok r w') (hs : a.eval s = v) (hx : a.eval x = u) (h : wpList Tryz.prog ops Q rest (a.put o.dst r) w') : wpList Tryz.prog ops Q (o :: rest) a w := by
  refine wpList_plain hgd fun K hK => ?_
  unfold Oper.wp execOp
  simp only [ho, resolve, invoke, builtin, Sem.run_bind, Sem.run_pure, Result.andThen_ok, List.map_toArray, List.map_cons, List.map_nil, hs, hx, hr]
  exact hK _ _ h
def sorted (l : List Int) : List Int := l.mergeSort fun x y => decide (x ≤ y)
theorem sorted_len (l : List Int) : (sorted l).length = l.length := by simp [sorted]
theorem sort_any {base : Nat} (w : World) {l : List Int} {u : Value} (hu : w.ownsRow base 3 1 u l.length (l.map (Value.int .i64))) (hl : l.length ≤ 1000) :
    Calls Tryz.prog 32 #[u] w fun e w' => e = .returned (.tuple #[]) ∧ w'.ownsRow base 3 1 u (sorted l).length ((sorted l).map (Value.int .i64)) ∧ w.grownBy w' u.ownBlock := by
  rcases hu.2 with ⟨rfl, h0⟩ | ⟨g, cap, cur, rfl, hbg, hg, hn, hm, hs, ht⟩
  · have hl0 : l = [] := List.length_eq_zero_iff.1 h0
    subst hl0
    have h := Any.slices_Sort_int_none (P := Tryz.prog) { Tryz.lays189 with } none 0 w
    change Calls Tryz.prog 32 _ _ _ at h
    refine h.mono ?_
    rintro e w' ⟨rfl, rfl⟩
    exact ⟨rfl, by simpa [sorted] using hu, ⟨rfl, rfl, rfl, Nat.le_refl _, fun _ _ _ => rfl⟩⟩
  · have hglt : g < w.heap.size := lt_of_block hg
    have hH := holds_of_blockI (w := w) (g := g) (ss := l) hg (by simpa using ht)
    have h := Any.slices_Sort_int (P := Tryz.prog) { Tryz.lays189 with } g 0 cap l w hH hglt (by omega)
    change Calls Tryz.prog 32 _ _ _ at h
    refine h.mono ?_
    rintro e w' ⟨rfl, n, os, rfl⟩
    refine ⟨rfl, ?_, grownBy_sortedI _⟩
    have := ownsRow_sortedI (w := w) (base := base) (n := n) (os := os) (ss := l) (ts := sorted l) (sorted_len l) hbg hg hn hm hs
    rw [sorted_len]
    exact this
theorem compact_len (l : List Int) : (Lib.compact l).length ≤ l.length := by
  unfold Lib.compact Lib.compactUpTo
  rw [List.length_map]
  exact Nat.le_trans (List.length_filter_le _ _) (by simp)
theorem compact_any {base : Nat} (w : World) {l : List Int} {u : Value} (hu : w.ownsRow base 3 1 u l.length (l.map (Value.int .i64))) (hl : l.length ≤ 1000) :
    Calls Tryz.prog 33 #[u] w fun e w' => ∃ a c, e = .returned (.slice a (Lib.compact l).length c) ∧ w'.ownsRow base 3 1 (.slice a (Lib.compact l).length c) (Lib.compact l).length ((Lib.compact l).map (Value.int .i64)) ∧ w.grownBy w' u.ownBlock := by
  rcases hu.2 with ⟨rfl, h0⟩ | ⟨g, cap, cur, rfl, hbg, hg, hn, hm, hs, ht⟩
  · have hl0 : l = [] := List.length_eq_zero_iff.1 h0
    subst hl0
    have h := Any.slices_Compact_int_empty (P := Tryz.prog) Tryz.lays20 none 0 w
    change Calls Tryz.prog 33 _ _ _ at h
    refine h.mono ?_
    rintro e w' ⟨rfl, rfl⟩
    exact ⟨none, 0, rfl, by simpa [Lib.compact, Lib.compactUpTo] using hu, ⟨rfl, rfl, rfl, Nat.le_refl _, fun _ _ _ => rfl⟩⟩
  · have hH := holds_of_blockI (w := w) (g := g) (ss := l) hg (by simpa using ht)
    have h := Any.slices_Compact_int (P := Tryz.prog) Tryz.lays20 g 0 cap l w hH (by omega) hn
    change Calls Tryz.prog 33 _ _ _ at h
    refine h.mono ?_
    rintro e w' ⟨rfl, q, rfl⟩
    have hle := compact_len l
    have hown := Go.Lib.ownsRow_putRow (enc := Value.int .i64) (q := q) hu (ys := Lib.compact l ++ List.replicate (l.length - (Lib.compact l).length) 0) (by simp; omega) hle
    rw [List.take_left'] at hown
    · refine ⟨_, _, rfl, hown, ?_⟩
      have hc : w.grownBy (Sort.putRow (Value.int .i64) (Sort.ahead w q) g 0 (Lib.compact l ++ List.replicate (l.length - (Lib.compact l).length) 0).toArray) (some g) :=
        ⟨rfl, rfl, rfl, by simp [Sort.putRow, Sort.mapBlock, Sort.ahead], fun b _ hn => by
          have hne : g ≠ b := fun e => hn (by rw [e])
          simp [Sort.putRow, Sort.mapBlock, Sort.ahead, Array.getElem?_modify, hne]⟩
      exact hc
    · rfl
end Go.Proofs.YtbhmblkappmfjaaGreat

/- What the net's method edgesOf answers. -/
namespace Go.Proofs.YtbhmblkappmfjaaGreat
open Go.RowKit Go.Deep

/-- An edge of that number has that kind; each has the empty one. -/
def kdB (f : Nat → Nat → D) (len : Nat) (s : ByteArray) (x : Int) : Bool := (List.range len).any fun i => ((f i 0).int! == x) && ((s.toList == []) || ((f i 1).str!.toList == s.toList))
theorem kdB_at {f : Nat → Nat → D} {len : Nat} {s : ByteArray} (hinc : ∀ i j, i < j → j < len → (f i 0).int! < (f j 0).int!) {i : Nat} (hi : i < len) : kdB f len s (f i 0).int! = ((s.toList == []) || ((f i 1).str!.toList == s.toList)) := by
  rw [Bool.eq_iff_iff, kdB, List.any_eq_true]
  constructor
  · rintro ⟨j, hj, h⟩
    have hj' := List.mem_range.1 hj
    simp only [Bool.and_eq_true, beq_iff_eq] at h
    have e : j = i := by
      rcases Nat.lt_trichotomy i j with h1 | h1 | h1
      · have := hinc i j h1 hj'; omega
      · exact h1.symm
      · have := hinc j i h1 hi; omega
    rw [← e]
    exact h.2
  · intro h
    exact ⟨i, List.mem_range.2 hi, by simp only [Bool.and_eq_true, beq_self_eq_true, true_and]; exact h⟩
/-- What edgesOf answers. -/
def eoN (f : Nat → Nat → D) (id way : Int) (s : ByteArray) (len : Nat) : List Int := (Lib.compact (sorted (allOf f id way len))).filter (kdB f len s)
theorem eoN_in {f : Nat → Nat → D} {id way : Int} {s : ByteArray} {len : Nat} (hinc : ∀ i j, i < j → j < len → (f i 0).int! < (f j 0).int!) (h0 : -1 ≤ way) (h1 : way ≤ 1) : eoN f id way s len = eoIds f id way s len := by
  unfold eoN sorted eoIds
  rw [all_ids hinc h0 h1, List.filter_map, List.filter_filter]
  congr 1
  refine List.filter_congr fun i hi => ?_
  rw [Function.comp_apply, kdB_at hinc (List.mem_range.1 hi), eoB, Bool.and_comm]
theorem allOf_out {f : Nat → Nat → D} {id way : Int} {len : Nat} (h : ¬ (-1 ≤ way ∧ way ≤ 1)) : allOf f id way len = [] := by
  unfold allOf
  rw [if_neg (by omega), if_neg (by omega)]
  rfl
theorem eoN_out {f : Nat → Nat → D} {id way : Int} {s : ByteArray} {len : Nat} (h : ¬ (-1 ≤ way ∧ way ≤ 1)) : eoN f id way s len = [] := by
  unfold eoN
  rw [allOf_out h]
  simp [sorted, Lib.compact, Lib.compactUpTo]
theorem outs_len (f : Nat → Nat → D) (c len : Nat) (z : Int) : (outsOf f c len z).length ≤ len := by
  unfold outsOf
  rw [List.length_map]
  exact Nat.le_trans (List.length_filter_le _ _) (by simp)
theorem allOf_len (f : Nat → Nat → D) (id way : Int) (len : Nat) : (allOf f id way len).length ≤ len + len := by
  unfold allOf
  have h1 := outs_len f 2 len id
  have h2 := outs_len f 3 len id
  rw [List.length_append]
  split <;> split <;> (try rw [List.length_nil]) <;> (try rw [List.length_nil]) <;> omega
theorem allOf_mem {f : Nat → Nat → D} {id way : Int} {len : Nat} {x : Int} (h : x ∈ Lib.compact (sorted (allOf f id way len))) : ∃ i, i < len ∧ (f i 0).int! = x := by
  have hs : (sorted (allOf f id way len)).Pairwise (· ≤ ·) := by
    have := List.pairwise_mergeSort (le := fun x y : Int => decide (x ≤ y)) (fun a b c h1 h2 => by simp at *; omega) (fun a b => by simp; omega) (allOf f id way len)
    exact this.imp (fun h => by simpa using h)
  have h2 := ((compact_sorted hs).2 x).1 h
  unfold sorted at h2
  rw [List.mem_mergeSort] at h2
  unfold allOf at h2
  rcases List.mem_append.1 h2 with h3 | h3
  · split at h3
    · obtain ⟨i, hi, _, e⟩ := (mem_outs f 2 len id x).1 h3; exact ⟨i, hi, e⟩
    · simp at h3
  · split at h3
    · obtain ⟨i, hi, _, e⟩ := (mem_outs f 3 len id x).1 h3; exact ⟨i, hi, e⟩
    · simp at h3
theorem own_low {w : World} {b b' n : Nat} {v : Value} {xs : List Value} (h : w.ownsRow b 3 1 v n xs) (e : b' ≤ b) : w.ownsRow b' 3 1 v n xs := by
  refine ⟨h.1, ?_⟩
  rcases h.2 with h | ⟨g, cap, cur, e1, hb, r⟩
  · exact .inl h
  · exact .inr ⟨g, cap, cur, e1, Nat.le_trans e hb, r⟩
/-- Of the first k numbers those that are so. -/
def eoT (L : List Int) (p : Int → Bool) (k : Nat) : List Int := (L.take k).filter p
theorem eoT_succ {L : List Int} {p : Int → Bool} {k : Nat} (h : k < L.length) : eoT L p (k + 1) = eoT L p k ++ (if p L[k] then [L[k]] else []) := by
  unfold eoT
  rw [List.take_add_one, List.getElem?_eq_getElem h, List.filter_append]
  congr 1
  cases e : p L[k] <;> simp [e]
theorem eoT_len (L : List Int) (p : Int → Bool) (k : Nat) : (eoT L p k).length ≤ L.length := by
  unfold eoT
  exact Nat.le_trans (List.length_filter_le _ _) (by simp; omega)
theorem eoT_all (L : List Int) (p : Int → Bool) : eoT L p L.length = L.filter p := by simp [eoT]
/-- An edge of the rows: its cells. -/
theorem RowsD.edge {w : World} {N : NetD} {base hi : Nat} {f : Nat → Nat → D} {len k : Nat} (h : RowsD w N base hi .e 5 f len) (hk : k < len) (HR : HasRow 5 (f k)) :
    ∃ z x y a l c, N.val .e (f k 0).int! = .agg #[.int .i64 z, .string (f k 1).str!, .int .i64 x, .int .i64 y, .slice a l c] ∧ (Lit.int .i64 (f k 0).int!).wf = true := by
  obtain ⟨P, h0, h1, h2⟩ := h
  obtain ⟨C, hv, hc⟩ := h1 k hk
  obtain ⟨z, e0⟩ := (show Has (f k 0) .int from HR 0 (by decide)).int
  obtain ⟨s, e1⟩ := (show Has (f k 1) .str from HR 1 (by decide)).str
  obtain ⟨x, e2⟩ := (show Has (f k 2) .int from HR 2 (by decide)).int
  obtain ⟨y, e3⟩ := (show Has (f k 3) .int from HR 3 (by decide)).int
  have a0 := (hc 0 (by decide)).1
  have a1 := (hc 1 (by decide)).1
  have a2 := (hc 2 (by decide)).1
  have a3 := (hc 3 (by decide)).1
  have a4 := (hc 4 (by decide)).1
  rw [e0] at a0
  rw [e1] at a1
  rw [e2] at a2
  rw [e3] at a3
  obtain ⟨b0, w0⟩ := a0.int_eq
  obtain ⟨b1, _⟩ := a1.str_eq
  obtain ⟨b2, w2⟩ := a2.int_eq
  obtain ⟨b3, w3⟩ := a3.int_eq
  obtain ⟨a, cap, l, _, _, b4, _, _⟩ := list_shape (r := 3) (show Has (f k 4) (.list 3) from HR 4 (by decide)) a4
  refine ⟨z, x, y, a, l, cap, ?_, by rw [e0]; exact w0⟩
  rw [hv, e1, ← b0, ← b2, ← b3, ← b4]
  show _ = Value.agg #[_, Value.string s, _, _, _]
  rw [← b1]
  rfl

theorem fieldKind (c0 c1 c2 c3 c4 : Value) (W : World) : (Instr.field 46 (.agg #[c0, c1, c2, c3, c4]) 1).run Tryz.prog W = .ok c1 W := by kernel_rfl
set_option maxRecDepth 100000 in
set_option maxHeartbeats 8000000 in
theorem netEdgesOf_any (w : World) (base mid hi0 : Nat) (N : NetD) (f : Nat → Nat → D) (len : Nat) (id way : Int) (s : ByteArray) (h : NetIn w base 100 N) (HRa : ∀ i, i < len → HasRow 5 (f i)) (hinc : ∀ i j, i < j → j < len → (f i 0).int! < (f j 0).int!) (hoi : RowsOI N f len) (hke : ∀ x, x ∈ N.keys .e ↔ x ∈ (List.range len).map fun i => (f i 0).int!) (hre : RowsD w N mid hi0 .e 5 f len) (hl : len ≤ 16) (zid : (Lit.int .i64 id).wf = true) :
    Calls Tryz.prog 16 #[.pointer (some ⟨N.nb, 0, none⟩), .int .i64 id, .int .i64 way, .string s] w fun e w' => ∃ a l c, e = .returned (.slice a l c) ∧ DIn (New w.heap.size w'.heap.size) w' (intsD (eoN f id way s len)) (.slice a l c) ∧ Own w' (intsD (eoN f id way s len)) (New w.heap.size w'.heap.size) (.slice a l c) ∧ w'.ownsRow w.heap.size 3 1 (.slice a l c) (eoN f id way s len).length ((eoN f id way s len).map (Value.int .i64)) ∧ Ext w w' := by
  have hlo := (hoi id).1
  have hli := (hoi id).2
  have huo := h.own (.o id)
  have hui := h.own (.i id)
  rw [hlo] at huo
  rw [hli] at hui
  have hln := outs_len f 2 len id
  have hln' := outs_len f 3 len id
  have hal := allOf_len f id way len
  have c6 := h.c6
  have c7 := h.c7
  have hlko := (h.maps .o).look Tryz.underlying66 (zeroInts w) zid false
  simp only [Bool.false_eq_true, if_false, h.look .o (by simp)] at hlko
  change (Instr.lookup 66 (.map (some (N.mb .o))) (.int .i64 id) false).run Tryz.prog w = .ok (N.rows (.o id)) w at hlko
  have hlki := fun (W : World) (hW : Ext w W) => (((h.ext hW).maps .i).look Tryz.underlying66 (zeroInts W) zid false)
  simp only [Bool.false_eq_true, if_false, h.look .i (by simp)] at hlki
  change ∀ W, Ext w W → (Instr.lookup 66 (.map (some (N.mb .i))) (.int .i64 id) false).run Tryz.prog W = .ok (N.rows (.i id)) W at hlki
  obtain ⟨oa, oc, hro, _⟩ := ownI_shape huo
  obtain ⟨ia, ic, hri, _⟩ := ownI_shape hui
  rw [hro] at huo hlko
  rw [hri] at hui hlki
  clear hro hri hlo hli
  have hnone : w.ownsRow w.heap.size 3 1 (.slice none 0 0) ([] : List Int).length (([] : List Int).map (Value.int .i64)) := ⟨rfl, .inl ⟨rfl, rfl⟩⟩
  have hall : Hid (allOf f id way len = (if way = 1 ∨ way = 0 then outsOf f 2 len id else []) ++ (if way = -1 ∨ way = 0 then outsOf f 3 len id else [])) := rfl
  have hmem := @allOf_mem f id way len
  have hcl := compact_len (sorted (allOf f id way len))
  rw [sorted_len] at hcl
  have hN : Hid (eoN f id way s len = (Lib.compact (sorted (allOf f id way len))).filter (kdB f len s)) := rfl
  generalize eoN f id way s len = ans at *
  generalize allOf f id way len = A at *
  generalize outsOf f 2 len id = O at *
  generalize outsOf f 3 len id = I at *
  obtain ⟨i0, hi, hz0, hz1, hz2⟩ := info_parts Tryz.infoI
  have happo := run_append_ints w huo hnone (by omega) (by simp) (Nat.le_refl _) 29
  have happi := fun (W : World) (hW : Ext w W) (m : List Int) (v : Value) (hv : W.ownsRow w.heap.size 3 1 v m.length (m.map (Value.int .i64))) (hm : m.length ≤ 1000) => run_append_ints W (hui.kept hW.grown (by cases h : (Value.slice ia I.length ic).ownBlock <;> simp)) hv (by omega) hm hW.le 29
  have hw4 : way = 1 ∨ way = 0 ∨ way = -1 ∨ (way ≠ 1 ∧ way ≠ 0 ∧ way ≠ -1) := by omega
  clear huo hui
  simp only [List.nil_append] at happo
  have hkind : ∀ k, k < len → ∃ z x y a l c, N.val .e (f k 0).int! = .agg #[.int .i64 z, .string (f k 1).str!, .int .i64 x, .int .i64 y, .slice a l c] ∧ (Lit.int .i64 (f k 0).int!).wf = true := fun k hk => hre.edge hk (HRa k hk)
  go_enter Tryz.func16, Tryz.ntmps16
  rcases hw4 with rfl | rfl | rfl | ⟨n1, n2, n3⟩
  case' inl =>
    have hA : A = O := by have := hall.out; simpa using this
    clear hall
    subst hA
    obtain ⟨a, k0, W, hr, ho, hg⟩ := happo
    have hEW : Ext w W := Below.grown (Ext.refl w) hg (Nat.le_refl _) (fun j hj => by cases hj)
    clear happi hg
    go_upto_region 6 with (at_builtin; refine wpList_append_ran _ rfl _ _ rfl hr rfl rfl ?_)
  case' inr.inl =>
    have hA : A = O ++ I := by have := hall.out; simpa using this
    clear hall
    obtain ⟨a1, k1, w1, hr1, ho1, hg1⟩ := happo
    have hE1 : Ext w w1 := Below.grown (Ext.refl w) hg1 (Nat.le_refl _) (fun j hj => by cases hj)
    obtain ⟨a, k0, W, hr, ho, hg⟩ := happi w1 hE1 O _ ho1 (by omega)
    have hEW : Ext w W := Below.grown hE1 hg hE1.le (fun j hj => (ho1.lt j hj).1)
    have hlki1 := hlki w1 hE1
    have c71 := (h.ext hE1).c7
    rw [← hA] at hr ho
    clear happi hg hA hg1 ho1
    go_upto_region 6 with (at_builtin; first | refine wpList_append_ran _ rfl _ _ rfl hr1 rfl rfl ?_ | refine wpList_append_ran _ rfl _ _ rfl hr rfl rfl ?_)
    clear hr1 hlki1 c71
  case' inr.inr.inl =>
    have hA : A = I := by have := hall.out; simpa using this
    clear hall
    subst hA
    obtain ⟨a, k0, W, hr, ho, hg⟩ := happi w (Ext.refl w) [] _ hnone (by simp)
    have hEW : Ext w W := Below.grown (Ext.refl w) hg (Nat.le_refl _) (fun j hj => by cases hj)
    have hlki1 := hlki w (Ext.refl w)
    rw [List.nil_append] at hr ho
    clear happi hg happo
    go_upto_region 6 with (at_builtin; refine wpList_append_ran _ rfl _ _ rfl hr rfl rfl ?_)
    clear hlki1
  case' inr.inr.inr =>
    have hA : A = [] := by have := hall.out; simpa [n1, n2, n3] using this
    clear hall
    subst hA
    have ho := hnone
    have hEW := Ext.refl w
    have hr : True := trivial
    have m1 : (way == 1) = false := by simp [n1]
    have m2 : (way == 0) = false := by simp [n2]
    have m3 : (way == -1) = false := by simp [n3]
    clear n1 n2 n3
    clear happi happo
    go_upto_region 6 with fail
  all_goals
    have hsort := sort_any _ ho (by omega)
    go_wp2_with fail
    refine hsort.mono ?_
    rintro e W2 ⟨rfl, ho2, hg2⟩
    have hE2 : Ext w W2 := Below.grown hEW hg2 hEW.le (fun j hj => (ho.lt j hj).1)
    have hcomp := compact_any W2 ho2 (by rw [sorted_len]; omega)
    clear hsort ho hg2 hr
    go_wp2_with fail
    refine hcomp.mono ?_
    rintro e W3 ⟨a3, c3, rfl, ho3, hg3⟩
    have hE3 : Ext w W3 := Below.grown hE2 hg3 hE2.le (fun j hj => (ho2.lt j hj).1)
    clear hcomp ho2 hg3 hE2 hEW
    generalize hLL : Lib.compact (sorted _) = L at *
    clear hLL
    have hcell : ∀ k (hk : k < L.length), ∃ g, a3 = some ⟨g, 0, none⟩ ∧ g < W3.heap.size ∧ W3.cell? ⟨g, k, none⟩ = some (.int .i64 L[k]) := by
      intro k hk
      rcases ho3.2 with ⟨e, e2⟩ | ⟨g, cap', cur, e, _⟩
      · omega
      · injection e with e1 _ _
        refine ⟨g, e1, (ho3.lt g (by rw [e1]; rfl)).2, ?_⟩
        have := ho3.cells (g := g) (by rw [e1]; rfl) k (.int .i64 L[k]) (by rw [List.getElem?_map, List.getElem?_eq_getElem hk]; rfl)
        rw [Go.WideShapes.add_plain] at this
        simpa using this
    clear ho3
    have hN3 := h.ext hE3
    have hW3 := hE3.le
    clear h hlki
    go_wp2
    go_loopw [10, 46] (fun u i wr => ∃ (k : Nat) (cs : List Value), k ≤ L.length ∧ i = .int .i64 k ∧ GSt wr W3.heap.size 3 1 (intsF (eoT L (kdB f len s) k)) (eoT L (kdB f len s) k).length u cs ∧ cs = (eoT L (kdB f len s) k).map (Value.int .i64) ∧ Ext W3 wr) (fun _ i _ => L.length - (intOf i).toNat)
    case atStart => exact ⟨0, [], Nat.zero_le _, rfl, GSt.nil _ _ _ _ _, rfl, Ext.refl _⟩
    case round =>
      obtain ⟨k, cs, hk, rfl, hG, hcs, hE⟩ := hrel
      obtain ⟨ua, ucap, rfl⟩ := hG.shape
      by_cases hlt : k < L.length
      · obtain ⟨g, rfl, hgl, e0⟩ := hcell k hlt
        rw [← hE.cell hgl] at e0
        obtain ⟨q, hq, eq⟩ := hmem (List.getElem_mem hlt)
        obtain ⟨z, x, y, aP, lP, cP, hval, zx⟩ := hkind q hq
        have hkd := kdB_at (s := s) hinc hq
        have hin : L[k] ∈ N.keys .e := by rw [← eq]; exact (hke _).2 (List.mem_map.2 ⟨q, List.mem_range.2 hq, rfl⟩)
        rw [eq] at hval zx hkd
        have c4 := (hN3.ext hE).c4
        have hlook := ((hN3.ext hE).maps .e).look Tryz.underlying62 (zeroEdge wr) zx false
        simp only [Bool.false_eq_true, if_false, if_pos hin, hval] at hlook
        change (Instr.lookup 62 (.map (some (N.mb .e))) (.int .i64 L[k]) false).run Tryz.prog wr = .ok (.agg #[.int .i64 z, .string (f q 1).str!, .int .i64 x, .int .i64 y, .slice aP lP cP]) wr at hlook
        have hsucc := eoT_succ (p := kdB f len s) hlt
        have hwl := eoT_len L (kdB f len s) k
        have hnew : Hid (∀ {w3 : World} {v' : Value}, w3.ownsRow W3.heap.size 3 1 v' ((eoT L (kdB f len s) k).length + 1) (cs ++ [.int .i64 L[k]]) → (wr.alloc (.cells #[.int .i64 L[k]] 3)).grownBy w3 (Value.slice ua (eoT L (kdB f len s) k).length ucap).ownBlock → (v'.ownBlock = (Value.slice ua (eoT L (kdB f len s) k).length ucap).ownBlock ∨ v'.ownBlock = some (wr.alloc (.cells #[.int .i64 L[k]] 3)).heap.size) →
            GSt w3 W3.heap.size 3 1 (intsF (eoT L (kdB f len s) k ++ [L[k]])) (eoT L (kdB f len s) k ++ [L[k]]).length v' (cs ++ [.int .i64 L[k]]) ∧ Ext W3 w3) := by
          intro w3 v' hown hg hloc
          exact ⟨hG.int_push ((Ext.refl wr).alloc _) hE.le zx hown hg hloc rfl, hG.grew (hE.alloc _) hg⟩
        have hro := hG.row
        have hwr := hE.le
        rw [hkd] at hsucc
        clear hval hin hkd hke hmem hkind hcell
        generalize hln' : (eoT L (kdB f len s) k).length = ln at *
        generalize hxk : L[k] = X at *
        generalize (f q 1).str! = ks at *
        have hlen17 : L.length ≤ 100 := by omega
        have fK := fieldKind
        cases hs0 : (s.toList == [])
        · rw [hs0, Bool.false_or] at hsucc
          cases hq1 : (ks.toList == s.toList)
          · rw [hq1] at hsucc
            simp only [Bool.false_eq_true, if_false, List.append_nil] at hsucc
            go_wp2
            go_roundw
            case rel => exact ⟨k + 1, cs, by omega, by go_num, by rw [hsucc, hln']; exact hG, by rw [hsucc]; exact hcs, hE⟩
            case measure => simp [intOf]; omega
          · rw [hq1] at hsucc
            simp only [if_true] at hsucc
            go_wp2_with (at_builtin; refine wpList_append_own_at _ rfl _ _ 29 rfl W3.heap.size 3 i0 _ 1 8 Tryz.underlying29 hi hz0 hz1 hz2 rfl (by decide) _ _ _ rfl (hro.alloc _) ⟨_, 0, none⟩ 1 1 [.int .i64 X] rfl rfl (cell_one_new _ _ _) (by simp [Value.oneCell']) (by unfold maxLen; omega) (by omega) (by simp; omega) ?_; intro v' w3 hown' hgrow hnil hloc)
            go_roundw
            case rel =>
              obtain ⟨s1, s2⟩ := hnew.out hown' hgrow hloc
              exact ⟨k + 1, _, by omega, by go_num, by rw [hsucc]; exact s1, by rw [hsucc, List.map_append, hcs]; rfl, s2⟩
            case measure => simp [intOf]; omega
        · rw [hs0, Bool.true_or] at hsucc
          simp only [if_true] at hsucc
          go_wp2_with (at_builtin; refine wpList_append_own_at _ rfl _ _ 29 rfl W3.heap.size 3 i0 _ 1 8 Tryz.underlying29 hi hz0 hz1 hz2 rfl (by decide) _ _ _ rfl (hro.alloc _) ⟨_, 0, none⟩ 1 1 [.int .i64 X] rfl rfl (cell_one_new _ _ _) (by simp [Value.oneCell']) (by unfold maxLen; omega) (by omega) (by simp; omega) ?_; intro v' w3 hown' hgrow hnil hloc)
          go_roundw
          case rel =>
            obtain ⟨s1, s2⟩ := hnew.out hown' hgrow hloc
            exact ⟨k + 1, _, by omega, by go_num, by rw [hsucc]; exact s1, by rw [hsucc, List.map_append, hcs]; rfl, s2⟩
          case measure => simp [intOf]; omega
      · have hkx : k = L.length := by omega
        subst hkx
        have hall2 := eoT_all L (kdB f len s)
        have hwl := eoT_len L (kdB f len s) L.length
        rw [hall2] at hG hwl hcs
        have hans : ans = L.filter (kdB f len s) := hN.out
        rw [← hans] at hG hwl hcs
        have hel : Hid (eoT L (kdB f len s) L.length = ans) := hall2.trans hans.symm
        have hDO : Hid _ := hG.end (by unfold maxLen; omega)
        have hown : Hid _ := own_low hG.row hW3
        rw [hcs] at hown
        have hlow : Hid (∀ x, New W3.heap.size wr.heap.size x → New w.heap.size wr.heap.size x) := fun x hx => ⟨Nat.le_trans hW3 hx.1, hx.2⟩
        clear hG hcs hall2 hans
        go_wp2
        go_ret
        refine ⟨_, _, _, rfl, ?_⟩
        rw [hel.out]
        exact ⟨hDO.out.1.mono hlow.out, hDO.out.2.mono hlow.out, hown.out, hE3.trans hE⟩
end Go.Proofs.YtbhmblkappmfjaaGreat

/- What impl.EdgesOf answers. -/
namespace Go.Proofs.YtbhmblkappmfjaaGreat
open Go.RowKit Go.Deep

/-- A graph that is ok has no edge at a number that is no node's. -/
theorem eo_none {d0 d1 : D} {x2 x3 id way : Int} {s : ByteArray} (hg : graphB d0 d1 x2 x3 = true) (hn : hasId d0 id = false) : eoIds d1.at! id way s d1.len! = [] := by
  unfold eoIds
  rw [List.map_eq_nil_iff, List.filter_eq_nil_iff]
  intro i hi he
  have hi' := List.mem_range.1 hi
  simp only [graphB, Bool.and_eq_true, List.all_eq_true, List.mem_range] at hg
  have hed := hg.1.2 i hi'
  have hne : ∀ c, hasId d0 ((d1.at! i c).int!) = true → ¬ ((d1.at! i c).int! == id) = true := fun c h e => by rw [beq_iff_eq] at e; rw [e, hn] at h; cases h
  simp only [edgeB, Bool.and_eq_true] at hed
  simp only [eoB, endsB, Bool.and_eq_true, Bool.or_eq_true] at he
  rcases he.1 with h | h
  · exact hne 2 hed.1.1.2 h.2
  · exact hne 3 hed.1.2 h.2
theorem eoAns_eq {d0 d1 : D} {x2 x3 id way : Int} {s : ByteArray} (hg : graphB d0 d1 x2 x3 = true) : eoAns (graphB d0 d1 x2 x3 && hasId d0 id) d1 id way s = eoN d1.at! id way s d1.len! := by
  rw [hg]
  unfold eoAns
  by_cases hw : -1 ≤ way ∧ way ≤ 1
  · rw [eoN_in (graph_inc hg) hw.1 hw.2]
    have hi : inB way (-1) 1 = true := by simp [inB, hw.1, hw.2]
    rw [hi]
    cases hn : hasId d0 id
    · rw [eo_none hg hn]; rfl
    · rfl
  · have hi : inB way (-1) 1 = false := by
      rw [Bool.eq_false_iff]
      intro h
      simp only [inB, decide_eq_true_eq] at h
      exact hw h
    rw [eoN_out hw, hi, Bool.and_false]
    rfl

set_option maxRecDepth 100000 in
set_option maxHeartbeats 1000000 in
theorem implEdgesOf_any (S : Nat → Prop) (d0 d1 : D) (c0 c1 : Value) (x2 x3 id way : Int) (s : ByteArray) (zid : (Lit.int .i64 id).wf = true) (w : World) (H0 : Has d0 (.list 4)) (h0 : DIn S w d0 c0) (H1 : Has d1 (.list 5)) (h1 : DIn S w d1 c1) :
    Calls Tryz.prog 7 #[.agg #[c0, c1, .int .i64 x2, .int .i64 x3], .int .i64 id, .int .i64 way, .string s] w fun e w' => ∃ a l c, e = .returned (.slice a l c) ∧ DIn (New w.heap.size w'.heap.size) w' (intsD (eoAns (graphB d0 d1 x2 x3 && hasId d0 id) d1 id way s)) (.slice a l c) ∧ Own w' (intsD (eoAns (graphB d0 d1 x2 x3 && hasId d0 id) d1 id way s)) (New w.heap.size w'.heap.size) (.slice a l c) ∧ Ext w w' := by
  have hnet := fun (W : World) (hW : Ext w W) => netOf_any S d0 d1 c0 c1 x2 x3 W H0 (h0.ext hW) H1 (h1.ext hW)
  have HL : Hid (graphB d0 d1 x2 x3 = true → d1.len! ≤ 16 ∧ ∀ i j, i < j → j < d1.len! → (d1.at! i 0).int! < (d1.at! j 0).int!) := fun h => ⟨(graph_len h).2.1, graph_inc h⟩
  have hrows : ∀ i, i < d1.len! → HasRow 5 (d1.at! i) := by
    obtain ⟨len, f, rfl, HR⟩ := H1.list
    exact HR
  have HA : Hid (graphB d0 d1 x2 x3 = true → eoAns (graphB d0 d1 x2 x3 && hasId d0 id) d1 id way s = eoN d1.at! id way s d1.len!) := eoAns_eq
  have HA2 : Hid (graphB d0 d1 x2 x3 = false → eoAns (graphB d0 d1 x2 x3 && hasId d0 id) d1 id way s = []) := fun h => by rw [h]; rfl
  obtain ⟨a0, cap0, l0, f0, hD0, rfl, _, _⟩ := list_shape H0 h0
  obtain ⟨a1, cap1, l1, f1, hD1, rfl, _, _⟩ := list_shape H1 h1
  clear hD0 hD1
  generalize eoAns (graphB d0 d1 x2 x3 && hasId d0 id) d1 id way s = ans at *
  generalize graphB d0 d1 x2 x3 = gb at *
  go_enter Tryz.func7, Tryz.ntmps7
  go_wp2_with fail
  refine (hnet _ ((Ext.refl _).alloc _)).mono ?_
  rintro e w1 ⟨p, rfl, hN, hE1⟩
  have hE2 : Ext w w1 := ((Ext.refl _).alloc _).trans hE1
  cases gb
  · have hans : Hid (ans = []) := HA2.out rfl
    clear hN
    go_wp2
    go_ret
    exact ⟨_, _, _, rfl, by rw [hans.out]; exact ⟨⟨none, 0, 0, 0, rfl, Nat.zero_le _, fun h => by simp at h, fun i hi => by simp at hi⟩, ⟨none, 0, 0, 0, fun _ _ _ => False, rfl, fun h => by simp at h, fun i _ hi => by simp at hi, fun i _ _ _ hi => by simp at hi, fun i hi => by simp at hi⟩, hE2⟩⟩
  · have hans : Hid (ans = eoN d1.at! id way s d1.len!) := HA.out rfl
    obtain ⟨N, rfl, hNI, hF⟩ := hN rfl
    clear hN
    obtain ⟨mid, _, _, hre⟩ := hF.rows
    obtain ⟨hl16, hinc⟩ := HL.out rfl
    have hed := netEdgesOf_any w1 _ mid _ N d1.at! d1.len! id way s hNI hrows hinc hF.oi hF.ke hre hl16 zid
    rw [← hans.out] at hed
    clear hl16 hinc
    go_wp2_with fail
    refine hed.mono ?_
    rintro e w2 ⟨a, l, c, rfl, hD, hO, _, hE3⟩
    have hmono : ∀ x, New w1.heap.size w2.heap.size x → New w.heap.size w2.heap.size x := fun x hx => ⟨Nat.le_trans hE2.le hx.1, hx.2⟩
    have hD' : Hid _ := hD.mono hmono
    have hO' : Hid _ := hO.mono hmono
    clear hD hO
    go_wp2
    go_ret
    exact ⟨_, _, _, rfl, hD'.out, hO'.out, hE2.trans hE3⟩
end Go.Proofs.YtbhmblkappmfjaaGreat
