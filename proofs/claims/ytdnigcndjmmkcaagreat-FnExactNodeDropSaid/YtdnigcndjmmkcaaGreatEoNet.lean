/- What the net's method edgesOf answers. -/
import Derived.Test.YtdnigcndjmmkcaaGreatEoApp
import Derived.Test.YtdnigcndjmmkcaaGreatEoS
import Derived.Test.YtdnigcndjmmkcaaGreatNetPut
import Derived.Test.YtdnigcndjmmkcaaGreatNetData
namespace Go.Proofs.YtdnigcndjmmkcaaGreat
open Go.RowKit Go.Deep

/-- An edge of that number has that kind; each has the empty one. -/
def kdB (f : Nat → Nat → D) (len : Nat) (s : ByteArray) (x : Int) : Bool := (List.range len).any fun i => ((f i 0).int! == x) && ((s.toList == []) || ((f i 1).str!.toList == s.toList))
theorem kdB_at {f : Nat → Nat → D} {len : Nat} {s : ByteArray} (hinc : ∀ i j, i < j → j < len → (f i 0).int! < (f j 0).int!) {i : Nat} (hi : i < len) : kdB f len s (f i 0).int! = ((s.toList == []) || ((f i 1).str!.toList == s.toList)) := by
  rw [Bool.eq_iff_iff, kdB, List.any_eq_true]
  constructor
  · rintro ⟨j, hj, h⟩
    have hj' := List.mem_range.1 hj
    simp only [Bool.and_eq_true, beq_iff_eq] at h
    have e : j = i := by
      rcases Nat.lt_trichotomy i j with h1 | h1 | h1
      · have := hinc i j h1 hj'; omega
      · exact h1.symm
      · have := hinc j i h1 hi; omega
    rw [← e]
    exact h.2
  · intro h
    exact ⟨i, List.mem_range.2 hi, by simp only [Bool.and_eq_true, beq_self_eq_true, true_and]; exact h⟩
/-- What edgesOf answers. -/
def eoN (f : Nat → Nat → D) (id way : Int) (s : ByteArray) (len : Nat) : List Int := (Lib.compact (sorted (allOf f id way len))).filter (kdB f len s)
theorem eoN_in {f : Nat → Nat → D} {id way : Int} {s : ByteArray} {len : Nat} (hinc : ∀ i j, i < j → j < len → (f i 0).int! < (f j 0).int!) (h0 : -1 ≤ way) (h1 : way ≤ 1) : eoN f id way s len = eoIds f id way s len := by
  unfold eoN sorted eoIds
  rw [all_ids hinc h0 h1, List.filter_map, List.filter_filter]
  congr 1
  refine List.filter_congr fun i hi => ?_
  rw [Function.comp_apply, kdB_at hinc (List.mem_range.1 hi), eoB, Bool.and_comm]
theorem allOf_out {f : Nat → Nat → D} {id way : Int} {len : Nat} (h : ¬ (-1 ≤ way ∧ way ≤ 1)) : allOf f id way len = [] := by
  unfold allOf
  rw [if_neg (by omega), if_neg (by omega)]
  rfl
theorem eoN_out {f : Nat → Nat → D} {id way : Int} {s : ByteArray} {len : Nat} (h : ¬ (-1 ≤ way ∧ way ≤ 1)) : eoN f id way s len = [] := by
  unfold eoN
  rw [allOf_out h]
  simp [sorted, Lib.compact, Lib.compactUpTo]
theorem outs_len (f : Nat → Nat → D) (c len : Nat) (z : Int) : (outsOf f c len z).length ≤ len := by
  unfold outsOf
  rw [List.length_map]
  exact Nat.le_trans (List.length_filter_le _ _) (by simp)
theorem allOf_len (f : Nat → Nat → D) (id way : Int) (len : Nat) : (allOf f id way len).length ≤ len + len := by
  unfold allOf
  have h1 := outs_len f 2 len id
  have h2 := outs_len f 3 len id
  rw [List.length_append]
  split <;> split <;> (try rw [List.length_nil]) <;> (try rw [List.length_nil]) <;> omega
theorem allOf_mem {f : Nat → Nat → D} {id way : Int} {len : Nat} {x : Int} (h : x ∈ Lib.compact (sorted (allOf f id way len))) : ∃ i, i < len ∧ (f i 0).int! = x := by
  have hs : (sorted (allOf f id way len)).Pairwise (· ≤ ·) := by
    have := List.pairwise_mergeSort (le := fun x y : Int => decide (x ≤ y)) (fun a b c h1 h2 => by simp at *; omega) (fun a b => by simp; omega) (allOf f id way len)
    exact this.imp (fun h => by simpa using h)
  have h2 := ((compact_sorted hs).2 x).1 h
  unfold sorted at h2
  rw [List.mem_mergeSort] at h2
  unfold allOf at h2
  rcases List.mem_append.1 h2 with h3 | h3
  · split at h3
    · obtain ⟨i, hi, _, e⟩ := (mem_outs f 2 len id x).1 h3; exact ⟨i, hi, e⟩
    · simp at h3
  · split at h3
    · obtain ⟨i, hi, _, e⟩ := (mem_outs f 3 len id x).1 h3; exact ⟨i, hi, e⟩
    · simp at h3
theorem own_low {w : World} {b b' n : Nat} {v : Value} {xs : List Value} (h : w.ownsRow b 3 1 v n xs) (e : b' ≤ b) : w.ownsRow b' 3 1 v n xs := by
  refine ⟨h.1, ?_⟩
  rcases h.2 with h | ⟨g, cap, cur, e1, hb, r⟩
  · exact .inl h
  · exact .inr ⟨g, cap, cur, e1, Nat.le_trans e hb, r⟩
/-- Of the first k numbers those that are so. -/
def eoT (L : List Int) (p : Int → Bool) (k : Nat) : List Int := (L.take k).filter p
theorem eoT_succ {L : List Int} {p : Int → Bool} {k : Nat} (h : k < L.length) : eoT L p (k + 1) = eoT L p k ++ (if p L[k] then [L[k]] else []) := by
  unfold eoT
  rw [List.take_add_one, List.getElem?_eq_getElem h, List.filter_append]
  congr 1
  cases e : p L[k] <;> simp [e]
theorem eoT_len (L : List Int) (p : Int → Bool) (k : Nat) : (eoT L p k).length ≤ L.length := by
  unfold eoT
  exact Nat.le_trans (List.length_filter_le _ _) (by simp; omega)
theorem eoT_all (L : List Int) (p : Int → Bool) : eoT L p L.length = L.filter p := by simp [eoT]
/-- An edge of the rows: its cells. -/
theorem RowsD.edge {w : World} {N : NetD} {base hi : Nat} {f : Nat → Nat → D} {len k : Nat} (h : RowsD w N base hi .e 5 f len) (hk : k < len) (HR : HasRow 5 (f k)) :
    ∃ z x y a l c, N.val .e (f k 0).int! = .agg #[.int .i64 z, .string (f k 1).str!, .int .i64 x, .int .i64 y, .slice a l c] ∧ (Lit.int .i64 (f k 0).int!).wf = true := by
  obtain ⟨P, h0, h1, h2⟩ := h
  obtain ⟨C, hv, hc⟩ := h1 k hk
  obtain ⟨z, e0⟩ := (show Has (f k 0) .int from HR 0 (by decide)).int
  obtain ⟨s, e1⟩ := (show Has (f k 1) .str from HR 1 (by decide)).str
  obtain ⟨x, e2⟩ := (show Has (f k 2) .int from HR 2 (by decide)).int
  obtain ⟨y, e3⟩ := (show Has (f k 3) .int from HR 3 (by decide)).int
  have a0 := (hc 0 (by decide)).1
  have a1 := (hc 1 (by decide)).1
  have a2 := (hc 2 (by decide)).1
  have a3 := (hc 3 (by decide)).1
  have a4 := (hc 4 (by decide)).1
  rw [e0] at a0
  rw [e1] at a1
  rw [e2] at a2
  rw [e3] at a3
  obtain ⟨b0, w0⟩ := a0.int_eq
  obtain ⟨b1, _⟩ := a1.str_eq
  obtain ⟨b2, w2⟩ := a2.int_eq
  obtain ⟨b3, w3⟩ := a3.int_eq
  obtain ⟨a, cap, l, _, _, b4, _, _⟩ := list_shape (r := 3) (show Has (f k 4) (.list 3) from HR 4 (by decide)) a4
  refine ⟨z, x, y, a, l, cap, ?_, by rw [e0]; exact w0⟩
  rw [hv, e1, ← b0, ← b2, ← b3, ← b4]
  show _ = Value.agg #[_, Value.string s, _, _, _]
  rw [← b1]
  rfl

theorem fieldKind (c0 c1 c2 c3 c4 : Value) (W : World) : (Instr.field 67 (.agg #[c0, c1, c2, c3, c4]) 1).run Tryz.prog W = .ok c1 W := by kernel_rfl
set_option maxRecDepth 100000 in
set_option maxHeartbeats 8000000 in
theorem netEdgesOf_any (w : World) (base mid hi0 : Nat) (N : NetD) (f : Nat → Nat → D) (len : Nat) (id way : Int) (s : ByteArray) (h : NetIn w base 100 N) (HRa : ∀ i, i < len → HasRow 5 (f i)) (hinc : ∀ i j, i < j → j < len → (f i 0).int! < (f j 0).int!) (hoi : RowsOI N f len) (hke : ∀ x, x ∈ N.keys .e ↔ x ∈ (List.range len).map fun i => (f i 0).int!) (hre : RowsD w N mid hi0 .e 5 f len) (hl : len ≤ 16) (zid : (Lit.int .i64 id).wf = true) :
    Calls Tryz.prog 44 #[.pointer (some ⟨N.nb, 0, none⟩), .int .i64 id, .int .i64 way, .string s] w fun e w' => ∃ a l c, e = .returned (.slice a l c) ∧ DIn (New w.heap.size w'.heap.size) w' (intsD (eoN f id way s len)) (.slice a l c) ∧ Own w' (intsD (eoN f id way s len)) (New w.heap.size w'.heap.size) (.slice a l c) ∧ w'.ownsRow w.heap.size 3 1 (.slice a l c) (eoN f id way s len).length ((eoN f id way s len).map (Value.int .i64)) ∧ Ext w w' := by
  have hlo := (hoi id).1
  have hli := (hoi id).2
  have huo := h.own (.o id)
  have hui := h.own (.i id)
  rw [hlo] at huo
  rw [hli] at hui
  have hln := outs_len f 2 len id
  have hln' := outs_len f 3 len id
  have hal := allOf_len f id way len
  have c6 := h.c6
  have c7 := h.c7
  have hlko := (h.maps .o).look Tryz.underlying84 (zeroInts w) zid false
  simp only [Bool.false_eq_true, if_false, h.look .o (by simp)] at hlko
  change (Instr.lookup 84 (.map (some (N.mb .o))) (.int .i64 id) false).run Tryz.prog w = .ok (N.rows (.o id)) w at hlko
  have hlki := fun (W : World) (hW : Ext w W) => (((h.ext hW).maps .i).look Tryz.underlying84 (zeroInts W) zid false)
  simp only [Bool.false_eq_true, if_false, h.look .i (by simp)] at hlki
  change ∀ W, Ext w W → (Instr.lookup 84 (.map (some (N.mb .i))) (.int .i64 id) false).run Tryz.prog W = .ok (N.rows (.i id)) W at hlki
  obtain ⟨oa, oc, hro, _⟩ := ownI_shape huo
  obtain ⟨ia, ic, hri, _⟩ := ownI_shape hui
  rw [hro] at huo hlko
  rw [hri] at hui hlki
  clear hro hri hlo hli
  have hnone : w.ownsRow w.heap.size 3 1 (.slice none 0 0) ([] : List Int).length (([] : List Int).map (Value.int .i64)) := ⟨rfl, .inl ⟨rfl, rfl⟩⟩
  have hall : Hid (allOf f id way len = (if way = 1 ∨ way = 0 then outsOf f 2 len id else []) ++ (if way = -1 ∨ way = 0 then outsOf f 3 len id else [])) := rfl
  have hmem := @allOf_mem f id way len
  have hcl := compact_len (sorted (allOf f id way len))
  rw [sorted_len] at hcl
  have hN : Hid (eoN f id way s len = (Lib.compact (sorted (allOf f id way len))).filter (kdB f len s)) := rfl
  generalize eoN f id way s len = ans at *
  generalize allOf f id way len = A at *
  generalize outsOf f 2 len id = O at *
  generalize outsOf f 3 len id = I at *
  obtain ⟨i0, hi, hz0, hz1, hz2⟩ := info_parts Tryz.infoI
  have happo := run_append_ints w huo hnone (by omega) (by simp) (Nat.le_refl _) 70
  have happi := fun (W : World) (hW : Ext w W) (m : List Int) (v : Value) (hv : W.ownsRow w.heap.size 3 1 v m.length (m.map (Value.int .i64))) (hm : m.length ≤ 1000) => run_append_ints W (hui.kept hW.grown (by cases h : (Value.slice ia I.length ic).ownBlock <;> simp)) hv (by omega) hm hW.le 70
  have hw4 : way = 1 ∨ way = 0 ∨ way = -1 ∨ (way ≠ 1 ∧ way ≠ 0 ∧ way ≠ -1) := by omega
  clear huo hui
  simp only [List.nil_append] at happo
  have hkind : ∀ k, k < len → ∃ z x y a l c, N.val .e (f k 0).int! = .agg #[.int .i64 z, .string (f k 1).str!, .int .i64 x, .int .i64 y, .slice a l c] ∧ (Lit.int .i64 (f k 0).int!).wf = true := fun k hk => hre.edge hk (HRa k hk)
  go_enter Tryz.func44, Tryz.ntmps44
  rcases hw4 with rfl | rfl | rfl | ⟨n1, n2, n3⟩
  case' inl =>
    have hA : A = O := by have := hall.out; simpa using this
    clear hall
    subst hA
    obtain ⟨a, k0, W, hr, ho, hg⟩ := happo
    have hEW : Ext w W := Below.grown (Ext.refl w) hg (Nat.le_refl _) (fun j hj => by cases hj)
    clear happi hg
    go_upto_region 6 with (at_builtin; refine wpList_append_ran _ rfl _ _ rfl hr rfl rfl ?_)
  case' inr.inl =>
    have hA : A = O ++ I := by have := hall.out; simpa using this
    clear hall
    obtain ⟨a1, k1, w1, hr1, ho1, hg1⟩ := happo
    have hE1 : Ext w w1 := Below.grown (Ext.refl w) hg1 (Nat.le_refl _) (fun j hj => by cases hj)
    obtain ⟨a, k0, W, hr, ho, hg⟩ := happi w1 hE1 O _ ho1 (by omega)
    have hEW : Ext w W := Below.grown hE1 hg hE1.le (fun j hj => (ho1.lt j hj).1)
    have hlki1 := hlki w1 hE1
    have c71 := (h.ext hE1).c7
    rw [← hA] at hr ho
    clear happi hg hA hg1 ho1
    go_upto_region 6 with (at_builtin; first | refine wpList_append_ran _ rfl _ _ rfl hr1 rfl rfl ?_ | refine wpList_append_ran _ rfl _ _ rfl hr rfl rfl ?_)
    clear hr1 hlki1 c71
  case' inr.inr.inl =>
    have hA : A = I := by have := hall.out; simpa using this
    clear hall
    subst hA
    obtain ⟨a, k0, W, hr, ho, hg⟩ := happi w (Ext.refl w) [] _ hnone (by simp)
    have hEW : Ext w W := Below.grown (Ext.refl w) hg (Nat.le_refl _) (fun j hj => by cases hj)
    have hlki1 := hlki w (Ext.refl w)
    rw [List.nil_append] at hr ho
    clear happi hg happo
    go_upto_region 6 with (at_builtin; refine wpList_append_ran _ rfl _ _ rfl hr rfl rfl ?_)
    clear hlki1
  case' inr.inr.inr =>
    have hA : A = [] := by have := hall.out; simpa [n1, n2, n3] using this
    clear hall
    subst hA
    have ho := hnone
    have hEW := Ext.refl w
    have hr : True := trivial
    have m1 : (way == 1) = false := by simp [n1]
    have m2 : (way == 0) = false := by simp [n2]
    have m3 : (way == -1) = false := by simp [n3]
    clear n1 n2 n3
    clear happi happo
    go_upto_region 6 with fail
  all_goals
    have hsort := sort_any _ ho (by omega)
    go_wp2_with fail
    refine hsort.mono ?_
    rintro e W2 ⟨rfl, ho2, hg2⟩
    have hE2 : Ext w W2 := Below.grown hEW hg2 hEW.le (fun j hj => (ho.lt j hj).1)
    have hcomp := compact_any W2 ho2 (by rw [sorted_len]; omega)
    clear hsort ho hg2 hr
    go_wp2_with fail
    refine hcomp.mono ?_
    rintro e W3 ⟨a3, c3, rfl, ho3, hg3⟩
    have hE3 : Ext w W3 := Below.grown hE2 hg3 hE2.le (fun j hj => (ho2.lt j hj).1)
    clear hcomp ho2 hg3 hE2 hEW
    generalize hLL : Lib.compact (sorted _) = L at *
    clear hLL
    have hcell : ∀ k (hk : k < L.length), ∃ g, a3 = some ⟨g, 0, none⟩ ∧ g < W3.heap.size ∧ W3.cell? ⟨g, k, none⟩ = some (.int .i64 L[k]) := by
      intro k hk
      rcases ho3.2 with ⟨e, e2⟩ | ⟨g, cap', cur, e, _⟩
      · omega
      · injection e with e1 _ _
        refine ⟨g, e1, (ho3.lt g (by rw [e1]; rfl)).2, ?_⟩
        have := ho3.cells (g := g) (by rw [e1]; rfl) k (.int .i64 L[k]) (by rw [List.getElem?_map, List.getElem?_eq_getElem hk]; rfl)
        rw [Go.WideShapes.add_plain] at this
        simpa using this
    clear ho3
    have hN3 := h.ext hE3
    have hW3 := hE3.le
    clear h hlki
    go_wp2
    go_loopw [10, 46] (fun u i wr => ∃ (k : Nat) (cs : List Value), k ≤ L.length ∧ i = .int .i64 k ∧ GSt wr W3.heap.size 3 1 (intsF (eoT L (kdB f len s) k)) (eoT L (kdB f len s) k).length u cs ∧ cs = (eoT L (kdB f len s) k).map (Value.int .i64) ∧ Ext W3 wr) (fun _ i _ => L.length - (intOf i).toNat)
    case atStart => exact ⟨0, [], Nat.zero_le _, rfl, GSt.nil _ _ _ _ _, rfl, Ext.refl _⟩
    case round =>
      obtain ⟨k, cs, hk, rfl, hG, hcs, hE⟩ := hrel
      obtain ⟨ua, ucap, rfl⟩ := hG.shape
      by_cases hlt : k < L.length
      · obtain ⟨g, rfl, hgl, e0⟩ := hcell k hlt
        rw [← hE.cell hgl] at e0
        obtain ⟨q, hq, eq⟩ := hmem (List.getElem_mem hlt)
        obtain ⟨z, x, y, aP, lP, cP, hval, zx⟩ := hkind q hq
        have hkd := kdB_at (s := s) hinc hq
        have hin : L[k] ∈ N.keys .e := by rw [← eq]; exact (hke _).2 (List.mem_map.2 ⟨q, List.mem_range.2 hq, rfl⟩)
        rw [eq] at hval zx hkd
        have c4 := (hN3.ext hE).c4
        have hlook := ((hN3.ext hE).maps .e).look Tryz.underlying80 (zeroEdge wr) zx false
        simp only [Bool.false_eq_true, if_false, if_pos hin, hval] at hlook
        change (Instr.lookup 80 (.map (some (N.mb .e))) (.int .i64 L[k]) false).run Tryz.prog wr = .ok (.agg #[.int .i64 z, .string (f q 1).str!, .int .i64 x, .int .i64 y, .slice aP lP cP]) wr at hlook
        have hsucc := eoT_succ (p := kdB f len s) hlt
        have hwl := eoT_len L (kdB f len s) k
        have hnew : Hid (∀ {w3 : World} {v' : Value}, w3.ownsRow W3.heap.size 3 1 v' ((eoT L (kdB f len s) k).length + 1) (cs ++ [.int .i64 L[k]]) → (wr.alloc (.cells #[.int .i64 L[k]] 3)).grownBy w3 (Value.slice ua (eoT L (kdB f len s) k).length ucap).ownBlock → (v'.ownBlock = (Value.slice ua (eoT L (kdB f len s) k).length ucap).ownBlock ∨ v'.ownBlock = some (wr.alloc (.cells #[.int .i64 L[k]] 3)).heap.size) →
            GSt w3 W3.heap.size 3 1 (intsF (eoT L (kdB f len s) k ++ [L[k]])) (eoT L (kdB f len s) k ++ [L[k]]).length v' (cs ++ [.int .i64 L[k]]) ∧ Ext W3 w3) := by
          intro w3 v' hown hg hloc
          exact ⟨hG.int_push ((Ext.refl wr).alloc _) hE.le zx hown hg hloc rfl, hG.grew (hE.alloc _) hg⟩
        have hro := hG.row
        have hwr := hE.le
        rw [hkd] at hsucc
        clear hval hin hkd hke hmem hkind hcell
        generalize hln' : (eoT L (kdB f len s) k).length = ln at *
        generalize hxk : L[k] = X at *
        generalize (f q 1).str! = ks at *
        have hlen17 : L.length ≤ 100 := by omega
        have fK := fieldKind
        cases hs0 : (s.toList == [])
        · rw [hs0, Bool.false_or] at hsucc
          cases hq1 : (ks.toList == s.toList)
          · rw [hq1] at hsucc
            simp only [Bool.false_eq_true, if_false, List.append_nil] at hsucc
            go_wp2
            go_roundw
            case rel => exact ⟨k + 1, cs, by omega, by go_num, by rw [hsucc, hln']; exact hG, by rw [hsucc]; exact hcs, hE⟩
            case measure => simp [intOf]; omega
          · rw [hq1] at hsucc
            simp only [if_true] at hsucc
            go_wp2_with (at_builtin; refine wpList_append_own_at _ rfl _ _ 70 rfl W3.heap.size 3 i0 _ 1 8 Tryz.underlying70 hi hz0 hz1 hz2 rfl (by decide) _ _ _ rfl (hro.alloc _) ⟨_, 0, none⟩ 1 1 [.int .i64 X] rfl rfl (cell_one_new _ _ _) (by simp [Value.oneCell']) (by unfold maxLen; omega) (by omega) (by simp; omega) ?_; intro v' w3 hown' hgrow hnil hloc)
            go_roundw
            case rel =>
              obtain ⟨s1, s2⟩ := hnew.out hown' hgrow hloc
              exact ⟨k + 1, _, by omega, by go_num, by rw [hsucc]; exact s1, by rw [hsucc, List.map_append, hcs]; rfl, s2⟩
            case measure => simp [intOf]; omega
        · rw [hs0, Bool.true_or] at hsucc
          simp only [if_true] at hsucc
          go_wp2_with (at_builtin; refine wpList_append_own_at _ rfl _ _ 70 rfl W3.heap.size 3 i0 _ 1 8 Tryz.underlying70 hi hz0 hz1 hz2 rfl (by decide) _ _ _ rfl (hro.alloc _) ⟨_, 0, none⟩ 1 1 [.int .i64 X] rfl rfl (cell_one_new _ _ _) (by simp [Value.oneCell']) (by unfold maxLen; omega) (by omega) (by simp; omega) ?_; intro v' w3 hown' hgrow hnil hloc)
          go_roundw
          case rel =>
            obtain ⟨s1, s2⟩ := hnew.out hown' hgrow hloc
            exact ⟨k + 1, _, by omega, by go_num, by rw [hsucc]; exact s1, by rw [hsucc, List.map_append, hcs]; rfl, s2⟩
          case measure => simp [intOf]; omega
      · have hkx : k = L.length := by omega
        subst hkx
        have hall2 := eoT_all L (kdB f len s)
        have hwl := eoT_len L (kdB f len s) L.length
        rw [hall2] at hG hwl hcs
        have hans : ans = L.filter (kdB f len s) := hN.out
        rw [← hans] at hG hwl hcs
        have hel : Hid (eoT L (kdB f len s) L.length = ans) := hall2.trans hans.symm
        have hDO : Hid _ := hG.end (by unfold maxLen; omega)
        have hown : Hid _ := own_low hG.row hW3
        rw [hcs] at hown
        have hlow : Hid (∀ x, New W3.heap.size wr.heap.size x → New w.heap.size wr.heap.size x) := fun x hx => ⟨Nat.le_trans hW3 hx.1, hx.2⟩
        clear hG hcs hall2 hans
        go_wp2
        go_ret
        refine ⟨_, _, _, rfl, ?_⟩
        rw [hel.out]
        exact ⟨hDO.out.1.mono hlow.out, hDO.out.2.mono hlow.out, hown.out, hE3.trans hE⟩
end Go.Proofs.YtdnigcndjmmkcaaGreat
