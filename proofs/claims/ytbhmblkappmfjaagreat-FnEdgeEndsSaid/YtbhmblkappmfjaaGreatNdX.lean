/- The numbers of a node's edges: both ends sorted, each once, is the edges' own order. -/
import Derived.Test.YtbhmblkappmfjaaGreatNetOf
import Derived.Lib.SlicesCompact
import Derived.Test.YtbhmblkappmfjaaGreatWithSpec
import Derived.Test.YtbhmblkappmfjaaGreatEdS
import Derived.Test.YtbhmblkappmfjaaGreatGDef
namespace Go.Proofs.YtbhmblkappmfjaaGreat
open Go.RowKit Go.Deep

/-- Ascending lists with the same members are the same. -/
theorem sorted_ext : ∀ {l m : List Int}, l.Pairwise (· < ·) → m.Pairwise (· < ·) → (∀ x, x ∈ l ↔ x ∈ m) → l = m
  | [], [], _, _, _ => rfl
  | [], b :: m, _, _, h => absurd ((h b).2 (by simp)) (by simp)
  | a :: l, [], _, _, h => absurd ((h a).1 (by simp)) (by simp)
  | a :: l, b :: m, hl, hm, h => by
    obtain ⟨h1, h2⟩ := List.pairwise_cons.1 hl
    obtain ⟨g1, g2⟩ := List.pairwise_cons.1 hm
    have e : a = b := by
      have ha := (h a).1 (by simp)
      have hb := (h b).2 (by simp)
      rcases List.mem_cons.1 ha with ha | ha
      · exact ha
      · rcases List.mem_cons.1 hb with hb | hb
        · exact hb.symm
        · have := g1 a ha
          have := h1 b hb
          omega
    subst e
    rw [sorted_ext h2 g2 fun x => ⟨fun hx => ?_, fun hx => ?_⟩]
    · have := h1 x hx
      rcases List.mem_cons.1 ((h x).1 (List.mem_cons_of_mem _ hx)) with e | e
      · omega
      · exact e
    · have := g1 x hx
      rcases List.mem_cons.1 ((h x).2 (List.mem_cons_of_mem _ hx)) with e | e
      · omega
      · exact e
theorem compact_sorted {zs : List Int} (h : zs.Pairwise (· ≤ ·)) : (Lib.compact zs).Pairwise (· < ·) ∧ ∀ x, x ∈ Lib.compact zs ↔ x ∈ zs := by
  have hle : ∀ i j, i ≤ j → j < zs.length → zs.toArray[i]! ≤ zs.toArray[j]! := fun i j hij hj => by
    rw [getElem!_pos zs.toArray i (by simp; omega), getElem!_pos zs.toArray j (by simpa using hj)]
    rcases Nat.lt_or_ge i j with h1 | h1
    · exact List.pairwise_iff_getElem.1 h i j (by omega) hj h1
    · have : i = j := by omega
      subst this
      exact Int.le_refl _
  constructor
  · unfold Lib.compact Lib.compactUpTo
    rw [List.pairwise_map]
    refine List.Pairwise.imp_of_mem ?_ (List.Pairwise.filter _ List.pairwise_lt_range)
    intro i j hi hj hij
    have hj' := List.mem_filter.1 hj
    have hjl : j < zs.length := List.mem_range.1 hj'.1
    have hk := hj'.2
    simp only [Lib.keeps, decide_eq_true_eq, ne_eq] at hk
    have h1 := hle i (j - 1) (by omega) (by omega)
    have h2 := hle (j - 1) j (by omega) hjl
    rcases hk with hk | hk
    · omega
    · have : zs.toArray[j]! ≠ zs.toArray[j - 1]! := hk
      omega
  · intro x
    unfold Lib.compact Lib.compactUpTo
    constructor
    · intro hx
      obtain ⟨i, hi, rfl⟩ := List.mem_map.1 hx
      have hil : i < zs.length := List.mem_range.1 (List.mem_filter.1 hi).1
      rw [getElem!_pos zs.toArray i (by simpa using hil)]
      simp
    · intro hx
      obtain ⟨i, hi, e⟩ := List.getElem_of_mem hx
      have key : ∀ n, ∀ i, i ≤ n → i < zs.length → zs.toArray[i]! = x → ∃ j, j < zs.length ∧ zs.toArray[j]! = x ∧ Lib.keeps zs.toArray j = true := by
        intro n
        induction n with
        | zero => intro i h0 hi e; exact ⟨i, hi, e, by have : i = 0 := by omega
                                                       subst this; simp [Lib.keeps]⟩
        | succ n ih =>
          intro i h0 hi e
          by_cases hk : Lib.keeps zs.toArray i = true
          · exact ⟨i, hi, e, hk⟩
          · have hk' : ¬ i = 0 ∧ zs.toArray[i]! = zs.toArray[i - 1]! := by
              simp only [Lib.keeps, decide_eq_true_eq, ne_eq, not_or, Decidable.not_not] at hk
              exact hk
            exact ih (i - 1) (by omega) (by omega) (by rw [← hk'.2]; exact e)
      obtain ⟨j, hj, ej, hk⟩ := key i i (Nat.le_refl _) hi (by rw [getElem!_pos zs.toArray i (by simpa using hi)]; simpa using e)
      exact List.mem_map.2 ⟨j, List.mem_filter.2 ⟨List.mem_range.2 hj, hk⟩, ej⟩
/-- Whether an edge has an end at a node, that way. -/
def endsB (f : Nat → Nat → D) (id way : Int) (i : Nat) : Bool := (decide (0 ≤ way) && ((f i 2).int! == id)) || (decide (way ≤ 0) && ((f i 3).int! == id))
def allOf (f : Nat → Nat → D) (id way : Int) (len : Nat) : List Int := (if way = 1 ∨ way = 0 then outsOf f 2 len id else []) ++ (if way = -1 ∨ way = 0 then outsOf f 3 len id else [])
theorem mem_outs (f : Nat → Nat → D) (c len : Nat) (z x : Int) : x ∈ outsOf f c len z ↔ ∃ i, i < len ∧ (f i c).int! = z ∧ (f i 0).int! = x := by
  simp [outsOf, and_assoc]
theorem all_ids {f : Nat → Nat → D} {id way : Int} {len : Nat} (hinc : ∀ i j, i < j → j < len → (f i 0).int! < (f j 0).int!) (h0 : -1 ≤ way) (h1 : way ≤ 1) :
    Lib.compact ((allOf f id way len).mergeSort fun x y => decide (x ≤ y)) = ((List.range len).filter (endsB f id way)).map fun i => (f i 0).int! := by
  have hs : ((allOf f id way len).mergeSort fun x y => decide (x ≤ y)).Pairwise (· ≤ ·) := by
    have := List.pairwise_mergeSort (le := fun x y : Int => decide (x ≤ y)) (fun a b c h1 h2 => by simp at *; omega) (fun a b => by simp; omega) (allOf f id way len)
    exact this.imp (fun h => by simpa using h)
  obtain ⟨c1, c2⟩ := compact_sorted hs
  refine sorted_ext c1 ?_ (fun x => ?_)
  · rw [List.pairwise_map]
    refine List.Pairwise.imp_of_mem ?_ (List.Pairwise.filter _ List.pairwise_lt_range)
    intro i j hi hj hij
    exact hinc i j hij (List.mem_range.1 (List.mem_filter.1 hj).1)
  · rw [c2, List.mem_mergeSort]
    have hw : way = -1 ∨ way = 0 ∨ way = 1 := by omega
    simp only [allOf, List.mem_append, List.mem_map, List.mem_filter, List.mem_range]
    rcases hw with rfl | rfl | rfl
    · simp [endsB, mem_outs, and_assoc]
    · simp [endsB, mem_outs, and_assoc]
      constructor
      · rintro (⟨i, hi, e, ex⟩ | ⟨i, hi, e, ex⟩)
        · exact ⟨i, hi, .inl e, ex⟩
        · exact ⟨i, hi, .inr e, ex⟩
      · rintro ⟨i, hi, e | e, ex⟩
        · exact .inl ⟨i, hi, e, ex⟩
        · exact .inr ⟨i, hi, e, ex⟩
    · simp [endsB, mem_outs, and_assoc]
end Go.Proofs.YtbhmblkappmfjaaGreat

/- What spec.l2Edges answers. -/
namespace Go.Proofs.YtbhmblkappmfjaaGreat
open Go.RowKit Go.Deep

/-- An edge of a node, that way, of that kind. -/
def eoB (f : Nat → Nat → D) (id way : Int) (s : ByteArray) (i : Nat) : Bool := endsB f id way i && ((s.toList == []) || ((f i 1).str!.toList == s.toList))
def eoIds (f : Nat → Nat → D) (id way : Int) (s : ByteArray) (k : Nat) : List Int := ((List.range k).filter (eoB f id way s)).map fun i => (f i 0).int!
theorem eo_succ (f : Nat → Nat → D) (id way : Int) (s : ByteArray) (k : Nat) : eoIds f id way s (k + 1) = eoIds f id way s k ++ (if eoB f id way s k then [(f k 0).int!] else []) := by
  simp only [eoIds, List.range_succ, List.filter_append, List.map_append]
  congr 1
  cases h : eoB f id way s k <;> simp [h]
theorem eo_len (f : Nat → Nat → D) (id way : Int) (s : ByteArray) (k : Nat) : (eoIds f id way s k).length ≤ k := by
  have := List.length_filter_le (eoB f id way s) (List.range k)
  simpa [eoIds] using this

set_option maxRecDepth 100000 in
set_option maxHeartbeats 8000000 in
theorem l2Edges_any (S : Nat → Prop) (d1 : D) (c0 c1 : Value) (x2 x3 id way : Int) (s : ByteArray) (w : World) (H1 : Has d1 (.list 5)) (h1 : DIn S w d1 c1) (hc0 : ∃ a l c, c0 = .slice a l c) (hl : d1.len! ≤ 16) :
    Calls Tryz.prog 53 #[.agg #[c0, c1, .int .i64 x2, .int .i64 x3], .int .i64 id, .int .i64 way, .string s] w fun e w' => ∃ a l c, e = .returned (.slice a l c) ∧ DIn (New w.heap.size w'.heap.size) w' (intsD (eoIds d1.at! id way s d1.len!)) (.slice a l c) ∧ Ext w w' := by
  obtain ⟨a1, l1, k1, rfl⟩ := hc0
  obtain ⟨len, f, rfl, HRa⟩ := H1.list
  change DIn S w (.list 5 len f) c1 at h1
  change len ≤ 16 at hl
  change Calls _ _ _ _ fun e w' => ∃ a l c, e = .returned (.slice a l c) ∧ DIn (New w.heap.size w'.heap.size) w' (intsD (eoIds f id way s len)) (.slice a l c) ∧ Ext w w'
  obtain ⟨a, cap, rfl, hm⟩ := h1.list_eq
  clear hm
  obtain ⟨i0, hi, hz0, hz1, hz2⟩ := info_parts Tryz.infoI
  go_enter Tryz.func53, Tryz.ntmps53
  go_wp2
  generalize hW0 : (w.alloc _).alloc _ = W0
  have hE0 : Ext w W0 := by subst hW0; exact ((Ext.refl _).alloc _).alloc _
  have hbx : W0.cell? ⟨w.heap.size, 1, none⟩ = some (.slice a len cap) := by
    subst hW0; exact box_cell ((Ext.refl _).alloc _) 1 _ rfl
  have hG0 : GSt W0 (w.heap.size + 1) 3 1 (intsF []) 0 (.slice (some ⟨w.heap.size + 1, 0, none⟩) 0 0) [] := by
    subst hW0
    have := GSt.made (w.alloc (.cells #[.slice a1 l1 k1, .slice a len cap, .int .i64 x2, .int .i64 x3] 26)) (w.heap.size + 1) 3 1 (intsF []) (by simp)
    simpa using this
  have hz : w.heap.size + 2 ≤ W0.heap.size := by subst hW0; simp
  clear hW0
  go_loopw [9, 10] (fun u i wr => ∃ (k : Nat) (cs : List Value), k ≤ len ∧ i = .int .i64 k ∧ GSt wr (w.heap.size + 1) 3 1 (intsF (eoIds f id way s k)) (eoIds f id way s k).length u cs ∧ Below (w.heap.size + 1) W0 wr) (fun _ i _ => len - (intOf i).toNat)
  case atStart => exact ⟨0, [], Nat.zero_le _, rfl, hG0, Below.refl _ _⟩
  case round =>
    obtain ⟨k, cs, hk, rfl, hG, hB⟩ := hrel
    have hE : Ext w wr := Below.trans hE0 (Below.mono hB (by omega))
    have hszr := Below.size hB
    have p0 : wr.cell? ⟨w.heap.size, 1, none⟩ = some (.slice a len cap) := by rw [Below.cell hB (by simp)]; exact hbx
    obtain ⟨ua, ucap, rfl⟩ := hG.shape
    by_cases hlt : k < len
    · obtain ⟨cap2, b, off, C, hsl, _, hbl, ec, hx⟩ := (h1.ext hE).at hlt
      cases hsl
      have HR := HRa k hlt
      obtain ⟨y0, g0⟩ := (show Has (f k 0) .int from HR 0 (by decide)).int
      obtain ⟨y1, g1⟩ := (show Has (f k 1) .str from HR 1 (by decide)).str
      obtain ⟨y2, g2⟩ := (show Has (f k 2) .int from HR 2 (by decide)).int
      obtain ⟨y3, g3⟩ := (show Has (f k 3) .int from HR 3 (by decide)).int
      have k0 := hx 0 (by decide)
      have k1' := hx 1 (by decide)
      have k2 := hx 2 (by decide)
      have k3 := hx 3 (by decide)
      obtain ⟨ya, yc, yl, _, _, v4, _, _⟩ := list_shape (r := 3) (show Has (f k 4) (.list 3) from HR 4 (by decide)) (hx 4 (by decide))
      rw [g0] at k0
      rw [g1] at k1'
      rw [g2] at k2
      rw [g3] at k3
      obtain ⟨v0, zid⟩ := k0.int_eq
      have v1 := k1'.str_eq.1
      have v2 := k2.int_eq.1
      have v3 := k3.int_eq.1
      have e0 := ec 0 (by decide)
      have e1 := ec 1 (by decide)
      have e2 := ec 2 (by decide)
      have e3 := ec 3 (by decide)
      have e4 := ec 4 (by decide)
      rw [v0] at e0
      rw [v1] at e1
      rw [v2] at e2
      rw [v3] at e3
      rw [v4] at e4
      simp only [Nat.add_zero] at e0
      have hidv : (f k 0).int! = y0 := by rw [g0]; rfl
      have hEB : Hid (eoB f id way s k = (((decide (0 ≤ way) && (y2 == id)) || (decide (way ≤ 0) && (y3 == id))) && ((s.toList == []) || (y1.toList == s.toList)))) := by
        show _ = _
        unfold eoB endsB
        rw [g1, g2, g3]
        rfl
      have hw := eo_len f id way s k
      have hsucc : Hid (eoIds f id way s (k + 1) = eoIds f id way s k ++ (if eoB f id way s k then [y0] else [])) := by rw [← hidv]; exact eo_succ f id way s k
      clear ec hx HR g0 g1 g2 g3 k0 k1' k2 k3 v0 v1 v2 v3 v4 hidv
      have hnew : Hid (∀ {wx w3 : World} {v' : Value}, Ext wr wx → w3.ownsRow (w.heap.size + 1) 3 1 v' ((eoIds f id way s k).length + 1) (cs ++ [.int .i64 y0]) → (wx.alloc (.cells #[.int .i64 y0] 3)).grownBy w3 (Value.slice ua (eoIds f id way s k).length ucap).ownBlock → (v'.ownBlock = (Value.slice ua (eoIds f id way s k).length ucap).ownBlock ∨ v'.ownBlock = some (wx.alloc (.cells #[.int .i64 y0] 3)).heap.size) →
          GSt w3 (w.heap.size + 1) 3 1 (intsF (eoIds f id way s k ++ [y0])) (eoIds f id way s k ++ [y0]).length v' (cs ++ [.int .i64 y0]) ∧ Below (w.heap.size + 1) W0 w3) := by
        intro wx w3 v' hEx hown hg hloc
        have hle := hEx.le
        exact ⟨hG.int_push (hEx.alloc _) (by omega) zid hown hg hloc rfl, Below.grown (Below.trans hB (Below.mono (hEx.alloc _) (by omega))) hg (by simp; omega) (fun j hj => (hG.row.lt j hj).1)⟩
      have hown0 := fun (wx : World) (hEx : Ext wr wx) => (hG.ext hEx).row
      have HOne : Hid (∀ (j : Nat) (u : Value), [Value.int .i64 y0][j]? = some u → ((wr.alloc (.cells #[.int .i64 y0, .string y1, .int .i64 y2, .int .i64 y3, .slice ya yl yc] 46)).alloc (.cells #[.int .i64 y0] 3)).cell? (Addr.add ⟨wr.heap.size + 1, 0, none⟩ j) = some u) := by
        have h := cell_one_new (wr.alloc (.cells #[.int .i64 y0, .string y1, .int .i64 y2, .int .i64 y3, .slice ya yl yc] 46)) (.int .i64 y0) 3
        rw [World.size_alloc] at h
        exact h
      generalize hln : (eoIds f id way s k).length = ln at *
      by_cases c1 : 0 ≤ way
      · cases b2 : (y2 == id)
        · by_cases c3 : way ≤ 0
          · cases b4 : (y3 == id)
            · have hw1 : Hid (eoIds f id way s (k + 1) = eoIds f id way s k) := by show _ = _; rw [hsucc.out, hEB.out]; simp [c1, c3, b2, b4]
              go_wp2
              go_roundw
              case rel => exact ⟨k + 1, cs, by omega, by go_num, by rw [hw1.out, hln]; exact hG.ext ((Ext.refl _).alloc _), Below.trans hB (Below.mono ((Ext.refl wr).alloc _) (by omega))⟩
              case measure => show len - ((k : Int) + 1).toNat < len - (k : Int).toNat; omega
            · cases b5 : (s.toList == [])
              · cases b6 : (y1.toList == s.toList)
                · have hw1 : Hid (eoIds f id way s (k + 1) = eoIds f id way s k) := by show _ = _; rw [hsucc.out, hEB.out]; simp [c1, c3, b2, b4, b5, b6]
                  go_wp2
                  go_roundw
                  case rel => exact ⟨k + 1, cs, by omega, by go_num, by rw [hw1.out, hln]; exact hG.ext ((Ext.refl _).alloc _), Below.trans hB (Below.mono ((Ext.refl wr).alloc _) (by omega))⟩
                  case measure => show len - ((k : Int) + 1).toNat < len - (k : Int).toNat; omega
                · have hw1 : Hid (eoIds f id way s (k + 1) = eoIds f id way s k ++ [y0]) := by show _ = _; rw [hsucc.out, hEB.out]; simp [c1, c3, b2, b4, b5, b6]
                  go_wp2_with (at_builtin; go_must (refine wpList_append_own_at _ rfl _ _ 29 rfl (w.heap.size + 1) 3 i0 _ 1 8 Tryz.underlying29 hi hz0 hz1 hz2 rfl (by decide) _ _ _ rfl ((hown0 _ ((Ext.refl _).alloc _)).alloc _) ⟨_, 0, none⟩ 1 1 [.int .i64 y0] rfl rfl HOne.out (by simp [Value.oneCell']) (by unfold maxLen; omega) (by omega) (by simp; omega) ?_); intro v' w3 hown' hgrow hnil hloc)
                  go_roundw
                  case rel =>
                    obtain ⟨s1, s2⟩ := hnew.out ((Ext.refl _).alloc _) hown' hgrow hloc
                    exact ⟨k + 1, _, by omega, by go_num, by rw [hw1.out]; exact s1, s2⟩
                  case measure => show len - ((k : Int) + 1).toNat < len - (k : Int).toNat; omega
              · have hw1 : Hid (eoIds f id way s (k + 1) = eoIds f id way s k ++ [y0]) := by show _ = _; rw [hsucc.out, hEB.out]; simp [c1, c3, b2, b4, b5]
                go_wp2_with (at_builtin; go_must (refine wpList_append_own_at _ rfl _ _ 29 rfl (w.heap.size + 1) 3 i0 _ 1 8 Tryz.underlying29 hi hz0 hz1 hz2 rfl (by decide) _ _ _ rfl ((hown0 _ ((Ext.refl _).alloc _)).alloc _) ⟨_, 0, none⟩ 1 1 [.int .i64 y0] rfl rfl HOne.out (by simp [Value.oneCell']) (by unfold maxLen; omega) (by omega) (by simp; omega) ?_); intro v' w3 hown' hgrow hnil hloc)
                go_roundw
                case rel =>
                  obtain ⟨s1, s2⟩ := hnew.out ((Ext.refl _).alloc _) hown' hgrow hloc
                  exact ⟨k + 1, _, by omega, by go_num, by rw [hw1.out]; exact s1, s2⟩
                case measure => show len - ((k : Int) + 1).toNat < len - (k : Int).toNat; omega
          · have hw1 : Hid (eoIds f id way s (k + 1) = eoIds f id way s k) := by show _ = _; rw [hsucc.out, hEB.out]; simp [c1, c3, b2]
            go_wp2
            go_roundw
            case rel => exact ⟨k + 1, cs, by omega, by go_num, by rw [hw1.out, hln]; exact hG.ext ((Ext.refl _).alloc _), Below.trans hB (Below.mono ((Ext.refl wr).alloc _) (by omega))⟩
            case measure => show len - ((k : Int) + 1).toNat < len - (k : Int).toNat; omega
        · cases b5 : (s.toList == [])
          · cases b6 : (y1.toList == s.toList)
            · have hw1 : Hid (eoIds f id way s (k + 1) = eoIds f id way s k) := by show _ = _; rw [hsucc.out, hEB.out]; simp [c1, b2, b5, b6]
              go_wp2
              go_roundw
              case rel => exact ⟨k + 1, cs, by omega, by go_num, by rw [hw1.out, hln]; exact hG.ext ((Ext.refl _).alloc _), Below.trans hB (Below.mono ((Ext.refl wr).alloc _) (by omega))⟩
              case measure => show len - ((k : Int) + 1).toNat < len - (k : Int).toNat; omega
            · have hw1 : Hid (eoIds f id way s (k + 1) = eoIds f id way s k ++ [y0]) := by show _ = _; rw [hsucc.out, hEB.out]; simp [c1, b2, b5, b6]
              go_wp2_with (at_builtin; go_must (refine wpList_append_own_at _ rfl _ _ 29 rfl (w.heap.size + 1) 3 i0 _ 1 8 Tryz.underlying29 hi hz0 hz1 hz2 rfl (by decide) _ _ _ rfl ((hown0 _ ((Ext.refl _).alloc _)).alloc _) ⟨_, 0, none⟩ 1 1 [.int .i64 y0] rfl rfl HOne.out (by simp [Value.oneCell']) (by unfold maxLen; omega) (by omega) (by simp; omega) ?_); intro v' w3 hown' hgrow hnil hloc)
              go_roundw
              case rel =>
                obtain ⟨s1, s2⟩ := hnew.out ((Ext.refl _).alloc _) hown' hgrow hloc
                exact ⟨k + 1, _, by omega, by go_num, by rw [hw1.out]; exact s1, s2⟩
              case measure => show len - ((k : Int) + 1).toNat < len - (k : Int).toNat; omega
          · have hw1 : Hid (eoIds f id way s (k + 1) = eoIds f id way s k ++ [y0]) := by show _ = _; rw [hsucc.out, hEB.out]; simp [c1, b2, b5]
            go_wp2_with (at_builtin; go_must (refine wpList_append_own_at _ rfl _ _ 29 rfl (w.heap.size + 1) 3 i0 _ 1 8 Tryz.underlying29 hi hz0 hz1 hz2 rfl (by decide) _ _ _ rfl ((hown0 _ ((Ext.refl _).alloc _)).alloc _) ⟨_, 0, none⟩ 1 1 [.int .i64 y0] rfl rfl HOne.out (by simp [Value.oneCell']) (by unfold maxLen; omega) (by omega) (by simp; omega) ?_); intro v' w3 hown' hgrow hnil hloc)
            go_roundw
            case rel =>
              obtain ⟨s1, s2⟩ := hnew.out ((Ext.refl _).alloc _) hown' hgrow hloc
              exact ⟨k + 1, _, by omega, by go_num, by rw [hw1.out]; exact s1, s2⟩
            case measure => show len - ((k : Int) + 1).toNat < len - (k : Int).toNat; omega
      · have c3 : way ≤ 0 := by omega
        cases b4 : (y3 == id)
        · have hw1 : Hid (eoIds f id way s (k + 1) = eoIds f id way s k) := by show _ = _; rw [hsucc.out, hEB.out]; simp [c1, c3, b4]
          go_wp2
          go_roundw
          case rel => exact ⟨k + 1, cs, by omega, by go_num, by rw [hw1.out, hln]; exact hG.ext ((Ext.refl _).alloc _), Below.trans hB (Below.mono ((Ext.refl wr).alloc _) (by omega))⟩
          case measure => show len - ((k : Int) + 1).toNat < len - (k : Int).toNat; omega
        · cases b5 : (s.toList == [])
          · cases b6 : (y1.toList == s.toList)
            · have hw1 : Hid (eoIds f id way s (k + 1) = eoIds f id way s k) := by show _ = _; rw [hsucc.out, hEB.out]; simp [c1, c3, b4, b5, b6]
              go_wp2
              go_roundw
              case rel => exact ⟨k + 1, cs, by omega, by go_num, by rw [hw1.out, hln]; exact hG.ext ((Ext.refl _).alloc _), Below.trans hB (Below.mono ((Ext.refl wr).alloc _) (by omega))⟩
              case measure => show len - ((k : Int) + 1).toNat < len - (k : Int).toNat; omega
            · have hw1 : Hid (eoIds f id way s (k + 1) = eoIds f id way s k ++ [y0]) := by show _ = _; rw [hsucc.out, hEB.out]; simp [c1, c3, b4, b5, b6]
              go_wp2_with (at_builtin; go_must (refine wpList_append_own_at _ rfl _ _ 29 rfl (w.heap.size + 1) 3 i0 _ 1 8 Tryz.underlying29 hi hz0 hz1 hz2 rfl (by decide) _ _ _ rfl ((hown0 _ ((Ext.refl _).alloc _)).alloc _) ⟨_, 0, none⟩ 1 1 [.int .i64 y0] rfl rfl HOne.out (by simp [Value.oneCell']) (by unfold maxLen; omega) (by omega) (by simp; omega) ?_); intro v' w3 hown' hgrow hnil hloc)
              go_roundw
              case rel =>
                obtain ⟨s1, s2⟩ := hnew.out ((Ext.refl _).alloc _) hown' hgrow hloc
                exact ⟨k + 1, _, by omega, by go_num, by rw [hw1.out]; exact s1, s2⟩
              case measure => show len - ((k : Int) + 1).toNat < len - (k : Int).toNat; omega
          · have hw1 : Hid (eoIds f id way s (k + 1) = eoIds f id way s k ++ [y0]) := by show _ = _; rw [hsucc.out, hEB.out]; simp [c1, c3, b4, b5]
            go_wp2_with (at_builtin; go_must (refine wpList_append_own_at _ rfl _ _ 29 rfl (w.heap.size + 1) 3 i0 _ 1 8 Tryz.underlying29 hi hz0 hz1 hz2 rfl (by decide) _ _ _ rfl ((hown0 _ ((Ext.refl _).alloc _)).alloc _) ⟨_, 0, none⟩ 1 1 [.int .i64 y0] rfl rfl HOne.out (by simp [Value.oneCell']) (by unfold maxLen; omega) (by omega) (by simp; omega) ?_); intro v' w3 hown' hgrow hnil hloc)
            go_roundw
            case rel =>
              obtain ⟨s1, s2⟩ := hnew.out ((Ext.refl _).alloc _) hown' hgrow hloc
              exact ⟨k + 1, _, by omega, by go_num, by rw [hw1.out]; exact s1, s2⟩
            case measure => show len - ((k : Int) + 1).toNat < len - (k : Int).toNat; omega
    · have hkx : k = len := by omega
      subst hkx
      have hw := eo_len f id way s k
      obtain ⟨hD, _⟩ := hG.end (by unfold maxLen; omega)
      have hD' : Hid (DIn (New w.heap.size wr.heap.size) wr (intsD (eoIds f id way s k)) (.slice ua (eoIds f id way s k).length ucap)) := hD.mono (fun x hx => ⟨by have := hx.1; omega, hx.2⟩)
      clear hD
      go_wp2
      go_ret
      exact ⟨_, _, _, rfl, hD'.out, hE⟩
end Go.Proofs.YtbhmblkappmfjaaGreat

/- The answer of NodeDrop, as data. -/
namespace Go.Proofs.YtbhmblkappmfjaaGreat
open Go.RowKit Go.Deep

theorem dropF_rowR {r : Nat} {f : Nat → Nat → D} {len k : Nat} (h : ∀ i, i < len → HasRow r (f i)) (hk : k < len) : ∀ i, i < len - 1 → HasRow r (dropF f k i) := fun i hi => by
  unfold dropF
  split
  · exact h i (by omega)
  · exact h (i + 1) (by omega)
theorem dropF_inc {f : Nat → Nat → D} {len k : Nat} (h : ∀ i j, i < j → j < len → (f i 0).int! < (f j 0).int!) : ∀ i j, i < j → j < len - 1 → (dropF f k i 0).int! < (dropF f k j 0).int! := fun i j hij hj => by
  unfold dropF
  split <;> split
  · exact h i j hij (by omega)
  · exact h i (j + 1) (by omega) (by omega)
  · omega
  · exact h (i + 1) (j + 1) (by omega) (by omega)
theorem dropF_mem {f : Nat → Nat → D} {len k : Nat} {x : Int} (hinc : ∀ i j, i < j → j < len → (f i 0).int! < (f j 0).int!) (hk : k < len) : x ∈ idsOf (dropF f k) (len - 1) ↔ x ∈ idsOf f len ∧ x ≠ (f k 0).int! := by
  unfold idsOf
  simp only [List.mem_map, List.mem_range]
  constructor
  · rintro ⟨i, hi, rfl⟩
    unfold dropF
    split
    · exact ⟨⟨i, by omega, rfl⟩, by have := hinc i k (by assumption) hk; omega⟩
    · exact ⟨⟨i + 1, by omega, rfl⟩, by have := hinc k (i + 1) (by omega) (by omega); omega⟩
  · rintro ⟨⟨i, hi, rfl⟩, hne⟩
    by_cases h1 : i < k
    · exact ⟨i, by omega, by unfold dropF; rw [if_pos h1]⟩
    · have h2 : i ≠ k := fun e => hne (by rw [e])
      exact ⟨i - 1, by omega, by unfold dropF; rw [if_neg (by omega), show i - 1 + 1 = i by omega]⟩
/-- What is left of a list of rows of n leaves. -/
def dropL (n : Nat) (d : D) (a : Option Nat) : D := match a with | some k => .list n (d.len! - 1) (dropF d.at! k) | none => d
theorem edL_dropL (d : D) (a : Option Nat) : edL d a = dropL 5 d a := by cases a <;> rfl
theorem dropL_has {r : Nat} {d : D} {id : Int} (H : Has d (.list r)) : Has (dropL (rowsOf r).length d (edK d id)) (.list r) := by
  cases h : edK d id with
  | none => exact H
  | some k =>
    obtain ⟨len, f, rfl, HR⟩ := H.list
    exact ⟨r, rfl, rfl, fun i hi j hj => dropF_rowR HR (edK_some h).1 i hi j hj⟩
theorem dropL_lenOk {r : Nat} {d : D} {id : Int} (H : Has d (.list r)) (s : LenOk d) : LenOk (dropL (rowsOf r).length d (edK d id)) := by
  cases h : edK d id with
  | none => exact s
  | some k =>
    obtain ⟨len, f, rfl, _⟩ := H.list
    have hl := s.1
    have hk := (edK_some h).1
    change k < len at hk
    refine ⟨by show len - 1 ≤ _; omega, fun i hi j hj => ?_⟩
    change i < len - 1 at hi
    show LenOk (dropF f k i j)
    unfold dropF
    split
    · exact s.2 i (by omega) j hj
    · exact s.2 (i + 1) (by omega) j hj
theorem dropL_cnt {r : Nat} {d : D} {id : Int} (H : Has d (.list r)) : cntD (dropL (rowsOf r).length d (edK d id)) ≤ cntD d := by
  cases h : edK d id with
  | none => exact Nat.le_refl _
  | some k =>
    obtain ⟨len, f, rfl, _⟩ := H.list
    have hk := (edK_some h).1
    change k < len at hk
    show sumN (fun i => sumN (fun j => cntD (dropF f k i j)) (rowsOf r).length) (len - 1) ≤ sumN (fun i => sumN (fun j => cntD (f i j)) (rowsOf r).length) len
    have hd := sumN_drop (fun i => sumN (fun j => cntD (f i j)) (rowsOf r).length) k (len - 1)
    rw [show len - 1 + 1 = len by omega] at hd
    refine Nat.le_trans (Nat.le_of_eq (sumN_congr fun i hi => ?_)) hd
    unfold dropF
    split <;> rfl
theorem dropL_inc {n : Nat} {d : D} {id : Int} (h : incD d) : incD (dropL n d (edK d id)) := by
  cases e : edK d id with
  | none => exact h
  | some k => exact dropF_inc (f := d.at!) h
theorem dropL_len {n : Nat} {d : D} {a : Option Nat} : (dropL n d a).len! ≤ d.len! := by
  cases a with
  | none => exact Nat.le_refl _
  | some k => exact Nat.sub_le _ _
theorem dropL_mem {n : Nat} {d : D} {id x : Int} (h : incD d) : x ∈ idsOf (dropL n d (edK d id)).at! (dropL n d (edK d id)).len! ↔ x ∈ idsOf d.at! d.len! ∧ x ≠ id := by
  cases e : edK d id with
  | none =>
    refine ⟨fun hx => ⟨hx, fun ex => ?_⟩, fun hx => hx.1⟩
    obtain ⟨k, hk⟩ := edK_in (ex ▸ hx)
    change edK d id = some k at hk
    rw [e] at hk
    cases hk
  | some k =>
    obtain ⟨h1, h2, _⟩ := edK_some e
    have := dropF_mem (f := d.at!) (x := x) h h1
    rw [h2] at this
    exact this
/-- Without all edges of these numbers. -/
def dropIds (d : D) (l : List Int) : D := l.foldl (fun d id => edL d (edK d id)) d
theorem dropIds_snoc (d : D) (l : List Int) (x : Int) : dropIds d (l ++ [x]) = edL (dropIds d l) (edK (dropIds d l) x) := by simp [dropIds]
/-- What is true of what is left. -/
structure Left (d d' : D) (l : List Int) : Prop where
  has : Has d' (.list 5)
  len : d'.len! ≤ d.len!
  ok : LenOk d → LenOk d'
  cnt : cntD d' ≤ cntD d
  inc : incD d'
  mem : ∀ x, x ∈ idsOf d'.at! d'.len! ↔ x ∈ idsOf d.at! d.len! ∧ x ∉ l
theorem left_of {d : D} (H : Has d (.list 5)) (h : incD d) (l : List Int) : Left d (dropIds d l) l := by
  have key : ∀ m : List Int, Left d (dropIds d m.reverse) m.reverse := by
    intro m
    induction m with
    | nil => exact ⟨H, Nat.le_refl _, id, Nat.le_refl _, h, fun x => by simp [dropIds]⟩
    | cons a m ih =>
      rw [List.reverse_cons, dropIds_snoc, edL_dropL]
      exact ⟨dropL_has (r := 5) ih.has, Nat.le_trans dropL_len ih.len, fun s => dropL_lenOk (r := 5) ih.has (ih.ok s), Nat.le_trans (dropL_cnt (r := 5) ih.has) ih.cnt, dropL_inc ih.inc, fun x => by
        rw [dropL_mem ih.inc, ih.mem]
        simp [and_assoc]⟩
  have := key l.reverse
  rwa [List.reverse_reverse] at this
/-- The edges of a node. -/
def ndIds (d1 : D) (id : Int) : List Int := eoIds d1.at! id 0 ⟨#[]⟩ d1.len!
theorem ndIds_mem {d1 : D} {id x : Int} (h : x ∈ ndIds d1 id) : x ∈ idsOf d1.at! d1.len! := by
  obtain ⟨i, hi, e⟩ := List.mem_map.1 h
  exact List.mem_map.2 ⟨i, (List.mem_filter.1 hi).1, e⟩
theorem ndIds_nodup {d1 : D} {id : Int} (h : incD d1) : (ndIds d1 id).Nodup := by
  unfold ndIds eoIds
  show List.Pairwise (· ≠ ·) _
  rw [List.pairwise_map]
  refine List.Pairwise.imp_of_mem ?_ (List.Pairwise.filter _ List.pairwise_lt_range)
  intro i j hi hj hij
  have := h i j hij (List.mem_range.1 (List.mem_filter.1 hj).1)
  omega
theorem ndIds_len (d1 : D) (id : Int) : (ndIds d1 id).length ≤ d1.len! := eo_len _ _ _ _ _
/-- The next one is still there. -/
theorem ndIds_next {d1 : D} {id : Int} (H : Has d1 (.list 5)) (h : incD d1) {j : Nat} (hj : j < (ndIds d1 id).length) : ∃ k, edK (dropIds d1 ((ndIds d1 id).take j)) (ndIds d1 id)[j] = some k := by
  refine edK_in (((left_of H h _).mem _).2 ⟨ndIds_mem (List.getElem_mem hj), fun hm => ?_⟩)
  obtain ⟨i, hi, e⟩ := List.getElem_of_mem hm
  rw [List.getElem_take] at e
  have hij : i < j := by rw [List.length_take] at hi; omega
  have := List.pairwise_iff_getElem.1 (ndIds_nodup (id := id) h) i j (by omega) hj hij
  exact this e
theorem ndIds_step (d1 : D) (id : Int) {j : Nat} (hj : j < (ndIds d1 id).length) : dropIds d1 ((ndIds d1 id).take (j + 1)) = edL (dropIds d1 ((ndIds d1 id).take j)) (edK (dropIds d1 ((ndIds d1 id).take j)) (ndIds d1 id)[j]) := by
  rw [List.take_add_one, List.getElem?_eq_getElem hj]
  exact dropIds_snoc _ _ _
end Go.Proofs.YtbhmblkappmfjaaGreat

/- What spec.EdgesOf answers. -/
namespace Go.Proofs.YtbhmblkappmfjaaGreat
open Go.RowKit Go.Deep

/-- The numbers that EdgesOf answers; n: the graph is ok, and the node is there. -/
def eoAns (n : Bool) (d1 : D) (id way : Int) (s : ByteArray) : List Int := if (n && inB way (-1) 1) = true then eoIds d1.at! id way s d1.len! else []
end Go.Proofs.YtbhmblkappmfjaaGreat
