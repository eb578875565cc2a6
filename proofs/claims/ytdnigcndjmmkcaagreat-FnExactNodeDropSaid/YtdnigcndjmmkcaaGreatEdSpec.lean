/- What spec.l2Edge and spec.l2DropEdge answer. -/
import Derived.Test.YtdnigcndjmmkcaaGreatPgDef
import Derived.Test.YtdnigcndjmmkcaaGreatEdDef
import Derived.Test.YtdnigcndjmmkcaaGreatL2Copy
import Derived.Test.YtdnigcndjmmkcaaGreatNetEnd
namespace Go.Proofs.YtdnigcndjmmkcaaGreat
open Go.RowKit Go.Deep

theorem rows_din {w : World} {b0 n len : Nat} {S : Nat → Prop} {T : TypeId} {u : Value} {f : Nat → Nat → D} {C : Nat → Nat → Value} (hown : w.ownsRow b0 T n u len (rowCells n C len))
    (hC : ∀ i, i < len → ∀ c, c < n → DIn S w (f i c) (C i c)) (hl : len ≤ maxLen) : DIn (fun x => S x ∨ b0 ≤ x ∧ x < w.heap.size) w (.list n len f) u := by
  rcases hown.2 with ⟨rfl, rfl⟩ | ⟨g, cap, cur, rfl, hb, hg, _⟩
  · exact ⟨none, 0, 0, 0, rfl, Nat.zero_le _, fun h => by omega, fun i hi => by omega⟩
  · have hglt : g < w.heap.size := lt_of_block hg
    have hcell : ∀ i, i < len → ∀ c, c < n → w.cell? ⟨g, 0 + i * n + c, none⟩ = some (C i c) := by
      intro i hi c hc
      have := hown.cells (g := g) rfl (i * n + c) (C i c) (rowCells_get n C len i hi c hc)
      rw [Go.WideShapes.add_plain] at this
      rw [Nat.add_assoc]
      exact this
    exact ⟨_, cap, g, 0, rfl, hl, fun _ => ⟨rfl, .inr ⟨hb, hglt⟩, hglt⟩, fun i hi c hc => ⟨C i c, hcell i hi c hc, (hC i hi c hc).mono (fun x hx => .inl hx)⟩⟩
theorem row_shape {w : World} {base : Nat} {e : TypeId} {sz : Nat} {u : Value} {n : Nat} {xs : List Value} (h : w.ownsRow base e sz u n xs) : ∃ a c, u = .slice a n c := by
  rcases h.2 with ⟨e, e2⟩ | ⟨g, cap, cur, e, _⟩
  · exact ⟨none, 0, by rw [e, e2]⟩
  · exact ⟨_, _, e⟩
/-- How many of the first i are left. -/
def leftN (k i : Nat) : Nat := if i ≤ k then i else i - 1
def dropC (C : Nat → Nat → Value) (k : Nat) : Nat → Nat → Value := fun i => if i < k then C i else C (i + 1)
theorem leftN_at {C : Nat → Nat → Value} {k i : Nat} (h : i ≠ k) : leftN k (i + 1) = leftN k i + 1 ∧ dropC C k (leftN k i) = C i := by
  unfold leftN dropC
  by_cases h1 : i ≤ k
  · rw [if_pos h1, if_pos (by omega), if_pos (by omega)]; exact ⟨rfl, rfl⟩
  · rw [if_neg h1, if_neg (by omega), if_neg (by omega), show i - 1 + 1 = i by omega]; exact ⟨by omega, rfl⟩
theorem leftN_k (k : Nat) : leftN k (k + 1) = leftN k k := by simp [leftN]
theorem leftN_le (k i : Nat) : leftN k i ≤ i := by unfold leftN; split <;> omega
theorem din_cells {S : Nat → Prop} {w : World} {n len : Nat} {f : Nat → Nat → D} {v : Value} (h : DIn S w (.list n len f) v) (hl : 0 < len) :
    ∃ cap b off, ∃ C : Nat → Nat → Value, v = .slice (some ⟨b, off, none⟩) len cap ∧ b < w.heap.size ∧ ∀ i, i < len → ∀ j, j < n → w.cell? ⟨b, off + i * n + j, none⟩ = some (C i j) ∧ DIn S w (f i j) (C i j) := by
  obtain ⟨a, cap, b, off, rfl, _, ha, hc⟩ := h
  obtain ⟨rfl, _, hb⟩ := ha hl
  refine ⟨cap, b, off, fun i j => (w.cell? ⟨b, off + i * n + j, none⟩).getD undef, rfl, hb, fun i hi j hj => ?_⟩
  obtain ⟨c, h1, h2⟩ := hc i hi j hj
  dsimp only
  rw [h1]
  exact ⟨rfl, h2⟩

set_option maxRecDepth 100000 in
set_option maxHeartbeats 8000000 in
theorem l2DropEdge_any (S : Nat → Prop) (d1 : D) (id : Int) (k : Nat) (c0 c1 : Value) (x2 x3 : Int) (w : World) (H1 : Has d1 (.list 5)) (h1 : DIn S w d1 c1) (hS : ∀ x, S x → x < w.heap.size) (hk : edK d1 id = some k) (hinc : ∀ i j, i < j → j < d1.len! → (d1.at! i 0).int! < (d1.at! j 0).int!) (hc0 : ∃ a l c, c0 = .slice a l c) (hl : d1.len! ≤ 16) :
    Calls Tryz.prog 36 #[.agg #[c0, c1, .int .i64 x2, .int .i64 x3], .int .i64 id] w fun e w' => ∃ v, e = .returned (.agg #[c0, v, .int .i64 x2, .int .i64 x3]) ∧ DIn (fun x => S x ∨ w.heap.size ≤ x ∧ x < w'.heap.size) w' (.list 5 (d1.len! - 1) (dropF d1.at! k)) v ∧ Ext w w' := by
  obtain ⟨a0, l0, k0, rfl⟩ := hc0
  obtain ⟨hkl, hkid, _⟩ := edK_some hk
  obtain ⟨len, f, rfl, HRa⟩ := H1.list
  change DIn S w (.list 5 len f) c1 at h1
  change k < len at hkl
  change (f k 0).int! = id at hkid
  change ∀ i j, i < j → j < len → (f i 0).int! < (f j 0).int! at hinc
  change len ≤ 16 at hl
  change Calls _ _ _ _ fun e w' => ∃ v, e = .returned (.agg #[.slice a0 l0 k0, v, .int .i64 x2, .int .i64 x3]) ∧ DIn (fun x => S x ∨ w.heap.size ≤ x ∧ x < w'.heap.size) w' (.list 5 (len - 1) (dropF f k)) v ∧ Ext w w'
  obtain ⟨cap, b, off, C, rfl, hb, hcd⟩ := din_cells h1 (by omega)
  have hne : ∀ i, i < len → i ≠ k → (f i 0).int! ≠ id := fun i hi h => by
    rw [← hkid]
    rcases Nat.lt_or_gt_of_ne h with h | h
    · have := hinc i k h hkl; omega
    · have := hinc k i h hi; omega
  clear hinc hk
  obtain ⟨i1, hi1, hz10, hz11, hz12⟩ := info_parts Tryz.infoEc
  go_enter Tryz.func36, Tryz.ntmps36
  go_wp2
  generalize hW0 : World.alloc _ _ = W0
  have hE0 : Ext w W0 := by subst hW0; exact (((Ext.refl _).alloc _).alloc _).alloc _
  have hz0 : w.heap.size + 3 ≤ W0.heap.size := by subst hW0; simp
  have hb0 : W0.cell? ⟨w.heap.size, 0, none⟩ = some (.slice a0 l0 k0) ∧ W0.cell? ⟨w.heap.size, 1, none⟩ = some (.slice (some ⟨b, off, none⟩) len cap) ∧ W0.cell? ⟨w.heap.size, 2, none⟩ = some (.int .i64 x2) ∧ W0.cell? ⟨w.heap.size, 3, none⟩ = some (.int .i64 x3) ∧ ∀ o, W0.frozen? ⟨w.heap.size, o, none⟩ = false := by
    subst hW0
    have hx := (((Ext.refl (w.alloc (.cells #[.slice a0 l0 k0, .slice (some ⟨b, off, none⟩) len cap, .int .i64 x2, .int .i64 x3] 30))).alloc (.cells #[.slice none 0 0, .slice none 0 0, .int .i64 0, .int .i64 0] 30)).alloc (.cells #[] 67))
    exact ⟨box_cell hx 0 _ rfl, box_cell hx 1 _ rfl, box_cell hx 2 _ rfl, box_cell hx 3 _ rfl, fun o => by rw [(bcell hx).2 _ _ (by simp)]; simp⟩
  have hb1 : (W0.cell? ⟨w.heap.size + 1, 0, none⟩ = some (.slice none 0 0) ∧ W0.cell? ⟨w.heap.size + 1, 1, none⟩ = some (.slice none 0 0) ∧ W0.cell? ⟨w.heap.size + 1, 2, none⟩ = some (.int .i64 0) ∧ W0.cell? ⟨w.heap.size + 1, 3, none⟩ = some (.int .i64 0)) ∧ ∀ o, W0.frozen? ⟨w.heap.size + 1, o, none⟩ = false := by
    subst hW0
    have hx := ((Ext.refl ((w.alloc (.cells #[.slice a0 l0 k0, .slice (some ⟨b, off, none⟩) len cap, .int .i64 x2, .int .i64 x3] 30)).alloc (.cells #[.slice none 0 0, .slice none 0 0, .int .i64 0, .int .i64 0] 30))).alloc (.cells #[] 67))
    have hs : (w.alloc (.cells #[.slice a0 l0 k0, .slice (some ⟨b, off, none⟩) len cap, .int .i64 x2, .int .i64 x3] 30)).heap.size = w.heap.size + 1 := by simp
    rw [← hs]
    exact ⟨⟨box_cell hx 0 _ rfl, box_cell hx 1 _ rfl, box_cell hx 2 _ rfl, box_cell hx 3 _ rfl⟩, fun o => by rw [(bcell hx).2 _ _ (by simp)]; simp⟩
  have hown0 : W0.ownsRow (w.heap.size + 2) 67 5 (.slice (some ⟨w.heap.size + 2, 0, none⟩) 0 0) 0 [] := by
    subst hW0
    have := World.ownsRow_made (e := 67) (size := 5) (base := w.heap.size + 2) ((w.alloc (.cells #[.slice a0 l0 k0, .slice (some ⟨b, off, none⟩) len cap, .int .i64 x2, .int .i64 x3] 30)).alloc (.cells #[.slice none 0 0, .slice none 0 0, .int .i64 0, .int .i64 0] 30)) #[] 0 (by simp) (Nat.zero_le _) (by simp)
    simpa using this
  clear hW0
  go_loopw [5, 6] (fun u i wr => ∃ j : Nat, j ≤ len ∧ i = .int .i64 j ∧ wr.ownsRow (w.heap.size + 2) 67 5 u (leftN k j) (rowCells 5 (dropC C k) (leftN k j)) ∧ Below (w.heap.size + 2) W0 wr) (fun _ i _ => len - (intOf i).toNat)
  case atStart => exact ⟨0, Nat.zero_le _, rfl, by rw [show leftN k 0 = 0 by simp [leftN]]; exact hown0, Below.refl _ _⟩
  case round =>
    obtain ⟨j, hj, rfl, hown, hB⟩ := hrel
    have hE : Ext w wr := Below.trans hE0 (Below.mono hB (by omega))
    have hszr := Below.size hB
    have p1 : wr.cell? ⟨w.heap.size, 1, none⟩ = some (.slice (some ⟨b, off, none⟩) len cap) := by rw [Below.cell hB (by simp)]; exact hb0.2.1
    obtain ⟨ua, ucap, rfl⟩ := row_shape hown
    have hlj := leftN_le k j
    by_cases hlt : j < len
    · have ec := fun c (hc : c < 5) => (hE.cell (p := ⟨b, off + j * 5 + c, none⟩) hb).trans (hcd j hlt c hc).1
      have hx := fun c (hc : c < 5) => (hcd j hlt c hc).2
      have HR := HRa j hlt
      obtain ⟨y0, g0⟩ := (show Has (f j 0) .int from HR 0 (by decide)).int
      obtain ⟨y1, g1⟩ := (show Has (f j 1) .str from HR 1 (by decide)).str
      obtain ⟨y2, g2⟩ := (show Has (f j 2) .int from HR 2 (by decide)).int
      obtain ⟨y3, g3⟩ := (show Has (f j 3) .int from HR 3 (by decide)).int
      have k0' := hx 0 (by decide)
      have k1' := hx 1 (by decide)
      have k2' := hx 2 (by decide)
      have k3' := hx 3 (by decide)
      obtain ⟨ya, yc, yl, _, _, v4, _, _⟩ := list_shape (r := 3) (show Has (f j 4) (.list 3) from HR 4 (by decide)) (hx 4 (by decide))
      rw [g0] at k0'
      rw [g1] at k1'
      rw [g2] at k2'
      rw [g3] at k3'
      have v0 := k0'.int_eq.1
      have v1 := k1'.str_eq.1
      have v2 := k2'.int_eq.1
      have v3 := k3'.int_eq.1
      have e0 := ec 0 (by decide)
      have e1 := ec 1 (by decide)
      have e2 := ec 2 (by decide)
      have e3 := ec 3 (by decide)
      have e4 := ec 4 (by decide)
      rw [v0] at e0
      rw [v1] at e1
      rw [v2] at e2
      rw [v3] at e3
      rw [v4] at e4
      simp only [Nat.add_zero] at e0
      have hrow : Hid ((List.range 5).map (C j) = [.int .i64 y0, .string y1, .int .i64 y2, .int .i64 y3, .slice ya yl yc]) := by
        show [C j 0, C j 1, C j 2, C j 3, C j 4] = _
        rw [v0, v1, v2, v3, v4]
      have hy0 : (f j 0).int! = y0 := by rw [g0]; rfl
      clear ec hx HR g0 g1 g2 g3 k0' k1' k2' k3' v0 v1 v2 v3 v4
      by_cases hjk : j = k
      · have hyid : y0 = id := by rw [← hy0, hjk]; exact hkid
        have hlk : Hid (leftN k (j + 1) = leftN k j) := by show _ = _; rw [hjk]; exact leftN_k k
        clear hy0 hjk
        subst hyid
        go_wp2
        go_roundw
        case rel => exact ⟨j + 1, by omega, by go_num, by rw [hlk.out]; exact hown, hB⟩
        case measure => show len - ((j : Int) + 1).toNat < len - (j : Int).toNat; omega
      · have hyid : (y0 == id) = false := by have := hne j hlt hjk; rw [hy0] at this; simpa using this
        obtain ⟨hk1, hk2⟩ := leftN_at (C := C) hjk
        have hcs : Hid (rowCells 5 (dropC C k) (leftN k (j + 1)) = rowCells 5 (dropC C k) (leftN k j) ++ [.int .i64 y0, .string y1, .int .i64 y2, .int .i64 y3, .slice ya yl yc]) := by
          show _ = _
          rw [hk1]
          show rowCells 5 (dropC C k) (leftN k j) ++ (List.range 5).map (dropC C k (leftN k j)) = _
          rw [hk2, hrow.out]
        have hk1' : Hid (leftN k (j + 1) = leftN k j + 1) := hk1
        clear hk1 hk2 hy0 hjk
        generalize leftN k j = ln at *
        go_wp2_with (at_builtin; refine wpList_append_own_at _ rfl _ _ 28 rfl (w.heap.size + 2) 67 i1 _ 5 64 Tryz.underlying28 hi1 hz10 hz11 hz12 rfl (by decide) _ _ _ rfl (hown.alloc _) ⟨_, 0, none⟩ 1 1 [.int .i64 y0, .string y1, .int .i64 y2, .int .i64 y3, .slice ya yl yc] rfl rfl (World.news_of_block (cs := #[.int .i64 y0, .string y1, .int .i64 y2, .int .i64 y3, .slice ya yl yc]) (t := 67) (fr := (0, 0)) (heap_alloc_new _ _)) (by simp [Value.oneCell']) (by unfold maxLen; omega) (by omega) (by simp; omega) ?_; intro v' w3 hown' hgrow hnil hloc)
        clear hcd hne hb0 hb1
        go_roundw
        case rel => exact ⟨j + 1, by omega, by go_num, by have h2 := hcs.out; rw [hk1'.out] at h2 ⊢; rw [h2]; exact hown', Below.grown (Below.trans hB (Below.mono ((Ext.refl wr).alloc _) (by omega))) hgrow (by simp; omega) (fun x hx => (hown.lt x hx).1)⟩
        case measure => show len - ((j : Int) + 1).toNat < len - (j : Int).toNat; omega
    · have hje : j = len := by omega
      subst hje
      have hln : leftN k j = j - 1 := by unfold leftN; rw [if_neg (by omega)]
      rw [hln] at hown ⊢
      have hp : wr.cell? ⟨w.heap.size, 0, none⟩ = some (.slice a0 l0 k0) ∧ wr.cell? ⟨w.heap.size, 2, none⟩ = some (.int .i64 x2) ∧ wr.cell? ⟨w.heap.size, 3, none⟩ = some (.int .i64 x3) ∧ ∀ o, wr.frozen? ⟨w.heap.size, o, none⟩ = false := by
        refine ⟨by rw [Below.cell hB (by simp)]; exact hb0.1, by rw [Below.cell hB (by simp)]; exact hb0.2.2.1, by rw [Below.cell hB (by simp)]; exact hb0.2.2.2.1, fun o => by rw [Below.frozen hB (by simp)]; exact hb0.2.2.2.2 o⟩
      have ht : (wr.cell? ⟨w.heap.size + 1, 0, none⟩ = some (.slice none 0 0) ∧ wr.cell? ⟨w.heap.size + 1, 1, none⟩ = some (.slice none 0 0) ∧ wr.cell? ⟨w.heap.size + 1, 2, none⟩ = some (.int .i64 0) ∧ wr.cell? ⟨w.heap.size + 1, 3, none⟩ = some (.int .i64 0)) ∧ ∀ o, wr.frozen? ⟨w.heap.size + 1, o, none⟩ = false :=
        ⟨⟨by rw [Below.cell hB (by simp)]; exact hb1.1.1, by rw [Below.cell hB (by simp)]; exact hb1.1.2.1, by rw [Below.cell hB (by simp)]; exact hb1.1.2.2.1, by rw [Below.cell hB (by simp)]; exact hb1.1.2.2.2⟩, fun o => by rw [Below.frozen hB (by simp)]; exact hb1.2 o⟩
      have hdin : DIn (fun x => S x ∨ w.heap.size + 2 ≤ x ∧ x < wr.heap.size) wr (.list 5 (j - 1) (dropF f k)) (.slice ua (j - 1) ucap) := by
        refine rows_din hown (fun i hi c hc => ?_) (by unfold maxLen; omega)
        unfold dropF dropC
        split
        · exact (hcd i (by omega) c hc).2.ext hE
        · exact (hcd (i + 1) (by omega) c hc).2.ext hE
      have hX : ∀ v0 v1 v2 v3 v4 : Value, Hid (DIn (fun x => S x ∨ w.heap.size ≤ x ∧ x < wr.heap.size) (((((wr.setCell ⟨w.heap.size, 1, none⟩ v0).setCell ⟨w.heap.size + 1, 0, none⟩ v1).setCell ⟨w.heap.size + 1, 1, none⟩ v2).setCell ⟨w.heap.size + 1, 2, none⟩ v3).setCell ⟨w.heap.size + 1, 3, none⟩ v4) (.list 5 (j - 1) (dropF f k)) (.slice ua (j - 1) ucap) ∧ Ext w (((((wr.setCell ⟨w.heap.size, 1, none⟩ v0).setCell ⟨w.heap.size + 1, 0, none⟩ v1).setCell ⟨w.heap.size + 1, 1, none⟩ v2).setCell ⟨w.heap.size + 1, 2, none⟩ v3).setCell ⟨w.heap.size + 1, 3, none⟩ v4)) := fun v0 v1 v2 v3 v4 => by
        have n0 : ¬ (S w.heap.size ∨ w.heap.size + 2 ≤ w.heap.size ∧ w.heap.size < wr.heap.size) := fun h => h.elim (fun h => by have := hS _ h; omega) (fun h => by omega)
        have n1 : ¬ (S (w.heap.size + 1) ∨ w.heap.size + 2 ≤ w.heap.size + 1 ∧ w.heap.size + 1 < wr.heap.size) := fun h => h.elim (fun h => by have := hS _ h; omega) (fun h => by omega)
        exact ⟨(((((hdin.setCell n0 _).setCell n1 _).setCell n1 _).setCell n1 _).setCell n1 _).mono (fun x hx => hx.elim .inl (fun h => .inr ⟨by omega, h.2⟩)), ((((hE.setCell (Nat.le_refl _) _).setCell (Nat.le_succ _) _).setCell (Nat.le_succ _) _).setCell (Nat.le_succ _) _).setCell (Nat.le_succ _) _⟩
      obtain ⟨q0, q2, q3, qf⟩ := hp
      obtain ⟨⟨t0, t1, t2, t3⟩, tf⟩ := ht
      have qf1 := qf 1
      have tf0 := tf 0
      have tf1 := tf 1
      have tf2 := tf 2
      have tf3 := tf 3
      clear hdin hcd hne hb0 hb1 qf tf hown hB hown0
      go_wp2
      refine bodyPost_ret (v := .agg #[.slice a0 l0 k0, .slice ua (j - 1) ucap, .int .i64 x2, .int .i64 x3]) (by simp [results, Tryz.results36, go_sem, t0, t1, t2, t3]) rfl ⟨_, rfl, ?_, (hX _ _ _ _ _).out.2⟩
      have := (hX (.slice ua (j - 1) ucap) (.slice a0 l0 k0) (.slice ua (j - 1) ucap) (.int .i64 x2) (.int .i64 x3)).out.1
      simpa using this
end Go.Proofs.YtdnigcndjmmkcaaGreat
