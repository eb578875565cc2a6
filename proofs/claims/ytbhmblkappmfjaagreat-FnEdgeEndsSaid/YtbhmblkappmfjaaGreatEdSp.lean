/- What spec.l2Edge and spec.l2DropEdge answer. -/
import Derived.Test.YtbhmblkappmfjaaGreatPgDef
import Derived.Test.YtbhmblkappmfjaaGreatEdS
import Derived.Test.YtbhmblkappmfjaaGreatL2Copy
import Derived.Test.YtbhmblkappmfjaaGreatNetD
import Derived.Test.YtbhmblkappmfjaaGreatTk
import Derived.Test.YtbhmblkappmfjaaGreatNdX
import Derived.Deep.DeepCutAuto
namespace Go.Proofs.YtbhmblkappmfjaaGreat
open Go.RowKit Go.Deep

theorem rows_din {w : World} {b0 n len : Nat} {S : Nat → Prop} {T : TypeId} {u : Value} {f : Nat → Nat → D} {C : Nat → Nat → Value} (hown : w.ownsRow b0 T n u len (rowCells n C len))
    (hC : ∀ i, i < len → ∀ c, c < n → DIn S w (f i c) (C i c)) (hl : len ≤ maxLen) : DIn (fun x => S x ∨ b0 ≤ x ∧ x < w.heap.size) w (.list n len f) u := by
  rcases hown.2 with ⟨rfl, rfl⟩ | ⟨g, cap, cur, rfl, hb, hg, _⟩
  · exact ⟨none, 0, 0, 0, rfl, Nat.zero_le _, fun h => by omega, fun i hi => by omega⟩
  · have hglt : g < w.heap.size := lt_of_block hg
    have hcell : ∀ i, i < len → ∀ c, c < n → w.cell? ⟨g, 0 + i * n + c, none⟩ = some (C i c) := by
      intro i hi c hc
      have := hown.cells (g := g) rfl (i * n + c) (C i c) (rowCells_get n C len i hi c hc)
      rw [Go.WideShapes.add_plain] at this
      rw [Nat.add_assoc]
      exact this
    exact ⟨_, cap, g, 0, rfl, hl, fun _ => ⟨rfl, .inr ⟨hb, hglt⟩, hglt⟩, fun i hi c hc => ⟨C i c, hcell i hi c hc, (hC i hi c hc).mono (fun x hx => .inl hx)⟩⟩
theorem row_shape {w : World} {base : Nat} {e : TypeId} {sz : Nat} {u : Value} {n : Nat} {xs : List Value} (h : w.ownsRow base e sz u n xs) : ∃ a c, u = .slice a n c := by
  rcases h.2 with ⟨e, e2⟩ | ⟨g, cap, cur, e, _⟩
  · exact ⟨none, 0, by rw [e, e2]⟩
  · exact ⟨_, _, e⟩
/-- How many of the first i are left. -/
def leftN (k i : Nat) : Nat := if i ≤ k then i else i - 1
def dropC (C : Nat → Nat → Value) (k : Nat) : Nat → Nat → Value := fun i => if i < k then C i else C (i + 1)
theorem leftN_at {C : Nat → Nat → Value} {k i : Nat} (h : i ≠ k) : leftN k (i + 1) = leftN k i + 1 ∧ dropC C k (leftN k i) = C i := by
  unfold leftN dropC
  by_cases h1 : i ≤ k
  · rw [if_pos h1, if_pos (by omega), if_pos (by omega)]; exact ⟨rfl, rfl⟩
  · rw [if_neg h1, if_neg (by omega), if_neg (by omega), show i - 1 + 1 = i by omega]; exact ⟨by omega, rfl⟩
theorem leftN_k (k : Nat) : leftN k (k + 1) = leftN k k := by simp [leftN]
theorem leftN_le (k i : Nat) : leftN k i ≤ i := by unfold leftN; split <;> omega
theorem din_cells {S : Nat → Prop} {w : World} {n len : Nat} {f : Nat → Nat → D} {v : Value} (h : DIn S w (.list n len f) v) (hl : 0 < len) :
    ∃ cap b off, ∃ C : Nat → Nat → Value, v = .slice (some ⟨b, off, none⟩) len cap ∧ b < w.heap.size ∧ ∀ i, i < len → ∀ j, j < n → w.cell? ⟨b, off + i * n + j, none⟩ = some (C i j) ∧ DIn S w (f i j) (C i j) := by
  obtain ⟨a, cap, b, off, rfl, _, ha, hc⟩ := h
  obtain ⟨rfl, _, hb⟩ := ha hl
  refine ⟨cap, b, off, fun i j => (w.cell? ⟨b, off + i * n + j, none⟩).getD undef, rfl, hb, fun i hi j hj => ?_⟩
  obtain ⟨c, h1, h2⟩ := hc i hi j hj
  dsimp only
  rw [h1]
  exact ⟨rfl, h2⟩

set_option maxRecDepth 100000 in
set_option maxHeartbeats 8000000 in
theorem l2DropEdge_any (S : Nat → Prop) (d1 : D) (id : Int) (k : Nat) (c0 c1 : Value) (x2 x3 : Int) (w : World) (H1 : Has d1 (.list 5)) (h1 : DIn S w d1 c1) (hS : ∀ x, S x → x < w.heap.size) (hk : edK d1 id = some k) (hinc : ∀ i j, i < j → j < d1.len! → (d1.at! i 0).int! < (d1.at! j 0).int!) (hc0 : ∃ a l c, c0 = .slice a l c) (hl : d1.len! ≤ 16) :
    Calls Tryz.prog 54 #[.agg #[c0, c1, .int .i64 x2, .int .i64 x3], .int .i64 id] w fun e w' => ∃ v, e = .returned (.agg #[c0, v, .int .i64 x2, .int .i64 x3]) ∧ DIn (fun x => S x ∨ w.heap.size ≤ x ∧ x < w'.heap.size) w' (.list 5 (d1.len! - 1) (dropF d1.at! k)) v ∧ Ext w w' := by
  obtain ⟨a0, l0, k0, rfl⟩ := hc0
  obtain ⟨hkl, hkid, _⟩ := edK_some hk
  obtain ⟨len, f, rfl, HRa⟩ := H1.list
  change DIn S w (.list 5 len f) c1 at h1
  change k < len at hkl
  change (f k 0).int! = id at hkid
  change ∀ i j, i < j → j < len → (f i 0).int! < (f j 0).int! at hinc
  change len ≤ 16 at hl
  change Calls _ _ _ _ fun e w' => ∃ v, e = .returned (.agg #[.slice a0 l0 k0, v, .int .i64 x2, .int .i64 x3]) ∧ DIn (fun x => S x ∨ w.heap.size ≤ x ∧ x < w'.heap.size) w' (.list 5 (len - 1) (dropF f k)) v ∧ Ext w w'
  obtain ⟨cap, b, off, C, rfl, hb, hcd⟩ := din_cells h1 (by omega)
  have hne : ∀ i, i < len → i ≠ k → (f i 0).int! ≠ id := fun i hi h => by
    rw [← hkid]
    rcases Nat.lt_or_gt_of_ne h with h | h
    · have := hinc i k h hkl; omega
    · have := hinc k i h hi; omega
  clear hinc hk
  obtain ⟨i1, hi1, hz10, hz11, hz12⟩ := info_parts Tryz.infoEc
  go_enter Tryz.func54, Tryz.ntmps54
  go_wp2
  generalize hW0 : World.alloc _ _ = W0
  have hE0 : Ext w W0 := by subst hW0; exact (((Ext.refl _).alloc _).alloc _).alloc _
  have hz0 : w.heap.size + 3 ≤ W0.heap.size := by subst hW0; simp
  have hb0 : W0.cell? ⟨w.heap.size, 0, none⟩ = some (.slice a0 l0 k0) ∧ W0.cell? ⟨w.heap.size, 1, none⟩ = some (.slice (some ⟨b, off, none⟩) len cap) ∧ W0.cell? ⟨w.heap.size, 2, none⟩ = some (.int .i64 x2) ∧ W0.cell? ⟨w.heap.size, 3, none⟩ = some (.int .i64 x3) ∧ ∀ o, W0.frozen? ⟨w.heap.size, o, none⟩ = false := by
    subst hW0
    have hx := (((Ext.refl (w.alloc (.cells #[.slice a0 l0 k0, .slice (some ⟨b, off, none⟩) len cap, .int .i64 x2, .int .i64 x3] 26))).alloc (.cells #[.slice none 0 0, .slice none 0 0, .int .i64 0, .int .i64 0] 26)).alloc (.cells #[] 46))
    exact ⟨box_cell hx 0 _ rfl, box_cell hx 1 _ rfl, box_cell hx 2 _ rfl, box_cell hx 3 _ rfl, fun o => by rw [(bcell hx).2 _ _ (by simp)]; simp⟩
  have hb1 : (W0.cell? ⟨w.heap.size + 1, 0, none⟩ = some (.slice none 0 0) ∧ W0.cell? ⟨w.heap.size + 1, 1, none⟩ = some (.slice none 0 0) ∧ W0.cell? ⟨w.heap.size + 1, 2, none⟩ = some (.int .i64 0) ∧ W0.cell? ⟨w.heap.size + 1, 3, none⟩ = some (.int .i64 0)) ∧ ∀ o, W0.frozen? ⟨w.heap.size + 1, o, none⟩ = false := by
    subst hW0
    have hx := ((Ext.refl ((w.alloc (.cells #[.slice a0 l0 k0, .slice (some ⟨b, off, none⟩) len cap, .int .i64 x2, .int .i64 x3] 26)).alloc (.cells #[.slice none 0 0, .slice none 0 0, .int .i64 0, .int .i64 0] 26))).alloc (.cells #[] 46))
    have hs : (w.alloc (.cells #[.slice a0 l0 k0, .slice (some ⟨b, off, none⟩) len cap, .int .i64 x2, .int .i64 x3] 26)).heap.size = w.heap.size + 1 := by simp
    rw [← hs]
    exact ⟨⟨box_cell hx 0 _ rfl, box_cell hx 1 _ rfl, box_cell hx 2 _ rfl, box_cell hx 3 _ rfl⟩, fun o => by rw [(bcell hx).2 _ _ (by simp)]; simp⟩
  have hown0 : W0.ownsRow (w.heap.size + 2) 46 5 (.slice (some ⟨w.heap.size + 2, 0, none⟩) 0 0) 0 [] := by
    subst hW0
    have := World.ownsRow_made (e := 46) (size := 5) (base := w.heap.size + 2) ((w.alloc (.cells #[.slice a0 l0 k0, .slice (some ⟨b, off, none⟩) len cap, .int .i64 x2, .int .i64 x3] 26)).alloc (.cells #[.slice none 0 0, .slice none 0 0, .int .i64 0, .int .i64 0] 26)) #[] 0 (by simp) (Nat.zero_le _) (by simp)
    simpa using this
  clear hW0
  go_loopw [5, 6] (fun u i wr => ∃ j : Nat, j ≤ len ∧ i = .int .i64 j ∧ wr.ownsRow (w.heap.size + 2) 46 5 u (leftN k j) (rowCells 5 (dropC C k) (leftN k j)) ∧ Below (w.heap.size + 2) W0 wr) (fun _ i _ => len - (intOf i).toNat)
  case atStart => exact ⟨0, Nat.zero_le _, rfl, by rw [show leftN k 0 = 0 by simp [leftN]]; exact hown0, Below.refl _ _⟩
  case round =>
    obtain ⟨j, hj, rfl, hown, hB⟩ := hrel
    have hE : Ext w wr := Below.trans hE0 (Below.mono hB (by omega))
    have hszr := Below.size hB
    have p1 : wr.cell? ⟨w.heap.size, 1, none⟩ = some (.slice (some ⟨b, off, none⟩) len cap) := by rw [Below.cell hB (by simp)]; exact hb0.2.1
    obtain ⟨ua, ucap, rfl⟩ := row_shape hown
    have hlj := leftN_le k j
    by_cases hlt : j < len
    · have ec := fun c (hc : c < 5) => (hE.cell (p := ⟨b, off + j * 5 + c, none⟩) hb).trans (hcd j hlt c hc).1
      have hx := fun c (hc : c < 5) => (hcd j hlt c hc).2
      have HR := HRa j hlt
      obtain ⟨y0, g0⟩ := (show Has (f j 0) .int from HR 0 (by decide)).int
      obtain ⟨y1, g1⟩ := (show Has (f j 1) .str from HR 1 (by decide)).str
      obtain ⟨y2, g2⟩ := (show Has (f j 2) .int from HR 2 (by decide)).int
      obtain ⟨y3, g3⟩ := (show Has (f j 3) .int from HR 3 (by decide)).int
      have k0' := hx 0 (by decide)
      have k1' := hx 1 (by decide)
      have k2' := hx 2 (by decide)
      have k3' := hx 3 (by decide)
      obtain ⟨ya, yc, yl, _, _, v4, _, _⟩ := list_shape (r := 3) (show Has (f j 4) (.list 3) from HR 4 (by decide)) (hx 4 (by decide))
      rw [g0] at k0'
      rw [g1] at k1'
      rw [g2] at k2'
      rw [g3] at k3'
      have v0 := k0'.int_eq.1
      have v1 := k1'.str_eq.1
      have v2 := k2'.int_eq.1
      have v3 := k3'.int_eq.1
      have e0 := ec 0 (by decide)
      have e1 := ec 1 (by decide)
      have e2 := ec 2 (by decide)
      have e3 := ec 3 (by decide)
      have e4 := ec 4 (by decide)
      rw [v0] at e0
      rw [v1] at e1
      rw [v2] at e2
      rw [v3] at e3
      rw [v4] at e4
      simp only [Nat.add_zero] at e0
      have hrow : Hid ((List.range 5).map (C j) = [.int .i64 y0, .string y1, .int .i64 y2, .int .i64 y3, .slice ya yl yc]) := by
        show [C j 0, C j 1, C j 2, C j 3, C j 4] = _
        rw [v0, v1, v2, v3, v4]
      have hy0 : (f j 0).int! = y0 := by rw [g0]; rfl
      clear ec hx HR g0 g1 g2 g3 k0' k1' k2' k3' v0 v1 v2 v3 v4
      by_cases hjk : j = k
      · have hyid : y0 = id := by rw [← hy0, hjk]; exact hkid
        have hlk : Hid (leftN k (j + 1) = leftN k j) := by show _ = _; rw [hjk]; exact leftN_k k
        clear hy0 hjk
        subst hyid
        go_wp2
        go_roundw
        case rel => exact ⟨j + 1, by omega, by go_num, by rw [hlk.out]; exact hown, hB⟩
        case measure => show len - ((j : Int) + 1).toNat < len - (j : Int).toNat; omega
      · have hyid : (y0 == id) = false := by have := hne j hlt hjk; rw [hy0] at this; simpa using this
        obtain ⟨hk1, hk2⟩ := leftN_at (C := C) hjk
        have hcs : Hid (rowCells 5 (dropC C k) (leftN k (j + 1)) = rowCells 5 (dropC C k) (leftN k j) ++ [.int .i64 y0, .string y1, .int .i64 y2, .int .i64 y3, .slice ya yl yc]) := by
          show _ = _
          rw [hk1]
          show rowCells 5 (dropC C k) (leftN k j) ++ (List.range 5).map (dropC C k (leftN k j)) = _
          rw [hk2, hrow.out]
        have hk1' : Hid (leftN k (j + 1) = leftN k j + 1) := hk1
        clear hk1 hk2 hy0 hjk
        generalize leftN k j = ln at *
        go_wp2_with (at_builtin; refine wpList_append_own_at _ rfl _ _ 24 rfl (w.heap.size + 2) 46 i1 _ 5 64 Tryz.underlying24 hi1 hz10 hz11 hz12 rfl (by decide) _ _ _ rfl (hown.alloc _) ⟨_, 0, none⟩ 1 1 [.int .i64 y0, .string y1, .int .i64 y2, .int .i64 y3, .slice ya yl yc] rfl rfl (World.news_of_block (cs := #[.int .i64 y0, .string y1, .int .i64 y2, .int .i64 y3, .slice ya yl yc]) (t := 46) (fr := (0, 0)) (heap_alloc_new _ _)) (by simp [Value.oneCell']) (by unfold maxLen; omega) (by omega) (by simp; omega) ?_; intro v' w3 hown' hgrow hnil hloc)
        clear hcd hne hb0 hb1
        go_roundw
        case rel => exact ⟨j + 1, by omega, by go_num, by have h2 := hcs.out; rw [hk1'.out] at h2 ⊢; rw [h2]; exact hown', Below.grown (Below.trans hB (Below.mono ((Ext.refl wr).alloc _) (by omega))) hgrow (by simp; omega) (fun x hx => (hown.lt x hx).1)⟩
        case measure => show len - ((j : Int) + 1).toNat < len - (j : Int).toNat; omega
    · have hje : j = len := by omega
      subst hje
      have hln : leftN k j = j - 1 := by unfold leftN; rw [if_neg (by omega)]
      rw [hln] at hown ⊢
      have hp : wr.cell? ⟨w.heap.size, 0, none⟩ = some (.slice a0 l0 k0) ∧ wr.cell? ⟨w.heap.size, 2, none⟩ = some (.int .i64 x2) ∧ wr.cell? ⟨w.heap.size, 3, none⟩ = some (.int .i64 x3) ∧ ∀ o, wr.frozen? ⟨w.heap.size, o, none⟩ = false := by
        refine ⟨by rw [Below.cell hB (by simp)]; exact hb0.1, by rw [Below.cell hB (by simp)]; exact hb0.2.2.1, by rw [Below.cell hB (by simp)]; exact hb0.2.2.2.1, fun o => by rw [Below.frozen hB (by simp)]; exact hb0.2.2.2.2 o⟩
      have ht : (wr.cell? ⟨w.heap.size + 1, 0, none⟩ = some (.slice none 0 0) ∧ wr.cell? ⟨w.heap.size + 1, 1, none⟩ = some (.slice none 0 0) ∧ wr.cell? ⟨w.heap.size + 1, 2, none⟩ = some (.int .i64 0) ∧ wr.cell? ⟨w.heap.size + 1, 3, none⟩ = some (.int .i64 0)) ∧ ∀ o, wr.frozen? ⟨w.heap.size + 1, o, none⟩ = false :=
        ⟨⟨by rw [Below.cell hB (by simp)]; exact hb1.1.1, by rw [Below.cell hB (by simp)]; exact hb1.1.2.1, by rw [Below.cell hB (by simp)]; exact hb1.1.2.2.1, by rw [Below.cell hB (by simp)]; exact hb1.1.2.2.2⟩, fun o => by rw [Below.frozen hB (by simp)]; exact hb1.2 o⟩
      have hdin : DIn (fun x => S x ∨ w.heap.size + 2 ≤ x ∧ x < wr.heap.size) wr (.list 5 (j - 1) (dropF f k)) (.slice ua (j - 1) ucap) := by
        refine rows_din hown (fun i hi c hc => ?_) (by unfold maxLen; omega)
        unfold dropF dropC
        split
        · exact (hcd i (by omega) c hc).2.ext hE
        · exact (hcd (i + 1) (by omega) c hc).2.ext hE
      have hX : ∀ v0 v1 v2 v3 v4 : Value, Hid (DIn (fun x => S x ∨ w.heap.size ≤ x ∧ x < wr.heap.size) (((((wr.setCell ⟨w.heap.size, 1, none⟩ v0).setCell ⟨w.heap.size + 1, 0, none⟩ v1).setCell ⟨w.heap.size + 1, 1, none⟩ v2).setCell ⟨w.heap.size + 1, 2, none⟩ v3).setCell ⟨w.heap.size + 1, 3, none⟩ v4) (.list 5 (j - 1) (dropF f k)) (.slice ua (j - 1) ucap) ∧ Ext w (((((wr.setCell ⟨w.heap.size, 1, none⟩ v0).setCell ⟨w.heap.size + 1, 0, none⟩ v1).setCell ⟨w.heap.size + 1, 1, none⟩ v2).setCell ⟨w.heap.size + 1, 2, none⟩ v3).setCell ⟨w.heap.size + 1, 3, none⟩ v4)) := fun v0 v1 v2 v3 v4 => by
        have n0 : ¬ (S w.heap.size ∨ w.heap.size + 2 ≤ w.heap.size ∧ w.heap.size < wr.heap.size) := fun h => h.elim (fun h => by have := hS _ h; omega) (fun h => by omega)
        have n1 : ¬ (S (w.heap.size + 1) ∨ w.heap.size + 2 ≤ w.heap.size + 1 ∧ w.heap.size + 1 < wr.heap.size) := fun h => h.elim (fun h => by have := hS _ h; omega) (fun h => by omega)
        exact ⟨(((((hdin.setCell n0 _).setCell n1 _).setCell n1 _).setCell n1 _).setCell n1 _).mono (fun x hx => hx.elim .inl (fun h => .inr ⟨by omega, h.2⟩)), ((((hE.setCell (Nat.le_refl _) _).setCell (Nat.le_succ _) _).setCell (Nat.le_succ _) _).setCell (Nat.le_succ _) _).setCell (Nat.le_succ _) _⟩
      obtain ⟨q0, q2, q3, qf⟩ := hp
      obtain ⟨⟨t0, t1, t2, t3⟩, tf⟩ := ht
      have qf1 := qf 1
      have tf0 := tf 0
      have tf1 := tf 1
      have tf2 := tf 2
      have tf3 := tf 3
      clear hdin hcd hne hb0 hb1 qf tf hown hB hown0
      go_wp2
      refine bodyPost_ret (v := .agg #[.slice a0 l0 k0, .slice ua (j - 1) ucap, .int .i64 x2, .int .i64 x3]) (by simp [results, Tryz.results54, go_sem, t0, t1, t2, t3]) rfl ⟨_, rfl, ?_, (hX _ _ _ _ _).out.2⟩
      have := (hX (.slice ua (j - 1) ucap) (.slice a0 l0 k0) (.slice ua (j - 1) ucap) (.int .i64 x2) (.int .i64 x3)).out.1
      simpa using this
end Go.Proofs.YtbhmblkappmfjaaGreat

/- What spec.l2DropNode answers. -/
namespace Go.Proofs.YtbhmblkappmfjaaGreat
open Go.RowKit Go.Deep

set_option maxRecDepth 100000 in
set_option maxHeartbeats 16000000 in
theorem l2DropNode_row (S S0 : Nat → Prop) (d0 d1 : D) (id : Int) (detach : Bool) (k : Nat) (c0 c1 : Value) (x2 x3 : Int) (w : World) (H0 : Has d0 (.list 4)) (h0 : DIn S0 w d0 c0) (H1 : Has d1 (.list 5)) (h1 : DIn S w d1 c1) (hS : ∀ x, S x → x < w.heap.size) (hk : edK d0 id = some k) (hi0 : incD d0) (hl0 : d0.len! ≤ 12) (hi1 : incD d1) (hl1 : d1.len! ≤ 16) (hb : detach = true ∨ (ndIds d1 id).length = 0) :
    Calls Tryz.prog 40 #[.agg #[c0, c1, .int .i64 x2, .int .i64 x3], .int .i64 id, .bool detach] w fun e w' => ∃ u0 u1, e = .returned (.tuple #[.agg #[u0, u1, .int .i64 x2, .int .i64 x3], .bool true]) ∧ (∃ (B bb off ck : Nat) (C : Nat → Nat → Value), (w.heap.size ≤ B ∧ B ≤ w'.heap.size) ∧ DIn (fun x => S x ∨ w.heap.size ≤ x ∧ x < B) w' (dropIds d1 (ndIds d1 id)) u1 ∧ w'.ownsRow B 34 3 u0 (d0.len! - 1) (rowCells 3 (dropC C k) (d0.len! - 1)) ∧ c0 = .slice (some ⟨bb, off, none⟩) d0.len! ck ∧ ∀ i, i < d0.len! → ∀ c, c < 3 → w.cell? ⟨bb, off + i * 3 + c, none⟩ = some (C i c) ∧ DIn S0 w (d0.at! i c) (C i c)) ∧ Ext w w' := by
  have hed := fun (W : World) (hW : Ext w W) (hc : ∃ a l c, c0 = .slice a l c) => l2Edges_any S d1 c0 c1 x2 x3 id 0 ⟨#[]⟩ W H1 (h1.ext hW) hc hl1
  change ∀ (W : World) (hW : Ext w W) (hc : ∃ a l c, c0 = .slice a l c), Calls Tryz.prog 53 #[.agg #[c0, c1, .int .i64 x2, .int .i64 x3], .int .i64 id, .int .i64 0, .string ⟨#[]⟩] W fun e w' => ∃ a l c, e = .returned (.slice a l c) ∧ DIn (New W.heap.size w'.heap.size) w' (intsD (ndIds d1 id)) (.slice a l c) ∧ Ext W w' at hed
  obtain ⟨ca0, ck0, cl0, f0, hq0, rfl, _, HRa⟩ := list_shape H0 h0
  obtain ⟨ca1, ck1, cl1, _, hq1, hc1, _, _⟩ := list_shape H1 h1
  clear hq1
  rw [hc1] at h1 hed
  rw [hc1]
  clear hc1
  have hil := ndIds_len d1 id
  have hnext := fun j hj => ndIds_next (j := j) (id := id) H1 hi1 hj
  have hstep := fun j hj => ndIds_step d1 id (j := j) hj
  have hleft := fun l => left_of H1 hi1 l
  obtain ⟨Wb, hWb⟩ : ∃ Wb, Wb = (w.alloc (.cells #[.slice ca0 cl0 ck0, .slice ca1 cl1 ck1, .int .i64 x2, .int .i64 x3] 26)).alloc (.cells #[.slice none 0 0, .slice none 0 0, .int .i64 0, .int .i64 0] 26) := ⟨_, rfl⟩
  obtain ⟨gb, hgb⟩ : ∃ m, m = w.heap.size := ⟨_, rfl⟩
  have hEw : Ext w Wb := by rw [hWb]; exact ((Ext.refl _).alloc _).alloc _
  have hzb : Wb.heap.size = gb + 2 := by rw [hWb, hgb]; simp
  have hzb1 := Nat.le_of_eq hzb
  have hzb2 := Nat.le_of_eq hzb.symm
  clear hzb
  have hblk0 : Wb.heap[gb]? = some (.cells #[.slice ca0 cl0 ck0, .slice ca1 cl1 ck1, .int .i64 x2, .int .i64 x3] 26 (0, 0)) := by
    rw [hWb, Below.block ((Ext.refl _).alloc _) _ (by rw [hgb]; simp), hgb]
    exact heap_alloc_new w _
  have hblk1 : Wb.heap[gb + 1]? = some (.cells #[.slice none 0 0, .slice none 0 0, .int .i64 0, .int .i64 0] 26 (0, 0)) := by
    have := heap_alloc_new (w.alloc (.cells #[.slice ca0 cl0 ck0, .slice ca1 cl1 ck1, .int .i64 x2, .int .i64 x3] 26)) (.cells #[.slice none 0 0, .slice none 0 0, .int .i64 0, .int .i64 0] 26)
    rw [World.size_alloc] at this
    rw [hWb, hgb]
    exact this
  have hgb1 : gb ≤ w.heap.size := Nat.le_of_eq hgb
  have hgb2 : w.heap.size ≤ gb := Nat.le_of_eq hgb.symm
  generalize hids : ndIds d1 id = ids at *
  clear hids
  obtain ⟨⟨p0, p1, p2, p3⟩, _⟩ := blk4 hblk0
  go_enter Tryz.func40, Tryz.ntmps40
  go_wp2_with fail
  rw [← hWb, ← hgb]
  clear hWb hgb
  refine (hed Wb hEw ⟨_, _, _, rfl⟩).mono ?_
  rintro e w1 ⟨la, ll, lc, rfl, hDl, hE1⟩
  clear p0 p1 p2 p3 hed
  have hz1 := hE1.le
  have hb0 := (Below.block hE1 gb (by omega)).trans hblk0
  have hb1 := (Below.block hE1 (gb + 1) (by omega)).trans hblk1
  have hE01 := hEw.trans hE1
  have hll : ll = ids.length := by
    obtain ⟨_, _, hla, _⟩ := hDl.list_eq
    injection hla
  subst hll
  have hlc : Hid (∀ j (hj : j < ids.length), ∃ g off, la = some ⟨g, off, none⟩ ∧ Wb.heap.size ≤ g ∧ g < w1.heap.size ∧ w1.cell? ⟨g, off + j, none⟩ = some (.int .i64 ids[j]) ∧ (Lit.int .i64 ids[j]).wf = true) := fun j hj => by
    obtain ⟨cap2, g, off, C, hsl, hS2, hbl, ec, hx⟩ := hDl.at (show j < ids.length from hj)
    injection hsl with e1 _ _
    have k0 := hx 0 (by decide)
    have e0 := ec 0 (by decide)
    have ei : intsF ids j 0 = .int ids[j] := by simp [intsF, List.getD_eq_getElem?_getD, List.getElem?_eq_getElem hj]
    rw [ei] at k0
    obtain ⟨ek, wk⟩ := k0.int_eq
    rw [ek] at e0
    simp only [Nat.add_zero, Nat.mul_one] at e0
    exact ⟨g, off, e1, hS2.1, hbl, e0, wk⟩
  subst hq0
  obtain ⟨hkl, hkid, _⟩ := edK_some hk
  change k < cl0 at hkl
  change (f0 k 0).int! = id at hkid
  change ∀ i j, i < j → j < cl0 → (f0 i 0).int! < (f0 j 0).int! at hi0
  change cl0 ≤ 12 at hl0
  obtain ⟨cap2, bb, off, C, hca, hbb, hcd⟩ := din_cells h0 (show 0 < cl0 by omega)
  injection hca with hca1 _ hca2
  subst hca1 hca2
  have hne : ∀ i, i < cl0 → i ≠ k → (f0 i 0).int! ≠ id := fun i hi h => by
    rw [← hkid]
    rcases Nat.lt_or_gt_of_ne h with h | h
    · have := hi0 i k h hkl; omega
    · have := hi0 k i h hi; omega
  obtain ⟨i1, hi1', hz10, hz11, hz12⟩ := info_parts Tryz.infoNc
  have hSx : ∀ x, S x → x < gb := fun x hx => by have := hS x hx; omega
  have hbbl : ¬ (bb = gb) ∧ bb < gb := by omega
  have hcase : (detach = true ∧ (0 : Int) < (ids.length : Int)) ∨ ¬ (0 : Int) < (ids.length : Int) := by
    rcases hb with h | h
    · by_cases hp : (0 : Int) < (ids.length : Int)
      · exact .inl ⟨h, hp⟩
      · exact .inr hp
    · exact .inr (by omega)
  have hDl' := (show Hid _ from hDl)
  have hkid := (show Hid _ from hkid)
  clear hb hk hi0 hDl
  go_upto_region 2 with fail
  go_cut [21] (fun x wc => x = .bool false ∧ wc = w1)
  case first =>
    rcases hcase with ⟨rfl, hp⟩ | hp
    · go_wp2_with fail
      go_meet
      exact ⟨rfl, rfl⟩
    · go_wp2_with fail
      go_meet
      exact ⟨rfl, rfl⟩
  case rest =>
    obtain ⟨rfl, hwc⟩ := hcut
    have hwc' := hwc.symm
    subst hwc'
    clear hcase hwc
    go_wp2
    go_loopw [9] (fun i wr => ∃ (j : Nat) (v : Value), j ≤ ids.length ∧ i = .int .i64 j ∧ wr.heap[gb]? = some (.cells #[.slice (some ⟨bb, off, none⟩) cl0 ck0, v, .int .i64 x2, .int .i64 x3] 26 (0, 0)) ∧ DIn (fun x => S x ∨ gb + 2 ≤ x ∧ x < wr.heap.size) wr (dropIds d1 (ids.take j)) v ∧ Chg (fun x => x = gb) w1 wr) (fun i _ => ids.length - (intOf i).toNat)
    case atStart => exact ⟨0, _, Nat.zero_le _, rfl, hb0, (h1.ext hE01).mono (fun x hx => .inl hx), Chg.refl _ _⟩
    case round =>
      obtain ⟨j, v, hj, rfl, hbr, hDv, hC⟩ := hrel
      have hzr := hC.size
      obtain ⟨⟨p0, p1, p2, p3⟩, pf⟩ := blk4 hbr
      obtain ⟨va, vcap, vl, _, hqv, hv, _, _⟩ := list_shape (r := 5) (hleft _).has hDv
      subst hv
      clear hqv
      by_cases hlt : j < ids.length
      · obtain ⟨g, loff, hla, hg1, hg2, hcell, hwf⟩ := hlc.out j hlt
        subst hla
        obtain ⟨q, hq⟩ := hnext j hlt
        have hst : Hid (dropIds d1 (ids.take (j + 1)) = .list 5 ((dropIds d1 (ids.take j)).len! - 1) (dropF (dropIds d1 (ids.take j)).at! q)) := by show _ = _; rw [hstep j hlt, hq]; rfl
        have hdr := fun (W : World) (hW : Ext wr W) => l2DropEdge_any (fun x => S x ∨ gb + 2 ≤ x ∧ x < wr.heap.size) (dropIds d1 (ids.take j)) ids[j] q (.slice (some ⟨bb, off, none⟩) cl0 ck0) (.slice va vl vcap) x2 x3 W (hleft _).has (hDv.ext hW) (fun x hx => by have := hW.le; rcases hx with h | h; (have := hSx x h; omega); omega) hq (hleft _).inc ⟨_, _, _, rfl⟩ (by have := (hleft (ids.take j)).len; omega)
        have hgg : g ≠ gb := by omega
        go_upto_region 7 with fail
        have HK : Hid (∀ W, Chg (fun x => x = gb) wr.drew W → W.cell? ⟨g, loff + j, none⟩ = some (.int .i64 ids[j])) := fun W hW => by
          rw [World.cell?_of_block (hW.block g (by simp; omega) hgg)]
          exact (World.cell?_of_block (hC.block g hg2 hgg)).trans hcell
        have hcur : Chg (fun x => x = gb) wr.drew wr.drew := Chg.refl _ _
        have hEd : Ext wr wr.drew := (Ext.refl _).drew
        have hbd : wr.drew.heap[gb]? = some (.cells #[.slice (some ⟨bb, off, none⟩) cl0 ck0, .slice va vl vcap, .int .i64 x2, .int .i64 x3] 26 (0, 0)) := hbr
        refine wp_region_held_drew (S := (fun W => W.cell? ⟨g, loff + j, none⟩ = some (.int .i64 ids[j]))) (by kernel_rfl) (HK.out _ hcur) (fun hHeld => ?_)
        refine tkL 1 ⟨some 30, .move (.tmp 8), 29, _, #[], none⟩ ?_ hHeld ?yyA1 ?rrA1
        case yyA1 => (intro w hSw; (try dsimp only at hSw); go_simp; try with_reducible rfl)
        try simp only [Act.put, putA, putB, putC]
        refine tkL 2 ⟨some 31, .move (.tmp 9), 3, _, #[], none⟩ ?_ hHeld ?yyA2 ?rrA2
        case yyA2 => (intro w hSw; (try dsimp only at hSw); go_simp; try with_reducible rfl)
        try simp only [Act.put, putA, putB, putC]
        refine tkL 3 ⟨some 32, .indexAddr 29 (.tmp 30) (.tmp 31), 0, _, #[⟨1, .data⟩, ⟨2, .data⟩], none⟩ ?_ hHeld ?yyA3 ?rrA3
        case yyA3 => (intro w hSw; (try dsimp only at hSw); go_simp; try with_reducible rfl)
        try simp only [Act.put, putA, putB, putC]
        refine tkL 4 ⟨some 33, .load 3 (.tmp 32), 3, _, #[⟨3, .data⟩], none⟩ ?_ hHeld ?yyA4 ?rrA4
        case yyA4 => (intro w hSw; (try dsimp only at hSw); go_simp; try with_reducible rfl)
        try simp only [Act.put, putA, putB, putC]
        generalize wr.drew = Wo at *
        obtain ⟨⟨o0, o1, o2, o3⟩, _⟩ := blk4 hbd
        refine wpAnyH_ready (rs := [0]) (by kernel_rfl) (by simp) ?_
        refine AllReadyH.cons (o := ⟨some 29, .load 26 (.tmp 3), 26, _, #[], none⟩) rfl (fun K hK => ?_) (AllReadyH.nil)
        go_simp
        refine hK.out _ _ (HK.out _ hcur) (fun hHeld => ?_)
        clear hK K o0 o1 o2 o3
        try simp only [Act.put, putA, putB, putC]
        refine wpAnyH_ready (rs := [5]) (by kernel_rfl) (by simp) ?_
        refine AllReadyH.cons (o := ⟨some 34, .call { callee := .value (.func 54), args := #[.tmp 29, .tmp 33], argTypes := #[26, 3] }, 26, _, #[⟨0, .data⟩, ⟨4, .data⟩], none⟩) rfl (fun K hK => ?_) (AllReadyH.nil)
        go_simp
        refine (hdr Wo hEd).mono ?_
        rintro e w5 ⟨v5, rfl, hD5, hE5⟩
        have hs5 := hE5.le
        have hs0 := hEd.le
        have hb5 := (Below.block hE5 gb (lt_of_block hbd)).trans hbd
        obtain ⟨va5, vc5, hv5, _⟩ := hD5.list_eq
        subst hv5
        go_wp2_with fail
        refine hK.out _ _ (HK.out _ (Chg.of_ext hE5)) (fun hHeld => ?_)
        clear hK K
        try simp only [Act.put, putA, putB, putC]
        obtain ⟨⟨o0, o1, o2, o3⟩, of⟩ := blk4 hb5
        have of0 := of 0
        have of1 := of 1
        have of2 := of 2
        have of3 := of 3
        refine wpAnyH_ready (rs := [6]) (by kernel_rfl) (by simp) ?_
        refine AllReadyH.cons (o := ⟨none, .store 26 (.tmp 3) (.tmp 34), 0, _, #[⟨5, .data⟩, ⟨5, .chain⟩, ⟨0, .phase⟩, ⟨1, .phase⟩, ⟨2, .phase⟩, ⟨3, .phase⟩, ⟨4, .phase⟩, ⟨5, .phase⟩], none⟩) rfl (fun K hK => ?_) (AllReadyH.nil)
        go_simp
        refine hK.out _ _ (HK.out _ ((Chg.of_ext hE5).trans (chg4 _ _ _ _))) (fun hHeld => ?_)
        clear hK K
        try simp only [Act.put, putA, putB, putC]
        refine wpAnyH_done (by kernel_rfl) ?_ _
        have hCn := (hC.trans (Chg.of_ext (hEd.trans hE5))).trans (chg4 (W := w5) (b := gb) (.slice (some ⟨bb, off, none⟩) cl0 ck0) (.slice va5 ((dropIds d1 (ids.take j)).len! - 1) vc5) (.int .i64 x2) (.int .i64 x3))
        have hBn := blk4_set hb5 (.slice (some ⟨bb, off, none⟩) cl0 ck0) (.slice va5 ((dropIds d1 (ids.take j)).len! - 1) vc5) (.int .i64 x2) (.int .i64 x3)
        have hDn := (hD5.carry (chg4 (W := w5) (b := gb) (.slice (some ⟨bb, off, none⟩) cl0 ck0) (.slice va5 ((dropIds d1 (ids.take j)).len! - 1) vc5) (.int .i64 x2) (.int .i64 x3)).size (fun b hb hl => (chg4 (W := w5) (b := gb) _ _ _ _).block b hl (fun e => by subst e; rcases hb with (h | h) | h; (have := hSx _ h; omega); omega; omega))).mono (S' := fun x => S x ∨ gb + 2 ≤ x ∧ x < ((((w5.setCell ⟨gb, 0, none⟩ (.slice (some ⟨bb, off, none⟩) cl0 ck0)).setCell ⟨gb, 1, none⟩ (.slice va5 ((dropIds d1 (ids.take j)).len! - 1) vc5)).setCell ⟨gb, 2, none⟩ (.int .i64 x2)).setCell ⟨gb, 3, none⟩ (.int .i64 x3)).heap.size) (fun x hx => by
          rcases hx with (h | h) | h
          · exact .inl h
          · exact .inr ⟨h.1, by simp only [World.size_setCell]; omega⟩
          · exact .inr ⟨by omega, by simp only [World.size_setCell]; omega⟩)
        rw [← hst.out] at hDn
        clear hHeld HK hst hdr hcur
        go_wp2
        go_roundw
        case rel => exact ⟨j + 1, _, by omega, by go_num, hBn, hDn, hCn⟩
        case measure => simp [intOf]; omega
      · have hje : j = ids.length := by omega
        subst hje
        rw [List.take_length] at hDv
        have hEr : Ext w wr := hC.toExt hE01 (fun x hx => by omega)
        have hb1r := (hC.block (gb + 1) (by omega) (by omega)).trans hb1
        clear hnext hstep hleft hC hlc hDl'
        obtain ⟨w2, hw2⟩ : ∃ m, m = wr := ⟨_, rfl⟩
        subst hw2
        obtain ⟨⟨q0, q1, q2, q3⟩, qf⟩ := blk4 hb1r
        have hcd' : ∀ i, i < cl0 → ∀ c, c < 3 → w.cell? ⟨bb, off + i * 3 + c, none⟩ = some (C i c) ∧ DIn S0 w (f0 i c) (C i c) := hcd
        clear hcd p0 p1 p2 p3 pf q0 q1 q2 q3 qf
        have hmade : (w2.alloc (.cells #[] 34)).ownsRow w2.heap.size 34 3 (.slice (some ⟨w2.heap.size, 0, none⟩) 0 0) (leftN k 0) (rowCells 3 (dropC C k) (leftN k 0)) := by
          have := World.ownsRow_made (e := 34) (size := 3) (base := w2.heap.size) w2 #[] 0 (Nat.le_refl _) (Nat.zero_le _) (by simp)
          rw [show leftN k 0 = 0 by simp [leftN]]
          simpa [rowCells] using this
        go_wp2
        go_loopw [10, 11] (fun u i wr => ∃ j : Nat, j ≤ cl0 ∧ i = .int .i64 j ∧ wr.ownsRow w2.heap.size 34 3 u (leftN k j) (rowCells 3 (dropC C k) (leftN k j)) ∧ Ext w2 wr) (fun _ i _ => cl0 - (intOf i).toNat)
        case atStart => exact ⟨0, Nat.zero_le _, rfl, hmade, (Ext.refl _).alloc _⟩
        case round =>
          clear hmade
          obtain ⟨j, hj, rfl, hown, hB⟩ := hrel
          obtain ⟨ua, ucap, rfl⟩ := row_shape hown
          have hlj := leftN_le k j
          have hbz := (Below.block hB gb (by omega)).trans hbr
          have hb1z := (Below.block hB (gb + 1) (by omega)).trans hb1r
          obtain ⟨⟨p0, p1, p2, p3⟩, pf⟩ := blk4 hbz
          have hE := hEr.trans hB
          have hzz := hB.le
          by_cases hlt : j < cl0
          · have ec := fun c (hc : c < 3) => (hE.cell (p := ⟨bb, off + j * 3 + c, none⟩) hbb).trans (hcd' j hlt c hc).1
            have hx := fun c (hc : c < 3) => (hcd' j hlt c hc).2
            have HR := HRa j hlt
            obtain ⟨y0, g0⟩ := (show Has (f0 j 0) .int from HR 0 (by decide)).int
            have k0' := hx 0 (by decide)
            obtain ⟨ya, yc, yl, _, _, v1, _, _⟩ := list_shape (r := 0) (show Has (f0 j 1) (.list 0) from HR 1 (by decide)) (hx 1 (by decide))
            obtain ⟨za, zc, zl, _, _, v2, _, _⟩ := list_shape (r := 3) (show Has (f0 j 2) (.list 3) from HR 2 (by decide)) (hx 2 (by decide))
            rw [g0] at k0'
            have v0 := k0'.int_eq.1
            have e0 := ec 0 (by decide)
            have e1 := ec 1 (by decide)
            have e2 := ec 2 (by decide)
            rw [v0] at e0
            rw [v1] at e1
            rw [v2] at e2
            simp only [Nat.add_zero] at e0
            have hrow : Hid ((List.range 3).map (C j) = [.int .i64 y0, .slice ya yl yc, .slice za zl zc]) := by
              show [C j 0, C j 1, C j 2] = _
              rw [v0, v1, v2]
            have hy0 : (f0 j 0).int! = y0 := by rw [g0]; rfl
            clear ec hx HR g0 k0' v0 v1 v2
            by_cases hjk : j = k
            · have hyid : (y0 == id) = true := by
                rw [beq_iff_eq, ← hy0, hjk]; exact hkid.out
              have hlk : Hid (leftN k (j + 1) = leftN k j) := by show _ = _; rw [hjk]; exact leftN_k k
              have hyid' : y0 = id := by simpa using hyid
              clear hy0 hjk hyid
              subst hyid'
              go_wp2
              go_roundw
              case rel => exact ⟨j + 1, by omega, by go_num, by rw [hlk.out]; exact hown, hB⟩
              case measure => show cl0 - ((j : Int) + 1).toNat < cl0 - (j : Int).toNat; omega
            · have hyid : (y0 == id) = false := by have := hne j hlt hjk; rw [hy0] at this; simpa using this
              obtain ⟨hk1, hk2⟩ := leftN_at (C := C) hjk
              have hcs : Hid (rowCells 3 (dropC C k) (leftN k (j + 1)) = rowCells 3 (dropC C k) (leftN k j) ++ [.int .i64 y0, .slice ya yl yc, .slice za zl zc]) := by
                show _ = _
                rw [hk1]
                show rowCells 3 (dropC C k) (leftN k j) ++ (List.range 3).map (dropC C k (leftN k j)) = _
                rw [hk2, hrow.out]
              have hk1' : Hid (leftN k (j + 1) = leftN k j + 1) := hk1
              clear hk1 hk2 hy0 hjk
              generalize leftN k j = ln at *
              go_wp2_with (at_builtin; refine wpList_append_own_at _ rfl _ _ 23 rfl w2.heap.size 34 i1 _ 3 56 Tryz.underlying23 hi1' hz10 hz11 hz12 rfl (by decide) _ _ _ rfl (hown.alloc _) ⟨_, 0, none⟩ 1 1 [.int .i64 y0, .slice ya yl yc, .slice za zl zc] rfl rfl (World.news_of_block (cs := #[.int .i64 y0, .slice ya yl yc, .slice za zl zc]) (t := 34) (fr := (0, 0)) (heap_alloc_new _ _)) (by simp [Value.oneCell']) (by unfold maxLen; omega) (by omega) (by simp; omega) ?_; intro v' w3 hown' hgrow hnil hloc)
              clear hcd' hne
              go_roundw
              case rel => exact ⟨j + 1, by omega, by go_num, by have h2 := hcs.out; rw [hk1'.out] at h2 ⊢; rw [h2]; exact hown', Below.grown (hB.trans ((Ext.refl wr).alloc _)) hgrow (by simp; omega) (fun x hx => (hown.lt x hx).1)⟩
              case measure => show cl0 - ((j : Int) + 1).toNat < cl0 - (j : Int).toNat; omega
          · have hje : j = cl0 := by omega
            subst hje
            have hln : leftN k j = j - 1 := by unfold leftN; rw [if_neg (by omega)]
            rw [hln] at hown ⊢
            obtain ⟨⟨t0, t1, t2, t3⟩, tf⟩ := blk4 hb1z
            have pf0 := pf 0
            have tf0 := tf 0
            have tf1 := tf 1
            have tf2 := tf 2
            have tf3 := tf 3
            have hDz := hDv.ext hB
            have hX : ∀ v0 v1 v2 v3 v4 : Value, Hid (((((((wr.setCell ⟨gb, 0, none⟩ v0).setCell ⟨gb + 1, 0, none⟩ (v1)).setCell ⟨gb + 1, 1, none⟩ (v2)).setCell ⟨gb + 1, 2, none⟩ (v3)).setCell ⟨gb + 1, 3, none⟩ (v4))).ownsRow w2.heap.size 34 3 (.slice ua (j - 1) ucap) (j - 1) (rowCells 3 (dropC C k) (j - 1)) ∧ DIn (fun x => S x ∨ w.heap.size ≤ x ∧ x < w2.heap.size) ((((((wr.setCell ⟨gb, 0, none⟩ v0).setCell ⟨gb + 1, 0, none⟩ (v1)).setCell ⟨gb + 1, 1, none⟩ (v2)).setCell ⟨gb + 1, 2, none⟩ (v3)).setCell ⟨gb + 1, 3, none⟩ (v4))) (dropIds d1 ids) (.slice va vl vcap) ∧ Ext w ((((((wr.setCell ⟨gb, 0, none⟩ v0).setCell ⟨gb + 1, 0, none⟩ (v1)).setCell ⟨gb + 1, 1, none⟩ (v2)).setCell ⟨gb + 1, 2, none⟩ (v3)).setCell ⟨gb + 1, 3, none⟩ (v4)))) := fun v0 v1 v2 v3 v4 => by
              have hC5 := ((Chg.refl (fun x => x = gb ∨ x = gb + 1) wr).setCell (p := ⟨gb, 0, none⟩) (.inl rfl) v0).trans ((chg4 (W := wr.setCell ⟨gb, 0, none⟩ v0) (b := gb + 1) v1 v2 v3 v4).mono (fun x hx => .inr hx))
              refine ⟨ownsRow_at hown (fun x hx => hC5.block x (hown.lt x hx).2 (by have := (hown.lt x hx).1; omega)), (hDz.carry hC5.size (fun b hb hl => hC5.block b hl (by rcases hb with h | h; (have := hSx b h; omega); omega))).mono (fun x hx => ?_), hC5.toExt hE (fun x hx => by omega)⟩
              rcases hx with h | h
              · exact .inl h
              · exact .inr ⟨by omega, by omega⟩
            have hcdH := (show Hid _ from hcd')
            have hzB : w.heap.size ≤ w2.heap.size ∧ w2.heap.size ≤ wr.heap.size := ⟨by omega, hB.le⟩
            clear hcd' hne hown hDz tf pf
            go_wp2
            refine bodyPost_ret (v := .tuple #[.agg #[.slice ua (j - 1) ucap, .slice va vl vcap, .int .i64 x2, .int .i64 x3], .bool true]) (by simp [results, Tryz.results40, go_sem, t0, t1, t2, t3]) rfl ⟨_, _, rfl, ⟨w2.heap.size, bb, off, _, C, ⟨hzB.1, by simp only [World.size_setCell]; exact hzB.2⟩, (hX (.slice ua (j - 1) ucap) (.slice ua (j - 1) ucap) (.slice va vl vcap) (.int .i64 x2) (.int .i64 x3)).out.2.1, (hX (.slice ua (j - 1) ucap) (.slice ua (j - 1) ucap) (.slice va vl vcap) (.int .i64 x2) (.int .i64 x3)).out.1, rfl, hcdH.out⟩, (hX (.slice ua (j - 1) ucap) (.slice ua (j - 1) ucap) (.slice va vl vcap) (.int .i64 x2) (.int .i64 x3)).out.2.2⟩
end Go.Proofs.YtbhmblkappmfjaaGreat
