/- What the laws' functions to.. hand back: a copy in new memory of its own. -/
import Derived.Test.YtjcbcfpdgdaffaaDoorDToRule
namespace Go.Proofs.YtjcbcfpdgdaffaaDoor
open Go.RowKit Go.Deep

set_option maxHeartbeats 4000000 in
theorem toExpr_any (S : Nat → Prop) (x0 : Int) (x1 : Int) (x2 : Int) (x3 : ByteArray) (d4 : D) (c4 : Value) (x5 : ByteArray) (x6 : ByteArray) (d7 : D) (c7 : Value) (w : World) (hS7 : ToD 13 d7) (H4 : Has d4 (.list 2)) (h4 : DIn S w d4 c4) (s4 : SmallD d4) (H7 : Has d7 (.list 8)) (h7 : DIn S w d7 c7) (s7 : SmallD d7) :
    Calls Tryd.prog 6 #[.agg #[.int .i64 x0, .int .i64 x1, .int .i64 x2, .string x3, c4, .string x5, .string x6, c7]] w fun e w' => ∃ u4 u7, ∃ Q4 Q7 : Nat → Prop, e = .returned (.agg #[.int .i64 x0, .int .i64 x1, .int .i64 x2, .string x3, u4, .string x5, .string x6, u7]) ∧ (DIn Q4 w' d4 u4 ∧ Own w' d4 Q4 u4 ∧ ∀ x, Q4 x → w.heap.size ≤ x ∧ x < w'.heap.size) ∧ (DIn Q7 w' d7 u7 ∧ Own w' d7 Q7 u7 ∧ ∀ x, Q7 x → w.heap.size ≤ x ∧ x < w'.heap.size) ∧ (∀ x, Q4 x → ¬ Q7 x) ∧ Ext w w' := by
  have g4 := fun (W : World) (hW : Ext w W) => h4.ext hW
  obtain ⟨a4, cap4, l4, f4, hdd4, hcc4, hl4, _⟩ := list_shape H4 h4
  subst hcc4
  clear hdd4 h4
  have g7 := fun (W : World) (hW : Ext w W) => h7.ext hW
  obtain ⟨a7, cap7, l7, f7, hdd7, hcc7, hl7, _⟩ := list_shape H7 h7
  subst hcc7
  clear hdd7 h7
  go_enter Tryd.func6, Tryd.ntmps6
  go_wp2_with fail
  refine (toValue_any S x1 x2 x3 d4 _ _ (toValueS_any d4 H4) H4 (g4 _ ((((Ext.refl _).alloc _).alloc _).alloc _)) s4).mono ?_
  rintro e w1 ⟨u4, R4, rfl, ⟨hu4, ho4, hr4⟩, E1⟩
  obtain ⟨hc1, hf1⟩ := bcell E1
  have hz1 : w.heap.size + 1 + 1 < w1.heap.size := by have := E1.le; simp at this; omega
  have F1 : Ext w w1 := ((((Ext.refl _).alloc _).alloc _).alloc _).trans E1
  simp only [World.size_alloc] at hc1 hf1 hr4
  have hy1 : w.heap.size + 1 < w1.heap.size := by omega
  have hx1 : w.heap.size < w1.heap.size := by omega
  obtain ⟨b4, bc4, bl4, bf4, _, hcc, _, _⟩ := list_shape H4 hu4
  subst hcc
  go_wp2_with fail
  have X2 : Ext w ((((((w1.setCell ⟨w.heap.size + 1 + 1, 1, none⟩ (.int .i64 x1)).setCell ⟨w.heap.size + 1 + 1, 2, none⟩ (.int .i64 x2)).setCell ⟨w.heap.size + 1 + 1, 3, none⟩ (.string x3)).setCell ⟨w.heap.size + 1 + 1, 4, none⟩ (.slice b4 bl4 bc4)).setCell ⟨w.heap.size + 1 + 1, 5, none⟩ (.string x5)).setCell ⟨w.heap.size + 1 + 1, 6, none⟩ (.string x6)) := ((((((F1.setCell (by dsimp only; omega) _).setCell (by dsimp only; omega) _).setCell (by dsimp only; omega) _).setCell (by dsimp only; omega) _).setCell (by dsimp only; omega) _).setCell (by dsimp only; omega) _)
  refine (hS7 S _ _ (g7 _ X2) s7).mono ?_
  rintro e w2 ⟨u7, rfl, hu7, ho7, E2⟩
  obtain ⟨hc2, hf2⟩ := bcell E2
  have hl2_ : w1.heap.size ≤ w2.heap.size := by have := E2.le; simp at this; omega
  have hz2 : w.heap.size + 1 + 1 < w2.heap.size := by omega
  have F2 : Ext w w2 := X2.trans E2
  simp only [World.size_setCell] at hc2 hf2 hu7 ho7
  have hy2 : w.heap.size + 1 < w2.heap.size := by omega
  have hx2 : w.heap.size < w2.heap.size := by omega
  obtain ⟨b7, bc7, bl7, bf7, _, hcc, _, _⟩ := list_shape H7 hu7
  subst hcc
  go_wp2
  refine bodyPost_ret (v := .agg #[.int .i64 x0, .int .i64 x1, .int .i64 x2, .string x3, .slice b4 bl4 bc4, .string x5, .string x6, .slice b7 bl7 bc7]) (by simp [results, Tryd.results6, go_sem, hc2, hc1, hy1]) rfl ⟨_, _, R4, New w1.heap.size w2.heap.size, rfl, ⟨?_, ?_, ?_⟩, ⟨?_, ?_, ?_⟩, ?_, ?_⟩
  all_goals try simp only [World.size_setCell]
  · exact DIn.keep (lo := w.heap.size + 1 + 1 + 1) hu4 (fun x hx => by have := hr4 x hx; omega) (Keep.set (Keep.set (Keep.set (Keep.set (Keep.set (Keep.set (Keep.set (Keep.set (Keep.set (Keep.ext (Keep.set (Keep.set (Keep.set (Keep.set (Keep.set (Keep.set (Keep.refl _ _) (by dsimp only; omega) _) (by dsimp only; omega) _) (by dsimp only; omega) _) (by dsimp only; omega) _) (by dsimp only; omega) _) (by dsimp only; omega) _) E2) (by dsimp only; omega) _) (by dsimp only; omega) _) (by dsimp only; omega) _) (by dsimp only; omega) _) (by dsimp only; omega) _) (by dsimp only; omega) _) (by dsimp only; omega) _) (by dsimp only; omega) _) (by dsimp only; omega) _)
  · exact Own.keep (lo := w.heap.size + 1 + 1 + 1) ho4 (fun x hx => by have := hr4 x hx; omega) (Keep.set (Keep.set (Keep.set (Keep.set (Keep.set (Keep.set (Keep.set (Keep.set (Keep.set (Keep.ext (Keep.set (Keep.set (Keep.set (Keep.set (Keep.set (Keep.set (Keep.refl _ _) (by dsimp only; omega) _) (by dsimp only; omega) _) (by dsimp only; omega) _) (by dsimp only; omega) _) (by dsimp only; omega) _) (by dsimp only; omega) _) E2) (by dsimp only; omega) _) (by dsimp only; omega) _) (by dsimp only; omega) _) (by dsimp only; omega) _) (by dsimp only; omega) _) (by dsimp only; omega) _) (by dsimp only; omega) _) (by dsimp only; omega) _) (by dsimp only; omega) _)
  · intro x hx; have := hr4 x hx; omega
  · exact DIn.keep (lo := w.heap.size + 1 + 1 + 1) hu7 (fun x hx => by simp only [New] at hx; omega) (Keep.set (Keep.set (Keep.set (Keep.set (Keep.set (Keep.set (Keep.set (Keep.set (Keep.set (Keep.refl _ _) (by dsimp only; omega) _) (by dsimp only; omega) _) (by dsimp only; omega) _) (by dsimp only; omega) _) (by dsimp only; omega) _) (by dsimp only; omega) _) (by dsimp only; omega) _) (by dsimp only; omega) _) (by dsimp only; omega) _)
  · exact Own.keep (lo := w.heap.size + 1 + 1 + 1) ho7 (fun x hx => by simp only [New] at hx; omega) (Keep.set (Keep.set (Keep.set (Keep.set (Keep.set (Keep.set (Keep.set (Keep.set (Keep.set (Keep.refl _ _) (by dsimp only; omega) _) (by dsimp only; omega) _) (by dsimp only; omega) _) (by dsimp only; omega) _) (by dsimp only; omega) _) (by dsimp only; omega) _) (by dsimp only; omega) _) (by dsimp only; omega) _) (by dsimp only; omega) _)
  · intro x hx; simp only [New] at hx; omega
  · intro x hx hx2; have := hr4 x hx; simp only [New] at hx2; omega
  · exact (Ext.setCell (Ext.setCell (Ext.setCell (Ext.setCell (Ext.setCell (Ext.setCell (Ext.setCell (Ext.setCell (Ext.setCell F2 (by dsimp only; omega) _) (by dsimp only; omega) _) (by dsimp only; omega) _) (by dsimp only; omega) _) (by dsimp only; omega) _) (by dsimp only; omega) _) (by dsimp only; omega) _) (by dsimp only; omega) _) (by dsimp only; omega) _)

theorem Tryd.infoExpr_ : (Tryd.prog.info? 35).map (fun i => (i.zero, i.size, decide (i.bytes ≤ 1000))) = some (some (.agg #[.int .i64 0, .int .i64 0, .int .i64 0, .string ⟨#[]⟩, .slice none 0 0, .string ⟨#[]⟩, .string ⟨#[]⟩, .slice none 0 0]), 8, true) := by kernel_rfl
theorem makeExpr_ (n : Nat) (hn : n ≤ 1048576) (w : World) :
    (Instr.makeSlice 33 (.int .i64 (n : Int)) (.int .i64 (n : Int))).run Tryd.prog w = .ok (.slice (some ⟨w.heap.size, 0, none⟩) n n) (w.alloc (.cells (madeCells #[.int .i64 0, .int .i64 0, .int .i64 0, .string ⟨#[]⟩, .slice none 0 0, .string ⟨#[]⟩, .string ⟨#[]⟩, .slice none 0 0] (n * 8)) 35)) := by
  obtain ⟨i, hi, hzz⟩ := Option.map_eq_some_iff.1 Tryd.infoExpr_
  simp only [Prod.mk.injEq, decide_eq_true_eq] at hzz
  obtain ⟨hz, hs, hb⟩ := hzz
  have hb2 : i.bytes * n ≤ 1000 * 1048576 := Nat.mul_le_mul hb hn
  have hr := run_make (P := Tryd.prog) w 33 35 i _ Tryd.underlying33 hi hz .i64 .i64 n n (by omega) (Int.le_refl _) (by omega) (by omega)
  simp only [Int.toNat_natCast, hs] at hr
  exact hr
set_option maxHeartbeats 2000000 in
theorem toExprS_of (len : Nat) (f : Nat → Nat → D) (HRa : ∀ i, i < len → HasRow 8 (f i)) (hS7 : ∀ i, i < len → ToD 13 (f i 7)) : ToD 13 (.list 8 len f) := by
  intro S v w hv hsmall
  obtain ⟨a, cap, rfl, _⟩ := hv.list_eq
  obtain ⟨_, hn, hsm⟩ := hsmall
  have hmk := makeExpr_ len hn
  go_enter Tryd.func13, Tryd.ntmps13
  go_wp2
  clear hmk
  generalize hW1 : w.alloc _ = W1
  have hrow : TSt W1 w.heap.size 35 8 len f 0 := by
    subst hW1
    have := World.rowIs_alloc w (madeCells #[.int .i64 0, .int .i64 0, .int .i64 0, .string ⟨#[]⟩, .slice none 0 0, .string ⟨#[]⟩, .string ⟨#[]⟩, .slice none 0 0] (len * 8)) 35 (fun i => (madeCells #[.int .i64 0, .int .i64 0, .int .i64 0, .string ⟨#[]⟩, .slice none 0 0, .string ⟨#[]⟩, .string ⟨#[]⟩, .slice none 0 0] (len * 8))[i]?.getD undef) (fun i hi => by simp [hi])
    rw [size_madeCells] at this
    exact TSt.start this
  have hg : Ext w W1 := by subst hW1; exact (Ext.refl _).alloc _
  clear hW1
  go_loopw [4] (fun i wr => ∃ k : Nat, k ≤ len ∧ i = .int .i64 k ∧ Ext w wr ∧ TSt wr w.heap.size 35 8 len f k) (fun i _ => len - (intOf i).toNat)
  case atStart => exact ⟨0, Nat.zero_le _, rfl, hg, hrow⟩
  case round =>
    obtain ⟨k, hk, rfl, hE, hT⟩ := hrel
    by_cases hlt : k < len
    · obtain ⟨cap2, b, off, C, hsl, _, _, ec, hx⟩ := (hv.ext hE).at hlt
      cases hsl
      have HR := HRa k hlt
      have hsk := hsm k hlt
      obtain ⟨F, hr⟩ := hT.row
      have hsz := hr.lt
      have hT7 := hS7 k hlt
      clear hS7
      obtain ⟨x0, hd0⟩ := (show Has (f k 0) .int from HR 0 (by decide)).int
      have h0 := hx 0 (by decide)
      have e0 := ec 0 (by decide)
      rw [hd0] at h0
      obtain ⟨y0, z0⟩ := h0.int_eq
      rw [y0] at e0
      clear y0
      obtain ⟨x1, hd1⟩ := (show Has (f k 1) .int from HR 1 (by decide)).int
      have h1 := hx 1 (by decide)
      have e1 := ec 1 (by decide)
      rw [hd1] at h1
      obtain ⟨y1, z1⟩ := h1.int_eq
      rw [y1] at e1
      clear y1
      obtain ⟨x2, hd2⟩ := (show Has (f k 2) .int from HR 2 (by decide)).int
      have h2 := hx 2 (by decide)
      have e2 := ec 2 (by decide)
      rw [hd2] at h2
      obtain ⟨y2, z2⟩ := h2.int_eq
      rw [y2] at e2
      clear y2
      obtain ⟨x3, hd3⟩ := (show Has (f k 3) .str from HR 3 (by decide)).str
      have h3 := hx 3 (by decide)
      have e3 := ec 3 (by decide)
      rw [hd3] at h3
      obtain ⟨y3, z3⟩ := h3.str_eq
      rw [y3] at e3
      clear y3
      have H4 : Has (f k 4) (.list 2) := HR 4 (by decide)
      have h4 := hx 4 (by decide)
      have e4 := ec 4 (by decide)
      obtain ⟨x5, hd5⟩ := (show Has (f k 5) .str from HR 5 (by decide)).str
      have h5 := hx 5 (by decide)
      have e5 := ec 5 (by decide)
      rw [hd5] at h5
      obtain ⟨y5, z5⟩ := h5.str_eq
      rw [y5] at e5
      clear y5
      obtain ⟨x6, hd6⟩ := (show Has (f k 6) .str from HR 6 (by decide)).str
      have h6 := hx 6 (by decide)
      have e6 := ec 6 (by decide)
      rw [hd6] at h6
      obtain ⟨y6, z6⟩ := h6.str_eq
      rw [y6] at e6
      clear y6
      have H7 : Has (f k 7) (.list 8) := HR 7 (by decide)
      have h7 := hx 7 (by decide)
      have e7 := ec 7 (by decide)
      simp only [Nat.add_zero] at e0
      clear hx ec
      have hcall := toExpr_any S x0 x1 x2 x3 (f k 4) (C 4) x5 x6 (f k 7) (C 7) wr hT7 H4 h4 (hsk 4 (by decide)) H7 h7 (hsk 7 (by decide))
      go_wp2_with fail
      refine hcall.mono ?_
      rintro e w' ⟨u4, u7, Q4, Q7, rfl, ⟨hu4, ho4, hr4⟩, ⟨hu7, ho7, hr7⟩, Dj4_7, hE2⟩
      obtain ⟨b4, bc4, bl4, bf4, _, hcc, _, _⟩ := list_shape H4 hu4
      subst hcc
      obtain ⟨b7, bc7, bl7, bf7, _, hcc, _, _⟩ := list_shape H7 hu7
      subst hcc
      have hrx := hr.of_block (Below.block hE2 _ hsz)
      clear hcall
      have ff0 := hrx.frozen (k * 8)
      have zz0 := hrx.cell (i := k * 8) (by omega)
      have ff1 := hrx.frozen (k * 8 + 1)
      have zz1 := hrx.cell (i := k * 8 + 1) (by omega)
      have ff2 := hrx.frozen (k * 8 + 2)
      have zz2 := hrx.cell (i := k * 8 + 2) (by omega)
      have ff3 := hrx.frozen (k * 8 + 3)
      have zz3 := hrx.cell (i := k * 8 + 3) (by omega)
      have ff4 := hrx.frozen (k * 8 + 4)
      have zz4 := hrx.cell (i := k * 8 + 4) (by omega)
      have ff5 := hrx.frozen (k * 8 + 5)
      have zz5 := hrx.cell (i := k * 8 + 5) (by omega)
      have ff6 := hrx.frozen (k * 8 + 6)
      have zz6 := hrx.cell (i := k * 8 + 6) (by omega)
      have ff7 := hrx.frozen (k * 8 + 7)
      have zz7 := hrx.cell (i := k * 8 + 7) (by omega)
      go_wp2
      go_roundw
      case rel =>
        refine ⟨k + 1, by omega, by go_num, setRow_ext (hE.trans hE2) (Nat.le_refl _) [.int .i64 x0, .int .i64 x1, .int .i64 x2, .string x3, .slice b4 bl4 bc4, .string x5, .string x6, .slice b7 bl7 bc7] _, hT.step hE2 [.int .i64 x0, .int .i64 x1, .int .i64 x2, .string x3, .slice b4 bl4 bc4, .string x5, .string x6, .slice b7 bl7 bc7] rfl (fun j => match j with | 4 => Q4 | 7 => Q7 | _ => fun _ => False) (fun j hj => ?_) (fun j j' hj hj' hne x hx hx2 => ?_)⟩
        · match j, hj with
          | 0, _ => rw [hd0]; exact ⟨⟨rfl, z0⟩, trivial, fun x hx => hx.elim⟩
          | 1, _ => rw [hd1]; exact ⟨⟨rfl, z1⟩, trivial, fun x hx => hx.elim⟩
          | 2, _ => rw [hd2]; exact ⟨⟨rfl, z2⟩, trivial, fun x hx => hx.elim⟩
          | 3, _ => rw [hd3]; exact ⟨⟨rfl, z3⟩, trivial, fun x hx => hx.elim⟩
          | 4, _ => exact ⟨hu4, ho4, hr4⟩
          | 5, _ => rw [hd5]; exact ⟨⟨rfl, z5⟩, trivial, fun x hx => hx.elim⟩
          | 6, _ => rw [hd6]; exact ⟨⟨rfl, z6⟩, trivial, fun x hx => hx.elim⟩
          | 7, _ => exact ⟨hu7, ho7, hr7⟩
        · match j, j', hj, hj' with
          | 0, 0, _, _ => exact hx
          | 0, 1, _, _ => exact hx
          | 0, 2, _, _ => exact hx
          | 0, 3, _, _ => exact hx
          | 0, 4, _, _ => exact hx
          | 0, 5, _, _ => exact hx
          | 0, 6, _, _ => exact hx
          | 0, 7, _, _ => exact hx
          | 1, 0, _, _ => exact hx
          | 1, 1, _, _ => exact hx
          | 1, 2, _, _ => exact hx
          | 1, 3, _, _ => exact hx
          | 1, 4, _, _ => exact hx
          | 1, 5, _, _ => exact hx
          | 1, 6, _, _ => exact hx
          | 1, 7, _, _ => exact hx
          | 2, 0, _, _ => exact hx
          | 2, 1, _, _ => exact hx
          | 2, 2, _, _ => exact hx
          | 2, 3, _, _ => exact hx
          | 2, 4, _, _ => exact hx
          | 2, 5, _, _ => exact hx
          | 2, 6, _, _ => exact hx
          | 2, 7, _, _ => exact hx
          | 3, 0, _, _ => exact hx
          | 3, 1, _, _ => exact hx
          | 3, 2, _, _ => exact hx
          | 3, 3, _, _ => exact hx
          | 3, 4, _, _ => exact hx
          | 3, 5, _, _ => exact hx
          | 3, 6, _, _ => exact hx
          | 3, 7, _, _ => exact hx
          | 4, 0, _, _ => exact hx2
          | 4, 1, _, _ => exact hx2
          | 4, 2, _, _ => exact hx2
          | 4, 3, _, _ => exact hx2
          | 4, 4, _, _ => exact hne rfl
          | 4, 5, _, _ => exact hx2
          | 4, 6, _, _ => exact hx2
          | 4, 7, _, _ => exact Dj4_7 x hx hx2
          | 5, 0, _, _ => exact hx
          | 5, 1, _, _ => exact hx
          | 5, 2, _, _ => exact hx
          | 5, 3, _, _ => exact hx
          | 5, 4, _, _ => exact hx
          | 5, 5, _, _ => exact hx
          | 5, 6, _, _ => exact hx
          | 5, 7, _, _ => exact hx
          | 6, 0, _, _ => exact hx
          | 6, 1, _, _ => exact hx
          | 6, 2, _, _ => exact hx
          | 6, 3, _, _ => exact hx
          | 6, 4, _, _ => exact hx
          | 6, 5, _, _ => exact hx
          | 6, 6, _, _ => exact hx
          | 6, 7, _, _ => exact hx
          | 7, 0, _, _ => exact hx2
          | 7, 1, _, _ => exact hx2
          | 7, 2, _, _ => exact hx2
          | 7, 3, _, _ => exact hx2
          | 7, 4, _, _ => exact Dj4_7 x hx2 hx
          | 7, 5, _, _ => exact hx2
          | 7, 6, _, _ => exact hx2
          | 7, 7, _, _ => exact hne rfl
      case measure => simp [intOf]; omega
    · have hkx : k = len := by omega
      subst hkx
      clear hS7
      go_wp2
      go_ret
      have hend := hT.end (by unfold maxLen; omega) k (New w.heap.size wr.heap.size) (fun x h1 h2 => ⟨h1, h2⟩)
      exact ⟨_, rfl, hend.1, hend.2, hE⟩

theorem toExprS_any (d : D) (H : Has d (.list 8)) : ToD 13 d := by
  induction d with
  | list n len f ih =>
    obtain ⟨r, h1, rfl, h3⟩ := H
    cases h1
    exact toExprS_of len f (fun i hi j hj => h3 i hi j hj) (fun i hi => ih i 7 (h3 i hi 7 (by decide)))
  | int _ => cases H
  | bool _ => cases H
  | str _ => cases H

end Go.Proofs.YtjcbcfpdgdaffaaDoor
