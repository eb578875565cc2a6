/- What the laws' functions to.. hand back: a copy in new memory of its own. -/
import Derived.Test.YtepfppncfeaeiaaDToProp
namespace Go.Proofs.Ytepfppncfeaeiaa
open Go.RowKit Go.Deep

set_option maxHeartbeats 4000000 in
theorem toCell_any (S : Nat → Prop) (x0 : ByteArray) (x1 : Int) (x2 : Int) (x3 : ByteArray) (d4 : D) (c4 : Value) (w : World)  (H4 : Has d4 (.list 2)) (h4 : DIn S w d4 c4) (s4 : SmallD d4) :
    Calls Try.prog 23 #[.agg #[.string x0, .int .i64 x1, .int .i64 x2, .string x3, c4]] w fun e w' => ∃ u4, ∃ Q4 : Nat → Prop, e = .returned (.agg #[.string x0, .int .i64 x1, .int .i64 x2, .string x3, u4]) ∧ (DIn Q4 w' d4 u4 ∧ Own w' d4 Q4 u4 ∧ ∀ x, Q4 x → w.heap.size ≤ x ∧ x < w'.heap.size) ∧ Ext w w' := by
  have g4 := fun (W : World) (hW : Ext w W) => h4.ext hW
  obtain ⟨a4, cap4, l4, f4, hdd4, hcc4, hl4, _⟩ := list_shape H4 h4
  subst hcc4
  clear hdd4 h4
  go_enter Try.func23, Try.ntmps23
  go_wp2_with fail
  refine (toValue_any S x1 x2 x3 d4 _ _ (toValueS_any d4 H4) H4 (g4 _ ((((Ext.refl _).alloc _).alloc _).alloc _)) s4).mono ?_
  rintro e w1 ⟨u4, R4, rfl, ⟨hu4, ho4, hr4⟩, E1⟩
  obtain ⟨hc1, hf1⟩ := bcell E1
  have hz1 : w.heap.size + 1 + 1 < w1.heap.size := by have := E1.le; simp at this; omega
  have F1 : Ext w w1 := ((((Ext.refl _).alloc _).alloc _).alloc _).trans E1
  simp only [World.size_alloc] at hc1 hf1 hr4
  have hy1 : w.heap.size + 1 < w1.heap.size := by omega
  have hx1 : w.heap.size < w1.heap.size := by omega
  obtain ⟨b4, bc4, bl4, bf4, _, hcc, _, _⟩ := list_shape H4 hu4
  subst hcc
  go_wp2
  refine bodyPost_ret (v := .agg #[.string x0, .int .i64 x1, .int .i64 x2, .string x3, .slice b4 bl4 bc4]) (by simp [results, Try.results23, go_sem, hc1]) rfl ⟨_, R4, rfl, ⟨?_, ?_, ?_⟩, ?_⟩
  all_goals try simp only [World.size_setCell]
  · exact DIn.keep (lo := w.heap.size + 1 + 1 + 1) hu4 (fun x hx => by have := hr4 x hx; omega) (Keep.set (Keep.set (Keep.set (Keep.set (Keep.set (Keep.set (Keep.set (Keep.set (Keep.set (Keep.refl _ _) (by dsimp only; omega) _) (by dsimp only; omega) _) (by dsimp only; omega) _) (by dsimp only; omega) _) (by dsimp only; omega) _) (by dsimp only; omega) _) (by dsimp only; omega) _) (by dsimp only; omega) _) (by dsimp only; omega) _)
  · exact Own.keep (lo := w.heap.size + 1 + 1 + 1) ho4 (fun x hx => by have := hr4 x hx; omega) (Keep.set (Keep.set (Keep.set (Keep.set (Keep.set (Keep.set (Keep.set (Keep.set (Keep.set (Keep.refl _ _) (by dsimp only; omega) _) (by dsimp only; omega) _) (by dsimp only; omega) _) (by dsimp only; omega) _) (by dsimp only; omega) _) (by dsimp only; omega) _) (by dsimp only; omega) _) (by dsimp only; omega) _) (by dsimp only; omega) _)
  · intro x hx; have := hr4 x hx; omega
  · exact (Ext.setCell (Ext.setCell (Ext.setCell (Ext.setCell (Ext.setCell (Ext.setCell (Ext.setCell (Ext.setCell (Ext.setCell F1 (by dsimp only; omega) _) (by dsimp only; omega) _) (by dsimp only; omega) _) (by dsimp only; omega) _) (by dsimp only; omega) _) (by dsimp only; omega) _) (by dsimp only; omega) _) (by dsimp only; omega) _) (by dsimp only; omega) _)

theorem Try.infoCell_ : (Try.prog.info? 50).map (fun i => (i.zero, i.size, decide (i.bytes ≤ 1000))) = some (some (.agg #[.string ⟨#[]⟩, .int .i64 0, .int .i64 0, .string ⟨#[]⟩, .slice none 0 0]), 5, true) := by kernel_rfl
theorem makeCell_ (n : Nat) (hn : n ≤ 1048576) (w : World) :
    (Instr.makeSlice 27 (.int .i64 (n : Int)) (.int .i64 (n : Int))).run Try.prog w = .ok (.slice (some ⟨w.heap.size, 0, none⟩) n n) (w.alloc (.cells (madeCells #[.string ⟨#[]⟩, .int .i64 0, .int .i64 0, .string ⟨#[]⟩, .slice none 0 0] (n * 5)) 50)) := by
  obtain ⟨i, hi, hzz⟩ := Option.map_eq_some_iff.1 Try.infoCell_
  simp only [Prod.mk.injEq, decide_eq_true_eq] at hzz
  obtain ⟨hz, hs, hb⟩ := hzz
  have hb2 : i.bytes * n ≤ 1000 * 1048576 := Nat.mul_le_mul hb hn
  have hr := run_make (P := Try.prog) w 27 50 i _ Try.underlying27 hi hz .i64 .i64 n n (by omega) (Int.le_refl _) (by omega) (by omega)
  simp only [Int.toNat_natCast, hs] at hr
  exact hr
set_option maxHeartbeats 2000000 in
theorem toCellS_list (len : Nat) (f : Nat → Nat → D) (HRa : ∀ i, i < len → HasRow 3 (f i)) : ToD 13 (.list 5 len f) := by
  intro S v w hv hsmall
  obtain ⟨a, cap, rfl, _⟩ := hv.list_eq
  obtain ⟨_, hn, hsm⟩ := hsmall
  have hmk := makeCell_ len hn
  go_enter Try.func13, Try.ntmps13
  go_wp2
  clear hmk
  generalize hW1 : w.alloc _ = W1
  have hrow : TSt W1 w.heap.size 50 5 len f 0 := by
    subst hW1
    have := World.rowIs_alloc w (madeCells #[.string ⟨#[]⟩, .int .i64 0, .int .i64 0, .string ⟨#[]⟩, .slice none 0 0] (len * 5)) 50 (fun i => (madeCells #[.string ⟨#[]⟩, .int .i64 0, .int .i64 0, .string ⟨#[]⟩, .slice none 0 0] (len * 5))[i]?.getD undef) (fun i hi => by simp [hi])
    rw [size_madeCells] at this
    exact TSt.start this
  have hg : Ext w W1 := by subst hW1; exact (Ext.refl _).alloc _
  clear hW1
  go_loopw [4] (fun i wr => ∃ k : Nat, k ≤ len ∧ i = .int .i64 k ∧ Ext w wr ∧ TSt wr w.heap.size 50 5 len f k) (fun i _ => len - (intOf i).toNat)
  case atStart => exact ⟨0, Nat.zero_le _, rfl, hg, hrow⟩
  case round =>
    obtain ⟨k, hk, rfl, hE, hT⟩ := hrel
    by_cases hlt : k < len
    · obtain ⟨cap2, b, off, C, hsl, _, _, ec, hx⟩ := (hv.ext hE).at hlt
      cases hsl
      have HR := HRa k hlt
      have hsk := hsm k hlt
      obtain ⟨F, hr⟩ := hT.row
      have hsz := hr.lt
      obtain ⟨x0, hd0⟩ := (show Has (f k 0) .str from HR 0 (by decide)).str
      have h0 := hx 0 (by decide)
      have e0 := ec 0 (by decide)
      rw [hd0] at h0
      obtain ⟨y0, z0⟩ := h0.str_eq
      rw [y0] at e0
      clear y0
      obtain ⟨x1, hd1⟩ := (show Has (f k 1) .int from HR 1 (by decide)).int
      have h1 := hx 1 (by decide)
      have e1 := ec 1 (by decide)
      rw [hd1] at h1
      obtain ⟨y1, z1⟩ := h1.int_eq
      rw [y1] at e1
      clear y1
      obtain ⟨x2, hd2⟩ := (show Has (f k 2) .int from HR 2 (by decide)).int
      have h2 := hx 2 (by decide)
      have e2 := ec 2 (by decide)
      rw [hd2] at h2
      obtain ⟨y2, z2⟩ := h2.int_eq
      rw [y2] at e2
      clear y2
      obtain ⟨x3, hd3⟩ := (show Has (f k 3) .str from HR 3 (by decide)).str
      have h3 := hx 3 (by decide)
      have e3 := ec 3 (by decide)
      rw [hd3] at h3
      obtain ⟨y3, z3⟩ := h3.str_eq
      rw [y3] at e3
      clear y3
      have H4 : Has (f k 4) (.list 2) := HR 4 (by decide)
      have h4 := hx 4 (by decide)
      have e4 := ec 4 (by decide)
      simp only [Nat.add_zero] at e0
      clear hx ec
      have hcall := toCell_any S x0 x1 x2 x3 (f k 4) (C 4) wr H4 h4 (hsk 4 (by decide))
      go_wp2_with fail
      refine hcall.mono ?_
      rintro e w' ⟨u4, Q4, rfl, ⟨hu4, ho4, hr4⟩, hE2⟩
      obtain ⟨b4, bc4, bl4, bf4, _, hcc, _, _⟩ := list_shape H4 hu4
      subst hcc
      have hrx := hr.of_block (Below.block hE2 _ hsz)
      clear hcall
      have ff0 := hrx.frozen (k * 5)
      have zz0 := hrx.cell (i := k * 5) (by omega)
      have ff1 := hrx.frozen (k * 5 + 1)
      have zz1 := hrx.cell (i := k * 5 + 1) (by omega)
      have ff2 := hrx.frozen (k * 5 + 2)
      have zz2 := hrx.cell (i := k * 5 + 2) (by omega)
      have ff3 := hrx.frozen (k * 5 + 3)
      have zz3 := hrx.cell (i := k * 5 + 3) (by omega)
      have ff4 := hrx.frozen (k * 5 + 4)
      have zz4 := hrx.cell (i := k * 5 + 4) (by omega)
      go_wp2
      go_roundw
      case rel =>
        refine ⟨k + 1, by omega, by go_num, setRow_ext (hE.trans hE2) (Nat.le_refl _) [.string x0, .int .i64 x1, .int .i64 x2, .string x3, .slice b4 bl4 bc4] _, hT.step hE2 [.string x0, .int .i64 x1, .int .i64 x2, .string x3, .slice b4 bl4 bc4] rfl (fun j => match j with | 4 => Q4 | _ => fun _ => False) (fun j hj => ?_) (fun j j' hj hj' hne x hx hx2 => ?_)⟩
        · match j, hj with
          | 0, _ => rw [hd0]; exact ⟨⟨rfl, z0⟩, trivial, fun x hx => hx.elim⟩
          | 1, _ => rw [hd1]; exact ⟨⟨rfl, z1⟩, trivial, fun x hx => hx.elim⟩
          | 2, _ => rw [hd2]; exact ⟨⟨rfl, z2⟩, trivial, fun x hx => hx.elim⟩
          | 3, _ => rw [hd3]; exact ⟨⟨rfl, z3⟩, trivial, fun x hx => hx.elim⟩
          | 4, _ => exact ⟨hu4, ho4, hr4⟩
        · match j, j', hj, hj' with
          | 0, 0, _, _ => exact hx
          | 0, 1, _, _ => exact hx
          | 0, 2, _, _ => exact hx
          | 0, 3, _, _ => exact hx
          | 0, 4, _, _ => exact hx
          | 1, 0, _, _ => exact hx
          | 1, 1, _, _ => exact hx
          | 1, 2, _, _ => exact hx
          | 1, 3, _, _ => exact hx
          | 1, 4, _, _ => exact hx
          | 2, 0, _, _ => exact hx
          | 2, 1, _, _ => exact hx
          | 2, 2, _, _ => exact hx
          | 2, 3, _, _ => exact hx
          | 2, 4, _, _ => exact hx
          | 3, 0, _, _ => exact hx
          | 3, 1, _, _ => exact hx
          | 3, 2, _, _ => exact hx
          | 3, 3, _, _ => exact hx
          | 3, 4, _, _ => exact hx
          | 4, 0, _, _ => exact hx2
          | 4, 1, _, _ => exact hx2
          | 4, 2, _, _ => exact hx2
          | 4, 3, _, _ => exact hx2
          | 4, 4, _, _ => exact hne rfl
      case measure => simp [intOf]; omega
    · have hkx : k = len := by omega
      subst hkx
      go_wp2
      go_ret
      have hend := hT.end (by unfold maxLen; omega) k (New w.heap.size wr.heap.size) (fun x h1 h2 => ⟨h1, h2⟩)
      exact ⟨_, rfl, hend.1, hend.2, hE⟩

theorem toCellS_any (d : D) (H : Has d (.list 3)) : ToD 13 d := by
  obtain ⟨len, f, rfl, HRa⟩ := H.list
  exact toCellS_list len f HRa

end Go.Proofs.Ytepfppncfeaeiaa
