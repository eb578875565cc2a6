/- What the laws' functions to.. hand back: a copy in new memory of its own. -/
import Derived.Test.YtepfppncfeaeiaaDToString
namespace Go.Proofs.Ytepfppncfeaeiaa
open Go.RowKit Go.Deep

set_option maxHeartbeats 4000000 in
theorem toValue_any (S : Nat → Prop) (x0 : Int) (x1 : Int) (x2 : ByteArray) (d3 : D) (c3 : Value) (w : World) (hS3 : ToD 36 d3) (H3 : Has d3 (.list 2)) (h3 : DIn S w d3 c3) (s3 : SmallD d3) :
    Calls Try.prog 31 #[.agg #[.int .i64 x0, .int .i64 x1, .string x2, c3]] w fun e w' => ∃ u3, ∃ Q3 : Nat → Prop, e = .returned (.agg #[.int .i64 x0, .int .i64 x1, .string x2, u3]) ∧ (DIn Q3 w' d3 u3 ∧ Own w' d3 Q3 u3 ∧ ∀ x, Q3 x → w.heap.size ≤ x ∧ x < w'.heap.size) ∧ Ext w w' := by
  have g3 := fun (W : World) (hW : Ext w W) => h3.ext hW
  obtain ⟨a3, cap3, l3, f3, hdd3, hcc3, hl3, _⟩ := list_shape H3 h3
  subst hcc3
  clear hdd3 h3
  go_enter Try.func31, Try.ntmps31
  go_wp2_with fail
  refine (hS3 S _ _ (g3 _ ((((Ext.refl _).alloc _).alloc _).alloc _)) s3).mono ?_
  rintro e w1 ⟨u3, rfl, hu3, ho3, E1⟩
  obtain ⟨hc1, hf1⟩ := bcell E1
  have hz1 : w.heap.size + 1 + 1 < w1.heap.size := by have := E1.le; simp at this; omega
  have F1 : Ext w w1 := ((((Ext.refl _).alloc _).alloc _).alloc _).trans E1
  simp only [World.size_alloc] at hc1 hf1 hu3 ho3
  have hy1 : w.heap.size + 1 < w1.heap.size := by omega
  have hx1 : w.heap.size < w1.heap.size := by omega
  obtain ⟨b3, bc3, bl3, bf3, _, hcc, _, _⟩ := list_shape H3 hu3
  subst hcc
  go_wp2
  refine bodyPost_ret (v := .agg #[.int .i64 x0, .int .i64 x1, .string x2, .slice b3 bl3 bc3]) (by simp [results, Try.results31, go_sem, hc1]) rfl ⟨_, New (w.heap.size + 1 + 1 + 1) w1.heap.size, rfl, ⟨?_, ?_, ?_⟩, ?_⟩
  all_goals try simp only [World.size_setCell]
  · exact DIn.keep (lo := w.heap.size + 1 + 1 + 1) hu3 (fun x hx => by simp only [New] at hx; omega) (Keep.set (Keep.set (Keep.set (Keep.set (Keep.set (Keep.refl _ _) (by dsimp only; omega) _) (by dsimp only; omega) _) (by dsimp only; omega) _) (by dsimp only; omega) _) (by dsimp only; omega) _)
  · exact Own.keep (lo := w.heap.size + 1 + 1 + 1) ho3 (fun x hx => by simp only [New] at hx; omega) (Keep.set (Keep.set (Keep.set (Keep.set (Keep.set (Keep.refl _ _) (by dsimp only; omega) _) (by dsimp only; omega) _) (by dsimp only; omega) _) (by dsimp only; omega) _) (by dsimp only; omega) _)
  · intro x hx; simp only [New] at hx; omega
  · exact (Ext.setCell (Ext.setCell (Ext.setCell (Ext.setCell (Ext.setCell F1 (by dsimp only; omega) _) (by dsimp only; omega) _) (by dsimp only; omega) _) (by dsimp only; omega) _) (by dsimp only; omega) _)

theorem Try.infoValue_ : (Try.prog.info? 48).map (fun i => (i.zero, i.size, decide (i.bytes ≤ 1000))) = some (some (.agg #[.int .i64 0, .int .i64 0, .string ⟨#[]⟩, .slice none 0 0]), 4, true) := by kernel_rfl
theorem makeValue_ (n : Nat) (hn : n ≤ 1048576) (w : World) :
    (Instr.makeSlice 46 (.int .i64 (n : Int)) (.int .i64 (n : Int))).run Try.prog w = .ok (.slice (some ⟨w.heap.size, 0, none⟩) n n) (w.alloc (.cells (madeCells #[.int .i64 0, .int .i64 0, .string ⟨#[]⟩, .slice none 0 0] (n * 4)) 48)) := by
  obtain ⟨i, hi, hzz⟩ := Option.map_eq_some_iff.1 Try.infoValue_
  simp only [Prod.mk.injEq, decide_eq_true_eq] at hzz
  obtain ⟨hz, hs, hb⟩ := hzz
  have hb2 : i.bytes * n ≤ 1000 * 1048576 := Nat.mul_le_mul hb hn
  have hr := run_make (P := Try.prog) w 46 48 i _ Try.underlying46 hi hz .i64 .i64 n n (by omega) (Int.le_refl _) (by omega) (by omega)
  simp only [Int.toNat_natCast, hs] at hr
  exact hr
set_option maxHeartbeats 2000000 in
theorem toValueS_of (len : Nat) (f : Nat → Nat → D) (HRa : ∀ i, i < len → HasRow 2 (f i)) (hS3 : ∀ i, i < len → ToD 36 (f i 3)) : ToD 36 (.list 4 len f) := by
  intro S v w hv hsmall
  obtain ⟨a, cap, rfl, _⟩ := hv.list_eq
  obtain ⟨_, hn, hsm⟩ := hsmall
  have hmk := makeValue_ len hn
  go_enter Try.func36, Try.ntmps36
  go_wp2
  clear hmk
  generalize hW1 : w.alloc _ = W1
  have hrow : TSt W1 w.heap.size 48 4 len f 0 := by
    subst hW1
    have := World.rowIs_alloc w (madeCells #[.int .i64 0, .int .i64 0, .string ⟨#[]⟩, .slice none 0 0] (len * 4)) 48 (fun i => (madeCells #[.int .i64 0, .int .i64 0, .string ⟨#[]⟩, .slice none 0 0] (len * 4))[i]?.getD undef) (fun i hi => by simp [hi])
    rw [size_madeCells] at this
    exact TSt.start this
  have hg : Ext w W1 := by subst hW1; exact (Ext.refl _).alloc _
  clear hW1
  go_loopw [4] (fun i wr => ∃ k : Nat, k ≤ len ∧ i = .int .i64 k ∧ Ext w wr ∧ TSt wr w.heap.size 48 4 len f k) (fun i _ => len - (intOf i).toNat)
  case atStart => exact ⟨0, Nat.zero_le _, rfl, hg, hrow⟩
  case round =>
    obtain ⟨k, hk, rfl, hE, hT⟩ := hrel
    by_cases hlt : k < len
    · obtain ⟨cap2, b, off, C, hsl, _, _, ec, hx⟩ := (hv.ext hE).at hlt
      cases hsl
      have HR := HRa k hlt
      have hsk := hsm k hlt
      obtain ⟨F, hr⟩ := hT.row
      have hsz := hr.lt
      have hT3 := hS3 k hlt
      clear hS3
      obtain ⟨x0, hd0⟩ := (show Has (f k 0) .int from HR 0 (by decide)).int
      have h0 := hx 0 (by decide)
      have e0 := ec 0 (by decide)
      rw [hd0] at h0
      obtain ⟨y0, z0⟩ := h0.int_eq
      rw [y0] at e0
      clear y0
      obtain ⟨x1, hd1⟩ := (show Has (f k 1) .int from HR 1 (by decide)).int
      have h1 := hx 1 (by decide)
      have e1 := ec 1 (by decide)
      rw [hd1] at h1
      obtain ⟨y1, z1⟩ := h1.int_eq
      rw [y1] at e1
      clear y1
      obtain ⟨x2, hd2⟩ := (show Has (f k 2) .str from HR 2 (by decide)).str
      have h2 := hx 2 (by decide)
      have e2 := ec 2 (by decide)
      rw [hd2] at h2
      obtain ⟨y2, z2⟩ := h2.str_eq
      rw [y2] at e2
      clear y2
      have H3 : Has (f k 3) (.list 2) := HR 3 (by decide)
      have h3 := hx 3 (by decide)
      have e3 := ec 3 (by decide)
      simp only [Nat.add_zero] at e0
      clear hx ec
      have hcall := toValue_any S x0 x1 x2 (f k 3) (C 3) wr hT3 H3 h3 (hsk 3 (by decide))
      go_wp2_with fail
      refine hcall.mono ?_
      rintro e w' ⟨u3, Q3, rfl, ⟨hu3, ho3, hr3⟩, hE2⟩
      obtain ⟨b3, bc3, bl3, bf3, _, hcc, _, _⟩ := list_shape H3 hu3
      subst hcc
      have hrx := hr.of_block (Below.block hE2 _ hsz)
      clear hcall
      have ff0 := hrx.frozen (k * 4)
      have zz0 := hrx.cell (i := k * 4) (by omega)
      have ff1 := hrx.frozen (k * 4 + 1)
      have zz1 := hrx.cell (i := k * 4 + 1) (by omega)
      have ff2 := hrx.frozen (k * 4 + 2)
      have zz2 := hrx.cell (i := k * 4 + 2) (by omega)
      have ff3 := hrx.frozen (k * 4 + 3)
      have zz3 := hrx.cell (i := k * 4 + 3) (by omega)
      go_wp2
      go_roundw
      case rel =>
        refine ⟨k + 1, by omega, by go_num, setRow_ext (hE.trans hE2) (Nat.le_refl _) [.int .i64 x0, .int .i64 x1, .string x2, .slice b3 bl3 bc3] _, hT.step hE2 [.int .i64 x0, .int .i64 x1, .string x2, .slice b3 bl3 bc3] rfl (fun j => match j with | 3 => Q3 | _ => fun _ => False) (fun j hj => ?_) (fun j j' hj hj' hne x hx hx2 => ?_)⟩
        · match j, hj with
          | 0, _ => rw [hd0]; exact ⟨⟨rfl, z0⟩, trivial, fun x hx => hx.elim⟩
          | 1, _ => rw [hd1]; exact ⟨⟨rfl, z1⟩, trivial, fun x hx => hx.elim⟩
          | 2, _ => rw [hd2]; exact ⟨⟨rfl, z2⟩, trivial, fun x hx => hx.elim⟩
          | 3, _ => exact ⟨hu3, ho3, hr3⟩
        · match j, j', hj, hj' with
          | 0, 0, _, _ => exact hx
          | 0, 1, _, _ => exact hx
          | 0, 2, _, _ => exact hx
          | 0, 3, _, _ => exact hx
          | 1, 0, _, _ => exact hx
          | 1, 1, _, _ => exact hx
          | 1, 2, _, _ => exact hx
          | 1, 3, _, _ => exact hx
          | 2, 0, _, _ => exact hx
          | 2, 1, _, _ => exact hx
          | 2, 2, _, _ => exact hx
          | 2, 3, _, _ => exact hx
          | 3, 0, _, _ => exact hx2
          | 3, 1, _, _ => exact hx2
          | 3, 2, _, _ => exact hx2
          | 3, 3, _, _ => exact hne rfl
      case measure => simp [intOf]; omega
    · have hkx : k = len := by omega
      subst hkx
      clear hS3
      go_wp2
      go_ret
      have hend := hT.end (by unfold maxLen; omega) k (New w.heap.size wr.heap.size) (fun x h1 h2 => ⟨h1, h2⟩)
      exact ⟨_, rfl, hend.1, hend.2, hE⟩

theorem toValueS_any (d : D) (H : Has d (.list 2)) : ToD 36 d := by
  induction d with
  | list n len f ih =>
    obtain ⟨r, h1, rfl, h3⟩ := H
    cases h1
    exact toValueS_of len f (fun i hi j hj => h3 i hi j hj) (fun i hi => ih i 3 (h3 i hi 3 (by decide)))
  | int _ => cases H
  | bool _ => cases H
  | str _ => cases H

end Go.Proofs.Ytepfppncfeaeiaa
