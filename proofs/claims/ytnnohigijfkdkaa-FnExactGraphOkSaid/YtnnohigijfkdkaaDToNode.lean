/- What the laws' functions to.. hand back: a copy in new memory of its own. -/
import Derived.Test.YtnnohigijfkdkaaDToCell
namespace Go.Proofs.Ytnnohigijfkdkaa
open Go.RowKit Go.Deep

set_option maxHeartbeats 4000000 in
theorem toNode_any (S : Nat → Prop) (x0 : Int) (d1 : D) (c1 : Value) (d2 : D) (c2 : Value) (w : World)  (H1 : Has d1 (.list 0)) (h1 : DIn S w d1 c1) (s1 : SmallD d1) (H2 : Has d2 (.list 3)) (h2 : DIn S w d2 c2) (s2 : SmallD d2) :
    Calls Try.prog 27 #[.agg #[.int .i64 x0, c1, c2]] w fun e w' => ∃ u1 u2, ∃ Q1 Q2 : Nat → Prop, e = .returned (.agg #[.int .i64 x0, u1, u2]) ∧ (DIn Q1 w' d1 u1 ∧ Own w' d1 Q1 u1 ∧ ∀ x, Q1 x → w.heap.size ≤ x ∧ x < w'.heap.size) ∧ (DIn Q2 w' d2 u2 ∧ Own w' d2 Q2 u2 ∧ ∀ x, Q2 x → w.heap.size ≤ x ∧ x < w'.heap.size) ∧ (∀ x, Q1 x → ¬ Q2 x) ∧ Ext w w' := by
  have g1 := fun (W : World) (hW : Ext w W) => h1.ext hW
  obtain ⟨a1, cap1, l1, f1, hdd1, hcc1, hl1, _⟩ := list_shape H1 h1
  subst hcc1
  clear hdd1 h1
  have g2 := fun (W : World) (hW : Ext w W) => h2.ext hW
  obtain ⟨a2, cap2, l2, f2, hdd2, hcc2, hl2, _⟩ := list_shape H2 h2
  subst hcc2
  clear hdd2 h2
  go_enter Try.func27, Try.ntmps27
  go_wp2_with fail
  refine (toStringS_any d1 H1 S _ _ (g1 _ ((((Ext.refl _).alloc _).alloc _).alloc _)) s1).mono ?_
  rintro e w1 ⟨u1, rfl, hu1, ho1, E1⟩
  obtain ⟨hc1, hf1⟩ := bcell E1
  have hz1 : w.heap.size + 1 + 1 < w1.heap.size := by have := E1.le; simp at this; omega
  have F1 : Ext w w1 := ((((Ext.refl _).alloc _).alloc _).alloc _).trans E1
  simp only [World.size_alloc] at hc1 hf1 hu1 ho1
  have hy1 : w.heap.size + 1 < w1.heap.size := by omega
  have hx1 : w.heap.size < w1.heap.size := by omega
  obtain ⟨b1, bc1, bl1, bf1, _, hcc, _, _⟩ := list_shape H1 hu1
  subst hcc
  go_wp2_with fail
  have X2 : Ext w (w1.setCell ⟨w.heap.size + 1 + 1, 1, none⟩ (.slice b1 bl1 bc1)) := (F1.setCell (by dsimp only; omega) _)
  refine (toPropS_any d2 H2 S _ _ (g2 _ X2) s2).mono ?_
  rintro e w2 ⟨u2, rfl, hu2, ho2, E2⟩
  obtain ⟨hc2, hf2⟩ := bcell E2
  have hl2_ : w1.heap.size ≤ w2.heap.size := by have := E2.le; simp at this; omega
  have hz2 : w.heap.size + 1 + 1 < w2.heap.size := by omega
  have F2 : Ext w w2 := X2.trans E2
  simp only [World.size_setCell] at hc2 hf2 hu2 ho2
  have hy2 : w.heap.size + 1 < w2.heap.size := by omega
  have hx2 : w.heap.size < w2.heap.size := by omega
  obtain ⟨b2, bc2, bl2, bf2, _, hcc, _, _⟩ := list_shape H2 hu2
  subst hcc
  go_wp2
  refine bodyPost_ret (v := .agg #[.int .i64 x0, .slice b1 bl1 bc1, .slice b2 bl2 bc2]) (by simp [results, Try.results27, go_sem, hc2, hc1, hy1]) rfl ⟨_, _, New (w.heap.size + 1 + 1 + 1) w1.heap.size, New w1.heap.size w2.heap.size, rfl, ⟨?_, ?_, ?_⟩, ⟨?_, ?_, ?_⟩, ?_, ?_⟩
  all_goals try simp only [World.size_setCell]
  · exact DIn.keep (lo := w.heap.size + 1 + 1 + 1) hu1 (fun x hx => by simp only [New] at hx; omega) (Keep.set (Keep.set (Keep.set (Keep.set (Keep.ext (Keep.set (Keep.refl _ _) (by dsimp only; omega) _) E2) (by dsimp only; omega) _) (by dsimp only; omega) _) (by dsimp only; omega) _) (by dsimp only; omega) _)
  · exact Own.keep (lo := w.heap.size + 1 + 1 + 1) ho1 (fun x hx => by simp only [New] at hx; omega) (Keep.set (Keep.set (Keep.set (Keep.set (Keep.ext (Keep.set (Keep.refl _ _) (by dsimp only; omega) _) E2) (by dsimp only; omega) _) (by dsimp only; omega) _) (by dsimp only; omega) _) (by dsimp only; omega) _)
  · intro x hx; simp only [New] at hx; omega
  · exact DIn.keep (lo := w.heap.size + 1 + 1 + 1) hu2 (fun x hx => by simp only [New] at hx; omega) (Keep.set (Keep.set (Keep.set (Keep.set (Keep.refl _ _) (by dsimp only; omega) _) (by dsimp only; omega) _) (by dsimp only; omega) _) (by dsimp only; omega) _)
  · exact Own.keep (lo := w.heap.size + 1 + 1 + 1) ho2 (fun x hx => by simp only [New] at hx; omega) (Keep.set (Keep.set (Keep.set (Keep.set (Keep.refl _ _) (by dsimp only; omega) _) (by dsimp only; omega) _) (by dsimp only; omega) _) (by dsimp only; omega) _)
  · intro x hx; simp only [New] at hx; omega
  · intro x hx hx2; simp only [New] at hx; simp only [New] at hx2; omega
  · exact (Ext.setCell (Ext.setCell (Ext.setCell (Ext.setCell F2 (by dsimp only; omega) _) (by dsimp only; omega) _) (by dsimp only; omega) _) (by dsimp only; omega) _)

theorem Try.infoNode_ : (Try.prog.info? 40).map (fun i => (i.zero, i.size, decide (i.bytes ≤ 1000))) = some (some (.agg #[.int .i64 0, .slice none 0 0, .slice none 0 0]), 3, true) := by kernel_rfl
theorem makeNode_ (n : Nat) (hn : n ≤ 1048576) (w : World) :
    (Instr.makeSlice 28 (.int .i64 (n : Int)) (.int .i64 (n : Int))).run Try.prog w = .ok (.slice (some ⟨w.heap.size, 0, none⟩) n n) (w.alloc (.cells (madeCells #[.int .i64 0, .slice none 0 0, .slice none 0 0] (n * 3)) 40)) := by
  obtain ⟨i, hi, hzz⟩ := Option.map_eq_some_iff.1 Try.infoNode_
  simp only [Prod.mk.injEq, decide_eq_true_eq] at hzz
  obtain ⟨hz, hs, hb⟩ := hzz
  have hb2 : i.bytes * n ≤ 1000 * 1048576 := Nat.mul_le_mul hb hn
  have hr := run_make (P := Try.prog) w 28 40 i _ Try.underlying28 hi hz .i64 .i64 n n (by omega) (Int.le_refl _) (by omega) (by omega)
  simp only [Int.toNat_natCast, hs] at hr
  exact hr
set_option maxHeartbeats 2000000 in
theorem toNodeS_list (len : Nat) (f : Nat → Nat → D) (HRa : ∀ i, i < len → HasRow 4 (f i)) : ToD 16 (.list 3 len f) := by
  intro S v w hv hsmall
  obtain ⟨a, cap, rfl, _⟩ := hv.list_eq
  obtain ⟨_, hn, hsm⟩ := hsmall
  have hmk := makeNode_ len hn
  go_enter Try.func16, Try.ntmps16
  go_wp2
  clear hmk
  generalize hW1 : w.alloc _ = W1
  have hrow : TSt W1 w.heap.size 40 3 len f 0 := by
    subst hW1
    have := World.rowIs_alloc w (madeCells #[.int .i64 0, .slice none 0 0, .slice none 0 0] (len * 3)) 40 (fun i => (madeCells #[.int .i64 0, .slice none 0 0, .slice none 0 0] (len * 3))[i]?.getD undef) (fun i hi => by simp [hi])
    rw [size_madeCells] at this
    exact TSt.start this
  have hg : Ext w W1 := by subst hW1; exact (Ext.refl _).alloc _
  clear hW1
  go_loopw [4] (fun i wr => ∃ k : Nat, k ≤ len ∧ i = .int .i64 k ∧ Ext w wr ∧ TSt wr w.heap.size 40 3 len f k) (fun i _ => len - (intOf i).toNat)
  case atStart => exact ⟨0, Nat.zero_le _, rfl, hg, hrow⟩
  case round =>
    obtain ⟨k, hk, rfl, hE, hT⟩ := hrel
    by_cases hlt : k < len
    · obtain ⟨cap2, b, off, C, hsl, _, _, ec, hx⟩ := (hv.ext hE).at hlt
      cases hsl
      have HR := HRa k hlt
      have hsk := hsm k hlt
      obtain ⟨F, hr⟩ := hT.row
      have hsz := hr.lt
      obtain ⟨x0, hd0⟩ := (show Has (f k 0) .int from HR 0 (by decide)).int
      have h0 := hx 0 (by decide)
      have e0 := ec 0 (by decide)
      rw [hd0] at h0
      obtain ⟨y0, z0⟩ := h0.int_eq
      rw [y0] at e0
      clear y0
      have H1 : Has (f k 1) (.list 0) := HR 1 (by decide)
      have h1 := hx 1 (by decide)
      have e1 := ec 1 (by decide)
      have H2 : Has (f k 2) (.list 3) := HR 2 (by decide)
      have h2 := hx 2 (by decide)
      have e2 := ec 2 (by decide)
      simp only [Nat.add_zero] at e0
      clear hx ec
      have hcall := toNode_any S x0 (f k 1) (C 1) (f k 2) (C 2) wr H1 h1 (hsk 1 (by decide)) H2 h2 (hsk 2 (by decide))
      go_wp2_with fail
      refine hcall.mono ?_
      rintro e w' ⟨u1, u2, Q1, Q2, rfl, ⟨hu1, ho1, hr1⟩, ⟨hu2, ho2, hr2⟩, Dj1_2, hE2⟩
      obtain ⟨b1, bc1, bl1, bf1, _, hcc, _, _⟩ := list_shape H1 hu1
      subst hcc
      obtain ⟨b2, bc2, bl2, bf2, _, hcc, _, _⟩ := list_shape H2 hu2
      subst hcc
      have hrx := hr.of_block (Below.block hE2 _ hsz)
      clear hcall
      have ff0 := hrx.frozen (k * 3)
      have zz0 := hrx.cell (i := k * 3) (by omega)
      have ff1 := hrx.frozen (k * 3 + 1)
      have zz1 := hrx.cell (i := k * 3 + 1) (by omega)
      have ff2 := hrx.frozen (k * 3 + 2)
      have zz2 := hrx.cell (i := k * 3 + 2) (by omega)
      go_wp2
      go_roundw
      case rel =>
        refine ⟨k + 1, by omega, by go_num, setRow_ext (hE.trans hE2) (Nat.le_refl _) [.int .i64 x0, .slice b1 bl1 bc1, .slice b2 bl2 bc2] _, hT.step hE2 [.int .i64 x0, .slice b1 bl1 bc1, .slice b2 bl2 bc2] rfl (fun j => match j with | 1 => Q1 | 2 => Q2 | _ => fun _ => False) (fun j hj => ?_) (fun j j' hj hj' hne x hx hx2 => ?_)⟩
        · match j, hj with
          | 0, _ => rw [hd0]; exact ⟨⟨rfl, z0⟩, trivial, fun x hx => hx.elim⟩
          | 1, _ => exact ⟨hu1, ho1, hr1⟩
          | 2, _ => exact ⟨hu2, ho2, hr2⟩
        · match j, j', hj, hj' with
          | 0, 0, _, _ => exact hx
          | 0, 1, _, _ => exact hx
          | 0, 2, _, _ => exact hx
          | 1, 0, _, _ => exact hx2
          | 1, 1, _, _ => exact hne rfl
          | 1, 2, _, _ => exact Dj1_2 x hx hx2
          | 2, 0, _, _ => exact hx2
          | 2, 1, _, _ => exact Dj1_2 x hx2 hx
          | 2, 2, _, _ => exact hne rfl
      case measure => simp [intOf]; omega
    · have hkx : k = len := by omega
      subst hkx
      go_wp2
      go_ret
      have hend := hT.end (by unfold maxLen; omega) k (New w.heap.size wr.heap.size) (fun x h1 h2 => ⟨h1, h2⟩)
      exact ⟨_, rfl, hend.1, hend.2, hE⟩

theorem toNodeS_any (d : D) (H : Has d (.list 4)) : ToD 16 d := by
  obtain ⟨len, f, rfl, HRa⟩ := H.list
  exact toNodeS_list len f HRa

end Go.Proofs.Ytnnohigijfkdkaa
