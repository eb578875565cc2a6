/- What the laws' functions to.. hand back: a copy in new memory of its own. -/
import Derived.Test.YteijgejpenlgjaaGreatDOwn
namespace Go.Proofs.YteijgejpenlgjaaGreat
open Go.RowKit Go.Deep

def ToD (F : FuncId) (d : D) : Prop := ∀ (S : Nat → Prop) (v : Value) (w : World), DIn S w d v → SmallD d →
 Calls Tryz.prog F #[v] w fun e w' => ∃ u, e = .returned u ∧ DIn (New w.heap.size w'.heap.size) w' d u ∧ Own w' d (New w.heap.size w'.heap.size) u ∧ Ext w w'

theorem Tryz.infostring_ : (Tryz.prog.info? 9).map (fun i => (i.zero, i.size, decide (i.bytes ≤ 1000))) = some (some (.string ⟨#[]⟩), 1, true) := by kernel_rfl
theorem makestring_ (n : Nat) (hn : n ≤ 1048576) (w : World) :
  (Instr.makeSlice 72 (.int .i64 (n : Int)) (.int .i64 (n : Int))).run Tryz.prog w = .ok (.slice (some ⟨w.heap.size, 0, none⟩) n n) (w.alloc (.cells (madeCells #[.string ⟨#[]⟩] (n)) 9)) := by
 obtain ⟨i, hi, hzz⟩ := Option.map_eq_some_iff.1 Tryz.infostring_
 simp only [Prod.mk.injEq, decide_eq_true_eq] at hzz
 obtain ⟨hz, hs, hb⟩ := hzz
 have hb2 : i.bytes * n ≤ 1000 * 1048576 := Nat.mul_le_mul hb hn
 have hr := run_make (P := Tryz.prog) w 72 9 i _ Tryz.underlying72 hi hz .i64 .i64 n n (by omega) (Int.le_refl _) (by omega) (by omega)
 simp only [Int.toNat_natCast, hs, Nat.mul_one] at hr
 exact hr
set_option maxHeartbeats 2000000 in
theorem toStringS_list (len : Nat) (f : Nat → Nat → D) (HRa : ∀ i, i < len → HasRow 0 (f i)) : ToD 78 (.list 1 len f) := by
 intro S v w hv hsmall
 obtain ⟨a, cap, rfl, _⟩ := hv.list_eq
 obtain ⟨_, hn, hsm⟩ := hsmall
 have hmk := makestring_ len hn
 go_enter Tryz.func78, Tryz.ntmps78
 go_wp2
 clear hmk
 generalize hW1 : w.alloc _ = W1
 have hrow : TSt W1 w.heap.size 9 1 len f 0 := by
  subst hW1
  have := World.rowIs_alloc w (madeCells #[.string ⟨#[]⟩] (len)) 9 (fun i => (madeCells #[.string ⟨#[]⟩] (len))[i]?.getD undef) (fun i hi => by simp [hi])
  rw [size_madeCells] at this
  exact TSt.start (by rw [Nat.mul_one]; exact this)
 have hg : Ext w W1 := by subst hW1; exact (Ext.refl _).alloc _
 clear hW1
 go_loopw [4] (fun i wr => ∃ k : Nat, k ≤ len ∧ i = .int .i64 k ∧ Ext w wr ∧ TSt wr w.heap.size 9 1 len f k) (fun i _ => len - (intOf i).toNat)
 case atStart => exact ⟨0, Nat.zero_le _, rfl, hg, hrow⟩
 case round =>
  obtain ⟨k, hk, rfl, hE, hT⟩ := hrel
  by_cases hlt : k < len
  ·
   obtain ⟨cap2, b, off, C, hsl, _, _, ec, hx⟩ := (hv.ext hE).at hlt
   cases hsl
   have HR := HRa k hlt
   have hsk := hsm k hlt
   obtain ⟨F, hr⟩ := hT.row
   have hsz := hr.lt
   obtain ⟨x0, hd0⟩ := (show Has (f k 0) .str from HR 0 (by decide)).str
   have h0 := hx 0 (by decide)
   have e0 := ec 0 (by decide)
   rw [hd0] at h0
   obtain ⟨y0, z0⟩ := h0.str_eq
   rw [y0] at e0
   clear y0
   simp only [Nat.add_zero, Nat.mul_one] at e0
   clear hx ec
   have f0 := hr.frozen k
   have zz0 := hr.cell (i := k) (by omega)
   go_wp2
   go_roundw
   case rel => exact ⟨k + 1, by omega, by go_num, hE.setCell (Nat.le_refl _) _, by
    have := hT.step (Ext.refl _) [.string x0] rfl (fun _ _ => False) (fun j hj => by
     match j, hj with
     | 0, _ => rw [hd0]; exact ⟨⟨rfl, z0⟩, trivial, fun x hx => hx.elim⟩) (fun _ _ _ _ _ x hx => hx.elim)
    rw [Nat.mul_one] at this
    exact this⟩
   case measure => simp [intOf]; omega
  ·
   have hkx : k = len := by omega
   subst hkx
   go_wp2
   go_ret
   have hend := hT.end (by unfold maxLen; omega) k (New w.heap.size wr.heap.size) (fun x h1 h2 => ⟨h1, h2⟩)
   exact ⟨_, rfl, hend.1, hend.2, hE⟩

theorem toStringS_any (d : D) (H : Has d (.list 0)) : ToD 78 d := by
 obtain ⟨len, f, rfl, HRa⟩ := H.list
 exact toStringS_list len f HRa

end Go.Proofs.YteijgejpenlgjaaGreat

/- What the laws' functions to.. hand back: a copy in new memory of its own. -/
namespace Go.Proofs.YteijgejpenlgjaaGreat
open Go.RowKit Go.Deep

set_option maxHeartbeats 4000000 in
theorem toValue_any (S : Nat → Prop) (x0 : Int) (x1 : Int) (x2 : ByteArray) (d3 : D) (c3 : Value) (w : World) (hS3 : ToD 24 d3) (H3 : Has d3 (.list 2)) (h3 : DIn S w d3 c3) (s3 : SmallD d3) :
  Calls Tryz.prog 8 #[.agg #[.int .i64 x0, .int .i64 x1, .string x2, c3]] w fun e w' => ∃ u3, ∃ Q3 : Nat → Prop, e = .returned (.agg #[.int .i64 x0, .int .i64 x1, .string x2, u3]) ∧ (DIn Q3 w' d3 u3 ∧ Own w' d3 Q3 u3 ∧ ∀ x, Q3 x → w.heap.size ≤ x ∧ x < w'.heap.size) ∧ Ext w w' := by
 have g3 := fun (W : World) (hW : Ext w W) => h3.ext hW
 obtain ⟨a3, cap3, l3, f3, hdd3, hcc3, hl3, _⟩ := list_shape H3 h3
 subst hcc3
 clear hdd3 h3
 go_enter Tryz.func8, Tryz.ntmps8
 go_wp2_with fail
 refine (hS3 S _ _ (g3 _ ((((Ext.refl _).alloc _).alloc _).alloc _)) s3).mono ?_
 rintro e w1 ⟨u3, rfl, hu3, ho3, E1⟩
 obtain ⟨hc1, hf1⟩ := bcell E1
 have hz1 : w.heap.size + 1 + 1 < w1.heap.size := by have := E1.le; simp at this; omega
 have F1 : Ext w w1 := ((((Ext.refl _).alloc _).alloc _).alloc _).trans E1
 simp only [World.size_alloc] at hc1 hf1 hu3 ho3
 have hy1 : w.heap.size + 1 < w1.heap.size := by omega
 have hx1 : w.heap.size < w1.heap.size := by omega
 obtain ⟨b3, bc3, bl3, bf3, _, hcc, _, _⟩ := list_shape H3 hu3
 subst hcc
 go_wp2
 refine bodyPost_ret (v := .agg #[.int .i64 x0, .int .i64 x1, .string x2, .slice b3 bl3 bc3]) (by simp [results, Tryz.results8, go_sem, hc1]) rfl ⟨_, New (w.heap.size + 1 + 1 + 1) w1.heap.size, rfl, ⟨?_, ?_, ?_⟩, ?_⟩
 all_goals try simp only [World.size_setCell]
 ·
  exact DIn.keep (lo := w.heap.size + 1 + 1 + 1) hu3 (fun x hx => by simp only [New] at hx; omega) (Keep.set (Keep.set (Keep.set (Keep.set (Keep.set (Keep.refl _ _) (by dsimp only; omega) _) (by dsimp only; omega) _) (by dsimp only; omega) _) (by dsimp only; omega) _) (by dsimp only; omega) _)
 ·
  exact Own.keep (lo := w.heap.size + 1 + 1 + 1) ho3 (fun x hx => by simp only [New] at hx; omega) (Keep.set (Keep.set (Keep.set (Keep.set (Keep.set (Keep.refl _ _) (by dsimp only; omega) _) (by dsimp only; omega) _) (by dsimp only; omega) _) (by dsimp only; omega) _) (by dsimp only; omega) _)
 ·
  intro x hx; simp only [New] at hx; omega
 ·
  exact (Ext.setCell (Ext.setCell (Ext.setCell (Ext.setCell (Ext.setCell F1 (by dsimp only; omega) _) (by dsimp only; omega) _) (by dsimp only; omega) _) (by dsimp only; omega) _) (by dsimp only; omega) _)

theorem Tryz.infoValue_ : (Tryz.prog.info? 40).map (fun i => (i.zero, i.size, decide (i.bytes ≤ 1000))) = some (some (.agg #[.int .i64 0, .int .i64 0, .string ⟨#[]⟩, .slice none 0 0]), 4, true) := by kernel_rfl
theorem makeValue_ (n : Nat) (hn : n ≤ 1048576) (w : World) :
  (Instr.makeSlice 38 (.int .i64 (n : Int)) (.int .i64 (n : Int))).run Tryz.prog w = .ok (.slice (some ⟨w.heap.size, 0, none⟩) n n) (w.alloc (.cells (madeCells #[.int .i64 0, .int .i64 0, .string ⟨#[]⟩, .slice none 0 0] (n * 4)) 40)) := by
 obtain ⟨i, hi, hzz⟩ := Option.map_eq_some_iff.1 Tryz.infoValue_
 simp only [Prod.mk.injEq, decide_eq_true_eq] at hzz
 obtain ⟨hz, hs, hb⟩ := hzz
 have hb2 : i.bytes * n ≤ 1000 * 1048576 := Nat.mul_le_mul hb hn
 have hr := run_make (P := Tryz.prog) w 38 40 i _ Tryz.underlying38 hi hz .i64 .i64 n n (by omega) (Int.le_refl _) (by omega) (by omega)
 simp only [Int.toNat_natCast, hs] at hr
 exact hr
set_option maxHeartbeats 2000000 in
theorem toValueS_of (len : Nat) (f : Nat → Nat → D) (HRa : ∀ i, i < len → HasRow 2 (f i)) (hS3 : ∀ i, i < len → ToD 24 (f i 3)) : ToD 24 (.list 4 len f) := by
 intro S v w hv hsmall
 obtain ⟨a, cap, rfl, _⟩ := hv.list_eq
 obtain ⟨_, hn, hsm⟩ := hsmall
 have hmk := makeValue_ len hn
 go_enter Tryz.func24, Tryz.ntmps24
 go_wp2
 clear hmk
 generalize hW1 : w.alloc _ = W1
 have hrow : TSt W1 w.heap.size 40 4 len f 0 := by
  subst hW1
  have := World.rowIs_alloc w (madeCells #[.int .i64 0, .int .i64 0, .string ⟨#[]⟩, .slice none 0 0] (len * 4)) 40 (fun i => (madeCells #[.int .i64 0, .int .i64 0, .string ⟨#[]⟩, .slice none 0 0] (len * 4))[i]?.getD undef) (fun i hi => by simp [hi])
  rw [size_madeCells] at this
  exact TSt.start this
 have hg : Ext w W1 := by subst hW1; exact (Ext.refl _).alloc _
 clear hW1
 go_loopw [4] (fun i wr => ∃ k : Nat, k ≤ len ∧ i = .int .i64 k ∧ Ext w wr ∧ TSt wr w.heap.size 40 4 len f k) (fun i _ => len - (intOf i).toNat)
 case atStart => exact ⟨0, Nat.zero_le _, rfl, hg, hrow⟩
 case round =>
  obtain ⟨k, hk, rfl, hE, hT⟩ := hrel
  by_cases hlt : k < len
  ·
   obtain ⟨cap2, b, off, C, hsl, _, _, ec, hx⟩ := (hv.ext hE).at hlt
   cases hsl
   have HR := HRa k hlt
   have hsk := hsm k hlt
   obtain ⟨F, hr⟩ := hT.row
   have hsz := hr.lt
   have hT3 := hS3 k hlt
   clear hS3
   obtain ⟨x0, hd0⟩ := (show Has (f k 0) .int from HR 0 (by decide)).int
   have h0 := hx 0 (by decide)
   have e0 := ec 0 (by decide)
   rw [hd0] at h0
   obtain ⟨y0, z0⟩ := h0.int_eq
   rw [y0] at e0
   clear y0
   obtain ⟨x1, hd1⟩ := (show Has (f k 1) .int from HR 1 (by decide)).int
   have h1 := hx 1 (by decide)
   have e1 := ec 1 (by decide)
   rw [hd1] at h1
   obtain ⟨y1, z1⟩ := h1.int_eq
   rw [y1] at e1
   clear y1
   obtain ⟨x2, hd2⟩ := (show Has (f k 2) .str from HR 2 (by decide)).str
   have h2 := hx 2 (by decide)
   have e2 := ec 2 (by decide)
   rw [hd2] at h2
   obtain ⟨y2, z2⟩ := h2.str_eq
   rw [y2] at e2
   clear y2
   have H3 : Has (f k 3) (.list 2) := HR 3 (by decide)
   have h3 := hx 3 (by decide)
   have e3 := ec 3 (by decide)
   simp only [Nat.add_zero] at e0
   clear hx ec
   have hcall := toValue_any S x0 x1 x2 (f k 3) (C 3) wr hT3 H3 h3 (hsk 3 (by decide))
   go_wp2_with fail
   refine hcall.mono ?_
   rintro e w' ⟨u3, Q3, rfl, ⟨hu3, ho3, hr3⟩, hE2⟩
   obtain ⟨b3, bc3, bl3, bf3, _, hcc, _, _⟩ := list_shape H3 hu3
   subst hcc
   have hrx := hr.of_block (Below.block hE2 _ hsz)
   clear hcall
   have ff0 := hrx.frozen (k * 4)
   have zz0 := hrx.cell (i := k * 4) (by omega)
   have ff1 := hrx.frozen (k * 4 + 1)
   have zz1 := hrx.cell (i := k * 4 + 1) (by omega)
   have ff2 := hrx.frozen (k * 4 + 2)
   have zz2 := hrx.cell (i := k * 4 + 2) (by omega)
   have ff3 := hrx.frozen (k * 4 + 3)
   have zz3 := hrx.cell (i := k * 4 + 3) (by omega)
   go_wp2
   go_roundw
   case rel =>
    refine ⟨k + 1, by omega, by go_num, setRow_ext (hE.trans hE2) (Nat.le_refl _) [.int .i64 x0, .int .i64 x1, .string x2, .slice b3 bl3 bc3] _, hT.step hE2 [.int .i64 x0, .int .i64 x1, .string x2, .slice b3 bl3 bc3] rfl (fun j => match j with | 3 => Q3 | _ => fun _ => False) (fun j hj => ?_) (fun j j' hj hj' hne x hx hx2 => ?_)⟩
    ·
     match j, hj with
     | 0, _ => rw [hd0]; exact ⟨⟨rfl, z0⟩, trivial, fun x hx => hx.elim⟩
     | 1, _ => rw [hd1]; exact ⟨⟨rfl, z1⟩, trivial, fun x hx => hx.elim⟩
     | 2, _ => rw [hd2]; exact ⟨⟨rfl, z2⟩, trivial, fun x hx => hx.elim⟩
     | 3, _ => exact ⟨hu3, ho3, hr3⟩
    ·
     match j, j', hj, hj' with
     | 0, 0, _, _ => exact hx
     | 0, 1, _, _ => exact hx
     | 0, 2, _, _ => exact hx
     | 0, 3, _, _ => exact hx
     | 1, 0, _, _ => exact hx
     | 1, 1, _, _ => exact hx
     | 1, 2, _, _ => exact hx
     | 1, 3, _, _ => exact hx
     | 2, 0, _, _ => exact hx
     | 2, 1, _, _ => exact hx
     | 2, 2, _, _ => exact hx
     | 2, 3, _, _ => exact hx
     | 3, 0, _, _ => exact hx2
     | 3, 1, _, _ => exact hx2
     | 3, 2, _, _ => exact hx2
     | 3, 3, _, _ => exact hne rfl
   case measure => simp [intOf]; omega
  ·
   have hkx : k = len := by omega
   subst hkx
   clear hS3
   go_wp2
   go_ret
   have hend := hT.end (by unfold maxLen; omega) k (New w.heap.size wr.heap.size) (fun x h1 h2 => ⟨h1, h2⟩)
   exact ⟨_, rfl, hend.1, hend.2, hE⟩

theorem toValueS_any (d : D) (H : Has d (.list 2)) : ToD 24 d := by
 induction d with
 | list n len f ih =>
  obtain ⟨r, h1, rfl, h3⟩ := H
  cases h1
  exact toValueS_of len f (fun i hi j hj => h3 i hi j hj) (fun i hi => ih i 3 (h3 i hi 3 (by decide)))
 | int _ => cases H
 | bool _ => cases H
 | str _ => cases H

end Go.Proofs.YteijgejpenlgjaaGreat

/- What the laws' functions to.. hand back: a copy in new memory of its own. -/
namespace Go.Proofs.YteijgejpenlgjaaGreat
open Go.RowKit Go.Deep

set_option maxHeartbeats 4000000 in
theorem toProp_any (S : Nat → Prop) (x0 : ByteArray) (x1 : Int) (x2 : Int) (x3 : ByteArray) (d4 : D) (c4 : Value) (w : World)  (H4 : Has d4 (.list 2)) (h4 : DIn S w d4 c4) (s4 : SmallD d4) :
  Calls Tryz.prog 96 #[.agg #[.string x0, .int .i64 x1, .int .i64 x2, .string x3, c4]] w fun e w' => ∃ u4, ∃ Q4 : Nat → Prop, e = .returned (.agg #[.string x0, .int .i64 x1, .int .i64 x2, .string x3, u4]) ∧ (DIn Q4 w' d4 u4 ∧ Own w' d4 Q4 u4 ∧ ∀ x, Q4 x → w.heap.size ≤ x ∧ x < w'.heap.size) ∧ Ext w w' := by
 have g4 := fun (W : World) (hW : Ext w W) => h4.ext hW
 obtain ⟨a4, cap4, l4, f4, hdd4, hcc4, hl4, _⟩ := list_shape H4 h4
 subst hcc4
 clear hdd4 h4
 go_enter Tryz.func96, Tryz.ntmps96
 go_wp2_with fail
 refine (toValue_any S x1 x2 x3 d4 _ _ (toValueS_any d4 H4) H4 (g4 _ ((((Ext.refl _).alloc _).alloc _).alloc _)) s4).mono ?_
 rintro e w1 ⟨u4, R4, rfl, ⟨hu4, ho4, hr4⟩, E1⟩
 obtain ⟨hc1, hf1⟩ := bcell E1
 have hz1 : w.heap.size + 1 + 1 < w1.heap.size := by have := E1.le; simp at this; omega
 have F1 : Ext w w1 := ((((Ext.refl _).alloc _).alloc _).alloc _).trans E1
 simp only [World.size_alloc] at hc1 hf1 hr4
 have hy1 : w.heap.size + 1 < w1.heap.size := by omega
 have hx1 : w.heap.size < w1.heap.size := by omega
 obtain ⟨b4, bc4, bl4, bf4, _, hcc, _, _⟩ := list_shape H4 hu4
 subst hcc
 go_wp2
 refine bodyPost_ret (v := .agg #[.string x0, .int .i64 x1, .int .i64 x2, .string x3, .slice b4 bl4 bc4]) (by simp [results, Tryz.results96, go_sem, hc1]) rfl ⟨_, R4, rfl, ⟨?_, ?_, ?_⟩, ?_⟩
 all_goals try simp only [World.size_setCell]
 ·
  exact DIn.keep (lo := w.heap.size + 1 + 1 + 1) hu4 (fun x hx => by have := hr4 x hx; omega) (Keep.set (Keep.set (Keep.set (Keep.set (Keep.set (Keep.set (Keep.set (Keep.set (Keep.set (Keep.refl _ _) (by dsimp only; omega) _) (by dsimp only; omega) _) (by dsimp only; omega) _) (by dsimp only; omega) _) (by dsimp only; omega) _) (by dsimp only; omega) _) (by dsimp only; omega) _) (by dsimp only; omega) _) (by dsimp only; omega) _)
 ·
  exact Own.keep (lo := w.heap.size + 1 + 1 + 1) ho4 (fun x hx => by have := hr4 x hx; omega) (Keep.set (Keep.set (Keep.set (Keep.set (Keep.set (Keep.set (Keep.set (Keep.set (Keep.set (Keep.refl _ _) (by dsimp only; omega) _) (by dsimp only; omega) _) (by dsimp only; omega) _) (by dsimp only; omega) _) (by dsimp only; omega) _) (by dsimp only; omega) _) (by dsimp only; omega) _) (by dsimp only; omega) _) (by dsimp only; omega) _)
 ·
  intro x hx; have := hr4 x hx; omega
 ·
  exact (Ext.setCell (Ext.setCell (Ext.setCell (Ext.setCell (Ext.setCell (Ext.setCell (Ext.setCell (Ext.setCell (Ext.setCell F1 (by dsimp only; omega) _) (by dsimp only; omega) _) (by dsimp only; omega) _) (by dsimp only; omega) _) (by dsimp only; omega) _) (by dsimp only; omega) _) (by dsimp only; omega) _) (by dsimp only; omega) _) (by dsimp only; omega) _)

theorem Tryz.infoProp_ : (Tryz.prog.info? 127).map (fun i => (i.zero, i.size, decide (i.bytes ≤ 1000))) = some (some (.agg #[.string ⟨#[]⟩, .int .i64 0, .int .i64 0, .string ⟨#[]⟩, .slice none 0 0]), 5, true) := by kernel_rfl
theorem makeProp_ (n : Nat) (hn : n ≤ 1048576) (w : World) :
  (Instr.makeSlice 79 (.int .i64 (n : Int)) (.int .i64 (n : Int))).run Tryz.prog w = .ok (.slice (some ⟨w.heap.size, 0, none⟩) n n) (w.alloc (.cells (madeCells #[.string ⟨#[]⟩, .int .i64 0, .int .i64 0, .string ⟨#[]⟩, .slice none 0 0] (n * 5)) 127)) := by
 obtain ⟨i, hi, hzz⟩ := Option.map_eq_some_iff.1 Tryz.infoProp_
 simp only [Prod.mk.injEq, decide_eq_true_eq] at hzz
 obtain ⟨hz, hs, hb⟩ := hzz
 have hb2 : i.bytes * n ≤ 1000 * 1048576 := Nat.mul_le_mul hb hn
 have hr := run_make (P := Tryz.prog) w 79 127 i _ Tryz.underlying79 hi hz .i64 .i64 n n (by omega) (Int.le_refl _) (by omega) (by omega)
 simp only [Int.toNat_natCast, hs] at hr
 exact hr
set_option maxHeartbeats 2000000 in
theorem toPropS_list (len : Nat) (f : Nat → Nat → D) (HRa : ∀ i, i < len → HasRow 3 (f i)) : ToD 79 (.list 5 len f) := by
 intro S v w hv hsmall
 obtain ⟨a, cap, rfl, _⟩ := hv.list_eq
 obtain ⟨_, hn, hsm⟩ := hsmall
 have hmk := makeProp_ len hn
 go_enter Tryz.func79, Tryz.ntmps79
 go_wp2
 clear hmk
 generalize hW1 : w.alloc _ = W1
 have hrow : TSt W1 w.heap.size 127 5 len f 0 := by
  subst hW1
  have := World.rowIs_alloc w (madeCells #[.string ⟨#[]⟩, .int .i64 0, .int .i64 0, .string ⟨#[]⟩, .slice none 0 0] (len * 5)) 127 (fun i => (madeCells #[.string ⟨#[]⟩, .int .i64 0, .int .i64 0, .string ⟨#[]⟩, .slice none 0 0] (len * 5))[i]?.getD undef) (fun i hi => by simp [hi])
  rw [size_madeCells] at this
  exact TSt.start this
 have hg : Ext w W1 := by subst hW1; exact (Ext.refl _).alloc _
 clear hW1
 go_loopw [4] (fun i wr => ∃ k : Nat, k ≤ len ∧ i = .int .i64 k ∧ Ext w wr ∧ TSt wr w.heap.size 127 5 len f k) (fun i _ => len - (intOf i).toNat)
 case atStart => exact ⟨0, Nat.zero_le _, rfl, hg, hrow⟩
 case round =>
  obtain ⟨k, hk, rfl, hE, hT⟩ := hrel
  by_cases hlt : k < len
  ·
   obtain ⟨cap2, b, off, C, hsl, _, _, ec, hx⟩ := (hv.ext hE).at hlt
   cases hsl
   have HR := HRa k hlt
   have hsk := hsm k hlt
   obtain ⟨F, hr⟩ := hT.row
   have hsz := hr.lt
   obtain ⟨x0, hd0⟩ := (show Has (f k 0) .str from HR 0 (by decide)).str
   have h0 := hx 0 (by decide)
   have e0 := ec 0 (by decide)
   rw [hd0] at h0
   obtain ⟨y0, z0⟩ := h0.str_eq
   rw [y0] at e0
   clear y0
   obtain ⟨x1, hd1⟩ := (show Has (f k 1) .int from HR 1 (by decide)).int
   have h1 := hx 1 (by decide)
   have e1 := ec 1 (by decide)
   rw [hd1] at h1
   obtain ⟨y1, z1⟩ := h1.int_eq
   rw [y1] at e1
   clear y1
   obtain ⟨x2, hd2⟩ := (show Has (f k 2) .int from HR 2 (by decide)).int
   have h2 := hx 2 (by decide)
   have e2 := ec 2 (by decide)
   rw [hd2] at h2
   obtain ⟨y2, z2⟩ := h2.int_eq
   rw [y2] at e2
   clear y2
   obtain ⟨x3, hd3⟩ := (show Has (f k 3) .str from HR 3 (by decide)).str
   have h3 := hx 3 (by decide)
   have e3 := ec 3 (by decide)
   rw [hd3] at h3
   obtain ⟨y3, z3⟩ := h3.str_eq
   rw [y3] at e3
   clear y3
   have H4 : Has (f k 4) (.list 2) := HR 4 (by decide)
   have h4 := hx 4 (by decide)
   have e4 := ec 4 (by decide)
   simp only [Nat.add_zero] at e0
   clear hx ec
   have hcall := toProp_any S x0 x1 x2 x3 (f k 4) (C 4) wr H4 h4 (hsk 4 (by decide))
   go_wp2_with fail
   refine hcall.mono ?_
   rintro e w' ⟨u4, Q4, rfl, ⟨hu4, ho4, hr4⟩, hE2⟩
   obtain ⟨b4, bc4, bl4, bf4, _, hcc, _, _⟩ := list_shape H4 hu4
   subst hcc
   have hrx := hr.of_block (Below.block hE2 _ hsz)
   clear hcall
   have ff0 := hrx.frozen (k * 5)
   have zz0 := hrx.cell (i := k * 5) (by omega)
   have ff1 := hrx.frozen (k * 5 + 1)
   have zz1 := hrx.cell (i := k * 5 + 1) (by omega)
   have ff2 := hrx.frozen (k * 5 + 2)
   have zz2 := hrx.cell (i := k * 5 + 2) (by omega)
   have ff3 := hrx.frozen (k * 5 + 3)
   have zz3 := hrx.cell (i := k * 5 + 3) (by omega)
   have ff4 := hrx.frozen (k * 5 + 4)
   have zz4 := hrx.cell (i := k * 5 + 4) (by omega)
   go_wp2
   go_roundw
   case rel =>
    refine ⟨k + 1, by omega, by go_num, setRow_ext (hE.trans hE2) (Nat.le_refl _) [.string x0, .int .i64 x1, .int .i64 x2, .string x3, .slice b4 bl4 bc4] _, hT.step hE2 [.string x0, .int .i64 x1, .int .i64 x2, .string x3, .slice b4 bl4 bc4] rfl (fun j => match j with | 4 => Q4 | _ => fun _ => False) (fun j hj => ?_) (fun j j' hj hj' hne x hx hx2 => ?_)⟩
    ·
     match j, hj with
     | 0, _ => rw [hd0]; exact ⟨⟨rfl, z0⟩, trivial, fun x hx => hx.elim⟩
     | 1, _ => rw [hd1]; exact ⟨⟨rfl, z1⟩, trivial, fun x hx => hx.elim⟩
     | 2, _ => rw [hd2]; exact ⟨⟨rfl, z2⟩, trivial, fun x hx => hx.elim⟩
     | 3, _ => rw [hd3]; exact ⟨⟨rfl, z3⟩, trivial, fun x hx => hx.elim⟩
     | 4, _ => exact ⟨hu4, ho4, hr4⟩
    ·
     match j, j', hj, hj' with
     | 0, 0, _, _ => exact hx
     | 0, 1, _, _ => exact hx
     | 0, 2, _, _ => exact hx
     | 0, 3, _, _ => exact hx
     | 0, 4, _, _ => exact hx
     | 1, 0, _, _ => exact hx
     | 1, 1, _, _ => exact hx
     | 1, 2, _, _ => exact hx
     | 1, 3, _, _ => exact hx
     | 1, 4, _, _ => exact hx
     | 2, 0, _, _ => exact hx
     | 2, 1, _, _ => exact hx
     | 2, 2, _, _ => exact hx
     | 2, 3, _, _ => exact hx
     | 2, 4, _, _ => exact hx
     | 3, 0, _, _ => exact hx
     | 3, 1, _, _ => exact hx
     | 3, 2, _, _ => exact hx
     | 3, 3, _, _ => exact hx
     | 3, 4, _, _ => exact hx
     | 4, 0, _, _ => exact hx2
     | 4, 1, _, _ => exact hx2
     | 4, 2, _, _ => exact hx2
     | 4, 3, _, _ => exact hx2
     | 4, 4, _, _ => exact hne rfl
   case measure => simp [intOf]; omega
  ·
   have hkx : k = len := by omega
   subst hkx
   go_wp2
   go_ret
   have hend := hT.end (by unfold maxLen; omega) k (New w.heap.size wr.heap.size) (fun x h1 h2 => ⟨h1, h2⟩)
   exact ⟨_, rfl, hend.1, hend.2, hE⟩

theorem toPropS_any (d : D) (H : Has d (.list 3)) : ToD 79 d := by
 obtain ⟨len, f, rfl, HRa⟩ := H.list
 exact toPropS_list len f HRa

end Go.Proofs.YteijgejpenlgjaaGreat

/- What the laws' functions to.. hand back: a copy in new memory of its own. -/
namespace Go.Proofs.YteijgejpenlgjaaGreat
open Go.RowKit Go.Deep

end Go.Proofs.YteijgejpenlgjaaGreat

/- What the laws' functions to.. hand back: a copy in new memory of its own. -/
namespace Go.Proofs.YteijgejpenlgjaaGreat
open Go.RowKit Go.Deep

set_option maxHeartbeats 4000000 in
theorem toNode_any (S : Nat → Prop) (x0 : Int) (d1 : D) (c1 : Value) (d2 : D) (c2 : Value) (w : World)  (H1 : Has d1 (.list 0)) (h1 : DIn S w d1 c1) (s1 : SmallD d1) (H2 : Has d2 (.list 3)) (h2 : DIn S w d2 c2) (s2 : SmallD d2) :
  Calls Tryz.prog 49 #[.agg #[.int .i64 x0, c1, c2]] w fun e w' => ∃ u1 u2, ∃ Q1 Q2 : Nat → Prop, e = .returned (.agg #[.int .i64 x0, u1, u2]) ∧ (DIn Q1 w' d1 u1 ∧ Own w' d1 Q1 u1 ∧ ∀ x, Q1 x → w.heap.size ≤ x ∧ x < w'.heap.size) ∧ (DIn Q2 w' d2 u2 ∧ Own w' d2 Q2 u2 ∧ ∀ x, Q2 x → w.heap.size ≤ x ∧ x < w'.heap.size) ∧ (∀ x, Q1 x → ¬ Q2 x) ∧ Ext w w' := by
 have g1 := fun (W : World) (hW : Ext w W) => h1.ext hW
 obtain ⟨a1, cap1, l1, f1, hdd1, hcc1, hl1, _⟩ := list_shape H1 h1
 subst hcc1
 clear hdd1 h1
 have g2 := fun (W : World) (hW : Ext w W) => h2.ext hW
 obtain ⟨a2, cap2, l2, f2, hdd2, hcc2, hl2, _⟩ := list_shape H2 h2
 subst hcc2
 clear hdd2 h2
 go_enter Tryz.func49, Tryz.ntmps49
 go_wp2_with fail
 refine (toStringS_any d1 H1 S _ _ (g1 _ ((((Ext.refl _).alloc _).alloc _).alloc _)) s1).mono ?_
 rintro e w1 ⟨u1, rfl, hu1, ho1, E1⟩
 obtain ⟨hc1, hf1⟩ := bcell E1
 have hz1 : w.heap.size + 1 + 1 < w1.heap.size := by have := E1.le; simp at this; omega
 have F1 : Ext w w1 := ((((Ext.refl _).alloc _).alloc _).alloc _).trans E1
 simp only [World.size_alloc] at hc1 hf1 hu1 ho1
 have hy1 : w.heap.size + 1 < w1.heap.size := by omega
 have hx1 : w.heap.size < w1.heap.size := by omega
 obtain ⟨b1, bc1, bl1, bf1, _, hcc, _, _⟩ := list_shape H1 hu1
 subst hcc
 go_wp2_with fail
 have X2 : Ext w (w1.setCell ⟨w.heap.size + 1 + 1, 1, none⟩ (.slice b1 bl1 bc1)) := (F1.setCell (by dsimp only; omega) _)
 refine (toPropS_any d2 H2 S _ _ (g2 _ X2) s2).mono ?_
 rintro e w2 ⟨u2, rfl, hu2, ho2, E2⟩
 obtain ⟨hc2, hf2⟩ := bcell E2
 have hl2_ : w1.heap.size ≤ w2.heap.size := by have := E2.le; simp at this; omega
 have hz2 : w.heap.size + 1 + 1 < w2.heap.size := by omega
 have F2 : Ext w w2 := X2.trans E2
 simp only [World.size_setCell] at hc2 hf2 hu2 ho2
 have hy2 : w.heap.size + 1 < w2.heap.size := by omega
 have hx2 : w.heap.size < w2.heap.size := by omega
 obtain ⟨b2, bc2, bl2, bf2, _, hcc, _, _⟩ := list_shape H2 hu2
 subst hcc
 go_wp2
 refine bodyPost_ret (v := .agg #[.int .i64 x0, .slice b1 bl1 bc1, .slice b2 bl2 bc2]) (by simp [results, Tryz.results49, go_sem, hc2, hc1, hy1]) rfl ⟨_, _, New (w.heap.size + 1 + 1 + 1) w1.heap.size, New w1.heap.size w2.heap.size, rfl, ⟨?_, ?_, ?_⟩, ⟨?_, ?_, ?_⟩, ?_, ?_⟩
 all_goals try simp only [World.size_setCell]
 ·
  exact DIn.keep (lo := w.heap.size + 1 + 1 + 1) hu1 (fun x hx => by simp only [New] at hx; omega) (Keep.set (Keep.set (Keep.set (Keep.set (Keep.ext (Keep.set (Keep.refl _ _) (by dsimp only; omega) _) E2) (by dsimp only; omega) _) (by dsimp only; omega) _) (by dsimp only; omega) _) (by dsimp only; omega) _)
 ·
  exact Own.keep (lo := w.heap.size + 1 + 1 + 1) ho1 (fun x hx => by simp only [New] at hx; omega) (Keep.set (Keep.set (Keep.set (Keep.set (Keep.ext (Keep.set (Keep.refl _ _) (by dsimp only; omega) _) E2) (by dsimp only; omega) _) (by dsimp only; omega) _) (by dsimp only; omega) _) (by dsimp only; omega) _)
 ·
  intro x hx; simp only [New] at hx; omega
 ·
  exact DIn.keep (lo := w.heap.size + 1 + 1 + 1) hu2 (fun x hx => by simp only [New] at hx; omega) (Keep.set (Keep.set (Keep.set (Keep.set (Keep.refl _ _) (by dsimp only; omega) _) (by dsimp only; omega) _) (by dsimp only; omega) _) (by dsimp only; omega) _)
 ·
  exact Own.keep (lo := w.heap.size + 1 + 1 + 1) ho2 (fun x hx => by simp only [New] at hx; omega) (Keep.set (Keep.set (Keep.set (Keep.set (Keep.refl _ _) (by dsimp only; omega) _) (by dsimp only; omega) _) (by dsimp only; omega) _) (by dsimp only; omega) _)
 ·
  intro x hx; simp only [New] at hx; omega
 ·
  intro x hx hx2; simp only [New] at hx; simp only [New] at hx2; omega
 ·
  exact (Ext.setCell (Ext.setCell (Ext.setCell (Ext.setCell F2 (by dsimp only; omega) _) (by dsimp only; omega) _) (by dsimp only; omega) _) (by dsimp only; omega) _)

theorem Tryz.infoNode_ : (Tryz.prog.info? 81).map (fun i => (i.zero, i.size, decide (i.bytes ≤ 1000))) = some (some (.agg #[.int .i64 0, .slice none 0 0, .slice none 0 0]), 3, true) := by kernel_rfl
theorem makeNode_ (n : Nat) (hn : n ≤ 1048576) (w : World) :
  (Instr.makeSlice 31 (.int .i64 (n : Int)) (.int .i64 (n : Int))).run Tryz.prog w = .ok (.slice (some ⟨w.heap.size, 0, none⟩) n n) (w.alloc (.cells (madeCells #[.int .i64 0, .slice none 0 0, .slice none 0 0] (n * 3)) 81)) := by
 obtain ⟨i, hi, hzz⟩ := Option.map_eq_some_iff.1 Tryz.infoNode_
 simp only [Prod.mk.injEq, decide_eq_true_eq] at hzz
 obtain ⟨hz, hs, hb⟩ := hzz
 have hb2 : i.bytes * n ≤ 1000 * 1048576 := Nat.mul_le_mul hb hn
 have hr := run_make (P := Tryz.prog) w 31 81 i _ Tryz.underlying31 hi hz .i64 .i64 n n (by omega) (Int.le_refl _) (by omega) (by omega)
 simp only [Int.toNat_natCast, hs] at hr
 exact hr
set_option maxHeartbeats 2000000 in
theorem toNodeS_list (len : Nat) (f : Nat → Nat → D) (HRa : ∀ i, i < len → HasRow 4 (f i)) : ToD 22 (.list 3 len f) := by
 intro S v w hv hsmall
 obtain ⟨a, cap, rfl, _⟩ := hv.list_eq
 obtain ⟨_, hn, hsm⟩ := hsmall
 have hmk := makeNode_ len hn
 go_enter Tryz.func22, Tryz.ntmps22
 go_wp2
 clear hmk
 generalize hW1 : w.alloc _ = W1
 have hrow : TSt W1 w.heap.size 81 3 len f 0 := by
  subst hW1
  have := World.rowIs_alloc w (madeCells #[.int .i64 0, .slice none 0 0, .slice none 0 0] (len * 3)) 81 (fun i => (madeCells #[.int .i64 0, .slice none 0 0, .slice none 0 0] (len * 3))[i]?.getD undef) (fun i hi => by simp [hi])
  rw [size_madeCells] at this
  exact TSt.start this
 have hg : Ext w W1 := by subst hW1; exact (Ext.refl _).alloc _
 clear hW1
 go_loopw [4] (fun i wr => ∃ k : Nat, k ≤ len ∧ i = .int .i64 k ∧ Ext w wr ∧ TSt wr w.heap.size 81 3 len f k) (fun i _ => len - (intOf i).toNat)
 case atStart => exact ⟨0, Nat.zero_le _, rfl, hg, hrow⟩
 case round =>
  obtain ⟨k, hk, rfl, hE, hT⟩ := hrel
  by_cases hlt : k < len
  ·
   obtain ⟨cap2, b, off, C, hsl, _, _, ec, hx⟩ := (hv.ext hE).at hlt
   cases hsl
   have HR := HRa k hlt
   have hsk := hsm k hlt
   obtain ⟨F, hr⟩ := hT.row
   have hsz := hr.lt
   obtain ⟨x0, hd0⟩ := (show Has (f k 0) .int from HR 0 (by decide)).int
   have h0 := hx 0 (by decide)
   have e0 := ec 0 (by decide)
   rw [hd0] at h0
   obtain ⟨y0, z0⟩ := h0.int_eq
   rw [y0] at e0
   clear y0
   have H1 : Has (f k 1) (.list 0) := HR 1 (by decide)
   have h1 := hx 1 (by decide)
   have e1 := ec 1 (by decide)
   have H2 : Has (f k 2) (.list 3) := HR 2 (by decide)
   have h2 := hx 2 (by decide)
   have e2 := ec 2 (by decide)
   simp only [Nat.add_zero] at e0
   clear hx ec
   have hcall := toNode_any S x0 (f k 1) (C 1) (f k 2) (C 2) wr H1 h1 (hsk 1 (by decide)) H2 h2 (hsk 2 (by decide))
   go_wp2_with fail
   refine hcall.mono ?_
   rintro e w' ⟨u1, u2, Q1, Q2, rfl, ⟨hu1, ho1, hr1⟩, ⟨hu2, ho2, hr2⟩, Dj1_2, hE2⟩
   obtain ⟨b1, bc1, bl1, bf1, _, hcc, _, _⟩ := list_shape H1 hu1
   subst hcc
   obtain ⟨b2, bc2, bl2, bf2, _, hcc, _, _⟩ := list_shape H2 hu2
   subst hcc
   have hrx := hr.of_block (Below.block hE2 _ hsz)
   clear hcall
   have ff0 := hrx.frozen (k * 3)
   have zz0 := hrx.cell (i := k * 3) (by omega)
   have ff1 := hrx.frozen (k * 3 + 1)
   have zz1 := hrx.cell (i := k * 3 + 1) (by omega)
   have ff2 := hrx.frozen (k * 3 + 2)
   have zz2 := hrx.cell (i := k * 3 + 2) (by omega)
   go_wp2
   go_roundw
   case rel =>
    refine ⟨k + 1, by omega, by go_num, setRow_ext (hE.trans hE2) (Nat.le_refl _) [.int .i64 x0, .slice b1 bl1 bc1, .slice b2 bl2 bc2] _, hT.step hE2 [.int .i64 x0, .slice b1 bl1 bc1, .slice b2 bl2 bc2] rfl (fun j => match j with | 1 => Q1 | 2 => Q2 | _ => fun _ => False) (fun j hj => ?_) (fun j j' hj hj' hne x hx hx2 => ?_)⟩
    ·
     match j, hj with
     | 0, _ => rw [hd0]; exact ⟨⟨rfl, z0⟩, trivial, fun x hx => hx.elim⟩
     | 1, _ => exact ⟨hu1, ho1, hr1⟩
     | 2, _ => exact ⟨hu2, ho2, hr2⟩
    ·
     match j, j', hj, hj' with
     | 0, 0, _, _ => exact hx
     | 0, 1, _, _ => exact hx
     | 0, 2, _, _ => exact hx
     | 1, 0, _, _ => exact hx2
     | 1, 1, _, _ => exact hne rfl
     | 1, 2, _, _ => exact Dj1_2 x hx hx2
     | 2, 0, _, _ => exact hx2
     | 2, 1, _, _ => exact Dj1_2 x hx2 hx
     | 2, 2, _, _ => exact hne rfl
   case measure => simp [intOf]; omega
  ·
   have hkx : k = len := by omega
   subst hkx
   go_wp2
   go_ret
   have hend := hT.end (by unfold maxLen; omega) k (New w.heap.size wr.heap.size) (fun x h1 h2 => ⟨h1, h2⟩)
   exact ⟨_, rfl, hend.1, hend.2, hE⟩

theorem toNodeS_any (d : D) (H : Has d (.list 4)) : ToD 22 d := by
 obtain ⟨len, f, rfl, HRa⟩ := H.list
 exact toNodeS_list len f HRa

end Go.Proofs.YteijgejpenlgjaaGreat

/- What the laws' functions to.. hand back: a copy in new memory of its own. -/
namespace Go.Proofs.YteijgejpenlgjaaGreat
open Go.RowKit Go.Deep

set_option maxHeartbeats 4000000 in
theorem toEdge_any (S : Nat → Prop) (x0 : Int) (x1 : ByteArray) (x2 : Int) (x3 : Int) (d4 : D) (c4 : Value) (w : World)  (H4 : Has d4 (.list 3)) (h4 : DIn S w d4 c4) (s4 : SmallD d4) :
  Calls Tryz.prog 50 #[.agg #[.int .i64 x0, .string x1, .int .i64 x2, .int .i64 x3, c4]] w fun e w' => ∃ u4, ∃ Q4 : Nat → Prop, e = .returned (.agg #[.int .i64 x0, .string x1, .int .i64 x2, .int .i64 x3, u4]) ∧ (DIn Q4 w' d4 u4 ∧ Own w' d4 Q4 u4 ∧ ∀ x, Q4 x → w.heap.size ≤ x ∧ x < w'.heap.size) ∧ Ext w w' := by
 have g4 := fun (W : World) (hW : Ext w W) => h4.ext hW
 obtain ⟨a4, cap4, l4, f4, hdd4, hcc4, hl4, _⟩ := list_shape H4 h4
 subst hcc4
 clear hdd4 h4
 go_enter Tryz.func50, Tryz.ntmps50
 go_wp2_with fail
 refine (toPropS_any d4 H4 S _ _ (g4 _ ((((Ext.refl _).alloc _).alloc _).alloc _)) s4).mono ?_
 rintro e w1 ⟨u4, rfl, hu4, ho4, E1⟩
 obtain ⟨hc1, hf1⟩ := bcell E1
 have hz1 : w.heap.size + 1 + 1 < w1.heap.size := by have := E1.le; simp at this; omega
 have F1 : Ext w w1 := ((((Ext.refl _).alloc _).alloc _).alloc _).trans E1
 simp only [World.size_alloc] at hc1 hf1 hu4 ho4
 have hy1 : w.heap.size + 1 < w1.heap.size := by omega
 have hx1 : w.heap.size < w1.heap.size := by omega
 obtain ⟨b4, bc4, bl4, bf4, _, hcc, _, _⟩ := list_shape H4 hu4
 subst hcc
 go_wp2
 refine bodyPost_ret (v := .agg #[.int .i64 x0, .string x1, .int .i64 x2, .int .i64 x3, .slice b4 bl4 bc4]) (by simp [results, Tryz.results50, go_sem, hc1]) rfl ⟨_, New (w.heap.size + 1 + 1 + 1) w1.heap.size, rfl, ⟨?_, ?_, ?_⟩, ?_⟩
 all_goals try simp only [World.size_setCell]
 ·
  exact DIn.keep (lo := w.heap.size + 1 + 1 + 1) hu4 (fun x hx => by simp only [New] at hx; omega) (Keep.set (Keep.set (Keep.set (Keep.set (Keep.set (Keep.set (Keep.refl _ _) (by dsimp only; omega) _) (by dsimp only; omega) _) (by dsimp only; omega) _) (by dsimp only; omega) _) (by dsimp only; omega) _) (by dsimp only; omega) _)
 ·
  exact Own.keep (lo := w.heap.size + 1 + 1 + 1) ho4 (fun x hx => by simp only [New] at hx; omega) (Keep.set (Keep.set (Keep.set (Keep.set (Keep.set (Keep.set (Keep.refl _ _) (by dsimp only; omega) _) (by dsimp only; omega) _) (by dsimp only; omega) _) (by dsimp only; omega) _) (by dsimp only; omega) _) (by dsimp only; omega) _)
 ·
  intro x hx; simp only [New] at hx; omega
 ·
  exact (Ext.setCell (Ext.setCell (Ext.setCell (Ext.setCell (Ext.setCell (Ext.setCell F1 (by dsimp only; omega) _) (by dsimp only; omega) _) (by dsimp only; omega) _) (by dsimp only; omega) _) (by dsimp only; omega) _) (by dsimp only; omega) _)

theorem Tryz.infoEdge_ : (Tryz.prog.info? 86).map (fun i => (i.zero, i.size, decide (i.bytes ≤ 1000))) = some (some (.agg #[.int .i64 0, .string ⟨#[]⟩, .int .i64 0, .int .i64 0, .slice none 0 0]), 5, true) := by kernel_rfl
theorem makeEdge_ (n : Nat) (hn : n ≤ 1048576) (w : World) :
  (Instr.makeSlice 32 (.int .i64 (n : Int)) (.int .i64 (n : Int))).run Tryz.prog w = .ok (.slice (some ⟨w.heap.size, 0, none⟩) n n) (w.alloc (.cells (madeCells #[.int .i64 0, .string ⟨#[]⟩, .int .i64 0, .int .i64 0, .slice none 0 0] (n * 5)) 86)) := by
 obtain ⟨i, hi, hzz⟩ := Option.map_eq_some_iff.1 Tryz.infoEdge_
 simp only [Prod.mk.injEq, decide_eq_true_eq] at hzz
 obtain ⟨hz, hs, hb⟩ := hzz
 have hb2 : i.bytes * n ≤ 1000 * 1048576 := Nat.mul_le_mul hb hn
 have hr := run_make (P := Tryz.prog) w 32 86 i _ Tryz.underlying32 hi hz .i64 .i64 n n (by omega) (Int.le_refl _) (by omega) (by omega)
 simp only [Int.toNat_natCast, hs] at hr
 exact hr
set_option maxHeartbeats 2000000 in
theorem toEdgeS_list (len : Nat) (f : Nat → Nat → D) (HRa : ∀ i, i < len → HasRow 5 (f i)) : ToD 23 (.list 5 len f) := by
 intro S v w hv hsmall
 obtain ⟨a, cap, rfl, _⟩ := hv.list_eq
 obtain ⟨_, hn, hsm⟩ := hsmall
 have hmk := makeEdge_ len hn
 go_enter Tryz.func23, Tryz.ntmps23
 go_wp2
 clear hmk
 generalize hW1 : w.alloc _ = W1
 have hrow : TSt W1 w.heap.size 86 5 len f 0 := by
  subst hW1
  have := World.rowIs_alloc w (madeCells #[.int .i64 0, .string ⟨#[]⟩, .int .i64 0, .int .i64 0, .slice none 0 0] (len * 5)) 86 (fun i => (madeCells #[.int .i64 0, .string ⟨#[]⟩, .int .i64 0, .int .i64 0, .slice none 0 0] (len * 5))[i]?.getD undef) (fun i hi => by simp [hi])
  rw [size_madeCells] at this
  exact TSt.start this
 have hg : Ext w W1 := by subst hW1; exact (Ext.refl _).alloc _
 clear hW1
 go_loopw [4] (fun i wr => ∃ k : Nat, k ≤ len ∧ i = .int .i64 k ∧ Ext w wr ∧ TSt wr w.heap.size 86 5 len f k) (fun i _ => len - (intOf i).toNat)
 case atStart => exact ⟨0, Nat.zero_le _, rfl, hg, hrow⟩
 case round =>
  obtain ⟨k, hk, rfl, hE, hT⟩ := hrel
  by_cases hlt : k < len
  ·
   obtain ⟨cap2, b, off, C, hsl, _, _, ec, hx⟩ := (hv.ext hE).at hlt
   cases hsl
   have HR := HRa k hlt
   have hsk := hsm k hlt
   obtain ⟨F, hr⟩ := hT.row
   have hsz := hr.lt
   obtain ⟨x0, hd0⟩ := (show Has (f k 0) .int from HR 0 (by decide)).int
   have h0 := hx 0 (by decide)
   have e0 := ec 0 (by decide)
   rw [hd0] at h0
   obtain ⟨y0, z0⟩ := h0.int_eq
   rw [y0] at e0
   clear y0
   obtain ⟨x1, hd1⟩ := (show Has (f k 1) .str from HR 1 (by decide)).str
   have h1 := hx 1 (by decide)
   have e1 := ec 1 (by decide)
   rw [hd1] at h1
   obtain ⟨y1, z1⟩ := h1.str_eq
   rw [y1] at e1
   clear y1
   obtain ⟨x2, hd2⟩ := (show Has (f k 2) .int from HR 2 (by decide)).int
   have h2 := hx 2 (by decide)
   have e2 := ec 2 (by decide)
   rw [hd2] at h2
   obtain ⟨y2, z2⟩ := h2.int_eq
   rw [y2] at e2
   clear y2
   obtain ⟨x3, hd3⟩ := (show Has (f k 3) .int from HR 3 (by decide)).int
   have h3 := hx 3 (by decide)
   have e3 := ec 3 (by decide)
   rw [hd3] at h3
   obtain ⟨y3, z3⟩ := h3.int_eq
   rw [y3] at e3
   clear y3
   have H4 : Has (f k 4) (.list 3) := HR 4 (by decide)
   have h4 := hx 4 (by decide)
   have e4 := ec 4 (by decide)
   simp only [Nat.add_zero] at e0
   clear hx ec
   have hcall := toEdge_any S x0 x1 x2 x3 (f k 4) (C 4) wr H4 h4 (hsk 4 (by decide))
   go_wp2_with fail
   refine hcall.mono ?_
   rintro e w' ⟨u4, Q4, rfl, ⟨hu4, ho4, hr4⟩, hE2⟩
   obtain ⟨b4, bc4, bl4, bf4, _, hcc, _, _⟩ := list_shape H4 hu4
   subst hcc
   have hrx := hr.of_block (Below.block hE2 _ hsz)
   clear hcall
   have ff0 := hrx.frozen (k * 5)
   have zz0 := hrx.cell (i := k * 5) (by omega)
   have ff1 := hrx.frozen (k * 5 + 1)
   have zz1 := hrx.cell (i := k * 5 + 1) (by omega)
   have ff2 := hrx.frozen (k * 5 + 2)
   have zz2 := hrx.cell (i := k * 5 + 2) (by omega)
   have ff3 := hrx.frozen (k * 5 + 3)
   have zz3 := hrx.cell (i := k * 5 + 3) (by omega)
   have ff4 := hrx.frozen (k * 5 + 4)
   have zz4 := hrx.cell (i := k * 5 + 4) (by omega)
   go_wp2
   go_roundw
   case rel =>
    refine ⟨k + 1, by omega, by go_num, setRow_ext (hE.trans hE2) (Nat.le_refl _) [.int .i64 x0, .string x1, .int .i64 x2, .int .i64 x3, .slice b4 bl4 bc4] _, hT.step hE2 [.int .i64 x0, .string x1, .int .i64 x2, .int .i64 x3, .slice b4 bl4 bc4] rfl (fun j => match j with | 4 => Q4 | _ => fun _ => False) (fun j hj => ?_) (fun j j' hj hj' hne x hx hx2 => ?_)⟩
    ·
     match j, hj with
     | 0, _ => rw [hd0]; exact ⟨⟨rfl, z0⟩, trivial, fun x hx => hx.elim⟩
     | 1, _ => rw [hd1]; exact ⟨⟨rfl, z1⟩, trivial, fun x hx => hx.elim⟩
     | 2, _ => rw [hd2]; exact ⟨⟨rfl, z2⟩, trivial, fun x hx => hx.elim⟩
     | 3, _ => rw [hd3]; exact ⟨⟨rfl, z3⟩, trivial, fun x hx => hx.elim⟩
     | 4, _ => exact ⟨hu4, ho4, hr4⟩
    ·
     match j, j', hj, hj' with
     | 0, 0, _, _ => exact hx
     | 0, 1, _, _ => exact hx
     | 0, 2, _, _ => exact hx
     | 0, 3, _, _ => exact hx
     | 0, 4, _, _ => exact hx
     | 1, 0, _, _ => exact hx
     | 1, 1, _, _ => exact hx
     | 1, 2, _, _ => exact hx
     | 1, 3, _, _ => exact hx
     | 1, 4, _, _ => exact hx
     | 2, 0, _, _ => exact hx
     | 2, 1, _, _ => exact hx
     | 2, 2, _, _ => exact hx
     | 2, 3, _, _ => exact hx
     | 2, 4, _, _ => exact hx
     | 3, 0, _, _ => exact hx
     | 3, 1, _, _ => exact hx
     | 3, 2, _, _ => exact hx
     | 3, 3, _, _ => exact hx
     | 3, 4, _, _ => exact hx
     | 4, 0, _, _ => exact hx2
     | 4, 1, _, _ => exact hx2
     | 4, 2, _, _ => exact hx2
     | 4, 3, _, _ => exact hx2
     | 4, 4, _, _ => exact hne rfl
   case measure => simp [intOf]; omega
  ·
   have hkx : k = len := by omega
   subst hkx
   go_wp2
   go_ret
   have hend := hT.end (by unfold maxLen; omega) k (New w.heap.size wr.heap.size) (fun x h1 h2 => ⟨h1, h2⟩)
   exact ⟨_, rfl, hend.1, hend.2, hE⟩

theorem toEdgeS_any (d : D) (H : Has d (.list 5)) : ToD 23 d := by
 obtain ⟨len, f, rfl, HRa⟩ := H.list
 exact toEdgeS_list len f HRa

end Go.Proofs.YteijgejpenlgjaaGreat

/- What the laws' functions to.. hand back: a copy in new memory of its own. -/
namespace Go.Proofs.YteijgejpenlgjaaGreat
open Go.RowKit Go.Deep

set_option maxHeartbeats 4000000 in
theorem toGraph_any (S : Nat → Prop) (d0 : D) (c0 : Value) (d1 : D) (c1 : Value) (x2 : Int) (x3 : Int) (w : World)  (H0 : Has d0 (.list 4)) (h0 : DIn S w d0 c0) (s0 : SmallD d0) (H1 : Has d1 (.list 5)) (h1 : DIn S w d1 c1) (s1 : SmallD d1) :
  Calls Tryz.prog 7 #[.agg #[c0, c1, .int .i64 x2, .int .i64 x3]] w fun e w' => ∃ u0 u1, ∃ Q0 Q1 : Nat → Prop, e = .returned (.agg #[u0, u1, .int .i64 x2, .int .i64 x3]) ∧ (DIn Q0 w' d0 u0 ∧ Own w' d0 Q0 u0 ∧ ∀ x, Q0 x → w.heap.size ≤ x ∧ x < w'.heap.size) ∧ (DIn Q1 w' d1 u1 ∧ Own w' d1 Q1 u1 ∧ ∀ x, Q1 x → w.heap.size ≤ x ∧ x < w'.heap.size) ∧ (∀ x, Q0 x → ¬ Q1 x) ∧ Ext w w' := by
 have g0 := fun (W : World) (hW : Ext w W) => h0.ext hW
 obtain ⟨a0, cap0, l0, f0, hdd0, hcc0, hl0, _⟩ := list_shape H0 h0
 subst hcc0
 clear hdd0 h0
 have g1 := fun (W : World) (hW : Ext w W) => h1.ext hW
 obtain ⟨a1, cap1, l1, f1, hdd1, hcc1, hl1, _⟩ := list_shape H1 h1
 subst hcc1
 clear hdd1 h1
 go_enter Tryz.func7, Tryz.ntmps7
 go_wp2_with fail
 refine (toNodeS_any d0 H0 S _ _ (g0 _ ((((Ext.refl _).alloc _).alloc _).alloc _)) s0).mono ?_
 rintro e w1 ⟨u0, rfl, hu0, ho0, E1⟩
 obtain ⟨hc1, hf1⟩ := bcell E1
 have hz1 : w.heap.size + 1 + 1 < w1.heap.size := by have := E1.le; simp at this; omega
 have F1 : Ext w w1 := ((((Ext.refl _).alloc _).alloc _).alloc _).trans E1
 simp only [World.size_alloc] at hc1 hf1 hu0 ho0
 have hy1 : w.heap.size + 1 < w1.heap.size := by omega
 have hx1 : w.heap.size < w1.heap.size := by omega
 obtain ⟨b0, bc0, bl0, bf0, _, hcc, _, _⟩ := list_shape H0 hu0
 subst hcc
 go_wp2_with fail
 have X2 : Ext w (w1.setCell ⟨w.heap.size + 1 + 1, 0, none⟩ (.slice b0 bl0 bc0)) := (F1.setCell (by dsimp only; omega) _)
 refine (toEdgeS_any d1 H1 S _ _ (g1 _ X2) s1).mono ?_
 rintro e w2 ⟨u1, rfl, hu1, ho1, E2⟩
 obtain ⟨hc2, hf2⟩ := bcell E2
 have hl2_ : w1.heap.size ≤ w2.heap.size := by have := E2.le; simp at this; omega
 have hz2 : w.heap.size + 1 + 1 < w2.heap.size := by omega
 have F2 : Ext w w2 := X2.trans E2
 simp only [World.size_setCell] at hc2 hf2 hu1 ho1
 have hy2 : w.heap.size + 1 < w2.heap.size := by omega
 have hx2 : w.heap.size < w2.heap.size := by omega
 obtain ⟨b1, bc1, bl1, bf1, _, hcc, _, _⟩ := list_shape H1 hu1
 subst hcc
 go_wp2
 refine bodyPost_ret (v := .agg #[.slice b0 bl0 bc0, .slice b1 bl1 bc1, .int .i64 x2, .int .i64 x3]) (by simp [results, Tryz.results7, go_sem, hc2, hc1, hy1]) rfl ⟨_, _, New (w.heap.size + 1 + 1 + 1) w1.heap.size, New w1.heap.size w2.heap.size, rfl, ⟨?_, ?_, ?_⟩, ⟨?_, ?_, ?_⟩, ?_, ?_⟩
 all_goals try simp only [World.size_setCell]
 ·
  exact DIn.keep (lo := w.heap.size + 1 + 1 + 1) hu0 (fun x hx => by simp only [New] at hx; omega) (Keep.set (Keep.set (Keep.set (Keep.set (Keep.set (Keep.set (Keep.set (Keep.ext (Keep.set (Keep.refl _ _) (by dsimp only; omega) _) E2) (by dsimp only; omega) _) (by dsimp only; omega) _) (by dsimp only; omega) _) (by dsimp only; omega) _) (by dsimp only; omega) _) (by dsimp only; omega) _) (by dsimp only; omega) _)
 ·
  exact Own.keep (lo := w.heap.size + 1 + 1 + 1) ho0 (fun x hx => by simp only [New] at hx; omega) (Keep.set (Keep.set (Keep.set (Keep.set (Keep.set (Keep.set (Keep.set (Keep.ext (Keep.set (Keep.refl _ _) (by dsimp only; omega) _) E2) (by dsimp only; omega) _) (by dsimp only; omega) _) (by dsimp only; omega) _) (by dsimp only; omega) _) (by dsimp only; omega) _) (by dsimp only; omega) _) (by dsimp only; omega) _)
 ·
  intro x hx; simp only [New] at hx; omega
 ·
  exact DIn.keep (lo := w.heap.size + 1 + 1 + 1) hu1 (fun x hx => by simp only [New] at hx; omega) (Keep.set (Keep.set (Keep.set (Keep.set (Keep.set (Keep.set (Keep.set (Keep.refl _ _) (by dsimp only; omega) _) (by dsimp only; omega) _) (by dsimp only; omega) _) (by dsimp only; omega) _) (by dsimp only; omega) _) (by dsimp only; omega) _) (by dsimp only; omega) _)
 ·
  exact Own.keep (lo := w.heap.size + 1 + 1 + 1) ho1 (fun x hx => by simp only [New] at hx; omega) (Keep.set (Keep.set (Keep.set (Keep.set (Keep.set (Keep.set (Keep.set (Keep.refl _ _) (by dsimp only; omega) _) (by dsimp only; omega) _) (by dsimp only; omega) _) (by dsimp only; omega) _) (by dsimp only; omega) _) (by dsimp only; omega) _) (by dsimp only; omega) _)
 ·
  intro x hx; simp only [New] at hx; omega
 ·
  intro x hx hx2; simp only [New] at hx; simp only [New] at hx2; omega
 ·
  exact (Ext.setCell (Ext.setCell (Ext.setCell (Ext.setCell (Ext.setCell (Ext.setCell (Ext.setCell F2 (by dsimp only; omega) _) (by dsimp only; omega) _) (by dsimp only; omega) _) (by dsimp only; omega) _) (by dsimp only; omega) _) (by dsimp only; omega) _) (by dsimp only; omega) _)

end Go.Proofs.YteijgejpenlgjaaGreat
