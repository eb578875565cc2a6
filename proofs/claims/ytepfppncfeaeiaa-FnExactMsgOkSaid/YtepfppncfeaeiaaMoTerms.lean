/- What impl.termsOf answers: a map of names, and whether all are ok. -/
import Derived.Test.YtepfppncfeaeiaaMoCells
import Derived.Test.YtepfppncfeaeiaaSMap
import Derived.Test.YtepfppncfeaeiaaValTerm
namespace Go.Proofs.Ytepfppncfeaeiaa
open Go.RowKit Go.Deep
open Go.ChangeMaps (setBlock heap_setBlock_same heap_setBlock_other)

def namesOf (f : Nat → Nat → D) (k : Nat) : List ByteArray := (List.range k).map fun j => (f j 0).str!
theorem namesOf_succ (f : Nat → Nat → D) (k : Nat) : namesOf f (k + 1) = namesOf f k ++ [(f k 0).str!] := by simp [namesOf, List.range_succ]
theorem text_beq (a b : ByteArray) : (a.toList == b.toList) = decide (a = b) := by
  rw [Bool.eq_iff_iff]
  simp only [beq_iff_eq, decide_eq_true_eq, ByteArray.toList_eq]
  constructor
  · intro h; cases a; cases b; simpa using h
  · intro h; rw [h]
theorem mem_namesOf (f : Nat → Nat → D) (k : Nat) (s : ByteArray) : decide (s ∈ namesOf f k) = !(List.range k).all fun j => !((f j 0).str!.toList == s.toList) := by
  rw [Bool.eq_iff_iff]
  simp only [namesOf, decide_eq_true_eq, List.mem_map, List.mem_range, Bool.not_eq_true', List.all_eq_false, text_beq]
  constructor
  · rintro ⟨j, hj, rfl⟩; exact ⟨j, hj, by simp⟩
  · rintro ⟨j, hj, h⟩; exact ⟨j, hj, by simpa using h⟩
theorem Ext.put {a b : World} (h : Ext a b) {B : Nat} (hB : a.heap.size ≤ B) (o : Obj) (hz : (setBlock b B o).heap.size = b.heap.size) (hb : ∀ i, i ≠ B → (setBlock b B o).heap[i]? = b.heap[i]?) : Ext a (setBlock b B o) :=
  ⟨(show (setBlock b B o).os = b.os from rfl).trans (Below.os h), (show (setBlock b B o).tape = b.tape from rfl).trans (Below.tape h), (show (setBlock b B o).output = b.output from rfl).trans (Below.output h), Nat.le_trans (Below.size h) (Nat.le_of_eq hz.symm), fun i hi => by rw [hb i (by omega)]; exact Below.block h i hi⟩

set_option maxHeartbeats 4000000 in
theorem termsOf_any (d : D) (H : Has d (.list 3)) (S : Nat → Prop) (v : Value) (w : World) (hv : DIn S w d v) :
    Calls Try.prog 27 #[v] w fun e w' => ∃ m, e = .returned (.tuple #[m, .bool (cellsB d)]) ∧ Ext w w' := by
  obtain ⟨len, f, rfl, HRa⟩ := H.list
  change DIn S w (.list 5 len f) v at hv
  obtain ⟨a, cap, rfl, hm⟩ := hv.list_eq
  unfold maxLen at hm
  have HB : Hid (cellsB (.list 5 len f) = (List.range len).all (cell1B f)) := rfl
  have HB0 : cellsB (.list (rowsOf 3).length len f) = cellsB (.list 5 len f) := rfl
  rw [HB0]
  clear HB0
  generalize cellsB (.list 5 len f) = CB at HB
  obtain ⟨zt, hzero⟩ : ∃ z, ∀ W : World, (zeroValue 63).run Try.prog W = .ok z W := ⟨_, fun _ => rfl⟩
  have hmm := @run_makeMap Try.prog
  go_enter Try.func27, Try.ntmps27
  go_wp2
  go_loopw [14] (fun i wr => ∃ k : Nat, k ≤ len ∧ i = .int .i64 k ∧ Ext w wr ∧ (∃ val, MapS wr w.heap.size (namesOf f k) val) ∧ ∀ j, j < k → cell1B f j = true) (fun i _ => len - (intOf i).toNat)
  case atStart => exact ⟨0, Nat.zero_le _, rfl, (Ext.refl _).alloc _, ⟨fun _ => undef, MapS.new _ _⟩, fun j h => by omega⟩
  case round =>
    obtain ⟨k, hk, rfl, hE, ⟨val, hM⟩, hno⟩ := hrel
    by_cases hlt : k < len
    · obtain ⟨cap2, b, off, C, hsl, _, hb, ec, hx⟩ := (hv.ext hE).at hlt
      cases hsl
      have HR := HRa k hlt
      obtain ⟨x0, hd0⟩ := (show Has (f k 0) .str from HR 0 (by decide)).str
      obtain ⟨x1, hd1⟩ := (show Has (f k 1) .int from HR 1 (by decide)).int
      obtain ⟨x2, hd2⟩ := (show Has (f k 2) .int from HR 2 (by decide)).int
      obtain ⟨x3, hd3⟩ := (show Has (f k 3) .str from HR 3 (by decide)).str
      have H4 : Has (f k 4) (.list 2) := HR 4 (by decide)
      have h0 := hx 0 (by decide)
      have e0 := ec 0 (by decide)
      rw [hd0] at h0
      obtain ⟨y0, z0⟩ := h0.str_eq
      rw [y0] at e0
      have h1 := hx 1 (by decide)
      have e1 := ec 1 (by decide)
      rw [hd1] at h1
      obtain ⟨y1, z1⟩ := h1.int_eq
      rw [y1] at e1
      have h2 := hx 2 (by decide)
      have e2 := ec 2 (by decide)
      rw [hd2] at h2
      obtain ⟨y2, z2⟩ := h2.int_eq
      rw [y2] at e2
      have h3 := hx 3 (by decide)
      have e3 := ec 3 (by decide)
      rw [hd3] at h3
      obtain ⟨y3, z3⟩ := h3.str_eq
      rw [y3] at e3
      have h4 := hx 4 (by decide)
      have e4 := ec 4 (by decide)
      simp only [Nat.add_zero] at e0
      clear y0 y1 y2 y3 hx ec HR
      have hLk : Hid (cell1B f k = (nameB x0 && (okN 3 (.mk x1 x2 x3 (vsOf (f k 4))) && !decide (x0 ∈ namesOf f k)))) := by
        show _ = _
        rw [mem_namesOf]
        simp [cell1B, hd0, hd1, hd2, hd3, D.str!, D.int!]
      have hx0 : Hid (namesOf f (k + 1) = namesOf f k ++ [x0]) := by show _ = _; rw [namesOf_succ, hd0]; rfl
      obtain ⟨a4, cap4, l4, f4, hd4, hc4, _, _⟩ := list_shape H4 h4
      rw [hc4] at e4 h4
      clear hd4 hc4
      have hE0 : Ext wr (wr.alloc (.cells #[.string x0, .int .i64 x1, .int .i64 x2, .string x3, .slice a4 l4 cap4] 50)) := (Ext.refl _).alloc _
      have hcall := termOf_any (.mk x1 x2 x3 (vsOf (f k 4))) 0 _ _ ((valIn_of z1 z2 z3 H4 h4).ext hE0)
      generalize okN 3 (.mk x1 x2 x3 (vsOf (f k 4))) = R at hLk hcall
      generalize namesOf f k = ks at hM hLk hx0
      clear hd0 hd1 hd2 hd3 h4 H4
      have hlook := fun W (hW : Ext wr W) => (hM.ext hW).look (t := 54) Try.underlying54 (hzero W) z0 true
      have hb5 := fun W (hW : Ext (wr.alloc (.cells #[.string x0, .int .i64 x1, .int .i64 x2, .string x3, .slice a4 l4 cap4] 50)) W) => (show W.cell? ⟨wr.heap.size, 0, none⟩ = some (.string x0) from box_cell hW 0 _ rfl)
      have hfix : Hid (∀ r, cell1B f k = r → r = false → CB = false) := fun r h1 h2 => by rw [HB.out, all_no hlt (h1.trans h2)]
      cases hin : decide (x0 ∈ ks)
      · have hnin : ¬ x0 ∈ ks := of_decide_eq_false hin
        cases hR : R
        · have hfin : Hid (CB = false) := hfix.out _ hLk.out (by rw [hR]; simp)
          rw [hR] at hcall
          clear hno hfix hLk HB
          go_wp2_with (go_at_call 32; refine hcall.mono ?_; rintro e w2 ⟨t, rfl, _, _, hE2⟩; have hl := hlook _ (hE0.trans hE2); rw [if_pos rfl, if_neg hnin, hin] at hl; have q0 := hb5 _ hE2)
          go_ret2
          exact ⟨_, by rw [hfin.out]; rfl, hE.trans (hE0.trans hE2)⟩
        · rw [hR] at hcall
          cases hn : nameB x0
          · have hfin : Hid (CB = false) := hfix.out _ hLk.out (by rw [hn]; simp)
            clear hno hfix hLk HB
            go_wp2_with (first
              | (go_at_call 32; refine hcall.mono ?_; rintro e w2 ⟨t, rfl, _, _, hE2⟩; have hl := hlook _ (hE0.trans hE2); rw [if_pos rfl, if_neg hnin, hin] at hl; have q0 := hb5 _ hE2)
              | (go_at_call 14; refine (implNameOk_any _ _ z0).mono ?_; rintro e w' ⟨rfl, rfl⟩; rw [hn]))
            go_ret2
            exact ⟨_, by rw [hfin.out]; rfl, hE.trans (hE0.trans hE2)⟩
          · have hok : Hid (cell1B f k = true) := by show _ = _; rw [hLk.out, hn, hR, hin]; rfl
            have hput := fun W (hW : Ext wr W) (t : Value) => (hM.ext hW).put (t := 54) Try.underlying54 z0 t
            clear hfix hLk HB
            go_wp2_with (first
              | (go_at_call 32; refine hcall.mono ?_; rintro e w2 ⟨t, rfl, _, _, hE2⟩; have hl := hlook _ (hE0.trans hE2); rw [if_pos rfl, if_neg hnin, hin] at hl; have q0 := hb5 _ hE2; obtain ⟨o, hu, hM2, hz2, ho2⟩ := hput _ (hE0.trans hE2) t; have hX2 := (hE.trans (hE0.trans hE2)).put (Nat.le_refl _) o hz2 ho2)
              | (go_at_call 14; refine (implNameOk_any _ _ z0).mono ?_; rintro e w' ⟨rfl, rfl⟩; rw [hn]))
            go_roundw
            case rel => exact ⟨k + 1, by omega, by go_num, hX2, ⟨_, by rw [hx0.out]; rw [putKeysS, if_neg hnin] at hM2; exact hM2⟩, upto_succ hno hok.out⟩
            case measure => simp [intOf]; omega
      · have hyin : x0 ∈ ks := of_decide_eq_true hin
        have hfin : Hid (CB = false) := hfix.out _ hLk.out (by rw [hin]; simp)
        clear hno hfix hLk HB
        cases hR : R
        all_goals
          rw [hR] at hcall
          go_wp2_with (go_at_call 32; refine hcall.mono ?_; rintro e w2 ⟨t, rfl, _, _, hE2⟩; have hl := hlook _ (hE0.trans hE2); rw [if_pos rfl, if_pos hyin, hin] at hl; have q0 := hb5 _ hE2)
          go_ret2
          exact ⟨_, by rw [hfin.out]; rfl, hE.trans (hE0.trans hE2)⟩
    · obtain rfl : k = len := by omega
      have hfin : Hid (CB = true) := by show _ = _; rw [HB.out, all_yes hno]
      go_wp2
      go_ret2
      exact ⟨_, by rw [hfin.out]; rfl, hE⟩
end Go.Proofs.Ytepfppncfeaeiaa
