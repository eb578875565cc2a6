/- What spec.l4Cell and spec.l4Cells answer: names with values that are ok, none twice. -/
import Derived.Test.YtepfppncfeaeiaaGVal
import Derived.Test.YtepfppncfeaeiaaName
import Derived.Test.YtepfppncfeaeiaaValL1Ok
import Derived.Deep.RegionHeld3
namespace Go.Proofs.Ytepfppncfeaeiaa
open Go.RowKit Go.Deep

def cell1B (f : Nat → Nat → D) (i : Nat) : Bool :=
  nameB (f i 0).str! && (okN 3 (.mk (f i 1).int! (f i 2).int! (f i 3).str! (vsOf (f i 4))) && (List.range i).all fun j => !((f j 0).str!.toList == (f i 0).str!.toList))
/-- Names with values that are ok, none twice. -/
def cellsB (d : D) : Bool := (List.range d.len!).all (cell1B d.at!)

/-- r is the first place of a name; -1 if it is none. -/
def FirstAt (f : Nat → Nat → D) (len : Nat) (s : ByteArray) (r : Int) : Prop :=
  (r = -1 ∧ ∀ j, j < len → ((f j 0).str!.toList == s.toList) = false) ∨ ∃ k : Nat, k < len ∧ r = k ∧ ((f k 0).str!.toList == s.toList) = true ∧ ∀ j, j < k → ((f j 0).str!.toList == s.toList) = false

set_option maxHeartbeats 1000000 in
theorem l4Cell_any (d : D) (H : Has d (.list 3)) (S : Nat → Prop) (v : Value) (s : ByteArray) (w : World) (hv : DIn S w d v) :
    Calls Try.prog 22 #[v, .string s] w fun e w' => (∃ r : Int, e = .returned (.int .i64 r) ∧ FirstAt d.at! d.len! s r) ∧ w' = w := by
  obtain ⟨len, f, rfl, HRa⟩ := H.list
  change DIn S w (.list 5 len f) v at hv
  change Calls Try.prog 22 #[v, .string s] w fun e w' => (∃ r : Int, e = .returned (.int .i64 r) ∧ FirstAt f len s r) ∧ w' = w
  obtain ⟨a, cap, rfl, hm⟩ := hv.list_eq
  unfold maxLen at hm
  go_enter Try.func22, Try.ntmps22
  go_wp2
  go_loop [5] (fun i => ∃ k : Nat, k ≤ len ∧ i = .int .i64 k ∧ ∀ j, j < k → ((f j 0).str!.toList == s.toList) = false) (fun i => len - (intOf i).toNat)
  case atStart => exact ⟨0, Nat.zero_le _, rfl, fun j h => by omega⟩
  case round =>
    obtain ⟨k, hk, rfl, hno⟩ := hrel
    by_cases hlt : k < len
    · obtain ⟨cap2, b, off, C, hsl, _, hb, ec, hx⟩ := hv.at hlt
      cases hsl
      have HR := HRa k hlt
      obtain ⟨x0, hd0⟩ := (show Has (f k 0) .str from HR 0 (by decide)).str
      have h0 := hx 0 (by decide)
      have e0 := ec 0 (by decide)
      rw [hd0] at h0
      obtain ⟨y0, z0⟩ := h0.str_eq
      rw [y0] at e0
      simp only [Nat.add_zero] at e0
      clear y0 hx ec HR
      have hLk : Hid ((f k 0).str! = x0) := by show _ = _; rw [hd0]; rfl
      cases he : (x0.toList == s.toList)
      · go_wp2
        go_round
        case rel =>
          refine ⟨k + 1, by omega, by go_num, fun j hj => ?_⟩
          rcases Nat.lt_succ_iff_lt_or_eq.1 hj with h | h
          · exact hno j h
          · subst h; rw [hLk.out]; exact he
        case measure => simp [intOf]; omega
      · go_wp2
        go_ret
        have hfin : FirstAt f len s k := .inr ⟨k, hlt, rfl, by rw [hLk.out]; exact he, hno⟩
        exact ⟨⟨_, rfl, hfin⟩, rfl⟩
    · obtain rfl : k = len := by omega
      go_wp2
      go_ret
      have hfin : FirstAt f k s (-1) := .inl ⟨rfl, hno⟩
      exact ⟨⟨_, rfl, hfin⟩, rfl⟩

set_option maxHeartbeats 2000000 in
theorem l4Cells_any (d : D) (H : Has d (.list 3)) (S : Nat → Prop) (v : Value) (w : World) (hv : DIn S w d v) :
    Calls Try.prog 11 #[v] w fun e w' => e = .returned (.bool (cellsB d)) ∧ Ext w w' := by
  have hcell := fun W (hW : Ext w W) (s : ByteArray) => l4Cell_any d H S v s W (hv.ext hW)
  obtain ⟨len, f, rfl, HRa⟩ := H.list
  change DIn S w (.list 5 len f) v at hv
  obtain ⟨a, cap, rfl, hm⟩ := hv.list_eq
  unfold maxLen at hm
  have HB : Hid (cellsB (.list 5 len f) = (List.range len).all (cell1B f)) := rfl
  go_enter Try.func11, Try.ntmps11
  go_wp2
  go_loopw [3] (fun i wr => ∃ k : Nat, k ≤ len ∧ i = .int .i64 k ∧ Ext w wr ∧ ∀ j, j < k → cell1B f j = true) (fun i _ => len - (intOf i).toNat)
  case atStart => exact ⟨0, Nat.zero_le _, rfl, Ext.refl _, fun j h => by omega⟩
  case round =>
    obtain ⟨k, hk, rfl, hE, hno⟩ := hrel
    by_cases hlt : k < len
    · obtain ⟨cap2, b, off, C, hsl, _, hb, ec, hx⟩ := (hv.ext hE).at hlt
      cases hsl
      have HR := HRa k hlt
      obtain ⟨x0, hd0⟩ := (show Has (f k 0) .str from HR 0 (by decide)).str
      obtain ⟨x1, hd1⟩ := (show Has (f k 1) .int from HR 1 (by decide)).int
      obtain ⟨x2, hd2⟩ := (show Has (f k 2) .int from HR 2 (by decide)).int
      obtain ⟨x3, hd3⟩ := (show Has (f k 3) .str from HR 3 (by decide)).str
      have H4 : Has (f k 4) (.list 2) := HR 4 (by decide)
      have h0 := hx 0 (by decide)
      have e0 := ec 0 (by decide)
      rw [hd0] at h0
      obtain ⟨y0, z0⟩ := h0.str_eq
      rw [y0] at e0
      have h1 := hx 1 (by decide)
      have e1 := ec 1 (by decide)
      rw [hd1] at h1
      obtain ⟨y1, z1⟩ := h1.int_eq
      rw [y1] at e1
      have h2 := hx 2 (by decide)
      have e2 := ec 2 (by decide)
      rw [hd2] at h2
      obtain ⟨y2, z2⟩ := h2.int_eq
      rw [y2] at e2
      have h3 := hx 3 (by decide)
      have e3 := ec 3 (by decide)
      rw [hd3] at h3
      obtain ⟨y3, z3⟩ := h3.str_eq
      rw [y3] at e3
      have h4 := hx 4 (by decide)
      have e4 := ec 4 (by decide)
      simp only [Nat.add_zero] at e0
      clear y0 y1 y2 y3 hx ec HR
      have hLk : Hid (cell1B f k = (nameB x0 && (okN 3 (.mk x1 x2 x3 (vsOf (f k 4))) && (List.range k).all fun j => !((f j 0).str!.toList == x0.toList)))) := by show _ = _; simp [cell1B, hd0, hd1, hd2, hd3, D.str!, D.int!]
      have hcv := fun W (hW : Ext wr W) => specValueOk_any (.mk x1 x2 x3 (vsOf (f k 4))) 0 _ W ((valIn_of z1 z2 z3 H4 h4).ext hW)
      have hcs : ∀ W, Ext wr W → W.cell? ⟨b, off + k * 5, none⟩ = some (.string x0) ∧ W.cell? ⟨b, off + k * 5 + 1, none⟩ = some (.int .i64 x1) ∧ W.cell? ⟨b, off + k * 5 + 2, none⟩ = some (.int .i64 x2) ∧ W.cell? ⟨b, off + k * 5 + 3, none⟩ = some (.string x3) ∧ W.cell? ⟨b, off + k * 5 + 4, none⟩ = some (C 4) := fun W hW => ⟨by rw [hW.cell hb]; exact e0, by rw [hW.cell hb]; exact e1, by rw [hW.cell hb]; exact e2, by rw [hW.cell hb]; exact e3, by rw [hW.cell hb]; exact e4⟩
      have hcc := fun W (hW : Ext wr W) => hcell W (hE.trans hW) x0
      have hx0 : Hid ((f k 0).str! = x0) := by show _ = _; rw [hd0]; rfl
      clear hcell hd0 hd1 hd2 hd3 h4 H4
      generalize okN 3 (.mk x1 x2 x3 (vsOf (f k 4))) = R at hLk hcv
      generalize C 4 = c4 at *
      cases hn : nameB x0
      · have hfin : Hid (cellsB (.list 5 len f) = false) := by show _ = _; rw [HB.out, all_no hlt (by rw [hLk.out, hn]; rfl)]
        go_wp2_with (go_at_call 10; refine (l2Name_any _ _ z0).mono ?_; rintro e w1 ⟨rfl, hE1⟩; rw [hn])
        go_ret
        exact ⟨ret_bool hfin.out.symm, hE.trans hE1⟩
      · cases hR : R
        · have hfin : Hid (cellsB (.list 5 len f) = false) := by show _ = _; rw [HB.out, all_no hlt (by rw [hLk.out, hn, hR]; rfl)]
          rw [hR] at hcv
          go_wp2_with (first
            | (go_at_call 10; refine (l2Name_any _ _ z0).mono ?_; rintro e w1 ⟨rfl, hE1⟩; rw [hn]; clear e0 e1 e2 e3 e4; obtain ⟨e0, e1, e2, e3, e4⟩ := hcs _ hE1)
            | (go_at_call 21; refine (hcv _ hE1).mono ?_; rintro e w2 ⟨rfl, hE2⟩))
          go_ret
          exact ⟨ret_bool hfin.out.symm, hE.trans (hE1.trans hE2)⟩
        · rw [hR] at hcv
          by_cases hq : ∃ j, j < k ∧ ((f j 0).str!.toList == x0.toList) = true
          · have hfin : Hid (cellsB (.list 5 len f) = false) := by
              obtain ⟨j, hj, hje⟩ := hq
              show _ = _
              rw [HB.out, all_no hlt]
              rw [hLk.out, hn, hR, all_no hj (by rw [hje]; rfl)]
              rfl
            have hpick : ∀ r : Int, FirstAt f len x0 r → (r != (k : Int)) = true := by
              rintro r (⟨h1, h2⟩ | ⟨i, h1, h2, h3, h4⟩)
              · obtain ⟨j, hj, hje⟩ := hq; rw [h2 j (by omega)] at hje; cases hje
              · obtain ⟨j, hj, hje⟩ := hq
                have : i ≤ j := by
                  rcases Nat.lt_or_ge j i with h | h
                  · rw [h4 j h] at hje; cases hje
                  · exact h
                rw [h2]; simp; omega
            clear hq
            go_wp2_with (first
              | (go_at_call 10; refine (l2Name_any _ _ z0).mono ?_; rintro e w1 ⟨rfl, hE1⟩; rw [hn]; clear e0 e1 e2 e3 e4; obtain ⟨e0, e1, e2, e3, e4⟩ := hcs _ hE1)
              | (go_at_call 21; refine (hcv _ hE1).mono ?_; rintro e w2 ⟨rfl, hE2⟩; clear e0 e1 e2 e3 e4; obtain ⟨e0, e1, e2, e3, e4⟩ := hcs _ (hE1.trans hE2))
              | (go_at_call 22; refine (hcc _ (hE1.trans hE2)).mono ?_; rintro e w3 ⟨⟨r, rfl, hr⟩, rfl⟩; have hrb := hpick r hr; clear hr hpick))
            go_ret
            exact ⟨ret_bool hfin.out.symm, hE.trans (hE1.trans hE2)⟩
          · have hok : Hid (cell1B f k = true) := by
              show _ = _
              rw [hLk.out, hn, hR]
              simp only [Bool.true_and]
              refine all_yes fun j hj => ?_
              cases hje : ((f j 0).str!.toList == x0.toList)
              · rfl
              · exact absurd ⟨j, hj, hje⟩ hq
            have hpick : ∀ r : Int, FirstAt f len x0 r → (r != (k : Int)) = false := by
              rintro r (⟨h1, h2⟩ | ⟨i, h1, h2, h3, h4⟩)
              · have := h2 k hlt; rw [hx0.out] at this; simp at this
              · have h5 : ¬ i < k := fun h => hq ⟨i, h, h3⟩
                have h6 : ¬ k < i := fun h => by have := h4 k h; rw [hx0.out] at this; simp at this
                rw [h2]; simp; omega
            clear hq
            go_wp2_with (first
              | (go_at_call 10; refine (l2Name_any _ _ z0).mono ?_; rintro e w1 ⟨rfl, hE1⟩; rw [hn]; clear e0 e1 e2 e3 e4; obtain ⟨e0, e1, e2, e3, e4⟩ := hcs _ hE1)
              | (go_at_call 21; refine (hcv _ hE1).mono ?_; rintro e w2 ⟨rfl, hE2⟩; clear e0 e1 e2 e3 e4; obtain ⟨e0, e1, e2, e3, e4⟩ := hcs _ (hE1.trans hE2))
              | (go_at_call 22; refine (hcc _ (hE1.trans hE2)).mono ?_; rintro e w3 ⟨⟨r, rfl, hr⟩, rfl⟩; have hrb := hpick r hr; clear hr hpick))
            go_roundw
            case rel => exact ⟨k + 1, by omega, by go_num, hE.trans (hE1.trans hE2), upto_succ hno hok.out⟩
            case measure => simp [intOf]; omega
    · obtain rfl : k = len := by omega
      have hfin : Hid (cellsB (.list 5 k f) = true) := by show _ = _; rw [HB.out, all_yes hno]
      go_wp2
      go_ret
      exact ⟨ret_bool hfin.out.symm, hE⟩
end Go.Proofs.Ytepfppncfeaeiaa
