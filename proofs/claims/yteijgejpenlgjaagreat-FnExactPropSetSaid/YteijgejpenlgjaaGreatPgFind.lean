/- Where a name stands in props that are in order: impl.placeOf by slices.BinarySearchFunc. -/
import Derived.Test.YteijgejpenlgjaaGreatBlThy
import Derived.Test.YteijgejpenlgjaaGreatPgDef
import Derived.Test.YteijgejpenlgjaaGreatLay
import Derived.Deep.DeepCutAuto
import Derived.Deep.CutBlock
namespace Go.Proofs.YteijgejpenlgjaaGreat
open Go.RowKit Go.Deep

theorem compare_any (a b : ByteArray) (w : World) : Calls Tryz.prog 103 #[.string a, .string b] w fun e w' => e = .returned (.int .i64 (Lib.compareBytes a.data.toList b.data.toList)) ∧ w' = w :=
 Go.Proofs.Any.strings_Compare Tryz.lays106 a b w

set_option maxHeartbeats 400000 in
theorem cmpProp_any (x0 x3 s : ByteArray) (x1 x2 : Int) (c4 : Value) (hc : ∃ a l c, c4 = .slice a l c) (w : World) :
  Calls Tryz.prog 102 #[.agg #[.string x0, .int .i64 x1, .int .i64 x2, .string x3, c4], .string s] w fun e w' => e = .returned (.int .i64 (Lib.compareBytes x0.data.toList s.data.toList)) ∧ Ext w w' := by
 obtain ⟨a, l, c, rfl⟩ := hc
 go_enter Tryz.func102, Tryz.ntmps102
 go_wp2_with (go_at_call 103; refine (compare_any _ _ _).mono ?_; rintro e w' ⟨rfl, rfl⟩)
 go_ret
 exact ⟨rfl, (Ext.refl _).alloc _⟩

def nameAt (f : Nat → Nat → D) (j : Nat) : List UInt8 := (f j 0).str!.toList
/-- Props in order, by their names. -/
def Sorted (f : Nat → Nat → D) (len : Nat) : Prop := ∀ i j, i < j → j < len → Op.bytesLess (nameAt f i) (nameAt f j) = true
def isAt (f : Nat → Nat → D) (s : ByteArray) (j : Nat) : Bool := (f j 0).str!.toList == s.toList
theorem find_at {f : Nat → Nat → D} {s : ByteArray} {len i : Nat} (hi : i < len) (h : isAt f s i = true) (hlow : ∀ t, t < i → Op.bytesLess (nameAt f t) s.toList = true) : findO (isAt f s) len = some i :=
 findO_some hi h fun j hj => by
  have := hlow j hj
  unfold isAt nameAt at *
  rw [beq_eq_false_iff_ne]
  intro e
  rw [e, bl_irrefl] at this
  cases this
theorem find_no {f : Nat → Nat → D} {s : ByteArray} {len i : Nat} (hs : Sorted f len) (hlow : ∀ t, t < i → Op.bytesLess (nameAt f t) s.toList = true) (hi : i < len → isAt f s i = false) (hup : i < len → Op.bytesLess (nameAt f i) s.toList = false) : findO (isAt f s) len = none :=
 findO_none fun j hj => by
  rcases Nat.lt_trichotomy j i with h | h | h
  ·
   have := hlow j h
   unfold isAt nameAt at *
   rw [beq_eq_false_iff_ne]
   intro e
   rw [e, bl_irrefl] at this
   cases this
  ·
   subst h; exact hi hj
  ·
   have h1 := hi (by omega)
   have h2 := hup (by omega)
   have h3 := hs i j h hj
   unfold isAt at h1 ⊢
   rw [beq_eq_false_iff_ne] at h1 ⊢
   intro e
   unfold nameAt at h2 h3
   rw [e] at h3
   rw [h2] at h3
   cases h3

set_option maxHeartbeats 4000000 in
theorem search_low (d : D) (H : Has d (.list 3)) (hso : Sorted d.at! d.len!) (hl4 : d.len! ≤ 1000) (S : Nat → Prop) (v : Value) (s : ByteArray) (w : World) (hv : DIn S w d v) :
  Calls Tryz.prog 101 #[v, .string s, .func (.func 102) #[] #[]] w fun e w' => ∃ i : Nat, e = .returned (.tuple #[.int .i64 i, .bool (findO (isAt d.at! s) d.len!).isSome]) ∧ (∀ j, findO (isAt d.at! s) d.len! = some j → i = j) ∧ i ≤ d.len! ∧ Ext w w' ∧ (∀ t, t < i → Op.bytesLess (nameAt d.at! t) s.toList = true) ∧ (i < d.len! → Op.bytesLess (nameAt d.at! i) s.toList = false) := by
 obtain ⟨len, f, rfl, HRa⟩ := H.list
 change DIn S w (.list 5 len f) v at hv
 have hso : Sorted f len := hso
 have hl4 : len ≤ 1000 := hl4
 change Calls Tryz.prog 101 #[v, .string s, .func (.func 102) #[] #[]] w fun e w' => ∃ i : Nat, e = .returned (.tuple #[.int .i64 i, .bool (findO (isAt f s) len).isSome]) ∧ (∀ j, findO (isAt f s) len = some j → i = j) ∧ i ≤ len ∧ Ext w w' ∧ (∀ t, t < i → Op.bytesLess (nameAt f t) s.toList = true) ∧ (i < len → Op.bytesLess (nameAt f i) s.toList = false)
 obtain ⟨a, cap, rfl, hm⟩ := hv.list_eq
 have hAt : ∀ W, Ext w W → ∀ k, k < len → ∃ b off x0 x1 x2 x3 c4, a = some ⟨b, off, none⟩ ∧ W.cell? ⟨b, off + k * 5, none⟩ = some (.string x0) ∧ W.cell? ⟨b, off + k * 5 + 1, none⟩ = some (.int .i64 x1) ∧ W.cell? ⟨b, off + k * 5 + 2, none⟩ = some (.int .i64 x2) ∧ W.cell? ⟨b, off + k * 5 + 3, none⟩ = some (.string x3) ∧ W.cell? ⟨b, off + k * 5 + 4, none⟩ = some c4 ∧ (∃ a l c, c4 = .slice a l c) ∧ nameAt f k = x0.data.toList := by
  intro W hW k hk
  obtain ⟨cap2, b, off, C, hsl, _, hb, ec, hx⟩ := (hv.ext hW).at hk
  cases hsl
  have HR := HRa k hk
  obtain ⟨x0, hd0⟩ := (show Has (f k 0) .str from HR 0 (by decide)).str
  obtain ⟨x1, hd1⟩ := (show Has (f k 1) .int from HR 1 (by decide)).int
  obtain ⟨x2, hd2⟩ := (show Has (f k 2) .int from HR 2 (by decide)).int
  obtain ⟨x3, hd3⟩ := (show Has (f k 3) .str from HR 3 (by decide)).str
  have h0 := hx 0 (by decide)
  have e0 := ec 0 (by decide)
  rw [hd0] at h0
  rw [h0.str_eq.1] at e0
  have h1 := hx 1 (by decide)
  have e1 := ec 1 (by decide)
  rw [hd1] at h1
  rw [h1.int_eq.1] at e1
  have h2 := hx 2 (by decide)
  have e2 := ec 2 (by decide)
  rw [hd2] at h2
  rw [h2.int_eq.1] at e2
  have h3 := hx 3 (by decide)
  have e3 := ec 3 (by decide)
  rw [hd3] at h3
  rw [h3.str_eq.1] at e3
  obtain ⟨a4, l4, c4, _, _, hc4, _⟩ := list_shape (show Has (f k 4) (.list 2) from HR 4 (by decide)) (hx 4 (by decide))
  exact ⟨b, off, x0, x1, x2, x3, C 4, rfl, by simpa using e0, e1, e2, e3, ec 4 (by decide), ⟨_, _, _, hc4⟩, by unfold nameAt; rw [hd0]; show x0.toList = _; rw [ByteArray.toList_eq]⟩
 unfold maxLen at hm
 have hss : s.data.toList = s.toList := (ByteArray.toList_eq s).symm
 clear hv HRa
 go_enter Tryz.func101, Tryz.ntmps101
 go_upto_block 0 with fail
 go_cut [9, 10] (fun p q wc => ∃ i : Nat, i ≤ len ∧ p = .int .i64 i ∧ q = .int .i64 i ∧ Ext w wc ∧ (∀ t, t < i → Op.bytesLess (nameAt f t) s.toList = true) ∧ (i < len → Op.bytesLess (nameAt f i) s.toList = false))
 case first =>
  go_wp2_with fail
  go_loopw [9, 10] (fun p q wr => ∃ i j : Nat, i ≤ j ∧ j ≤ len ∧ p = .int .i64 i ∧ q = .int .i64 j ∧ Ext w wr ∧ (∀ t, t < i → Op.bytesLess (nameAt f t) s.toList = true) ∧ (j < len → Op.bytesLess (nameAt f j) s.toList = false)) (fun p q _ => (intOf q).toNat - (intOf p).toNat)
  case atStart => exact ⟨0, len, Nat.zero_le _, Nat.le_refl _, rfl, rfl, Ext.refl _, fun t h => by omega, fun h => by omega⟩
  case round =>
   obtain ⟨i, j, hij, hj, rfl, rfl, hE, hlow, hup⟩ := hrel
   by_cases hlt : i < j
   ·
    obtain ⟨b, off, x0, x1, x2, x3, c4, rfl, e0, e1, e2, e3, e4, hc4, hnm⟩ := hAt wr hE ((i + j) / 2) (by omega)
    have hcall := fun W => cmpProp_any x0 x3 s x1 x2 c4 hc4 W
    obtain ⟨a4, l4, cap4, rfl⟩ := hc4
    clear hAt
    have hless : Hid (decide (Lib.compareBytes x0.data.toList s.data.toList < 0) = Op.bytesLess (nameAt f ((i + j) / 2)) s.toList) := by show _ = _; rw [cb_less, hnm, hss]
    clear hnm
    generalize Lib.compareBytes x0.data.toList s.data.toList = c at hcall hless
    by_cases hc0 : c < 0
    ·
     have hb1 : Hid (Op.bytesLess (nameAt f ((i + j) / 2)) s.toList = true) := by show _ = _; rw [← hless.out]; exact decide_eq_true hc0
     clear hless
     go_wp2_with (go_at_call 102; refine (hcall _).mono ?_; rintro e w1 ⟨rfl, hE1⟩)
     go_roundw
     case rel =>
      refine ⟨(i + j) / 2 + 1, j, by omega, hj, by go_num, rfl, hE.trans hE1, fun t ht => ?_, hup⟩
      rcases Nat.lt_or_ge t ((i + j) / 2) with h | h
      ·
       have h2 := hso t ((i + j) / 2) h (by omega)
       exact bl_trans _ _ _ h2 hb1.out
      ·
       obtain rfl : t = (i + j) / 2 := by omega
       exact hb1.out
     case measure => simp [intOf]; omega
    ·
     have hb1 : Hid (Op.bytesLess (nameAt f ((i + j) / 2)) s.toList = false) := by show _ = _; rw [← hless.out]; exact decide_eq_false hc0
     clear hless
     go_wp2_with (go_at_call 102; refine (hcall _).mono ?_; rintro e w1 ⟨rfl, hE1⟩)
     go_roundw
     case rel => exact ⟨i, (i + j) / 2, by omega, by omega, rfl, by go_num, hE.trans hE1, hlow, fun _ => hb1.out⟩
     case measure => simp [intOf]; omega
   ·
    obtain rfl : i = j := by omega
    go_wp2
    go_meet
    case rel => exact ⟨i, hj, rfl, rfl, hE, hlow, hup⟩
 case rest =>
  obtain ⟨i, hi, rfl, rfl, hE, hlow, hup⟩ := hcut
  by_cases hlt : i < len
  ·
   obtain ⟨b, off, x0, x1, x2, x3, c4, rfl, e0, e1, e2, e3, e4, hc4, hnm⟩ := hAt wc hE i hlt
   have hcall := fun W => cmpProp_any x0 x3 s x1 x2 c4 hc4 W
   obtain ⟨a4, l4, cap4, rfl⟩ := hc4
   clear hAt
   have hsame : Hid ((Lib.compareBytes x0.data.toList s.data.toList == 0) = isAt f s i) := by show _ = _; rw [cb_same]; unfold isAt; rw [hss, ← hnm]; rfl
   clear hnm
   generalize Lib.compareBytes x0.data.toList s.data.toList = c at hcall hsame
   cases hq : isAt f s i
   ·
    have hf : Hid (findO (isAt f s) len = none) := find_no hso hlow (fun _ => hq) hup
    rw [hq] at hsame
    have hc0 : (c == 0) = false := hsame.out
    go_wp2_with (go_at_call 102; refine (hcall _).mono ?_; rintro e w1 ⟨rfl, hE1⟩)
    go_ret2
    exact ⟨i, by rw [hf.out]; rfl, fun j h => (by rw [hf.out] at h; cases h), hi, hE.trans hE1, hlow, hup⟩
   ·
    have hf : Hid (findO (isAt f s) len = some i) := find_at hlt hq hlow
    rw [hq] at hsame
    have hc0 : (c == 0) = true := hsame.out
    go_wp2_with (go_at_call 102; refine (hcall _).mono ?_; rintro e w1 ⟨rfl, hE1⟩)
    go_ret2
    exact ⟨i, by rw [hf.out]; rfl, fun j h => by rw [hf.out] at h; cases h; rfl, hi, hE.trans hE1, hlow, hup⟩
  ·
   have hf : Hid (findO (isAt f s) len = none) := find_no hso hlow (fun h => absurd h hlt) (fun h => absurd h hlt)
   clear hAt
   go_wp2
   go_ret2
   exact ⟨i, by rw [hf.out]; rfl, fun j h => (by rw [hf.out] at h; cases h), hi, hE, hlow, hup⟩

set_option maxHeartbeats 400000 in
theorem placeOf_low (d : D) (H : Has d (.list 3)) (hso : Sorted d.at! d.len!) (hl4 : d.len! ≤ 1000) (S : Nat → Prop) (v : Value) (s : ByteArray) (w : World) (hv : DIn S w d v) :
  Calls Tryz.prog 90 #[v, .string s] w fun e w' => ∃ i : Nat, e = .returned (.tuple #[.int .i64 i, .bool (findO (isAt d.at! s) d.len!).isSome]) ∧ (∀ j, findO (isAt d.at! s) d.len! = some j → i = j) ∧ i ≤ d.len! ∧ Ext w w' ∧ (∀ t, t < i → Op.bytesLess (nameAt d.at! t) s.toList = true) ∧ (i < d.len! → Op.bytesLess (nameAt d.at! i) s.toList = false) := by
 have hcall := search_low d H hso hl4 S v s w hv
 obtain ⟨a, cap, len, f, hdd, rfl, hl, _⟩ := list_shape H hv
 clear hdd hv
 generalize findO (isAt d.at! s) d.len! = R at hcall
 go_enter Tryz.func90, Tryz.ntmps90
 go_wp2_with fail
 refine hcall.mono ?_
 rintro e w1 ⟨i, rfl, h2, h3, hE1, h4, h5⟩
 go_wp2
 go_ret2
 exact ⟨i, rfl, h2, h3, hE1, h4, h5⟩
theorem props_sorted {d : D} (h : propsB d = true) : Sorted d.at! d.len! ∧ d.len! ≤ 4 := by
 unfold propsB at h
 simp only [Bool.and_eq_true, decide_eq_true_eq, List.all_eq_true, List.mem_range] at h
 refine ⟨?_, h.2⟩
 have adj : ∀ i, i + 1 < d.len! → Op.bytesLess (nameAt d.at! i) (nameAt d.at! (i + 1)) = true := by
  intro i hi
  have := h.1 (i + 1) hi
  unfold propB at this
  simp only [Bool.and_eq_true, Bool.or_eq_true] at this
  rcases this.2 with h2 | h2
  ·
   simp at h2
  ·
   exact h2
 intro i j hij hj
 obtain ⟨m, rfl⟩ : ∃ m, j = i + 1 + m := ⟨j - i - 1, by omega⟩
 induction m with
 | zero => exact adj i hj
 | succ m ih => exact bl_trans _ _ _ (ih (by omega) (by omega)) (adj (i + 1 + m) hj)
end Go.Proofs.YteijgejpenlgjaaGreat
