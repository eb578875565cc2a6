/- At every text the law FnExactFramePut answers true, where the library's table of powers of ten stands. -/
import Derived.Test.YtiofojdiijllaaaDoorFpDec
import Derived.Test.YtiofojdiijllaaaDoorLay
import Derived.Lib.ItoaMem
namespace Go.Proofs.YtiofojdiijllaaaDoor
open Go.RowKit

def powName : String := "internal/strconv.uint64pow10"
/-- The table of powers of ten stands in w. -/
def PowIs (w : World) : Prop := Lib.TabIs Tryd.prog w "internal/strconv.uint64pow10" .u64 Lib.pow10Tab
theorem PowIs.ext {w w' : World} (h : PowIs w) (e : Ext w w') : PowIs w' := by
  unfold PowIs Lib.TabIs World.var? at *
  cases hg : Tryd.prog.globalNamed "internal/strconv.uint64pow10" with
  | none => simp [hg] at h
  | some g =>
    simp only [hg, Option.bind_some] at h ⊢
    have hlt : g < w.heap.size := by
      rcases Nat.lt_or_ge g w.heap.size with h' | h'
      · exact h'
      · rw [Array.getElem?_eq_none h'] at h; simp at h
    rw [Below.block e g hlt]
    exact h
theorem Ext.grow {a b : World} (h : Ext a b) (os : Array Obj) : Ext a (Sort.grow b os) :=
  ⟨(show (Sort.grow b os).os = b.os from rfl).trans (Below.os h), (show (Sort.grow b os).tape = b.tape from rfl).trans (Below.tape h), (show (Sort.grow b os).output = b.output from rfl).trans (Below.output h),
    Nat.le_trans (Below.size h) (by simp), fun i hi => by
      have hl := Below.size h
      have : (Sort.grow b os).heap[i]? = b.heap[i]? := by
        show (b.heap ++ os)[i]? = b.heap[i]?
        rw [Array.getElem?_append_left (by omega)]
      rw [this]
      exact Below.block h i hi⟩

theorem itoa_any (n : Nat) (hn : n ≤ 1000000) (w : World) (hw : PowIs w) : Calls Tryd.prog 7 #[.int .i64 n] w fun e w' => e = .returned (.string (decB n)) ∧ Ext w w' := by
  have h := Go.Proofs.Any.strconv_Itoa Tryd.lays171 (n : Int) (by omega) (by omega) w hw
  refine (show Calls Tryd.prog 7 #[.int .i64 n] w _ from h).mono ?_
  rintro e w' ⟨rfl, k, os, rfl⟩
  exact ⟨by rw [Lib.itoa_nonneg]; rfl, ((Ext.refl _).drewN k).grow os⟩

/-- A frame of a body. -/
def frameB (s : ByteArray) : ByteArray := if 6000 < s.size then ByteArray.empty else decB s.size ++ ⟨#[58]⟩ ++ s ++ ⟨#[10]⟩
theorem decB_le (n : Nat) (hn : n ≤ 1000000) : (decB n).size ≤ 20 := by rw [decB_size]; exact Lib.nDigits_le20 n (by omega)

set_option maxHeartbeats 1000000 in
theorem specFramePut_any (s : ByteArray) (w : World) (hs : s.size ≤ 1048576) : Calls Tryd.prog 4 #[.string s] w fun e w' => e = .returned (.string (frameB s)) ∧ Ext w w' := by
  by_cases h : 6000 < s.size
  · have hfin : Hid (frameB s = ByteArray.empty) := if_pos h
    have hi : 6000 < (s.size : Int) := by omega
    go_enter Tryd.func4, Tryd.ntmps4
    go_wp2
    go_ret
    exact ⟨ret_str hfin.out.symm, Ext.refl _⟩
  · have hfin : Hid (frameB s = decB s.size ++ ⟨#[58]⟩ ++ s ++ ⟨#[10]⟩) := if_neg h
    have hi : ¬ 6000 < (s.size : Int) := by omega
    have hd := decB_le s.size (by omega)
    have hcall := fun W => l1Dec_any s.size s.size (Nat.le_refl _) (by omega) W
    generalize decB s.size = dz at hfin hd hcall
    have z1 : (ByteArray.mk #[58]).size = 1 := rfl
    have z2 : (ByteArray.mk #[10]).size = 1 := rfl
    go_enter Tryd.func4, Tryd.ntmps4
    generalize ByteArray.mk #[58] = t1 at *
    generalize ByteArray.mk #[10] = t2 at *
    have y1 : (dz ++ t1).size ≤ 21 := by rw [ByteArray.size_append]; omega
    have y2 : (dz ++ t1 ++ s).size ≤ 6021 := by rw [ByteArray.size_append, ByteArray.size_append]; omega
    go_wp2_with (go_at_call 6; refine (hcall _).mono ?_; rintro e w1 ⟨rfl, hE1⟩)
    go_ret
    exact ⟨ret_str hfin.out.symm, hE1⟩

set_option maxHeartbeats 1000000 in
theorem implFramePut_any (s : ByteArray) (w : World) (hw : PowIs w) (hs : s.size ≤ 1048576) : Calls Tryd.prog 5 #[.string s] w fun e w' => e = .returned (.string (frameB s)) ∧ Ext w w' := by
  by_cases h : 6000 < s.size
  · have hfin : Hid (frameB s = ByteArray.empty) := if_pos h
    have hi : 6000 < (s.size : Int) := by omega
    go_enter Tryd.func5, Tryd.ntmps5
    go_wp2
    go_ret
    exact ⟨ret_str hfin.out.symm, Ext.refl _⟩
  · have hfin : Hid (frameB s = decB s.size ++ ⟨#[58]⟩ ++ s ++ ⟨#[10]⟩) := if_neg h
    have hi : ¬ 6000 < (s.size : Int) := by omega
    have hd := decB_le s.size (by omega)
    have hcall := itoa_any s.size (by omega) w hw
    generalize decB s.size = dz at hfin hd hcall
    have z1 : (ByteArray.mk #[58]).size = 1 := rfl
    have z2 : (ByteArray.mk #[10]).size = 1 := rfl
    go_enter Tryd.func5, Tryd.ntmps5
    generalize ByteArray.mk #[58] = t1 at *
    generalize ByteArray.mk #[10] = t2 at *
    have y1 : (dz ++ t1).size ≤ 21 := by rw [ByteArray.size_append]; omega
    have y2 : (dz ++ t1 ++ s).size ≤ 6021 := by rw [ByteArray.size_append, ByteArray.size_append]; omega
    go_wp2_with (go_at_call 7; refine hcall.mono ?_; rintro e w1 ⟨rfl, hE1⟩)
    go_ret
    exact ⟨ret_str hfin.out.symm, hE1⟩

set_option maxHeartbeats 1000000 in
theorem framePutLaw (a0 : ByteArray) (w0 : a0.size ≤ maxLen) (w : World) (hw : PowIs w) :
    Calls Tryd.prog 3 #[.string a0] w fun e w' => e = .returned (.bool true) ∧ Ext w w' := by
  have hs := w0
  unfold maxLen at hs
  by_cases hbig : 1048576 < a0.size
  · go_enter Tryd.func3, Tryd.ntmps3
    go_wp2
    go_ret
    exact ⟨rfl, Ext.refl _⟩
  · have hsp := specFramePut_any a0 w (by omega)
    have him := fun W (hW : Ext w W) => implFramePut_any a0 W (hw.ext hW) (by omega)
    generalize frameB a0 = r at hsp him
    go_enter Tryd.func3, Tryd.ntmps3
    go_wp2_with (first | (go_at_call 4; refine hsp.mono ?_; rintro e w1 ⟨rfl, hE1⟩) | (go_at_call 5; refine (him _ hE1).mono ?_; rintro e w2 ⟨rfl, hE2⟩))
    go_ret
    exact ⟨rfl, hE1.trans hE2⟩
end Go.Proofs.YtiofojdiijllaaaDoor
