/- What the laws' functions asInts and asHas answer. -/
import Derived.Test.YtdbblajcciakoaaWithSpec
import Derived.BigRegion
import Derived.Deep.RegionWith
namespace Go.Proofs.Ytdbblajcciakoaa
open Go.RowKit Go.Deep

set_option maxHeartbeats 2000000 in
theorem asInts_list (len : Nat) (f : Nat → Nat → D) (HRa : ∀ i, i < len → HasRow 1 (f i)) (S S2 : Nat → Prop) (u v : Value) (w : World) (hu : DIn S w (.list 1 len f) u) (hv : DIn S2 w (.list 1 len f) v) :
    Calls Try.prog 6 #[u, v] w fun e w' => e = .returned (.bool true) ∧ Ext w w' := by
  obtain ⟨a, cap, rfl, hm⟩ := hu.list_eq
  obtain ⟨a2, cap2, rfl, _⟩ := hv.list_eq
  unfold maxLen at hm
  go_enter Try.func6, Try.ntmps6
  go_wp2
  go_loopw [5] (fun i wr => ∃ k : Nat, k ≤ len ∧ i = .int .i64 k ∧ Ext w wr) (fun i _ => len - (intOf i).toNat)
  case atStart => exact ⟨0, Nat.zero_le _, rfl, Ext.refl _⟩
  case round =>
    obtain ⟨k, hk, rfl, hE⟩ := hrel
    by_cases hlt : k < len
    · obtain ⟨cap3, b, off, C, hsl, _, _, ec, hx⟩ := (hu.ext hE).at hlt
      cases hsl
      obtain ⟨cap4, b4, off4, C4, hsl, _, _, ec4, hx4⟩ := (hv.ext hE).at hlt
      cases hsl
      have HR := HRa k hlt
      obtain ⟨x0, hd0⟩ := (show Has (f k 0) .int from HR 0 (by decide)).int
      have h0 := hx 0 (by decide)
      have e0 := ec 0 (by decide)
      rw [hd0] at h0
      obtain ⟨y0, z0⟩ := h0.int_eq
      rw [y0] at e0
      clear y0
      simp only [Nat.add_zero, Nat.mul_one] at e0
      clear hx ec
      have r0 := hx4 0 (by decide)
      have re0 := ec4 0 (by decide)
      rw [hd0] at r0
      have ry0 := r0.int_eq.1
      rw [ry0] at re0
      clear ry0 r0
      simp only [Nat.add_zero, Nat.mul_one] at re0
      clear hx4 ec4 HR
      go_wp2_with fail
      go_region
      all_goals
        go_wp2
        go_roundw
        case rel => exact ⟨k + 1, by omega, by go_num, hE.drew⟩
        case measure => simp [intOf]; omega
    · go_wp2
      go_ret
      exact ⟨rfl, hE⟩
/-- Two rows of the same numbers. -/
theorem asInts_any (l : List Int) (S S2 : Nat → Prop) (u v : Value) (w : World) (hu : DIn S w (intsD l) u) (hv : DIn S2 w (intsD l) v) : Calls Try.prog 6 #[u, v] w fun e w' => e = .returned (.bool true) ∧ Ext w w' :=
  asInts_list l.length (intsF l) (fun i _ j hj => by
    have : j = 0 := by change j < 1 at hj; omega
    subst this
    rfl) S S2 u v w hu hv

set_option maxHeartbeats 1000000 in
theorem asHas_any (d : D) (H : Has d (.list 0)) (S : Nat → Prop) (v : Value) (s : ByteArray) (w : World) (hv : DIn S w d v) :
    Calls Try.prog 9 #[v, .string s] w fun e w' => e = .returned (.bool (hasLab d s)) ∧ Ext w w' := by
  obtain ⟨len, f, rfl, HRa⟩ := H.list
  change DIn S w (.list 1 len f) v at hv
  obtain ⟨a, cap, rfl, hm⟩ := hv.list_eq
  unfold maxLen at hm
  have hyes := fun k (hk : k < len) (h : ((f k 0).str!.toList == s.toList) = true) => has_yes (d := .list (rowsOf 0).length len f) hk h
  have hno' := fun (h : ∀ k, k < len → ((f k 0).str!.toList == s.toList) = false) => has_no (d := .list (rowsOf 0).length len f) h
  have HY : Hid _ := hyes
  have HN : Hid _ := hno'
  clear hyes hno'
  generalize hasLab (.list (rowsOf 0).length len f) s = hb at *
  go_enter Try.func9, Try.ntmps9
  go_wp2
  go_loopw [5] (fun i wr => ∃ k : Nat, k ≤ len ∧ i = .int .i64 k ∧ Ext w wr ∧ ∀ j, j < k → ((f j 0).str!.toList == s.toList) = false) (fun i _ => len - (intOf i).toNat)
  case atStart => exact ⟨0, Nat.zero_le _, rfl, Ext.refl _, fun j h => by omega⟩
  case round =>
    obtain ⟨k, hk, rfl, hE, hno⟩ := hrel
    by_cases hlt : k < len
    · obtain ⟨cap2, b, off, C, hsl, _, hbl, ec, hx⟩ := (hv.ext hE).at hlt
      cases hsl
      obtain ⟨x0, hd0⟩ := (show Has (f k 0) .str from HRa k hlt 0 (by decide)).str
      have h0 := hx 0 (by decide)
      have e0 := ec 0 (by decide)
      rw [hd0] at h0
      rw [h0.str_eq.1] at e0
      simp only [Nat.add_zero, Nat.mul_one] at e0
      clear hx ec h0
      cases hq : (x0.toList == s.toList)
      · have hq' : Hid (((f k 0).str!.toList == s.toList) = false) := by show _ = _; rw [hd0]; exact hq
        go_wp2
        go_roundw
        case rel => exact ⟨k + 1, by omega, by go_num, hE, fun j hj => by
          rcases Nat.lt_succ_iff_lt_or_eq.1 hj with h' | h'
          · exact hno j h'
          · subst h'; exact hq'.out⟩
        case measure => simp [intOf]; omega
      · have hf : Hid (hb = true) := HY.out k hlt (by rw [hd0]; exact hq)
        go_wp2
        go_ret
        exact ⟨ret_bool hf.out.symm, hE⟩
    · have hf : Hid (hb = false) := HN.out (fun j hj => hno j (by omega))
      go_wp2
      go_ret
      exact ⟨ret_bool hf.out.symm, hE⟩
end Go.Proofs.Ytdbblajcciakoaa
