/- What impl.allAre answers over names. -/
import Derived.Test.YtajepcddoijgoaaDAcc
import Derived.Test.YtajepcddoijgoaaName
import Derived.Deep.RegionHeld3
namespace Go.Proofs.Ytajepcddoijgoaa
open Go.RowKit Go.Deep

def nmsB1 (f : Nat → Nat → D) (i : Nat) : Bool := nameB (f i 0).str!
/-- All of a list are names. -/
def nmsB (d : D) : Bool := (List.range d.len!).all (nmsB1 d.at!)

set_option maxHeartbeats 400000 in
theorem notNames_any (s : ByteArray) (b : Nat) (w : World) (hs : s.size ≤ maxLen) (hc : w.cell? ⟨b, 0, none⟩ = some (.func (.func 17) #[] #[])) :
    Calls Try.prog 29 #[.string s, .pointer (some ⟨b, 0, none⟩)] w fun e w' => e = .returned (.bool (!nameB s)) ∧ Ext w w' := by
  go_enter Try.func29, Try.ntmps29
  go_wp2_with (go_at_call 17; refine (implNameOk_any _ _ hs).mono ?_; rintro e w' ⟨rfl, rfl⟩)
  go_ret
  exact ⟨rfl, Ext.refl _⟩

set_option maxHeartbeats 2000000 in
theorem indexNames_any (d : D) (H : Has d (.list 0)) (S : Nat → Prop) (v : Value) (w : World) (hv : DIn S w d v) (B : Nat) (hB : B < w.heap.size) (hc : w.cell? ⟨B, 0, none⟩ = some (.func (.func 17) #[] #[])) :
    Calls Try.prog 38 #[v, .func (.func 29) #[] #[.pointer (some ⟨B, 0, none⟩)]] w fun e w' => ∃ i : Int, e = .returned (.int .i64 i) ∧ decide (0 ≤ i) = (!nmsB d) ∧ Ext w w' := by
  have hcB := fun W (hW : Ext w W) => (show W.cell? ⟨B, 0, none⟩ = some (.func (.func 17) #[] #[]) by rw [hW.cell hB]; exact hc)
  clear hc
  obtain ⟨len, f, rfl, HRa⟩ := H.list
  change DIn S w (.list 1 len f) v at hv
  obtain ⟨a, cap, rfl, hm⟩ := hv.list_eq
  unfold maxLen at hm
  have HB : Hid (nmsB (.list 1 len f) = (List.range len).all (nmsB1 f)) := rfl
  go_enter Try.func38, Try.ntmps38
  go_wp2
  go_loopw [8] (fun i wr => ∃ k : Nat, k ≤ len ∧ i = .int .i64 k ∧ Ext w wr ∧ ∀ j, j < k → nmsB1 f j = true) (fun i _ => len - (intOf i).toNat)
  case atStart => exact ⟨0, Nat.zero_le _, rfl, Ext.refl _, fun j h => by omega⟩
  case round =>
    obtain ⟨k, hk, rfl, hE, hno⟩ := hrel
    by_cases hlt : k < len
    · obtain ⟨cap2, b, off, C, hsl, _, hb, ec, hx⟩ := (hv.ext hE).at hlt
      cases hsl
      have HR := HRa k hlt
      obtain ⟨x0, hd0⟩ := (show Has (f k 0) .str from HR 0 (by decide)).str
      have h0 := hx 0 (by decide)
      have e0 := ec 0 (by decide)
      rw [hd0] at h0
      obtain ⟨y0, z0⟩ := h0.str_eq
      rw [y0] at e0
      have e0 : wr.cell? ⟨b, off + k, none⟩ = some (.string x0) := by simpa using e0
      clear y0 hx ec HR
      have hLk : Hid (nmsB1 f k = nameB x0) := by show _ = _; simp [nmsB1, hd0, D.str!]
      have hcall := notNames_any x0 B wr z0 (hcB _ hE)
      clear hcB
      cases hn : nameB x0
      · have hfin : Hid (decide (0 ≤ (k : Int)) = (!nmsB (.list 1 len f))) := by show _ = _; rw [HB.out, all_no hlt (by rw [hLk.out, hn])]; simp
        rw [hn] at hcall
        go_wp2_with (go_at_call 29; refine hcall.mono ?_; rintro e w1 ⟨rfl, hE1⟩)
        go_ret
        exact ⟨_, rfl, hfin.out, hE.trans hE1⟩
      · rw [hn] at hcall
        go_wp2_with (go_at_call 29; refine hcall.mono ?_; rintro e w1 ⟨rfl, hE1⟩)
        go_roundw
        case rel => exact ⟨k + 1, by omega, by go_num, hE.trans hE1, upto_succ hno (by rw [hLk.out, hn])⟩
        case measure => simp [intOf]; omega
    · have hkx : k = len := by omega
      subst hkx
      have hfin : Hid (decide (0 ≤ (-1 : Int)) = (!nmsB (.list 1 k f))) := by show _ = _; rw [HB.out, all_yes hno]; rfl
      go_wp2
      go_ret
      exact ⟨_, rfl, hfin.out, hE⟩

set_option maxHeartbeats 400000 in
theorem containsNames_any (d : D) (H : Has d (.list 0)) (S : Nat → Prop) (v : Value) (w : World) (hv : DIn S w d v) (B : Nat) (hB : B < w.heap.size) (hc : w.cell? ⟨B, 0, none⟩ = some (.func (.func 17) #[] #[])) :
    Calls Try.prog 28 #[v, .func (.func 29) #[] #[.pointer (some ⟨B, 0, none⟩)]] w fun e w' => e = .returned (.bool (!nmsB d)) ∧ Ext w w' := by
  have hcall := indexNames_any d H S v w hv B hB hc
  obtain ⟨a, cap, len, f, hdd, rfl, _, _⟩ := list_shape H hv
  clear hdd hv
  generalize (!nmsB d) = R at hcall
  go_enter Try.func28, Try.ntmps28
  go_wp2_with fail
  refine hcall.mono ?_
  rintro e w1 ⟨i, rfl, hi, hE1⟩
  go_wp2
  go_ret
  exact ⟨rfl, hE1⟩

set_option maxHeartbeats 400000 in
theorem allAreNames_any (d : D) (H : Has d (.list 0)) (S : Nat → Prop) (v : Value) (w : World) (hv : DIn S w d v) :
    Calls Try.prog 16 #[v, .func (.func 17) #[] #[]] w fun e w' => e = .returned (.bool (nmsB d)) ∧ Ext w w' := by
  have hmf : ∀ (fn : Fn) (first cap : Array Value) (w : World), (Instr.makeFunc fn first cap).run Try.prog w = .ok (.func fn first cap) w := fun _ _ _ _ => rfl
  have hE0 : Ext w (w.alloc (.cells #[.func (.func 17) #[] #[]] 36)) := (Ext.refl _).alloc _
  have hcall := containsNames_any d H S v _ (hv.ext hE0) w.heap.size (by simp) (by simp)
  obtain ⟨a, cap, len, f, hdd, rfl, _, _⟩ := list_shape H hv
  clear hdd hv
  generalize nmsB d = R at hcall
  go_enter Try.func16, Try.ntmps16
  go_wp2_with fail
  refine hcall.mono ?_
  rintro e w1 ⟨rfl, hE1⟩
  go_wp2
  go_ret
  exact ⟨by simp, hE0.trans hE1⟩
end Go.Proofs.Ytajepcddoijgoaa
