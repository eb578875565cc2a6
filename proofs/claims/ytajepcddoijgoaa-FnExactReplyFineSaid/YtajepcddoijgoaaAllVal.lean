/- What impl.allAre answers over values. -/
import Derived.Test.YtajepcddoijgoaaGVal
import Derived.Test.YtajepcddoijgoaaValOkImpl
import Derived.Deep.RegionHeld3
namespace Go.Proofs.Ytajepcddoijgoaa
open Go.RowKit Go.Deep

def okvB1 (f : Nat → Nat → D) (i : Nat) : Bool := okN 3 (.mk (f i 0).int! (f i 1).int! (f i 2).str! (vsOf (f i 3)))
/-- All of a list are values that are ok. -/
def okvB (d : D) : Bool := (List.range d.len!).all (okvB1 d.at!)

set_option maxHeartbeats 400000 in
theorem notVals_any (x : V) (v : Value) (b : Nat) (w : World) (hb : b < w.heap.size) (hv : ValIn 0 w x v) (hc : w.cell? ⟨b, 0, none⟩ = some (.func (.func 20) #[] #[])) :
    Calls Try.prog 34 #[v, .pointer (some ⟨b, 0, none⟩)] w fun e w' => e = .returned (.bool (!okN 3 x)) ∧ Ext w w' := by
  have hcall := fun W (hW : Ext w W) => implValueOk_any x 0 v W (hv.ext hW)
  have hcc := fun W (hW : Ext w W) => (show W.cell? ⟨b, 0, none⟩ = some (.func (.func 20) #[] #[]) by rw [hW.cell hb]; exact hc)
  obtain ⟨kk, nn, tt, aa, ll, cc, rfl⟩ := hv.shape
  have hE0 := (Ext.refl w).alloc (.cells #[.int .i64 kk, .int .i64 nn, .string tt, .slice aa ll cc] 39)
  have hc1 := hcc _ hE0
  clear hc hcc
  go_enter Try.func34, Try.ntmps34
  go_wp2_with (go_at_call 20; refine (hcall _ hE0).mono ?_; rintro e w' ⟨rfl, hE1⟩)
  go_ret
  exact ⟨rfl, hE0.trans hE1⟩

set_option maxHeartbeats 2000000 in
theorem indexVals_any (d : D) (H : Has d (.list 2)) (S : Nat → Prop) (v : Value) (w : World) (hv : DIn S w d v) (B : Nat) (hB : B < w.heap.size) (hc : w.cell? ⟨B, 0, none⟩ = some (.func (.func 20) #[] #[])) :
    Calls Try.prog 39 #[v, .func (.func 34) #[] #[.pointer (some ⟨B, 0, none⟩)]] w fun e w' => ∃ i : Int, e = .returned (.int .i64 i) ∧ decide (0 ≤ i) = (!okvB d) ∧ Ext w w' := by
  have hcB := fun W (hW : Ext w W) => (show W.cell? ⟨B, 0, none⟩ = some (.func (.func 20) #[] #[]) by rw [hW.cell hB]; exact hc)
  clear hc
  obtain ⟨len, f, rfl, HRa⟩ := H.list
  change DIn S w (.list 4 len f) v at hv
  obtain ⟨a, cap, rfl, hm⟩ := hv.list_eq
  unfold maxLen at hm
  have HB : Hid (okvB (.list 4 len f) = (List.range len).all (okvB1 f)) := rfl
  go_enter Try.func39, Try.ntmps39
  go_wp2
  go_loopw [8] (fun i wr => ∃ k : Nat, k ≤ len ∧ i = .int .i64 k ∧ Ext w wr ∧ ∀ j, j < k → okvB1 f j = true) (fun i _ => len - (intOf i).toNat)
  case atStart => exact ⟨0, Nat.zero_le _, rfl, Ext.refl _, fun j h => by omega⟩
  case round =>
    obtain ⟨k, hk, rfl, hE, hno⟩ := hrel
    by_cases hlt : k < len
    · obtain ⟨cap2, b, off, C, hsl, _, hb, ec, hx⟩ := (hv.ext hE).at hlt
      cases hsl
      have HR := HRa k hlt
      obtain ⟨x0, hd0⟩ := (show Has (f k 0) .int from HR 0 (by decide)).int
      obtain ⟨x1, hd1⟩ := (show Has (f k 1) .int from HR 1 (by decide)).int
      obtain ⟨x2, hd2⟩ := (show Has (f k 2) .str from HR 2 (by decide)).str
      have H3 : Has (f k 3) (.list 2) := HR 3 (by decide)
      have h0 := hx 0 (by decide)
      have e0 := ec 0 (by decide)
      rw [hd0] at h0
      obtain ⟨y0, z0⟩ := h0.int_eq
      rw [y0] at e0
      have h1 := hx 1 (by decide)
      have e1 := ec 1 (by decide)
      rw [hd1] at h1
      obtain ⟨y1, z1⟩ := h1.int_eq
      rw [y1] at e1
      have h2 := hx 2 (by decide)
      have e2 := ec 2 (by decide)
      rw [hd2] at h2
      obtain ⟨y2, z2⟩ := h2.str_eq
      rw [y2] at e2
      have h3 := hx 3 (by decide)
      have e3 := ec 3 (by decide)
      simp only [Nat.add_zero] at e0
      clear y0 y1 y2 hx ec HR
      have hLk : Hid (okvB1 f k = okN 3 (.mk x0 x1 x2 (vsOf (f k 3)))) := by show _ = _; simp [okvB1, hd0, hd1, hd2, D.str!, D.int!]
      have hcall := notVals_any (.mk x0 x1 x2 (vsOf (f k 3))) _ B wr (Nat.lt_of_lt_of_le hB hE.le) (valIn_of z0 z1 z2 H3 h3) (hcB _ hE)
      generalize okN 3 (.mk x0 x1 x2 (vsOf (f k 3))) = R at hLk hcall
      generalize C 3 = c3 at *
      clear hcB
      cases hn : R
      · have hfin : Hid (decide (0 ≤ (k : Int)) = (!okvB (.list 4 len f))) := by show _ = _; rw [HB.out, all_no hlt (by rw [hLk.out, hn])]; simp
        rw [hn] at hcall
        go_wp2_with (go_at_call 34; refine hcall.mono ?_; rintro e w1 ⟨rfl, hE1⟩)
        go_ret
        exact ⟨_, rfl, hfin.out, hE.trans hE1⟩
      · rw [hn] at hcall
        go_wp2_with (go_at_call 34; refine hcall.mono ?_; rintro e w1 ⟨rfl, hE1⟩)
        go_roundw
        case rel => exact ⟨k + 1, by omega, by go_num, hE.trans hE1, upto_succ hno (by rw [hLk.out, hn])⟩
        case measure => simp [intOf]; omega
    · have hkx : k = len := by omega
      subst hkx
      have hfin : Hid (decide (0 ≤ (-1 : Int)) = (!okvB (.list 4 k f))) := by show _ = _; rw [HB.out, all_yes hno]; rfl
      go_wp2
      go_ret
      exact ⟨_, rfl, hfin.out, hE⟩

set_option maxHeartbeats 400000 in
theorem containsVals_any (d : D) (H : Has d (.list 2)) (S : Nat → Prop) (v : Value) (w : World) (hv : DIn S w d v) (B : Nat) (hB : B < w.heap.size) (hc : w.cell? ⟨B, 0, none⟩ = some (.func (.func 20) #[] #[])) :
    Calls Try.prog 33 #[v, .func (.func 34) #[] #[.pointer (some ⟨B, 0, none⟩)]] w fun e w' => e = .returned (.bool (!okvB d)) ∧ Ext w w' := by
  have hcall := indexVals_any d H S v w hv B hB hc
  obtain ⟨a, cap, len, f, hdd, rfl, _, _⟩ := list_shape H hv
  clear hdd hv
  generalize (!okvB d) = R at hcall
  go_enter Try.func33, Try.ntmps33
  go_wp2_with fail
  refine hcall.mono ?_
  rintro e w1 ⟨i, rfl, hi, hE1⟩
  go_wp2
  go_ret
  exact ⟨rfl, hE1⟩

set_option maxHeartbeats 400000 in
theorem allAreVals_any (d : D) (H : Has d (.list 2)) (S : Nat → Prop) (v : Value) (w : World) (hv : DIn S w d v) :
    Calls Try.prog 19 #[v, .func (.func 20) #[] #[]] w fun e w' => e = .returned (.bool (okvB d)) ∧ Ext w w' := by
  have hmf : ∀ (fn : Fn) (first cap : Array Value) (w : World), (Instr.makeFunc fn first cap).run Try.prog w = .ok (.func fn first cap) w := fun _ _ _ _ => rfl
  have hE0 : Ext w (w.alloc (.cells #[.func (.func 20) #[] #[]] 37)) := (Ext.refl _).alloc _
  have hcall := containsVals_any d H S v _ (hv.ext hE0) w.heap.size (by simp) (by simp)
  obtain ⟨a, cap, len, f, hdd, rfl, _, _⟩ := list_shape H hv
  clear hdd hv
  generalize okvB d = R at hcall
  go_enter Try.func19, Try.ntmps19
  go_wp2_with fail
  refine hcall.mono ?_
  rintro e w1 ⟨rfl, hE1⟩
  go_wp2
  go_ret
  exact ⟨by simp, hE0.trans hE1⟩
end Go.Proofs.Ytajepcddoijgoaa
