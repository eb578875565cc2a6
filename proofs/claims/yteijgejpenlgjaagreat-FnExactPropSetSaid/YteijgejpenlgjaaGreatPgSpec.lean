/- What spec.l2Edge, spec.l2Of, spec.l2Get and spec.PropGet answer. -/
import Derived.Test.YteijgejpenlgjaaGreatPgDef
import Derived.Test.YteijgejpenlgjaaGreatSpC
import Derived.Test.YteijgejpenlgjaaGreatVa
import Derived.Deep.DeepCutAuto
namespace Go.Proofs.YteijgejpenlgjaaGreat
open Go.RowKit Go.Deep

set_option maxHeartbeats 1000000 in
theorem l2Edge_any (S : Nat → Prop) (d1 : D) (c0 c1 : Value) (x2 x3 id : Int) (w : World) (H1 : Has d1 (.list 5)) (h1 : DIn S w d1 c1) (hc0 : ∃ a l c, c0 = .slice a l c) :
  Calls Tryz.prog 48 #[.agg #[c0, c1, .int .i64 x2, .int .i64 x3], .int .i64 id] w fun e w' => e = .returned (.int .i64 (findI (fun i => (d1.at! i 0).int! == id) d1.len!)) ∧ Ext w w' := by
 obtain ⟨a1, l1, cap1, rfl⟩ := hc0
 obtain ⟨len, f, rfl, HRa⟩ := H1.list
 change DIn S w (.list 5 len f) c1 at h1
 obtain ⟨a, cap, rfl, hm⟩ := h1.list_eq
 unfold maxLen at hm
 have HB : Hid ((fun i => ((D.list (rowsOf 5).length len f).at! i 0).int! == id) = fun i => (f i 0).int! == id) := rfl
 have HL : Hid ((D.list (rowsOf 5).length len f).len! = len) := rfl
 rw [HB.out, HL.out]
 clear HB HL
 go_enter Tryz.func48, Tryz.ntmps48
 go_wp2
 generalize hW0 : w.alloc _ = W0
 have hE0 : Ext w W0 := by subst hW0; exact (Ext.refl _).alloc _
 have hbx : ∀ W, Ext W0 W → W.cell? ⟨w.heap.size, 1, none⟩ = some (.slice a len cap) := fun W hW => by subst hW0; exact box_cell hW 1 _ rfl
 clear hW0
 go_loopw [5] (fun i wr => ∃ k : Nat, k ≤ len ∧ i = .int .i64 k ∧ Ext W0 wr ∧ ∀ j, j < k → ((f j 0).int! == id) = false) (fun i _ => len - (intOf i).toNat)
 case atStart => exact ⟨0, Nat.zero_le _, rfl, Ext.refl _, fun j h => by omega⟩
 case round =>
  obtain ⟨k, hk, rfl, hE, hno⟩ := hrel
  have p0 := hbx wr hE
  by_cases hlt : k < len
  ·
   obtain ⟨cap2, b, off, C, hsl, _, hb, ec, hx⟩ := (h1.ext (hE0.trans hE)).at hlt
   cases hsl
   have HR := HRa k hlt
   obtain ⟨x0, hd0⟩ := (show Has (f k 0) .int from HR 0 (by decide)).int
   have k0 := hx 0 (by decide)
   have e0 := ec 0 (by decide)
   rw [hd0] at k0
   rw [k0.int_eq.1] at e0
   simp only [Nat.add_zero] at e0
   clear hx ec HR k0
   by_cases heq : x0 = id
   ·
    subst heq
    have hf : Hid (findI (fun i => (f i 0).int! == x0) len = k) := findI_some (p := fun i => (f i 0).int! == x0) hlt (by simp [hd0, D.int!]) hno
    go_wp2
    go_ret
    exact ⟨ret_int hf.out.symm, hE0.trans hE⟩
   ·
    have hne : (x0 == id) = false := by simpa using heq
    have hok : Hid (((f k 0).int! == id) = false) := by show _ = _; rw [hd0]; exact hne
    go_wp2
    go_roundw
    case rel =>
     refine ⟨k + 1, by omega, by go_num, hE, fun j hj => ?_⟩
     rcases Nat.lt_succ_iff_lt_or_eq.1 hj with h' | h'
     ·
      exact hno j h'
     ·
      subst h'; exact hok.out
    case measure => simp [intOf]; omega
  ·
   have hkx : k = len := by omega
   subst hkx
   have hf : Hid (findI (fun i => (f i 0).int! == id) k = -1) := findI_none (p := fun i => (f i 0).int! == id) hno
   go_wp2
   go_ret
   exact ⟨ret_int hf.out.symm, hE0.trans hE⟩

end Go.Proofs.YteijgejpenlgjaaGreat
