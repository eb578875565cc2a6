/- What the laws' functions eq.. answer of two that lie in memory as the same: true. -/
import Derived.Test.YtajepcddoijgoaaDat
import Derived.BigRegion
import Derived.Deep.RegionWith
namespace Go.Proofs.Ytajepcddoijgoaa
open Go.RowKit Go.Deep

def EqD (F : FuncId) (d : D) : Prop := ∀ (S S2 : Nat → Prop) (u v : Value) (w : World), DIn S w d u → DIn S2 w d v →
  Calls Try.prog F #[u, v] w fun e w' => e = .returned (.bool true) ∧ Ext w w'
theorem box2_fst {w W : World} {cs cs2 : Array Value} {T T2 : TypeId} (h : Ext ((w.alloc (.cells cs T)).alloc (.cells cs2 T2)) W) (j : Nat) (c : Value) (hc : cs[j]? = some c) : W.cell? ⟨w.heap.size, j, none⟩ = some c :=
  box_cell (((Ext.refl _).alloc _).trans h) j c hc
theorem box2_snd {w W : World} {cs cs2 : Array Value} {T T2 : TypeId} (h : Ext ((w.alloc (.cells cs T)).alloc (.cells cs2 T2)) W) (j : Nat) (c : Value) (hc : cs2[j]? = some c) : W.cell? ⟨w.heap.size + 1, j, none⟩ = some c := by
  have := box_cell h j c hc
  simpa using this

set_option maxHeartbeats 2000000 in
theorem eqStringS_list (len : Nat) (f : Nat → Nat → D) (HRa : ∀ i, i < len → HasRow 0 (f i)) : EqD 21 (.list 1 len f) := by
  intro S S2 u v w hu hv
  obtain ⟨a, cap, rfl, hm⟩ := hu.list_eq
  obtain ⟨a2, cap2, rfl, _⟩ := hv.list_eq
  unfold maxLen at hm
  go_enter Try.func21, Try.ntmps21
  go_wp2
  go_loopw [5] (fun i wr => ∃ k : Nat, k ≤ len ∧ i = .int .i64 k ∧ Ext w wr) (fun i _ => len - (intOf i).toNat)
  case atStart => exact ⟨0, Nat.zero_le _, rfl, Ext.refl _⟩
  case round =>
    obtain ⟨k, hk, rfl, hE⟩ := hrel
    by_cases hlt : k < len
    · obtain ⟨cap3, b, off, C, hsl, _, _, ec, hx⟩ := (hu.ext hE).at hlt
      cases hsl
      obtain ⟨cap4, b4, off4, C4, hsl, _, _, ec4, hx4⟩ := (hv.ext hE).at hlt
      cases hsl
      have HR := HRa k hlt
      obtain ⟨x0, hd0⟩ := (show Has (f k 0) .str from HR 0 (by decide)).str
      have h0 := hx 0 (by decide)
      have e0 := ec 0 (by decide)
      rw [hd0] at h0
      obtain ⟨y0, z0⟩ := h0.str_eq
      rw [y0] at e0
      clear y0
      simp only [Nat.add_zero, Nat.mul_one] at e0
      clear hx ec
      have r0 := hx4 0 (by decide)
      have re0 := ec4 0 (by decide)
      rw [hd0] at r0
      have ry0 := r0.str_eq.1
      rw [ry0] at re0
      clear ry0 r0
      simp only [Nat.add_zero, Nat.mul_one] at re0
      clear hx4 ec4 HR
      go_wp2_with fail
      go_region
      all_goals
        go_wp2
        go_roundw
        case rel => exact ⟨k + 1, by omega, by go_num, hE.drew⟩
        case measure => simp [intOf]; omega
    · go_wp2
      go_ret
      exact ⟨rfl, hE⟩

theorem eqStringS_any (d : D) (H : Has d (.list 0)) : EqD 21 d := by
  obtain ⟨len, f, rfl, HRa⟩ := H.list
  exact eqStringS_list len f HRa

end Go.Proofs.Ytajepcddoijgoaa
