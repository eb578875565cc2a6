/- What spec.l2Node answers. -/
import Derived.Test.YtbhmblkappmfjaaGreatGSpec2
namespace Go.Proofs.YtbhmblkappmfjaaGreat
open Go.RowKit Go.Deep Go.WideShapes

/-- The first of so many that is so; -1 if none is. -/
def findI (p : Nat → Bool) (len : Nat) : Int := match (List.range len).find? p with | some i => i | none => -1
theorem findI_some {p : Nat → Bool} {len k : Nat} (hk : k < len) (h : p k = true) (hno : ∀ j, j < k → p j = false) : findI p len = k := by
  have : (List.range len).find? p = some k := by
    rw [List.find?_range_eq_some]
    exact ⟨h, by simpa using hk, fun j hj => by simpa using hno j hj⟩
  rw [findI, this]
theorem findI_none {p : Nat → Bool} {len : Nat} (hno : ∀ j, j < len → p j = false) : findI p len = -1 := by
  have : (List.range len).find? p = none := by
    rw [List.find?_range_eq_none]
    exact fun j hj => by simpa using hno j hj
  rw [findI, this]
theorem findI_neg (p : Nat → Bool) (len : Nat) : decide (findI p len < 0) = !(List.range len).any p := by
  cases h : (List.range len).find? p with
  | none =>
    rw [List.find?_eq_none] at h
    have h2 : (List.range len).any p = false := by
      rw [List.any_eq_false]
      exact fun x hx => h x hx
    rw [h2, findI_none (fun j hj => by simpa using h j (List.mem_range.2 hj))]
    rfl
  | some k =>
    have h2 : (List.range len).any p = true := List.any_eq_true.2 ⟨k, List.mem_of_find?_eq_some h, List.find?_some h⟩
    rw [h2, findI, h]
    exact decide_eq_false (show ¬ (k : Int) < 0 by omega)
def hasId (d : D) (id : Int) : Bool := (List.range d.len!).any fun i => (d.at! i 0).int! == id

set_option maxHeartbeats 1000000 in
theorem l2Node_any (S : Nat → Prop) (d0 : D) (c0 c1 : Value) (x2 x3 id : Int) (w : World) (H0 : Has d0 (.list 4)) (h0 : DIn S w d0 c0) (hc1 : ∃ a l c, c1 = .slice a l c) :
    Calls Tryz.prog 15 #[.agg #[c0, c1, .int .i64 x2, .int .i64 x3], .int .i64 id] w fun e w' => e = .returned (.int .i64 (findI (fun i => (d0.at! i 0).int! == id) d0.len!)) ∧ Ext w w' := by
  obtain ⟨a1, l1, cap1, rfl⟩ := hc1
  obtain ⟨len, f, rfl, HRa⟩ := H0.list
  change DIn S w (.list 3 len f) c0 at h0
  obtain ⟨a, cap, rfl, hm⟩ := h0.list_eq
  unfold maxLen at hm
  have HB : Hid ((fun i => ((D.list (rowsOf 4).length len f).at! i 0).int! == id) = fun i => (f i 0).int! == id) := rfl
  have HL : Hid ((D.list (rowsOf 4).length len f).len! = len) := rfl
  rw [HB.out, HL.out]
  clear HB HL
  go_enter Tryz.func15, Tryz.ntmps15
  go_wp2
  generalize hW0 : w.alloc _ = W0
  have hE0 : Ext w W0 := by subst hW0; exact (Ext.refl _).alloc _
  have hbx : ∀ W, Ext W0 W → W.cell? ⟨w.heap.size, 0, none⟩ = some (.slice a len cap) := fun W hW => by subst hW0; exact box_cell hW 0 _ rfl
  clear hW0
  go_loopw [5] (fun i wr => ∃ k : Nat, k ≤ len ∧ i = .int .i64 k ∧ Ext W0 wr ∧ ∀ j, j < k → ((f j 0).int! == id) = false) (fun i _ => len - (intOf i).toNat)
  case atStart => exact ⟨0, Nat.zero_le _, rfl, Ext.refl _, fun j h => by omega⟩
  case round =>
    obtain ⟨k, hk, rfl, hE, hno⟩ := hrel
    have p0 := hbx wr hE
    by_cases hlt : k < len
    · obtain ⟨cap2, b, off, C, hsl, _, hb, ec, hx⟩ := (h0.ext (hE0.trans hE)).at hlt
      cases hsl
      have HR := HRa k hlt
      obtain ⟨x0, hd0⟩ := (show Has (f k 0) .int from HR 0 (by decide)).int
      have k0 := hx 0 (by decide)
      have e0 := ec 0 (by decide)
      rw [hd0] at k0
      rw [k0.int_eq.1] at e0
      simp only [Nat.add_zero] at e0
      clear hx ec HR k0
      by_cases heq : x0 = id
      · subst heq
        have hf : Hid (findI (fun i => (f i 0).int! == x0) len = k) := findI_some (p := fun i => (f i 0).int! == x0) hlt (by simp [hd0, D.int!]) hno
        go_wp2
        go_ret
        exact ⟨ret_int hf.out.symm, hE0.trans hE⟩
      · have hne : (x0 == id) = false := by simpa using heq
        have hok : Hid (((f k 0).int! == id) = false) := by show _ = _; rw [hd0]; exact hne
        go_wp2
        go_roundw
        case rel =>
          refine ⟨k + 1, by omega, by go_num, hE, fun j hj => ?_⟩
          rcases Nat.lt_succ_iff_lt_or_eq.1 hj with h' | h'
          · exact hno j h'
          · subst h'; exact hok.out
        case measure => simp [intOf]; omega
    · have hkx : k = len := by omega
      subst hkx
      have hf : Hid (findI (fun i => (f i 0).int! == id) k = -1) := findI_none (p := fun i => (f i 0).int! == id) hno
      go_wp2
      go_ret
      exact ⟨ret_int hf.out.symm, hE0.trans hE⟩
end Go.Proofs.YtbhmblkappmfjaaGreat
