/- What spec.l2Edge, spec.l2Of, spec.l2Get and spec.PropGet answer. -/
import Derived.Test.YtggnfhicgpleeaaGreatPgDef
import Derived.Test.YtggnfhicgpleeaaGreatSpecCopy
import Derived.Test.YtggnfhicgpleeaaGreatValL1Ok
import Derived.Deep.DeepCutAuto
namespace Go.Proofs.YtggnfhicgpleeaaGreat
open Go.RowKit Go.Deep

set_option maxHeartbeats 1000000 in
theorem l2Edge_any (S : Nat → Prop) (d1 : D) (c0 c1 : Value) (x2 x3 id : Int) (w : World) (H1 : Has d1 (.list 5)) (h1 : DIn S w d1 c1) (hc0 : ∃ a l c, c0 = .slice a l c) :
    Calls Tryz.prog 64 #[.agg #[c0, c1, .int .i64 x2, .int .i64 x3], .int .i64 id] w fun e w' => e = .returned (.int .i64 (findI (fun i => (d1.at! i 0).int! == id) d1.len!)) ∧ Ext w w' := by
  obtain ⟨a1, l1, cap1, rfl⟩ := hc0
  obtain ⟨len, f, rfl, HRa⟩ := H1.list
  change DIn S w (.list 5 len f) c1 at h1
  obtain ⟨a, cap, rfl, hm⟩ := h1.list_eq
  unfold maxLen at hm
  have HB : Hid ((fun i => ((D.list (rowsOf 5).length len f).at! i 0).int! == id) = fun i => (f i 0).int! == id) := rfl
  have HL : Hid ((D.list (rowsOf 5).length len f).len! = len) := rfl
  rw [HB.out, HL.out]
  clear HB HL
  go_enter Tryz.func64, Tryz.ntmps64
  go_wp2
  generalize hW0 : w.alloc _ = W0
  have hE0 : Ext w W0 := by subst hW0; exact (Ext.refl _).alloc _
  have hbx : ∀ W, Ext W0 W → W.cell? ⟨w.heap.size, 1, none⟩ = some (.slice a len cap) := fun W hW => by subst hW0; exact box_cell hW 1 _ rfl
  clear hW0
  go_loopw [5] (fun i wr => ∃ k : Nat, k ≤ len ∧ i = .int .i64 k ∧ Ext W0 wr ∧ ∀ j, j < k → ((f j 0).int! == id) = false) (fun i _ => len - (intOf i).toNat)
  case atStart => exact ⟨0, Nat.zero_le _, rfl, Ext.refl _, fun j h => by omega⟩
  case round =>
    obtain ⟨k, hk, rfl, hE, hno⟩ := hrel
    have p0 := hbx wr hE
    by_cases hlt : k < len
    · obtain ⟨cap2, b, off, C, hsl, _, hb, ec, hx⟩ := (h1.ext (hE0.trans hE)).at hlt
      cases hsl
      have HR := HRa k hlt
      obtain ⟨x0, hd0⟩ := (show Has (f k 0) .int from HR 0 (by decide)).int
      have k0 := hx 0 (by decide)
      have e0 := ec 0 (by decide)
      rw [hd0] at k0
      rw [k0.int_eq.1] at e0
      simp only [Nat.add_zero] at e0
      clear hx ec HR k0
      by_cases heq : x0 = id
      · subst heq
        have hf : Hid (findI (fun i => (f i 0).int! == x0) len = k) := findI_some (p := fun i => (f i 0).int! == x0) hlt (by simp [hd0, D.int!]) hno
        go_wp2
        go_ret
        exact ⟨ret_int hf.out.symm, hE0.trans hE⟩
      · have hne : (x0 == id) = false := by simpa using heq
        have hok : Hid (((f k 0).int! == id) = false) := by show _ = _; rw [hd0]; exact hne
        go_wp2
        go_roundw
        case rel =>
          refine ⟨k + 1, by omega, by go_num, hE, fun j hj => ?_⟩
          rcases Nat.lt_succ_iff_lt_or_eq.1 hj with h' | h'
          · exact hno j h'
          · subst h'; exact hok.out
        case measure => simp [intOf]; omega
    · have hkx : k = len := by omega
      subst hkx
      have hf : Hid (findI (fun i => (f i 0).int! == id) k = -1) := findI_none (p := fun i => (f i 0).int! == id) hno
      go_wp2
      go_ret
      exact ⟨ret_int hf.out.symm, hE0.trans hE⟩

/-- What l2Of hands back. -/
inductive OfPost (PA : Option D) (S : Nat → Prop) (w : World) : Ending → World → Prop
  | mk (u : Value) (b : Bool) (w' : World) (h1 : ∀ d, PA = some d → DIn S w' d u) (h2 : PA = none → ∃ a c, u = .slice a 0 c) (hE : Ext w w') : OfPost PA S w (.returned (.tuple #[u, .bool b])) w'
theorem nilS (S : Nat → Prop) (w : World) (n : Nat) (f : Nat → Nat → D) : DIn S w (.list n 0 f) (.slice none 0 0) := ⟨none, 0, 0, 0, rfl, by simp [maxLen], fun h => by omega, fun i hi => by omega⟩

set_option maxHeartbeats 2000000 in
theorem l2Of_any (S : Nat → Prop) (d0 d1 : D) (c0 c1 c3' : Value) (x2 x3 k n : Int) (t : ByteArray) (w : World) (H0 : Has d0 (.list 4)) (h0 : DIn S w d0 c0) (H1 : Has d1 (.list 5)) (h1 : DIn S w d1 c1) (hc : ∃ a l c, c3' = .slice a l c) :
    Calls Tryz.prog 42 #[.agg #[c0, c1, .int .i64 x2, .int .i64 x3], .agg #[.int .i64 k, .int .i64 n, .string t, c3']] w (OfPost (propsAt d0 d1 k n) S w) := by
  have hnode := fun (W : World) (hW : Ext w W) (hc1 : ∃ a l c, c1 = .slice a l c) => l2Node_any S d0 c0 c1 x2 x3 n W H0 (h0.ext hW) hc1
  have hedge := fun (W : World) (hW : Ext w W) (hc0 : ∃ a l c, c0 = .slice a l c) => l2Edge_any S d1 c0 c1 x2 x3 n W H1 (h1.ext hW) hc0
  obtain ⟨a3, l3, cap3, rfl⟩ := hc
  have HP : Hid (∀ r0 r1 : Option Nat, findO (fun i => (d0.at! i 0).int! == n) d0.len! = r0 → findO (fun i => (d1.at! i 0).int! == n) d1.len! = r1 → propsAt d0 d1 k n = if k = 5 then r0.map (fun i => d0.at! i 2) else if k = 6 then r1.map (fun i => d1.at! i 4) else none) := fun r0 r1 e0 e1 => by subst e0 e1; rfl
  generalize propsAt d0 d1 k n = PA at HP
  simp only [findI_O] at hnode hedge
  have hl0 := @findO_lt (fun i => (d0.at! i 0).int! == n) d0.len!
  have hl1 := @findO_lt (fun i => (d1.at! i 0).int! == n) d1.len!
  generalize hr0 : findO (fun i => (d0.at! i 0).int! == n) d0.len! = r0 at *
  generalize hr1 : findO (fun i => (d1.at! i 0).int! == n) d1.len! = r1 at *
  have HP : Hid (PA = if k = 5 then r0.map (fun i => d0.at! i 2) else if k = 6 then r1.map (fun i => d1.at! i 4) else none) := HP.out r0 r1 rfl rfl
  obtain ⟨len0, f0, rfl, HR0⟩ := H0.list
  obtain ⟨len1, f1, rfl, HR1⟩ := H1.list
  change DIn S w (.list 3 len0 f0) c0 at h0
  change DIn S w (.list 5 len1 f1) c1 at h1
  have HP : Hid (PA = if k = 5 then r0.map (fun i => f0 i 2) else if k = 6 then r1.map (fun i => f1 i 4) else none) := HP.out
  have hl0 : ∀ {k : Nat}, r0 = some k → k < len0 := fun h => (hl0 h).1
  have hl1 : ∀ {k : Nat}, r1 = some k → k < len1 := fun h => (hl1 h).1
  have h0' := h0
  have h1' := h1
  obtain ⟨a0, cap0, rfl, hm0⟩ := h0.list_eq
  obtain ⟨a1, cap1, rfl, hm1⟩ := h1.list_eq
  unfold maxLen at hm0 hm1
  have hnode := fun (W : World) (hW : Ext w W) => hnode W hW ⟨_, _, _, rfl⟩
  have hedge := fun (W : World) (hW : Ext w W) => hedge W hW ⟨_, _, _, rfl⟩
  clear hr0 hr1 HR0 HR1 H0 H1 h0 h1
  generalize hG : (Obj.cells #[.slice a0 len0 cap0, .slice a1 len1 cap1, .int .i64 x2, .int .i64 x3] 38) = oG
  generalize hV : (Obj.cells #[.int .i64 k, .int .i64 n, .string t, .slice a3 l3 cap3] 33) = oV
  have hEg : Ext w (w.alloc oG) := (Ext.refl _).alloc _
  have hE0 : Ext w ((w.alloc oG).alloc oV) := ((Ext.refl _).alloc _).alloc _
  have hbx : ∀ W, Ext ((w.alloc oG).alloc oV) W → (W.cell? ⟨w.heap.size, 0, none⟩ = some (.slice a0 len0 cap0) ∧ W.cell? ⟨w.heap.size, 1, none⟩ = some (.slice a1 len1 cap1) ∧ W.cell? ⟨w.heap.size, 2, none⟩ = some (.int .i64 x2) ∧ W.cell? ⟨w.heap.size, 3, none⟩ = some (.int .i64 x3)) ∧ W.cell? ⟨w.heap.size + 1, 0, none⟩ = some (.int .i64 k) ∧ W.cell? ⟨w.heap.size + 1, 1, none⟩ = some (.int .i64 n) := by
    intro W hW
    have hz : (w.alloc oG).heap.size = w.heap.size + 1 := by simp
    have hA : Ext (w.alloc oG) W := ((Ext.refl _).alloc _).trans hW
    subst hG hV
    refine ⟨⟨box_cell hA 0 _ rfl, box_cell hA 1 _ rfl, box_cell hA 2 _ rfl, box_cell hA 3 _ rfl⟩, ?_, ?_⟩
    · rw [← hz]; exact box_cell hW 0 _ rfl
    · rw [← hz]; exact box_cell hW 1 _ rfl
  go_enter Tryz.func42, Tryz.ntmps42
  go_upto_region 1 with fail
  generalize hW0 : (w.alloc oG).alloc oV = W0 at *
  clear hW0 hG hV
  obtain ⟨⟨p0, p1, p2, p3⟩, q0, q1⟩ := hbx _ (Ext.refl _)
  have step : ∀ W1 W2, Ext W0 W1 → Ext W1 W2 → True := fun _ _ _ _ => trivial
  clear step
  go_upto_region 3 with (first
    | (go_at_call 40; refine (hnode _ hE0).mono ?_; rintro e w1 ⟨rfl, hE1⟩; clear p0 p1 p2 p3 q0 q1; obtain ⟨⟨p0, p1, p2, p3⟩, q0, q1⟩ := hbx _ hE1)
    | (go_at_call 64; refine (hedge _ (hE0.trans hE1)).mono ?_; rintro e w2 ⟨rfl, hE2⟩; clear p0 p1 p2 p3 q0 q1; obtain ⟨⟨p0, p1, p2, p3⟩, q0, q1⟩ := hbx _ (hE1.trans hE2)))
  clear hnode hedge
  have hE := hE0.trans (hE1.trans hE2)
  by_cases k5 : k = 5
  · subst k5
    have HP : Hid (PA = r0.map (fun i => f0 i 2)) := by show _ = _; rw [HP.out]; rfl
    cases hr0 : r0 with
    | none =>
      have HPn : Hid (PA = none) := by show _ = _; rw [HP.out, hr0]; rfl
      cases hr1 : r1
      all_goals
        go_wp2
        go_ret2
        exact OfPost.mk _ _ _ (fun d h => (by rw [HPn.out] at h; cases h)) (fun _ => ⟨_, _, rfl⟩) (hE.alloc _)
    | some i =>
      have hi := hl0 hr0
      obtain ⟨cap2, b, off, C, hsl, _, hb, ec, hx⟩ := (h0'.ext hE).at hi
      cases hsl
      have e2 := ec 2 (by decide)
      have HD : Hid (DIn S w2 (f0 i 2) (C 2)) := hx 2 (by decide)
      have HPs : Hid (PA = some (f0 i 2)) := by show _ = _; rw [HP.out, hr0]; rfl
      clear ec hx
      cases hr1 : r1
      all_goals
        go_wp2
        go_ret2
        exact OfPost.mk _ _ _ (fun d h => (by rw [HPs.out] at h; cases h; exact HD.out)) (fun h => (by rw [HPs.out] at h; cases h)) hE
  · have b5 : (k == 5) = false := by simp [k5]
    by_cases k6 : k = 6
    · subst k6
      have HP : Hid (PA = r1.map (fun i => f1 i 4)) := by show _ = _; rw [HP.out]; rfl
      cases hr1 : r1 with
      | none =>
        have HPn : Hid (PA = none) := by show _ = _; rw [HP.out, hr1]; rfl
        clear b5 k5
        cases hr0 : r0
        all_goals
          go_wp2
          go_ret2
          exact OfPost.mk _ _ _ (fun d h => (by rw [HPn.out] at h; cases h)) (fun _ => ⟨_, _, rfl⟩) (hE.alloc _)
      | some i =>
        have hi := hl1 hr1
        obtain ⟨cap2, b, off, C, hsl, _, hb, ec, hx⟩ := (h1'.ext hE).at hi
        cases hsl
        have e2 := ec 4 (by decide)
        have HD : Hid (DIn S w2 (f1 i 4) (C 4)) := hx 4 (by decide)
        have HPs : Hid (PA = some (f1 i 4)) := by show _ = _; rw [HP.out, hr1]; rfl
        clear ec hx b5 k5
        cases hr0 : r0
        all_goals
          go_wp2
          go_ret2
          exact OfPost.mk _ _ _ (fun d h => (by rw [HPs.out] at h; cases h; exact HD.out)) (fun h => (by rw [HPs.out] at h; cases h)) hE
    · have b6 : (k == 6) = false := by simp [k6]
      have HPn : Hid (PA = none) := by show _ = _; rw [HP.out, if_neg k5, if_neg k6]
      clear k5 k6
      cases hr0 : r0 <;> cases hr1 : r1
      all_goals
        go_wp2
        go_ret2
        exact OfPost.mk _ _ _ (fun d h => (by rw [HPn.out] at h; cases h)) (fun _ => ⟨_, _, rfl⟩) (hE.alloc _)
end Go.Proofs.YtggnfhicgpleeaaGreat
