/- What spec.l2Of answers, where the lists of its props are known to lie. -/
import Derived.Test.YteijgejpenlgjaaGreatPgSpec
import Derived.Test.YteijgejpenlgjaaGreatPsX
import Derived.Test.YteijgejpenlgjaaGreatSpC
import Derived.Test.YteijgejpenlgjaaGreatPsStep
import Derived.Test.YteijgejpenlgjaaGreatGSpec3
namespace Go.Proofs.YteijgejpenlgjaaGreat
open Go.RowKit Go.Deep

inductive OfPostZ (PA : Option D) (Z : Nat → Prop) (w : World) : Ending → World → Prop
 | mk (u : Value) (b : Bool) (w' : World) (hb : b = PA.isSome) (h1 : ∀ d, PA = some d → DIn Z w' d u) (h2 : PA = none → ∃ a c, u = .slice a 0 c) (hE : Ext w w') : OfPostZ PA Z w (.returned (.tuple #[u, .bool b])) w'
set_option maxHeartbeats 2000000 in
theorem l2Of_z (S Z : Nat → Prop) (d0 d1 : D) (c0 c1 c3' : Value) (x2 x3 k n : Int) (t : ByteArray) (w : World) (H0 : Has d0 (.list 4)) (h0 : DIn S w d0 c0) (H1 : Has d1 (.list 5)) (h1 : DIn S w d1 c1) (hc : ∃ a l c, c3' = .slice a l c)
  (hZ0 : ∀ W, Ext w W → ∀ i, i < d0.len! → ∀ b off l c v, c0 = .slice (some ⟨b, off, none⟩) l c → W.cell? ⟨b, off + i * 3 + 2, none⟩ = some v → DIn Z W (d0.at! i 2) v) (hZ1 : ∀ W, Ext w W → ∀ i, i < d1.len! → ∀ b off l c v, c1 = .slice (some ⟨b, off, none⟩) l c → W.cell? ⟨b, off + i * 5 + 4, none⟩ = some v → DIn Z W (d1.at! i 4) v) :
  Calls Tryz.prog 46 #[.agg #[c0, c1, .int .i64 x2, .int .i64 x3], .agg #[.int .i64 k, .int .i64 n, .string t, c3']] w (OfPostZ (propsAt d0 d1 k n) Z w) := by
 have hnode := fun (W : World) (hW : Ext w W) (hc1 : ∃ a l c, c1 = .slice a l c) => l2Node_any S d0 c0 c1 x2 x3 n W H0 (h0.ext hW) hc1
 have hedge := fun (W : World) (hW : Ext w W) (hc0 : ∃ a l c, c0 = .slice a l c) => l2Edge_any S d1 c0 c1 x2 x3 n W H1 (h1.ext hW) hc0
 obtain ⟨a3, l3, cap3, rfl⟩ := hc
 have HP : Hid (∀ r0 r1 : Option Nat, findO (fun i => (d0.at! i 0).int! == n) d0.len! = r0 → findO (fun i => (d1.at! i 0).int! == n) d1.len! = r1 → propsAt d0 d1 k n = if k = 5 then r0.map (fun i => d0.at! i 2) else if k = 6 then r1.map (fun i => d1.at! i 4) else none) := fun r0 r1 e0 e1 => by subst e0 e1; rfl
 generalize propsAt d0 d1 k n = PA at HP
 simp only [findI_O] at hnode hedge
 have hl0 := @findO_lt (fun i => (d0.at! i 0).int! == n) d0.len!
 have hl1 := @findO_lt (fun i => (d1.at! i 0).int! == n) d1.len!
 generalize hr0 : findO (fun i => (d0.at! i 0).int! == n) d0.len! = r0 at *
 generalize hr1 : findO (fun i => (d1.at! i 0).int! == n) d1.len! = r1 at *
 have HP : Hid (PA = if k = 5 then r0.map (fun i => d0.at! i 2) else if k = 6 then r1.map (fun i => d1.at! i 4) else none) := HP.out r0 r1 rfl rfl
 obtain ⟨len0, f0, rfl, HR0⟩ := H0.list
 obtain ⟨len1, f1, rfl, HR1⟩ := H1.list
 change DIn S w (.list 3 len0 f0) c0 at h0
 change DIn S w (.list 5 len1 f1) c1 at h1
 have HP : Hid (PA = if k = 5 then r0.map (fun i => f0 i 2) else if k = 6 then r1.map (fun i => f1 i 4) else none) := HP.out
 have hl0 : ∀ {k : Nat}, r0 = some k → k < len0 := fun h => (hl0 h).1
 have hl1 : ∀ {k : Nat}, r1 = some k → k < len1 := fun h => (hl1 h).1
 have hZ0' : ∀ W, Ext w W → ∀ i, i < len0 → ∀ b off l c v, c0 = .slice (some ⟨b, off, none⟩) l c → W.cell? ⟨b, off + i * 3 + 2, none⟩ = some v → DIn Z W (f0 i 2) v := hZ0
 have hZ1' : ∀ W, Ext w W → ∀ i, i < len1 → ∀ b off l c v, c1 = .slice (some ⟨b, off, none⟩) l c → W.cell? ⟨b, off + i * 5 + 4, none⟩ = some v → DIn Z W (f1 i 4) v := hZ1
 clear hZ0 hZ1
 have h0' := h0
 have h1' := h1
 obtain ⟨a0, cap0, rfl, hm0⟩ := h0.list_eq
 obtain ⟨a1, cap1, rfl, hm1⟩ := h1.list_eq
 unfold maxLen at hm0 hm1
 have hnode := fun (W : World) (hW : Ext w W) => hnode W hW ⟨_, _, _, rfl⟩
 have hedge := fun (W : World) (hW : Ext w W) => hedge W hW ⟨_, _, _, rfl⟩
 clear hr0 hr1 HR0 HR1 H0 H1 h0 h1
 generalize hG : (Obj.cells #[.slice a0 len0 cap0, .slice a1 len1 cap1, .int .i64 x2, .int .i64 x3] 34) = oG
 generalize hV : (Obj.cells #[.int .i64 k, .int .i64 n, .string t, .slice a3 l3 cap3] 40) = oV
 have hEg : Ext w (w.alloc oG) := (Ext.refl _).alloc _
 have hE0 : Ext w ((w.alloc oG).alloc oV) := ((Ext.refl _).alloc _).alloc _
 have hbx : ∀ W, Ext ((w.alloc oG).alloc oV) W → (W.cell? ⟨w.heap.size, 0, none⟩ = some (.slice a0 len0 cap0) ∧ W.cell? ⟨w.heap.size, 1, none⟩ = some (.slice a1 len1 cap1) ∧ W.cell? ⟨w.heap.size, 2, none⟩ = some (.int .i64 x2) ∧ W.cell? ⟨w.heap.size, 3, none⟩ = some (.int .i64 x3)) ∧ W.cell? ⟨w.heap.size + 1, 0, none⟩ = some (.int .i64 k) ∧ W.cell? ⟨w.heap.size + 1, 1, none⟩ = some (.int .i64 n) := by
  intro W hW
  have hz : (w.alloc oG).heap.size = w.heap.size + 1 := by simp
  have hA : Ext (w.alloc oG) W := ((Ext.refl _).alloc _).trans hW
  subst hG hV
  refine ⟨⟨box_cell hA 0 _ rfl, box_cell hA 1 _ rfl, box_cell hA 2 _ rfl, box_cell hA 3 _ rfl⟩, ?_, ?_⟩
  ·
   rw [← hz]; exact box_cell hW 0 _ rfl
  ·
   rw [← hz]; exact box_cell hW 1 _ rfl
 go_enter Tryz.func46, Tryz.ntmps46
 go_upto_region 1 with fail
 generalize hW0 : (w.alloc oG).alloc oV = W0 at *
 clear hW0 hG hV
 obtain ⟨⟨p0, p1, p2, p3⟩, q0, q1⟩ := hbx _ (Ext.refl _)
 have step : ∀ W1 W2, Ext W0 W1 → Ext W1 W2 → True := fun _ _ _ _ => trivial
 clear step
 go_upto_region 3 with (first
  | (go_at_call 43; refine (hnode _ hE0).mono ?_; rintro e w1 ⟨rfl, hE1⟩; clear p0 p1 p2 p3 q0 q1; obtain ⟨⟨p0, p1, p2, p3⟩, q0, q1⟩ := hbx _ hE1)
  | (go_at_call 48; refine (hedge _ (hE0.trans hE1)).mono ?_; rintro e w2 ⟨rfl, hE2⟩; clear p0 p1 p2 p3 q0 q1; obtain ⟨⟨p0, p1, p2, p3⟩, q0, q1⟩ := hbx _ (hE1.trans hE2)))
 clear hnode hedge
 have hE := hE0.trans (hE1.trans hE2)
 by_cases k5 : k = 5
 ·
  subst k5
  have HP : Hid (PA = r0.map (fun i => f0 i 2)) := by show _ = _; rw [HP.out]; rfl
  cases hr0 : r0 with
  | none =>
   have HPn : Hid (PA = none) := by show _ = _; rw [HP.out, hr0]; rfl
   cases hr1 : r1
   all_goals
    go_wp2
    go_ret2
    exact OfPostZ.mk _ _ _ (by rw [HPn.out]; rfl) (fun d h => (by rw [HPn.out] at h; cases h)) (fun _ => ⟨_, _, rfl⟩) (hE.alloc _)
  | some i =>
   have hi := hl0 hr0
   obtain ⟨cap2, b, off, C, hsl, _, hb, ec, hx⟩ := (h0'.ext hE).at hi
   cases hsl
   have e2 := ec 2 (by decide)
   have HD : Hid (DIn Z w2 (f0 i 2) (C 2)) := hZ0' w2 hE i hi _ _ _ _ _ rfl e2
   have HPs : Hid (PA = some (f0 i 2)) := by show _ = _; rw [HP.out, hr0]; rfl
   clear ec hx hZ0' hZ1'
   cases hr1 : r1
   all_goals
    go_wp2
    go_ret2
    exact OfPostZ.mk _ _ _ (by rw [HPs.out]; rfl) (fun d h => (by rw [HPs.out] at h; cases h; exact HD.out)) (fun h => (by rw [HPs.out] at h; cases h)) hE
 ·
  have b5 : (k == 5) = false := by simp [k5]
  by_cases k6 : k = 6
  ·
   subst k6
   have HP : Hid (PA = r1.map (fun i => f1 i 4)) := by show _ = _; rw [HP.out]; rfl
   cases hr1 : r1 with
   | none =>
    have HPn : Hid (PA = none) := by show _ = _; rw [HP.out, hr1]; rfl
    clear b5 k5
    cases hr0 : r0
    all_goals
     go_wp2
     go_ret2
     exact OfPostZ.mk _ _ _ (by rw [HPn.out]; rfl) (fun d h => (by rw [HPn.out] at h; cases h)) (fun _ => ⟨_, _, rfl⟩) (hE.alloc _)
   | some i =>
    have hi := hl1 hr1
    obtain ⟨cap2, b, off, C, hsl, _, hb, ec, hx⟩ := (h1'.ext hE).at hi
    cases hsl
    have e2 := ec 4 (by decide)
    have HD : Hid (DIn Z w2 (f1 i 4) (C 4)) := hZ1' w2 hE i hi _ _ _ _ _ rfl e2
    have HPs : Hid (PA = some (f1 i 4)) := by show _ = _; rw [HP.out, hr1]; rfl
    clear ec hx b5 k5 hZ0' hZ1'
    cases hr0 : r0
    all_goals
     go_wp2
     go_ret2
     exact OfPostZ.mk _ _ _ (by rw [HPs.out]; rfl) (fun d h => (by rw [HPs.out] at h; cases h; exact HD.out)) (fun h => (by rw [HPs.out] at h; cases h)) hE
  ·
   have b6 : (k == 6) = false := by simp [k6]
   have HPn : Hid (PA = none) := by show _ = _; rw [HP.out, if_neg k5, if_neg k6]
   clear k5 k6
   cases hr0 : r0 <;> cases hr1 : r1
   all_goals
    go_wp2
    go_ret2
    exact OfPostZ.mk _ _ _ (by rw [HPn.out]; rfl) (fun d h => (by rw [HPn.out] at h; cases h)) (fun _ => ⟨_, _, rfl⟩) (hE.alloc _)
end Go.Proofs.YteijgejpenlgjaaGreat

/- What spec.l2Put answers. -/
namespace Go.Proofs.YteijgejpenlgjaaGreat
open Go.RowKit Go.Deep

theorem setP_gt {l : List PRow} {s : ByteArray} {p : List PRow} {r : PRow} (h1 : Op.bytesLess (nmR r) s.toList = false) (h2 : Op.bytesLess s.toList (nmR r) = true) : setP (l ++ [r]) s p = setP l s p ++ [r] := by
 simp [setP, List.filter_append, h1, h2]
theorem setP_eq {l : List PRow} {s : ByteArray} {p : List PRow} {r : PRow} (h1 : Op.bytesLess (nmR r) s.toList = false) (h2 : Op.bytesLess s.toList (nmR r) = false) : setP (l ++ [r]) s p = setP l s p := by
 simp [setP, List.filter_append, h1, h2]
theorem low_gt {l : List PRow} {s : ByteArray} (h : ∀ r ∈ l, Op.bytesLess (nmR r) s.toList = true) : l.filter (fun r => Op.bytesLess s.toList (nmR r)) = [] := List.filter_eq_nil_iff.2 fun a ha => by
 rw [bl_asymm _ _ (h a ha)]
 simp
theorem low_lt {l : List PRow} {s : ByteArray} (h : ∀ r ∈ l, Op.bytesLess (nmR r) s.toList = true) : l.filter (fun r => Op.bytesLess (nmR r) s.toList) = l := List.filter_eq_self.2 h
theorem setP_low {l : List PRow} {s : ByteArray} {p : List PRow} (h : ∀ r ∈ l, Op.bytesLess (nmR r) s.toList = true) : setP l s p = l ++ p := by
 rw [setP, low_gt h, low_lt h, List.append_nil]
theorem take_next {α : Type} {l : List α} {j : Nat} (h : j < l.length) : l.take (j + 1) = l.take j ++ [l[j]] := by
 rw [List.take_add_one, List.getElem?_eq_getElem h]
 rfl
/-- All before one that is before a name are before it. -/
theorem asc_low {l : List PRow} (h : AscP l) {s : ByteArray} {j : Nat} (hj : j < l.length) (hlt : Op.bytesLess (nmR l[j]) s.toList = true) : ∀ r ∈ l.take j, Op.bytesLess (nmR r) s.toList = true := by
 intro r hr
 obtain ⟨q, hq, rfl⟩ := List.mem_iff_getElem.1 hr
 rw [List.length_take] at hq
 rw [List.getElem_take]
 exact bl_trans _ _ _ (ascP_lt h (by omega) hj (by omega)) hlt
/-- All behind one that is not before a name are not before it. -/
theorem asc_up {l : List PRow} (h : AscP l) {s : ByteArray} {j : Nat} (hj : j < l.length) (hlt : Op.bytesLess (nmR l[j]) s.toList = false) : ∀ i (hi : i < l.length), j ≤ i → Op.bytesLess (nmR l[i]) s.toList = false := by
 intro i hi hij
 rcases Nat.lt_or_ge j i with h1 | h1
 ·
  cases hb : Op.bytesLess (nmR l[i]) s.toList
  ·
   rfl
  ·
   rw [bl_trans _ _ _ (ascP_lt h hj hi h1) hb] at hlt
   cases hlt
 ·
  obtain rfl : j = i := by omega
  exact hlt
theorem one_src {Z : Nat → Prop} {W : World} {r : PRow} {cs : List Value} (h : RowZ Z W [r] cs) : SrcZ Z (W.alloc (.cells cs.toArray 127)) (.slice (some ⟨W.heap.size, 0, none⟩) 1 1) [r] :=
 ⟨_, 1, cs, rfl, h.ext ((Ext.refl _).alloc _), .inr ⟨W.heap.size, 0, rfl, by simp, fun j u hu => by rw [Nat.zero_add]; exact box_cell (Ext.refl _) j u (by simpa using hu)⟩⟩
theorem putP_one {s : ByteArray} {k n : Int} {t : ByteArray} {d3 : D} (hk : k ≠ 0) : putP s k n t d3 = [fun j => if j = 0 then .str s else if j = 1 then .int k else if j = 2 then .int n else if j = 3 then .str t else d3] := by rw [putP, if_neg hk]
theorem putP_row {Z : Nat → Prop} {W : World} {s : ByteArray} {k n : Int} {t : ByteArray} {d3 : D} {c3 : Value} (zs : s.size ≤ maxLen) (zk : (Lit.int .i64 k).wf = true) (zn : (Lit.int .i64 n).wf = true) (zt : t.size ≤ maxLen) (h3 : DIn Z W d3 c3) :
  RowZ Z W [fun j => if j = 0 then .str s else if j = 1 then .int k else if j = 2 then .int n else if j = 3 then .str t else d3] [.string s, .int .i64 k, .int .i64 n, .string t, c3] := by
 refine ⟨rfl, fun i r hr j hj => ?_⟩
 have hi : i < 1 := (List.getElem?_eq_some_iff.1 hr).1
 obtain rfl : i = 0 := by omega
 simp only [List.getElem?_cons_zero, Option.some.injEq] at hr
 subst hr
 rcases (by omega : j = 0 ∨ j = 1 ∨ j = 2 ∨ j = 3 ∨ j = 4) with rfl | rfl | rfl | rfl | rfl
 ·
  exact ⟨_, rfl, rfl, zs⟩
 ·
  exact ⟨_, rfl, rfl, zk⟩
 ·
  exact ⟨_, rfl, rfl, zn⟩
 ·
  exact ⟨_, rfl, rfl, zt⟩
 ·
  exact ⟨_, rfl, h3⟩
/-- One prop of a slice: its cells. -/
theorem SrcZ.at {Z : Nat → Prop} {w : World} {p : Option Addr} {c : Nat} {l : List PRow} (h : SrcZ Z w (.slice p l.length c) l) (hR : ∀ r ∈ l, HasRow 3 r) {j : Nat} (hj : j < l.length) :
  ∃ b off x0 x1 x2 x3 a4 l4 c4, p = some ⟨b, off, none⟩ ∧ (∀ W, Ext w W → W.cell? ⟨b, off + j * 5, none⟩ = some (.string x0) ∧ W.cell? ⟨b, off + j * 5 + 1, none⟩ = some (.int .i64 x1) ∧ W.cell? ⟨b, off + j * 5 + 2, none⟩ = some (.int .i64 x2) ∧ W.cell? ⟨b, off + j * 5 + 3, none⟩ = some (.string x3) ∧ W.cell? ⟨b, off + j * 5 + 4, none⟩ = some (.slice a4 l4 c4)) ∧ nmR l[j] = x0.toList ∧ RowZ Z w [l[j]] [.string x0, .int .i64 x1, .int .i64 x2, .string x3, .slice a4 l4 c4] := by
 obtain ⟨p', c', cs, e, hr, h2⟩ := h
 injection e with e1 _ e3
 subst e1 e3
 rcases h2 with rfl | ⟨b, off, rfl, hb, hcs⟩
 ·
  simp at hj
 have HR := hR _ (List.getElem_mem hj)
 have key : ∀ q, q < 5 → ∃ v, w.cell? ⟨b, off + (j * 5 + q), none⟩ = some v ∧ DIn Z w (l[j] q) v := fun q hq => by
  obtain ⟨v, h1, h2⟩ := hr.2 j _ (List.getElem?_eq_getElem hj) q hq
  exact ⟨v, hcs _ _ h1, h2⟩
 obtain ⟨v0, e0, k0⟩ := key 0 (by decide)
 obtain ⟨v1, e1, k1⟩ := key 1 (by decide)
 obtain ⟨v2, e2, k2⟩ := key 2 (by decide)
 obtain ⟨v3, e3, k3⟩ := key 3 (by decide)
 obtain ⟨v4, e4, k4⟩ := key 4 (by decide)
 have k0' := k0
 have k1' := k1
 have k2' := k2
 have k3' := k3
 obtain ⟨x0, d0⟩ := (show Has (l[j] 0) .str from HR 0 (by decide)).str
 obtain ⟨x1, d1⟩ := (show Has (l[j] 1) .int from HR 1 (by decide)).int
 obtain ⟨x2, d2⟩ := (show Has (l[j] 2) .int from HR 2 (by decide)).int
 obtain ⟨x3, d3⟩ := (show Has (l[j] 3) .str from HR 3 (by decide)).str
 rw [d0] at k0'
 rw [d1] at k1'
 rw [d2] at k2'
 rw [d3] at k3'
 rw [k0'.str_eq.1] at e0 k0
 rw [k1'.int_eq.1] at e1 k1
 rw [k2'.int_eq.1] at e2 k2
 rw [k3'.str_eq.1] at e3 k3
 obtain ⟨a4, c4, l4, _, _, hv4, _, _⟩ := list_shape (show Has (l[j] 4) (.list 2) from HR 4 (by decide)) k4
 rw [hv4] at e4 k4
 refine ⟨b, off, x0, x1, x2, x3, a4, l4, c4, rfl, fun W hW => ⟨?_, ?_, ?_, ?_, ?_⟩, by unfold nmR; rw [d0]; rfl, rfl, fun i r hr2 q hq => ?_⟩
 ·
  rw [hW.cell hb]; exact e0
 ·
  rw [hW.cell hb]; exact e1
 ·
  rw [hW.cell hb]; exact e2
 ·
  rw [hW.cell hb]; exact e3
 ·
  rw [hW.cell hb]; exact e4
 ·
  have hi : i < 1 := (List.getElem?_eq_some_iff.1 hr2).1
  obtain rfl : i = 0 := by omega
  simp only [List.getElem?_cons_zero, Option.some.injEq] at hr2
  subst hr2
  rcases (by omega : q = 0 ∨ q = 1 ∨ q = 2 ∨ q = 3 ∨ q = 4) with rfl | rfl | rfl | rfl | rfl
  ·
   exact ⟨_, rfl, k0⟩
  ·
   exact ⟨_, rfl, k1⟩
  ·
   exact ⟨_, rfl, k2⟩
  ·
   exact ⟨_, rfl, k3⟩
  ·
   exact ⟨_, rfl, k4⟩
theorem DIn.low {S : Nat → Prop} {w : World} : ∀ {d : D} {v : Value}, DIn S w d v → DIn (fun x => S x ∧ x < w.heap.size) w d v := by
 intro d
 induction d with
 | int n => exact fun h => h
 | bool b => exact fun h => h
 | str s => exact fun h => h
 | list n len f ih =>
  rintro v ⟨a, cap, b, off, hv, hl, ha, hc⟩
  refine ⟨a, cap, b, off, hv, hl, fun h0 => ⟨(ha h0).1, ⟨(ha h0).2.1, (ha h0).2.2⟩, (ha h0).2.2⟩, fun i hi j hj => ?_⟩
  obtain ⟨c, h1, h2⟩ := hc i hi j hj
  exact ⟨c, h1, ih i j h2⟩
theorem RowZ.low {S : Nat → Prop} {w : World} {l : List PRow} {cs : List Value} (h : RowZ S w l cs) : RowZ (fun x => S x ∧ x < w.heap.size) w l cs := ⟨h.1, fun i r hr j hj => by
 obtain ⟨c, h1, h2⟩ := h.2 i r hr j hj
 exact ⟨c, h1, h2.low⟩⟩
/-- A row that is appended to reads as it did: no list of its props lies in its own block. -/
theorem RowZ.pushed {B : Nat} {Z : Nat → Prop} {W w3 : World} {u v' : Value} {l : List PRow} {cs : List Value} (h : RowZ (fun x => (Z x ∨ B ≤ x) ∧ u.ownBlock ≠ some x) W l cs) (hg : W.grownBy w3 u.ownBlock) (hloc : v'.ownBlock = u.ownBlock ∨ v'.ownBlock = some W.heap.size) : RowZ (fun x => (Z x ∨ B ≤ x) ∧ v'.ownBlock ≠ some x) w3 l cs := ⟨h.1, fun i r hr j hj => by
 obtain ⟨c, h1, h2⟩ := h.2 i r hr j hj
 refine ⟨c, h1, (h2.low.carry hg.size (fun b hb hlt => hg.block b hlt (fun e => hb.1.2 e.symm))).mono (fun x hx => ⟨hx.1.1, fun e => ?_⟩)⟩
 rcases hloc with e2 | e2
 ·
  exact hx.1.2 (e2 ▸ e)
 ·
  rw [e2] at e
  cases e
  exact absurd hx.2 (Nat.lt_irrefl _)⟩
end Go.Proofs.YteijgejpenlgjaaGreat

/- What spec.l2Put answers: the walk. -/
namespace Go.Proofs.YteijgejpenlgjaaGreat
open Go.RowKit Go.Deep

/-- What stands in the row after j props: the new one stands in it or not yet. -/
def outL (L : List PRow) (s : ByteArray) (P : List PRow) (j : Nat) (b : Bool) : List PRow := setP (L.take j) s (if b then P else [])
theorem outL_len (L : List PRow) (s : ByteArray) (P : List PRow) (hP : P.length ≤ 1) (hL : L.length ≤ 4) (j : Nat) (b : Bool) : (outL L s P j b).length ≤ 9 := by
 have h1 := setP_len (L.take j) s (if b then P else [])
 have h2 : (if b then P else []).length ≤ 1 := by cases b <;> simp [hP]
 have h3 : (L.take j).length ≤ 4 := by rw [List.length_take]; omega
 unfold outL
 omega
set_option maxRecDepth 100000 in
set_option maxHeartbeats 16000000 in
theorem l2Put_any (Z : Nat → Prop) (L : List PRow) (pv : Option Addr) (cv : Nat) (d3 : D) (H3 : Has d3 (.list 2)) (s3 : SmallD d3) (s : ByteArray) (k n : Int) (t : ByteArray) (c3 : Value) (S3 : Nat → Prop) (w : World) (hv : SrcZ Z w (.slice pv L.length cv) L) (hL : L.length ≤ 4) (hR : ∀ r ∈ L, HasRow 3 r) (hasc : AscP L) (h3 : DIn S3 w d3 c3)
  (zs : s.size ≤ maxLen) (zk : (Lit.int .i64 k).wf = true) (zn : (Lit.int .i64 n).wf = true) (zt : t.size ≤ maxLen) :
  Calls Tryz.prog 47 #[.slice pv L.length cv, .string s, .agg #[.int .i64 k, .int .i64 n, .string t, c3]] w fun e w' => ∃ a c cs, e = .returned (.slice a (setP L s (putP s k n t d3)).length c) ∧ w'.ownsRow w.heap.size 127 5 (.slice a (setP L s (putP s k n t d3)).length c) (setP L s (putP s k n t d3)).length cs ∧ RowZ (fun x => Z x ∨ w.heap.size ≤ x) w' (setP L s (putP s k n t d3)) cs ∧ Ext w w' := by
 have hcp := fun (W : World) (hW : Ext w W) => l1Copy_D d3 H3 s3 S3 k n t c3 W (h3.ext hW)
 have hP1 := putP_len s k n t d3
 have hP0 : k = 0 → putP s k n t d3 = [] := fun h => by rw [putP, if_pos h]
 have hPk : k ≠ 0 → ∀ (Z' : Nat → Prop) W u, DIn Z' W d3 u → ∃ r, putP s k n t d3 = [r] ∧ RowZ Z' W [r] [.string s, .int .i64 k, .int .i64 n, .string t, u] := fun h Z' W u hu => ⟨_, putP_one h, putP_row zs zk zn zt hu⟩
 obtain ⟨a3, p3, l3, _, hq, hc3, _, _⟩ := list_shape H3 h3
 subst hc3
 clear hq h3
 generalize putP s k n t d3 = P at *
 have hlen := fun j b => outL_len L s P hP1 hL j b
 have hPk := (show Hid _ from hPk)
 have hP0 := (show Hid _ from hP0)
 have hat : Hid (∀ j (hj : j < L.length), _) := fun j hj => hv.at hR hj
 obtain ⟨w0, hw0⟩ : ∃ w0, w0 = w.alloc (.cells #[.int .i64 k, .int .i64 n, .string t, .slice a3 l3 p3] 40) := ⟨_, rfl⟩
 have hE0 : Ext w w0 := by rw [hw0]; exact (Ext.refl _).alloc _
 have HK : Hid (∀ W, Ext w0 W → W.cell? ⟨w.heap.size, 0, none⟩ = some (.int .i64 k) ∧ W.cell? ⟨w.heap.size, 1, none⟩ = some (.int .i64 n) ∧ W.cell? ⟨w.heap.size, 2, none⟩ = some (.string t) ∧ W.cell? ⟨w.heap.size, 3, none⟩ = some (.slice a3 l3 p3)) := fun W hW => by
  rw [hw0] at hW
  exact ⟨box_cell hW 0 _ rfl, box_cell hW 1 _ rfl, box_cell hW 2 _ rfl, box_cell hW 3 _ rfl⟩
 have hmade : (w0.alloc (.cells #[] 127)).ownsRow w0.heap.size 127 5 (.slice (some ⟨w0.heap.size, 0, none⟩) 0 0) 0 [] := World.ownsRow_made (e := 127) (size := 5) (base := w0.heap.size) w0 #[] 0 (Nat.le_refl _) (Nat.zero_le _) (by simp)
 have hE1 : Ext w0 (w0.alloc (.cells #[] 127)) := (Ext.refl _).alloc _
 have hstart : ∀ b, outL L s P 0 b = if b then P else [] := fun b => by simp [outL, setP]
 clear hv hR
 obtain ⟨q0, q1, q2, q3⟩ := HK.out _ hE1
 have hstep : Hid (∀ j (hj : j < L.length) b, (b = true → k = 0 ∨ ∀ i (hi : i < L.length), j ≤ i → Op.bytesLess (nmR L[i]) s.toList = false) → (Op.bytesLess (nmR L[j]) s.toList = true → b = true → k = 0) → (nmR L[j] == s.toList) = false → outL L s P (j + 1) b = outL L s P j b ++ [L[j]]) := fun j hj b h1 h2 hne => by
  unfold outL
  rw [take_next hj]
  cases hlt : Op.bytesLess (nmR L[j]) s.toList
  ·
   have hgt : Op.bytesLess s.toList (nmR L[j]) = true := by
    cases hb : Op.bytesLess s.toList (nmR L[j])
    ·
     have e := bl_total _ _ hlt hb
     rw [e] at hne
     simp at hne
    ·
     rfl
   exact setP_gt hlt hgt
  ·
   have hlow := asc_low hasc hj hlt
   have hlow2 : ∀ r ∈ L.take j ++ [L[j]], Op.bytesLess (nmR r) s.toList = true := fun r hr => by
    rcases List.mem_append.1 hr with h | h
    ·
     exact hlow r h
    ·
     rw [List.mem_singleton] at h; rw [h]; exact hlt
   have hp : (if b then P else []) = [] := by
    cases b
    ·
     rfl
    ·
     exact hP0.out (h2 hlt rfl)
   rw [hp, setP_low hlow, setP_low hlow2, List.append_nil, List.append_nil]
 have hsame : Hid (∀ j (hj : j < L.length) b, (nmR L[j] == s.toList) = true → outL L s P (j + 1) b = outL L s P j b) := fun j hj b he => by
  unfold outL
  rw [take_next hj]
  have e : nmR L[j] = s.toList := by simpa using he
  exact setP_eq (by rw [e, bl_irrefl]) (by rw [e, bl_irrefl])
 have hputs : Hid (∀ j, (∀ r ∈ L.take j, Op.bytesLess (nmR r) s.toList = true) → outL L s P j true = outL L s P j false ++ P) := fun j h => by
  unfold outL
  rw [setP_low h, setP_low h]
  simp
 have hall : Hid (∀ b, outL L s P L.length b = setP L s (if b then P else [])) := fun b => by unfold outL; rw [List.take_length]
 have hasl : Hid (∀ j (hj : j < L.length), Op.bytesLess (nmR L[j]) s.toList = true → ∀ r ∈ L.take (j + 1), Op.bytesLess (nmR r) s.toList = true) := fun j hj hlt r hr => by
  rw [take_next hj] at hr
  rcases List.mem_append.1 hr with h | h
  ·
   exact asc_low hasc hj hlt r h
  ·
   rw [List.mem_singleton] at h; rw [h]; exact hlt
 have hasu : Hid (∀ j (hj : j < L.length), Op.bytesLess (nmR L[j]) s.toList = false → ∀ i (hi : i < L.length), j ≤ i → Op.bytesLess (nmR L[i]) s.toList = false) := fun j hj h => asc_up hasc hj h
 have hzz : w.heap.size ≤ w0.heap.size := hE0.le
 have happP : Hid (∀ (W0 W1 : World) (u : Value) (m : Nat) (l : List PRow) (us : List Value) (xa : Option Addr) (xl xc : Nat), k ≠ 0 → Ext w0 W0 → Ext W0 W1 → W0.ownsRow w0.heap.size 127 5 u m us → m ≤ 20 → RowZ (fun x => (Z x ∨ w.heap.size ≤ x) ∧ u.ownBlock ≠ some x) W0 l us → DIn (New W0.heap.size W1.heap.size) W1 d3 (.slice xa xl xc) → ∃ a' c' w3 ds, (Builtin.append_ #[79, 79] 79 #[u, .slice (some ⟨W1.heap.size, 0, none⟩) 1 1]).run Tryz.prog (W1.alloc (.cells #[.string s, .int .i64 k, .int .i64 n, .string t, .slice xa xl xc] 127)) = .ok (.slice a' (m + 1) c') w3 ∧ w3.ownsRow w0.heap.size 127 5 (.slice a' (m + 1) c') (m + 1) (us ++ ds) ∧ RowZ (fun x => (Z x ∨ w.heap.size ≤ x) ∧ (Value.slice a' (m + 1) c').ownBlock ≠ some x) w3 (l ++ P) (us ++ ds) ∧ Ext w0 w3) := fun W0 W1 u m l us xa xl xc hk hW hW1 ho hm hr hD => by
  have hz0 := hW.le
  have hWa : Ext w0 (W1.alloc (.cells #[.string s, .int .i64 k, .int .i64 n, .string t, .slice xa xl xc] 127)) := (Ext.trans hW hW1).alloc _
  have hE01 : Ext W0 (W1.alloc (.cells #[.string s, .int .i64 k, .int .i64 n, .string t, .slice xa xl xc] 127)) := hW1.alloc _
  have hoa : (W1.alloc (.cells #[.string s, .int .i64 k, .int .i64 n, .string t, .slice xa xl xc] 127)).ownsRow w0.heap.size 127 5 u m us := ho.kept hE01.grown (Classical.em _)
  obtain ⟨r, hPr, hrow⟩ := hPk.out hk (fun x => (Z x ∨ w.heap.size ≤ x) ∧ u.ownBlock ≠ some x) W1 _ (hD.mono (fun x hx => ⟨.inr (Nat.le_trans hzz (Nat.le_trans hz0 hx.1)), fun e => by have := (ho.lt x e).2; have := hx.1; omega⟩))
  obtain ⟨a', c', w3, ds, hrun, hown', hds, hgr, hloc⟩ := run_append_props _ _ (Ext.refl _) (one_src hrow) hoa (by simp) (by omega) hWa.le 79
  rw [hPr]
  exact ⟨a', c', w3, ds, hrun, hown', ((hr.ext hE01).append hds).pushed hgr hloc, Below.grown hWa hgr hWa.le (fun x hx => (hoa.lt x hx).1)⟩
 have hstH := (show Hid _ from hstart)
 clear hstart hasc
 have hk01 : k = 0 ∨ k ≠ 0 := Classical.em _
 generalize hkb : decide (k = 0) = kb at *
 have hkbH := (show Hid _ from hkb)
 go_enter Tryz.func47, Tryz.ntmps47
 go_upto_region 1 with fail
 rw [← hw0]
 clear hw0
 go_wp2
 go_loopw [7, 8, 9] (fun u dn i wr => ∃ (j : Nat) (b : Bool) (cs : List Value), j ≤ L.length ∧ i = .int .i64 j ∧ dn = .bool b ∧ wr.ownsRow w0.heap.size 127 5 u (outL L s P j b).length cs ∧ RowZ (fun x => (Z x ∨ w.heap.size ≤ x) ∧ u.ownBlock ≠ some x) wr (outL L s P j b) cs ∧ Ext w0 wr ∧ (b = false → k ≠ 0 ∧ ∀ r ∈ L.take j, Op.bytesLess (nmR r) s.toList = true) ∧ (b = true → k = 0 ∨ ∀ i (hi : i < L.length), j ≤ i → Op.bytesLess (nmR L[i]) s.toList = false)) (fun _ _ i _ => L.length - (intOf i).toNat)
 case atStart =>
  have e : outL L s P 0 (k == 0) = [] := by
   rw [hstH.out]
   cases hk : (k == 0)
   ·
    rfl
   ·
    exact hP0.out (by simpa using hk)
  exact ⟨0, (k == 0), [], Nat.zero_le _, rfl, rfl, by rw [e]; exact hmade, by rw [e]; exact RowZ.nil _ _, hE1, fun h => ⟨by simpa using h, fun r hr => by simp at hr⟩, fun h => .inl (by simpa using h)⟩
 case round =>
  clear hmade q0 q1 q2 q3 hE1
  obtain ⟨j, b, cs, hj, rfl, rfl, ho, hr, hE, hb0, hb1⟩ := hrel
  obtain ⟨ua, uc, rfl, _⟩ := ownP_shape ho
  have hE0r : Ext w wr := Ext.trans hE0 hE
  have hzr := hE0r.le
  have hn9 := hlen j b
  by_cases hlt : j < L.length
  ·
   obtain ⟨bb, off, x0, x1, x2, x3, a4, l4, c4, rfl, hcell, hnm, hrow⟩ := hat.out j hlt
   obtain ⟨e0, e1, e2, e3, e4⟩ := hcell wr hE0r
   -- the prop itself is appended to a row, at any world
   have happ : Hid (∀ (W : World) (u : Value) (m : Nat) (l : List PRow) (us : List Value), Ext w0 W → W.ownsRow w0.heap.size 127 5 u m us → m ≤ 20 → RowZ (fun x => (Z x ∨ w.heap.size ≤ x) ∧ u.ownBlock ≠ some x) W l us → ∃ a' c' w3 ds, (Builtin.append_ #[79, 79] 79 #[u, .slice (some ⟨W.heap.size, 0, none⟩) 1 1]).run Tryz.prog (W.alloc (.cells #[.string x0, .int .i64 x1, .int .i64 x2, .string x3, .slice a4 l4 c4] 127)) = .ok (.slice a' (m + 1) c') w3 ∧ w3.ownsRow w0.heap.size 127 5 (.slice a' (m + 1) c') (m + 1) (us ++ ds) ∧ RowZ (fun x => (Z x ∨ w.heap.size ≤ x) ∧ (Value.slice a' (m + 1) c').ownBlock ≠ some x) w3 (l ++ [L[j]]) (us ++ ds) ∧ Ext w0 w3) := fun W u m l us hW ho hm hr => by
    have hWa : Ext w0 (W.alloc (.cells #[.string x0, .int .i64 x1, .int .i64 x2, .string x3, .slice a4 l4 c4] 127)) := hW.alloc _
    have hoa : (W.alloc (.cells #[.string x0, .int .i64 x1, .int .i64 x2, .string x3, .slice a4 l4 c4] 127)).ownsRow w0.heap.size 127 5 u m us := ho.kept ((Ext.refl W).alloc _).grown (Classical.em _)
    have hrowW : RowZ (fun x => (Z x ∨ w.heap.size ≤ x) ∧ u.ownBlock ≠ some x) W [L[j]] [.string x0, .int .i64 x1, .int .i64 x2, .string x3, .slice a4 l4 c4] := (hrow.low.ext (Ext.trans hE0 hW)).mono (fun x hx => ⟨.inl hx.1, fun e => by have := (ho.lt x e).1; have := hx.2; omega⟩)
    obtain ⟨a', c', w3, ds, hrun, hown', hds, hgr, hloc⟩ := run_append_props _ _ (Ext.refl _) (one_src hrowW) hoa (by simp) (by omega) hWa.le 79
    exact ⟨a', c', w3, ds, hrun, hown', ((hr.ext ((Ext.refl W).alloc _)).append hds).pushed hgr hloc, Below.grown hWa hgr hWa.le (fun x hx => (hoa.lt x hx).1)⟩
   clear hrow
   have hlenS : ∀ (X Y : List PRow), X = Y ++ [L[j]] → X.length = Y.length + 1 := fun X Y h => by rw [h, List.length_append]; rfl
   cases b
   ·
    obtain ⟨hk0, hlow⟩ := hb0 rfl
    clear hb0 hb1
    cases hls : Op.bytesLess (nmR L[j]) s.toList
    ·
     have hls' : Op.bytesLess x0.toList s.toList = false := by rw [← hnm]; exact hls
     have hup := hasu.out j hlt hls
     obtain ⟨q0, q1, q2, q3⟩ := HK.out wr hE
     have hputj := hputs.out j hlow
     have hst := hstep.out j hlt true (fun _ => .inr hup) (fun h _ => by rw [hls] at h; cases h)
     have hsm := hsame.out j hlt true
     clear hstep hsame hputs hasl hasu
     go_wp2_with fail
     refine (hcp wr hE0r).mono ?_
     rintro e w1 ⟨xv, rfl, ⟨hDx, _⟩, hE1⟩
     obtain ⟨xa, xc, xl, _, hdx, hx, _, _⟩ := list_shape H3 hDx
     subst hx
     clear hdx
     obtain ⟨a5, c5, w3, ds, hrun, ho3, hr3, hE3⟩ := happP.out wr w1 _ _ _ _ xa xl xc hk0 hE hE1 ho (by omega) hr hDx
     have hst2 := (show Hid _ from hst)
     have hsm2 := (show Hid _ from hsm)
     have hpl : (outL L s P j true).length = (outL L s P j false).length + 1 := by
      rw [hputj, List.length_append]
      obtain ⟨r, hPr, _⟩ := hPk.out hk0 anyB w1 _ hDx.any
      rw [hPr]
      rfl
     rw [← hputj] at hr3
     rw [← hpl] at hrun ho3 hr3
     have hn9t := hlen j true
     have hplH := (show Hid _ from hpl)
     clear hst hsm hputj hpl ho hr
     obtain ⟨e0', e1', e2', e3', e4'⟩ := hcell w3 (Ext.trans hE0 hE3)
     have hcellH := (show Hid _ from hcell)
     clear hcell
     go_upto_region 9 with (at_builtin; refine wpList_append_ranP _ rfl _ _ rfl hrun rfl rfl ?_)
     clear q0 q1 q2 q3 e0 e1 e2 e3 e4 hrun
     cases hq : (nmR L[j] == s.toList)
     ·
      have hq' : (x0.toList == s.toList) = false := by rw [← hnm]; exact hq
      have hst := hst2.out hq
      have hln := hlenS _ _ hst
      obtain ⟨a6, c6, w5, ds5, hrun5, ho5, hr5, hE5⟩ := happ.out w3 _ _ _ _ hE3 ho3 (by omega) hr3
      rw [← hst] at hr5
      have hstH2 := (show Hid _ from hst)
      have hlnH := (show Hid _ from hln)
      clear hst hln ho3 hr3
      go_wp2_with (at_builtin; refine wpList_append_ranP _ rfl _ _ rfl hrun5 rfl rfl ?_)
      go_roundw
      case rel => exact ⟨j + 1, true, _, by omega, by go_num, rfl, by rw [hlnH.out]; exact ho5, hr5, hE5, (fun h => by cases h), fun _ => .inr (fun i hi hji => hup i hi (by omega))⟩
      case measure => simp [intOf]; omega
     ·
      have hq' : (x0.toList == s.toList) = true := by rw [← hnm]; exact hq
      have hsm := hsm2.out hq
      have hsmH := (show Hid _ from hsm)
      clear hsm
      go_wp2
      go_roundw
      case rel => exact ⟨j + 1, true, _, by omega, by go_num, rfl, by rw [hsmH.out]; exact ho3, by rw [hsmH.out]; exact hr3, hE3, (fun h => by cases h), fun _ => .inr (fun i hi hji => hup i hi (by omega))⟩
      case measure => simp [intOf]; omega
    ·
     have hls' : Op.bytesLess x0.toList s.toList = true := by rw [← hnm]; exact hls
     have hq : (nmR L[j] == s.toList) = false := by
      cases h : (nmR L[j] == s.toList)
      ·
       rfl
      ·
       have e : nmR L[j] = s.toList := by simpa using h
       rw [e, bl_irrefl] at hls
       cases hls
     have hq' : (x0.toList == s.toList) = false := by rw [← hnm]; exact hq
     have hst := hstep.out j hlt false (fun h => by cases h) (fun _ h => by cases h) hq
     have hln := hlenS _ _ hst
     have hnew := hasl.out j hlt hls
     obtain ⟨a6, c6, w5, ds5, hrun5, ho5, hr5, hE5⟩ := happ.out wr _ _ _ _ hE ho (by omega) hr
     rw [← hst] at hr5
     have hlnH := (show Hid _ from hln)
     have hnewH := (show Hid _ from hnew)
     clear hst hln ho hr hcell hputs hstep hsame hasl hasu hnew
     go_wp2_with (at_builtin; refine wpList_append_ranP _ rfl _ _ rfl hrun5 rfl rfl ?_)
     go_roundw
     case rel => exact ⟨j + 1, false, _, by omega, by go_num, rfl, by rw [hlnH.out]; exact ho5, hr5, hE5, fun _ => ⟨hk0, hnewH.out⟩, (fun h => by cases h)⟩
     case measure => simp [intOf]; omega
   ·
    have hk1 := hb1 rfl
    clear hb0 hb1
    cases hq : (nmR L[j] == s.toList)
    ·
     have hq' : (x0.toList == s.toList) = false := by rw [← hnm]; exact hq
     have hst := hstep.out j hlt true (fun _ => hk1) (fun hl _ => hk1.elim (fun h => h) (fun h => by rw [h j hlt (Nat.le_refl _)] at hl; cases hl)) hq
     have hln := hlenS _ _ hst
     obtain ⟨a6, c6, w5, ds5, hrun5, ho5, hr5, hE5⟩ := happ.out wr _ _ _ _ hE ho (by omega) hr
     rw [← hst] at hr5
     have hlnH := (show Hid _ from hln)
     have hk1H := (show Hid _ from hk1)
     clear hst hln ho hr hcell hputs hstep hsame hasl hasu hk1
     go_wp2_with (at_builtin; refine wpList_append_ranP _ rfl _ _ rfl hrun5 rfl rfl ?_)
     go_roundw
     case rel => exact ⟨j + 1, true, _, by omega, by go_num, rfl, by rw [hlnH.out]; exact ho5, hr5, hE5, (fun h => by cases h), fun _ => hk1H.out.imp (fun h => h) (fun h i hi hji => h i hi (by omega))⟩
     case measure => simp [intOf]; omega
    ·
     have hq' : (x0.toList == s.toList) = true := by rw [← hnm]; exact hq
     have hsm := hsame.out j hlt true hq
     have hsmH := (show Hid _ from hsm)
     have hk1H := (show Hid _ from hk1)
     clear hsm hcell hputs hstep hsame hasl hasu hk1
     go_wp2
     go_roundw
     case rel => exact ⟨j + 1, true, _, by omega, by go_num, rfl, by rw [hsmH.out]; exact ho, by rw [hsmH.out]; exact hr, hE, (fun h => by cases h), fun _ => hk1H.out.imp (fun h => h) (fun h i hi hji => h i hi (by omega))⟩
     case measure => simp [intOf]; omega
  ·
   have hjl : j = L.length := by omega
   subst hjl
   cases b
   ·
    obtain ⟨hk0, hlow⟩ := hb0 rfl
    clear hb0 hb1
    obtain ⟨q0, q1, q2, q3⟩ := HK.out wr hE
    have hputj := hputs.out L.length hlow
    have hfin := hall.out true
    simp only [if_true] at hfin
    rw [hfin] at hputj
    clear hstep hsame hputs hasl hasu hfin
    go_wp2_with fail
    refine (hcp wr hE0r).mono ?_
    rintro e w1 ⟨xv, rfl, ⟨hDx, _⟩, hE1⟩
    obtain ⟨xa, xc, xl, _, hdx, hx, _, _⟩ := list_shape H3 hDx
    subst hx
    clear hdx
    obtain ⟨a5, c5, w3, ds, hrun, ho3, hr3, hE3⟩ := happP.out wr w1 _ _ _ _ xa xl xc hk0 hE hE1 ho (by omega) hr hDx
    have hpl : (setP L s P).length = (outL L s P L.length false).length + 1 := by
     rw [hputj, List.length_append]
     obtain ⟨r, hPr, _⟩ := hPk.out hk0 anyB w1 _ hDx.any
     rw [hPr]
     rfl
    rw [← hputj] at hr3
    have hplH := (show Hid _ from hpl)
    have hfin : Hid (∃ a c cs, Ending.returned (.slice a5 ((outL L s P L.length false).length + 1) c5) = .returned (.slice a (setP L s P).length c) ∧ w3.ownsRow w.heap.size 127 5 (.slice a (setP L s P).length c) (setP L s P).length cs ∧ RowZ (fun x => Z x ∨ w.heap.size ≤ x) w3 (setP L s P) cs ∧ Ext w w3) := ⟨a5, c5, _, by rw [hpl], by rw [hpl]; exact ownP_low ho3 hzz, hr3.mono (fun x hx => hx.1), Ext.trans hE0 hE3⟩
    clear hputj hpl ho hr ho3 hr3
    go_wp2_with (at_builtin; refine wpList_append_ranP _ rfl _ _ rfl hrun rfl rfl ?_)
    go_ret
    exact hfin.out
   ·
    have hfin := hall.out true
    simp only [if_true] at hfin
    rw [hfin] at ho hr ⊢
    clear hstep hsame hputs hasl hasu hb0 hb1
    go_wp2
    go_ret
    exact ⟨_, _, _, rfl, ownP_low ho hzz, hr.mono (fun x hx => hx.1), hE0r⟩
end Go.Proofs.YteijgejpenlgjaaGreat

/- What spec.l2Set begins with: the props at hand. -/
namespace Go.Proofs.YteijgejpenlgjaaGreat
open Go.RowKit Go.Deep

theorem propsAt_edK (d0 d1 : D) (vk vn : Int) : propsAt d0 d1 vk vn = if vk = 5 then (edK d0 vn).map (fun i => d0.at! i 2) else if vk = 6 then (edK d1 vn).map (fun i => d1.at! i 4) else none := rfl
theorem psB_at (d0 d1 : D) (vk vn : Int) (s : ByteArray) (k n : Int) (t : ByteArray) (d3 : D) : psB d0 d1 vk vn s k n t d3 = match propsAt d0 d1 vk vn with | some d => proOk d s k n t d3 | none => false := by
 rw [propsAt_edK]
 unfold psB
 by_cases h5 : vk = 5
 ·
  simp only [if_pos h5]
  cases edK d0 vn <;> rfl
 ·
  by_cases h6 : vk = 6
  ·
   simp only [if_neg h5, if_pos h6]
   cases edK d1 vn <;> rfl
  ·
   simp only [if_neg h5, if_neg h6]
/-- The props at hand, as rows. -/
theorem old_src {Z : Nat → Prop} {w : World} {d0 d1 : D} {vk vn : Int} {u : Value} (H0 : Has d0 (.list 4)) (H1 : Has d1 (.list 5)) (hp0 : ∀ i, i < d0.len! → propsB (d0.at! i 2) = true) (hp1 : ∀ i, i < d1.len! → propsB (d1.at! i 4) = true) (h1 : ∀ d, propsAt d0 d1 vk vn = some d → DIn Z w d u) (h2 : propsAt d0 d1 vk vn = none → ∃ a c, u = .slice a 0 c) :
  ∃ L pu cu, u = .slice pu L.length cu ∧ SrcZ Z w u L ∧ L.length ≤ 4 ∧ (∀ r ∈ L, HasRow 3 r) ∧ AscP L ∧ ∀ d, propsAt d0 d1 vk vn = some d → L = prL d ∧ Has d (.list 3) := by
 cases h : propsAt d0 d1 vk vn with
 | none =>
  obtain ⟨a, c, rfl⟩ := h2 h
  exact ⟨[], a, c, rfl, ⟨a, c, [], rfl, RowZ.nil _ _, .inl rfl⟩, by simp, (fun r hr => by simp at hr), List.Pairwise.nil, fun d e => by cases e⟩
 | some d =>
  have H : Has d (.list 3) := propsAt_has H0 H1 h
  have hpb : propsB d = true := by
   rw [propsAt_edK] at h
   by_cases h5 : vk = 5
   ·
    rw [if_pos h5] at h
    obtain ⟨i, hi, e⟩ := Option.map_eq_some_iff.1 h
    rw [← e]
    exact hp0 i (edK_some hi).1
   ·
    rw [if_neg h5] at h
    by_cases h6 : vk = 6
    ·
     rw [if_pos h6] at h
     obtain ⟨i, hi, e⟩ := Option.map_eq_some_iff.1 h
     rw [← e]
     exact hp1 i (edK_some hi).1
    ·
     rw [if_neg h6] at h
     cases h
  obtain ⟨hso, hl4⟩ := props_sorted hpb
  have hd := h1 d h
  have hs := SrcZ.of H hd
  obtain ⟨p, c, cs, e, _⟩ := id hs
  exact ⟨prL d, p, c, e, hs, by rw [prL_len]; exact hl4, prL_has H, asc_of_sorted hso, fun d' e => by cases e; exact ⟨rfl, H⟩⟩
end Go.Proofs.YteijgejpenlgjaaGreat
