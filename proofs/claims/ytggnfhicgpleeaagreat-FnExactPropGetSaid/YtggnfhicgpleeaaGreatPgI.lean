/- What impl.propOf, the net's method prop and impl.PropGet answer. -/
import Derived.Test.YtggnfhicgpleeaaGreatPgFind
import Derived.Test.YtggnfhicgpleeaaGreatPgSpec2
import Derived.Test.YtggnfhicgpleeaaGreatNetOf
import Derived.Test.YtggnfhicgpleeaaGreatValTerm
import Derived.Test.YtggnfhicgpleeaaGreatGPlain
import Derived.Test.YtggnfhicgpleeaaGreatGValue
namespace Go.Proofs.YtggnfhicgpleeaaGreat
open Go.RowKit Go.Deep

/-- A value handed back, its list in memory Q. -/
inductive PropPost (A : VD) (Q : Nat → Prop) (w : World) : Ending → World → Prop
  | mk (u : Value) (w' : World) (hd : DIn Q w' A.l u) (ho : Own w' A.l Q u) (hE : Ext w w') : PropPost A Q w (.returned (.agg #[.int .i64 A.k, .int .i64 A.n, .string A.t, u])) w'
theorem PropPost.of {A : VD} {Q : Nat → Prop} {w w' : World} {e : Ending} {k n : Int} {t : ByteArray} {u : Value} (he : e = .returned (.agg #[.int .i64 k, .int .i64 n, .string t, u])) (hk : k = A.k) (hn : n = A.n) (ht : t = A.t) (hd : DIn Q w' A.l u) (ho : Own w' A.l Q u) (hE : Ext w w') : PropPost A Q w e w' := by
  subst he hk hn ht
  exact .mk u w' hd ho hE

theorem props_sorted {d : D} (h : propsB d = true) : Sorted d.at! d.len! ∧ d.len! ≤ 4 := by
  unfold propsB at h
  simp only [Bool.and_eq_true, decide_eq_true_eq, List.all_eq_true, List.mem_range] at h
  refine ⟨?_, h.2⟩
  have adj : ∀ i, i + 1 < d.len! → Op.bytesLess (nameAt d.at! i) (nameAt d.at! (i + 1)) = true := by
    intro i hi
    have := h.1 (i + 1) hi
    unfold propB at this
    simp only [Bool.and_eq_true, Bool.or_eq_true] at this
    rcases this.2 with h2 | h2
    · simp at h2
    · exact h2
  intro i j hij hj
  obtain ⟨m, rfl⟩ : ∃ m, j = i + 1 + m := ⟨j - i - 1, by omega⟩
  induction m with
  | zero => exact adj i hj
  | succ m ih => exact bl_trans _ _ _ (ih (by omega) (by omega)) (adj (i + 1 + m) hj)

set_option maxHeartbeats 4000000 in
theorem propOf_any (d : D) (H : Has d (.list 3)) (hb : propsB d = true) (Q : Nat → Prop) (v : Value) (s : ByteArray) (w : World) (hd : DIn Q w d v) (ho : Own w d Q v) (hq : ∀ x, Q x → x < w.heap.size) :
    Calls Tryz.prog 52 #[v, .string s] w (PropPost (propIn d s) Q w) := by
  obtain ⟨hso, hl4⟩ := props_sorted hb
  have hplace := fun (W : World) (hW : Ext w W) => placeOf_any d H hso (by omega) Q v s W (hd.ext hW)
  have HP1 : Hid (∀ i, findO (isAt d.at! s) d.len! = some i → propIn d s = ⟨(d.at! i 1).int!, (d.at! i 2).int!, (d.at! i 3).str!, d.at! i 4⟩) := fun i h => by
    unfold propIn
    rw [show (fun j => (d.at! j 0).str!.toList == s.toList) = isAt d.at! s from rfl, h]
  have HP2 : Hid (findO (isAt d.at! s) d.len! = none → propIn d s = VD.zero) := fun h => by
    unfold propIn
    rw [show (fun j => (d.at! j 0).str!.toList == s.toList) = isAt d.at! s from rfl, h]
  generalize propIn d s = A at HP1 HP2
  have hlt : ∀ i, findO (isAt d.at! s) d.len! = some i → i < d.len! := fun i h => (findO_lt h).1
  generalize findO (isAt d.at! s) d.len! = R at hplace HP1 HP2 hlt
  obtain ⟨len, f, rfl, HRa⟩ := H.list
  change DIn Q w (.list 5 len f) v at hd
  have HP1 : Hid (∀ i, R = some i → A = ⟨(f i 1).int!, (f i 2).int!, (f i 3).str!, f i 4⟩) := HP1.out
  have hlt : ∀ i, R = some i → i < len := hlt
  have hd0 := hd
  obtain ⟨a, cap, rfl, hul⟩ := hd.list_eq
  have hl4 : len ≤ 4 := hl4
  have hE0 : Ext w (w.alloc (.cells #[.int .i64 0, .int .i64 0, .string ⟨#[]⟩, .slice none 0 0] 33)) := (Ext.refl _).alloc _
  have hF0 := FBox.new w (.int .i64 0) (.int .i64 0) (.string ⟨#[]⟩) (.slice none 0 0) 33
  have hnR : ¬ Q w.heap.size := fun h => by have := hq _ h; omega
  unfold maxLen at hul
  go_enter Tryz.func52, Tryz.ntmps52
  go_upto_region 1 with fail
  generalize hW0 : w.alloc _ = W0 at *
  clear hW0
  go_wp2_with fail
  refine (hplace _ hE0).mono ?_
  rintro e w1 ⟨i, rfl, hi, hil, hE1⟩
  clear hplace
  have hF1 := hF0.ext hE1
  obtain ⟨⟨hRlt, r0, r1, r2, r3⟩, hfz⟩ := id hF1
  have z0 := hfz 0
  have z1 := hfz 1
  have z2 := hfz 2
  have z3 := hfz 3
  cases hR : R with
  | none =>
    have hA : Hid (A = VD.zero) := HP2.out hR
    obtain ⟨rE, rD, rO⟩ := res4 (a := w) (R := w.heap.size) (S := Q) (hE0.trans hE1) (Nat.le_refl _) hnR (noL_in Q w1).1 (noL_in Q w1).2 (.int .i64 0) (.int .i64 0) (.string ⟨#[]⟩) (.slice none 0 0)
    have rE := (show Hid _ from rE)
    have rD := (show Hid _ from rD)
    have rO := (show Hid _ from rO)
    go_wp2
    refine bodyPost_ret (v := .agg #[.int .i64 0, .int .i64 0, .string ⟨#[]⟩, .slice none 0 0]) (by simp [results, Tryz.results52, go_sem, r0, r1, r2, r3]) rfl ?_
    exact PropPost.of rfl (by rw [hA.out]; rfl) (by rw [hA.out]; rfl) (by rw [hA.out]; rfl) (by rw [hA.out]; exact rD.out) (by rw [hA.out]; exact rO.out) rE.out
  | some k =>
    obtain rfl := hi k hR
    have hkl := hlt _ hR
    have hA := HP1.out _ hR
    obtain ⟨cap2, b, off, C, hsl, _, hbl, ec, hx⟩ := (hd0.ext (hE0.trans hE1)).at hkl
    cases hsl
    obtain ⟨a', cap', b', off', P, hv', ha', hP', _, hc'⟩ := ho.ext (hE0.trans hE1)
    cases hv'
    obtain ⟨hv2, _, _, _⟩ := ha' (by omega)
    cases hv2
    obtain ⟨c4, q4, o4⟩ := hc' i hkl 4 (by decide)
    have HR := HRa i hkl
    obtain ⟨v1, hd1⟩ := (show Has (f i 1) .int from HR 1 (by decide)).int
    obtain ⟨v2, hd2⟩ := (show Has (f i 2) .int from HR 2 (by decide)).int
    obtain ⟨v3, hd3⟩ := (show Has (f i 3) .str from HR 3 (by decide)).str
    have H4 : Has (f i 4) (.list 2) := HR 4 (by decide)
    have k1 := hx 1 (by decide)
    have e1 := ec 1 (by decide)
    rw [hd1] at k1
    rw [k1.int_eq.1] at e1
    have k2 := hx 2 (by decide)
    have e2 := ec 2 (by decide)
    rw [hd2] at k2
    rw [k2.int_eq.1] at e2
    have k3 := hx 3 (by decide)
    have e3 := ec 3 (by decide)
    rw [hd3] at k3
    rw [k3.str_eq.1] at e3
    have k4 := hx 4 (by decide)
    have e4 := ec 4 (by decide)
    obtain rfl : C 4 = c4 := Option.some.inj (e4.symm.trans q4)
    have o4 : Own w1 (f i 4) Q (C 4) := o4.mono fun x hx => (hP' i 4 hkl (by decide) x hx).1
    have hA : Hid (A = ⟨v1, v2, v3, f i 4⟩) := by show _ = _; rw [hA, hd1, hd2, hd3]; rfl
    obtain ⟨a4, cap4, l4, f4, hd4, hc4, _, _⟩ := list_shape H4 k4
    rw [hc4] at e4 k4 o4
    clear ec hx HR k1 k2 k3 hd1 hd2 hd3 hd4 hc4 HP1 HP2 hP' hc' q4 ho hd hi hlt ha'
    obtain ⟨rE, rD, rO⟩ := res4 (a := w) (R := w.heap.size) (S := Q) (hE0.trans hE1) (Nat.le_refl _) hnR k4 o4 (.int .i64 v1) (.int .i64 v2) (.string v3) (.slice a4 l4 cap4)
    have rE := (show Hid _ from rE)
    have rD := (show Hid _ from rD)
    have rO := (show Hid _ from rO)
    go_wp2
    refine bodyPost_ret (v := .agg #[.int .i64 v1, .int .i64 v2, .string v3, .slice a4 l4 cap4]) (by simp [results, Tryz.results52, go_sem, r0, r1, r2, r3]) rfl ?_
    exact PropPost.of rfl (by rw [hA.out]) (by rw [hA.out]) (by rw [hA.out]) (by rw [hA.out]; exact rD.out) (by rw [hA.out]; exact rO.out) rE.out
end Go.Proofs.YtggnfhicgpleeaaGreat

/- What the net's method prop and impl.PropGet answer. -/
namespace Go.Proofs.YtggnfhicgpleeaaGreat
open Go.RowKit Go.Deep

/-- A value handed back, its list in memory of its own from block base on. -/
inductive NetPost (A : VD) (base : Nat) (w : World) : Ending → World → Prop
  | mk (u : Value) (Q : Nat → Prop) (w' : World) (hd : DIn Q w' A.l u) (ho : Own w' A.l Q u) (hQ : ∀ x, Q x → base ≤ x ∧ x < w'.heap.size) (hE : Ext w w') : NetPost A base w (.returned (.agg #[.int .i64 A.k, .int .i64 A.n, .string A.t, u])) w'
theorem NetPost.of {A : VD} {base : Nat} {w w' : World} {e : Ending} {k n : Int} {t : ByteArray} {u : Value} {Q : Nat → Prop} (he : e = .returned (.agg #[.int .i64 k, .int .i64 n, .string t, u])) (hk : k = A.k) (hn : n = A.n) (ht : t = A.t) (hd : DIn Q w' A.l u) (ho : Own w' A.l Q u) (hQ : ∀ x, Q x → base ≤ x ∧ x < w'.heap.size) (hE : Ext w w') : NetPost A base w e w' := by
  subst he hk hn ht
  exact .mk u Q w' hd ho hQ hE

theorem fieldNode (c0 c1 c2 : Value) (W : World) : (Instr.field 78 (.agg #[c0, c1, c2]) 2).run Tryz.prog W = .ok c2 W := by kernel_rfl
theorem fieldEdge (c0 c1 c2 c3 c4 : Value) (W : World) : (Instr.field 83 (.agg #[c0, c1, c2, c3, c4]) 4).run Tryz.prog W = .ok c4 W := by kernel_rfl

set_option maxRecDepth 100000 in
set_option maxHeartbeats 8000000 in
theorem netProp_any (d0 d1 : D) (x2 x3 : Int) (t : Value) (n : Int) (s : ByteArray) (w : World) (base : Nat) (N : NetD) (S : Nat → Prop) (H0 : Has d0 (.list 4)) (H1 : Has d1 (.list 5)) (hg : graphB d0 d1 x2 x3 = true) (hN : NetIn w base 100 N) (hfull : NetFull w base N d0.at! d1.at! d0.len! d1.len! x2 x3) (k : Int) (tt : ByteArray) (l : List V) (hT : TermIn S w (.mk k n tt l) t) (zn : (Lit.int .i64 n).wf = true) :
    Calls Tryz.prog 26 #[.pointer (some ⟨N.nb, 0, none⟩), t, .string s] w (NetPost (propAns d0 d1 k n s) base w) := by
  have hA0 := propAns_has H0 H1 k n s
  generalize hAe : propAns d0 d1 k n s = A at hA0
  have HAe : Hid (propAns d0 d1 k n s = A) := hAe
  clear hAe
  obtain ⟨mid, hmid, ⟨P5, R0⟩, ⟨P6, R1⟩⟩ := hfull.rows
  have hgn := hg
  simp only [graphB, Bool.and_eq_true, List.all_eq_true, List.mem_range] at hgn
  have hprops5 : ∀ i, i < d0.len! → propsB (d0.at! i 2) = true := fun i hi => by
    have := hgn.1.1 i hi
    simp only [nodeB, Bool.and_eq_true] at this
    exact this.1.2
  have hprops6 : ∀ i, i < d1.len! → propsB (d1.at! i 4) = true := fun i hi => by
    have := hgn.1.2 i hi
    simp only [edgeB, Bool.and_eq_true] at this
    exact this.1.1.1.2
  have hrow5 : ∀ i, i < d0.len! → Has (d0.at! i 2) (.list 3) := fun i hi => by
    obtain ⟨len, f, rfl, HR⟩ := H0.list
    exact HR i hi 2 (by decide)
  have hrow6 : ∀ i, i < d1.len! → Has (d1.at! i 4) (.list 3) := fun i hi => by
    obtain ⟨len, f, rfl, HR⟩ := H1.list
    exact HR i hi 4 (by decide)
  have hlim5 : mid ≤ w.heap.size := R0.1
  have hlim6 : w.heap.size ≤ w.heap.size := Nat.le_refl _
  have gT1 := gsT_node
  have fN := fieldNode
  have fE := fieldEdge
  have gT2 := gsT_edge
  have hE0 : Ext w (w.alloc (.cells #[.int .i64 0, .int .i64 0, .string ⟨#[]⟩, .slice none 0 0] 33)) := (Ext.refl _).alloc _
  have hF := FBox.new w (.int .i64 0) (.int .i64 0) (.string ⟨#[]⟩) (.slice none 0 0) 33
  have c1 := (hN.ext hE0).c1
  have c4 := (hN.ext hE0).c4
  clear hg hgn
  go_enter Tryz.func26, Tryz.ntmps26
  go_upto_region 1 with fail
  generalize hW0 : w.alloc _ = W0 at *
  clear hW0
  cases hT with
  | node =>
    have hlook := fun W (hW : Ext w W) => ((hN.ext hW).maps .n).look Tryz.underlying95 (zeroNode W) zn false
    simp only [Bool.false_eq_true, if_false] at hlook
    have HA : Hid (A = match (findO (fun i => (d0.at! i 0).int! == n) d0.len!).map (fun i => d0.at! i 2) with | some d => propIn d s | none => VD.zero) := by show _ = _; rw [← HAe.out]; rfl
    cases hr : findO (fun i => (d0.at! i 0).int! == n) d0.len! with
    | none =>
      have hA : Hid (A = propIn (.list 5 0 (fun _ _ => .int 0)) s) := by show _ = _; rw [HA.out, hr]; rfl
      have hnin : ¬ n ∈ N.keys .n := fun h => by
        rw [hfull.kn] at h
        obtain ⟨i, hi, he⟩ := List.mem_map.1 h
        have := List.find?_eq_none.1 hr i hi
        simp [he] at this
      have hl := hlook _ hE0
      rw [if_neg hnin] at hl
      have hpo := fun W => propOf_any (.list 5 0 (fun _ _ => .int 0)) ⟨3, rfl, rfl, fun i hi => by omega⟩ rfl (fun _ => False) (.slice none 0 0) s W ⟨none, 0, 0, 0, rfl, by simp [maxLen], fun h => by omega, fun i hi => by omega⟩ ⟨none, 0, 0, 0, fun _ _ _ => False, rfl, fun h => by omega, fun i j hi => by omega, fun i j i' j' hi => by omega, fun i hi => by omega⟩ (fun x h => h.elim)
      generalize propIn (.list 5 0 (fun _ _ => .int 0)) s = B at hpo hA
      clear HA hlook hr hnin
      go_wp2_with fail
      refine (hpo _).mono ?_
      intro e w1 hpost
      cases hpost with
      | mk u _ hd ho hE1 =>
      obtain ⟨Bk, Bn, Bt, Bl⟩ := B
      dsimp only at hd ho
      have hF1 := hF.ext hE1
      obtain ⟨⟨hRlt, r0, r1, r2, r3⟩, hfz⟩ := id hF1
      have z0 := hfz 0
      have z1 := hfz 1
      have z2 := hfz 2
      have z3 := hfz 3
      have hhas : Has Bl (.list 2) := by have := hA0; rw [hA.out] at this; exact this
      obtain ⟨au, capu, lu, fu, hdu, rfl, _, _⟩ := list_shape hhas hd
      clear hdu
      obtain ⟨rE, rD, rO⟩ := res4 (a := w) (R := w.heap.size) (S := fun _ => False) (hE0.trans hE1) (Nat.le_refl _) (fun h => h) hd ho (.int .i64 Bk) (.int .i64 Bn) (.string Bt) (.slice au lu capu)
      have rE := (show Hid _ from rE)
      have rD := (show Hid _ from rD)
      have rO := (show Hid _ from rO)
      go_wp2
      refine bodyPost_ret (v := .agg #[.int .i64 Bk, .int .i64 Bn, .string Bt, .slice au lu capu]) (by simp [results, Tryz.results26, go_sem, r0, r1, r2, r3]) rfl ?_
      exact NetPost.of (Q := fun _ => False) rfl (by rw [hA.out]) (by rw [hA.out]) (by rw [hA.out]) (by rw [hA.out]; exact rD.out) (by rw [hA.out]; exact rO.out) (fun x hx => hx.elim) rE.out
    | some i =>
      obtain ⟨hil, hie⟩ := findO_lt hr
      have hin0 : (d0.at! i 0).int! = n := by simpa using hie
      have hA : Hid (A = propIn (d0.at! i 2) s) := by show _ = _; rw [HA.out, hr]; rfl
      obtain ⟨C, hval, hleaf⟩ := R0.2.1 i hil
      rw [hin0] at hval
      have hin : n ∈ N.keys .n := by rw [hfull.kn]; exact List.mem_map.2 ⟨i, List.mem_range.2 hil, hin0⟩
      have hl := hlook _ hE0
      rw [if_pos hin, hval, show ((List.range 3).map C).toArray = #[C 0, C 1, C 2] from rfl] at hl
      obtain ⟨gd, go, gq⟩ := hleaf 2 (by decide)
      have hHp : Has (d0.at! i 2) (.list 3) := hrow5 i hil
      have hpb : propsB (d0.at! i 2) = true := hprops5 i hil
      have hlo : ∀ x, P5 i 2 x → base ≤ x ∧ x < w.heap.size := fun x hx => by have := gq x hx; have := hlim5; omega
      have hpo := fun W (hW : Ext w W) => propOf_any _ hHp hpb (P5 i 2) (C 2) s W (gd.ext hW) (go.ext hW) (fun x hx => Nat.lt_of_lt_of_le (hlo x hx).2 hW.le)
      have hhas : Has A.l (.list 2) := hA0
      rw [hA.out] at hhas
      generalize propIn (d0.at! i 2) s = B at hpo hA hhas
      clear HA hlook hr hie hin0 hin hval hleaf hpb hHp
      go_wp2_with fail
      refine (hpo _ hE0).mono ?_
      intro e w1 hpost
      cases hpost with
      | mk u _ hd ho hE1 =>
      obtain ⟨Bk, Bn, Bt, Bl⟩ := B
      dsimp only at hd ho hhas
      have hF1 := hF.ext hE1
      obtain ⟨⟨hRlt, r0, r1, r2, r3⟩, hfz⟩ := id hF1
      have z0 := hfz 0
      have z1 := hfz 1
      have z2 := hfz 2
      have z3 := hfz 3
      obtain ⟨au, capu, lu, fu, hdu, rfl, _, _⟩ := list_shape hhas hd
      clear hdu
      have hz1 := (hE0.trans hE1).le
      obtain ⟨rE, rD, rO⟩ := res4 (a := w) (R := w.heap.size) (S := P5 i 2) (hE0.trans hE1) (Nat.le_refl _) (fun h => by have := hlo _ h; omega) hd ho (.int .i64 Bk) (.int .i64 Bn) (.string Bt) (.slice au lu capu)
      have rE := (show Hid _ from rE)
      have rD := (show Hid _ from rD)
      have rO := (show Hid _ from rO)
      go_wp2
      refine bodyPost_ret (v := .agg #[.int .i64 Bk, .int .i64 Bn, .string Bt, .slice au lu capu]) (by simp [results, Tryz.results26, go_sem, r0, r1, r2, r3]) rfl ?_
      exact NetPost.of rfl (by rw [hA.out]) (by rw [hA.out]) (by rw [hA.out]) (by rw [hA.out]; exact rD.out) (by rw [hA.out]; exact rO.out) (fun x hx => ⟨(hlo x hx).1, by have := (hlo x hx).2; simp; omega⟩) rE.out
  | edge =>
    have hlook := fun W (hW : Ext w W) => ((hN.ext hW).maps .e).look Tryz.underlying99 (zeroEdge W) zn false
    simp only [Bool.false_eq_true, if_false] at hlook
    have HA : Hid (A = match (findO (fun i => (d1.at! i 0).int! == n) d1.len!).map (fun i => d1.at! i 4) with | some d => propIn d s | none => VD.zero) := by show _ = _; rw [← HAe.out]; rfl
    cases hr : findO (fun i => (d1.at! i 0).int! == n) d1.len! with
    | none =>
      have hA : Hid (A = propIn (.list 5 0 (fun _ _ => .int 0)) s) := by show _ = _; rw [HA.out, hr]; rfl
      have hnin : ¬ n ∈ N.keys .e := fun h => by
        rw [hfull.ke] at h
        obtain ⟨i, hi, he⟩ := List.mem_map.1 h
        have := List.find?_eq_none.1 hr i hi
        simp [he] at this
      have hl := hlook _ hE0
      rw [if_neg hnin] at hl
      have hpo := fun W => propOf_any (.list 5 0 (fun _ _ => .int 0)) ⟨3, rfl, rfl, fun i hi => by omega⟩ rfl (fun _ => False) (.slice none 0 0) s W ⟨none, 0, 0, 0, rfl, by simp [maxLen], fun h => by omega, fun i hi => by omega⟩ ⟨none, 0, 0, 0, fun _ _ _ => False, rfl, fun h => by omega, fun i j hi => by omega, fun i j i' j' hi => by omega, fun i hi => by omega⟩ (fun x h => h.elim)
      generalize propIn (.list 5 0 (fun _ _ => .int 0)) s = B at hpo hA
      clear HA hlook hr hnin
      go_wp2_with fail
      refine (hpo _).mono ?_
      intro e w1 hpost
      cases hpost with
      | mk u _ hd ho hE1 =>
      obtain ⟨Bk, Bn, Bt, Bl⟩ := B
      dsimp only at hd ho
      have hF1 := hF.ext hE1
      obtain ⟨⟨hRlt, r0, r1, r2, r3⟩, hfz⟩ := id hF1
      have z0 := hfz 0
      have z1 := hfz 1
      have z2 := hfz 2
      have z3 := hfz 3
      have hhas : Has Bl (.list 2) := by have := hA0; rw [hA.out] at this; exact this
      obtain ⟨au, capu, lu, fu, hdu, rfl, _, _⟩ := list_shape hhas hd
      clear hdu
      obtain ⟨rE, rD, rO⟩ := res4 (a := w) (R := w.heap.size) (S := fun _ => False) (hE0.trans hE1) (Nat.le_refl _) (fun h => h) hd ho (.int .i64 Bk) (.int .i64 Bn) (.string Bt) (.slice au lu capu)
      have rE := (show Hid _ from rE)
      have rD := (show Hid _ from rD)
      have rO := (show Hid _ from rO)
      go_wp2
      refine bodyPost_ret (v := .agg #[.int .i64 Bk, .int .i64 Bn, .string Bt, .slice au lu capu]) (by simp [results, Tryz.results26, go_sem, r0, r1, r2, r3]) rfl ?_
      exact NetPost.of (Q := fun _ => False) rfl (by rw [hA.out]) (by rw [hA.out]) (by rw [hA.out]) (by rw [hA.out]; exact rD.out) (by rw [hA.out]; exact rO.out) (fun x hx => hx.elim) rE.out
    | some i =>
      obtain ⟨hil, hie⟩ := findO_lt hr
      have hin0 : (d1.at! i 0).int! = n := by simpa using hie
      have hA : Hid (A = propIn (d1.at! i 4) s) := by show _ = _; rw [HA.out, hr]; rfl
      obtain ⟨C, hval, hleaf⟩ := R1.2.1 i hil
      rw [hin0] at hval
      have hin : n ∈ N.keys .e := by rw [hfull.ke]; exact List.mem_map.2 ⟨i, List.mem_range.2 hil, hin0⟩
      have hl := hlook _ hE0
      rw [if_pos hin, hval, show ((List.range 5).map C).toArray = #[C 0, C 1, C 2, C 3, C 4] from rfl] at hl
      obtain ⟨gd, go, gq⟩ := hleaf 4 (by decide)
      have hHp : Has (d1.at! i 4) (.list 3) := hrow6 i hil
      have hpb : propsB (d1.at! i 4) = true := hprops6 i hil
      have hlo : ∀ x, P6 i 4 x → base ≤ x ∧ x < w.heap.size := fun x hx => by have := gq x hx; have := hlim6; omega
      have hpo := fun W (hW : Ext w W) => propOf_any _ hHp hpb (P6 i 4) (C 4) s W (gd.ext hW) (go.ext hW) (fun x hx => Nat.lt_of_lt_of_le (hlo x hx).2 hW.le)
      have hhas : Has A.l (.list 2) := hA0
      rw [hA.out] at hhas
      generalize propIn (d1.at! i 4) s = B at hpo hA hhas
      clear HA hlook hr hie hin0 hin hval hleaf hpb hHp
      go_wp2_with fail
      refine (hpo _ hE0).mono ?_
      intro e w1 hpost
      cases hpost with
      | mk u _ hd ho hE1 =>
      obtain ⟨Bk, Bn, Bt, Bl⟩ := B
      dsimp only at hd ho hhas
      have hF1 := hF.ext hE1
      obtain ⟨⟨hRlt, r0, r1, r2, r3⟩, hfz⟩ := id hF1
      have z0 := hfz 0
      have z1 := hfz 1
      have z2 := hfz 2
      have z3 := hfz 3
      obtain ⟨au, capu, lu, fu, hdu, rfl, _, _⟩ := list_shape hhas hd
      clear hdu
      have hz1 := (hE0.trans hE1).le
      obtain ⟨rE, rD, rO⟩ := res4 (a := w) (R := w.heap.size) (S := P6 i 4) (hE0.trans hE1) (Nat.le_refl _) (fun h => by have := hlo _ h; omega) hd ho (.int .i64 Bk) (.int .i64 Bn) (.string Bt) (.slice au lu capu)
      have rE := (show Hid _ from rE)
      have rD := (show Hid _ from rD)
      have rO := (show Hid _ from rO)
      go_wp2
      refine bodyPost_ret (v := .agg #[.int .i64 Bk, .int .i64 Bn, .string Bt, .slice au lu capu]) (by simp [results, Tryz.results26, go_sem, r0, r1, r2, r3]) rfl ?_
      exact NetPost.of rfl (by rw [hA.out]) (by rw [hA.out]) (by rw [hA.out]) (by rw [hA.out]; exact rD.out) (by rw [hA.out]; exact rO.out) (fun x hx => ⟨(hlo x hx).1, by have := (hlo x hx).2; simp; omega⟩) rE.out
  | null =>
    have hA : Hid (A = VD.zero) := by show _ = _; rw [← HAe.out]; rfl
    obtain ⟨⟨hRlt, r0, r1, r2, r3⟩, hfz⟩ := id hF
    have z0 := hfz 0
    have z1 := hfz 1
    have z2 := hfz 2
    have z3 := hfz 3
    obtain ⟨rE, rD, rO⟩ := res4 (a := w) (R := w.heap.size) (S := fun _ => False) hE0 (Nat.le_refl _) (fun h => h) (noL_in _ _).1 (noL_in _ _).2 (.int .i64 0) (.int .i64 0) (.string ⟨#[]⟩) (.slice none 0 0)
    have rE := (show Hid _ from rE)
    have rD := (show Hid _ from rD)
    have rO := (show Hid _ from rO)
    go_wp2
    refine bodyPost_ret (v := .agg #[.int .i64 0, .int .i64 0, .string ⟨#[]⟩, .slice none 0 0]) (by simp [results, Tryz.results26, go_sem, r0, r1, r2, r3]) rfl ?_
    exact NetPost.of (Q := fun _ => False) rfl (by rw [hA.out]; rfl) (by rw [hA.out]; rfl) (by rw [hA.out]; rfl) (by rw [hA.out]; exact rD.out) (by rw [hA.out]; exact rO.out) (fun x hx => hx.elim) rE.out
  | bool =>
    have hA : Hid (A = VD.zero) := by show _ = _; rw [← HAe.out]; rfl
    obtain ⟨⟨hRlt, r0, r1, r2, r3⟩, hfz⟩ := id hF
    have z0 := hfz 0
    have z1 := hfz 1
    have z2 := hfz 2
    have z3 := hfz 3
    obtain ⟨rE, rD, rO⟩ := res4 (a := w) (R := w.heap.size) (S := fun _ => False) hE0 (Nat.le_refl _) (fun h => h) (noL_in _ _).1 (noL_in _ _).2 (.int .i64 0) (.int .i64 0) (.string ⟨#[]⟩) (.slice none 0 0)
    have rE := (show Hid _ from rE)
    have rD := (show Hid _ from rD)
    have rO := (show Hid _ from rO)
    go_wp2
    refine bodyPost_ret (v := .agg #[.int .i64 0, .int .i64 0, .string ⟨#[]⟩, .slice none 0 0]) (by simp [results, Tryz.results26, go_sem, r0, r1, r2, r3]) rfl ?_
    exact NetPost.of (Q := fun _ => False) rfl (by rw [hA.out]; rfl) (by rw [hA.out]; rfl) (by rw [hA.out]; rfl) (by rw [hA.out]; exact rD.out) (by rw [hA.out]; exact rO.out) (fun x hx => hx.elim) rE.out
  | num =>
    have hA : Hid (A = VD.zero) := by show _ = _; rw [← HAe.out]; rfl
    obtain ⟨⟨hRlt, r0, r1, r2, r3⟩, hfz⟩ := id hF
    have z0 := hfz 0
    have z1 := hfz 1
    have z2 := hfz 2
    have z3 := hfz 3
    obtain ⟨rE, rD, rO⟩ := res4 (a := w) (R := w.heap.size) (S := fun _ => False) hE0 (Nat.le_refl _) (fun h => h) (noL_in _ _).1 (noL_in _ _).2 (.int .i64 0) (.int .i64 0) (.string ⟨#[]⟩) (.slice none 0 0)
    have rE := (show Hid _ from rE)
    have rD := (show Hid _ from rD)
    have rO := (show Hid _ from rO)
    go_wp2
    refine bodyPost_ret (v := .agg #[.int .i64 0, .int .i64 0, .string ⟨#[]⟩, .slice none 0 0]) (by simp [results, Tryz.results26, go_sem, r0, r1, r2, r3]) rfl ?_
    exact NetPost.of (Q := fun _ => False) rfl (by rw [hA.out]; rfl) (by rw [hA.out]; rfl) (by rw [hA.out]; rfl) (by rw [hA.out]; exact rD.out) (by rw [hA.out]; exact rO.out) (fun x hx => hx.elim) rE.out
  | text =>
    have hA : Hid (A = VD.zero) := by show _ = _; rw [← HAe.out]; rfl
    obtain ⟨⟨hRlt, r0, r1, r2, r3⟩, hfz⟩ := id hF
    have z0 := hfz 0
    have z1 := hfz 1
    have z2 := hfz 2
    have z3 := hfz 3
    obtain ⟨rE, rD, rO⟩ := res4 (a := w) (R := w.heap.size) (S := fun _ => False) hE0 (Nat.le_refl _) (fun h => h) (noL_in _ _).1 (noL_in _ _).2 (.int .i64 0) (.int .i64 0) (.string ⟨#[]⟩) (.slice none 0 0)
    have rE := (show Hid _ from rE)
    have rD := (show Hid _ from rD)
    have rO := (show Hid _ from rO)
    go_wp2
    refine bodyPost_ret (v := .agg #[.int .i64 0, .int .i64 0, .string ⟨#[]⟩, .slice none 0 0]) (by simp [results, Tryz.results26, go_sem, r0, r1, r2, r3]) rfl ?_
    exact NetPost.of (Q := fun _ => False) rfl (by rw [hA.out]; rfl) (by rw [hA.out]; rfl) (by rw [hA.out]; rfl) (by rw [hA.out]; exact rD.out) (by rw [hA.out]; exact rO.out) (fun x hx => hx.elim) rE.out
  | list =>
    have hA : Hid (A = VD.zero) := by show _ = _; rw [← HAe.out]; rfl
    obtain ⟨⟨hRlt, r0, r1, r2, r3⟩, hfz⟩ := id hF
    have z0 := hfz 0
    have z1 := hfz 1
    have z2 := hfz 2
    have z3 := hfz 3
    obtain ⟨rE, rD, rO⟩ := res4 (a := w) (R := w.heap.size) (S := fun _ => False) hE0 (Nat.le_refl _) (fun h => h) (noL_in _ _).1 (noL_in _ _).2 (.int .i64 0) (.int .i64 0) (.string ⟨#[]⟩) (.slice none 0 0)
    have rE := (show Hid _ from rE)
    have rD := (show Hid _ from rD)
    have rO := (show Hid _ from rO)
    go_wp2
    refine bodyPost_ret (v := .agg #[.int .i64 0, .int .i64 0, .string ⟨#[]⟩, .slice none 0 0]) (by simp [results, Tryz.results26, go_sem, r0, r1, r2, r3]) rfl ?_
    exact NetPost.of (Q := fun _ => False) rfl (by rw [hA.out]; rfl) (by rw [hA.out]; rfl) (by rw [hA.out]; rfl) (by rw [hA.out]; exact rD.out) (by rw [hA.out]; exact rO.out) (fun x hx => hx.elim) rE.out
end Go.Proofs.YtggnfhicgpleeaaGreat

/- What impl.PropGet answers. -/
namespace Go.Proofs.YtggnfhicgpleeaaGreat
open Go.RowKit Go.Deep

set_option maxRecDepth 100000 in
set_option maxHeartbeats 4000000 in
theorem implPropGet_any (S S3 : Nat → Prop) (d0 d1 d3 : D) (c0 c1 c3 : Value) (x2 x3 k n : Int) (t s : ByteArray) (w : World) (H0 : Has d0 (.list 4)) (h0 : DIn S w d0 c0) (_s0 : SmallD d0) (H1 : Has d1 (.list 5)) (h1 : DIn S w d1 c1) (_s1 : SmallD d1) (zk : (Lit.int .i64 k).wf = true) (zn : (Lit.int .i64 n).wf = true) (zt : t.size ≤ maxLen) (H3 : Has d3 (.list 2)) (h3 : DIn S3 w d3 c3) :
    Calls Tryz.prog 9 #[.agg #[c0, c1, .int .i64 x2, .int .i64 x3], .agg #[.int .i64 k, .int .i64 n, .string t, c3], .string s] w (GetPost (getAns (graphB d0 d1 x2 x3 && okN 3 (.mk k n t (vsOf d3))) d0 d1 k n s) w) := by
  have hgr := fun (W : World) (hW : Ext w W) => netOf_any S d0 d1 c0 c1 x2 x3 W H0 (h0.ext hW) H1 (h1.ext hW)
  have hvk := fun (W : World) (hW : Ext w W) => termOf_any (.mk k n t (vsOf d3)) 0 _ W (valIn_of zk zn zt H3 (h3.ext hW))
  obtain ⟨a0, cap0, len0, f0, hd0, hc0, _, _⟩ := list_shape H0 h0
  obtain ⟨a1, cap1, len1, f1, hd1, hc1, _, _⟩ := list_shape H1 h1
  obtain ⟨a3, cap3, len3, f3, hd3, hc3, _, _⟩ := list_shape H3 h3
  have hwf := gokN_wf 3 k n t (vsOf d3)
  have hprop := fun (W : World) (base : Nat) (N : NetD) (tv : Value) (S' : Nat → Prop) (hg : graphB d0 d1 x2 x3 = true) (hN : NetIn W base 100 N) (hf : NetFull W base N d0.at! d1.at! d0.len! d1.len! x2 x3) (hT : TermIn S' W (.mk k n t (vsOf d3)) tv) => netProp_any d0 d1 x2 x3 tv n s W base N S' H0 H1 hg hN hf k t (vsOf d3) hT zn
  have hhas := propAns_has H0 H1 k n s
  subst hc0 hc1 hc3
  clear hd0 hd1 hd3 h0 h1 h3
  generalize hGe : graphB d0 d1 x2 x3 = G at hgr hprop
  generalize hKe : okN 3 (.mk k n t (vsOf d3)) = K at hvk hwf
  have HA : Hid (∀ gb : Bool, (G && K) = gb → getAns (G && K) d0 d1 k n s = if gb = true then propAns d0 d1 k n s else VD.zero) := fun _ h => by rw [h]; rfl
  generalize getAns (G && K) d0 d1 k n s = A at HA
  generalize propAns d0 d1 k n s = P at hprop HA hhas
  clear hGe hKe
  generalize hG : (Obj.cells #[.slice a0 len0 cap0, .slice a1 len1 cap1, .int .i64 x2, .int .i64 x3] 38) = oG
  generalize hV : (Obj.cells #[.int .i64 k, .int .i64 n, .string t, .slice a3 len3 cap3] 33) = oV
  generalize hR : (Obj.cells #[.int .i64 0, .int .i64 0, .string ⟨#[]⟩, .slice none 0 0] 33) = oR
  have hE0 : Ext w (((w.alloc oG).alloc oV).alloc oR) := (((Ext.refl _).alloc _).alloc _).alloc _
  have hbx : ∀ W, Ext (((w.alloc oG).alloc oV).alloc oR) W → (W.cell? ⟨w.heap.size, 0, none⟩ = some (.slice a0 len0 cap0) ∧ W.cell? ⟨w.heap.size, 1, none⟩ = some (.slice a1 len1 cap1) ∧ W.cell? ⟨w.heap.size, 2, none⟩ = some (.int .i64 x2) ∧ W.cell? ⟨w.heap.size, 3, none⟩ = some (.int .i64 x3)) ∧ (W.cell? ⟨w.heap.size + 1, 0, none⟩ = some (.int .i64 k) ∧ W.cell? ⟨w.heap.size + 1, 1, none⟩ = some (.int .i64 n) ∧ W.cell? ⟨w.heap.size + 1, 2, none⟩ = some (.string t) ∧ W.cell? ⟨w.heap.size + 1, 3, none⟩ = some (.slice a3 len3 cap3)) ∧ FBox W (w.heap.size + 2) (.int .i64 0) (.int .i64 0) (.string ⟨#[]⟩) (.slice none 0 0) := by
    intro W hW
    have hz1 : (w.alloc oG).heap.size = w.heap.size + 1 := by simp
    have hz2 : ((w.alloc oG).alloc oV).heap.size = w.heap.size + 2 := by simp
    have hA : Ext (w.alloc oG) W := (((Ext.refl _).alloc _).alloc _).trans hW
    have hB : Ext ((w.alloc oG).alloc oV) W := ((Ext.refl _).alloc _).trans hW
    subst hG hV hR
    refine ⟨⟨box_cell hA 0 _ rfl, box_cell hA 1 _ rfl, box_cell hA 2 _ rfl, box_cell hA 3 _ rfl⟩, ⟨?_, ?_, ?_, ?_⟩, ?_⟩
    · rw [← hz1]; exact box_cell hB 0 _ rfl
    · rw [← hz1]; exact box_cell hB 1 _ rfl
    · rw [← hz1]; exact box_cell hB 2 _ rfl
    · rw [← hz1]; exact box_cell hB 3 _ rfl
    · rw [← hz2]; exact (FBox.new _ _ _ _ _ _).ext hW
  go_enter Tryz.func9, Tryz.ntmps9
  go_upto_region 1 with fail
  generalize hW0 : ((w.alloc oG).alloc oV).alloc oR = W0 at *
  have hlow : w.heap.size + 3 ≤ W0.heap.size := by subst hW0; simp
  clear hW0 hG hV hR
  obtain ⟨⟨p0, p1, p2, p3⟩, ⟨q0, q1, q2, q3⟩, hF⟩ := hbx _ (Ext.refl _)
  cases hGb : G
  · have hA : Hid (A = VD.zero) := by show _ = _; rw [HA.out false (by rw [hGb]; rfl)]; rfl
    rw [hGb] at hgr
    clear hprop HA hwf
    cases hKb : K
    all_goals
      rw [hKb] at hvk
      go_upto_region 3 with (first
        | (go_at_call 24; refine (hgr _ hE0).mono ?_; rintro e w1 ⟨p, rfl, hnet, hE1⟩; clear p0 p1 p2 p3 q0 q1 q2 q3; obtain ⟨⟨p0, p1, p2, p3⟩, ⟨q0, q1, q2, q3⟩, hF1⟩ := hbx _ hE1)
        | (go_at_call 25; refine (hvk _ (hE0.trans hE1)).mono ?_; rintro e w2 ⟨tv, rfl, _, hTerm, hE2⟩))
      clear p0 p1 p2 p3 q0 q1 q2 q3
      clear hnet hTerm
      obtain ⟨⟨hRlt, r0, r1, r2, r3⟩, hfz⟩ := id (hF1.ext hE2)
      have z0 := hfz 0
      have z1 := hfz 1
      have z2 := hfz 2
      have z3 := hfz 3
      obtain ⟨rE, rD, rO⟩ := res4 (a := w) (R := w.heap.size + 2) (S := fun _ => False) (hE0.trans (hE1.trans hE2)) (by omega) (fun hh => hh) (noL_in _ w2).1 (noL_in _ w2).2 (.int .i64 0) (.int .i64 0) (.string ⟨#[]⟩) (.slice none 0 0)
      have rE := (show Hid _ from rE)
      have rD := (show Hid _ from rD)
      have rO := (show Hid _ from rO)
      go_wp2
      refine bodyPost_ret (v := .agg #[.int .i64 0, .int .i64 0, .string ⟨#[]⟩, .slice none 0 0]) (by simp [results, Tryz.results9, go_sem, r0, r1, r2, r3]) rfl ?_
      exact GetPost.of (Q := fun _ => False) rfl (by rw [hA.out]; rfl) (by rw [hA.out]; rfl) (by rw [hA.out]; rfl) (by rw [hA.out]; exact rD.out) (by rw [hA.out]; exact rO.out) (fun x hx => hx.elim) rE.out
  · rw [hGb] at hgr hprop
    cases hKb : K
    · have hA : Hid (A = VD.zero) := by show _ = _; rw [HA.out false (by rw [hGb, hKb]; rfl)]; rfl
      rw [hKb] at hvk
      clear hprop HA hwf
      go_upto_region 3 with (first
        | (go_at_call 24; refine (hgr _ hE0).mono ?_; rintro e w1 ⟨p, rfl, hnet, hE1⟩; clear p0 p1 p2 p3 q0 q1 q2 q3; obtain ⟨⟨p0, p1, p2, p3⟩, ⟨q0, q1, q2, q3⟩, hF1⟩ := hbx _ hE1)
        | (go_at_call 25; refine (hvk _ (hE0.trans hE1)).mono ?_; rintro e w2 ⟨tv, rfl, _, hTerm, hE2⟩))
      clear p0 p1 p2 p3 q0 q1 q2 q3
      clear hnet hTerm
      obtain ⟨⟨hRlt, r0, r1, r2, r3⟩, hfz⟩ := id (hF1.ext hE2)
      have z0 := hfz 0
      have z1 := hfz 1
      have z2 := hfz 2
      have z3 := hfz 3
      obtain ⟨rE, rD, rO⟩ := res4 (a := w) (R := w.heap.size + 2) (S := fun _ => False) (hE0.trans (hE1.trans hE2)) (by omega) (fun hh => hh) (noL_in _ w2).1 (noL_in _ w2).2 (.int .i64 0) (.int .i64 0) (.string ⟨#[]⟩) (.slice none 0 0)
      have rE := (show Hid _ from rE)
      have rD := (show Hid _ from rD)
      have rO := (show Hid _ from rO)
      go_wp2
      refine bodyPost_ret (v := .agg #[.int .i64 0, .int .i64 0, .string ⟨#[]⟩, .slice none 0 0]) (by simp [results, Tryz.results9, go_sem, r0, r1, r2, r3]) rfl ?_
      exact GetPost.of (Q := fun _ => False) rfl (by rw [hA.out]; rfl) (by rw [hA.out]; rfl) (by rw [hA.out]; rfl) (by rw [hA.out]; exact rD.out) (by rw [hA.out]; exact rO.out) (fun x hx => hx.elim) rE.out
    · have hA : Hid (A = P) := by show _ = _; rw [HA.out true (by rw [hGb, hKb]; rfl)]; rfl
      rw [hKb] at hvk hwf
      clear HA hwf
      go_upto_region 3 with (first
        | (go_at_call 24; refine (hgr _ hE0).mono ?_; rintro e w1 ⟨p, rfl, hnet, hE1⟩; clear p0 p1 p2 p3 q0 q1 q2 q3; obtain ⟨⟨p0, p1, p2, p3⟩, ⟨q0, q1, q2, q3⟩, hF1⟩ := hbx _ hE1)
        | (go_at_call 25; refine (hvk _ (hE0.trans hE1)).mono ?_; rintro e w2 ⟨tv, rfl, _, hTerm, hE2⟩))
      clear p0 p1 p2 p3 q0 q1 q2 q3
      obtain ⟨N, rfl, hN, hfull⟩ := hnet (by trivial)
      have hz1 := hE1.le
      have hz2 := hE2.le
      have hcall := hprop w2 W0.heap.size N tv _ (by trivial) (hN.ext hE2) ⟨hfull.nn, hfull.ne, hfull.ln, hfull.le, hfull.kn, hfull.ke, by
        obtain ⟨mid, h1, h2, h3⟩ := hfull.rows
        obtain ⟨P6, g1, g2, g3⟩ := h3.ext hE2
        exact ⟨mid, h1, h2.ext hE2, P6, Nat.le_refl _, fun i hi => by
          obtain ⟨C, a1, a2⟩ := g2 i hi
          exact ⟨C, a1, fun c hc => ⟨(a2 c hc).1, (a2 c hc).2.1, fun x hx => ⟨((a2 c hc).2.2 x hx).1, Nat.lt_of_lt_of_le ((a2 c hc).2.2 x hx).2.1 hz2, ((a2 c hc).2.2 x hx).2.2⟩⟩⟩, g3⟩⟩ (hTerm (by trivial))
      clear hprop hTerm hfull hN
      go_wp2_with fail
      refine hcall.mono ?_
      intro e w3 hpost
      cases hpost with
      | mk u Q _ gd go gq hE3 =>
      obtain ⟨au, capu, lu, fu, hdu, rfl, _, _⟩ := list_shape hhas gd
      clear hdu
      obtain ⟨⟨hRlt, r0, r1, r2, r3⟩, hfz⟩ := id (hF1.ext (hE2.trans hE3))
      have z0 := hfz 0
      have z1 := hfz 1
      have z2 := hfz 2
      have z3 := hfz 3
      obtain ⟨Pk, Pn, Pt, Pl⟩ := P
      dsimp only at gd go
      obtain ⟨rE, rD, rO⟩ := res4 (a := w) (R := w.heap.size + 2) (S := Q) (hE0.trans (hE1.trans (hE2.trans hE3))) (by omega) (fun hh => by have := (gq _ hh).1; omega) gd go (.int .i64 Pk) (.int .i64 Pn) (.string Pt) (.slice au lu capu)
      have rE := (show Hid _ from rE)
      have rD := (show Hid _ from rD)
      have rO := (show Hid _ from rO)
      go_wp2
      refine bodyPost_ret (v := .agg #[.int .i64 Pk, .int .i64 Pn, .string Pt, .slice au lu capu]) (by simp [results, Tryz.results9, go_sem, r0, r1, r2, r3]) rfl ?_
      exact GetPost.of rfl (by rw [hA.out]) (by rw [hA.out]) (by rw [hA.out]) (by rw [hA.out]; exact rD.out) (by rw [hA.out]; exact rO.out) (fun x hx => ⟨by have := (gq x hx).1; omega, by simpa using (gq x hx).2⟩) rE.out
end Go.Proofs.YtggnfhicgpleeaaGreat
