/- What impl.labelsOf and impl.propValue answer. -/
import Derived.Test.YtejahpkpmbnmkaaGreatGSpec2
import Derived.Test.YtejahpkpmbnmkaaGreatGValue
namespace Go.Proofs.YtejahpkpmbnmkaaGreat
open Go.RowKit Go.Deep

theorem Tryz.infoS : (Tryz.prog.info? 9).map (fun i => (i.zero, i.size, i.bytes)) = some (some (.string ⟨#[]⟩), 1, 16) := by kernel_rfl

set_option maxRecDepth 4000 in
set_option maxHeartbeats 2000000 in
theorem labelsOf_any (d : D) (H : Has d (.list 0)) (S : Nat → Prop) (v : Value) (w : World) (hv : DIn S w d v) :
    Calls Tryz.prog 54 #[v] w fun e w' => ∃ a l c, e = .returned (.tuple #[.slice a l c, .bool (labelsB d)]) ∧ (labelsB d = true → DIn (New w.heap.size w'.heap.size) w' d (.slice a l c) ∧ Own w' d (New w.heap.size w'.heap.size) (.slice a l c)) ∧ Ext w w' := by
  obtain ⟨len, f, rfl, HRa⟩ := H.list
  change DIn S w (.list 1 len f) v at hv
  obtain ⟨a, cap, rfl, hm⟩ := hv.list_eq
  unfold maxLen at hm
  have HB : Hid (labelsB (.list (rowsOf 0).length len f) = ((List.range len).all (labelB f) && decide (len ≤ 3))) := rfl
  generalize hlb : labelsB (.list (rowsOf 0).length len f) = lb at *
  rw [show (rowsOf 0).length = 1 from rfl] at *
  clear hlb
  by_cases hl3 : 3 < len
  · have hf : Hid (lb = false) := by show _ = _; rw [HB.out, decide_eq_false (by omega : ¬ len ≤ 3), Bool.and_false]
    go_enter Tryz.func54, Tryz.ntmps54
    go_wp2
    go_ret2
    exact ⟨_, _, _, by rw [hf.out]; rfl, fun h => (by rw [hf.out] at h; cases h), Ext.refl _⟩
  obtain ⟨i0, hi, hz0, hz1, hz2⟩ := info_parts Tryz.infoS
  go_enter Tryz.func54, Tryz.ntmps54
  go_wp2
  go_loopw [4, 12] (fun u i wr => ∃ (k : Nat) (cs : List Value), k ≤ len ∧ i = .int .i64 k ∧ GSt wr w.heap.size 9 1 f k u cs ∧ Ext w wr ∧ ∀ j, j < k → labelB f j = true) (fun _ i _ => len - (intOf i).toNat)
  case atStart => exact ⟨0, [], Nat.zero_le _, rfl, GSt.nil _ _ _ _ _, Ext.refl _, fun j h => by omega⟩
  case round =>
    obtain ⟨k, cs, hk, rfl, hG, hE, hno⟩ := hrel
    obtain ⟨ua, ucap, rfl⟩ := hG.shape
    by_cases hlt : k < len
    · obtain ⟨cap2, b, off, C, hsl, _, hb, ec, hx⟩ := (hv.ext hE).at hlt
      cases hsl
      have HR := HRa k hlt
      obtain ⟨x0, hd0⟩ := (show Has (f k 0) .str from HR 0 (by decide)).str
      have h0 := hx 0 (by decide)
      have e0 := ec 0 (by decide)
      rw [hd0] at h0
      obtain ⟨y0, z0⟩ := h0.str_eq
      rw [y0] at e0
      have e0 : wr.cell? ⟨b, off + k, none⟩ = some (.string x0) := by simpa using e0
      clear y0 hx ec HR
      have hLk : Hid (labelB f k = (nameB x0 && (k == 0 || ltS (f (k - 1) 0).str! x0))) := by show _ = _; simp [labelB, hd0, D.str!]
      have hbad : labelB f k = false → lb = false := fun h => by rw [HB.out, all_no hlt h]; rfl
      have hstep : ∀ {w3 v'}, w3.ownsRow w.heap.size 9 1 v' (k + 1) (cs ++ [.string x0]) → (wr.alloc (.cells #[.string x0] 9)).grownBy w3 (Value.slice ua k ucap).ownBlock → (v'.ownBlock = (Value.slice ua k ucap).ownBlock ∨ v'.ownBlock = some (wr.alloc (.cells #[.string x0] 9)).heap.size) → GSt w3 w.heap.size 9 1 f (k + 1) v' (cs ++ [.string x0]) ∧ Ext w w3 := by
        intro w3 v' hown hg hloc
        refine ⟨hG.push (w1 := wr.alloc _) ((Ext.refl _).alloc _) hE.le [.string x0] rfl (fun _ _ => False) (fun j hj => ?_) (fun j j' _ _ _ x hx => hx.elim) hown hg hloc, hG.grew (hE.alloc _) hg⟩
        obtain rfl : j = 0 := by omega
        rw [hd0]
        exact ⟨⟨rfl, z0⟩, trivial, fun x hx => hx.elim⟩
      cases hn : nameB x0
      · have hfin : Hid (lb = false) := hbad (by rw [hLk.out, hn]; rfl)
        go_wp2_with (go_at_call 57; refine (implNameOk_any _ _ z0).mono ?_; rintro e w' ⟨rfl, hw⟩; rw [hw, hn]; clear hw w')
        go_ret2
        exact ⟨_, _, _, by rw [hfin.out]; rfl, fun h => (by rw [hfin.out] at h; cases h), hE⟩
      · by_cases hk0 : k = 0
        · subst hk0
          have hok : Hid (labelB f 0 = true) := by show _ = _; rw [hLk.out, hn]; rfl
          replace e0 : wr.cell? ⟨b, off, none⟩ = some (.string x0) := by simpa using e0
          go_wp2_with (first | (go_at_call 57; refine (implNameOk_any _ _ z0).mono ?_; rintro e w' ⟨rfl, hw⟩; rw [hw, hn]; clear hw w') | (at_builtin; refine wpList_append_own_at _ rfl _ _ 54 rfl w.heap.size 9 i0 _ 1 16 Tryz.underlying54 hi hz0 hz1 hz2 rfl (by decide) _ _ _ rfl (hG.row.alloc _) ⟨wr.heap.size, 0, none⟩ 1 1 [.string x0] rfl rfl (cell_one_new _ _ _) (by simp [Value.oneCell']) (by unfold maxLen; omega) (by omega) (by have := hE.le; simp; omega) ?_; intro v' w3 hown' hgrow hnil hloc))
          go_roundw
          case rel =>
            obtain ⟨s1, s2⟩ := hstep hown' hgrow hloc
            exact ⟨1, _, by omega, by go_num, s1, s2, upto_succ hno hok.out⟩
          case measure => simp [intOf]; omega
        · obtain ⟨m, rfl⟩ : ∃ m, k = m + 1 := ⟨k - 1, by omega⟩
          obtain ⟨cap3, b3, off3, C3, hsl, _, hb3, ec3, hx3⟩ := (hv.ext hE).at (i := m) (by omega)
          cases hsl
          have HR := HRa m (by omega)
          obtain ⟨x1, hd1⟩ := (show Has (f m 0) .str from HR 0 (by decide)).str
          have h1 := hx3 0 (by decide)
          have e1 := ec3 0 (by decide)
          rw [hd1] at h1
          rw [h1.str_eq.1] at e1
          clear hx3 ec3 HR
          have e1 : wr.cell? ⟨b, off + m, none⟩ = some (.string x1) := by simpa using e1
          have hLk2 : Hid (labelB f (m + 1) = ltS x1 x0) := by show _ = _; rw [hLk.out, hn]; simp [hd1, D.str!]
          clear hLk
          have i0' : 0 ≤ (m : Int) + 1 := by omega
          have i1 : (m : Int) + 1 < (len : Int) := by omega
          have i2 : (m : Int) < (len : Int) := by omega
          have iw : IntKind.i64.wrap (m : Int) = m := wrap_i64 (by omega) (by omega)
          cases hcmp : Op.bytesLess x1.toList x0.toList
          · have hfin : Hid (lb = false) := hbad (by rw [hLk2.out]; exact hcmp)
            go_wp2_with (go_at_call 57; refine (implNameOk_any _ _ z0).mono ?_; rintro e w' ⟨rfl, hw⟩; rw [hw, hn]; clear hw w')
            go_ret2
            exact ⟨_, _, _, by rw [hfin.out]; rfl, fun h => (by rw [hfin.out] at h; cases h), hE⟩
          · have hok : Hid (labelB f (m + 1) = true) := by show _ = _; rw [hLk2.out]; exact hcmp
            go_wp2_with (first | (go_at_call 57; refine (implNameOk_any _ _ z0).mono ?_; rintro e w' ⟨rfl, hw⟩; rw [hw, hn]; clear hw w') | (at_builtin; refine wpList_append_own_at _ rfl _ _ 54 rfl w.heap.size 9 i0 _ 1 16 Tryz.underlying54 hi hz0 hz1 hz2 rfl (by decide) _ _ _ rfl (hG.row.alloc _) ⟨wr.heap.size, 0, none⟩ 1 1 [.string x0] rfl rfl (cell_one_new _ _ _) (by simp [Value.oneCell']) (by unfold maxLen; omega) (by omega) (by have := hE.le; simp; omega) ?_; intro v' w3 hown' hgrow hnil hloc))
            go_roundw
            case rel =>
              obtain ⟨s1, s2⟩ := hstep hown' hgrow hloc
              exact ⟨m + 1 + 1, _, by omega, by go_num, s1, s2, upto_succ hno hok.out⟩
            case measure => simp [intOf]; omega
    · have hkx : k = len := by omega
      subst hkx
      have hfin : Hid (lb = true) := by show _ = _; rw [HB.out, all_yes hno, decide_eq_true (by omega : k ≤ 3)]; rfl
      have hend := hG.end (by unfold maxLen; omega)
      go_wp2
      go_ret2
      exact ⟨_, _, _, by rw [hfin.out]; rfl, fun _ => hend, hE⟩

set_option maxRecDepth 4000 in
set_option maxHeartbeats 2000000 in
theorem propValue_any (x0 x1 : Int) (x2 : ByteArray) (d3 : D) (c3 : Value) (S : Nat → Prop) (w : World) (z0 : (Lit.int .i64 x0).wf = true) (z1 : (Lit.int .i64 x1).wf = true) (z2 : x2.size ≤ maxLen) (H3 : Has d3 (.list 2)) (h3 : DIn S w d3 c3) :
    Calls Tryz.prog 68 #[.agg #[.int .i64 x0, .int .i64 x1, .string x2, c3]] w fun e w' => ∃ y0 y1 y2 a l c, e = .returned (.tuple #[.agg #[.int .i64 y0, .int .i64 y1, .string y2, .slice a l c], .bool (okN 3 (.mk x0 x1 x2 (vsOf d3)) && plainB (.mk x0 x1 x2 (vsOf d3)))]) ∧
      ((okN 3 (.mk x0 x1 x2 (vsOf d3)) && plainB (.mk x0 x1 x2 (vsOf d3))) = true → y0 = x0 ∧ y1 = x1 ∧ y2 = x2 ∧ DIn (New w.heap.size w'.heap.size) w' d3 (.slice a l c) ∧ Own w' d3 (New w.heap.size w'.heap.size) (.slice a l c)) ∧ Ext w w' := by
  have hv := valIn_of z0 z1 z2 H3 h3
  have hcall := fun W (hW : Ext w W) => termOf_any _ 0 _ W (hv.ext hW)
  have hmb := fun (h : okN 3 (.mk x0 x1 x2 (vsOf d3)) = true) => mb_plain (.mk x0 x1 x2 (vsOf d3)) 3 h
  obtain ⟨a3, cap3, l3, f3, hD3, rfl, _, _⟩ := list_shape H3 h3
  clear hD3 h3 hv
  generalize hB : (okN 3 (V.mk x0 x1 x2 (vsOf d3)) && plainB (V.mk x0 x1 x2 (vsOf d3))) = B
  have HB : Hid ((okN 3 (V.mk x0 x1 x2 (vsOf d3)) && plainB (V.mk x0 x1 x2 (vsOf d3))) = B) := hB
  clear hB
  have HE0 : Ext w ((w.alloc (.cells #[.int .i64 x0, .int .i64 x1, .string x2, .slice a3 l3 cap3] 95)).alloc (.cells #[.int .i64 0, .int .i64 0, .string ⟨#[]⟩, .slice none 0 0] 95)) := ((Ext.refl _).alloc _).alloc _
  go_enter Tryz.func68, Tryz.ntmps68
  go_wp2_with fail
  refine (hcall _ HE0).mono ?_
  rintro e w1 ⟨t, rfl, hF, hT, hE1⟩
  clear hcall
  have hbx : ∀ W, Ext w1 W → W.cell? ⟨w.heap.size + 1, 0, none⟩ = some (.int .i64 0) ∧ W.cell? ⟨w.heap.size + 1, 1, none⟩ = some (.int .i64 0) ∧ W.cell? ⟨w.heap.size + 1, 2, none⟩ = some (.string ⟨#[]⟩) ∧ W.cell? ⟨w.heap.size + 1, 3, none⟩ = some (.slice none 0 0) := fun W hW => by
    have q := (bcell (hE1.trans hW)).1
    simp only [World.size_alloc] at q
    refine ⟨?_, ?_, ?_, ?_⟩ <;> (rw [q _ _ (by omega)]; simp)
  have hfz : ∀ W, Ext w1 W → ∀ o, W.frozen? ⟨w.heap.size + 1, o, none⟩ = false := fun W hW o => by
    have q := (bcell (hE1.trans hW)).2
    simp only [World.size_alloc] at q
    rw [q _ _ (by omega)]; simp
  have hz1 : w.heap.size + 2 ≤ w1.heap.size := by have := hE1.le; simp at this; omega
  cases ho : okN 3 (V.mk x0 x1 x2 (vsOf d3))
  · clear hT hmb
    have HO : Hid (B = false) := by show _ = _; rw [← HB.out, ho]; rfl
    obtain ⟨b0, b1, b2, b3⟩ := hbx w1 (Ext.refl _)
    have q0 := hfz w1 (Ext.refl _) 0
    have q1 := hfz w1 (Ext.refl _) 1
    have q2 := hfz w1 (Ext.refl _) 2
    have q3 := hfz w1 (Ext.refl _) 3
    rcases hF with rfl | ⟨ty, y, rfl⟩
    all_goals
      go_wp2
      refine bodyPost_ret (v := .tuple #[.agg #[.int .i64 0, .int .i64 0, .string ⟨#[]⟩, .slice none 0 0], .bool false]) (by simp [results, Tryz.results68, go_sem, b0, b1, b2, b3]) rfl ⟨_, _, _, _, _, _, by rw [HO.out], fun h => (by rw [HO.out] at h; cases h), ?_⟩
      exact ((((HE0.trans hE1).setCell (by simp) _).setCell (by simp) _).setCell (by simp) _).setCell (by simp) _
  · have hTI := hT ho
    have hm := hmb ho
    have hp := fun W (hW : Ext w1 W) => mayBeProp_any _ _ t W (hTI.ext hW)
    have hva := fun z W (hW : Ext w1 W) (e : t = .iface (tyV x0) z) => value_any _ x0 x1 x2 d3 3 _ z W rfl H3 ho (by rw [← e]; exact hTI.ext hW)
    obtain ⟨z, hz, hkind⟩ := hTI.tyv
    subst hz
    replace hva := fun W hW => hva z W hW rfl
    have hmeth := mval_any x0 hkind z
    have hent := enter_any x0 hkind z
    rw [hm] at hp
    clear hT hmb hF hTI
    cases hpl : plainB (V.mk x0 x1 x2 (vsOf d3))
    · have HO : Hid (B = false) := by show _ = _; rw [← HB.out, hpl]; exact Bool.and_false _
      rw [hpl] at hp
      clear hva
      obtain ⟨b0, b1, b2, b3⟩ := hbx w1 (Ext.refl _)
      have q0 := hfz w1 (Ext.refl _) 0
      have q1 := hfz w1 (Ext.refl _) 1
      have q2 := hfz w1 (Ext.refl _) 2
      have q3 := hfz w1 (Ext.refl _) 3
      go_wp2_with (go_at_call 88; refine (hp _ (Ext.refl _)).mono ?_; rintro e w2 ⟨rfl, hE2⟩; obtain ⟨b0, b1, b2, b3⟩ := hbx w2 hE2; have q0 := hfz w2 hE2 0; have q1 := hfz w2 hE2 1; have q2 := hfz w2 hE2 2; have q3 := hfz w2 hE2 3)
      refine bodyPost_ret (v := .tuple #[.agg #[.int .i64 0, .int .i64 0, .string ⟨#[]⟩, .slice none 0 0], .bool false]) (by simp [results, Tryz.results68, go_sem, *]) rfl ⟨_, _, _, _, _, _, by rw [HO.out], fun h => (by rw [HO.out] at h; cases h), ?_⟩
      exact (((((HE0.trans hE1).trans hE2).setCell (by simp) _).setCell (by simp) _).setCell (by simp) _).setCell (by simp) _
    · have HO : Hid (B = true) := by show _ = _; rw [← HB.out, hpl, ho]; rfl
      rw [hpl] at hp
      go_wp2_with (go_at_call 88; refine (hp _ (Ext.refl _)).mono ?_; rintro e w2 ⟨rfl, hE2⟩)
      refine (hva _ hE2).mono ?_
      rintro e w3 ⟨u, rfl, hDi, hOw, hE3⟩
      obtain ⟨a4, cap4, l4, f4, _, rfl, _, _⟩ := list_shape H3 hDi
      obtain ⟨b0, b1, b2, b3⟩ := hbx w3 (hE2.trans hE3)
      have q0 := hfz w3 (hE2.trans hE3) 0
      have q1 := hfz w3 (hE2.trans hE3) 1
      have q2 := hfz w3 (hE2.trans hE3) 2
      have q3 := hfz w3 (hE2.trans hE3) 3
      have hz2 := hE2.le
      have hz3 := hE3.le
      clear hp hva hmeth hent
      go_wp2
      have hnot : ¬ New w2.heap.size w3.heap.size (w.heap.size + 1) := fun h => by have := h.1; omega
      have hmono : ∀ x, New w2.heap.size w3.heap.size x → New w.heap.size w3.heap.size x := fun x h => ⟨by have := h.1; omega, h.2⟩
      refine bodyPost_ret (v := .tuple #[.agg #[.int .i64 x0, .int .i64 x1, .string x2, .slice a4 l4 cap4], .bool true]) (by simp [results, Tryz.results68, go_sem, b0, b1, b2, b3]) rfl ⟨_, _, _, _, _, _, by rw [HO.out], fun _ => ⟨rfl, rfl, rfl, ?_, ?_⟩, ?_⟩
      · simp only [World.size_setCell]
        exact ((((hDi.setCell hnot _).setCell hnot _).setCell hnot _).setCell hnot _).mono hmono
      · simp only [World.size_setCell]
        exact ((((hOw.setCell hnot _).setCell hnot _).setCell hnot _).setCell hnot _).mono hmono
      · exact ((((((HE0.trans hE1).trans hE2).trans hE3).setCell (by simp) _).setCell (by simp) _).setCell (by simp) _).setCell (by simp) _
end Go.Proofs.YtejahpkpmbnmkaaGreat
