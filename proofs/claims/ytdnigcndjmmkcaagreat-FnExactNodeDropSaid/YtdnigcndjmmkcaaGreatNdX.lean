/- What spec.l2DropNode answers. -/
import Derived.Test.YtdnigcndjmmkcaaGreatTk
import Derived.Test.YtdnigcndjmmkcaaGreatNdDef
import Derived.Test.YtdnigcndjmmkcaaGreatEdSpec
import Derived.Deep.DeepCutAuto
import Derived.Test.YtdnigcndjmmkcaaGreatEdN
import Derived.Test.YtdnigcndjmmkcaaGreatEoNet
import Derived.Test.YtdnigcndjmmkcaaGreatNeG
import Derived.Test.YtdnigcndjmmkcaaGreatNetOf
namespace Go.Proofs.YtdnigcndjmmkcaaGreat
open Go.RowKit Go.Deep

theorem blk4 {W : World} {b : Nat} {c0 c1 c2 c3 : Value} {T : TypeId} (h : W.heap[b]? = some (.cells #[c0, c1, c2, c3] T (0, 0))) :
    (W.cell? ⟨b, 0, none⟩ = some c0 ∧ W.cell? ⟨b, 1, none⟩ = some c1 ∧ W.cell? ⟨b, 2, none⟩ = some c2 ∧ W.cell? ⟨b, 3, none⟩ = some c3) ∧ ∀ o, W.frozen? ⟨b, o, none⟩ = false := by
  refine ⟨⟨?_, ?_, ?_, ?_⟩, fun o => ?_⟩
  all_goals first | (simp [World.cell?, h]; done) | (simp [World.frozen?, h]; done)
/-- Four cells of a box are written. -/
theorem blk4_set {W : World} {b : Nat} {c0 c1 c2 c3 : Value} {T : TypeId} (h : W.heap[b]? = some (.cells #[c0, c1, c2, c3] T (0, 0))) (v0 v1 v2 v3 : Value) :
    (((((W.setCell ⟨b, 0, none⟩ (v0)).setCell ⟨b, 1, none⟩ (v1)).setCell ⟨b, 2, none⟩ (v2)).setCell ⟨b, 3, none⟩ (v3))).heap[b]? = some (.cells #[v0, v1, v2, v3] T (0, 0)) := by
  have h0 := heap_set_same W b 0 _ T v0 h
  have h1 := heap_set_same _ b 1 _ T v1 h0
  have h2 := heap_set_same _ b 2 _ T v2 h1
  have h3 := heap_set_same _ b 3 _ T v3 h2
  rw [h3]
  simp
theorem chg4 {W : World} {b : Nat} (v0 v1 v2 v3 : Value) : Chg (fun x => x = b) W ((((W.setCell ⟨b, 0, none⟩ (v0)).setCell ⟨b, 1, none⟩ (v1)).setCell ⟨b, 2, none⟩ (v2)).setCell ⟨b, 3, none⟩ (v3)) := ((((Chg.refl (fun x => x = b) W).setCell (p := ⟨b, 0, none⟩) rfl _).setCell (p := ⟨b, 1, none⟩) rfl _).setCell (p := ⟨b, 2, none⟩) rfl _).setCell (p := ⟨b, 3, none⟩) rfl _

set_option maxRecDepth 100000 in
set_option maxHeartbeats 16000000 in
theorem l2DropNode_no (S : Nat → Prop) (d0 d1 : D) (id : Int) (detach : Bool) (c0 c1 : Value) (x2 x3 : Int) (w : World) (H0 : Has d0 (.list 4)) (h0 : DIn S w d0 c0) (H1 : Has d1 (.list 5)) (h1 : DIn S w d1 c1) (hS : ∀ x, S x → x < w.heap.size) (hi1 : incD d1) (hl1 : d1.len! ≤ 16) (hdet : detach = false) (hpos : 0 < (ndIds d1 id).length) :
    Calls Tryz.prog 16 #[.agg #[c0, c1, .int .i64 x2, .int .i64 x3], .int .i64 id, .bool detach] w fun e w' => ∃ u0 u1, e = .returned (.tuple #[.agg #[u0, u1, .int .i64 x2, .int .i64 x3], .bool false]) ∧ DIn (fun x => S x ∨ w.heap.size ≤ x ∧ x < w'.heap.size) w' (d0) u0 ∧ DIn (fun x => S x ∨ w.heap.size ≤ x ∧ x < w'.heap.size) w' (d1) u1 ∧ Ext w w' := by
  have hed := fun (W : World) (hW : Ext w W) (hc : ∃ a l c, c0 = .slice a l c) => l2Edges_any S d1 c0 c1 x2 x3 id 0 ⟨#[]⟩ W H1 (h1.ext hW) hc hl1
  change ∀ (W : World) (hW : Ext w W) (hc : ∃ a l c, c0 = .slice a l c), Calls Tryz.prog 35 #[.agg #[c0, c1, .int .i64 x2, .int .i64 x3], .int .i64 id, .int .i64 0, .string ⟨#[]⟩] W fun e w' => ∃ a l c, e = .returned (.slice a l c) ∧ DIn (New W.heap.size w'.heap.size) w' (intsD (ndIds d1 id)) (.slice a l c) ∧ Ext W w' at hed
  obtain ⟨ca0, ck0, cl0, f0, hq0, rfl, _, HRa⟩ := list_shape H0 h0
  obtain ⟨ca1, ck1, cl1, _, hq1, hc1, _, _⟩ := list_shape H1 h1
  clear hq1
  rw [hc1] at h1 hed
  rw [hc1]
  clear hc1
  have hil := ndIds_len d1 id
  have hnext := fun j hj => ndIds_next (j := j) (id := id) H1 hi1 hj
  have hstep := fun j hj => ndIds_step d1 id (j := j) hj
  have hleft := fun l => left_of H1 hi1 l
  obtain ⟨Wb, hWb⟩ : ∃ Wb, Wb = (w.alloc (.cells #[.slice ca0 cl0 ck0, .slice ca1 cl1 ck1, .int .i64 x2, .int .i64 x3] 30)).alloc (.cells #[.slice none 0 0, .slice none 0 0, .int .i64 0, .int .i64 0] 30) := ⟨_, rfl⟩
  obtain ⟨gb, hgb⟩ : ∃ m, m = w.heap.size := ⟨_, rfl⟩
  have hEw : Ext w Wb := by rw [hWb]; exact ((Ext.refl _).alloc _).alloc _
  have hzb : Wb.heap.size = gb + 2 := by rw [hWb, hgb]; simp
  have hzb1 := Nat.le_of_eq hzb
  have hzb2 := Nat.le_of_eq hzb.symm
  clear hzb
  have hblk0 : Wb.heap[gb]? = some (.cells #[.slice ca0 cl0 ck0, .slice ca1 cl1 ck1, .int .i64 x2, .int .i64 x3] 30 (0, 0)) := by
    rw [hWb, Below.block ((Ext.refl _).alloc _) _ (by rw [hgb]; simp), hgb]
    exact heap_alloc_new w _
  have hblk1 : Wb.heap[gb + 1]? = some (.cells #[.slice none 0 0, .slice none 0 0, .int .i64 0, .int .i64 0] 30 (0, 0)) := by
    have := heap_alloc_new (w.alloc (.cells #[.slice ca0 cl0 ck0, .slice ca1 cl1 ck1, .int .i64 x2, .int .i64 x3] 30)) (.cells #[.slice none 0 0, .slice none 0 0, .int .i64 0, .int .i64 0] 30)
    rw [World.size_alloc] at this
    rw [hWb, hgb]
    exact this
  have hgb1 : gb ≤ w.heap.size := Nat.le_of_eq hgb
  have hgb2 : w.heap.size ≤ gb := Nat.le_of_eq hgb.symm
  generalize hids : ndIds d1 id = ids at *
  clear hids
  obtain ⟨⟨p0, p1, p2, p3⟩, _⟩ := blk4 hblk0
  go_enter Tryz.func16, Tryz.ntmps16
  go_wp2_with fail
  rw [← hWb, ← hgb]
  clear hWb hgb
  refine (hed Wb hEw ⟨_, _, _, rfl⟩).mono ?_
  rintro e w1 ⟨la, ll, lc, rfl, hDl, hE1⟩
  clear p0 p1 p2 p3 hed
  have hz1 := hE1.le
  have hb0 := (Below.block hE1 gb (by omega)).trans hblk0
  have hb1 := (Below.block hE1 (gb + 1) (by omega)).trans hblk1
  have hE01 := hEw.trans hE1
  have hll : ll = ids.length := by
    obtain ⟨_, _, hla, _⟩ := hDl.list_eq
    injection hla
  subst hll
  obtain ⟨⟨p0, p1, p2, p3⟩, _⟩ := blk4 hb0
  obtain ⟨⟨t0, t1, t2, t3⟩, tf⟩ := blk4 hb1
  have tf0 := tf 0
  have tf1 := tf 1
  have tf2 := tf 2
  have tf3 := tf 3
  have hCf := chg4 (W := w1) (b := gb + 1) (.slice ca0 cl0 ck0) (.slice ca1 cl1 ck1) (.int .i64 x2) (.int .i64 x3)
  have hpos' : (0 : Int) < (ids.length : Int) := by omega
  have hX : Hid _ := And.intro (And.intro ((h0.ext hE01).carry hCf.size (fun b hb hl => hCf.block b hl (by have := hS b hb; omega))) ((h1.ext hE01).carry hCf.size (fun b hb hl => hCf.block b hl (by have := hS b hb; omega)))) (hCf.toExt hE01 (fun x hx => by omega))
  subst hdet
  clear hCf tf h0 h1 hDl
  go_wp2
  refine bodyPost_ret (v := .tuple #[.agg #[.slice ca0 cl0 ck0, .slice ca1 cl1 ck1, .int .i64 x2, .int .i64 x3], .bool false]) (by simp [results, Tryz.results16, go_sem, t0, t1, t2, t3]) rfl ⟨_, _, rfl, hX.out.1.1.mono (fun x hx => .inl hx), hX.out.1.2.mono (fun x hx => .inl hx), hX.out.2⟩

set_option maxRecDepth 100000 in
set_option maxHeartbeats 16000000 in
theorem l2DropNode_yes (S : Nat → Prop) (d0 d1 : D) (id : Int) (detach : Bool) (k : Nat) (c0 c1 : Value) (x2 x3 : Int) (w : World) (H0 : Has d0 (.list 4)) (h0 : DIn S w d0 c0) (H1 : Has d1 (.list 5)) (h1 : DIn S w d1 c1) (hS : ∀ x, S x → x < w.heap.size) (hk : edK d0 id = some k) (hi0 : incD d0) (hl0 : d0.len! ≤ 12) (hi1 : incD d1) (hl1 : d1.len! ≤ 16) (hb : detach = true ∨ (ndIds d1 id).length = 0) :
    Calls Tryz.prog 16 #[.agg #[c0, c1, .int .i64 x2, .int .i64 x3], .int .i64 id, .bool detach] w fun e w' => ∃ u0 u1, e = .returned (.tuple #[.agg #[u0, u1, .int .i64 x2, .int .i64 x3], .bool true]) ∧ DIn (fun x => S x ∨ w.heap.size ≤ x ∧ x < w'.heap.size) w' (dropL 3 d0 (some k)) u0 ∧ DIn (fun x => S x ∨ w.heap.size ≤ x ∧ x < w'.heap.size) w' (dropIds d1 (ndIds d1 id)) u1 ∧ Ext w w' := by
  have hed := fun (W : World) (hW : Ext w W) (hc : ∃ a l c, c0 = .slice a l c) => l2Edges_any S d1 c0 c1 x2 x3 id 0 ⟨#[]⟩ W H1 (h1.ext hW) hc hl1
  change ∀ (W : World) (hW : Ext w W) (hc : ∃ a l c, c0 = .slice a l c), Calls Tryz.prog 35 #[.agg #[c0, c1, .int .i64 x2, .int .i64 x3], .int .i64 id, .int .i64 0, .string ⟨#[]⟩] W fun e w' => ∃ a l c, e = .returned (.slice a l c) ∧ DIn (New W.heap.size w'.heap.size) w' (intsD (ndIds d1 id)) (.slice a l c) ∧ Ext W w' at hed
  obtain ⟨ca0, ck0, cl0, f0, hq0, rfl, _, HRa⟩ := list_shape H0 h0
  obtain ⟨ca1, ck1, cl1, _, hq1, hc1, _, _⟩ := list_shape H1 h1
  clear hq1
  rw [hc1] at h1 hed
  rw [hc1]
  clear hc1
  have hil := ndIds_len d1 id
  have hnext := fun j hj => ndIds_next (j := j) (id := id) H1 hi1 hj
  have hstep := fun j hj => ndIds_step d1 id (j := j) hj
  have hleft := fun l => left_of H1 hi1 l
  obtain ⟨Wb, hWb⟩ : ∃ Wb, Wb = (w.alloc (.cells #[.slice ca0 cl0 ck0, .slice ca1 cl1 ck1, .int .i64 x2, .int .i64 x3] 30)).alloc (.cells #[.slice none 0 0, .slice none 0 0, .int .i64 0, .int .i64 0] 30) := ⟨_, rfl⟩
  obtain ⟨gb, hgb⟩ : ∃ m, m = w.heap.size := ⟨_, rfl⟩
  have hEw : Ext w Wb := by rw [hWb]; exact ((Ext.refl _).alloc _).alloc _
  have hzb : Wb.heap.size = gb + 2 := by rw [hWb, hgb]; simp
  have hzb1 := Nat.le_of_eq hzb
  have hzb2 := Nat.le_of_eq hzb.symm
  clear hzb
  have hblk0 : Wb.heap[gb]? = some (.cells #[.slice ca0 cl0 ck0, .slice ca1 cl1 ck1, .int .i64 x2, .int .i64 x3] 30 (0, 0)) := by
    rw [hWb, Below.block ((Ext.refl _).alloc _) _ (by rw [hgb]; simp), hgb]
    exact heap_alloc_new w _
  have hblk1 : Wb.heap[gb + 1]? = some (.cells #[.slice none 0 0, .slice none 0 0, .int .i64 0, .int .i64 0] 30 (0, 0)) := by
    have := heap_alloc_new (w.alloc (.cells #[.slice ca0 cl0 ck0, .slice ca1 cl1 ck1, .int .i64 x2, .int .i64 x3] 30)) (.cells #[.slice none 0 0, .slice none 0 0, .int .i64 0, .int .i64 0] 30)
    rw [World.size_alloc] at this
    rw [hWb, hgb]
    exact this
  have hgb1 : gb ≤ w.heap.size := Nat.le_of_eq hgb
  have hgb2 : w.heap.size ≤ gb := Nat.le_of_eq hgb.symm
  generalize hids : ndIds d1 id = ids at *
  clear hids
  obtain ⟨⟨p0, p1, p2, p3⟩, _⟩ := blk4 hblk0
  go_enter Tryz.func16, Tryz.ntmps16
  go_wp2_with fail
  rw [← hWb, ← hgb]
  clear hWb hgb
  refine (hed Wb hEw ⟨_, _, _, rfl⟩).mono ?_
  rintro e w1 ⟨la, ll, lc, rfl, hDl, hE1⟩
  clear p0 p1 p2 p3 hed
  have hz1 := hE1.le
  have hb0 := (Below.block hE1 gb (by omega)).trans hblk0
  have hb1 := (Below.block hE1 (gb + 1) (by omega)).trans hblk1
  have hE01 := hEw.trans hE1
  have hll : ll = ids.length := by
    obtain ⟨_, _, hla, _⟩ := hDl.list_eq
    injection hla
  subst hll
  have hlc : Hid (∀ j (hj : j < ids.length), ∃ g off, la = some ⟨g, off, none⟩ ∧ Wb.heap.size ≤ g ∧ g < w1.heap.size ∧ w1.cell? ⟨g, off + j, none⟩ = some (.int .i64 ids[j]) ∧ (Lit.int .i64 ids[j]).wf = true) := fun j hj => by
    obtain ⟨cap2, g, off, C, hsl, hS2, hbl, ec, hx⟩ := hDl.at (show j < ids.length from hj)
    injection hsl with e1 _ _
    have k0 := hx 0 (by decide)
    have e0 := ec 0 (by decide)
    have ei : intsF ids j 0 = .int ids[j] := by simp [intsF, List.getD_eq_getElem?_getD, List.getElem?_eq_getElem hj]
    rw [ei] at k0
    obtain ⟨ek, wk⟩ := k0.int_eq
    rw [ek] at e0
    simp only [Nat.add_zero, Nat.mul_one] at e0
    exact ⟨g, off, e1, hS2.1, hbl, e0, wk⟩
  subst hq0
  obtain ⟨hkl, hkid, _⟩ := edK_some hk
  change k < cl0 at hkl
  change (f0 k 0).int! = id at hkid
  change ∀ i j, i < j → j < cl0 → (f0 i 0).int! < (f0 j 0).int! at hi0
  change cl0 ≤ 12 at hl0
  obtain ⟨cap2, bb, off, C, hca, hbb, hcd⟩ := din_cells h0 (show 0 < cl0 by omega)
  injection hca with hca1 _ hca2
  subst hca1 hca2
  have hne : ∀ i, i < cl0 → i ≠ k → (f0 i 0).int! ≠ id := fun i hi h => by
    rw [← hkid]
    rcases Nat.lt_or_gt_of_ne h with h | h
    · have := hi0 i k h hkl; omega
    · have := hi0 k i h hi; omega
  obtain ⟨i1, hi1', hz10, hz11, hz12⟩ := info_parts Tryz.infoNc
  have hSx : ∀ x, S x → x < gb := fun x hx => by have := hS x hx; omega
  have hbbl : ¬ (bb = gb) ∧ bb < gb := by omega
  have hcase : (detach = true ∧ (0 : Int) < (ids.length : Int)) ∨ ¬ (0 : Int) < (ids.length : Int) := by
    rcases hb with h | h
    · by_cases hp : (0 : Int) < (ids.length : Int)
      · exact .inl ⟨h, hp⟩
      · exact .inr hp
    · exact .inr (by omega)
  have hDl' := (show Hid _ from hDl)
  have hkid := (show Hid _ from hkid)
  clear hb hk hi0 hDl
  go_upto_region 2 with fail
  go_cut [21] (fun x wc => x = .bool false ∧ wc = w1)
  case first =>
    rcases hcase with ⟨rfl, hp⟩ | hp
    · go_wp2_with fail
      go_meet
      exact ⟨rfl, rfl⟩
    · go_wp2_with fail
      go_meet
      exact ⟨rfl, rfl⟩
  case rest =>
    obtain ⟨rfl, hwc⟩ := hcut
    have hwc' := hwc.symm
    subst hwc'
    clear hcase hwc
    go_wp2
    go_loopw [9] (fun i wr => ∃ (j : Nat) (v : Value), j ≤ ids.length ∧ i = .int .i64 j ∧ wr.heap[gb]? = some (.cells #[.slice (some ⟨bb, off, none⟩) cl0 ck0, v, .int .i64 x2, .int .i64 x3] 30 (0, 0)) ∧ DIn (fun x => S x ∨ gb + 2 ≤ x ∧ x < wr.heap.size) wr (dropIds d1 (ids.take j)) v ∧ Chg (fun x => x = gb) w1 wr) (fun i _ => ids.length - (intOf i).toNat)
    case atStart => exact ⟨0, _, Nat.zero_le _, rfl, hb0, (h1.ext hE01).mono (fun x hx => .inl hx), Chg.refl _ _⟩
    case round =>
      obtain ⟨j, v, hj, rfl, hbr, hDv, hC⟩ := hrel
      have hzr := hC.size
      obtain ⟨⟨p0, p1, p2, p3⟩, pf⟩ := blk4 hbr
      obtain ⟨va, vcap, vl, _, hqv, hv, _, _⟩ := list_shape (r := 5) (hleft _).has hDv
      subst hv
      clear hqv
      by_cases hlt : j < ids.length
      · obtain ⟨g, loff, hla, hg1, hg2, hcell, hwf⟩ := hlc.out j hlt
        subst hla
        obtain ⟨q, hq⟩ := hnext j hlt
        have hst : Hid (dropIds d1 (ids.take (j + 1)) = .list 5 ((dropIds d1 (ids.take j)).len! - 1) (dropF (dropIds d1 (ids.take j)).at! q)) := by show _ = _; rw [hstep j hlt, hq]; rfl
        have hdr := fun (W : World) (hW : Ext wr W) => l2DropEdge_any (fun x => S x ∨ gb + 2 ≤ x ∧ x < wr.heap.size) (dropIds d1 (ids.take j)) ids[j] q (.slice (some ⟨bb, off, none⟩) cl0 ck0) (.slice va vl vcap) x2 x3 W (hleft _).has (hDv.ext hW) (fun x hx => by have := hW.le; rcases hx with h | h; (have := hSx x h; omega); omega) hq (hleft _).inc ⟨_, _, _, rfl⟩ (by have := (hleft (ids.take j)).len; omega)
        have hgg : g ≠ gb := by omega
        go_upto_region 7 with fail
        have HK : Hid (∀ W, Chg (fun x => x = gb) wr.drew W → W.cell? ⟨g, loff + j, none⟩ = some (.int .i64 ids[j])) := fun W hW => by
          rw [World.cell?_of_block (hW.block g (by simp; omega) hgg)]
          exact (World.cell?_of_block (hC.block g hg2 hgg)).trans hcell
        have hcur : Chg (fun x => x = gb) wr.drew wr.drew := Chg.refl _ _
        have hEd : Ext wr wr.drew := (Ext.refl _).drew
        have hbd : wr.drew.heap[gb]? = some (.cells #[.slice (some ⟨bb, off, none⟩) cl0 ck0, .slice va vl vcap, .int .i64 x2, .int .i64 x3] 30 (0, 0)) := hbr
        refine wp_region_held_drew (S := (fun W => W.cell? ⟨g, loff + j, none⟩ = some (.int .i64 ids[j]))) (by kernel_rfl) (HK.out _ hcur) (fun hHeld => ?_)
        refine tkL 1 ⟨some 30, .move (.tmp 8), 70, _, #[], none⟩ ?_ hHeld ?yyA1 ?rrA1
        case yyA1 => (intro w hSw; (try dsimp only at hSw); go_simp; first | done | with_reducible rfl)
        try simp only [Act.put, putA, putB, putC]
        refine tkL 2 ⟨some 31, .move (.tmp 9), 3, _, #[], none⟩ ?_ hHeld ?yyA2 ?rrA2
        case yyA2 => (intro w hSw; (try dsimp only at hSw); go_simp; first | done | with_reducible rfl)
        try simp only [Act.put, putA, putB, putC]
        refine tkL 3 ⟨some 32, .indexAddr 70 (.tmp 30) (.tmp 31), 0, _, #[⟨1, .data⟩, ⟨2, .data⟩], none⟩ ?_ hHeld ?yyA3 ?rrA3
        case yyA3 => (intro w hSw; (try dsimp only at hSw); go_simp; first | done | with_reducible rfl)
        try simp only [Act.put, putA, putB, putC]
        refine tkL 4 ⟨some 33, .load 3 (.tmp 32), 3, _, #[⟨3, .data⟩], none⟩ ?_ hHeld ?yyA4 ?rrA4
        case yyA4 => (intro w hSw; (try dsimp only at hSw); go_simp; first | done | with_reducible rfl)
        try simp only [Act.put, putA, putB, putC]
        generalize wr.drew = Wo at *
        obtain ⟨⟨o0, o1, o2, o3⟩, _⟩ := blk4 hbd
        refine wpAnyH_ready (rs := [0]) (by kernel_rfl) (by simp) ?_
        refine AllReadyH.cons (o := ⟨some 29, .load 30 (.tmp 3), 30, _, #[], none⟩) rfl (fun K hK => ?_) (AllReadyH.nil)
        go_simp
        refine hK.out _ _ (HK.out _ hcur) (fun hHeld => ?_)
        clear hK K o0 o1 o2 o3
        try simp only [Act.put, putA, putB, putC]
        refine wpAnyH_ready (rs := [5]) (by kernel_rfl) (by simp) ?_
        refine AllReadyH.cons (o := ⟨some 34, .call { callee := .value (.func 36), args := #[.tmp 29, .tmp 33], argTypes := #[30, 3] }, 30, _, #[⟨0, .data⟩, ⟨4, .data⟩], none⟩) rfl (fun K hK => ?_) (AllReadyH.nil)
        go_simp
        refine (hdr Wo hEd).mono ?_
        rintro e w5 ⟨v5, rfl, hD5, hE5⟩
        have hs5 := hE5.le
        have hs0 := hEd.le
        have hb5 := (Below.block hE5 gb (lt_of_block hbd)).trans hbd
        obtain ⟨va5, vc5, hv5, _⟩ := hD5.list_eq
        subst hv5
        go_wp2_with fail
        refine hK.out _ _ (HK.out _ (Chg.of_ext hE5)) (fun hHeld => ?_)
        clear hK K
        try simp only [Act.put, putA, putB, putC]
        obtain ⟨⟨o0, o1, o2, o3⟩, of⟩ := blk4 hb5
        have of0 := of 0
        have of1 := of 1
        have of2 := of 2
        have of3 := of 3
        refine wpAnyH_ready (rs := [6]) (by kernel_rfl) (by simp) ?_
        refine AllReadyH.cons (o := ⟨none, .store 30 (.tmp 3) (.tmp 34), 0, _, #[⟨5, .data⟩, ⟨5, .chain⟩, ⟨0, .phase⟩, ⟨1, .phase⟩, ⟨2, .phase⟩, ⟨3, .phase⟩, ⟨4, .phase⟩, ⟨5, .phase⟩], none⟩) rfl (fun K hK => ?_) (AllReadyH.nil)
        go_simp
        refine hK.out _ _ (HK.out _ ((Chg.of_ext hE5).trans (chg4 _ _ _ _))) (fun hHeld => ?_)
        clear hK K
        try simp only [Act.put, putA, putB, putC]
        refine wpAnyH_done (by kernel_rfl) ?_ _
        have hCn := (hC.trans (Chg.of_ext (hEd.trans hE5))).trans (chg4 (W := w5) (b := gb) (.slice (some ⟨bb, off, none⟩) cl0 ck0) (.slice va5 ((dropIds d1 (ids.take j)).len! - 1) vc5) (.int .i64 x2) (.int .i64 x3))
        have hBn := blk4_set hb5 (.slice (some ⟨bb, off, none⟩) cl0 ck0) (.slice va5 ((dropIds d1 (ids.take j)).len! - 1) vc5) (.int .i64 x2) (.int .i64 x3)
        have hDn := (hD5.carry (chg4 (W := w5) (b := gb) (.slice (some ⟨bb, off, none⟩) cl0 ck0) (.slice va5 ((dropIds d1 (ids.take j)).len! - 1) vc5) (.int .i64 x2) (.int .i64 x3)).size (fun b hb hl => (chg4 (W := w5) (b := gb) _ _ _ _).block b hl (fun e => by subst e; rcases hb with (h | h) | h; (have := hSx _ h; omega); omega; omega))).mono (S' := fun x => S x ∨ gb + 2 ≤ x ∧ x < ((((w5.setCell ⟨gb, 0, none⟩ (.slice (some ⟨bb, off, none⟩) cl0 ck0)).setCell ⟨gb, 1, none⟩ (.slice va5 ((dropIds d1 (ids.take j)).len! - 1) vc5)).setCell ⟨gb, 2, none⟩ (.int .i64 x2)).setCell ⟨gb, 3, none⟩ (.int .i64 x3)).heap.size) (fun x hx => by
          rcases hx with (h | h) | h
          · exact .inl h
          · exact .inr ⟨h.1, by simp only [World.size_setCell]; omega⟩
          · exact .inr ⟨by omega, by simp only [World.size_setCell]; omega⟩)
        rw [← hst.out] at hDn
        clear hHeld HK hst hdr hcur
        go_wp2
        go_roundw
        case rel => exact ⟨j + 1, _, by omega, by go_num, hBn, hDn, hCn⟩
        case measure => simp [intOf]; omega
      · have hje : j = ids.length := by omega
        subst hje
        rw [List.take_length] at hDv
        have hEr : Ext w wr := hC.toExt hE01 (fun x hx => by omega)
        have hb1r := (hC.block (gb + 1) (by omega) (by omega)).trans hb1
        clear hnext hstep hleft hC hlc hDl'
        obtain ⟨w2, hw2⟩ : ∃ m, m = wr := ⟨_, rfl⟩
        subst hw2
        obtain ⟨⟨q0, q1, q2, q3⟩, qf⟩ := blk4 hb1r
        have hcd' : ∀ i, i < cl0 → ∀ c, c < 3 → w.cell? ⟨bb, off + i * 3 + c, none⟩ = some (C i c) ∧ DIn S w (f0 i c) (C i c) := hcd
        clear hcd p0 p1 p2 p3 pf q0 q1 q2 q3 qf
        have hmade : (w2.alloc (.cells #[] 62)).ownsRow w2.heap.size 62 3 (.slice (some ⟨w2.heap.size, 0, none⟩) 0 0) (leftN k 0) (rowCells 3 (dropC C k) (leftN k 0)) := by
          have := World.ownsRow_made (e := 62) (size := 3) (base := w2.heap.size) w2 #[] 0 (Nat.le_refl _) (Nat.zero_le _) (by simp)
          rw [show leftN k 0 = 0 by simp [leftN]]
          simpa [rowCells] using this
        go_wp2
        go_loopw [10, 11] (fun u i wr => ∃ j : Nat, j ≤ cl0 ∧ i = .int .i64 j ∧ wr.ownsRow w2.heap.size 62 3 u (leftN k j) (rowCells 3 (dropC C k) (leftN k j)) ∧ Ext w2 wr) (fun _ i _ => cl0 - (intOf i).toNat)
        case atStart => exact ⟨0, Nat.zero_le _, rfl, hmade, (Ext.refl _).alloc _⟩
        case round =>
          clear hmade
          obtain ⟨j, hj, rfl, hown, hB⟩ := hrel
          obtain ⟨ua, ucap, rfl⟩ := row_shape hown
          have hlj := leftN_le k j
          have hbz := (Below.block hB gb (by omega)).trans hbr
          have hb1z := (Below.block hB (gb + 1) (by omega)).trans hb1r
          obtain ⟨⟨p0, p1, p2, p3⟩, pf⟩ := blk4 hbz
          have hE := hEr.trans hB
          have hzz := hB.le
          by_cases hlt : j < cl0
          · have ec := fun c (hc : c < 3) => (hE.cell (p := ⟨bb, off + j * 3 + c, none⟩) hbb).trans (hcd' j hlt c hc).1
            have hx := fun c (hc : c < 3) => (hcd' j hlt c hc).2
            have HR := HRa j hlt
            obtain ⟨y0, g0⟩ := (show Has (f0 j 0) .int from HR 0 (by decide)).int
            have k0' := hx 0 (by decide)
            obtain ⟨ya, yc, yl, _, _, v1, _, _⟩ := list_shape (r := 0) (show Has (f0 j 1) (.list 0) from HR 1 (by decide)) (hx 1 (by decide))
            obtain ⟨za, zc, zl, _, _, v2, _, _⟩ := list_shape (r := 3) (show Has (f0 j 2) (.list 3) from HR 2 (by decide)) (hx 2 (by decide))
            rw [g0] at k0'
            have v0 := k0'.int_eq.1
            have e0 := ec 0 (by decide)
            have e1 := ec 1 (by decide)
            have e2 := ec 2 (by decide)
            rw [v0] at e0
            rw [v1] at e1
            rw [v2] at e2
            simp only [Nat.add_zero] at e0
            have hrow : Hid ((List.range 3).map (C j) = [.int .i64 y0, .slice ya yl yc, .slice za zl zc]) := by
              show [C j 0, C j 1, C j 2] = _
              rw [v0, v1, v2]
            have hy0 : (f0 j 0).int! = y0 := by rw [g0]; rfl
            clear ec hx HR g0 k0' v0 v1 v2
            by_cases hjk : j = k
            · have hyid : (y0 == id) = true := by
                rw [beq_iff_eq, ← hy0, hjk]; exact hkid.out
              have hlk : Hid (leftN k (j + 1) = leftN k j) := by show _ = _; rw [hjk]; exact leftN_k k
              have hyid' : y0 = id := by simpa using hyid
              clear hy0 hjk hyid
              subst hyid'
              go_wp2
              go_roundw
              case rel => exact ⟨j + 1, by omega, by go_num, by rw [hlk.out]; exact hown, hB⟩
              case measure => show cl0 - ((j : Int) + 1).toNat < cl0 - (j : Int).toNat; omega
            · have hyid : (y0 == id) = false := by have := hne j hlt hjk; rw [hy0] at this; simpa using this
              obtain ⟨hk1, hk2⟩ := leftN_at (C := C) hjk
              have hcs : Hid (rowCells 3 (dropC C k) (leftN k (j + 1)) = rowCells 3 (dropC C k) (leftN k j) ++ [.int .i64 y0, .slice ya yl yc, .slice za zl zc]) := by
                show _ = _
                rw [hk1]
                show rowCells 3 (dropC C k) (leftN k j) ++ (List.range 3).map (dropC C k (leftN k j)) = _
                rw [hk2, hrow.out]
              have hk1' : Hid (leftN k (j + 1) = leftN k j + 1) := hk1
              clear hk1 hk2 hy0 hjk
              generalize leftN k j = ln at *
              go_wp2_with (at_builtin; refine wpList_append_own_at _ rfl _ _ 27 rfl w2.heap.size 62 i1 _ 3 56 Tryz.underlying27 hi1' hz10 hz11 hz12 rfl (by decide) _ _ _ rfl (hown.alloc _) ⟨_, 0, none⟩ 1 1 [.int .i64 y0, .slice ya yl yc, .slice za zl zc] rfl rfl (World.news_of_block (cs := #[.int .i64 y0, .slice ya yl yc, .slice za zl zc]) (t := 62) (fr := (0, 0)) (heap_alloc_new _ _)) (by simp [Value.oneCell']) (by unfold maxLen; omega) (by omega) (by simp; omega) ?_; intro v' w3 hown' hgrow hnil hloc)
              clear hcd' hne
              go_roundw
              case rel => exact ⟨j + 1, by omega, by go_num, by have h2 := hcs.out; rw [hk1'.out] at h2 ⊢; rw [h2]; exact hown', Below.grown (hB.trans ((Ext.refl wr).alloc _)) hgrow (by simp; omega) (fun x hx => (hown.lt x hx).1)⟩
              case measure => show cl0 - ((j : Int) + 1).toNat < cl0 - (j : Int).toNat; omega
          · have hje : j = cl0 := by omega
            subst hje
            have hln : leftN k j = j - 1 := by unfold leftN; rw [if_neg (by omega)]
            rw [hln] at hown ⊢
            obtain ⟨⟨t0, t1, t2, t3⟩, tf⟩ := blk4 hb1z
            have pf0 := pf 0
            have tf0 := tf 0
            have tf1 := tf 1
            have tf2 := tf 2
            have tf3 := tf 3
            have hdin : DIn (fun x => S x ∨ w2.heap.size ≤ x ∧ x < wr.heap.size) wr (.list 3 (j - 1) (dropF f0 k)) (.slice ua (j - 1) ucap) := by
              refine rows_din hown (fun i hi c hc => ?_) (by unfold maxLen; omega)
              unfold dropF dropC
              split
              · exact (hcd' i (by omega) c hc).2.ext hE
              · exact (hcd' (i + 1) (by omega) c hc).2.ext hE
            have hDz := hDv.ext hB
            have hX : ∀ v0 v1 v2 v3 v4 : Value, Hid (DIn (fun x => S x ∨ w.heap.size ≤ x ∧ x < (((((wr.setCell ⟨gb, 0, none⟩ v0).setCell ⟨gb + 1, 0, none⟩ (v1)).setCell ⟨gb + 1, 1, none⟩ (v2)).setCell ⟨gb + 1, 2, none⟩ (v3)).setCell ⟨gb + 1, 3, none⟩ (v4)).heap.size) (((((wr.setCell ⟨gb, 0, none⟩ v0).setCell ⟨gb + 1, 0, none⟩ (v1)).setCell ⟨gb + 1, 1, none⟩ (v2)).setCell ⟨gb + 1, 2, none⟩ (v3)).setCell ⟨gb + 1, 3, none⟩ (v4)) (.list 3 (j - 1) (dropF f0 k)) (.slice ua (j - 1) ucap) ∧ DIn (fun x => S x ∨ w.heap.size ≤ x ∧ x < (((((wr.setCell ⟨gb, 0, none⟩ v0).setCell ⟨gb + 1, 0, none⟩ (v1)).setCell ⟨gb + 1, 1, none⟩ (v2)).setCell ⟨gb + 1, 2, none⟩ (v3)).setCell ⟨gb + 1, 3, none⟩ (v4)).heap.size) (((((wr.setCell ⟨gb, 0, none⟩ v0).setCell ⟨gb + 1, 0, none⟩ (v1)).setCell ⟨gb + 1, 1, none⟩ (v2)).setCell ⟨gb + 1, 2, none⟩ (v3)).setCell ⟨gb + 1, 3, none⟩ (v4)) (dropIds d1 ids) (.slice va vl vcap) ∧ Ext w (((((wr.setCell ⟨gb, 0, none⟩ v0).setCell ⟨gb + 1, 0, none⟩ (v1)).setCell ⟨gb + 1, 1, none⟩ (v2)).setCell ⟨gb + 1, 2, none⟩ (v3)).setCell ⟨gb + 1, 3, none⟩ (v4))) := fun v0 v1 v2 v3 v4 => by
              have hC5 := ((Chg.refl (fun x => x = gb ∨ x = gb + 1) wr).setCell (p := ⟨gb, 0, none⟩) (.inl rfl) v0).trans ((chg4 (W := wr.setCell ⟨gb, 0, none⟩ v0) (b := gb + 1) v1 v2 v3 v4).mono (fun x hx => .inr hx))
              refine ⟨(hdin.carry hC5.size (fun b hb hl => hC5.block b hl (by rcases hb with h | h; (have := hSx b h; omega); omega))).mono (fun x hx => ?_), (hDz.carry hC5.size (fun b hb hl => hC5.block b hl (by rcases hb with h | h; (have := hSx b h; omega); omega))).mono (fun x hx => ?_), hC5.toExt hE (fun x hx => by omega)⟩
              · rcases hx with h | h
                · exact .inl h
                · exact .inr ⟨by omega, by simp only [World.size_setCell]; exact h.2⟩
              · rcases hx with h | h
                · exact .inl h
                · exact .inr ⟨by omega, by simp only [World.size_setCell]; omega⟩
            clear hdin hcd' hne hown hDz tf pf
            go_wp2
            refine bodyPost_ret (v := .tuple #[.agg #[.slice ua (j - 1) ucap, .slice va vl vcap, .int .i64 x2, .int .i64 x3], .bool true]) (by simp [results, Tryz.results16, go_sem, t0, t1, t2, t3]) rfl ⟨_, _, rfl, ?_, ?_, (hX _ _ _ _ _).out.2.2⟩
            · exact (hX (.slice ua (j - 1) ucap) (.slice ua (j - 1) ucap) (.slice va vl vcap) (.int .i64 x2) (.int .i64 x3)).out.1
            · exact (hX (.slice ua (j - 1) ucap) (.slice ua (j - 1) ucap) (.slice va vl vcap) (.int .i64 x2) (.int .i64 x3)).out.2.1
end Go.Proofs.YtdnigcndjmmkcaaGreat

/- What the net's method dropNode does. -/
namespace Go.Proofs.YtdnigcndjmmkcaaGreat
open Go.RowKit Go.Deep

/-- A net that has these nodes and edges. -/
structure NetDat (w : World) (base : Nat) (N : NetD) (S0 S1 : Nat → Prop) (d0 d1 : D) : Prop where
  net : NetIn w base 100 N
  ln : N.lists .n = idsOf d0.at! d0.len!
  le : N.lists .e = idsOf d1.at! d1.len!
  kn : ∀ x, x ∈ N.keys .n ↔ x ∈ idsOf d0.at! d0.len!
  ke : ∀ x, x ∈ N.keys .e ↔ x ∈ idsOf d1.at! d1.len!
  rn : RowsS w N S0 .n 3 d0.at! d0.len!
  re : RowsS w N S1 .e 5 d1.at! d1.len!
theorem NetDat.ext {w w' : World} {base : Nat} {N : NetD} {S0 S1 : Nat → Prop} {d0 d1 : D} (h : NetDat w base N S0 S1 d0 d1) (e : Ext w w') : NetDat w' base N S0 S1 d0 d1 :=
  ⟨h.net.ext e, h.ln, h.le, h.kn, h.ke, h.rn.step (NStep.ext N e) (fun _ _ => rfl), h.re.step (NStep.ext N e) (fun _ _ => rfl)⟩
/-- An edge is taken away. -/
theorem NetDat.dropE {w w' : World} {base : Nat} {N : NetD} {S0 S1 : Nat → Prop} {d0 d1 : D} (h : NetDat w base N S0 S1 d0 d1) {id x y : Int} {k : Nat} {u1 u2 u3 : Value} (hinc : incD d1) (hk : edK d1 id = some k) (hN : NetIn w' base 100 (dropN N id x y u1 u2 u3)) (st : NStep w N w' (dropN N id x y u1 u2 u3)) :
    NetDat w' base (dropN N id x y u1 u2 u3) S0 S1 d0 (edL d1 (edK d1 id)) := by
  obtain ⟨hkl, hkid, _⟩ := edK_some hk
  have hat : (idsOf d1.at! d1.len!)[k]? = some id := by unfold idsOf; rw [List.getElem?_map, List.getElem?_range hkl]; exact congrArg some hkid
  have hnd := ids_nodup hinc
  rw [hk]
  refine ⟨hN, (dropN_ln _ _ _ _ _ _ _).trans h.ln, ?_, fun z => ?_, fun z => ?_, h.rn.step st (fun _ _ => by rw [dropN_vn]), (h.re.step st (fun _ _ => by rw [dropN_ve])).drop hkl⟩
  · rw [dropN_le, h.le, less_at hnd hat, ← ids_drop hkl]; rfl
  · rw [dropN_kn]; exact h.kn z
  · rw [dropN_ke, mem_less, h.ke, ← mem_less, less_at hnd hat, ← ids_drop hkl]; rfl
/-- A node is taken away. -/
theorem NetDat.dropNd {w w' : World} {base : Nat} {N : NetD} {S0 S1 : Nat → Prop} {d0 d1 : D} (h : NetDat w base N S0 S1 d0 d1) {id : Int} {k : Nat} {u : Value} (hinc : incD d0) (hk : edK d0 id = some k) (hN : NetIn w' base 100 ((N.setr .n u (less (N.lists .n) id)).del .n id)) (st : NStep w N w' ((N.setr .n u (less (N.lists .n) id)).del .n id)) :
    NetDat w' base ((N.setr .n u (less (N.lists .n) id)).del .n id) S0 S1 (dropL 3 d0 (edK d0 id)) d1 := by
  obtain ⟨hkl, hkid, _⟩ := edK_some hk
  have hat : (idsOf d0.at! d0.len!)[k]? = some id := by unfold idsOf; rw [List.getElem?_map, List.getElem?_range hkl]; exact congrArg some hkid
  have hnd := ids_nodup hinc
  rw [hk]
  refine ⟨hN, ?_, ?_, fun z => ?_, fun z => ?_, (h.rn.step st (fun _ _ => rfl)).drop hkl, h.re.step st (fun _ _ => rfl)⟩
  · show upd N.lists .n (less (N.lists .n) id) .n = _
    rw [upd_same, h.ln, less_at hnd hat, ← ids_drop hkl]; rfl
  · show upd N.lists .n (less (N.lists .n) id) .e = _
    rw [upd_other _ _ _ (by decide)]; exact h.le
  · show z ∈ upd N.keys .n (less (N.keys .n) id) .n ↔ _
    rw [upd_same, mem_less, h.kn, ← mem_less, less_at hnd hat, ← ids_drop hkl]; rfl
  · show z ∈ upd N.keys .n (less (N.keys .n) id) .e ↔ _
    rw [upd_other _ _ _ (by decide)]; exact h.ke z
/-- What dropNode leaves. -/
inductive NdPost (w : World) (base : Nat) (N : NetD) (S0 S1 : Nat → Prop) (d0 d1 : D) (b : Bool) : Ending → World → Prop
  | mk (N' : NetD) (w' : World) (hD : NetDat w' base N' S0 S1 d0 d1) (st : NStep w N w' N') (hn : N'.nb = N.nb ∧ N'.nn = N.nn ∧ N'.ne = N.ne) : NdPost w base N S0 S1 d0 d1 b (.returned (.bool b)) w'

set_option maxRecDepth 100000 in
set_option maxHeartbeats 8000000 in
theorem dropNode_no (w : World) (base : Nat) (N : NetD) (mid hi0 : Nat) (S0 S1 : Nat → Prop) (d0 d1 : D) (id : Int) (detach : Bool) (h : NetDat w base N S0 S1 d0 d1) (H1 : Has d1 (.list 5)) (hinc : incD d1) (hoi : RowsOI N d1.at! d1.len!) (hre : RowsD w N mid hi0 .e 5 d1.at! d1.len!) (hl : d1.len! ≤ 16) (zid : (Lit.int .i64 id).wf = true) (hb : id ∉ N.keys .n ∨ (detach = false ∧ 0 < (ndIds d1 id).length)) :
    Calls Tryz.prog 20 #[.pointer (some ⟨N.nb, 0, none⟩), .int .i64 id, .bool detach] w (NdPost w base N S0 S1 d0 d1 false) := by
  have HR1 : ∀ i, i < d1.len! → HasRow 5 (d1.at! i) := by
    obtain ⟨len1, f1, hd1, HR⟩ := H1.list
    rw [hd1]
    exact HR
  have hed := netEdgesOf_any w base mid hi0 N d1.at! d1.len! id 0 ⟨#[]⟩ h.net HR1 hinc hoi h.ke hre hl zid
  rw [eoN_in hinc (by decide) (by decide)] at hed
  change Calls Tryz.prog 44 #[.pointer (some ⟨N.nb, 0, none⟩), .int .i64 id, .int .i64 0, .string ⟨#[]⟩] w fun e w' => ∃ a l c, e = .returned (.slice a l c) ∧ DIn (New w.heap.size w'.heap.size) w' (intsD (ndIds d1 id)) (.slice a l c) ∧ Own w' (intsD (ndIds d1 id)) (New w.heap.size w'.heap.size) (.slice a l c) ∧ w'.ownsRow w.heap.size 3 1 (.slice a l c) (ndIds d1 id).length ((ndIds d1 id).map (Value.int .i64)) ∧ Ext w w' at hed
  have hhas := fun (W : World) (hW : Ext w W) => hasNode_any W base 100 N id (h.net.ext hW) zid
  generalize hids : ndIds d1 id = ids at *
  clear hids hoi hre hinc HR1
  go_enter Tryz.func20, Tryz.ntmps20
  go_wp2_with fail
  refine hed.mono ?_
  rintro e w1 ⟨la, ll, lc, rfl, _, _, ho, hE1⟩
  have hll : ll = ids.length := by
    obtain ⟨_, _, e, _⟩ := ownI_shape ho
    injection e
  subst hll
  clear hed ho
  have hh := hhas w1 hE1
  rcases hb with hb | ⟨rfl, hb⟩
  · rw [decide_eq_false hb] at hh
    go_wp2_with (go_at_call 45; refine hh.mono ?_; rintro e w2 ⟨rfl, hE2⟩)
    go_ret
    exact .mk N _ (h.ext (hE1.trans hE2)) (NStep.ext N (hE1.trans hE2)) ⟨rfl, rfl, rfl⟩
  · have hpos : (0 : Int) < (ids.length : Int) := by omega
    cases hd : decide (id ∈ N.keys .n)
    · rw [hd] at hh
      clear hd
      go_wp2_with (go_at_call 45; refine hh.mono ?_; rintro e w2 ⟨rfl, hE2⟩)
      go_ret
      exact .mk N _ (h.ext (hE1.trans hE2)) (NStep.ext N (hE1.trans hE2)) ⟨rfl, rfl, rfl⟩
    · rw [hd] at hh
      clear hd
      go_wp2_with (go_at_call 45; refine hh.mono ?_; rintro e w2 ⟨rfl, hE2⟩)
      go_ret
      exact .mk N _ (h.ext (hE1.trans hE2)) (NStep.ext N (hE1.trans hE2)) ⟨rfl, rfl, rfl⟩

set_option maxRecDepth 100000 in
set_option maxHeartbeats 8000000 in
theorem dropNode_yes (w : World) (base : Nat) (N : NetD) (mid hi0 : Nat) (S0 S1 : Nat → Prop) (d0 d1 : D) (id : Int) (detach : Bool) (k : Nat) (h : NetDat w base N S0 S1 d0 d1) (H1 : Has d1 (.list 5)) (hinc0 : incD d0) (hinc : incD d1) (hoi : RowsOI N d1.at! d1.len!) (hre : RowsD w N mid hi0 .e 5 d1.at! d1.len!) (hl : d1.len! ≤ 16) (zid : (Lit.int .i64 id).wf = true) (hk : edK d0 id = some k) (hb : detach = true ∨ (ndIds d1 id).length = 0) :
    Calls Tryz.prog 20 #[.pointer (some ⟨N.nb, 0, none⟩), .int .i64 id, .bool detach] w (NdPost w base N S0 S1 (dropL 3 d0 (edK d0 id)) (dropIds d1 (ndIds d1 id)) true) := by
  have HR1 : ∀ i, i < d1.len! → HasRow 5 (d1.at! i) := by
    obtain ⟨len1, f1, hd1, HR⟩ := H1.list
    rw [hd1]
    exact HR
  have hed := netEdgesOf_any w base mid hi0 N d1.at! d1.len! id 0 ⟨#[]⟩ h.net HR1 hinc hoi h.ke hre hl zid
  rw [eoN_in hinc (by decide) (by decide)] at hed
  change Calls Tryz.prog 44 #[.pointer (some ⟨N.nb, 0, none⟩), .int .i64 id, .int .i64 0, .string ⟨#[]⟩] w fun e w' => ∃ a l c, e = .returned (.slice a l c) ∧ DIn (New w.heap.size w'.heap.size) w' (intsD (ndIds d1 id)) (.slice a l c) ∧ Own w' (intsD (ndIds d1 id)) (New w.heap.size w'.heap.size) (.slice a l c) ∧ w'.ownsRow w.heap.size 3 1 (.slice a l c) (ndIds d1 id).length ((ndIds d1 id).map (Value.int .i64)) ∧ Ext w w' at hed
  have hhas := fun (W : World) (hW : Ext w W) => hasNode_any W base 100 N id (h.net.ext hW) zid
  have hin : id ∈ N.keys .n := by
    obtain ⟨h1, h2, _⟩ := edK_some hk
    rw [h.kn, ← h2]
    exact mem_ids h1
  have hnext := fun j hj => ndIds_next (j := j) (id := id) H1 hinc hj
  have hstep := fun j hj => ndIds_step d1 id (j := j) hj
  have hleft := fun l => left_of H1 hinc l
  have hil := ndIds_len d1 id
  generalize hids : ndIds d1 id = ids at *
  clear hids hoi hre HR1
  rw [decide_eq_true hin] at hhas
  clear hin
  have hcase : (detach = true ∧ (0 : Int) < (ids.length : Int)) ∨ ¬ (0 : Int) < (ids.length : Int) := by
    rcases hb with h | h
    · by_cases hp : (0 : Int) < (ids.length : Int)
      · exact .inl ⟨h, hp⟩
      · exact .inr hp
    · exact .inr (by omega)
  clear hb
  go_enter Tryz.func20, Tryz.ntmps20
  go_wp2_with fail
  refine hed.mono ?_
  rintro e w1 ⟨la, ll, lc, rfl, _, _, ho, hE1⟩
  have hll : ll = ids.length := by
    obtain ⟨_, _, e, _⟩ := ownI_shape ho
    injection e
  subst hll
  clear hed
  have hh := hhas w1 hE1
  go_upto_region 2 with fail
  go_cut [27] (fun x wc => x = .bool false ∧ Ext w1 wc)
  case first =>
    rcases hcase with ⟨rfl, hp⟩ | hp
    · go_wp2_with (go_at_call 45; refine hh.mono ?_; rintro e w2 ⟨rfl, hE2⟩)
      go_meet
      exact ⟨rfl, hE2⟩
    · go_wp2_with (go_at_call 45; refine hh.mono ?_; rintro e w2 ⟨rfl, hE2⟩)
      go_meet
      exact ⟨rfl, hE2⟩
  case rest =>
    obtain ⟨rfl, hE2⟩ := hcut
    obtain ⟨w2, hw2⟩ : ∃ m, m = wc := ⟨_, rfl⟩
    subst hw2
    have hD2 := h.ext (hE1.trans hE2)
    have hlist : Hid (∀ j (hj : j < ids.length), ∃ g, la = some ⟨g, 0, none⟩ ∧ ¬ NetR N g ∧ g < w2.heap.size ∧ w2.cell? ⟨g, j, none⟩ = some (.int .i64 ids[j])) := by
      intro j hj
      rcases ho.2 with ⟨e, e2⟩ | ⟨g, cap', cur, e, _⟩
      · omega
      · injection e with e1 _ _
        have hg := ho.lt g (by rw [e1]; rfl)
        refine ⟨g, e1, fun hR => ?_, Nat.lt_of_lt_of_le hg.2 hE2.le, ?_⟩
        · have := (NetR.lt h.net hR).2; omega
        · have := ho.cells (g := g) (by rw [e1]; rfl) j (.int .i64 ids[j]) (by rw [List.getElem?_map, List.getElem?_eq_getElem hj]; rfl)
          rw [Go.WideShapes.add_plain] at this
          rw [hE2.cell hg.2]
          simpa using this
    have hE12 := hE1.trans hE2
    clear hcase hh hhas ho hE1 hE2 h
    go_wp2
    go_loopw [30] (fun i wr => ∃ (j : Nat) (M : NetD), j ≤ ids.length ∧ i = .int .i64 j ∧ NetDat wr base M S0 S1 d0 (dropIds d1 (ids.take j)) ∧ NStep w2 N wr M ∧ (M.nb = N.nb ∧ M.nn = N.nn ∧ M.ne = N.ne)) (fun i _ => ids.length - (intOf i).toNat)
    case atStart => exact ⟨0, N, Nat.zero_le _, rfl, hD2, NStep.refl _ _, rfl, rfl, rfl⟩
    case round =>
      obtain ⟨j, M, hj, rfl, hDM, hst, hnb, hnn, hne⟩ := hrel
      by_cases hlt : j < ids.length
      · obtain ⟨g, hla, hgR, hgl, hcell⟩ := hlist.out j hlt
        subst hla
        obtain ⟨q, hq⟩ := hnext j hlt
        have hL := hleft (ids.take j)
        obtain ⟨hql, hqid, _⟩ := edK_some hq
        have HRq : HasRow 5 ((dropIds d1 (ids.take j)).at! q) := by
          obtain ⟨len1, f1, hd1, HR⟩ := hL.has.list
          rw [hd1] at hql ⊢
          exact HR q hql
        obtain ⟨z, s, x, y, aP, lP, cP, hval, xwf, ywf, iwf⟩ := hDM.re.edge hql HRq
        rw [hqid] at hval iwf
        have hin : ids[j] ∈ M.keys .e := by rw [hDM.ke, ← hqid]; exact mem_ids hql
        have hdr := dropEdge_any wr base 100 M ids[j] z x y s aP lP cP hDM.net iwf xwf ywf hin hval
        have e0 : wr.cell? ⟨g, j, none⟩ = some (.int .i64 ids[j]) := (World.cell?_of_block (hst.chg.block g hgl hgR)).trans hcell
        have hnx : Hid (∀ (u1 u2 u3 : Value) (w' : World), NetIn w' base 100 (dropN M ids[j] x y u1 u2 u3) → NStep wr M w' (dropN M ids[j] x y u1 u2 u3) → ∃ M', NetDat w' base M' S0 S1 d0 (dropIds d1 (ids.take (j + 1))) ∧ NStep w2 N w' M' ∧ (M'.nb = N.nb ∧ M'.nn = N.nn ∧ M'.ne = N.ne)) := fun u1 u2 u3 w' hN st => by
          refine ⟨_, ?_, hst.trans st, ?_⟩
          · rw [hstep j hlt]; exact hDM.dropE hL.inc hq hN st
          · obtain ⟨b1, b2, b3⟩ := dropN_nn M ids[j] x y u1 u2 u3
            exact ⟨b1.trans hnb, b2.trans hnn, b3.trans hne⟩
        rw [hnb] at hdr
        clear hval hin hDM HRq hcell hq hql hqid hL hnext hstep hleft
        go_wp2_with (go_at_call 46; refine hdr.mono ?_; rintro e w5 ⟨u1, u2, u3, _, hN5, hst5⟩)
        go_roundw
        case rel =>
          obtain ⟨M', h1, h2, h3⟩ := hnx.out u1 u2 u3 _ hN5 hst5
          exact ⟨j + 1, M', by omega, by go_num, h1, h2, h3⟩
        case measure => simp [intOf]; omega
      · have hje : j = ids.length := by omega
        subst hje
        rw [List.take_length] at hDM
        have hdr := dropNd_any wr base 100 M id hDM.net zid
        rw [hnb] at hdr
        have hnx : Hid (∀ (u : Value) (w' : World), NetIn w' base 100 ((M.setr .n u (less (M.lists .n) id)).del .n id) → NStep wr M w' ((M.setr .n u (less (M.lists .n) id)).del .n id) → NdPost w base N S0 S1 (dropL 3 d0 (edK d0 id)) (dropIds d1 ids) true (.returned (.bool true)) w') := fun u w' hN st =>
          .mk _ w' (hDM.dropNd hinc0 hk hN st) ((NStep.ext N hE12).trans (hst.trans st)) ⟨hnb, hnn, hne⟩
        clear hDM hst hnb hnn hne hnext hstep hleft hk hinc0
        go_wp2_with (go_at_call 47; refine hdr.mono ?_; rintro e w5 ⟨u, _, hN5, hst5⟩)
        go_ret
        exact hnx.out u _ hN5 hst5
end Go.Proofs.YtdnigcndjmmkcaaGreat

/- What the net's method dropNode does, in one. -/
namespace Go.Proofs.YtdnigcndjmmkcaaGreat
open Go.RowKit Go.Deep

theorem ndD0_len {b : Bool} {d0 : D} {id : Int} : (ndD0 true b d0 id).len! ≤ d0.len! := by
  unfold ndD0
  cases b
  · exact Nat.le_refl _
  · exact dropL_len
theorem ndD1_len {b : Bool} {d1 : D} {id : Int} (H1 : Has d1 (.list 5)) (h : incD d1) : (ndD1 true b d1 id).len! ≤ d1.len! := by
  unfold ndD1
  cases b
  · exact Nat.le_refl _
  · exact (left_of H1 h _).len
theorem hasId_mem {d0 : D} {id : Int} (h : hasId d0 id = false) : id ∉ idsOf d0.at! d0.len! := fun hm => by
  obtain ⟨i, hi, e⟩ := List.mem_map.1 hm
  unfold hasId at h
  rw [List.any_eq_false] at h
  exact h i hi (by simpa using e)
theorem dropNode_any (w : World) (base : Nat) (N : NetD) (mid hi0 : Nat) (S0 S1 : Nat → Prop) (d0 d1 : D) (id : Int) (detach : Bool) (h : NetDat w base N S0 S1 d0 d1) (H1 : Has d1 (.list 5)) (hinc0 : incD d0) (hinc : incD d1) (hoi : RowsOI N d1.at! d1.len!) (hre : RowsD w N mid hi0 .e 5 d1.at! d1.len!) (hl : d1.len! ≤ 16) (zid : (Lit.int .i64 id).wf = true) (b : Bool) (hb : ndB d0 d1 id detach = b) :
    Calls Tryz.prog 20 #[.pointer (some ⟨N.nb, 0, none⟩), .int .i64 id, .bool detach] w (NdPost w base N S0 S1 (ndD0 true b d0 id) (ndD1 true b d1 id) b) := by
  unfold ndB at hb
  cases b
  · refine dropNode_no w base N mid hi0 S0 S1 d0 d1 id detach h H1 hinc hoi hre hl zid ?_
    cases hh : hasId d0 id
    · exact .inl (fun hm => hasId_mem hh ((h.kn _).1 hm))
    · rw [hh, Bool.true_and, Bool.or_eq_false_iff] at hb
      refine .inr ⟨hb.1, ?_⟩
      cases e : ndIds d1 id with
      | nil => rw [e] at hb; simp at hb
      | cons a l => simp
  · rw [Bool.and_eq_true, Bool.or_eq_true] at hb
    obtain ⟨k, hk⟩ := hasId_in hb.1
    refine dropNode_yes w base N mid hi0 S0 S1 d0 d1 id detach k h H1 hinc0 hinc hoi hre hl zid hk (hb.2.imp (fun e => e) fun e => ?_)
    exact List.length_eq_zero_iff.2 (List.isEmpty_iff.1 e)
end Go.Proofs.YtdnigcndjmmkcaaGreat

/- What spec.NodeDrop answers. -/
namespace Go.Proofs.YtdnigcndjmmkcaaGreat
open Go.RowKit Go.Deep

/-- The place of an edge, as it is told. -/
def edI (a : Option Nat) : Int := match a with | some k => k | none => -1
theorem edI_eq {d1 : D} {id : Int} {a : Option Nat} (h : edK d1 id = a) : findI (fun i => (d1.at! i 0).int! == id) d1.len! = edI a := by subst h; rfl

theorem hasId_edK {d0 : D} {id : Int} (h : edK d0 id = none) : hasId d0 id = false := by
  cases e : hasId d0 id with
  | false => rfl
  | true =>
    obtain ⟨k, hk⟩ := hasId_in e
    rw [h] at hk
    cases hk
theorem edK_hasId {d0 : D} {id : Int} {k : Nat} (h : edK d0 id = some k) : hasId d0 id = true := by
  cases e : hasId d0 id with
  | true => rfl
  | false =>
    obtain ⟨h1, h2, _⟩ := edK_some h
    exact absurd (h2 ▸ mem_ids h1) (hasId_mem e)
theorem l2DropNode_both (S : Nat → Prop) (d0 d1 : D) (id : Int) (detach : Bool) (k : Nat) (c0 c1 : Value) (x2 x3 : Int) (w : World) (H0 : Has d0 (.list 4)) (h0 : DIn S w d0 c0) (H1 : Has d1 (.list 5)) (h1 : DIn S w d1 c1) (hS : ∀ x, S x → x < w.heap.size) (hk : edK d0 id = some k) (hi0 : incD d0) (hi1 : incD d1) (hl0 : d0.len! ≤ 12) (hl1 : d1.len! ≤ 16) (b : Bool) (hb : ndB d0 d1 id detach = b) :
    Calls Tryz.prog 16 #[.agg #[c0, c1, .int .i64 x2, .int .i64 x3], .int .i64 id, .bool detach] w fun e w' => ∃ u0 u1, e = .returned (.tuple #[.agg #[u0, u1, .int .i64 x2, .int .i64 x3], .bool b]) ∧ DIn (fun x => S x ∨ w.heap.size ≤ x ∧ x < w'.heap.size) w' (ndD0 true b d0 id) u0 ∧ DIn (fun x => S x ∨ w.heap.size ≤ x ∧ x < w'.heap.size) w' (ndD1 true b d1 id) u1 ∧ Ext w w' := by
  unfold ndB at hb
  rw [edK_hasId hk, Bool.true_and] at hb
  cases b
  · rw [Bool.or_eq_false_iff] at hb
    refine l2DropNode_no S d0 d1 id detach c0 c1 x2 x3 w H0 h0 H1 h1 hS hi1 hl1 hb.1 ?_
    cases e : ndIds d1 id with
    | nil => rw [e] at hb; simp at hb
    | cons a l => simp
  · rw [Bool.or_eq_true] at hb
    have := l2DropNode_yes S d0 d1 id detach k c0 c1 x2 x3 w H0 h0 H1 h1 hS hk hi0 hl0 hi1 hl1 (hb.imp (fun e => e) fun e => List.length_eq_zero_iff.2 (List.isEmpty_iff.1 e))
    unfold ndD0
    rw [hk]
    exact this

set_option maxRecDepth 100000 in
set_option maxHeartbeats 8000000 in
theorem specNodeDrop_any (S : Nat → Prop) (d0 d1 : D) (id : Int) (detach : Bool) (c0 c1 : Value) (x2 x3 : Int) (w : World) (H0 : Has d0 (.list 4)) (h0 : DIn S w d0 c0) (s0 : SmallD d0) (H1 : Has d1 (.list 5)) (h1 : DIn S w d1 c1) (s1 : SmallD d1) (b : Bool) (hb : ndB d0 d1 id detach = b) (g : Bool) (hg : graphB d0 d1 x2 x3 = g) :
    Calls Tryz.prog 5 #[.agg #[c0, c1, .int .i64 x2, .int .i64 x3], .int .i64 id, .bool detach] w fun e w' => ∃ u0 u1, e = .returned (.tuple #[.agg #[u0, u1, .int .i64 (edX g x2), .int .i64 (edX g x3)], .bool (g && b)]) ∧ DIn (New w.heap.size w'.heap.size) w' (ndD0 g b d0 id) u0 ∧ DIn (New w.heap.size w'.heap.size) w' (ndD1 g b d1 id) u1 ∧ Ext w w' := by
  obtain ⟨a, ha⟩ : ∃ a, edK d0 id = a := ⟨_, rfl⟩
  have hok := fun (W : World) (hW : Ext w W) => specGraphOk_any S d0 d1 c0 c1 x2 x3 W H0 (h0.ext hW) H1 (h1.ext hW)
  have hcp := fun (W : World) (hW : Ext w W) => l2Copy_both S d0 d1 c0 c1 x2 x3 W H0 (h0.ext hW) s0 H1 (h1.ext hW) s1
  have hed := fun (W : World) (hW : Ext w W) (hc : ∃ a l c, c1 = .slice a l c) => l2Node_any S d0 c0 c1 x2 x3 id W H0 (h0.ext hW) hc
  have hfi : findI (fun i => (d0.at! i 0).int! == id) d0.len! = edI a := edI_eq ha
  rw [hfi] at hed
  have hgl : g = true → _ := fun e => graph_len (hg.trans e)
  have hinc : g = true → incD d1 := fun e => graph_inc (hg.trans e)
  have hinc0 : g = true → incD d0 := fun e => node_incD (hg.trans e)
  rw [hg] at hok
  have hd0' : Hid (d0 = .list 3 d0.len! d0.at!) := by
    obtain ⟨len0, f0, hd0, HR0⟩ := H0.list
    show d0 = _
    rw [hd0]
    rfl
  have hd1' : Hid (d1 = .list 5 d1.len! d1.at!) := by
    obtain ⟨len1, f1, hd1, HR1⟩ := H1.list
    show d1 = _
    rw [hd1]
    rfl
  obtain ⟨a0, cap0, l0, _, hq0, rfl, _, _⟩ := list_shape H0 h0
  obtain ⟨a1, cap1, l1, _, hq1, rfl, _, _⟩ := list_shape H1 h1
  clear hq0 hq1
  obtain ⟨Wb, hWb⟩ : ∃ Wb, Wb = (w.alloc (.cells #[.slice a0 l0 cap0, .slice a1 l1 cap1, .int .i64 x2, .int .i64 x3] 30)).alloc (.cells #[.slice none 0 0, .slice none 0 0, .int .i64 0, .int .i64 0] 30) := ⟨_, rfl⟩
  obtain ⟨gb, hgb⟩ : ∃ m, m = w.heap.size := ⟨_, rfl⟩
  have hEw : Ext w Wb := by rw [hWb]; exact ((Ext.refl _).alloc _).alloc _
  have hzb : Wb.heap.size ≤ gb + 2 := by rw [hWb, hgb]; simp
  have hzb2 : gb + 2 ≤ Wb.heap.size := by rw [hWb, hgb]; simp
  have hblk0 : Wb.heap[gb]? = some (.cells #[.slice a0 l0 cap0, .slice a1 l1 cap1, .int .i64 x2, .int .i64 x3] 30 (0, 0)) := by
    rw [hWb, Below.block ((Ext.refl _).alloc _) _ (by rw [hgb]; simp), hgb]
    exact heap_alloc_new w _
  have hblk1 : Wb.heap[gb + 1]? = some (.cells #[.slice none 0 0, .slice none 0 0, .int .i64 0, .int .i64 0] 30 (0, 0)) := by
    have := heap_alloc_new (w.alloc (.cells #[.slice a0 l0 cap0, .slice a1 l1 cap1, .int .i64 x2, .int .i64 x3] 30)) (.cells #[.slice none 0 0, .slice none 0 0, .int .i64 0, .int .i64 0] 30)
    rw [World.size_alloc] at this
    rw [hWb, hgb]
    exact this
  have hbx : ∀ W : World, W.heap[gb]? = Wb.heap[gb]? → W.heap[gb + 1]? = Wb.heap[gb + 1]? → (W.cell? ⟨gb, 0, none⟩ = some (.slice a0 l0 cap0) ∧ W.cell? ⟨gb, 1, none⟩ = some (.slice a1 l1 cap1) ∧ W.cell? ⟨gb, 2, none⟩ = some (.int .i64 x2) ∧ W.cell? ⟨gb, 3, none⟩ = some (.int .i64 x3)) ∧ (W.cell? ⟨gb + 1, 0, none⟩ = some (.slice none 0 0) ∧ W.cell? ⟨gb + 1, 1, none⟩ = some (.slice none 0 0) ∧ W.cell? ⟨gb + 1, 2, none⟩ = some (.int .i64 0) ∧ W.cell? ⟨gb + 1, 3, none⟩ = some (.int .i64 0)) ∧ (∀ o, W.frozen? ⟨gb + 1, o, none⟩ = false) := fun W h1 h2 => by
    rw [hblk0] at h1
    rw [hblk1] at h2
    refine ⟨⟨?_, ?_, ?_, ?_⟩, ⟨?_, ?_, ?_, ?_⟩, fun o => ?_⟩
    all_goals first | (simp [World.cell?, h1]; done) | (simp [World.cell?, h2]; done) | (simp [World.frozen?, h2]; done)
  have hbW : ∀ W : World, Ext Wb W → (W.cell? ⟨gb, 0, none⟩ = some (.slice a0 l0 cap0) ∧ W.cell? ⟨gb, 1, none⟩ = some (.slice a1 l1 cap1) ∧ W.cell? ⟨gb, 2, none⟩ = some (.int .i64 x2) ∧ W.cell? ⟨gb, 3, none⟩ = some (.int .i64 x3)) ∧ (W.cell? ⟨gb + 1, 0, none⟩ = some (.slice none 0 0) ∧ W.cell? ⟨gb + 1, 1, none⟩ = some (.slice none 0 0) ∧ W.cell? ⟨gb + 1, 2, none⟩ = some (.int .i64 0) ∧ W.cell? ⟨gb + 1, 3, none⟩ = some (.int .i64 0)) ∧ (∀ o, W.frozen? ⟨gb + 1, o, none⟩ = false) := fun W hW => hbx W (Below.block hW _ (by omega)) (Below.block hW _ (by omega))
  have hgb1 : gb ≤ w.heap.size := Nat.le_of_eq hgb
  have hgb2 : w.heap.size ≤ gb := Nat.le_of_eq hgb.symm
  clear hg
  clear hfi
  obtain ⟨⟨p0, p1, p2, p3⟩, _⟩ := hbW Wb (Ext.refl _)
  go_enter Tryz.func5, Tryz.ntmps5
  go_wp2_with fail
  rw [← hWb, ← hgb]
  clear hWb hgb p0 p1 p2 p3
  refine (hok Wb hEw).mono ?_
  rintro e w1 ⟨rfl, hE1⟩
  have hz1 := hE1.le
  cases g
  · obtain ⟨⟨p0, p1, p2, p3⟩, ⟨t0, t1, t2, t3⟩, tf⟩ := hbW w1 hE1
    have tf0 := tf 0
    have tf1 := tf 1
    have tf2 := tf 2
    have tf3 := tf 3
    have hCf : Chg (fun x => x = gb + 1) w1 ((((w1.setCell ⟨gb + 1, 0, none⟩ (.slice none 0 0)).setCell ⟨gb + 1, 1, none⟩ (.slice none 0 0)).setCell ⟨gb + 1, 2, none⟩ (.int .i64 0)).setCell ⟨gb + 1, 3, none⟩ (.int .i64 0)) := ((((Chg.refl (fun x => x = gb + 1) w1).setCell (p := ⟨gb + 1, 0, none⟩) rfl _).setCell (p := ⟨gb + 1, 1, none⟩) rfl _).setCell (p := ⟨gb + 1, 2, none⟩) rfl _).setCell (p := ⟨gb + 1, 3, none⟩) rfl _
    have hX : Hid (Ext w ((((w1.setCell ⟨gb + 1, 0, none⟩ (.slice none 0 0)).setCell ⟨gb + 1, 1, none⟩ (.slice none 0 0)).setCell ⟨gb + 1, 2, none⟩ (.int .i64 0)).setCell ⟨gb + 1, 3, none⟩ (.int .i64 0))) := hCf.toExt (hEw.trans hE1) (fun x hx => by omega)
    clear hCf ha
    go_wp2
    refine bodyPost_ret (v := .tuple #[.agg #[.slice none 0 0, .slice none 0 0, .int .i64 0, .int .i64 0], .bool false]) (by simp [results, Tryz.results5, go_sem, t0, t1, t2, t3]) rfl ⟨_, _, rfl, (noneL_in 3 _ _).1, (noneL_in 5 _ _).1, hX.out⟩
  · obtain ⟨hl12, hl16, _, hx0, hx1⟩ := hgl rfl
    have hinc1 := hinc rfl
    have hincN := hinc0 rfl
    clear hgl hinc hinc0
    obtain ⟨⟨p0, p1, p2, p3⟩, ⟨t0, t1, t2, t3⟩, tf⟩ := hbW w1 hE1
    have hed1 := hed w1 (hEw.trans hE1) ⟨_, _, _, rfl⟩
    clear hed
    cases a with
    | none =>
      have hbf : b = false := by rw [← hb]; unfold ndB; rw [hasId_edK ha]; rfl
      subst hbf
      clear ha hb
      rw [show edI none = (-1 : Int) from rfl] at hed1
      go_wp2_with fail
      refine hed1.mono ?_
      rintro e w2 ⟨rfl, hE2⟩
      clear hed1 p0 p1 p2 p3 t0 t1 t2 t3 tf
      have hE12 := hE1.trans hE2
      have hz2 := hE2.le
      obtain ⟨⟨p0, p1, p2, p3⟩, ⟨t0, t1, t2, t3⟩, tf⟩ := hbW w2 hE12
      go_wp2_with fail
      refine (hcp w2 (hEw.trans hE12)).mono ?_
      rintro e w3 ⟨u0, u1, cs, ds, b0, b1, S0, S1, rfl, hb01, hb02, hGn, hb12, hGr, hS0, hS1, hE3⟩
      clear hcp p0 p1 p2 p3 t0 t1 t2 t3 tf
      have hz3 := hE3.le
      have hD0 := (hGn.end (by unfold maxLen; omega)).1
      have hD1 := (hGr.end (by unfold maxLen; omega)).1
      rw [← hd0'.out] at hD0
      rw [← hd1'.out] at hD1
      have hS0l := hGn.2.2.1
      have z0 : ∀ x, S0 x → w2.heap.size ≤ x ∧ x < w3.heap.size := fun x hx => ⟨hS0 x hx, hS0l x hx⟩
      have z1 : ∀ x, S1 x → w2.heap.size ≤ x ∧ x < w3.heap.size := fun x hx => ⟨(hS1 x hx).1, (hS1 x hx).2.1⟩
      obtain ⟨va, vcap, vl, _, hqr, rfl, _, _⟩ := list_shape H0 hD0
      clear hqr
      obtain ⟨ra, rcap, rl, _, hqr, rfl, _, _⟩ := list_shape H1 hD1
      clear hqr hGn hGr hS0 hS1 hS0l
      have hEf := hE12.trans hE3
      obtain ⟨⟨p0, p1, p2, p3⟩, ⟨t0, t1, t2, t3⟩, tf⟩ := hbW w3 hEf
      have tf0 := tf 0
      have tf1 := tf 1
      have tf2 := tf 2
      have tf3 := tf 3
      have hCf : Chg (fun x => x = gb + 1) w3 ((((w3.setCell ⟨gb + 1, 0, none⟩ (.slice va vl vcap)).setCell ⟨gb + 1, 1, none⟩ (.slice ra rl rcap)).setCell ⟨gb + 1, 2, none⟩ (.int .i64 x2)).setCell ⟨gb + 1, 3, none⟩ (.int .i64 x3)) := ((((Chg.refl (fun x => x = gb + 1) w3).setCell (p := ⟨gb + 1, 0, none⟩) rfl _).setCell (p := ⟨gb + 1, 1, none⟩) rfl _).setCell (p := ⟨gb + 1, 2, none⟩) rfl _).setCell (p := ⟨gb + 1, 3, none⟩) rfl _
      have hX : Hid _ := And.intro (And.intro ((hD0.carry hCf.size (fun b hb hl => hCf.block b hl (by have := z0 b hb; omega))).mono (S' := New gb (((((w3.setCell ⟨gb + 1, 0, none⟩ (.slice va vl vcap)).setCell ⟨gb + 1, 1, none⟩ (.slice ra rl rcap)).setCell ⟨gb + 1, 2, none⟩ (.int .i64 x2)).setCell ⟨gb + 1, 3, none⟩ (.int .i64 x3))).heap.size) (fun x hx => ⟨by have := z0 x hx; omega, by have := z0 x hx; simp only [World.size_setCell]; omega⟩)) ((hD1.carry hCf.size (fun b hb hl => hCf.block b hl (by have := z1 b hb; omega))).mono (S' := New gb (((((w3.setCell ⟨gb + 1, 0, none⟩ (.slice va vl vcap)).setCell ⟨gb + 1, 1, none⟩ (.slice ra rl rcap)).setCell ⟨gb + 1, 2, none⟩ (.int .i64 x2)).setCell ⟨gb + 1, 3, none⟩ (.int .i64 x3))).heap.size) (fun x hx => ⟨by have := z1 x hx; omega, by have := z1 x hx; simp only [World.size_setCell]; omega⟩))) (hCf.toExt (hEw.trans hEf) (fun x hx => by omega))
      have hgbw : Hid (gb = w.heap.size) := by show _ = _; omega
      clear hCf hD0 hD1 tf
      go_wp2
      refine bodyPost_ret (v := .tuple #[.agg #[.slice va vl vcap, .slice ra rl rcap, .int .i64 x2, .int .i64 x3], .bool false]) (by simp [results, Tryz.results5, go_sem, t0, t1, t2, t3]) rfl ⟨_, _, rfl, ?_, ?_, hX.out.2⟩
      · rw [← hgbw.out]; exact hX.out.1.1
      · rw [← hgbw.out]; exact hX.out.1.2
    | some k =>
      have hkn : ¬ (k : Int) < 0 := by omega
      rw [show edI (some k) = (k : Int) from rfl] at hed1
      go_wp2_with fail
      refine hed1.mono ?_
      rintro e w2 ⟨rfl, hE2⟩
      clear hed1 p0 p1 p2 p3 t0 t1 t2 t3 tf
      have hE12 := hE1.trans hE2
      have hz2 := hE2.le
      obtain ⟨⟨p0, p1, p2, p3⟩, ⟨t0, t1, t2, t3⟩, tf⟩ := hbW w2 hE12
      go_wp2_with fail
      refine (hcp w2 (hEw.trans hE12)).mono ?_
      rintro e w3 ⟨u0, u1, cs, ds, b0, b1, S0, S1, rfl, hb01, hb02, hGn, hb12, hGr, hS0, hS1, hE3⟩
      clear hcp p0 p1 p2 p3 t0 t1 t2 t3 tf
      have hz3 := hE3.le
      have hD0 := (hGn.end (by unfold maxLen; omega)).1
      have hD1' := (hGr.end (by unfold maxLen; omega)).1
      rw [← hd0'.out] at hD0
      rw [← hd1'.out] at hD1'
      have hS0l := hGn.2.2.1
      have z1' : ∀ x, S1 x → w2.heap.size ≤ x ∧ x < w3.heap.size := fun x hx => ⟨(hS1 x hx).1, (hS1 x hx).2.1⟩
      obtain ⟨va, vcap, vl, _, hqr, rfl, _, _⟩ := list_shape H0 hD0
      clear hqr
      have z01 : ∀ x, S0 x ∨ S1 x → x < w3.heap.size := fun x hx => hx.elim (fun h => hS0l x h) (fun h => (z1' x h).2)
      have hdr := l2DropNode_both (fun x => S0 x ∨ S1 x) d0 d1 id detach k _ u1 x2 x3 w3 H0 (hD0.mono (fun x hx => .inl hx)) H1 (hD1'.mono (fun x hx => .inr hx)) z01 ha hincN hinc1 hl12 hl16 b hb
      have HN0 := ndD0_has (g := true) (b := b) (id := id) H0
      have HN1 := ndD1_has (g := true) (b := b) (id := id) H1 (fun _ => hinc1)
      clear hb
      generalize hN0 : ndD0 true b d0 id = n0 at *
      generalize hN1 : ndD1 true b d1 id = n1 at *
      have hN0 := (show Hid _ from hN0)
      have hN1 := (show Hid _ from hN1)
      obtain ⟨ra, rcap, rl, _, hqr, rfl, _, _⟩ := list_shape H1 hD1'
      clear hqr hGn hGr hS1 ha
      go_wp2_with fail
      refine hdr.mono ?_
      rintro e w4 ⟨v0, v1, rfl, hD0n, hD1, hE4⟩
      clear hdr hD1' hD0
      have hz4 := hE4.le
      have z1 : ∀ x, ((S0 x ∨ S1 x) ∨ w3.heap.size ≤ x ∧ x < w4.heap.size) → w2.heap.size ≤ x ∧ x < w4.heap.size := fun x hx => by
        rcases hx with (h | h) | h
        · have := hS0 x h; have := hS0l x h; omega
        · have := z1' x h; omega
        · omega
      have hD0 := hD0n
      have z0 := z1
      obtain ⟨va2, vcap2, vl2, _, hqr, rfl, _, _⟩ := list_shape HN0 hD0
      clear hqr
      obtain ⟨ya, ycap, yl, _, hqr, rfl, _, _⟩ := list_shape HN1 hD1
      clear hqr hD0n
      clear hS0 hS0l z1'
      have hEf := (hE12.trans hE3).trans hE4
      obtain ⟨⟨p0, p1, p2, p3⟩, ⟨t0, t1, t2, t3⟩, tf⟩ := hbW w4 hEf
      have tf0 := tf 0
      have tf1 := tf 1
      have tf2 := tf 2
      have tf3 := tf 3
      have hCf : Chg (fun x => x = gb + 1) w4 ((((w4.setCell ⟨gb + 1, 0, none⟩ (.slice va2 vl2 vcap2)).setCell ⟨gb + 1, 1, none⟩ (.slice ya yl ycap)).setCell ⟨gb + 1, 2, none⟩ (.int .i64 x2)).setCell ⟨gb + 1, 3, none⟩ (.int .i64 x3)) := ((((Chg.refl (fun x => x = gb + 1) w4).setCell (p := ⟨gb + 1, 0, none⟩) rfl _).setCell (p := ⟨gb + 1, 1, none⟩) rfl _).setCell (p := ⟨gb + 1, 2, none⟩) rfl _).setCell (p := ⟨gb + 1, 3, none⟩) rfl _
      have hX : Hid _ := And.intro (And.intro ((hD0.carry hCf.size (fun b hb hl => hCf.block b hl (by have := z0 b hb; omega))).mono (S' := New gb (((((w4.setCell ⟨gb + 1, 0, none⟩ (.slice va2 vl2 vcap2)).setCell ⟨gb + 1, 1, none⟩ (.slice ya yl ycap)).setCell ⟨gb + 1, 2, none⟩ (.int .i64 x2)).setCell ⟨gb + 1, 3, none⟩ (.int .i64 x3))).heap.size) (fun x hx => ⟨by have := z0 x hx; omega, by have := z0 x hx; simp only [World.size_setCell]; omega⟩)) ((hD1.carry hCf.size (fun b hb hl => hCf.block b hl (by have := z1 b hb; omega))).mono (S' := New gb (((((w4.setCell ⟨gb + 1, 0, none⟩ (.slice va2 vl2 vcap2)).setCell ⟨gb + 1, 1, none⟩ (.slice ya yl ycap)).setCell ⟨gb + 1, 2, none⟩ (.int .i64 x2)).setCell ⟨gb + 1, 3, none⟩ (.int .i64 x3))).heap.size) (fun x hx => ⟨by have := z1 x hx; omega, by have := z1 x hx; simp only [World.size_setCell]; omega⟩))) (hCf.toExt (hEw.trans hEf) (fun x hx => by omega))
      have hgbw : Hid (gb = w.heap.size) := by show _ = _; omega
      clear hCf hD0 hD1 tf
      go_wp2
      refine bodyPost_ret (v := .tuple #[.agg #[.slice va2 vl2 vcap2, .slice ya yl ycap, .int .i64 x2, .int .i64 x3], .bool b]) (by simp [results, Tryz.results5, go_sem, t0, t1, t2, t3]) rfl ⟨_, _, rfl, ?_, ?_, hX.out.2⟩
      · rw [← hgbw.out, hN0.out]; exact hX.out.1.1
      · rw [← hgbw.out, hN1.out]; exact hX.out.1.2
end Go.Proofs.YtdnigcndjmmkcaaGreat

/- What impl.NodeDrop answers. -/
namespace Go.Proofs.YtdnigcndjmmkcaaGreat
open Go.RowKit Go.Deep

set_option maxRecDepth 100000 in
set_option maxHeartbeats 8000000 in
theorem implNodeDrop_any (S : Nat → Prop) (d0 d1 : D) (id : Int) (detach : Bool) (c0 c1 : Value) (x2 x3 : Int) (w : World) (H0 : Has d0 (.list 4)) (h0 : DIn S w d0 c0) (H1 : Has d1 (.list 5)) (h1 : DIn S w d1 c1) (zid : (Lit.int .i64 id).wf = true) (b : Bool) (hb : ndB d0 d1 id detach = b) (g : Bool) (hg : graphB d0 d1 x2 x3 = g) :
    Calls Tryz.prog 7 #[.agg #[c0, c1, .int .i64 x2, .int .i64 x3], .int .i64 id, .bool detach] w fun e w' => ∃ u0 u1, e = .returned (.tuple #[.agg #[u0, u1, .int .i64 (edX g x2), .int .i64 (edX g x3)], .bool (g && b)]) ∧ GraphOwn w' w.heap.size (ndD0 g b d0 id) (ndD1 g b d1 id) u0 u1 ∧ Ext w w' := by
  have hnet := fun (W : World) (hW : Ext w W) => netOf_any S d0 d1 c0 c1 x2 x3 W H0 (h0.ext hW) H1 (h1.ext hW)
  have hgl : g = true → _ := fun e => graph_len (hg.trans e)
  have hinc0 : g = true → incD d0 := fun e => node_incD (hg.trans e)
  have hinc : g = true → incD d1 := fun e => graph_inc (hg.trans e)
  rw [hg] at hnet
  obtain ⟨a0, cap0, l0, _, hq0, rfl, _, _⟩ := list_shape H0 h0
  obtain ⟨a1, cap1, l1, _, hq1, rfl, _, _⟩ := list_shape H1 h1
  clear hq0 hq1 h0 h1
  obtain ⟨Wb, hWb⟩ : ∃ Wb, Wb = (w.alloc (.cells #[.slice a0 l0 cap0, .slice a1 l1 cap1, .int .i64 x2, .int .i64 x3] 30)).alloc (.cells #[.slice none 0 0, .slice none 0 0, .int .i64 0, .int .i64 0] 30) := ⟨_, rfl⟩
  obtain ⟨gb, hgb⟩ : ∃ m, m = w.heap.size := ⟨_, rfl⟩
  have hEw : Ext w Wb := by rw [hWb]; exact ((Ext.refl _).alloc _).alloc _
  have hzb : Wb.heap.size ≤ gb + 2 := by rw [hWb, hgb]; simp
  have hzb2 : gb + 2 ≤ Wb.heap.size := by rw [hWb, hgb]; simp
  have hblk0 : Wb.heap[gb]? = some (.cells #[.slice a0 l0 cap0, .slice a1 l1 cap1, .int .i64 x2, .int .i64 x3] 30 (0, 0)) := by
    rw [hWb, Below.block ((Ext.refl _).alloc _) _ (by rw [hgb]; simp), hgb]
    exact heap_alloc_new w _
  have hblk1 : Wb.heap[gb + 1]? = some (.cells #[.slice none 0 0, .slice none 0 0, .int .i64 0, .int .i64 0] 30 (0, 0)) := by
    have := heap_alloc_new (w.alloc (.cells #[.slice a0 l0 cap0, .slice a1 l1 cap1, .int .i64 x2, .int .i64 x3] 30)) (.cells #[.slice none 0 0, .slice none 0 0, .int .i64 0, .int .i64 0] 30)
    rw [World.size_alloc] at this
    rw [hWb, hgb]
    exact this
  have hbx : ∀ W : World, W.heap[gb]? = Wb.heap[gb]? → W.heap[gb + 1]? = Wb.heap[gb + 1]? → (W.cell? ⟨gb, 0, none⟩ = some (.slice a0 l0 cap0) ∧ W.cell? ⟨gb, 1, none⟩ = some (.slice a1 l1 cap1) ∧ W.cell? ⟨gb, 2, none⟩ = some (.int .i64 x2) ∧ W.cell? ⟨gb, 3, none⟩ = some (.int .i64 x3)) ∧ (W.cell? ⟨gb + 1, 0, none⟩ = some (.slice none 0 0) ∧ W.cell? ⟨gb + 1, 1, none⟩ = some (.slice none 0 0) ∧ W.cell? ⟨gb + 1, 2, none⟩ = some (.int .i64 0) ∧ W.cell? ⟨gb + 1, 3, none⟩ = some (.int .i64 0)) ∧ (∀ o, W.frozen? ⟨gb + 1, o, none⟩ = false) := fun W h1 h2 => by
    rw [hblk0] at h1
    rw [hblk1] at h2
    refine ⟨⟨?_, ?_, ?_, ?_⟩, ⟨?_, ?_, ?_, ?_⟩, fun o => ?_⟩
    all_goals first | (simp [World.cell?, h1]; done) | (simp [World.cell?, h2]; done) | (simp [World.frozen?, h2]; done)
  have hk : ∀ W : World, Chg (fun x => Wb.heap.size ≤ x) Wb W → ∀ b, gb ≤ b → b < Wb.heap.size → W.heap[b]? = Wb.heap[b]? := fun W hW b _ h2 => hW.block b h2 (by omega)
  have hgb1 : gb ≤ w.heap.size := Nat.le_of_eq hgb
  have hgb2 : w.heap.size ≤ gb := Nat.le_of_eq hgb.symm
  clear hg
  obtain ⟨⟨p0, p1, p2, p3⟩, _⟩ := hbx Wb rfl rfl
  go_enter Tryz.func7, Tryz.ntmps7
  go_wp2_with fail
  rw [← hWb, ← hgb]
  clear hWb hgb p0 p1 p2 p3
  refine (hnet Wb hEw).mono ?_
  rintro e w1 ⟨p, rfl, hyes, hE1⟩
  have hz1 := hE1.le
  have hC1 : Chg (fun x => Wb.heap.size ≤ x) Wb w1 := Chg.of_ext hE1
  cases g
  · obtain ⟨⟨p0, p1, p2, p3⟩, ⟨t0, t1, t2, t3⟩, tf⟩ := hbx w1 (hk w1 hC1 gb (by omega) (by omega)) (hk w1 hC1 (gb + 1) (by omega) (by omega))
    have tf0 := tf 0
    have tf1 := tf 1
    have tf2 := tf 2
    have tf3 := tf 3
    have hCf : Chg (fun x => x = gb + 1) w1 ((((w1.setCell ⟨gb + 1, 0, none⟩ (.slice none 0 0)).setCell ⟨gb + 1, 1, none⟩ (.slice none 0 0)).setCell ⟨gb + 1, 2, none⟩ (.int .i64 0)).setCell ⟨gb + 1, 3, none⟩ (.int .i64 0)) := ((((Chg.refl (fun x => x = gb + 1) w1).setCell (p := ⟨gb + 1, 0, none⟩) rfl _).setCell (p := ⟨gb + 1, 1, none⟩) rfl _).setCell (p := ⟨gb + 1, 2, none⟩) rfl _).setCell (p := ⟨gb + 1, 3, none⟩) rfl _
    have hX : Hid (Ext w ((((w1.setCell ⟨gb + 1, 0, none⟩ (.slice none 0 0)).setCell ⟨gb + 1, 1, none⟩ (.slice none 0 0)).setCell ⟨gb + 1, 2, none⟩ (.int .i64 0)).setCell ⟨gb + 1, 3, none⟩ (.int .i64 0))) := hCf.toExt (hEw.trans hE1) (fun x hx => by omega)
    clear hCf hyes
    go_wp2
    refine bodyPost_ret (v := .tuple #[.agg #[.slice none 0 0, .slice none 0 0, .int .i64 0, .int .i64 0], .bool false]) (by simp [results, Tryz.results7, go_sem, t0, t1, t2, t3]) rfl ⟨_, _, rfl, ⟨fun _ => False, fun _ => False, ⟨(noneL_in 3 _ _).1, (noneL_in 3 _ _).2, fun x hx => hx.elim⟩, ⟨(noneL_in 5 _ _).1, (noneL_in 5 _ _).2, fun x hx => hx.elim⟩, fun x hx => hx.elim⟩, hX.out⟩
  · obtain ⟨hl12, hl16, _, hx0, hx1⟩ := hgl rfl
    have hinc0 := hinc0 rfl
    have hinc1 := hinc rfl
    clear hgl hinc
    obtain ⟨N, hp, hN, hF⟩ := hyes rfl
    clear hyes
    subst hp
    have hnn := hF.nn
    have hne := hF.ne
    subst hnn hne
    obtain ⟨mid, hm1, hrn, hre⟩ := hF.rows
    have hhi : mid ≤ w1.heap.size := by obtain ⟨P, hP⟩ := hrn; exact hP.1
    have hdat : NetDat w1 Wb.heap.size N (fun x => Wb.heap.size ≤ x ∧ x < mid) (fun x => mid ≤ x ∧ x < w1.heap.size) d0 d1 := ⟨hN, hF.ln, hF.le, hF.kn, hF.ke, hrn.toS, hre.toS⟩
    have hm := dropNode_any w1 Wb.heap.size N mid w1.heap.size (fun x => Wb.heap.size ≤ x ∧ x < mid) (fun x => mid ≤ x ∧ x < w1.heap.size) d0 d1 id detach hdat H1 hinc0 hinc1 hF.oi hre hl16 zid b hb
    have HD0 : Has (ndD0 true b d0 id) (.list 4) := ndD0_has H0
    have HD1 : Has (ndD1 true b d1 id) (.list 5) := ndD1_has H1 (fun _ => hinc1)
    have hL0 : (ndD0 true b d0 id).len! ≤ 1000 := Nat.le_trans ndD0_len (by omega)
    have hL1 : (ndD1 true b d1 id).len! ≤ 1000 := Nat.le_trans (ndD1_len H1 hinc1) (by omega)
    have hw1 : ∀ x, NetR N x → Wb.heap.size ≤ x := fun x hx => (NetR.lt hN hx).1
    obtain ⟨hnbl, _⟩ : N.nb < w1.heap.size ∧ True := ⟨hN.nb_lt, trivial⟩
    generalize hDe0 : ndD0 true b d0 id = D0 at *
    generalize hDe1 : ndD1 true b d1 id = D1 at *
    have hDe0 := (show Hid _ from hDe0)
    have hDe1 := (show Hid _ from hDe1)
    clear hF hrn hre hdat hN hinc0 hinc1
    go_wp2_with fail
    refine hm.mono ?_
    rintro e w2 ⟨N', _, hD2, hst, hnb2, hnn2, hne2⟩
    clear hm
    have hrow0 : ∀ i, i < D0.len! → HasRow 4 (D0.at! i) := by
      obtain ⟨len0, f0, hd0, HR0⟩ := HD0.list
      rw [hd0]
      exact HR0
    have hrow1 : ∀ i, i < D1.len! → HasRow 5 (D1.at! i) := by
      obtain ⟨len1, f1, hd1, HR1⟩ := HD1.list
      rw [hd1]
      exact HR1
    have hd0' : Hid (D0 = .list 3 D0.len! D0.at!) := by
      obtain ⟨len0, f0, hd0, HR0⟩ := HD0.list
      show D0 = _
      rw [hd0]
      rfl
    have hd1' : Hid (D1 = .list 5 D1.len! D1.at!) := by
      obtain ⟨len1, f1, hd1, HR1⟩ := HD1.list
      show D1 = _
      rw [hd1]
      rfl
    have hC2 : Chg (fun x => Wb.heap.size ≤ x) Wb w2 := hC1.trans (hst.chg.mono hw1)
    have hz2 := hst.chg.size
    have hbase2 : Wb.heap.size ≤ w2.heap.size := Nat.le_trans hz1 hz2
    have hgr := netGraph_any w2 Wb.heap.size _ Wb.heap.size _ _ N' D0.at! D1.at! D0.len! D1.len! hD2.net hrow0 hrow1 hD2.ln hD2.le (fun i hi => (hD2.kn _).2 (mem_ids hi)) (fun i hi => (hD2.ke _).2 (mem_ids hi)) hD2.rn hD2.re (fun x hx => hx.1) (fun x hx => by omega) hbase2 (fun x hx hx' => by omega) hL0 hL1
    rw [hnb2, hnn2, hne2] at hgr
    clear hrow0 hrow1 hD2 hst hnb2 hnn2 hne2
    go_wp2_with fail
    refine hgr.mono ?_
    rintro e w3 ⟨u0, u1, rfl, hgo, hE3⟩
    clear hgr
    have hC3 : Chg (fun x => Wb.heap.size ≤ x) Wb w3 := hC2.trans (Chg.of_ext hE3)
    have hz3 := hE3.le
    rw [← hd0'.out, ← hd1'.out] at hgo
    obtain ⟨Q0, Q1, ⟨hD0, hO0, hq0⟩, ⟨hD1, hO1, hq1⟩, hdq⟩ := hgo
    obtain ⟨va, vcap, vl, _, hqa, hva, _, _⟩ := list_shape (r := 4) HD0 hD0
    obtain ⟨ra, rcap, rl, _, hqb, hra, _, _⟩ := list_shape (r := 5) HD1 hD1
    subst hva hra
    clear hqa hqb hd0' hd1'
    obtain ⟨⟨p0, p1, p2, p3⟩, ⟨t0, t1, t2, t3⟩, tf⟩ := hbx w3 (hk w3 hC3 gb (by omega) (by omega)) (hk w3 hC3 (gb + 1) (by omega) (by omega))
    have tf0 := tf 0
    have tf1 := tf 1
    have tf2 := tf 2
    have tf3 := tf 3
    clear tf p0 p1 p2 p3
    have hCf : Chg (fun x => x = gb + 1) w3 ((((w3.setCell ⟨gb + 1, 0, none⟩ (.slice va vl vcap)).setCell ⟨gb + 1, 1, none⟩ (.slice ra rl rcap)).setCell ⟨gb + 1, 2, none⟩ (.int .i64 N.nn)).setCell ⟨gb + 1, 3, none⟩ (.int .i64 N.ne)) := ((((Chg.refl (fun x => x = gb + 1) w3).setCell (p := ⟨gb + 1, 0, none⟩) rfl _).setCell (p := ⟨gb + 1, 1, none⟩) rfl _).setCell (p := ⟨gb + 1, 2, none⟩) rfl _).setCell (p := ⟨gb + 1, 3, none⟩) rfl _
    have hX : Hid _ := And.intro (show GraphOwn ((((w3.setCell ⟨gb + 1, 0, none⟩ (.slice va vl vcap)).setCell ⟨gb + 1, 1, none⟩ (.slice ra rl rcap)).setCell ⟨gb + 1, 2, none⟩ (.int .i64 N.nn)).setCell ⟨gb + 1, 3, none⟩ (.int .i64 N.ne)) gb D0 D1 (.slice va vl vcap) (.slice ra rl rcap) from ⟨Q0, Q1, ⟨hD0.carry hCf.size (fun b hb hl => hCf.block b hl (by have := hq0 b hb; omega)), hO0.carry hCf.size (fun b hb hl => hCf.block b hl (by have := hq0 b hb; omega)), fun x hx => by have := hq0 x hx; simp only [World.size_setCell]; omega⟩, ⟨hD1.carry hCf.size (fun b hb hl => hCf.block b hl (by have := hq1 b hb; omega)), hO1.carry hCf.size (fun b hb hl => hCf.block b hl (by have := hq1 b hb; omega)), fun x hx => by have := hq1 x hx; simp only [World.size_setCell]; omega⟩, hdq⟩) (hCf.toExt (hC3.toExt hEw (fun x hx => by omega)) (fun x hx => by omega))
    have hgbw : Hid (gb = w.heap.size) := by show _ = _; omega
    clear hCf hD0 hO0 hD1 hO1
    go_wp2
    refine bodyPost_ret (v := .tuple #[.agg #[.slice va vl vcap, .slice ra rl rcap, .int .i64 N.nn, .int .i64 N.ne], .bool b]) (by simp [results, Tryz.results7, go_sem, t0, t1, t2, t3]) rfl ⟨_, _, rfl, ?_, hX.out.2⟩
    rw [← hgbw.out, hDe0.out, hDe1.out]
    exact hX.out.1
end Go.Proofs.YtdnigcndjmmkcaaGreat
