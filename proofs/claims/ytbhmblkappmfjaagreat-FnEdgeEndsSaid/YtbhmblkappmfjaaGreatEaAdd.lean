/- What spec.l2AddEdge answers: a graph with one edge more, or as it was. -/
import Derived.Test.YtbhmblkappmfjaaGreatTk
import Derived.Test.YtbhmblkappmfjaaGreatL2Copy
import Derived.Test.YtbhmblkappmfjaaGreatGSpec3
namespace Go.Proofs.YtbhmblkappmfjaaGreat
open Go.RowKit Go.Deep

/-- The rows of the edges, with one more. -/
def addFE (f : Nat → Nat → D) (len : Nat) (id : Int) (kind : ByteArray) (fr dst : Int) (dP : D) : Nat → Nat → D := fun i j => if i = len then (if j = 0 then .int id else if j = 1 then .str kind else if j = 2 then .int fr else if j = 3 then .int dst else dP) else f i j
theorem addFE_lt (f : Nat → Nat → D) (len : Nat) (id : Int) (kind : ByteArray) (fr dst : Int) (dP : D) {i : Nat} (h : i < len) : addFE f len id kind fr dst dP i = f i := by
  funext j
  simp [addFE, show ¬ i = len by omega]
theorem addFE_at0 (f : Nat → Nat → D) (len : Nat) (id : Int) (kind : ByteArray) (fr dst : Int) (dP : D) : addFE f len id kind fr dst dP len 0 = .int id := by simp [addFE]
theorem addFE_at1 (f : Nat → Nat → D) (len : Nat) (id : Int) (kind : ByteArray) (fr dst : Int) (dP : D) : addFE f len id kind fr dst dP len 1 = .str kind := by simp [addFE]
theorem addFE_at2 (f : Nat → Nat → D) (len : Nat) (id : Int) (kind : ByteArray) (fr dst : Int) (dP : D) : addFE f len id kind fr dst dP len 2 = .int fr := by simp [addFE]
theorem addFE_at3 (f : Nat → Nat → D) (len : Nat) (id : Int) (kind : ByteArray) (fr dst : Int) (dP : D) : addFE f len id kind fr dst dP len 3 = .int dst := by simp [addFE]
theorem addFE_at4 (f : Nat → Nat → D) (len : Nat) (id : Int) (kind : ByteArray) (fr dst : Int) (dP : D) : addFE f len id kind fr dst dP len 4 = dP := by simp [addFE]
/-- An edge can be added. -/
def addEB (kind : ByteArray) (dP d0 : D) (fr dst : Int) (len : Nat) (ne : Int) : Bool := nameB kind && propsB dP && hasId d0 fr && hasId d0 dst && decide (len < 16) && decide (ne < 1000000000)

set_option maxRecDepth 100000 in
set_option maxHeartbeats 8000000 in
theorem l2AddEdge_g (S S0 S1 : Nat → Prop) (b1 len1 : Nat) (f1 : Nat → Nat → D) (d0 dP : D) (kind : ByteArray) (fr dst : Int) (r0 u1 cP : Value) (ds : List Value) (x2 x3 : Int) (w : World) (hG : GRow w S1 b1 46 5 f1 len1 u1 ds) (H0 : Has d0 (.list 4)) (hr0 : DIn S0 w d0 r0) (hb00 : b1 ≤ w.heap.size) (hl : len1 ≤ 16) (hx0 : 0 ≤ x3) (hx1 : x3 ≤ 1000000000) (zk : kind.size ≤ maxLen) (zf : (Lit.int .i64 fr).wf = true) (zd : (Lit.int .i64 dst).wf = true) (HP : Has dP (.list 3)) (hP0 : DIn S w dP cP) (sP : SmallL dP) :
    Calls Tryz.prog 38 #[.agg #[r0, u1, .int .i64 x2, .int .i64 x3], .string kind, .int .i64 fr, .int .i64 dst, cP] w fun e w' => ∃ u1' x3', e = .returned (.tuple #[.agg #[r0, u1', .int .i64 x2, .int .i64 x3'], .bool (addEB kind dP d0 fr dst len1 x3)]) ∧
      (addEB kind dP d0 fr dst len1 x3 = true → x3' = x3 + 1 ∧ ∃ S1' : Nat → Prop, (∃ ds' : List Value, GRow w' S1' b1 46 5 (addFE f1 len1 x3 kind fr dst dP) (len1 + 1) u1' ds') ∧ ∀ x, S1' x → S1 x ∨ w.heap.size ≤ x) ∧
      (addEB kind dP d0 fr dst len1 x3 = false → u1' = u1 ∧ x3' = x3 ∧ GRow w' S1 b1 46 5 f1 len1 u1 ds) ∧ Chg (fun x => S1 x ∨ w.heap.size ≤ x) w w' := by
  obtain ⟨ua, ucap, rfl⟩ := hG.shape
  have hnodec : ∀ (W : World), Ext w W → ∀ id : Int, Calls Tryz.prog 15 #[.agg #[r0, .slice ua len1 ucap, .int .i64 x2, .int .i64 x3], .int .i64 id] W fun e w' => ∃ r : Int, e = .returned (.int .i64 r) ∧ decide (r < 0) = !hasId d0 id ∧ Ext W w' := fun W hW id => (l2Node_any S0 d0 r0 _ x2 x3 id W H0 (hr0.ext hW) ⟨_, _, _, rfl⟩).mono (by
    rintro e w' ⟨rfl, hE⟩
    exact ⟨_, rfl, findI_neg _ _, hE⟩)
  obtain ⟨na, ncap, nl, nf, hrd, rfl, _, _⟩ := list_shape H0 hr0
  clear hrd
  have hs0' : ∀ x, S1 x → x < w.heap.size := hG.2.2.1
  have hub := hG.2.1
  have zx3 : (Lit.int .i64 x3).wf = true := by simp [Lit.wf, IntKind.min, IntKind.max, IntKind.signed, IntKind.bits]; omega
  have hwr : IntKind.i64.wrap (x3 + 1) = x3 + 1 := wrap_i64 (by omega) (by omega)
  have hnamec := fun (W : World) => l2Name_any kind W zk
  have hprpc := fun (W : World) (hW : Ext w W) => l2Props_any dP HP S cP W (hP0.ext hW)
  have hps0 := fun (W : World) (hW : Ext w W) => l2Ps_any dP HP sP S cP W (hP0.ext hW)
  obtain ⟨i1, hi1, hz10, hz11, hz12⟩ := info_parts Tryz.infoEc
  obtain ⟨aP, capP, lP, fP, hPD, rfl, _, _⟩ := list_shape HP hP0
  clear hPD hP0
  obtain ⟨Wb, hWb⟩ : ∃ Wb, Wb = (w.alloc (.cells #[.slice na nl ncap, .slice ua len1 ucap, .int .i64 x2, .int .i64 x3] 26)).alloc (.cells #[.slice none 0 0, .slice none 0 0, .int .i64 0, .int .i64 0] 26) := ⟨_, rfl⟩
  obtain ⟨gb, hgb⟩ : ∃ m, m = w.heap.size := ⟨_, rfl⟩
  have hEw : Ext w Wb := by rw [hWb]; exact ((Ext.refl _).alloc _).alloc _
  have hzb : Wb.heap.size ≤ gb + 2 := by rw [hWb, hgb]; simp
  have hzb2 : gb + 2 ≤ Wb.heap.size := by rw [hWb, hgb]; simp
  have hblk0 : Wb.heap[gb]? = some (.cells #[.slice na nl ncap, .slice ua len1 ucap, .int .i64 x2, .int .i64 x3] 26 (0, 0)) := by
    rw [hWb, Below.block ((Ext.refl _).alloc _) _ (by rw [hgb]; simp), hgb]
    exact heap_alloc_new w _
  have hblk1 : Wb.heap[gb + 1]? = some (.cells #[.slice none 0 0, .slice none 0 0, .int .i64 0, .int .i64 0] 26 (0, 0)) := by
    have := heap_alloc_new (w.alloc (.cells #[.slice na nl ncap, .slice ua len1 ucap, .int .i64 x2, .int .i64 x3] 26)) (.cells #[.slice none 0 0, .slice none 0 0, .int .i64 0, .int .i64 0] 26)
    rw [World.size_alloc] at this
    rw [hWb, hgb]
    exact this
  have hbx : ∀ W : World, W.heap[gb]? = Wb.heap[gb]? → W.heap[gb + 1]? = Wb.heap[gb + 1]? → (W.cell? ⟨gb, 0, none⟩ = some (.slice na nl ncap) ∧ W.cell? ⟨gb, 1, none⟩ = some (.slice ua len1 ucap) ∧ W.cell? ⟨gb, 2, none⟩ = some (.int .i64 x2) ∧ W.cell? ⟨gb, 3, none⟩ = some (.int .i64 x3)) ∧ (W.cell? ⟨gb + 1, 0, none⟩ = some (.slice none 0 0) ∧ W.cell? ⟨gb + 1, 1, none⟩ = some (.slice none 0 0) ∧ W.cell? ⟨gb + 1, 2, none⟩ = some (.int .i64 0) ∧ W.cell? ⟨gb + 1, 3, none⟩ = some (.int .i64 0)) ∧ (∀ o, W.frozen? ⟨gb, o, none⟩ = false) ∧ (∀ o, W.frozen? ⟨gb + 1, o, none⟩ = false) := fun W h1 h2 => by
    rw [hblk0] at h1
    rw [hblk1] at h2
    refine ⟨⟨?_, ?_, ?_, ?_⟩, ⟨?_, ?_, ?_, ?_⟩, fun o => ?_, fun o => ?_⟩
    all_goals first | (simp [World.cell?, h1]; done) | (simp [World.cell?, h2]; done) | (simp [World.frozen?, h1]; done) | (simp [World.frozen?, h2]; done)
  have hbW : ∀ W : World, Ext Wb W → (W.cell? ⟨gb, 0, none⟩ = some (.slice na nl ncap) ∧ W.cell? ⟨gb, 1, none⟩ = some (.slice ua len1 ucap) ∧ W.cell? ⟨gb, 2, none⟩ = some (.int .i64 x2) ∧ W.cell? ⟨gb, 3, none⟩ = some (.int .i64 x3)) ∧ (W.cell? ⟨gb + 1, 0, none⟩ = some (.slice none 0 0) ∧ W.cell? ⟨gb + 1, 1, none⟩ = some (.slice none 0 0) ∧ W.cell? ⟨gb + 1, 2, none⟩ = some (.int .i64 0) ∧ W.cell? ⟨gb + 1, 3, none⟩ = some (.int .i64 0)) ∧ (∀ o, W.frozen? ⟨gb, o, none⟩ = false) ∧ (∀ o, W.frozen? ⟨gb + 1, o, none⟩ = false) := fun W hW => hbx W (Below.block hW _ (by omega)) (Below.block hW _ (by omega))
  have hgb1 : gb ≤ w.heap.size := Nat.le_of_eq hgb
  have hgb2 : w.heap.size ≤ gb := Nat.le_of_eq hgb.symm
  obtain ⟨lt16, hlt16⟩ : ∃ b, decide (len1 < 16) = b := ⟨_, rfl⟩
  obtain ⟨ltN, hltN⟩ : ∃ b, decide (x3 < 1000000000) = b := ⟨_, rfl⟩
  have hnc1 := fun (W : World) (hW : Ext w W) => hnodec W hW fr
  have hnc2 := fun (W : World) (hW : Ext w W) => hnodec W hW dst
  clear hnodec
  have hadd : addEB kind dP d0 fr dst len1 x3 = (nameB kind && propsB dP && hasId d0 fr && hasId d0 dst && lt16 && ltN) := by rw [← hlt16, ← hltN]; rfl
  rw [hadd]
  clear hadd
  generalize nameB kind = nb at *
  generalize propsB dP = pb at *
  generalize hasId d0 fr = fb at *
  generalize hasId d0 dst = tb at *
  go_enter Tryz.func38, Tryz.ntmps38
  go_wp2_with fail
  rw [← hWb, ← hgb]
  clear hWb hgb
  refine (hnamec Wb).mono ?_
  rintro e w1 ⟨rfl, hE1⟩
  cases nb
  · obtain ⟨wp, rfl⟩ : ∃ wp, wp = w1 := ⟨_, rfl⟩
    have hEp : Ext Wb wp := hE1
    clear hlt16 hltN
    obtain ⟨⟨y0, y1, y2, y3⟩, ⟨t0, t1, t2, t3⟩, yf, tf⟩ := hbW wp hEp
    have tf0 := tf 0
    have tf1 := tf 1
    have tf2 := tf 2
    have tf3 := tf 3
    have hCf : Chg (fun x => x = gb + 1) wp ((((wp.setCell ⟨gb + 1, 0, none⟩ (.slice na nl ncap)).setCell ⟨gb + 1, 1, none⟩ (.slice ua len1 ucap)).setCell ⟨gb + 1, 2, none⟩ (.int .i64 x2)).setCell ⟨gb + 1, 3, none⟩ (.int .i64 x3)) := ((((Chg.refl (fun x => x = gb + 1) wp).setCell (p := ⟨gb + 1, 0, none⟩) rfl _).setCell (p := ⟨gb + 1, 1, none⟩) rfl _).setCell (p := ⟨gb + 1, 2, none⟩) rfl _).setCell (p := ⟨gb + 1, 3, none⟩) rfl _
    have hEf : Ext w ((((wp.setCell ⟨gb + 1, 0, none⟩ (.slice na nl ncap)).setCell ⟨gb + 1, 1, none⟩ (.slice ua len1 ucap)).setCell ⟨gb + 1, 2, none⟩ (.int .i64 x2)).setCell ⟨gb + 1, 3, none⟩ (.int .i64 x3)) := hCf.toExt (hEw.trans hEp) (fun x hx => by omega)
    have hX : Hid _ := And.intro (hG.ext hEf) (Chg.of_ext (R := fun x => S1 x ∨ w.heap.size ≤ x) hEf)
    clear hCf hEf
    go_wp2
    first
      | refine bodyPost_ret (v := .tuple #[.agg #[.slice na nl ncap, .slice ua len1 ucap, .int .i64 x2, .int .i64 x3], .bool false]) (by simp [results, Tryz.results38, go_sem, t0, t1, t2, t3]) rfl ⟨_, _, rfl, fun h => (by cases h), fun _ => ⟨rfl, rfl, hX.out.1⟩, hX.out.2⟩
      | refine bodyPost_ret (v := .tuple #[.agg #[.slice na nl ncap, .slice ua len1 ucap, .int .i64 x2, .int .i64 x3], .bool false]) (by simp [results, Tryz.results38, go_sem, t0, t1, t2, t3]) rfl ⟨_, _, rfl, ⟨rfl, rfl, hX.out.1⟩, hX.out.2⟩
  · go_wp2_with fail
    refine (hprpc w1 (hEw.trans hE1)).mono ?_
    rintro e w2 ⟨rfl, hE2⟩
    have hE12 := hE1.trans hE2
    cases pb
    · obtain ⟨wp, rfl⟩ : ∃ wp, wp = w2 := ⟨_, rfl⟩
      have hEp : Ext Wb wp := hE12
      clear hlt16 hltN
      obtain ⟨⟨y0, y1, y2, y3⟩, ⟨t0, t1, t2, t3⟩, yf, tf⟩ := hbW wp hEp
      have tf0 := tf 0
      have tf1 := tf 1
      have tf2 := tf 2
      have tf3 := tf 3
      have hCf : Chg (fun x => x = gb + 1) wp ((((wp.setCell ⟨gb + 1, 0, none⟩ (.slice na nl ncap)).setCell ⟨gb + 1, 1, none⟩ (.slice ua len1 ucap)).setCell ⟨gb + 1, 2, none⟩ (.int .i64 x2)).setCell ⟨gb + 1, 3, none⟩ (.int .i64 x3)) := ((((Chg.refl (fun x => x = gb + 1) wp).setCell (p := ⟨gb + 1, 0, none⟩) rfl _).setCell (p := ⟨gb + 1, 1, none⟩) rfl _).setCell (p := ⟨gb + 1, 2, none⟩) rfl _).setCell (p := ⟨gb + 1, 3, none⟩) rfl _
      have hEf : Ext w ((((wp.setCell ⟨gb + 1, 0, none⟩ (.slice na nl ncap)).setCell ⟨gb + 1, 1, none⟩ (.slice ua len1 ucap)).setCell ⟨gb + 1, 2, none⟩ (.int .i64 x2)).setCell ⟨gb + 1, 3, none⟩ (.int .i64 x3)) := hCf.toExt (hEw.trans hEp) (fun x hx => by omega)
      have hX : Hid _ := And.intro (hG.ext hEf) (Chg.of_ext (R := fun x => S1 x ∨ w.heap.size ≤ x) hEf)
      clear hCf hEf
      go_wp2
      first
        | refine bodyPost_ret (v := .tuple #[.agg #[.slice na nl ncap, .slice ua len1 ucap, .int .i64 x2, .int .i64 x3], .bool false]) (by simp [results, Tryz.results38, go_sem, t0, t1, t2, t3]) rfl ⟨_, _, rfl, fun h => (by cases h), fun _ => ⟨rfl, rfl, hX.out.1⟩, hX.out.2⟩
        | refine bodyPost_ret (v := .tuple #[.agg #[.slice na nl ncap, .slice ua len1 ucap, .int .i64 x2, .int .i64 x3], .bool false]) (by simp [results, Tryz.results38, go_sem, t0, t1, t2, t3]) rfl ⟨_, _, rfl, ⟨rfl, rfl, hX.out.1⟩, hX.out.2⟩
    · obtain ⟨⟨y0, y1, y2, y3⟩, _⟩ := hbW w2 hE12
      go_wp2_with fail
      refine (hnc1 w2 (hEw.trans hE12)).mono ?_
      rintro e w3 ⟨r, rfl, hr, hE3⟩
      have hE13 := hE12.trans hE3
      clear y0 y1 y2 y3
      cases fb
      · have hr' : r < 0 := of_decide_eq_true hr
        obtain ⟨wp, rfl⟩ : ∃ wp, wp = w3 := ⟨_, rfl⟩
        have hEp : Ext Wb wp := hE13
        clear hlt16 hltN hr
        obtain ⟨⟨y0, y1, y2, y3⟩, ⟨t0, t1, t2, t3⟩, yf, tf⟩ := hbW wp hEp
        have tf0 := tf 0
        have tf1 := tf 1
        have tf2 := tf 2
        have tf3 := tf 3
        have hCf : Chg (fun x => x = gb + 1) wp ((((wp.setCell ⟨gb + 1, 0, none⟩ (.slice na nl ncap)).setCell ⟨gb + 1, 1, none⟩ (.slice ua len1 ucap)).setCell ⟨gb + 1, 2, none⟩ (.int .i64 x2)).setCell ⟨gb + 1, 3, none⟩ (.int .i64 x3)) := ((((Chg.refl (fun x => x = gb + 1) wp).setCell (p := ⟨gb + 1, 0, none⟩) rfl _).setCell (p := ⟨gb + 1, 1, none⟩) rfl _).setCell (p := ⟨gb + 1, 2, none⟩) rfl _).setCell (p := ⟨gb + 1, 3, none⟩) rfl _
        have hEf : Ext w ((((wp.setCell ⟨gb + 1, 0, none⟩ (.slice na nl ncap)).setCell ⟨gb + 1, 1, none⟩ (.slice ua len1 ucap)).setCell ⟨gb + 1, 2, none⟩ (.int .i64 x2)).setCell ⟨gb + 1, 3, none⟩ (.int .i64 x3)) := hCf.toExt (hEw.trans hEp) (fun x hx => by omega)
        have hX : Hid _ := And.intro (hG.ext hEf) (Chg.of_ext (R := fun x => S1 x ∨ w.heap.size ≤ x) hEf)
        clear hCf hEf
        go_wp2
        first
          | refine bodyPost_ret (v := .tuple #[.agg #[.slice na nl ncap, .slice ua len1 ucap, .int .i64 x2, .int .i64 x3], .bool false]) (by simp [results, Tryz.results38, go_sem, t0, t1, t2, t3]) rfl ⟨_, _, rfl, fun h => (by cases h), fun _ => ⟨rfl, rfl, hX.out.1⟩, hX.out.2⟩
          | refine bodyPost_ret (v := .tuple #[.agg #[.slice na nl ncap, .slice ua len1 ucap, .int .i64 x2, .int .i64 x3], .bool false]) (by simp [results, Tryz.results38, go_sem, t0, t1, t2, t3]) rfl ⟨_, _, rfl, ⟨rfl, rfl, hX.out.1⟩, hX.out.2⟩
      · have hr' : ¬ r < 0 := of_decide_eq_false hr
        clear hr
        obtain ⟨⟨y0, y1, y2, y3⟩, _⟩ := hbW w3 hE13
        go_wp2_with fail
        refine (hnc2 w3 (hEw.trans hE13)).mono ?_
        rintro e wp ⟨q, rfl, hq, hE4⟩
        have hEp : Ext Wb wp := hE13.trans hE4
        clear y0 y1 y2 y3
        cases tb
        · have hq' : q < 0 := of_decide_eq_true hq
          clear hlt16 hltN hq
          obtain ⟨⟨y0, y1, y2, y3⟩, ⟨t0, t1, t2, t3⟩, yf, tf⟩ := hbW wp hEp
          have tf0 := tf 0
          have tf1 := tf 1
          have tf2 := tf 2
          have tf3 := tf 3
          have hCf : Chg (fun x => x = gb + 1) wp ((((wp.setCell ⟨gb + 1, 0, none⟩ (.slice na nl ncap)).setCell ⟨gb + 1, 1, none⟩ (.slice ua len1 ucap)).setCell ⟨gb + 1, 2, none⟩ (.int .i64 x2)).setCell ⟨gb + 1, 3, none⟩ (.int .i64 x3)) := ((((Chg.refl (fun x => x = gb + 1) wp).setCell (p := ⟨gb + 1, 0, none⟩) rfl _).setCell (p := ⟨gb + 1, 1, none⟩) rfl _).setCell (p := ⟨gb + 1, 2, none⟩) rfl _).setCell (p := ⟨gb + 1, 3, none⟩) rfl _
          have hEf : Ext w ((((wp.setCell ⟨gb + 1, 0, none⟩ (.slice na nl ncap)).setCell ⟨gb + 1, 1, none⟩ (.slice ua len1 ucap)).setCell ⟨gb + 1, 2, none⟩ (.int .i64 x2)).setCell ⟨gb + 1, 3, none⟩ (.int .i64 x3)) := hCf.toExt (hEw.trans hEp) (fun x hx => by omega)
          have hX : Hid _ := And.intro (hG.ext hEf) (Chg.of_ext (R := fun x => S1 x ∨ w.heap.size ≤ x) hEf)
          clear hCf hEf
          go_wp2
          first
            | refine bodyPost_ret (v := .tuple #[.agg #[.slice na nl ncap, .slice ua len1 ucap, .int .i64 x2, .int .i64 x3], .bool false]) (by simp [results, Tryz.results38, go_sem, t0, t1, t2, t3]) rfl ⟨_, _, rfl, fun h => (by cases h), fun _ => ⟨rfl, rfl, hX.out.1⟩, hX.out.2⟩
            | refine bodyPost_ret (v := .tuple #[.agg #[.slice na nl ncap, .slice ua len1 ucap, .int .i64 x2, .int .i64 x3], .bool false]) (by simp [results, Tryz.results38, go_sem, t0, t1, t2, t3]) rfl ⟨_, _, rfl, ⟨rfl, rfl, hX.out.1⟩, hX.out.2⟩
        · have hq' : ¬ q < 0 := of_decide_eq_false hq
          clear hq
          cases lt16
          · have h16 : ¬ len1 < 16 := of_decide_eq_false hlt16
            have h16' : (16 : Int) ≤ (len1 : Int) := by omega
            clear hlt16 hltN
            obtain ⟨⟨y0, y1, y2, y3⟩, ⟨t0, t1, t2, t3⟩, yf, tf⟩ := hbW wp hEp
            have tf0 := tf 0
            have tf1 := tf 1
            have tf2 := tf 2
            have tf3 := tf 3
            have hCf : Chg (fun x => x = gb + 1) wp ((((wp.setCell ⟨gb + 1, 0, none⟩ (.slice na nl ncap)).setCell ⟨gb + 1, 1, none⟩ (.slice ua len1 ucap)).setCell ⟨gb + 1, 2, none⟩ (.int .i64 x2)).setCell ⟨gb + 1, 3, none⟩ (.int .i64 x3)) := ((((Chg.refl (fun x => x = gb + 1) wp).setCell (p := ⟨gb + 1, 0, none⟩) rfl _).setCell (p := ⟨gb + 1, 1, none⟩) rfl _).setCell (p := ⟨gb + 1, 2, none⟩) rfl _).setCell (p := ⟨gb + 1, 3, none⟩) rfl _
            have hEf : Ext w ((((wp.setCell ⟨gb + 1, 0, none⟩ (.slice na nl ncap)).setCell ⟨gb + 1, 1, none⟩ (.slice ua len1 ucap)).setCell ⟨gb + 1, 2, none⟩ (.int .i64 x2)).setCell ⟨gb + 1, 3, none⟩ (.int .i64 x3)) := hCf.toExt (hEw.trans hEp) (fun x hx => by omega)
            have hX : Hid _ := And.intro (hG.ext hEf) (Chg.of_ext (R := fun x => S1 x ∨ w.heap.size ≤ x) hEf)
            clear hCf hEf
            go_wp2
            first
              | refine bodyPost_ret (v := .tuple #[.agg #[.slice na nl ncap, .slice ua len1 ucap, .int .i64 x2, .int .i64 x3], .bool false]) (by simp [results, Tryz.results38, go_sem, t0, t1, t2, t3]) rfl ⟨_, _, rfl, fun h => (by cases h), fun _ => ⟨rfl, rfl, hX.out.1⟩, hX.out.2⟩
              | refine bodyPost_ret (v := .tuple #[.agg #[.slice na nl ncap, .slice ua len1 ucap, .int .i64 x2, .int .i64 x3], .bool false]) (by simp [results, Tryz.results38, go_sem, t0, t1, t2, t3]) rfl ⟨_, _, rfl, ⟨rfl, rfl, hX.out.1⟩, hX.out.2⟩
          · have h16 : len1 < 16 := of_decide_eq_true hlt16
            have h16' : ¬ (16 : Int) ≤ (len1 : Int) := by omega
            cases ltN
            · have hN : ¬ x3 < 1000000000 := of_decide_eq_false hltN
              clear hltN hlt16
              obtain ⟨⟨y0, y1, y2, y3⟩, ⟨t0, t1, t2, t3⟩, yf, tf⟩ := hbW wp hEp
              have tf0 := tf 0
              have tf1 := tf 1
              have tf2 := tf 2
              have tf3 := tf 3
              have hCf : Chg (fun x => x = gb + 1) wp ((((wp.setCell ⟨gb + 1, 0, none⟩ (.slice na nl ncap)).setCell ⟨gb + 1, 1, none⟩ (.slice ua len1 ucap)).setCell ⟨gb + 1, 2, none⟩ (.int .i64 x2)).setCell ⟨gb + 1, 3, none⟩ (.int .i64 x3)) := ((((Chg.refl (fun x => x = gb + 1) wp).setCell (p := ⟨gb + 1, 0, none⟩) rfl _).setCell (p := ⟨gb + 1, 1, none⟩) rfl _).setCell (p := ⟨gb + 1, 2, none⟩) rfl _).setCell (p := ⟨gb + 1, 3, none⟩) rfl _
              have hEf : Ext w ((((wp.setCell ⟨gb + 1, 0, none⟩ (.slice na nl ncap)).setCell ⟨gb + 1, 1, none⟩ (.slice ua len1 ucap)).setCell ⟨gb + 1, 2, none⟩ (.int .i64 x2)).setCell ⟨gb + 1, 3, none⟩ (.int .i64 x3)) := hCf.toExt (hEw.trans hEp) (fun x hx => by omega)
              have hX : Hid _ := And.intro (hG.ext hEf) (Chg.of_ext (R := fun x => S1 x ∨ w.heap.size ≤ x) hEf)
              clear hCf hEf
              go_wp2
              first
                | refine bodyPost_ret (v := .tuple #[.agg #[.slice na nl ncap, .slice ua len1 ucap, .int .i64 x2, .int .i64 x3], .bool false]) (by simp [results, Tryz.results38, go_sem, t0, t1, t2, t3]) rfl ⟨_, _, rfl, fun h => (by cases h), fun _ => ⟨rfl, rfl, hX.out.1⟩, hX.out.2⟩
                | refine bodyPost_ret (v := .tuple #[.agg #[.slice na nl ncap, .slice ua len1 ucap, .int .i64 x2, .int .i64 x3], .bool false]) (by simp [results, Tryz.results38, go_sem, t0, t1, t2, t3]) rfl ⟨_, _, rfl, ⟨rfl, rfl, hX.out.1⟩, hX.out.2⟩
            · have hN : x3 < 1000000000 := of_decide_eq_true hltN
              clear hltN hlt16
              obtain ⟨⟨y0, y1, y2, y3⟩, _, yf, tf⟩ := hbW wp hEp
              have hGp := hG.ext (hEw.trans hEp)
              have hGd : GRow wp.drew S1 b1 46 5 f1 len1 (.slice ua len1 ucap) ds := hGp.ext (Ext.refl _).drew
              have hE0 : Ext w wp.drew := (hEw.trans hEp).drew
              have hEW0 : Ext Wb wp.drew := hEp.drew
              have hps := hps0
              have hrl : ∀ x, (Value.slice ua len1 ucap).ownBlock = some x → x < gb := fun x hx => by have := hs0' x (hub x hx); omega
              have hs0 : ∀ x, S1 x → x < gb := fun x hx => by have := hs0' x hx; omega
              have hzp := hEp.le
              have hzw : wp.drew.heap.size ≤ wp.heap.size := Nat.le_refl _
              have hzw2 : wp.heap.size ≤ wp.drew.heap.size := Nat.le_refl _
              have hOb : ∀ W, Ext wp.drew W → W.cell? ⟨gb, 1, none⟩ = some (.slice ua len1 ucap) := fun W hW => (hbW W (hEW0.trans hW)).1.2.1
              have HK : Hid (∀ W, Chg (fun x => (Value.slice ua len1 ucap).ownBlock = some x) wp.drew W → W.cell? ⟨gb, 3, none⟩ = some (.int .i64 x3)) := fun W hW => by
                rw [World.cell?_of_block (hW.block gb (by omega) (fun h => by have := hrl _ h; omega))]
                exact (hbW _ hEW0).1.2.2.2
              have hcur : Chg (fun x => (Value.slice ua len1 ucap).ownBlock = some x) wp.drew wp.drew := Chg.refl _ _
              go_wp2_with fail
              clear y0 y1 y2 y3 yf tf
              refine wp_region_held_drew (S := (fun W => W.cell? ⟨gb, 3, none⟩ = some (.int .i64 x3))) (by kernel_rfl) (HK.out _ hcur) (fun hHeld => ?_)
              refine tkL 0 ⟨some 44, .fieldAddr 26 (.tmp 5) 1, 0, _, #[], none⟩ ?_ hHeld ?yyA00 ?rrA00
              case yyA00 => (intro w hSw; (try dsimp only at hSw); go_simp; try with_reducible rfl)
              try simp only [Act.put, putA, putB, putC]
              refine tkL 2 ⟨some 46, .fieldAddr 26 (.tmp 5) 3, 0, _, #[], none⟩ ?_ hHeld ?yyA02 ?rrA02
              case yyA02 => (intro w hSw; (try dsimp only at hSw); go_simp; try with_reducible rfl)
              try simp only [Act.put, putA, putB, putC]
              refine tkL 3 ⟨some 47, .load 3 (.tmp 46), 3, _, #[⟨2, .data⟩], none⟩ ?_ hHeld ?yyA03 ?rrA03
              case yyA03 => (intro w hSw; (try dsimp only at hSw); go_simp; try with_reducible rfl)
              try simp only [Act.put, putA, putB, putC]
              refine tkL 4 ⟨some 48, .move (.tmp 1), 9, _, #[], none⟩ ?_ hHeld ?yyA04 ?rrA04
              case yyA04 => (intro w hSw; (try dsimp only at hSw); go_simp; try with_reducible rfl)
              try simp only [Act.put, putA, putB, putC]
              refine tkL 5 ⟨some 49, .move (.tmp 2), 3, _, #[], none⟩ ?_ hHeld ?yyA05 ?rrA05
              case yyA05 => (intro w hSw; (try dsimp only at hSw); go_simp; try with_reducible rfl)
              try simp only [Act.put, putA, putB, putC]
              refine tkL 6 ⟨some 50, .move (.tmp 3), 3, _, #[], none⟩ ?_ hHeld ?yyA06 ?rrA06
              case yyA06 => (intro w hSw; (try dsimp only at hSw); go_simp; try with_reducible rfl)
              try simp only [Act.put, putA, putB, putC]
              refine tkL 7 ⟨some 51, .move (.tmp 4), 32, _, #[], none⟩ ?_ hHeld ?yyA07 ?rrA07
              case yyA07 => (intro w hSw; (try dsimp only at hSw); go_simp; try with_reducible rfl)
              try simp only [Act.put, putA, putB, putC]
              generalize hWd : wp.drew = W0 at *
              clear hcur
              refine wpAnyH_ready (rs := [1, 8]) (by kernel_rfl) (by simp) ?_
              refine AllReadyH.cons (o := ⟨some 45, .load 24 (.tmp 44), 24, _, #[⟨0, .data⟩], none⟩) rfl (fun K hK => ?_) (AllReadyH.cons (o := ⟨some 52, .call { callee := .value (.func 34), args := #[.tmp 51], argTypes := #[32] }, 32, _, #[⟨7, .data⟩], none⟩) rfl (fun K hK => ?_) (AllReadyH.nil))
              · have oN := hOb W0 (Ext.refl W0)
                go_simp
                refine hK.out _ _ (HK.out _ (Chg.of_ext (Ext.refl W0))) (fun hHeld => ?_)
                clear oN
                clear hK K
                try simp only [Act.put, putA, putB, putC]
                refine wpAnyH_ready (rs := [8]) (by kernel_rfl) (by simp) ?_
                refine AllReadyH.cons (o := ⟨some 52, .call { callee := .value (.func 34), args := #[.tmp 51], argTypes := #[32] }, 32, _, #[⟨7, .data⟩], none⟩) rfl (fun K hK => ?_) (AllReadyH.nil)
                go_simp
                refine (hps W0 (hE0.trans (Ext.refl W0))).mono ?_
                rintro e W6 ⟨pa, pl, pc, rfl, ⟨hDp, hOp⟩, hE6⟩
                have hEW6 : Ext W0 W6 := (Ext.refl W0).trans hE6
                have hb6 := (Ext.refl W0).le
                have hs6 := hE6.le
                obtain ⟨p6, hp6⟩ : ∃ m, m = W0.heap.size := ⟨_, rfl⟩
                obtain ⟨q6, hq6⟩ : ∃ m, m = W6.heap.size := ⟨_, rfl⟩
                rw [← hp6, ← hq6] at hDp hOp
                have hp6a := Nat.le_of_eq hp6
                have hp6b := Nat.le_of_eq hp6.symm
                have hq6a := Nat.le_of_eq hq6
                have hq6b := Nat.le_of_eq hq6.symm
                clear hp6 hq6
                go_wp2_with fail
                refine hK.out _ _ (HK.out _ (Chg.of_ext hEW6)) (fun hHeld => ?_)
                clear hK K
                try simp only [Act.put, putA, putB, putC]
                refine tkL 9 ⟨some 53, .build 46 #[(0, .tmp 47), (1, .tmp 48), (2, .tmp 49), (3, .tmp 50), (4, .tmp 52)], 46, _, #[⟨3, .data⟩, ⟨4, .data⟩, ⟨5, .data⟩, ⟨6, .data⟩, ⟨8, .data⟩], none⟩ ?_ hHeld ?yyA39 ?rrA39
                case yyA39 => (intro w hSw; (try dsimp only at hSw); go_simp; try with_reducible rfl)
                try simp only [Act.put, putA, putB, putC]
                refine wpAnyH_ready (rs := [10]) (by kernel_rfl) (by simp) ?_
                refine AllReadyH.cons (o := ⟨some 54, .buildSlice 24 1 #[(0, .tmp 53)], 24, _, #[⟨9, .data⟩], none⟩) rfl (fun K hK => ?_) (AllReadyH.nil)
                go_simp
                refine hK.out _ _ (HK.out _ (Chg.of_ext ((hEW6).alloc _))) (fun hHeld => ?_)
                clear hK K
                try simp only [Act.put, putA, putB, putC]
                have hQP : ∀ x, New p6 q6 x → W0.heap.size ≤ x ∧ x < W6.heap.size := fun x hx => by have h1 := hx.1; have h2 := hx.2; omega
                refine wpAnyH_ready (rs := [11]) (by kernel_rfl) (by simp) ?_
                refine AllReadyH.cons (o := ⟨some 55, .call { callee := .builtin .append, args := #[.tmp 45, .tmp 54], argTypes := #[24, 24] }, 24, _, #[⟨1, .data⟩, ⟨10, .data⟩, ⟨8, .chain⟩], none⟩) rfl (fun K hK => ?_) (AllReadyH.nil)
                have hrow := (hGd.ext (hEW6)).1
                refine step_append_lies _ (by rfl) _ _ _ (by rfl) b1 46 i1 _ 5 64 Tryz.underlying24 hi1 hz10 hz11 hz12 rfl (by omega) (Value.slice ua len1 ucap) len1 ds (by rfl) (hrow.alloc _) ⟨W6.heap.size, 0, none⟩ 1 1 [.int .i64 x3, .string kind, .int .i64 fr, .int .i64 dst, .slice pa pl pc] (by rfl) (by rfl) (World.news_of_block (cs := #[.int .i64 x3, .string kind, .int .i64 fr, .int .i64 dst, .slice pa pl pc]) (t := 46) (fr := (0, 0)) (heap_alloc_new W6 _)) (by simp [Value.oneCell']) (by omega) (by unfold maxLen; omega) (by omega) (by have := (hEW6).le; simp; omega) (W6.heap.size + 1) (by simp) ?_
                intro g gcap w9 hown9 hgrow9 hat9 hlt9
                have hcur9 : Chg (fun x => (Value.slice ua len1 ucap).ownBlock = some x) W0 w9 := (Chg.of_ext ((hEW6).alloc _)).grown hgrow9 (fun b hb => hb)
                refine hK.out _ _ (HK.out _ hcur9) (fun hHeld => ?_)
                clear hK K
                try simp only [Act.put, putA, putB, putC]
                refine tkL 12 ⟨some 56, .fieldAddr 26 (.tmp 5) 1, 0, _, #[⟨0, .phase⟩, ⟨1, .phase⟩, ⟨2, .phase⟩, ⟨3, .phase⟩, ⟨4, .phase⟩, ⟨5, .phase⟩, ⟨6, .phase⟩, ⟨7, .phase⟩, ⟨8, .phase⟩, ⟨9, .phase⟩, ⟨10, .phase⟩, ⟨11, .phase⟩], none⟩ ?_ hHeld ?yyA512 ?rrA512
                case yyA512 => (intro w hSw; (try dsimp only at hSw); go_simp; try with_reducible rfl)
                try simp only [Act.put, putA, putB, putC]
                refine wpAnyH_ready (rs := [13]) (by kernel_rfl) (by simp) ?_
                refine AllReadyH.cons (o := ⟨none, .store 24 (.tmp 56) (.tmp 55), 0, _, #[⟨12, .data⟩, ⟨11, .data⟩, ⟨11, .chain⟩, ⟨0, .phase⟩, ⟨1, .phase⟩, ⟨2, .phase⟩, ⟨3, .phase⟩, ⟨4, .phase⟩, ⟨5, .phase⟩, ⟨6, .phase⟩, ⟨7, .phase⟩, ⟨8, .phase⟩, ⟨9, .phase⟩, ⟨10, .phase⟩, ⟨11, .phase⟩], none⟩) rfl (fun K hK => ?_) (AllReadyH.nil)
                have hA : Ext W6 (W6.alloc (.cells #[.int .i64 x3, .string kind, .int .i64 fr, .int .i64 dst, .slice pa pl pc] 46)) := (Ext.refl _).alloc _
                have hX9 : Ext Wb (W6.alloc (.cells #[.int .i64 x3, .string kind, .int .i64 fr, .int .i64 dst, .slice pa pl pc] 46)) := hEW0.trans ((hEW6).trans hA)
                have hk9 : ∀ b, gb ≤ b → b < Wb.heap.size → w9.heap[b]? = Wb.heap[b]? := fun b h1 h2 => by rw [hgrow9.block b (by have := hX9.le; omega) (fun e => by have := hrl _ e.symm; omega), Below.block hX9 b h2]
                obtain ⟨⟨y0, y1, y2, y3⟩, ⟨t0, t1, t2, t3⟩, yf, tf⟩ := hbx w9 (hk9 gb (by omega) (by omega)) (hk9 (gb + 1) (by omega) (by omega))
                have yf1 := yf 1
                have yf3 := yf 3
                have tf0 := tf 0
                have tf1 := tf 1
                have tf2 := tf 2
                have tf3 := tf 3
                go_simp
                refine hK.out _ _ (by rw [World.cell?_setCell_other _ _ _ _ (by simp)]; exact HK.out _ hcur9) (fun hHeld => ?_)
                clear hK K
                try simp only [Act.put, putA, putB, putC]
                refine wpAnyH_done (by kernel_rfl) ?_ _
                clear hHeld HK
                clear hOb
                have hrow4 : GRow w9 (fun x => S1 x ∨ W0.heap.size ≤ x ∧ x < w9.heap.size) b1 46 5 (addFE f1 len1 x3 kind fr dst dP) (len1 + 1) (.slice (some ⟨g, 0, none⟩) (len1 + 1) gcap) (ds ++ [.int .i64 x3, .string kind, .int .i64 fr, .int .i64 dst, .slice pa pl pc]) := by
                  have hw9 : (W6.alloc (.cells #[.int .i64 x3, .string kind, .int .i64 fr, .int .i64 dst, .slice pa pl pc] 46)).heap.size ≤ w9.heap.size := hgrow9.size
                  have hzW := (hEW6).le
                  rw [World.size_alloc] at hw9
                  refine GRow.push (w1 := W6.alloc (.cells #[.int .i64 x3, .string kind, .int .i64 fr, .int .i64 dst, .slice pa pl pc] 46)) (hGd.congr (fun i hi => addFE_lt f1 len1 x3 kind fr dst dP hi)) ((hEW6).trans hA) [.int .i64 x3, .string kind, .int .i64 fr, .int .i64 dst, .slice pa pl pc] rfl (fun j => if j = 4 then New p6 q6 else fun _ => False) (fun j hj => ?_) (fun j j' hj hj' hne x hx hx' => ?_) (fun x hx => .inl hx) (fun x hx => ?_) (fun e => .inr ⟨by simp; omega, ?_⟩) hown9 hgrow9 ?_
                  · have hc4 : j = 0 ∨ j = 1 ∨ j = 2 ∨ j = 3 ∨ j = 4 := by omega
                    rcases hc4 with rfl | rfl | rfl | rfl | rfl
                    · rw [addFE_at0]; exact ⟨⟨rfl, zx3⟩, trivial, fun x hx => absurd hx (by simp)⟩
                    · rw [addFE_at1]; exact ⟨⟨rfl, zk⟩, trivial, fun x hx => absurd hx (by simp)⟩
                    · rw [addFE_at2]; exact ⟨⟨rfl, zf⟩, trivial, fun x hx => absurd hx (by simp)⟩
                    · rw [addFE_at3]; exact ⟨⟨rfl, zd⟩, trivial, fun x hx => absurd hx (by simp)⟩
                    · rw [addFE_at4]; exact ⟨hDp.ext hA, hOp.ext hA, fun x hx => ⟨(hQP x hx).1, Nat.lt_of_lt_of_le (hQP x hx).2 hA.le, .inr ⟨(hQP x hx).1, by have := (hQP x hx).2; omega⟩⟩⟩
                  · by_cases h4 : j = 4
                    · rw [if_neg (by omega)] at hx'; exact hx'
                    · rw [if_neg h4] at hx; exact hx
                  · rcases hx with hx | hx
                    · have := hs0 x hx; omega
                    · exact hx.2
                  · have := hown9.lt _ (show (Value.slice (some ⟨g, 0, none⟩) (len1 + 1) gcap).ownBlock = some g from rfl)
                    have e2 : g = (W6.alloc (.cells #[.int .i64 x3, .string kind, .int .i64 fr, .int .i64 dst, .slice pa pl pc] 46)).heap.size := Option.some.inj e
                    omega
                  · rcases hat9 with e | e
                    · exact .inl e.symm
                    · right; subst e; simp [Value.ownBlock]
                have hCf : Chg (fun x => x = gb ∨ x = gb + 1) w9 ((((((w9.setCell ⟨gb, 1, none⟩ (.slice (some ⟨g, 0, none⟩) (len1 + 1) gcap)).setCell ⟨gb, 3, none⟩ (.int .i64 (x3 + 1))).setCell ⟨gb + 1, 0, none⟩ (.slice na nl ncap)).setCell ⟨gb + 1, 1, none⟩ (.slice (some ⟨g, 0, none⟩) (len1 + 1) gcap)).setCell ⟨gb + 1, 2, none⟩ (.int .i64 x2)).setCell ⟨gb + 1, 3, none⟩ (.int .i64 (x3 + 1))) := ((((((Chg.refl (fun x => x = gb ∨ x = gb + 1) w9).setCell (p := ⟨gb, 1, none⟩) (.inl rfl) _).setCell (p := ⟨gb, 3, none⟩) (.inl rfl) _).setCell (p := ⟨gb + 1, 0, none⟩) (.inr rfl) _).setCell (p := ⟨gb + 1, 1, none⟩) (.inr rfl) _).setCell (p := ⟨gb + 1, 2, none⟩) (.inr rfl) _).setCell (p := ⟨gb + 1, 3, none⟩) (.inr rfl) _
                have hCw : Chg (fun x => S1 x) w w9 := chg_up (Chg.of_ext (hEw.trans hEW0)) hcur9 (fun x hx => .inr (hub x hx))
                have hCall : Chg (fun x => S1 x ∨ w.heap.size ≤ x) w ((((((w9.setCell ⟨gb, 1, none⟩ (.slice (some ⟨g, 0, none⟩) (len1 + 1) gcap)).setCell ⟨gb, 3, none⟩ (.int .i64 (x3 + 1))).setCell ⟨gb + 1, 0, none⟩ (.slice na nl ncap)).setCell ⟨gb + 1, 1, none⟩ (.slice (some ⟨g, 0, none⟩) (len1 + 1) gcap)).setCell ⟨gb + 1, 2, none⟩ (.int .i64 x2)).setCell ⟨gb + 1, 3, none⟩ (.int .i64 (x3 + 1))) := (hCw.mono (fun x hx => .inl hx)).trans (hCf.mono (fun x hx => .inr (by omega)))
                have hR : Hid _ := hrow4.chg hCf (fun x hx h => by rcases hx with hx | hx; (have := hs0' x hx; omega); omega)
                have hX : Hid (Chg (fun x => S1 x ∨ w.heap.size ≤ x) w ((((((w9.setCell ⟨gb, 1, none⟩ (.slice (some ⟨g, 0, none⟩) (len1 + 1) gcap)).setCell ⟨gb, 3, none⟩ (.int .i64 (x3 + 1))).setCell ⟨gb + 1, 0, none⟩ (.slice na nl ncap)).setCell ⟨gb + 1, 1, none⟩ (.slice (some ⟨g, 0, none⟩) (len1 + 1) gcap)).setCell ⟨gb + 1, 2, none⟩ (.int .i64 x2)).setCell ⟨gb + 1, 3, none⟩ (.int .i64 (x3 + 1)))) := hCall
                have hz9 := hgrow9.size
                rw [World.size_alloc] at hz9
                have hzE := (hEW6).le
                have hzz := (hEw.trans hEW0).le
                clear hrow4 hCf hCw hcur9 hDp hOp hQP hrow hCall hr0
                go_wp2
                first
                  | refine bodyPost_ret (v := .tuple #[.agg #[.slice na nl ncap, .slice (some ⟨g, 0, none⟩) (len1 + 1) gcap, .int .i64 x2, .int .i64 (x3 + 1)], .bool true]) (by simp [results, Tryz.results38, go_sem, t0, t1, t2, t3]) rfl ⟨_, _, rfl, fun _ => ⟨rfl, _, ⟨_, hR.out⟩, fun x hx => ?_⟩, fun h => (by cases h), hX.out⟩
                  | refine bodyPost_ret (v := .tuple #[.agg #[.slice na nl ncap, .slice (some ⟨g, 0, none⟩) (len1 + 1) gcap, .int .i64 x2, .int .i64 (x3 + 1)], .bool true]) (by simp [results, Tryz.results38, go_sem, t0, t1, t2, t3]) rfl ⟨_, _, rfl, ⟨rfl, _, ⟨_, hR.out⟩, fun x hx => ?_⟩, hX.out⟩
                rcases hx with hx | hx
                · exact .inl hx
                · exact .inr (by omega)
              · go_simp
                refine (hps W0 (hE0.trans (Ext.refl W0))).mono ?_
                rintro e W6 ⟨pa, pl, pc, rfl, ⟨hDp, hOp⟩, hE6⟩
                have hEW6 : Ext W0 W6 := (Ext.refl W0).trans hE6
                have hb6 := (Ext.refl W0).le
                have hs6 := hE6.le
                obtain ⟨p6, hp6⟩ : ∃ m, m = W0.heap.size := ⟨_, rfl⟩
                obtain ⟨q6, hq6⟩ : ∃ m, m = W6.heap.size := ⟨_, rfl⟩
                rw [← hp6, ← hq6] at hDp hOp
                have hp6a := Nat.le_of_eq hp6
                have hp6b := Nat.le_of_eq hp6.symm
                have hq6a := Nat.le_of_eq hq6
                have hq6b := Nat.le_of_eq hq6.symm
                clear hp6 hq6
                go_wp2_with fail
                refine hK.out _ _ (HK.out _ (Chg.of_ext hEW6)) (fun hHeld => ?_)
                clear hK K
                try simp only [Act.put, putA, putB, putC]
                refine tkL 9 ⟨some 53, .build 46 #[(0, .tmp 47), (1, .tmp 48), (2, .tmp 49), (3, .tmp 50), (4, .tmp 52)], 46, _, #[⟨3, .data⟩, ⟨4, .data⟩, ⟨5, .data⟩, ⟨6, .data⟩, ⟨8, .data⟩], none⟩ ?_ hHeld ?yyA69 ?rrA69
                case yyA69 => (intro w hSw; (try dsimp only at hSw); go_simp; try with_reducible rfl)
                try simp only [Act.put, putA, putB, putC]
                refine wpAnyH_ready (rs := [1, 10]) (by kernel_rfl) (by simp) ?_
                refine AllReadyH.cons (o := ⟨some 45, .load 24 (.tmp 44), 24, _, #[⟨0, .data⟩], none⟩) rfl (fun K hK => ?_) (AllReadyH.cons (o := ⟨some 54, .buildSlice 24 1 #[(0, .tmp 53)], 24, _, #[⟨9, .data⟩], none⟩) rfl (fun K hK => ?_) (AllReadyH.nil))
                · have oN := hOb W6 (hEW6)
                  go_simp
                  refine hK.out _ _ (HK.out _ (Chg.of_ext (hEW6))) (fun hHeld => ?_)
                  clear oN
                  clear hK K
                  try simp only [Act.put, putA, putB, putC]
                  refine wpAnyH_ready (rs := [10]) (by kernel_rfl) (by simp) ?_
                  refine AllReadyH.cons (o := ⟨some 54, .buildSlice 24 1 #[(0, .tmp 53)], 24, _, #[⟨9, .data⟩], none⟩) rfl (fun K hK => ?_) (AllReadyH.nil)
                  go_simp
                  refine hK.out _ _ (HK.out _ (Chg.of_ext ((hEW6).alloc _))) (fun hHeld => ?_)
                  clear hK K
                  try simp only [Act.put, putA, putB, putC]
                  have hQP : ∀ x, New p6 q6 x → W0.heap.size ≤ x ∧ x < W6.heap.size := fun x hx => by have h1 := hx.1; have h2 := hx.2; omega
                  refine wpAnyH_ready (rs := [11]) (by kernel_rfl) (by simp) ?_
                  refine AllReadyH.cons (o := ⟨some 55, .call { callee := .builtin .append, args := #[.tmp 45, .tmp 54], argTypes := #[24, 24] }, 24, _, #[⟨1, .data⟩, ⟨10, .data⟩, ⟨8, .chain⟩], none⟩) rfl (fun K hK => ?_) (AllReadyH.nil)
                  have hrow := (hGd.ext (hEW6)).1
                  refine step_append_lies _ (by rfl) _ _ _ (by rfl) b1 46 i1 _ 5 64 Tryz.underlying24 hi1 hz10 hz11 hz12 rfl (by omega) (Value.slice ua len1 ucap) len1 ds (by rfl) (hrow.alloc _) ⟨W6.heap.size, 0, none⟩ 1 1 [.int .i64 x3, .string kind, .int .i64 fr, .int .i64 dst, .slice pa pl pc] (by rfl) (by rfl) (World.news_of_block (cs := #[.int .i64 x3, .string kind, .int .i64 fr, .int .i64 dst, .slice pa pl pc]) (t := 46) (fr := (0, 0)) (heap_alloc_new W6 _)) (by simp [Value.oneCell']) (by omega) (by unfold maxLen; omega) (by omega) (by have := (hEW6).le; simp; omega) (W6.heap.size + 1) (by simp) ?_
                  intro g gcap w9 hown9 hgrow9 hat9 hlt9
                  have hcur9 : Chg (fun x => (Value.slice ua len1 ucap).ownBlock = some x) W0 w9 := (Chg.of_ext ((hEW6).alloc _)).grown hgrow9 (fun b hb => hb)
                  refine hK.out _ _ (HK.out _ hcur9) (fun hHeld => ?_)
                  clear hK K
                  try simp only [Act.put, putA, putB, putC]
                  refine tkL 12 ⟨some 56, .fieldAddr 26 (.tmp 5) 1, 0, _, #[⟨0, .phase⟩, ⟨1, .phase⟩, ⟨2, .phase⟩, ⟨3, .phase⟩, ⟨4, .phase⟩, ⟨5, .phase⟩, ⟨6, .phase⟩, ⟨7, .phase⟩, ⟨8, .phase⟩, ⟨9, .phase⟩, ⟨10, .phase⟩, ⟨11, .phase⟩], none⟩ ?_ hHeld ?yyA912 ?rrA912
                  case yyA912 => (intro w hSw; (try dsimp only at hSw); go_simp; try with_reducible rfl)
                  try simp only [Act.put, putA, putB, putC]
                  refine wpAnyH_ready (rs := [13]) (by kernel_rfl) (by simp) ?_
                  refine AllReadyH.cons (o := ⟨none, .store 24 (.tmp 56) (.tmp 55), 0, _, #[⟨12, .data⟩, ⟨11, .data⟩, ⟨11, .chain⟩, ⟨0, .phase⟩, ⟨1, .phase⟩, ⟨2, .phase⟩, ⟨3, .phase⟩, ⟨4, .phase⟩, ⟨5, .phase⟩, ⟨6, .phase⟩, ⟨7, .phase⟩, ⟨8, .phase⟩, ⟨9, .phase⟩, ⟨10, .phase⟩, ⟨11, .phase⟩], none⟩) rfl (fun K hK => ?_) (AllReadyH.nil)
                  have hA : Ext W6 (W6.alloc (.cells #[.int .i64 x3, .string kind, .int .i64 fr, .int .i64 dst, .slice pa pl pc] 46)) := (Ext.refl _).alloc _
                  have hX9 : Ext Wb (W6.alloc (.cells #[.int .i64 x3, .string kind, .int .i64 fr, .int .i64 dst, .slice pa pl pc] 46)) := hEW0.trans ((hEW6).trans hA)
                  have hk9 : ∀ b, gb ≤ b → b < Wb.heap.size → w9.heap[b]? = Wb.heap[b]? := fun b h1 h2 => by rw [hgrow9.block b (by have := hX9.le; omega) (fun e => by have := hrl _ e.symm; omega), Below.block hX9 b h2]
                  obtain ⟨⟨y0, y1, y2, y3⟩, ⟨t0, t1, t2, t3⟩, yf, tf⟩ := hbx w9 (hk9 gb (by omega) (by omega)) (hk9 (gb + 1) (by omega) (by omega))
                  have yf1 := yf 1
                  have yf3 := yf 3
                  have tf0 := tf 0
                  have tf1 := tf 1
                  have tf2 := tf 2
                  have tf3 := tf 3
                  go_simp
                  refine hK.out _ _ (by rw [World.cell?_setCell_other _ _ _ _ (by simp)]; exact HK.out _ hcur9) (fun hHeld => ?_)
                  clear hK K
                  try simp only [Act.put, putA, putB, putC]
                  refine wpAnyH_done (by kernel_rfl) ?_ _
                  clear hHeld HK
                  clear hOb
                  have hrow4 : GRow w9 (fun x => S1 x ∨ W0.heap.size ≤ x ∧ x < w9.heap.size) b1 46 5 (addFE f1 len1 x3 kind fr dst dP) (len1 + 1) (.slice (some ⟨g, 0, none⟩) (len1 + 1) gcap) (ds ++ [.int .i64 x3, .string kind, .int .i64 fr, .int .i64 dst, .slice pa pl pc]) := by
                    have hw9 : (W6.alloc (.cells #[.int .i64 x3, .string kind, .int .i64 fr, .int .i64 dst, .slice pa pl pc] 46)).heap.size ≤ w9.heap.size := hgrow9.size
                    have hzW := (hEW6).le
                    rw [World.size_alloc] at hw9
                    refine GRow.push (w1 := W6.alloc (.cells #[.int .i64 x3, .string kind, .int .i64 fr, .int .i64 dst, .slice pa pl pc] 46)) (hGd.congr (fun i hi => addFE_lt f1 len1 x3 kind fr dst dP hi)) ((hEW6).trans hA) [.int .i64 x3, .string kind, .int .i64 fr, .int .i64 dst, .slice pa pl pc] rfl (fun j => if j = 4 then New p6 q6 else fun _ => False) (fun j hj => ?_) (fun j j' hj hj' hne x hx hx' => ?_) (fun x hx => .inl hx) (fun x hx => ?_) (fun e => .inr ⟨by simp; omega, ?_⟩) hown9 hgrow9 ?_
                    · have hc4 : j = 0 ∨ j = 1 ∨ j = 2 ∨ j = 3 ∨ j = 4 := by omega
                      rcases hc4 with rfl | rfl | rfl | rfl | rfl
                      · rw [addFE_at0]; exact ⟨⟨rfl, zx3⟩, trivial, fun x hx => absurd hx (by simp)⟩
                      · rw [addFE_at1]; exact ⟨⟨rfl, zk⟩, trivial, fun x hx => absurd hx (by simp)⟩
                      · rw [addFE_at2]; exact ⟨⟨rfl, zf⟩, trivial, fun x hx => absurd hx (by simp)⟩
                      · rw [addFE_at3]; exact ⟨⟨rfl, zd⟩, trivial, fun x hx => absurd hx (by simp)⟩
                      · rw [addFE_at4]; exact ⟨hDp.ext hA, hOp.ext hA, fun x hx => ⟨(hQP x hx).1, Nat.lt_of_lt_of_le (hQP x hx).2 hA.le, .inr ⟨(hQP x hx).1, by have := (hQP x hx).2; omega⟩⟩⟩
                    · by_cases h4 : j = 4
                      · rw [if_neg (by omega)] at hx'; exact hx'
                      · rw [if_neg h4] at hx; exact hx
                    · rcases hx with hx | hx
                      · have := hs0 x hx; omega
                      · exact hx.2
                    · have := hown9.lt _ (show (Value.slice (some ⟨g, 0, none⟩) (len1 + 1) gcap).ownBlock = some g from rfl)
                      have e2 : g = (W6.alloc (.cells #[.int .i64 x3, .string kind, .int .i64 fr, .int .i64 dst, .slice pa pl pc] 46)).heap.size := Option.some.inj e
                      omega
                    · rcases hat9 with e | e
                      · exact .inl e.symm
                      · right; subst e; simp [Value.ownBlock]
                  have hCf : Chg (fun x => x = gb ∨ x = gb + 1) w9 ((((((w9.setCell ⟨gb, 1, none⟩ (.slice (some ⟨g, 0, none⟩) (len1 + 1) gcap)).setCell ⟨gb, 3, none⟩ (.int .i64 (x3 + 1))).setCell ⟨gb + 1, 0, none⟩ (.slice na nl ncap)).setCell ⟨gb + 1, 1, none⟩ (.slice (some ⟨g, 0, none⟩) (len1 + 1) gcap)).setCell ⟨gb + 1, 2, none⟩ (.int .i64 x2)).setCell ⟨gb + 1, 3, none⟩ (.int .i64 (x3 + 1))) := ((((((Chg.refl (fun x => x = gb ∨ x = gb + 1) w9).setCell (p := ⟨gb, 1, none⟩) (.inl rfl) _).setCell (p := ⟨gb, 3, none⟩) (.inl rfl) _).setCell (p := ⟨gb + 1, 0, none⟩) (.inr rfl) _).setCell (p := ⟨gb + 1, 1, none⟩) (.inr rfl) _).setCell (p := ⟨gb + 1, 2, none⟩) (.inr rfl) _).setCell (p := ⟨gb + 1, 3, none⟩) (.inr rfl) _
                  have hCw : Chg (fun x => S1 x) w w9 := chg_up (Chg.of_ext (hEw.trans hEW0)) hcur9 (fun x hx => .inr (hub x hx))
                  have hCall : Chg (fun x => S1 x ∨ w.heap.size ≤ x) w ((((((w9.setCell ⟨gb, 1, none⟩ (.slice (some ⟨g, 0, none⟩) (len1 + 1) gcap)).setCell ⟨gb, 3, none⟩ (.int .i64 (x3 + 1))).setCell ⟨gb + 1, 0, none⟩ (.slice na nl ncap)).setCell ⟨gb + 1, 1, none⟩ (.slice (some ⟨g, 0, none⟩) (len1 + 1) gcap)).setCell ⟨gb + 1, 2, none⟩ (.int .i64 x2)).setCell ⟨gb + 1, 3, none⟩ (.int .i64 (x3 + 1))) := (hCw.mono (fun x hx => .inl hx)).trans (hCf.mono (fun x hx => .inr (by omega)))
                  have hR : Hid _ := hrow4.chg hCf (fun x hx h => by rcases hx with hx | hx; (have := hs0' x hx; omega); omega)
                  have hX : Hid (Chg (fun x => S1 x ∨ w.heap.size ≤ x) w ((((((w9.setCell ⟨gb, 1, none⟩ (.slice (some ⟨g, 0, none⟩) (len1 + 1) gcap)).setCell ⟨gb, 3, none⟩ (.int .i64 (x3 + 1))).setCell ⟨gb + 1, 0, none⟩ (.slice na nl ncap)).setCell ⟨gb + 1, 1, none⟩ (.slice (some ⟨g, 0, none⟩) (len1 + 1) gcap)).setCell ⟨gb + 1, 2, none⟩ (.int .i64 x2)).setCell ⟨gb + 1, 3, none⟩ (.int .i64 (x3 + 1)))) := hCall
                  have hz9 := hgrow9.size
                  rw [World.size_alloc] at hz9
                  have hzE := (hEW6).le
                  have hzz := (hEw.trans hEW0).le
                  clear hrow4 hCf hCw hcur9 hDp hOp hQP hrow hCall hr0
                  go_wp2
                  first
                    | refine bodyPost_ret (v := .tuple #[.agg #[.slice na nl ncap, .slice (some ⟨g, 0, none⟩) (len1 + 1) gcap, .int .i64 x2, .int .i64 (x3 + 1)], .bool true]) (by simp [results, Tryz.results38, go_sem, t0, t1, t2, t3]) rfl ⟨_, _, rfl, fun _ => ⟨rfl, _, ⟨_, hR.out⟩, fun x hx => ?_⟩, fun h => (by cases h), hX.out⟩
                    | refine bodyPost_ret (v := .tuple #[.agg #[.slice na nl ncap, .slice (some ⟨g, 0, none⟩) (len1 + 1) gcap, .int .i64 x2, .int .i64 (x3 + 1)], .bool true]) (by simp [results, Tryz.results38, go_sem, t0, t1, t2, t3]) rfl ⟨_, _, rfl, ⟨rfl, _, ⟨_, hR.out⟩, fun x hx => ?_⟩, hX.out⟩
                  rcases hx with hx | hx
                  · exact .inl hx
                  · exact .inr (by omega)
                · go_simp
                  refine hK.out _ _ (HK.out _ (Chg.of_ext ((hEW6).alloc _))) (fun hHeld => ?_)
                  clear hK K
                  try simp only [Act.put, putA, putB, putC]
                  refine wpAnyH_ready (rs := [1]) (by kernel_rfl) (by simp) ?_
                  refine AllReadyH.cons (o := ⟨some 45, .load 24 (.tmp 44), 24, _, #[⟨0, .data⟩], none⟩) rfl (fun K hK => ?_) (AllReadyH.nil)
                  have oN := hOb (W6.alloc (.cells #[.int .i64 x3, .string kind, .int .i64 fr, .int .i64 dst, .slice pa pl pc] 46)) ((hEW6).alloc _)
                  go_simp
                  refine hK.out _ _ (HK.out _ (Chg.of_ext ((hEW6).alloc _))) (fun hHeld => ?_)
                  clear oN
                  clear hK K
                  try simp only [Act.put, putA, putB, putC]
                  have hQP : ∀ x, New p6 q6 x → W0.heap.size ≤ x ∧ x < W6.heap.size := fun x hx => by have h1 := hx.1; have h2 := hx.2; omega
                  refine wpAnyH_ready (rs := [11]) (by kernel_rfl) (by simp) ?_
                  refine AllReadyH.cons (o := ⟨some 55, .call { callee := .builtin .append, args := #[.tmp 45, .tmp 54], argTypes := #[24, 24] }, 24, _, #[⟨1, .data⟩, ⟨10, .data⟩, ⟨8, .chain⟩], none⟩) rfl (fun K hK => ?_) (AllReadyH.nil)
                  have hrow := (hGd.ext (hEW6)).1
                  refine step_append_lies _ (by rfl) _ _ _ (by rfl) b1 46 i1 _ 5 64 Tryz.underlying24 hi1 hz10 hz11 hz12 rfl (by omega) (Value.slice ua len1 ucap) len1 ds (by rfl) (hrow.alloc _) ⟨W6.heap.size, 0, none⟩ 1 1 [.int .i64 x3, .string kind, .int .i64 fr, .int .i64 dst, .slice pa pl pc] (by rfl) (by rfl) (World.news_of_block (cs := #[.int .i64 x3, .string kind, .int .i64 fr, .int .i64 dst, .slice pa pl pc]) (t := 46) (fr := (0, 0)) (heap_alloc_new W6 _)) (by simp [Value.oneCell']) (by omega) (by unfold maxLen; omega) (by omega) (by have := (hEW6).le; simp; omega) (W6.heap.size + 1) (by simp) ?_
                  intro g gcap w9 hown9 hgrow9 hat9 hlt9
                  have hcur9 : Chg (fun x => (Value.slice ua len1 ucap).ownBlock = some x) W0 w9 := (Chg.of_ext ((hEW6).alloc _)).grown hgrow9 (fun b hb => hb)
                  refine hK.out _ _ (HK.out _ hcur9) (fun hHeld => ?_)
                  clear hK K
                  try simp only [Act.put, putA, putB, putC]
                  refine tkL 12 ⟨some 56, .fieldAddr 26 (.tmp 5) 1, 0, _, #[⟨0, .phase⟩, ⟨1, .phase⟩, ⟨2, .phase⟩, ⟨3, .phase⟩, ⟨4, .phase⟩, ⟨5, .phase⟩, ⟨6, .phase⟩, ⟨7, .phase⟩, ⟨8, .phase⟩, ⟨9, .phase⟩, ⟨10, .phase⟩, ⟨11, .phase⟩], none⟩ ?_ hHeld ?yyA1112 ?rrA1112
                  case yyA1112 => (intro w hSw; (try dsimp only at hSw); go_simp; try with_reducible rfl)
                  try simp only [Act.put, putA, putB, putC]
                  refine wpAnyH_ready (rs := [13]) (by kernel_rfl) (by simp) ?_
                  refine AllReadyH.cons (o := ⟨none, .store 24 (.tmp 56) (.tmp 55), 0, _, #[⟨12, .data⟩, ⟨11, .data⟩, ⟨11, .chain⟩, ⟨0, .phase⟩, ⟨1, .phase⟩, ⟨2, .phase⟩, ⟨3, .phase⟩, ⟨4, .phase⟩, ⟨5, .phase⟩, ⟨6, .phase⟩, ⟨7, .phase⟩, ⟨8, .phase⟩, ⟨9, .phase⟩, ⟨10, .phase⟩, ⟨11, .phase⟩], none⟩) rfl (fun K hK => ?_) (AllReadyH.nil)
                  have hA : Ext W6 (W6.alloc (.cells #[.int .i64 x3, .string kind, .int .i64 fr, .int .i64 dst, .slice pa pl pc] 46)) := (Ext.refl _).alloc _
                  have hX9 : Ext Wb (W6.alloc (.cells #[.int .i64 x3, .string kind, .int .i64 fr, .int .i64 dst, .slice pa pl pc] 46)) := hEW0.trans ((hEW6).trans hA)
                  have hk9 : ∀ b, gb ≤ b → b < Wb.heap.size → w9.heap[b]? = Wb.heap[b]? := fun b h1 h2 => by rw [hgrow9.block b (by have := hX9.le; omega) (fun e => by have := hrl _ e.symm; omega), Below.block hX9 b h2]
                  obtain ⟨⟨y0, y1, y2, y3⟩, ⟨t0, t1, t2, t3⟩, yf, tf⟩ := hbx w9 (hk9 gb (by omega) (by omega)) (hk9 (gb + 1) (by omega) (by omega))
                  have yf1 := yf 1
                  have yf3 := yf 3
                  have tf0 := tf 0
                  have tf1 := tf 1
                  have tf2 := tf 2
                  have tf3 := tf 3
                  go_simp
                  refine hK.out _ _ (by rw [World.cell?_setCell_other _ _ _ _ (by simp)]; exact HK.out _ hcur9) (fun hHeld => ?_)
                  clear hK K
                  try simp only [Act.put, putA, putB, putC]
                  refine wpAnyH_done (by kernel_rfl) ?_ _
                  clear hHeld HK
                  clear hOb
                  have hrow4 : GRow w9 (fun x => S1 x ∨ W0.heap.size ≤ x ∧ x < w9.heap.size) b1 46 5 (addFE f1 len1 x3 kind fr dst dP) (len1 + 1) (.slice (some ⟨g, 0, none⟩) (len1 + 1) gcap) (ds ++ [.int .i64 x3, .string kind, .int .i64 fr, .int .i64 dst, .slice pa pl pc]) := by
                    have hw9 : (W6.alloc (.cells #[.int .i64 x3, .string kind, .int .i64 fr, .int .i64 dst, .slice pa pl pc] 46)).heap.size ≤ w9.heap.size := hgrow9.size
                    have hzW := (hEW6).le
                    rw [World.size_alloc] at hw9
                    refine GRow.push (w1 := W6.alloc (.cells #[.int .i64 x3, .string kind, .int .i64 fr, .int .i64 dst, .slice pa pl pc] 46)) (hGd.congr (fun i hi => addFE_lt f1 len1 x3 kind fr dst dP hi)) ((hEW6).trans hA) [.int .i64 x3, .string kind, .int .i64 fr, .int .i64 dst, .slice pa pl pc] rfl (fun j => if j = 4 then New p6 q6 else fun _ => False) (fun j hj => ?_) (fun j j' hj hj' hne x hx hx' => ?_) (fun x hx => .inl hx) (fun x hx => ?_) (fun e => .inr ⟨by simp; omega, ?_⟩) hown9 hgrow9 ?_
                    · have hc4 : j = 0 ∨ j = 1 ∨ j = 2 ∨ j = 3 ∨ j = 4 := by omega
                      rcases hc4 with rfl | rfl | rfl | rfl | rfl
                      · rw [addFE_at0]; exact ⟨⟨rfl, zx3⟩, trivial, fun x hx => absurd hx (by simp)⟩
                      · rw [addFE_at1]; exact ⟨⟨rfl, zk⟩, trivial, fun x hx => absurd hx (by simp)⟩
                      · rw [addFE_at2]; exact ⟨⟨rfl, zf⟩, trivial, fun x hx => absurd hx (by simp)⟩
                      · rw [addFE_at3]; exact ⟨⟨rfl, zd⟩, trivial, fun x hx => absurd hx (by simp)⟩
                      · rw [addFE_at4]; exact ⟨hDp.ext hA, hOp.ext hA, fun x hx => ⟨(hQP x hx).1, Nat.lt_of_lt_of_le (hQP x hx).2 hA.le, .inr ⟨(hQP x hx).1, by have := (hQP x hx).2; omega⟩⟩⟩
                    · by_cases h4 : j = 4
                      · rw [if_neg (by omega)] at hx'; exact hx'
                      · rw [if_neg h4] at hx; exact hx
                    · rcases hx with hx | hx
                      · have := hs0 x hx; omega
                      · exact hx.2
                    · have := hown9.lt _ (show (Value.slice (some ⟨g, 0, none⟩) (len1 + 1) gcap).ownBlock = some g from rfl)
                      have e2 : g = (W6.alloc (.cells #[.int .i64 x3, .string kind, .int .i64 fr, .int .i64 dst, .slice pa pl pc] 46)).heap.size := Option.some.inj e
                      omega
                    · rcases hat9 with e | e
                      · exact .inl e.symm
                      · right; subst e; simp [Value.ownBlock]
                  have hCf : Chg (fun x => x = gb ∨ x = gb + 1) w9 ((((((w9.setCell ⟨gb, 1, none⟩ (.slice (some ⟨g, 0, none⟩) (len1 + 1) gcap)).setCell ⟨gb, 3, none⟩ (.int .i64 (x3 + 1))).setCell ⟨gb + 1, 0, none⟩ (.slice na nl ncap)).setCell ⟨gb + 1, 1, none⟩ (.slice (some ⟨g, 0, none⟩) (len1 + 1) gcap)).setCell ⟨gb + 1, 2, none⟩ (.int .i64 x2)).setCell ⟨gb + 1, 3, none⟩ (.int .i64 (x3 + 1))) := ((((((Chg.refl (fun x => x = gb ∨ x = gb + 1) w9).setCell (p := ⟨gb, 1, none⟩) (.inl rfl) _).setCell (p := ⟨gb, 3, none⟩) (.inl rfl) _).setCell (p := ⟨gb + 1, 0, none⟩) (.inr rfl) _).setCell (p := ⟨gb + 1, 1, none⟩) (.inr rfl) _).setCell (p := ⟨gb + 1, 2, none⟩) (.inr rfl) _).setCell (p := ⟨gb + 1, 3, none⟩) (.inr rfl) _
                  have hCw : Chg (fun x => S1 x) w w9 := chg_up (Chg.of_ext (hEw.trans hEW0)) hcur9 (fun x hx => .inr (hub x hx))
                  have hCall : Chg (fun x => S1 x ∨ w.heap.size ≤ x) w ((((((w9.setCell ⟨gb, 1, none⟩ (.slice (some ⟨g, 0, none⟩) (len1 + 1) gcap)).setCell ⟨gb, 3, none⟩ (.int .i64 (x3 + 1))).setCell ⟨gb + 1, 0, none⟩ (.slice na nl ncap)).setCell ⟨gb + 1, 1, none⟩ (.slice (some ⟨g, 0, none⟩) (len1 + 1) gcap)).setCell ⟨gb + 1, 2, none⟩ (.int .i64 x2)).setCell ⟨gb + 1, 3, none⟩ (.int .i64 (x3 + 1))) := (hCw.mono (fun x hx => .inl hx)).trans (hCf.mono (fun x hx => .inr (by omega)))
                  have hR : Hid _ := hrow4.chg hCf (fun x hx h => by rcases hx with hx | hx; (have := hs0' x hx; omega); omega)
                  have hX : Hid (Chg (fun x => S1 x ∨ w.heap.size ≤ x) w ((((((w9.setCell ⟨gb, 1, none⟩ (.slice (some ⟨g, 0, none⟩) (len1 + 1) gcap)).setCell ⟨gb, 3, none⟩ (.int .i64 (x3 + 1))).setCell ⟨gb + 1, 0, none⟩ (.slice na nl ncap)).setCell ⟨gb + 1, 1, none⟩ (.slice (some ⟨g, 0, none⟩) (len1 + 1) gcap)).setCell ⟨gb + 1, 2, none⟩ (.int .i64 x2)).setCell ⟨gb + 1, 3, none⟩ (.int .i64 (x3 + 1)))) := hCall
                  have hz9 := hgrow9.size
                  rw [World.size_alloc] at hz9
                  have hzE := (hEW6).le
                  have hzz := (hEw.trans hEW0).le
                  clear hrow4 hCf hCw hcur9 hDp hOp hQP hrow hCall hr0
                  go_wp2
                  first
                    | refine bodyPost_ret (v := .tuple #[.agg #[.slice na nl ncap, .slice (some ⟨g, 0, none⟩) (len1 + 1) gcap, .int .i64 x2, .int .i64 (x3 + 1)], .bool true]) (by simp [results, Tryz.results38, go_sem, t0, t1, t2, t3]) rfl ⟨_, _, rfl, fun _ => ⟨rfl, _, ⟨_, hR.out⟩, fun x hx => ?_⟩, fun h => (by cases h), hX.out⟩
                    | refine bodyPost_ret (v := .tuple #[.agg #[.slice na nl ncap, .slice (some ⟨g, 0, none⟩) (len1 + 1) gcap, .int .i64 x2, .int .i64 (x3 + 1)], .bool true]) (by simp [results, Tryz.results38, go_sem, t0, t1, t2, t3]) rfl ⟨_, _, rfl, ⟨rfl, _, ⟨_, hR.out⟩, fun x hx => ?_⟩, hX.out⟩
                  rcases hx with hx | hx
                  · exact .inl hx
                  · exact .inr (by omega)
end Go.Proofs.YtbhmblkappmfjaaGreat
