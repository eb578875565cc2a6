/- What spec.l2AddNode answers: a graph with one node more, or as it was. -/
import Derived.Test.YtbhmblkappmfjaaGreatTk
import Derived.Test.YtbhmblkappmfjaaGreatL2Copy
import Derived.Test.YtbhmblkappmfjaaGreatGSpec2
namespace Go.Proofs.YtbhmblkappmfjaaGreat
open Go.RowKit Go.Deep

/-- The rows of the nodes, with one more. -/
def addF (f : Nat → Nat → D) (len : Nat) (id : Int) (dL dP : D) : Nat → Nat → D := fun i j => if i = len then (if j = 0 then .int id else if j = 1 then dL else dP) else f i j
theorem addF_lt (f : Nat → Nat → D) (len : Nat) (id : Int) (dL dP : D) {i : Nat} (h : i < len) : addF f len id dL dP i = f i := by
  funext j
  simp [addF, show ¬ i = len by omega]
theorem addF_at0 (f : Nat → Nat → D) (len : Nat) (id : Int) (dL dP : D) : addF f len id dL dP len 0 = .int id := by simp [addF]
theorem addF_at1 (f : Nat → Nat → D) (len : Nat) (id : Int) (dL dP : D) : addF f len id dL dP len 1 = dL := by simp [addF]
theorem addF_at2 (f : Nat → Nat → D) (len : Nat) (id : Int) (dL dP : D) : addF f len id dL dP len 2 = dP := by simp [addF]
/-- A node can be added. -/
def addB (dL dP : D) (len : Nat) (nn : Int) : Bool := labelsB dL && propsB dP && decide (len < 12) && decide (nn < 1000000000)

set_option maxRecDepth 100000 in
set_option maxHeartbeats 8000000 in
theorem l2AddNode_g (S S0 S1 : Nat → Prop) (b0 len0 : Nat) (f0 : Nat → Nat → D) (d1 dL dP : D) (u0 r1 cL cP : Value) (cs : List Value) (x2 x3 : Int) (w : World) (hG : GRow w S0 b0 34 3 f0 len0 u0 cs) (H1 : Has d1 (.list 5)) (hr1 : DIn S1 w d1 r1) (hb00 : b0 ≤ w.heap.size) (hl : len0 ≤ 12) (hx0 : 0 ≤ x2) (hx1 : x2 ≤ 1000000000) (HL : Has dL (.list 0)) (hL0 : DIn S w dL cL) (sL : SmallL dL) (HP : Has dP (.list 3)) (hP0 : DIn S w dP cP) (sP : SmallL dP) :
    Calls Tryz.prog 35 #[.agg #[u0, r1, .int .i64 x2, .int .i64 x3], cL, cP] w fun e w' => ∃ u0' x2', e = .returned (.tuple #[.agg #[u0', r1, .int .i64 x2', .int .i64 x3], .bool (addB dL dP len0 x2)]) ∧
      (addB dL dP len0 x2 = true → x2' = x2 + 1 ∧ ∃ S0' : Nat → Prop, (∃ cs' : List Value, GRow w' S0' b0 34 3 (addF f0 len0 x2 dL dP) (len0 + 1) u0' cs') ∧ ∀ x, S0' x → S0 x ∨ w.heap.size ≤ x) ∧
      (addB dL dP len0 x2 = false → u0' = u0 ∧ x2' = x2 ∧ GRow w' S0 b0 34 3 f0 len0 u0 cs) ∧ Chg (fun x => S0 x ∨ w.heap.size ≤ x) w w' := by
  obtain ⟨ua, ucap, rfl⟩ := hG.shape
  obtain ⟨ra, rcap, rl, rf, hrd, rfl, _, _⟩ := list_shape H1 hr1
  clear hrd
  have hs0' : ∀ x, S0 x → x < w.heap.size := hG.2.2.1
  have hub := hG.2.1
  have zx2 : (Lit.int .i64 x2).wf = true := by simp [Lit.wf, IntKind.min, IntKind.max, IntKind.signed, IntKind.bits]; omega
  have hwr : IntKind.i64.wrap (x2 + 1) = x2 + 1 := wrap_i64 (by omega) (by omega)
  have hlabc := fun (W : World) (hW : Ext w W) => l2Labels_any dL HL S cL W (hL0.ext hW)
  have hprpc := fun (W : World) (hW : Ext w W) => l2Props_any dP HP S cP W (hP0.ext hW)
  have hps0 := fun (W : World) (hW : Ext w W) => l2Ps_any dP HP sP S cP W (hP0.ext hW)
  obtain ⟨lL, fL, hL, HRl⟩ := HL.list
  have hl0 := hL0
  have sL2 := sL
  rw [hL] at hl0 sL2
  change DIn S w (.list 1 lL fL) cL at hl0
  have hlL : lL ≤ 1048576 := sL2.2.1
  obtain ⟨aL, capL, rfl, _⟩ := hl0.list_eq
  have hlab0 := fun (W : World) (hW : Ext w W) => hl0.ext hW
  obtain ⟨i0, hi0, hz00, hz01, hz02⟩ := info_parts Tryz.infoNc
  obtain ⟨aP, capP, lP, fP, hPD, rfl, _, _⟩ := list_shape HP hP0
  clear hPD hL0 hP0 hl0 sL2
  obtain ⟨Wb, hWb⟩ : ∃ Wb, Wb = (w.alloc (.cells #[.slice ua len0 ucap, .slice ra rl rcap, .int .i64 x2, .int .i64 x3] 26)).alloc (.cells #[.slice none 0 0, .slice none 0 0, .int .i64 0, .int .i64 0] 26) := ⟨_, rfl⟩
  obtain ⟨gb, hgb⟩ : ∃ m, m = w.heap.size := ⟨_, rfl⟩
  have hEw : Ext w Wb := by rw [hWb]; exact ((Ext.refl _).alloc _).alloc _
  have hzb : Wb.heap.size ≤ gb + 2 := by rw [hWb, hgb]; simp
  have hzb2 : gb + 2 ≤ Wb.heap.size := by rw [hWb, hgb]; simp
  have hblk0 : Wb.heap[gb]? = some (.cells #[.slice ua len0 ucap, .slice ra rl rcap, .int .i64 x2, .int .i64 x3] 26 (0, 0)) := by
    rw [hWb, Below.block ((Ext.refl _).alloc _) _ (by rw [hgb]; simp), hgb]
    exact heap_alloc_new w _
  have hblk1 : Wb.heap[gb + 1]? = some (.cells #[.slice none 0 0, .slice none 0 0, .int .i64 0, .int .i64 0] 26 (0, 0)) := by
    have := heap_alloc_new (w.alloc (.cells #[.slice ua len0 ucap, .slice ra rl rcap, .int .i64 x2, .int .i64 x3] 26)) (.cells #[.slice none 0 0, .slice none 0 0, .int .i64 0, .int .i64 0] 26)
    rw [World.size_alloc] at this
    rw [hWb, hgb]
    exact this
  have hbx : ∀ W : World, W.heap[gb]? = Wb.heap[gb]? → W.heap[gb + 1]? = Wb.heap[gb + 1]? → (W.cell? ⟨gb, 0, none⟩ = some (.slice ua len0 ucap) ∧ W.cell? ⟨gb, 1, none⟩ = some (.slice ra rl rcap) ∧ W.cell? ⟨gb, 2, none⟩ = some (.int .i64 x2) ∧ W.cell? ⟨gb, 3, none⟩ = some (.int .i64 x3)) ∧ (W.cell? ⟨gb + 1, 0, none⟩ = some (.slice none 0 0) ∧ W.cell? ⟨gb + 1, 1, none⟩ = some (.slice none 0 0) ∧ W.cell? ⟨gb + 1, 2, none⟩ = some (.int .i64 0) ∧ W.cell? ⟨gb + 1, 3, none⟩ = some (.int .i64 0)) ∧ (∀ o, W.frozen? ⟨gb, o, none⟩ = false) ∧ (∀ o, W.frozen? ⟨gb + 1, o, none⟩ = false) := fun W h1 h2 => by
    rw [hblk0] at h1
    rw [hblk1] at h2
    refine ⟨⟨?_, ?_, ?_, ?_⟩, ⟨?_, ?_, ?_, ?_⟩, fun o => ?_, fun o => ?_⟩
    all_goals first | (simp [World.cell?, h1]; done) | (simp [World.cell?, h2]; done) | (simp [World.frozen?, h1]; done) | (simp [World.frozen?, h2]; done)
  have hbW : ∀ W : World, Ext Wb W → (W.cell? ⟨gb, 0, none⟩ = some (.slice ua len0 ucap) ∧ W.cell? ⟨gb, 1, none⟩ = some (.slice ra rl rcap) ∧ W.cell? ⟨gb, 2, none⟩ = some (.int .i64 x2) ∧ W.cell? ⟨gb, 3, none⟩ = some (.int .i64 x3)) ∧ (W.cell? ⟨gb + 1, 0, none⟩ = some (.slice none 0 0) ∧ W.cell? ⟨gb + 1, 1, none⟩ = some (.slice none 0 0) ∧ W.cell? ⟨gb + 1, 2, none⟩ = some (.int .i64 0) ∧ W.cell? ⟨gb + 1, 3, none⟩ = some (.int .i64 0)) ∧ (∀ o, W.frozen? ⟨gb, o, none⟩ = false) ∧ (∀ o, W.frozen? ⟨gb + 1, o, none⟩ = false) := fun W hW => hbx W (Below.block hW _ (by omega)) (Below.block hW _ (by omega))
  have hgb1 : gb ≤ w.heap.size := Nat.le_of_eq hgb
  have hgb2 : w.heap.size ≤ gb := Nat.le_of_eq hgb.symm
  obtain ⟨lt12, hlt12⟩ : ∃ b, decide (len0 < 12) = b := ⟨_, rfl⟩
  obtain ⟨ltN, hltN⟩ : ∃ b, decide (x2 < 1000000000) = b := ⟨_, rfl⟩
  have hadd : addB dL dP len0 x2 = (labelsB dL && propsB dP && lt12 && ltN) := by rw [← hlt12, ← hltN]; rfl
  rw [hadd]
  clear hadd
  generalize hlb : labelsB dL = lb at *
  generalize hpb : propsB dP = pb at *
  clear hlb hpb
  go_enter Tryz.func35, Tryz.ntmps35
  go_wp2_with fail
  rw [← hWb, ← hgb]
  clear hWb hgb
  refine (hlabc Wb hEw).mono ?_
  rintro e w1 ⟨rfl, hE1⟩
  obtain ⟨⟨y0, y1, y2, y3⟩, _, yf, tf⟩ := hbW w1 hE1
  cases lb
  · obtain ⟨wp, rfl⟩ : ∃ wp, wp = w1 := ⟨_, rfl⟩
    have hEp : Ext Wb wp := hE1
    clear y0 y1 y2 y3 yf tf
    obtain ⟨⟨y0, y1, y2, y3⟩, ⟨t0, t1, t2, t3⟩, yf, tf⟩ := hbW wp hEp
    have tf0 := tf 0
    have tf1 := tf 1
    have tf2 := tf 2
    have tf3 := tf 3
    have hCf : Chg (fun x => x = gb + 1) wp ((((wp.setCell ⟨gb + 1, 0, none⟩ (.slice ua len0 ucap)).setCell ⟨gb + 1, 1, none⟩ (.slice ra rl rcap)).setCell ⟨gb + 1, 2, none⟩ (.int .i64 x2)).setCell ⟨gb + 1, 3, none⟩ (.int .i64 x3)) := ((((Chg.refl (fun x => x = gb + 1) wp).setCell (p := ⟨gb + 1, 0, none⟩) rfl _).setCell (p := ⟨gb + 1, 1, none⟩) rfl _).setCell (p := ⟨gb + 1, 2, none⟩) rfl _).setCell (p := ⟨gb + 1, 3, none⟩) rfl _
    have hEf : Ext w ((((wp.setCell ⟨gb + 1, 0, none⟩ (.slice ua len0 ucap)).setCell ⟨gb + 1, 1, none⟩ (.slice ra rl rcap)).setCell ⟨gb + 1, 2, none⟩ (.int .i64 x2)).setCell ⟨gb + 1, 3, none⟩ (.int .i64 x3)) := hCf.toExt (hEw.trans hEp) (fun x hx => by omega)
    have hX : Hid _ := And.intro (hG.ext hEf) (Chg.of_ext (R := fun x => S0 x ∨ w.heap.size ≤ x) hEf)
    clear hCf hEf
    go_wp2
    first
      | refine bodyPost_ret (v := .tuple #[.agg #[.slice ua len0 ucap, .slice ra rl rcap, .int .i64 x2, .int .i64 x3], .bool false]) (by simp [results, Tryz.results35, go_sem, t0, t1, t2, t3]) rfl ⟨_, _, rfl, fun h => (by cases h), fun _ => ⟨rfl, rfl, hX.out.1⟩, hX.out.2⟩
      | refine bodyPost_ret (v := .tuple #[.agg #[.slice ua len0 ucap, .slice ra rl rcap, .int .i64 x2, .int .i64 x3], .bool false]) (by simp [results, Tryz.results35, go_sem, t0, t1, t2, t3]) rfl ⟨_, _, rfl, ⟨rfl, rfl, hX.out.1⟩, hX.out.2⟩
  · go_wp2_with fail
    refine (hprpc w1 (hEw.trans hE1)).mono ?_
    rintro e wp ⟨rfl, hE2⟩
    have hEp : Ext Wb wp := hE1.trans hE2
    clear y0 y1 y2 y3 yf tf
    cases pb
    · obtain ⟨⟨y0, y1, y2, y3⟩, ⟨t0, t1, t2, t3⟩, yf, tf⟩ := hbW wp hEp
      have tf0 := tf 0
      have tf1 := tf 1
      have tf2 := tf 2
      have tf3 := tf 3
      have hCf : Chg (fun x => x = gb + 1) wp ((((wp.setCell ⟨gb + 1, 0, none⟩ (.slice ua len0 ucap)).setCell ⟨gb + 1, 1, none⟩ (.slice ra rl rcap)).setCell ⟨gb + 1, 2, none⟩ (.int .i64 x2)).setCell ⟨gb + 1, 3, none⟩ (.int .i64 x3)) := ((((Chg.refl (fun x => x = gb + 1) wp).setCell (p := ⟨gb + 1, 0, none⟩) rfl _).setCell (p := ⟨gb + 1, 1, none⟩) rfl _).setCell (p := ⟨gb + 1, 2, none⟩) rfl _).setCell (p := ⟨gb + 1, 3, none⟩) rfl _
      have hEf : Ext w ((((wp.setCell ⟨gb + 1, 0, none⟩ (.slice ua len0 ucap)).setCell ⟨gb + 1, 1, none⟩ (.slice ra rl rcap)).setCell ⟨gb + 1, 2, none⟩ (.int .i64 x2)).setCell ⟨gb + 1, 3, none⟩ (.int .i64 x3)) := hCf.toExt (hEw.trans hEp) (fun x hx => by omega)
      have hX : Hid _ := And.intro (hG.ext hEf) (Chg.of_ext (R := fun x => S0 x ∨ w.heap.size ≤ x) hEf)
      clear hCf hEf
      go_wp2
      first
        | refine bodyPost_ret (v := .tuple #[.agg #[.slice ua len0 ucap, .slice ra rl rcap, .int .i64 x2, .int .i64 x3], .bool false]) (by simp [results, Tryz.results35, go_sem, t0, t1, t2, t3]) rfl ⟨_, _, rfl, fun h => (by cases h), fun _ => ⟨rfl, rfl, hX.out.1⟩, hX.out.2⟩
        | refine bodyPost_ret (v := .tuple #[.agg #[.slice ua len0 ucap, .slice ra rl rcap, .int .i64 x2, .int .i64 x3], .bool false]) (by simp [results, Tryz.results35, go_sem, t0, t1, t2, t3]) rfl ⟨_, _, rfl, ⟨rfl, rfl, hX.out.1⟩, hX.out.2⟩
    · cases lt12
      · have h12 : ¬ len0 < 12 := of_decide_eq_false hlt12
        have h12' : (12 : Int) ≤ (len0 : Int) := by omega
        clear hlt12
        obtain ⟨⟨y0, y1, y2, y3⟩, ⟨t0, t1, t2, t3⟩, yf, tf⟩ := hbW wp hEp
        have tf0 := tf 0
        have tf1 := tf 1
        have tf2 := tf 2
        have tf3 := tf 3
        have hCf : Chg (fun x => x = gb + 1) wp ((((wp.setCell ⟨gb + 1, 0, none⟩ (.slice ua len0 ucap)).setCell ⟨gb + 1, 1, none⟩ (.slice ra rl rcap)).setCell ⟨gb + 1, 2, none⟩ (.int .i64 x2)).setCell ⟨gb + 1, 3, none⟩ (.int .i64 x3)) := ((((Chg.refl (fun x => x = gb + 1) wp).setCell (p := ⟨gb + 1, 0, none⟩) rfl _).setCell (p := ⟨gb + 1, 1, none⟩) rfl _).setCell (p := ⟨gb + 1, 2, none⟩) rfl _).setCell (p := ⟨gb + 1, 3, none⟩) rfl _
        have hEf : Ext w ((((wp.setCell ⟨gb + 1, 0, none⟩ (.slice ua len0 ucap)).setCell ⟨gb + 1, 1, none⟩ (.slice ra rl rcap)).setCell ⟨gb + 1, 2, none⟩ (.int .i64 x2)).setCell ⟨gb + 1, 3, none⟩ (.int .i64 x3)) := hCf.toExt (hEw.trans hEp) (fun x hx => by omega)
        have hX : Hid _ := And.intro (hG.ext hEf) (Chg.of_ext (R := fun x => S0 x ∨ w.heap.size ≤ x) hEf)
        clear hCf hEf
        go_wp2
        first
          | refine bodyPost_ret (v := .tuple #[.agg #[.slice ua len0 ucap, .slice ra rl rcap, .int .i64 x2, .int .i64 x3], .bool false]) (by simp [results, Tryz.results35, go_sem, t0, t1, t2, t3]) rfl ⟨_, _, rfl, fun h => (by cases h), fun _ => ⟨rfl, rfl, hX.out.1⟩, hX.out.2⟩
          | refine bodyPost_ret (v := .tuple #[.agg #[.slice ua len0 ucap, .slice ra rl rcap, .int .i64 x2, .int .i64 x3], .bool false]) (by simp [results, Tryz.results35, go_sem, t0, t1, t2, t3]) rfl ⟨_, _, rfl, ⟨rfl, rfl, hX.out.1⟩, hX.out.2⟩
      · have h12 : len0 < 12 := of_decide_eq_true hlt12
        cases ltN
        · have hN : ¬ x2 < 1000000000 := of_decide_eq_false hltN
          clear hltN hlt12
          obtain ⟨⟨y0, y1, y2, y3⟩, ⟨t0, t1, t2, t3⟩, yf, tf⟩ := hbW wp hEp
          have tf0 := tf 0
          have tf1 := tf 1
          have tf2 := tf 2
          have tf3 := tf 3
          have hCf : Chg (fun x => x = gb + 1) wp ((((wp.setCell ⟨gb + 1, 0, none⟩ (.slice ua len0 ucap)).setCell ⟨gb + 1, 1, none⟩ (.slice ra rl rcap)).setCell ⟨gb + 1, 2, none⟩ (.int .i64 x2)).setCell ⟨gb + 1, 3, none⟩ (.int .i64 x3)) := ((((Chg.refl (fun x => x = gb + 1) wp).setCell (p := ⟨gb + 1, 0, none⟩) rfl _).setCell (p := ⟨gb + 1, 1, none⟩) rfl _).setCell (p := ⟨gb + 1, 2, none⟩) rfl _).setCell (p := ⟨gb + 1, 3, none⟩) rfl _
          have hEf : Ext w ((((wp.setCell ⟨gb + 1, 0, none⟩ (.slice ua len0 ucap)).setCell ⟨gb + 1, 1, none⟩ (.slice ra rl rcap)).setCell ⟨gb + 1, 2, none⟩ (.int .i64 x2)).setCell ⟨gb + 1, 3, none⟩ (.int .i64 x3)) := hCf.toExt (hEw.trans hEp) (fun x hx => by omega)
          have hX : Hid _ := And.intro (hG.ext hEf) (Chg.of_ext (R := fun x => S0 x ∨ w.heap.size ≤ x) hEf)
          clear hCf hEf
          go_wp2
          first
            | refine bodyPost_ret (v := .tuple #[.agg #[.slice ua len0 ucap, .slice ra rl rcap, .int .i64 x2, .int .i64 x3], .bool false]) (by simp [results, Tryz.results35, go_sem, t0, t1, t2, t3]) rfl ⟨_, _, rfl, fun h => (by cases h), fun _ => ⟨rfl, rfl, hX.out.1⟩, hX.out.2⟩
            | refine bodyPost_ret (v := .tuple #[.agg #[.slice ua len0 ucap, .slice ra rl rcap, .int .i64 x2, .int .i64 x3], .bool false]) (by simp [results, Tryz.results35, go_sem, t0, t1, t2, t3]) rfl ⟨_, _, rfl, ⟨rfl, rfl, hX.out.1⟩, hX.out.2⟩
        · have hN : x2 < 1000000000 := of_decide_eq_true hltN
          clear hltN hlt12
          obtain ⟨⟨y0, y1, y2, y3⟩, _, yf, tf⟩ := hbW wp hEp
          have hGp := hG.ext (hEw.trans hEp)
          have hGd : GRow wp.drew S0 b0 34 3 f0 len0 (.slice ua len0 ucap) cs := hGp.ext (Ext.refl _).drew
          have hE0 : Ext w wp.drew := (hEw.trans hEp).drew
          have hEW0 : Ext Wb wp.drew := hEp.drew
          have hlab := hlab0
          have hps := hps0
          have hrl : ∀ x, (Value.slice ua len0 ucap).ownBlock = some x → x < gb := fun x hx => by have := hs0' x (hub x hx); omega
          have hs0 : ∀ x, S0 x → x < gb := fun x hx => by have := hs0' x hx; omega
          have hzp := hEp.le
          have hzw : wp.drew.heap.size ≤ wp.heap.size := Nat.le_refl _
          have hzw2 : wp.heap.size ≤ wp.drew.heap.size := Nat.le_refl _
          have hOb : ∀ W, Ext wp.drew W → W.cell? ⟨gb, 0, none⟩ = some (.slice ua len0 ucap) := fun W hW => (hbW W (hEW0.trans hW)).1.1
          have HK : Hid (∀ W, Chg (fun x => (Value.slice ua len0 ucap).ownBlock = some x) wp.drew W → W.cell? ⟨gb, 2, none⟩ = some (.int .i64 x2)) := fun W hW => by
            rw [World.cell?_of_block (hW.block gb (by omega) (fun h => by have := hrl _ h; omega))]
            exact (hbW _ hEW0).1.2.2.1
          have hcur : Chg (fun x => (Value.slice ua len0 ucap).ownBlock = some x) wp.drew wp.drew := Chg.refl _ _
          go_wp2_with fail
          clear y0 y1 y2 y3 yf tf
          refine wp_region_held_drew (S := (fun W => W.cell? ⟨gb, 2, none⟩ = some (.int .i64 x2))) (by kernel_rfl) (HK.out _ hcur) (fun hHeld => ?_)
          refine tkL 0 ⟨some 28, .fieldAddr 26 (.tmp 3) 0, 0, _, #[], none⟩ ?_ hHeld ?yyA00 ?rrA00
          case yyA00 => (intro w hSw; (try dsimp only at hSw); go_simp; try with_reducible rfl)
          try simp only [Act.put, putA, putB, putC]
          refine tkL 2 ⟨some 30, .fieldAddr 26 (.tmp 3) 2, 0, _, #[], none⟩ ?_ hHeld ?yyA02 ?rrA02
          case yyA02 => (intro w hSw; (try dsimp only at hSw); go_simp; try with_reducible rfl)
          try simp only [Act.put, putA, putB, putC]
          refine tkL 3 ⟨some 31, .load 3 (.tmp 30), 3, _, #[⟨2, .data⟩], none⟩ ?_ hHeld ?yyA03 ?rrA03
          case yyA03 => (intro w hSw; (try dsimp only at hSw); go_simp; try with_reducible rfl)
          try simp only [Act.put, putA, putB, putC]
          refine tkL 5 ⟨some 33, .move (.tmp 1), 31, _, #[], none⟩ ?_ hHeld ?yyA05 ?rrA05
          case yyA05 => (intro w hSw; (try dsimp only at hSw); go_simp; try with_reducible rfl)
          try simp only [Act.put, putA, putB, putC]
          refine tkL 7 ⟨some 35, .move (.tmp 2), 32, _, #[], none⟩ ?_ hHeld ?yyA07 ?rrA07
          case yyA07 => (intro w hSw; (try dsimp only at hSw); go_simp; try with_reducible rfl)
          try simp only [Act.put, putA, putB, putC]
          generalize hWd : wp.drew = W0 at *
          clear hcur
          refine wpAnyH_ready (rs := [1, 4]) (by kernel_rfl) (by simp) ?_
          refine AllReadyH.cons (o := ⟨some 29, .load 23 (.tmp 28), 23, _, #[⟨0, .data⟩], none⟩) rfl (fun K hK => ?_) (AllReadyH.cons (o := ⟨some 32, .buildSlice 31 0 #[], 31, _, #[], none⟩) rfl (fun K hK => ?_) (AllReadyH.nil))
          · have oN := hOb W0 (Ext.refl W0)
            go_simp
            refine hK.out _ _ (HK.out _ (Chg.of_ext (Ext.refl W0))) (fun hHeld => ?_)
            clear oN
            clear hK K
            try simp only [Act.put, putA, putB, putC]
            refine wpAnyH_ready (rs := [4]) (by kernel_rfl) (by simp) ?_
            refine AllReadyH.cons (o := ⟨some 32, .buildSlice 31 0 #[], 31, _, #[], none⟩) rfl (fun K hK => ?_) (AllReadyH.nil)
            go_simp
            have hm4 := World.ownsRow_made (e := 9) (size := 1) (base := b0) W0 #[] 0 (by have := (Ext.refl W0).le; omega) (Nat.zero_le _) (by simp)
            have hx4 : Ext W0 (W0.alloc (.cells #[] 9)) := (Ext.refl _).alloc _
            have hs4 : (W0.alloc (.cells #[] 9)).heap.size = W0.heap.size + 1 := by simp
            obtain ⟨n4, hn4⟩ : ∃ m, m = W0.heap.size := ⟨_, rfl⟩
            have hb4 := (Ext.refl W0).le
            have hEW24 : Ext W0 (W0.alloc (.cells #[] 9)) := (Ext.refl W0).trans hx4
            rw [← hn4] at hm4 ⊢
            generalize W0.alloc (.cells #[] 9) = W24 at *
            have hn4a := Nat.le_of_eq hn4
            have hn4b := Nat.le_of_eq hn4.symm
            have hs4a := Nat.le_of_eq hs4
            have hs4b := Nat.le_of_eq hs4.symm
            clear hn4 hs4
            refine hK.out _ _ (HK.out _ (Chg.of_ext hEW24)) (fun hHeld => ?_)
            clear hK K
            try simp only [Act.put, putA, putB, putC]
            refine wpAnyH_ready (rs := [6]) (by kernel_rfl) (by simp) ?_
            refine AllReadyH.cons (o := ⟨some 34, .call { callee := .builtin .append, args := #[.tmp 32, .tmp 33], argTypes := #[31, 31] }, 31, _, #[⟨4, .data⟩, ⟨5, .data⟩], none⟩) rfl (fun K hK => ?_) (AllReadyH.nil)
            refine step_append_strs (by rfl) _ _ (by rfl) W24 HRl (hlab _ (hE0.trans (hEW24))) hlL (base := b0) (by have := (hEW24).le; omega) (v := .slice (some ⟨n4, 0, none⟩) 0 0) hm4 (by rfl) (by rfl) ?_
            intro la lc W37 hown5 hg5 hloc5
            have hEW37 : Ext W0 W37 := Below.grown (hEW24) hg5 (hEW24).le (fun j hj => by have e : n4 = j := Option.some.inj hj; omega)
            have hb5 := (hEW24).le
            have hs5 := hg5.size
            have hlt5 := fun x hx => hown5.lt x hx
            have hend5 := strs_end HRl (strs_sizes HRl (hlab _ (hE0.trans (hEW24)))) (by unfold maxLen; omega) hown5
            obtain ⟨s5, hs5e⟩ : ∃ m, m = W24.heap.size := ⟨_, rfl⟩
            rw [← hs5e] at hloc5
            have hs5a := Nat.le_of_eq hs5e
            have hs5b := Nat.le_of_eq hs5e.symm
            clear hs5e
            refine hK.out _ _ (HK.out _ (Chg.of_ext hEW37)) (fun hHeld => ?_)
            clear hK K
            try simp only [Act.put, putA, putB, putC]
            refine wpAnyH_ready (rs := [8]) (by kernel_rfl) (by simp) ?_
            refine AllReadyH.cons (o := ⟨some 36, .call { callee := .value (.func 34), args := #[.tmp 35], argTypes := #[32] }, 32, _, #[⟨7, .data⟩, ⟨6, .chain⟩], none⟩) rfl (fun K hK => ?_) (AllReadyH.nil)
            go_simp
            refine (hps W37 (hE0.trans (hEW37))).mono ?_
            rintro e W410 ⟨pa, pl, pc, rfl, ⟨hDp, hOp⟩, hE6⟩
            have hEW410 : Ext W0 W410 := (hEW37).trans hE6
            have hb6 := (hEW37).le
            have hs6 := hE6.le
            obtain ⟨p6, hp6⟩ : ∃ m, m = W37.heap.size := ⟨_, rfl⟩
            obtain ⟨q6, hq6⟩ : ∃ m, m = W410.heap.size := ⟨_, rfl⟩
            rw [← hp6, ← hq6] at hDp hOp
            have hp6a := Nat.le_of_eq hp6
            have hp6b := Nat.le_of_eq hp6.symm
            have hq6a := Nat.le_of_eq hq6
            have hq6b := Nat.le_of_eq hq6.symm
            clear hp6 hq6
            go_wp2_with fail
            refine hK.out _ _ (HK.out _ (Chg.of_ext hEW410)) (fun hHeld => ?_)
            clear hK K
            try simp only [Act.put, putA, putB, putC]
            refine tkL 9 ⟨some 37, .build 34 #[(0, .tmp 31), (1, .tmp 34), (2, .tmp 36)], 34, _, #[⟨3, .data⟩, ⟨6, .data⟩, ⟨8, .data⟩], none⟩ ?_ hHeld ?yyA59 ?rrA59
            case yyA59 => (intro w hSw; (try dsimp only at hSw); go_simp; try with_reducible rfl)
            try simp only [Act.put, putA, putB, putC]
            refine wpAnyH_ready (rs := [10]) (by kernel_rfl) (by simp) ?_
            refine AllReadyH.cons (o := ⟨some 38, .buildSlice 23 1 #[(0, .tmp 37)], 23, _, #[⟨9, .data⟩], none⟩) rfl (fun K hK => ?_) (AllReadyH.nil)
            go_simp
            refine hK.out _ _ (HK.out _ (Chg.of_ext ((hEW410).alloc _))) (fun hHeld => ?_)
            clear hK K
            try simp only [Act.put, putA, putB, putC]
            have hDl := hend5.1.ext hE6
            have hOl := hend5.2.ext hE6
            have hQL : ∀ x, (Value.slice la lL lc).ownBlock = some x → W0.heap.size ≤ x ∧ x < W410.heap.size ∧ ¬ New p6 q6 x := by
              intro x hx
              have h0 := hlt5 x hx
              rcases hloc5 with e | e
              · rw [e] at hx
                have hx2 : n4 = x := Option.some.inj hx
                exact ⟨by omega, by omega, fun h => by have h1 := h.1; have h2 := h.2; omega⟩
              · rw [e] at hx
                have hx2 : s5 = x := Option.some.inj hx
                exact ⟨by omega, by omega, fun h => by have h1 := h.1; have h2 := h.2; omega⟩
            have hQP : ∀ x, New p6 q6 x → W0.heap.size ≤ x ∧ x < W410.heap.size := fun x hx => by have h1 := hx.1; have h2 := hx.2; omega
            refine wpAnyH_ready (rs := [11]) (by kernel_rfl) (by simp) ?_
            refine AllReadyH.cons (o := ⟨some 39, .call { callee := .builtin .append, args := #[.tmp 29, .tmp 38], argTypes := #[23, 23] }, 23, _, #[⟨1, .data⟩, ⟨10, .data⟩, ⟨8, .chain⟩], none⟩) rfl (fun K hK => ?_) (AllReadyH.nil)
            have hrow := (hGd.ext (hEW410)).1
            refine step_append_lies _ (by rfl) _ _ _ (by rfl) b0 34 i0 _ 3 56 Tryz.underlying23 hi0 hz00 hz01 hz02 rfl (by omega) (Value.slice ua len0 ucap) len0 cs (by rfl) (hrow.alloc _) ⟨W410.heap.size, 0, none⟩ 1 1 [.int .i64 x2, .slice la lL lc, .slice pa pl pc] (by rfl) (by rfl) (World.news_of_block (cs := #[.int .i64 x2, .slice la lL lc, .slice pa pl pc]) (t := 34) (fr := (0, 0)) (heap_alloc_new W410 _)) (by simp [Value.oneCell']) (by omega) (by unfold maxLen; omega) (by omega) (by have := (hEW410).le; simp; omega) (W410.heap.size + 1) (by simp) ?_
            intro g gcap w9 hown9 hgrow9 hat9 hlt9
            have hcur9 : Chg (fun x => (Value.slice ua len0 ucap).ownBlock = some x) W0 w9 := (Chg.of_ext ((hEW410).alloc _)).grown hgrow9 (fun b hb => hb)
            refine hK.out _ _ (HK.out _ hcur9) (fun hHeld => ?_)
            clear hK K
            try simp only [Act.put, putA, putB, putC]
            refine tkL 12 ⟨some 40, .fieldAddr 26 (.tmp 3) 0, 0, _, #[⟨0, .phase⟩, ⟨1, .phase⟩, ⟨2, .phase⟩, ⟨3, .phase⟩, ⟨4, .phase⟩, ⟨5, .phase⟩, ⟨6, .phase⟩, ⟨7, .phase⟩, ⟨8, .phase⟩, ⟨9, .phase⟩, ⟨10, .phase⟩, ⟨11, .phase⟩], none⟩ ?_ hHeld ?yyA712 ?rrA712
            case yyA712 => (intro w hSw; (try dsimp only at hSw); go_simp; try with_reducible rfl)
            try simp only [Act.put, putA, putB, putC]
            refine wpAnyH_ready (rs := [13]) (by kernel_rfl) (by simp) ?_
            refine AllReadyH.cons (o := ⟨none, .store 23 (.tmp 40) (.tmp 39), 0, _, #[⟨12, .data⟩, ⟨11, .data⟩, ⟨11, .chain⟩, ⟨0, .phase⟩, ⟨1, .phase⟩, ⟨2, .phase⟩, ⟨3, .phase⟩, ⟨4, .phase⟩, ⟨5, .phase⟩, ⟨6, .phase⟩, ⟨7, .phase⟩, ⟨8, .phase⟩, ⟨9, .phase⟩, ⟨10, .phase⟩, ⟨11, .phase⟩], none⟩) rfl (fun K hK => ?_) (AllReadyH.nil)
            have hA : Ext W410 (W410.alloc (.cells #[.int .i64 x2, .slice la lL lc, .slice pa pl pc] 34)) := (Ext.refl _).alloc _
            have hX9 : Ext Wb (W410.alloc (.cells #[.int .i64 x2, .slice la lL lc, .slice pa pl pc] 34)) := hEW0.trans ((hEW410).trans hA)
            have hk9 : ∀ b, gb ≤ b → b < Wb.heap.size → w9.heap[b]? = Wb.heap[b]? := fun b h1 h2 => by rw [hgrow9.block b (by have := hX9.le; omega) (fun e => by have := hrl _ e.symm; omega), Below.block hX9 b h2]
            obtain ⟨⟨y0, y1, y2, y3⟩, ⟨t0, t1, t2, t3⟩, yf, tf⟩ := hbx w9 (hk9 gb (by omega) (by omega)) (hk9 (gb + 1) (by omega) (by omega))
            have yf0 := yf 0
            have yf2 := yf 2
            have tf0 := tf 0
            have tf1 := tf 1
            have tf2 := tf 2
            have tf3 := tf 3
            go_simp
            refine hK.out _ _ (by rw [World.cell?_setCell_other _ _ _ _ (by simp)]; exact HK.out _ hcur9) (fun hHeld => ?_)
            clear hK K
            try simp only [Act.put, putA, putB, putC]
            refine wpAnyH_done (by kernel_rfl) ?_ _
            clear hHeld HK
            clear hOb
            have hrow4 : GRow w9 (fun x => S0 x ∨ W0.heap.size ≤ x ∧ x < w9.heap.size) b0 34 3 (addF f0 len0 x2 dL dP) (len0 + 1) (.slice (some ⟨g, 0, none⟩) (len0 + 1) gcap) (cs ++ [.int .i64 x2, .slice la lL lc, .slice pa pl pc]) := by
              have hw9 : (W410.alloc (.cells #[.int .i64 x2, .slice la lL lc, .slice pa pl pc] 34)).heap.size ≤ w9.heap.size := hgrow9.size
              have hzW := (hEW410).le
              rw [World.size_alloc] at hw9
              refine GRow.push (w1 := W410.alloc (.cells #[.int .i64 x2, .slice la lL lc, .slice pa pl pc] 34)) (hGd.congr (fun i hi => addF_lt f0 len0 x2 dL dP hi)) ((hEW410).trans hA) [.int .i64 x2, .slice la lL lc, .slice pa pl pc] rfl (fun j => if j = 1 then (fun x => (Value.slice la lL lc).ownBlock = some x) else if j = 2 then New p6 q6 else fun _ => False) (fun j hj => ?_) (fun j j' hj hj' hne x hx hx' => ?_) (fun x hx => .inl hx) (fun x hx => ?_) (fun e => .inr ⟨by simp; omega, ?_⟩) hown9 hgrow9 ?_
              · have hc4 : j = 0 ∨ j = 1 ∨ j = 2 := by omega
                rcases hc4 with rfl | rfl | rfl
                · rw [addF_at0]; exact ⟨⟨rfl, zx2⟩, trivial, fun x hx => absurd hx (by simp)⟩
                · rw [addF_at1, hL]; exact ⟨hDl.ext hA, hOl.ext hA, fun x hx => ⟨(hQL x hx).1, Nat.lt_of_lt_of_le (hQL x hx).2.1 hA.le, .inr ⟨(hQL x hx).1, by have := (hQL x hx).2.1; omega⟩⟩⟩
                · rw [addF_at2]; exact ⟨hDp.ext hA, hOp.ext hA, fun x hx => ⟨(hQP x hx).1, Nat.lt_of_lt_of_le (hQP x hx).2 hA.le, .inr ⟨(hQP x hx).1, by have := (hQP x hx).2; omega⟩⟩⟩
              · have h1 : j = 1 ∨ j = 2 ∨ (j ≠ 1 ∧ j ≠ 2) := by omega
                have h2 : j' = 1 ∨ j' = 2 ∨ (j' ≠ 1 ∧ j' ≠ 2) := by omega
                rcases h1 with rfl | rfl | ⟨h1, h1'⟩
                · rcases h2 with rfl | rfl | ⟨h2, h2'⟩
                  · exact hne rfl
                  · exact (hQL x hx).2.2 hx'
                  · rw [if_neg h2, if_neg h2'] at hx'; exact hx'
                · rcases h2 with rfl | rfl | ⟨h2, h2'⟩
                  · exact (hQL x hx').2.2 hx
                  · exact hne rfl
                  · rw [if_neg h2, if_neg h2'] at hx'; exact hx'
                · rw [if_neg h1, if_neg h1'] at hx; exact hx
              · rcases hx with hx | hx
                · have := hs0 x hx; omega
                · exact hx.2
              · have := hown9.lt _ (show (Value.slice (some ⟨g, 0, none⟩) (len0 + 1) gcap).ownBlock = some g from rfl)
                have e2 : g = (W410.alloc (.cells #[.int .i64 x2, .slice la lL lc, .slice pa pl pc] 34)).heap.size := Option.some.inj e
                omega
              · rcases hat9 with e | e
                · exact .inl e.symm
                · right; subst e; simp [Value.ownBlock]
            have hCf : Chg (fun x => x = gb ∨ x = gb + 1) w9 ((((((w9.setCell ⟨gb, 0, none⟩ (.slice (some ⟨g, 0, none⟩) (len0 + 1) gcap)).setCell ⟨gb, 2, none⟩ (.int .i64 (x2 + 1))).setCell ⟨gb + 1, 0, none⟩ (.slice (some ⟨g, 0, none⟩) (len0 + 1) gcap)).setCell ⟨gb + 1, 1, none⟩ (.slice ra rl rcap)).setCell ⟨gb + 1, 2, none⟩ (.int .i64 (x2 + 1))).setCell ⟨gb + 1, 3, none⟩ (.int .i64 x3)) := ((((((Chg.refl (fun x => x = gb ∨ x = gb + 1) w9).setCell (p := ⟨gb, 0, none⟩) (.inl rfl) _).setCell (p := ⟨gb, 2, none⟩) (.inl rfl) _).setCell (p := ⟨gb + 1, 0, none⟩) (.inr rfl) _).setCell (p := ⟨gb + 1, 1, none⟩) (.inr rfl) _).setCell (p := ⟨gb + 1, 2, none⟩) (.inr rfl) _).setCell (p := ⟨gb + 1, 3, none⟩) (.inr rfl) _
            have hCw : Chg (fun x => S0 x) w w9 := chg_up (Chg.of_ext (hEw.trans hEW0)) hcur9 (fun x hx => .inr (hub x hx))
            have hCall : Chg (fun x => S0 x ∨ w.heap.size ≤ x) w ((((((w9.setCell ⟨gb, 0, none⟩ (.slice (some ⟨g, 0, none⟩) (len0 + 1) gcap)).setCell ⟨gb, 2, none⟩ (.int .i64 (x2 + 1))).setCell ⟨gb + 1, 0, none⟩ (.slice (some ⟨g, 0, none⟩) (len0 + 1) gcap)).setCell ⟨gb + 1, 1, none⟩ (.slice ra rl rcap)).setCell ⟨gb + 1, 2, none⟩ (.int .i64 (x2 + 1))).setCell ⟨gb + 1, 3, none⟩ (.int .i64 x3)) := (hCw.mono (fun x hx => .inl hx)).trans (hCf.mono (fun x hx => .inr (by omega)))
            have hR : Hid _ := hrow4.chg hCf (fun x hx h => by rcases hx with hx | hx; (have := hs0' x hx; omega); omega)
            have hX : Hid (Chg (fun x => S0 x ∨ w.heap.size ≤ x) w ((((((w9.setCell ⟨gb, 0, none⟩ (.slice (some ⟨g, 0, none⟩) (len0 + 1) gcap)).setCell ⟨gb, 2, none⟩ (.int .i64 (x2 + 1))).setCell ⟨gb + 1, 0, none⟩ (.slice (some ⟨g, 0, none⟩) (len0 + 1) gcap)).setCell ⟨gb + 1, 1, none⟩ (.slice ra rl rcap)).setCell ⟨gb + 1, 2, none⟩ (.int .i64 (x2 + 1))).setCell ⟨gb + 1, 3, none⟩ (.int .i64 x3))) := hCall
            have hz9 := hgrow9.size
            rw [World.size_alloc] at hz9
            have hzE := (hEW410).le
            have hzz := (hEw.trans hEW0).le
            clear hrow4 hCf hCw hcur9 hDl hOl hDp hOp hQL hQP hend5 hrow hCall hr1 hL
            go_wp2
            first
              | refine bodyPost_ret (v := .tuple #[.agg #[.slice (some ⟨g, 0, none⟩) (len0 + 1) gcap, .slice ra rl rcap, .int .i64 (x2 + 1), .int .i64 x3], .bool true]) (by simp [results, Tryz.results35, go_sem, t0, t1, t2, t3]) rfl ⟨_, _, rfl, fun _ => ⟨rfl, _, ⟨_, hR.out⟩, fun x hx => ?_⟩, fun h => (by cases h), hX.out⟩
              | refine bodyPost_ret (v := .tuple #[.agg #[.slice (some ⟨g, 0, none⟩) (len0 + 1) gcap, .slice ra rl rcap, .int .i64 (x2 + 1), .int .i64 x3], .bool true]) (by simp [results, Tryz.results35, go_sem, t0, t1, t2, t3]) rfl ⟨_, _, rfl, ⟨rfl, _, ⟨_, hR.out⟩, fun x hx => ?_⟩, hX.out⟩
            rcases hx with hx | hx
            · exact .inl hx
            · exact .inr (by omega)
          · go_simp
            have hm4 := World.ownsRow_made (e := 9) (size := 1) (base := b0) W0 #[] 0 (by have := (Ext.refl W0).le; omega) (Nat.zero_le _) (by simp)
            have hx4 : Ext W0 (W0.alloc (.cells #[] 9)) := (Ext.refl _).alloc _
            have hs4 : (W0.alloc (.cells #[] 9)).heap.size = W0.heap.size + 1 := by simp
            obtain ⟨n4, hn4⟩ : ∃ m, m = W0.heap.size := ⟨_, rfl⟩
            have hb4 := (Ext.refl W0).le
            have hEW14 : Ext W0 (W0.alloc (.cells #[] 9)) := (Ext.refl W0).trans hx4
            rw [← hn4] at hm4 ⊢
            generalize W0.alloc (.cells #[] 9) = W14 at *
            have hn4a := Nat.le_of_eq hn4
            have hn4b := Nat.le_of_eq hn4.symm
            have hs4a := Nat.le_of_eq hs4
            have hs4b := Nat.le_of_eq hs4.symm
            clear hn4 hs4
            refine hK.out _ _ (HK.out _ (Chg.of_ext hEW14)) (fun hHeld => ?_)
            clear hK K
            try simp only [Act.put, putA, putB, putC]
            refine wpAnyH_ready (rs := [1, 6]) (by kernel_rfl) (by simp) ?_
            refine AllReadyH.cons (o := ⟨some 29, .load 23 (.tmp 28), 23, _, #[⟨0, .data⟩], none⟩) rfl (fun K hK => ?_) (AllReadyH.cons (o := ⟨some 34, .call { callee := .builtin .append, args := #[.tmp 32, .tmp 33], argTypes := #[31, 31] }, 31, _, #[⟨4, .data⟩, ⟨5, .data⟩], none⟩) rfl (fun K hK => ?_) (AllReadyH.nil))
            · have oN := hOb W14 (hEW14)
              go_simp
              refine hK.out _ _ (HK.out _ (Chg.of_ext (hEW14))) (fun hHeld => ?_)
              clear oN
              clear hK K
              try simp only [Act.put, putA, putB, putC]
              refine wpAnyH_ready (rs := [6]) (by kernel_rfl) (by simp) ?_
              refine AllReadyH.cons (o := ⟨some 34, .call { callee := .builtin .append, args := #[.tmp 32, .tmp 33], argTypes := #[31, 31] }, 31, _, #[⟨4, .data⟩, ⟨5, .data⟩], none⟩) rfl (fun K hK => ?_) (AllReadyH.nil)
              refine step_append_strs (by rfl) _ _ (by rfl) W14 HRl (hlab _ (hE0.trans (hEW14))) hlL (base := b0) (by have := (hEW14).le; omega) (v := .slice (some ⟨n4, 0, none⟩) 0 0) hm4 (by rfl) (by rfl) ?_
              intro la lc W37 hown5 hg5 hloc5
              have hEW37 : Ext W0 W37 := Below.grown (hEW14) hg5 (hEW14).le (fun j hj => by have e : n4 = j := Option.some.inj hj; omega)
              have hb5 := (hEW14).le
              have hs5 := hg5.size
              have hlt5 := fun x hx => hown5.lt x hx
              have hend5 := strs_end HRl (strs_sizes HRl (hlab _ (hE0.trans (hEW14)))) (by unfold maxLen; omega) hown5
              obtain ⟨s5, hs5e⟩ : ∃ m, m = W14.heap.size := ⟨_, rfl⟩
              rw [← hs5e] at hloc5
              have hs5a := Nat.le_of_eq hs5e
              have hs5b := Nat.le_of_eq hs5e.symm
              clear hs5e
              refine hK.out _ _ (HK.out _ (Chg.of_ext hEW37)) (fun hHeld => ?_)
              clear hK K
              try simp only [Act.put, putA, putB, putC]
              refine wpAnyH_ready (rs := [8]) (by kernel_rfl) (by simp) ?_
              refine AllReadyH.cons (o := ⟨some 36, .call { callee := .value (.func 34), args := #[.tmp 35], argTypes := #[32] }, 32, _, #[⟨7, .data⟩, ⟨6, .chain⟩], none⟩) rfl (fun K hK => ?_) (AllReadyH.nil)
              go_simp
              refine (hps W37 (hE0.trans (hEW37))).mono ?_
              rintro e W410 ⟨pa, pl, pc, rfl, ⟨hDp, hOp⟩, hE6⟩
              have hEW410 : Ext W0 W410 := (hEW37).trans hE6
              have hb6 := (hEW37).le
              have hs6 := hE6.le
              obtain ⟨p6, hp6⟩ : ∃ m, m = W37.heap.size := ⟨_, rfl⟩
              obtain ⟨q6, hq6⟩ : ∃ m, m = W410.heap.size := ⟨_, rfl⟩
              rw [← hp6, ← hq6] at hDp hOp
              have hp6a := Nat.le_of_eq hp6
              have hp6b := Nat.le_of_eq hp6.symm
              have hq6a := Nat.le_of_eq hq6
              have hq6b := Nat.le_of_eq hq6.symm
              clear hp6 hq6
              go_wp2_with fail
              refine hK.out _ _ (HK.out _ (Chg.of_ext hEW410)) (fun hHeld => ?_)
              clear hK K
              try simp only [Act.put, putA, putB, putC]
              refine tkL 9 ⟨some 37, .build 34 #[(0, .tmp 31), (1, .tmp 34), (2, .tmp 36)], 34, _, #[⟨3, .data⟩, ⟨6, .data⟩, ⟨8, .data⟩], none⟩ ?_ hHeld ?yyA119 ?rrA119
              case yyA119 => (intro w hSw; (try dsimp only at hSw); go_simp; try with_reducible rfl)
              try simp only [Act.put, putA, putB, putC]
              refine wpAnyH_ready (rs := [10]) (by kernel_rfl) (by simp) ?_
              refine AllReadyH.cons (o := ⟨some 38, .buildSlice 23 1 #[(0, .tmp 37)], 23, _, #[⟨9, .data⟩], none⟩) rfl (fun K hK => ?_) (AllReadyH.nil)
              go_simp
              refine hK.out _ _ (HK.out _ (Chg.of_ext ((hEW410).alloc _))) (fun hHeld => ?_)
              clear hK K
              try simp only [Act.put, putA, putB, putC]
              have hDl := hend5.1.ext hE6
              have hOl := hend5.2.ext hE6
              have hQL : ∀ x, (Value.slice la lL lc).ownBlock = some x → W0.heap.size ≤ x ∧ x < W410.heap.size ∧ ¬ New p6 q6 x := by
                intro x hx
                have h0 := hlt5 x hx
                rcases hloc5 with e | e
                · rw [e] at hx
                  have hx2 : n4 = x := Option.some.inj hx
                  exact ⟨by omega, by omega, fun h => by have h1 := h.1; have h2 := h.2; omega⟩
                · rw [e] at hx
                  have hx2 : s5 = x := Option.some.inj hx
                  exact ⟨by omega, by omega, fun h => by have h1 := h.1; have h2 := h.2; omega⟩
              have hQP : ∀ x, New p6 q6 x → W0.heap.size ≤ x ∧ x < W410.heap.size := fun x hx => by have h1 := hx.1; have h2 := hx.2; omega
              refine wpAnyH_ready (rs := [11]) (by kernel_rfl) (by simp) ?_
              refine AllReadyH.cons (o := ⟨some 39, .call { callee := .builtin .append, args := #[.tmp 29, .tmp 38], argTypes := #[23, 23] }, 23, _, #[⟨1, .data⟩, ⟨10, .data⟩, ⟨8, .chain⟩], none⟩) rfl (fun K hK => ?_) (AllReadyH.nil)
              have hrow := (hGd.ext (hEW410)).1
              refine step_append_lies _ (by rfl) _ _ _ (by rfl) b0 34 i0 _ 3 56 Tryz.underlying23 hi0 hz00 hz01 hz02 rfl (by omega) (Value.slice ua len0 ucap) len0 cs (by rfl) (hrow.alloc _) ⟨W410.heap.size, 0, none⟩ 1 1 [.int .i64 x2, .slice la lL lc, .slice pa pl pc] (by rfl) (by rfl) (World.news_of_block (cs := #[.int .i64 x2, .slice la lL lc, .slice pa pl pc]) (t := 34) (fr := (0, 0)) (heap_alloc_new W410 _)) (by simp [Value.oneCell']) (by omega) (by unfold maxLen; omega) (by omega) (by have := (hEW410).le; simp; omega) (W410.heap.size + 1) (by simp) ?_
              intro g gcap w9 hown9 hgrow9 hat9 hlt9
              have hcur9 : Chg (fun x => (Value.slice ua len0 ucap).ownBlock = some x) W0 w9 := (Chg.of_ext ((hEW410).alloc _)).grown hgrow9 (fun b hb => hb)
              refine hK.out _ _ (HK.out _ hcur9) (fun hHeld => ?_)
              clear hK K
              try simp only [Act.put, putA, putB, putC]
              refine tkL 12 ⟨some 40, .fieldAddr 26 (.tmp 3) 0, 0, _, #[⟨0, .phase⟩, ⟨1, .phase⟩, ⟨2, .phase⟩, ⟨3, .phase⟩, ⟨4, .phase⟩, ⟨5, .phase⟩, ⟨6, .phase⟩, ⟨7, .phase⟩, ⟨8, .phase⟩, ⟨9, .phase⟩, ⟨10, .phase⟩, ⟨11, .phase⟩], none⟩ ?_ hHeld ?yyA1312 ?rrA1312
              case yyA1312 => (intro w hSw; (try dsimp only at hSw); go_simp; try with_reducible rfl)
              try simp only [Act.put, putA, putB, putC]
              refine wpAnyH_ready (rs := [13]) (by kernel_rfl) (by simp) ?_
              refine AllReadyH.cons (o := ⟨none, .store 23 (.tmp 40) (.tmp 39), 0, _, #[⟨12, .data⟩, ⟨11, .data⟩, ⟨11, .chain⟩, ⟨0, .phase⟩, ⟨1, .phase⟩, ⟨2, .phase⟩, ⟨3, .phase⟩, ⟨4, .phase⟩, ⟨5, .phase⟩, ⟨6, .phase⟩, ⟨7, .phase⟩, ⟨8, .phase⟩, ⟨9, .phase⟩, ⟨10, .phase⟩, ⟨11, .phase⟩], none⟩) rfl (fun K hK => ?_) (AllReadyH.nil)
              have hA : Ext W410 (W410.alloc (.cells #[.int .i64 x2, .slice la lL lc, .slice pa pl pc] 34)) := (Ext.refl _).alloc _
              have hX9 : Ext Wb (W410.alloc (.cells #[.int .i64 x2, .slice la lL lc, .slice pa pl pc] 34)) := hEW0.trans ((hEW410).trans hA)
              have hk9 : ∀ b, gb ≤ b → b < Wb.heap.size → w9.heap[b]? = Wb.heap[b]? := fun b h1 h2 => by rw [hgrow9.block b (by have := hX9.le; omega) (fun e => by have := hrl _ e.symm; omega), Below.block hX9 b h2]
              obtain ⟨⟨y0, y1, y2, y3⟩, ⟨t0, t1, t2, t3⟩, yf, tf⟩ := hbx w9 (hk9 gb (by omega) (by omega)) (hk9 (gb + 1) (by omega) (by omega))
              have yf0 := yf 0
              have yf2 := yf 2
              have tf0 := tf 0
              have tf1 := tf 1
              have tf2 := tf 2
              have tf3 := tf 3
              go_simp
              refine hK.out _ _ (by rw [World.cell?_setCell_other _ _ _ _ (by simp)]; exact HK.out _ hcur9) (fun hHeld => ?_)
              clear hK K
              try simp only [Act.put, putA, putB, putC]
              refine wpAnyH_done (by kernel_rfl) ?_ _
              clear hHeld HK
              clear hOb
              have hrow4 : GRow w9 (fun x => S0 x ∨ W0.heap.size ≤ x ∧ x < w9.heap.size) b0 34 3 (addF f0 len0 x2 dL dP) (len0 + 1) (.slice (some ⟨g, 0, none⟩) (len0 + 1) gcap) (cs ++ [.int .i64 x2, .slice la lL lc, .slice pa pl pc]) := by
                have hw9 : (W410.alloc (.cells #[.int .i64 x2, .slice la lL lc, .slice pa pl pc] 34)).heap.size ≤ w9.heap.size := hgrow9.size
                have hzW := (hEW410).le
                rw [World.size_alloc] at hw9
                refine GRow.push (w1 := W410.alloc (.cells #[.int .i64 x2, .slice la lL lc, .slice pa pl pc] 34)) (hGd.congr (fun i hi => addF_lt f0 len0 x2 dL dP hi)) ((hEW410).trans hA) [.int .i64 x2, .slice la lL lc, .slice pa pl pc] rfl (fun j => if j = 1 then (fun x => (Value.slice la lL lc).ownBlock = some x) else if j = 2 then New p6 q6 else fun _ => False) (fun j hj => ?_) (fun j j' hj hj' hne x hx hx' => ?_) (fun x hx => .inl hx) (fun x hx => ?_) (fun e => .inr ⟨by simp; omega, ?_⟩) hown9 hgrow9 ?_
                · have hc4 : j = 0 ∨ j = 1 ∨ j = 2 := by omega
                  rcases hc4 with rfl | rfl | rfl
                  · rw [addF_at0]; exact ⟨⟨rfl, zx2⟩, trivial, fun x hx => absurd hx (by simp)⟩
                  · rw [addF_at1, hL]; exact ⟨hDl.ext hA, hOl.ext hA, fun x hx => ⟨(hQL x hx).1, Nat.lt_of_lt_of_le (hQL x hx).2.1 hA.le, .inr ⟨(hQL x hx).1, by have := (hQL x hx).2.1; omega⟩⟩⟩
                  · rw [addF_at2]; exact ⟨hDp.ext hA, hOp.ext hA, fun x hx => ⟨(hQP x hx).1, Nat.lt_of_lt_of_le (hQP x hx).2 hA.le, .inr ⟨(hQP x hx).1, by have := (hQP x hx).2; omega⟩⟩⟩
                · have h1 : j = 1 ∨ j = 2 ∨ (j ≠ 1 ∧ j ≠ 2) := by omega
                  have h2 : j' = 1 ∨ j' = 2 ∨ (j' ≠ 1 ∧ j' ≠ 2) := by omega
                  rcases h1 with rfl | rfl | ⟨h1, h1'⟩
                  · rcases h2 with rfl | rfl | ⟨h2, h2'⟩
                    · exact hne rfl
                    · exact (hQL x hx).2.2 hx'
                    · rw [if_neg h2, if_neg h2'] at hx'; exact hx'
                  · rcases h2 with rfl | rfl | ⟨h2, h2'⟩
                    · exact (hQL x hx').2.2 hx
                    · exact hne rfl
                    · rw [if_neg h2, if_neg h2'] at hx'; exact hx'
                  · rw [if_neg h1, if_neg h1'] at hx; exact hx
                · rcases hx with hx | hx
                  · have := hs0 x hx; omega
                  · exact hx.2
                · have := hown9.lt _ (show (Value.slice (some ⟨g, 0, none⟩) (len0 + 1) gcap).ownBlock = some g from rfl)
                  have e2 : g = (W410.alloc (.cells #[.int .i64 x2, .slice la lL lc, .slice pa pl pc] 34)).heap.size := Option.some.inj e
                  omega
                · rcases hat9 with e | e
                  · exact .inl e.symm
                  · right; subst e; simp [Value.ownBlock]
              have hCf : Chg (fun x => x = gb ∨ x = gb + 1) w9 ((((((w9.setCell ⟨gb, 0, none⟩ (.slice (some ⟨g, 0, none⟩) (len0 + 1) gcap)).setCell ⟨gb, 2, none⟩ (.int .i64 (x2 + 1))).setCell ⟨gb + 1, 0, none⟩ (.slice (some ⟨g, 0, none⟩) (len0 + 1) gcap)).setCell ⟨gb + 1, 1, none⟩ (.slice ra rl rcap)).setCell ⟨gb + 1, 2, none⟩ (.int .i64 (x2 + 1))).setCell ⟨gb + 1, 3, none⟩ (.int .i64 x3)) := ((((((Chg.refl (fun x => x = gb ∨ x = gb + 1) w9).setCell (p := ⟨gb, 0, none⟩) (.inl rfl) _).setCell (p := ⟨gb, 2, none⟩) (.inl rfl) _).setCell (p := ⟨gb + 1, 0, none⟩) (.inr rfl) _).setCell (p := ⟨gb + 1, 1, none⟩) (.inr rfl) _).setCell (p := ⟨gb + 1, 2, none⟩) (.inr rfl) _).setCell (p := ⟨gb + 1, 3, none⟩) (.inr rfl) _
              have hCw : Chg (fun x => S0 x) w w9 := chg_up (Chg.of_ext (hEw.trans hEW0)) hcur9 (fun x hx => .inr (hub x hx))
              have hCall : Chg (fun x => S0 x ∨ w.heap.size ≤ x) w ((((((w9.setCell ⟨gb, 0, none⟩ (.slice (some ⟨g, 0, none⟩) (len0 + 1) gcap)).setCell ⟨gb, 2, none⟩ (.int .i64 (x2 + 1))).setCell ⟨gb + 1, 0, none⟩ (.slice (some ⟨g, 0, none⟩) (len0 + 1) gcap)).setCell ⟨gb + 1, 1, none⟩ (.slice ra rl rcap)).setCell ⟨gb + 1, 2, none⟩ (.int .i64 (x2 + 1))).setCell ⟨gb + 1, 3, none⟩ (.int .i64 x3)) := (hCw.mono (fun x hx => .inl hx)).trans (hCf.mono (fun x hx => .inr (by omega)))
              have hR : Hid _ := hrow4.chg hCf (fun x hx h => by rcases hx with hx | hx; (have := hs0' x hx; omega); omega)
              have hX : Hid (Chg (fun x => S0 x ∨ w.heap.size ≤ x) w ((((((w9.setCell ⟨gb, 0, none⟩ (.slice (some ⟨g, 0, none⟩) (len0 + 1) gcap)).setCell ⟨gb, 2, none⟩ (.int .i64 (x2 + 1))).setCell ⟨gb + 1, 0, none⟩ (.slice (some ⟨g, 0, none⟩) (len0 + 1) gcap)).setCell ⟨gb + 1, 1, none⟩ (.slice ra rl rcap)).setCell ⟨gb + 1, 2, none⟩ (.int .i64 (x2 + 1))).setCell ⟨gb + 1, 3, none⟩ (.int .i64 x3))) := hCall
              have hz9 := hgrow9.size
              rw [World.size_alloc] at hz9
              have hzE := (hEW410).le
              have hzz := (hEw.trans hEW0).le
              clear hrow4 hCf hCw hcur9 hDl hOl hDp hOp hQL hQP hend5 hrow hCall hr1 hL
              go_wp2
              first
                | refine bodyPost_ret (v := .tuple #[.agg #[.slice (some ⟨g, 0, none⟩) (len0 + 1) gcap, .slice ra rl rcap, .int .i64 (x2 + 1), .int .i64 x3], .bool true]) (by simp [results, Tryz.results35, go_sem, t0, t1, t2, t3]) rfl ⟨_, _, rfl, fun _ => ⟨rfl, _, ⟨_, hR.out⟩, fun x hx => ?_⟩, fun h => (by cases h), hX.out⟩
                | refine bodyPost_ret (v := .tuple #[.agg #[.slice (some ⟨g, 0, none⟩) (len0 + 1) gcap, .slice ra rl rcap, .int .i64 (x2 + 1), .int .i64 x3], .bool true]) (by simp [results, Tryz.results35, go_sem, t0, t1, t2, t3]) rfl ⟨_, _, rfl, ⟨rfl, _, ⟨_, hR.out⟩, fun x hx => ?_⟩, hX.out⟩
              rcases hx with hx | hx
              · exact .inl hx
              · exact .inr (by omega)
            · refine step_append_strs (by rfl) _ _ (by rfl) W14 HRl (hlab _ (hE0.trans (hEW14))) hlL (base := b0) (by have := (hEW14).le; omega) (v := .slice (some ⟨n4, 0, none⟩) 0 0) hm4 (by rfl) (by rfl) ?_
              intro la lc W27 hown5 hg5 hloc5
              have hEW27 : Ext W0 W27 := Below.grown (hEW14) hg5 (hEW14).le (fun j hj => by have e : n4 = j := Option.some.inj hj; omega)
              have hb5 := (hEW14).le
              have hs5 := hg5.size
              have hlt5 := fun x hx => hown5.lt x hx
              have hend5 := strs_end HRl (strs_sizes HRl (hlab _ (hE0.trans (hEW14)))) (by unfold maxLen; omega) hown5
              obtain ⟨s5, hs5e⟩ : ∃ m, m = W14.heap.size := ⟨_, rfl⟩
              rw [← hs5e] at hloc5
              have hs5a := Nat.le_of_eq hs5e
              have hs5b := Nat.le_of_eq hs5e.symm
              clear hs5e
              refine hK.out _ _ (HK.out _ (Chg.of_ext hEW27)) (fun hHeld => ?_)
              clear hK K
              try simp only [Act.put, putA, putB, putC]
              refine wpAnyH_ready (rs := [1, 8]) (by kernel_rfl) (by simp) ?_
              refine AllReadyH.cons (o := ⟨some 29, .load 23 (.tmp 28), 23, _, #[⟨0, .data⟩], none⟩) rfl (fun K hK => ?_) (AllReadyH.cons (o := ⟨some 36, .call { callee := .value (.func 34), args := #[.tmp 35], argTypes := #[32] }, 32, _, #[⟨7, .data⟩, ⟨6, .chain⟩], none⟩) rfl (fun K hK => ?_) (AllReadyH.nil))
              · have oN := hOb W27 (hEW27)
                go_simp
                refine hK.out _ _ (HK.out _ (Chg.of_ext (hEW27))) (fun hHeld => ?_)
                clear oN
                clear hK K
                try simp only [Act.put, putA, putB, putC]
                refine wpAnyH_ready (rs := [8]) (by kernel_rfl) (by simp) ?_
                refine AllReadyH.cons (o := ⟨some 36, .call { callee := .value (.func 34), args := #[.tmp 35], argTypes := #[32] }, 32, _, #[⟨7, .data⟩, ⟨6, .chain⟩], none⟩) rfl (fun K hK => ?_) (AllReadyH.nil)
                go_simp
                refine (hps W27 (hE0.trans (hEW27))).mono ?_
                rintro e W410 ⟨pa, pl, pc, rfl, ⟨hDp, hOp⟩, hE6⟩
                have hEW410 : Ext W0 W410 := (hEW27).trans hE6
                have hb6 := (hEW27).le
                have hs6 := hE6.le
                obtain ⟨p6, hp6⟩ : ∃ m, m = W27.heap.size := ⟨_, rfl⟩
                obtain ⟨q6, hq6⟩ : ∃ m, m = W410.heap.size := ⟨_, rfl⟩
                rw [← hp6, ← hq6] at hDp hOp
                have hp6a := Nat.le_of_eq hp6
                have hp6b := Nat.le_of_eq hp6.symm
                have hq6a := Nat.le_of_eq hq6
                have hq6b := Nat.le_of_eq hq6.symm
                clear hp6 hq6
                go_wp2_with fail
                refine hK.out _ _ (HK.out _ (Chg.of_ext hEW410)) (fun hHeld => ?_)
                clear hK K
                try simp only [Act.put, putA, putB, putC]
                refine tkL 9 ⟨some 37, .build 34 #[(0, .tmp 31), (1, .tmp 34), (2, .tmp 36)], 34, _, #[⟨3, .data⟩, ⟨6, .data⟩, ⟨8, .data⟩], none⟩ ?_ hHeld ?yyA169 ?rrA169
                case yyA169 => (intro w hSw; (try dsimp only at hSw); go_simp; try with_reducible rfl)
                try simp only [Act.put, putA, putB, putC]
                refine wpAnyH_ready (rs := [10]) (by kernel_rfl) (by simp) ?_
                refine AllReadyH.cons (o := ⟨some 38, .buildSlice 23 1 #[(0, .tmp 37)], 23, _, #[⟨9, .data⟩], none⟩) rfl (fun K hK => ?_) (AllReadyH.nil)
                go_simp
                refine hK.out _ _ (HK.out _ (Chg.of_ext ((hEW410).alloc _))) (fun hHeld => ?_)
                clear hK K
                try simp only [Act.put, putA, putB, putC]
                have hDl := hend5.1.ext hE6
                have hOl := hend5.2.ext hE6
                have hQL : ∀ x, (Value.slice la lL lc).ownBlock = some x → W0.heap.size ≤ x ∧ x < W410.heap.size ∧ ¬ New p6 q6 x := by
                  intro x hx
                  have h0 := hlt5 x hx
                  rcases hloc5 with e | e
                  · rw [e] at hx
                    have hx2 : n4 = x := Option.some.inj hx
                    exact ⟨by omega, by omega, fun h => by have h1 := h.1; have h2 := h.2; omega⟩
                  · rw [e] at hx
                    have hx2 : s5 = x := Option.some.inj hx
                    exact ⟨by omega, by omega, fun h => by have h1 := h.1; have h2 := h.2; omega⟩
                have hQP : ∀ x, New p6 q6 x → W0.heap.size ≤ x ∧ x < W410.heap.size := fun x hx => by have h1 := hx.1; have h2 := hx.2; omega
                refine wpAnyH_ready (rs := [11]) (by kernel_rfl) (by simp) ?_
                refine AllReadyH.cons (o := ⟨some 39, .call { callee := .builtin .append, args := #[.tmp 29, .tmp 38], argTypes := #[23, 23] }, 23, _, #[⟨1, .data⟩, ⟨10, .data⟩, ⟨8, .chain⟩], none⟩) rfl (fun K hK => ?_) (AllReadyH.nil)
                have hrow := (hGd.ext (hEW410)).1
                refine step_append_lies _ (by rfl) _ _ _ (by rfl) b0 34 i0 _ 3 56 Tryz.underlying23 hi0 hz00 hz01 hz02 rfl (by omega) (Value.slice ua len0 ucap) len0 cs (by rfl) (hrow.alloc _) ⟨W410.heap.size, 0, none⟩ 1 1 [.int .i64 x2, .slice la lL lc, .slice pa pl pc] (by rfl) (by rfl) (World.news_of_block (cs := #[.int .i64 x2, .slice la lL lc, .slice pa pl pc]) (t := 34) (fr := (0, 0)) (heap_alloc_new W410 _)) (by simp [Value.oneCell']) (by omega) (by unfold maxLen; omega) (by omega) (by have := (hEW410).le; simp; omega) (W410.heap.size + 1) (by simp) ?_
                intro g gcap w9 hown9 hgrow9 hat9 hlt9
                have hcur9 : Chg (fun x => (Value.slice ua len0 ucap).ownBlock = some x) W0 w9 := (Chg.of_ext ((hEW410).alloc _)).grown hgrow9 (fun b hb => hb)
                refine hK.out _ _ (HK.out _ hcur9) (fun hHeld => ?_)
                clear hK K
                try simp only [Act.put, putA, putB, putC]
                refine tkL 12 ⟨some 40, .fieldAddr 26 (.tmp 3) 0, 0, _, #[⟨0, .phase⟩, ⟨1, .phase⟩, ⟨2, .phase⟩, ⟨3, .phase⟩, ⟨4, .phase⟩, ⟨5, .phase⟩, ⟨6, .phase⟩, ⟨7, .phase⟩, ⟨8, .phase⟩, ⟨9, .phase⟩, ⟨10, .phase⟩, ⟨11, .phase⟩], none⟩ ?_ hHeld ?yyA1812 ?rrA1812
                case yyA1812 => (intro w hSw; (try dsimp only at hSw); go_simp; try with_reducible rfl)
                try simp only [Act.put, putA, putB, putC]
                refine wpAnyH_ready (rs := [13]) (by kernel_rfl) (by simp) ?_
                refine AllReadyH.cons (o := ⟨none, .store 23 (.tmp 40) (.tmp 39), 0, _, #[⟨12, .data⟩, ⟨11, .data⟩, ⟨11, .chain⟩, ⟨0, .phase⟩, ⟨1, .phase⟩, ⟨2, .phase⟩, ⟨3, .phase⟩, ⟨4, .phase⟩, ⟨5, .phase⟩, ⟨6, .phase⟩, ⟨7, .phase⟩, ⟨8, .phase⟩, ⟨9, .phase⟩, ⟨10, .phase⟩, ⟨11, .phase⟩], none⟩) rfl (fun K hK => ?_) (AllReadyH.nil)
                have hA : Ext W410 (W410.alloc (.cells #[.int .i64 x2, .slice la lL lc, .slice pa pl pc] 34)) := (Ext.refl _).alloc _
                have hX9 : Ext Wb (W410.alloc (.cells #[.int .i64 x2, .slice la lL lc, .slice pa pl pc] 34)) := hEW0.trans ((hEW410).trans hA)
                have hk9 : ∀ b, gb ≤ b → b < Wb.heap.size → w9.heap[b]? = Wb.heap[b]? := fun b h1 h2 => by rw [hgrow9.block b (by have := hX9.le; omega) (fun e => by have := hrl _ e.symm; omega), Below.block hX9 b h2]
                obtain ⟨⟨y0, y1, y2, y3⟩, ⟨t0, t1, t2, t3⟩, yf, tf⟩ := hbx w9 (hk9 gb (by omega) (by omega)) (hk9 (gb + 1) (by omega) (by omega))
                have yf0 := yf 0
                have yf2 := yf 2
                have tf0 := tf 0
                have tf1 := tf 1
                have tf2 := tf 2
                have tf3 := tf 3
                go_simp
                refine hK.out _ _ (by rw [World.cell?_setCell_other _ _ _ _ (by simp)]; exact HK.out _ hcur9) (fun hHeld => ?_)
                clear hK K
                try simp only [Act.put, putA, putB, putC]
                refine wpAnyH_done (by kernel_rfl) ?_ _
                clear hHeld HK
                clear hOb
                have hrow4 : GRow w9 (fun x => S0 x ∨ W0.heap.size ≤ x ∧ x < w9.heap.size) b0 34 3 (addF f0 len0 x2 dL dP) (len0 + 1) (.slice (some ⟨g, 0, none⟩) (len0 + 1) gcap) (cs ++ [.int .i64 x2, .slice la lL lc, .slice pa pl pc]) := by
                  have hw9 : (W410.alloc (.cells #[.int .i64 x2, .slice la lL lc, .slice pa pl pc] 34)).heap.size ≤ w9.heap.size := hgrow9.size
                  have hzW := (hEW410).le
                  rw [World.size_alloc] at hw9
                  refine GRow.push (w1 := W410.alloc (.cells #[.int .i64 x2, .slice la lL lc, .slice pa pl pc] 34)) (hGd.congr (fun i hi => addF_lt f0 len0 x2 dL dP hi)) ((hEW410).trans hA) [.int .i64 x2, .slice la lL lc, .slice pa pl pc] rfl (fun j => if j = 1 then (fun x => (Value.slice la lL lc).ownBlock = some x) else if j = 2 then New p6 q6 else fun _ => False) (fun j hj => ?_) (fun j j' hj hj' hne x hx hx' => ?_) (fun x hx => .inl hx) (fun x hx => ?_) (fun e => .inr ⟨by simp; omega, ?_⟩) hown9 hgrow9 ?_
                  · have hc4 : j = 0 ∨ j = 1 ∨ j = 2 := by omega
                    rcases hc4 with rfl | rfl | rfl
                    · rw [addF_at0]; exact ⟨⟨rfl, zx2⟩, trivial, fun x hx => absurd hx (by simp)⟩
                    · rw [addF_at1, hL]; exact ⟨hDl.ext hA, hOl.ext hA, fun x hx => ⟨(hQL x hx).1, Nat.lt_of_lt_of_le (hQL x hx).2.1 hA.le, .inr ⟨(hQL x hx).1, by have := (hQL x hx).2.1; omega⟩⟩⟩
                    · rw [addF_at2]; exact ⟨hDp.ext hA, hOp.ext hA, fun x hx => ⟨(hQP x hx).1, Nat.lt_of_lt_of_le (hQP x hx).2 hA.le, .inr ⟨(hQP x hx).1, by have := (hQP x hx).2; omega⟩⟩⟩
                  · have h1 : j = 1 ∨ j = 2 ∨ (j ≠ 1 ∧ j ≠ 2) := by omega
                    have h2 : j' = 1 ∨ j' = 2 ∨ (j' ≠ 1 ∧ j' ≠ 2) := by omega
                    rcases h1 with rfl | rfl | ⟨h1, h1'⟩
                    · rcases h2 with rfl | rfl | ⟨h2, h2'⟩
                      · exact hne rfl
                      · exact (hQL x hx).2.2 hx'
                      · rw [if_neg h2, if_neg h2'] at hx'; exact hx'
                    · rcases h2 with rfl | rfl | ⟨h2, h2'⟩
                      · exact (hQL x hx').2.2 hx
                      · exact hne rfl
                      · rw [if_neg h2, if_neg h2'] at hx'; exact hx'
                    · rw [if_neg h1, if_neg h1'] at hx; exact hx
                  · rcases hx with hx | hx
                    · have := hs0 x hx; omega
                    · exact hx.2
                  · have := hown9.lt _ (show (Value.slice (some ⟨g, 0, none⟩) (len0 + 1) gcap).ownBlock = some g from rfl)
                    have e2 : g = (W410.alloc (.cells #[.int .i64 x2, .slice la lL lc, .slice pa pl pc] 34)).heap.size := Option.some.inj e
                    omega
                  · rcases hat9 with e | e
                    · exact .inl e.symm
                    · right; subst e; simp [Value.ownBlock]
                have hCf : Chg (fun x => x = gb ∨ x = gb + 1) w9 ((((((w9.setCell ⟨gb, 0, none⟩ (.slice (some ⟨g, 0, none⟩) (len0 + 1) gcap)).setCell ⟨gb, 2, none⟩ (.int .i64 (x2 + 1))).setCell ⟨gb + 1, 0, none⟩ (.slice (some ⟨g, 0, none⟩) (len0 + 1) gcap)).setCell ⟨gb + 1, 1, none⟩ (.slice ra rl rcap)).setCell ⟨gb + 1, 2, none⟩ (.int .i64 (x2 + 1))).setCell ⟨gb + 1, 3, none⟩ (.int .i64 x3)) := ((((((Chg.refl (fun x => x = gb ∨ x = gb + 1) w9).setCell (p := ⟨gb, 0, none⟩) (.inl rfl) _).setCell (p := ⟨gb, 2, none⟩) (.inl rfl) _).setCell (p := ⟨gb + 1, 0, none⟩) (.inr rfl) _).setCell (p := ⟨gb + 1, 1, none⟩) (.inr rfl) _).setCell (p := ⟨gb + 1, 2, none⟩) (.inr rfl) _).setCell (p := ⟨gb + 1, 3, none⟩) (.inr rfl) _
                have hCw : Chg (fun x => S0 x) w w9 := chg_up (Chg.of_ext (hEw.trans hEW0)) hcur9 (fun x hx => .inr (hub x hx))
                have hCall : Chg (fun x => S0 x ∨ w.heap.size ≤ x) w ((((((w9.setCell ⟨gb, 0, none⟩ (.slice (some ⟨g, 0, none⟩) (len0 + 1) gcap)).setCell ⟨gb, 2, none⟩ (.int .i64 (x2 + 1))).setCell ⟨gb + 1, 0, none⟩ (.slice (some ⟨g, 0, none⟩) (len0 + 1) gcap)).setCell ⟨gb + 1, 1, none⟩ (.slice ra rl rcap)).setCell ⟨gb + 1, 2, none⟩ (.int .i64 (x2 + 1))).setCell ⟨gb + 1, 3, none⟩ (.int .i64 x3)) := (hCw.mono (fun x hx => .inl hx)).trans (hCf.mono (fun x hx => .inr (by omega)))
                have hR : Hid _ := hrow4.chg hCf (fun x hx h => by rcases hx with hx | hx; (have := hs0' x hx; omega); omega)
                have hX : Hid (Chg (fun x => S0 x ∨ w.heap.size ≤ x) w ((((((w9.setCell ⟨gb, 0, none⟩ (.slice (some ⟨g, 0, none⟩) (len0 + 1) gcap)).setCell ⟨gb, 2, none⟩ (.int .i64 (x2 + 1))).setCell ⟨gb + 1, 0, none⟩ (.slice (some ⟨g, 0, none⟩) (len0 + 1) gcap)).setCell ⟨gb + 1, 1, none⟩ (.slice ra rl rcap)).setCell ⟨gb + 1, 2, none⟩ (.int .i64 (x2 + 1))).setCell ⟨gb + 1, 3, none⟩ (.int .i64 x3))) := hCall
                have hz9 := hgrow9.size
                rw [World.size_alloc] at hz9
                have hzE := (hEW410).le
                have hzz := (hEw.trans hEW0).le
                clear hrow4 hCf hCw hcur9 hDl hOl hDp hOp hQL hQP hend5 hrow hCall hr1 hL
                go_wp2
                first
                  | refine bodyPost_ret (v := .tuple #[.agg #[.slice (some ⟨g, 0, none⟩) (len0 + 1) gcap, .slice ra rl rcap, .int .i64 (x2 + 1), .int .i64 x3], .bool true]) (by simp [results, Tryz.results35, go_sem, t0, t1, t2, t3]) rfl ⟨_, _, rfl, fun _ => ⟨rfl, _, ⟨_, hR.out⟩, fun x hx => ?_⟩, fun h => (by cases h), hX.out⟩
                  | refine bodyPost_ret (v := .tuple #[.agg #[.slice (some ⟨g, 0, none⟩) (len0 + 1) gcap, .slice ra rl rcap, .int .i64 (x2 + 1), .int .i64 x3], .bool true]) (by simp [results, Tryz.results35, go_sem, t0, t1, t2, t3]) rfl ⟨_, _, rfl, ⟨rfl, _, ⟨_, hR.out⟩, fun x hx => ?_⟩, hX.out⟩
                rcases hx with hx | hx
                · exact .inl hx
                · exact .inr (by omega)
              · go_simp
                refine (hps W27 (hE0.trans (hEW27))).mono ?_
                rintro e W310 ⟨pa, pl, pc, rfl, ⟨hDp, hOp⟩, hE6⟩
                have hEW310 : Ext W0 W310 := (hEW27).trans hE6
                have hb6 := (hEW27).le
                have hs6 := hE6.le
                obtain ⟨p6, hp6⟩ : ∃ m, m = W27.heap.size := ⟨_, rfl⟩
                obtain ⟨q6, hq6⟩ : ∃ m, m = W310.heap.size := ⟨_, rfl⟩
                rw [← hp6, ← hq6] at hDp hOp
                have hp6a := Nat.le_of_eq hp6
                have hp6b := Nat.le_of_eq hp6.symm
                have hq6a := Nat.le_of_eq hq6
                have hq6b := Nat.le_of_eq hq6.symm
                clear hp6 hq6
                go_wp2_with fail
                refine hK.out _ _ (HK.out _ (Chg.of_ext hEW310)) (fun hHeld => ?_)
                clear hK K
                try simp only [Act.put, putA, putB, putC]
                refine tkL 9 ⟨some 37, .build 34 #[(0, .tmp 31), (1, .tmp 34), (2, .tmp 36)], 34, _, #[⟨3, .data⟩, ⟨6, .data⟩, ⟨8, .data⟩], none⟩ ?_ hHeld ?yyA199 ?rrA199
                case yyA199 => (intro w hSw; (try dsimp only at hSw); go_simp; try with_reducible rfl)
                try simp only [Act.put, putA, putB, putC]
                refine wpAnyH_ready (rs := [1, 10]) (by kernel_rfl) (by simp) ?_
                refine AllReadyH.cons (o := ⟨some 29, .load 23 (.tmp 28), 23, _, #[⟨0, .data⟩], none⟩) rfl (fun K hK => ?_) (AllReadyH.cons (o := ⟨some 38, .buildSlice 23 1 #[(0, .tmp 37)], 23, _, #[⟨9, .data⟩], none⟩) rfl (fun K hK => ?_) (AllReadyH.nil))
                · have oN := hOb W310 (hEW310)
                  go_simp
                  refine hK.out _ _ (HK.out _ (Chg.of_ext (hEW310))) (fun hHeld => ?_)
                  clear oN
                  clear hK K
                  try simp only [Act.put, putA, putB, putC]
                  refine wpAnyH_ready (rs := [10]) (by kernel_rfl) (by simp) ?_
                  refine AllReadyH.cons (o := ⟨some 38, .buildSlice 23 1 #[(0, .tmp 37)], 23, _, #[⟨9, .data⟩], none⟩) rfl (fun K hK => ?_) (AllReadyH.nil)
                  go_simp
                  refine hK.out _ _ (HK.out _ (Chg.of_ext ((hEW310).alloc _))) (fun hHeld => ?_)
                  clear hK K
                  try simp only [Act.put, putA, putB, putC]
                  have hDl := hend5.1.ext hE6
                  have hOl := hend5.2.ext hE6
                  have hQL : ∀ x, (Value.slice la lL lc).ownBlock = some x → W0.heap.size ≤ x ∧ x < W310.heap.size ∧ ¬ New p6 q6 x := by
                    intro x hx
                    have h0 := hlt5 x hx
                    rcases hloc5 with e | e
                    · rw [e] at hx
                      have hx2 : n4 = x := Option.some.inj hx
                      exact ⟨by omega, by omega, fun h => by have h1 := h.1; have h2 := h.2; omega⟩
                    · rw [e] at hx
                      have hx2 : s5 = x := Option.some.inj hx
                      exact ⟨by omega, by omega, fun h => by have h1 := h.1; have h2 := h.2; omega⟩
                  have hQP : ∀ x, New p6 q6 x → W0.heap.size ≤ x ∧ x < W310.heap.size := fun x hx => by have h1 := hx.1; have h2 := hx.2; omega
                  refine wpAnyH_ready (rs := [11]) (by kernel_rfl) (by simp) ?_
                  refine AllReadyH.cons (o := ⟨some 39, .call { callee := .builtin .append, args := #[.tmp 29, .tmp 38], argTypes := #[23, 23] }, 23, _, #[⟨1, .data⟩, ⟨10, .data⟩, ⟨8, .chain⟩], none⟩) rfl (fun K hK => ?_) (AllReadyH.nil)
                  have hrow := (hGd.ext (hEW310)).1
                  refine step_append_lies _ (by rfl) _ _ _ (by rfl) b0 34 i0 _ 3 56 Tryz.underlying23 hi0 hz00 hz01 hz02 rfl (by omega) (Value.slice ua len0 ucap) len0 cs (by rfl) (hrow.alloc _) ⟨W310.heap.size, 0, none⟩ 1 1 [.int .i64 x2, .slice la lL lc, .slice pa pl pc] (by rfl) (by rfl) (World.news_of_block (cs := #[.int .i64 x2, .slice la lL lc, .slice pa pl pc]) (t := 34) (fr := (0, 0)) (heap_alloc_new W310 _)) (by simp [Value.oneCell']) (by omega) (by unfold maxLen; omega) (by omega) (by have := (hEW310).le; simp; omega) (W310.heap.size + 1) (by simp) ?_
                  intro g gcap w9 hown9 hgrow9 hat9 hlt9
                  have hcur9 : Chg (fun x => (Value.slice ua len0 ucap).ownBlock = some x) W0 w9 := (Chg.of_ext ((hEW310).alloc _)).grown hgrow9 (fun b hb => hb)
                  refine hK.out _ _ (HK.out _ hcur9) (fun hHeld => ?_)
                  clear hK K
                  try simp only [Act.put, putA, putB, putC]
                  refine tkL 12 ⟨some 40, .fieldAddr 26 (.tmp 3) 0, 0, _, #[⟨0, .phase⟩, ⟨1, .phase⟩, ⟨2, .phase⟩, ⟨3, .phase⟩, ⟨4, .phase⟩, ⟨5, .phase⟩, ⟨6, .phase⟩, ⟨7, .phase⟩, ⟨8, .phase⟩, ⟨9, .phase⟩, ⟨10, .phase⟩, ⟨11, .phase⟩], none⟩ ?_ hHeld ?yyA2212 ?rrA2212
                  case yyA2212 => (intro w hSw; (try dsimp only at hSw); go_simp; try with_reducible rfl)
                  try simp only [Act.put, putA, putB, putC]
                  refine wpAnyH_ready (rs := [13]) (by kernel_rfl) (by simp) ?_
                  refine AllReadyH.cons (o := ⟨none, .store 23 (.tmp 40) (.tmp 39), 0, _, #[⟨12, .data⟩, ⟨11, .data⟩, ⟨11, .chain⟩, ⟨0, .phase⟩, ⟨1, .phase⟩, ⟨2, .phase⟩, ⟨3, .phase⟩, ⟨4, .phase⟩, ⟨5, .phase⟩, ⟨6, .phase⟩, ⟨7, .phase⟩, ⟨8, .phase⟩, ⟨9, .phase⟩, ⟨10, .phase⟩, ⟨11, .phase⟩], none⟩) rfl (fun K hK => ?_) (AllReadyH.nil)
                  have hA : Ext W310 (W310.alloc (.cells #[.int .i64 x2, .slice la lL lc, .slice pa pl pc] 34)) := (Ext.refl _).alloc _
                  have hX9 : Ext Wb (W310.alloc (.cells #[.int .i64 x2, .slice la lL lc, .slice pa pl pc] 34)) := hEW0.trans ((hEW310).trans hA)
                  have hk9 : ∀ b, gb ≤ b → b < Wb.heap.size → w9.heap[b]? = Wb.heap[b]? := fun b h1 h2 => by rw [hgrow9.block b (by have := hX9.le; omega) (fun e => by have := hrl _ e.symm; omega), Below.block hX9 b h2]
                  obtain ⟨⟨y0, y1, y2, y3⟩, ⟨t0, t1, t2, t3⟩, yf, tf⟩ := hbx w9 (hk9 gb (by omega) (by omega)) (hk9 (gb + 1) (by omega) (by omega))
                  have yf0 := yf 0
                  have yf2 := yf 2
                  have tf0 := tf 0
                  have tf1 := tf 1
                  have tf2 := tf 2
                  have tf3 := tf 3
                  go_simp
                  refine hK.out _ _ (by rw [World.cell?_setCell_other _ _ _ _ (by simp)]; exact HK.out _ hcur9) (fun hHeld => ?_)
                  clear hK K
                  try simp only [Act.put, putA, putB, putC]
                  refine wpAnyH_done (by kernel_rfl) ?_ _
                  clear hHeld HK
                  clear hOb
                  have hrow4 : GRow w9 (fun x => S0 x ∨ W0.heap.size ≤ x ∧ x < w9.heap.size) b0 34 3 (addF f0 len0 x2 dL dP) (len0 + 1) (.slice (some ⟨g, 0, none⟩) (len0 + 1) gcap) (cs ++ [.int .i64 x2, .slice la lL lc, .slice pa pl pc]) := by
                    have hw9 : (W310.alloc (.cells #[.int .i64 x2, .slice la lL lc, .slice pa pl pc] 34)).heap.size ≤ w9.heap.size := hgrow9.size
                    have hzW := (hEW310).le
                    rw [World.size_alloc] at hw9
                    refine GRow.push (w1 := W310.alloc (.cells #[.int .i64 x2, .slice la lL lc, .slice pa pl pc] 34)) (hGd.congr (fun i hi => addF_lt f0 len0 x2 dL dP hi)) ((hEW310).trans hA) [.int .i64 x2, .slice la lL lc, .slice pa pl pc] rfl (fun j => if j = 1 then (fun x => (Value.slice la lL lc).ownBlock = some x) else if j = 2 then New p6 q6 else fun _ => False) (fun j hj => ?_) (fun j j' hj hj' hne x hx hx' => ?_) (fun x hx => .inl hx) (fun x hx => ?_) (fun e => .inr ⟨by simp; omega, ?_⟩) hown9 hgrow9 ?_
                    · have hc4 : j = 0 ∨ j = 1 ∨ j = 2 := by omega
                      rcases hc4 with rfl | rfl | rfl
                      · rw [addF_at0]; exact ⟨⟨rfl, zx2⟩, trivial, fun x hx => absurd hx (by simp)⟩
                      · rw [addF_at1, hL]; exact ⟨hDl.ext hA, hOl.ext hA, fun x hx => ⟨(hQL x hx).1, Nat.lt_of_lt_of_le (hQL x hx).2.1 hA.le, .inr ⟨(hQL x hx).1, by have := (hQL x hx).2.1; omega⟩⟩⟩
                      · rw [addF_at2]; exact ⟨hDp.ext hA, hOp.ext hA, fun x hx => ⟨(hQP x hx).1, Nat.lt_of_lt_of_le (hQP x hx).2 hA.le, .inr ⟨(hQP x hx).1, by have := (hQP x hx).2; omega⟩⟩⟩
                    · have h1 : j = 1 ∨ j = 2 ∨ (j ≠ 1 ∧ j ≠ 2) := by omega
                      have h2 : j' = 1 ∨ j' = 2 ∨ (j' ≠ 1 ∧ j' ≠ 2) := by omega
                      rcases h1 with rfl | rfl | ⟨h1, h1'⟩
                      · rcases h2 with rfl | rfl | ⟨h2, h2'⟩
                        · exact hne rfl
                        · exact (hQL x hx).2.2 hx'
                        · rw [if_neg h2, if_neg h2'] at hx'; exact hx'
                      · rcases h2 with rfl | rfl | ⟨h2, h2'⟩
                        · exact (hQL x hx').2.2 hx
                        · exact hne rfl
                        · rw [if_neg h2, if_neg h2'] at hx'; exact hx'
                      · rw [if_neg h1, if_neg h1'] at hx; exact hx
                    · rcases hx with hx | hx
                      · have := hs0 x hx; omega
                      · exact hx.2
                    · have := hown9.lt _ (show (Value.slice (some ⟨g, 0, none⟩) (len0 + 1) gcap).ownBlock = some g from rfl)
                      have e2 : g = (W310.alloc (.cells #[.int .i64 x2, .slice la lL lc, .slice pa pl pc] 34)).heap.size := Option.some.inj e
                      omega
                    · rcases hat9 with e | e
                      · exact .inl e.symm
                      · right; subst e; simp [Value.ownBlock]
                  have hCf : Chg (fun x => x = gb ∨ x = gb + 1) w9 ((((((w9.setCell ⟨gb, 0, none⟩ (.slice (some ⟨g, 0, none⟩) (len0 + 1) gcap)).setCell ⟨gb, 2, none⟩ (.int .i64 (x2 + 1))).setCell ⟨gb + 1, 0, none⟩ (.slice (some ⟨g, 0, none⟩) (len0 + 1) gcap)).setCell ⟨gb + 1, 1, none⟩ (.slice ra rl rcap)).setCell ⟨gb + 1, 2, none⟩ (.int .i64 (x2 + 1))).setCell ⟨gb + 1, 3, none⟩ (.int .i64 x3)) := ((((((Chg.refl (fun x => x = gb ∨ x = gb + 1) w9).setCell (p := ⟨gb, 0, none⟩) (.inl rfl) _).setCell (p := ⟨gb, 2, none⟩) (.inl rfl) _).setCell (p := ⟨gb + 1, 0, none⟩) (.inr rfl) _).setCell (p := ⟨gb + 1, 1, none⟩) (.inr rfl) _).setCell (p := ⟨gb + 1, 2, none⟩) (.inr rfl) _).setCell (p := ⟨gb + 1, 3, none⟩) (.inr rfl) _
                  have hCw : Chg (fun x => S0 x) w w9 := chg_up (Chg.of_ext (hEw.trans hEW0)) hcur9 (fun x hx => .inr (hub x hx))
                  have hCall : Chg (fun x => S0 x ∨ w.heap.size ≤ x) w ((((((w9.setCell ⟨gb, 0, none⟩ (.slice (some ⟨g, 0, none⟩) (len0 + 1) gcap)).setCell ⟨gb, 2, none⟩ (.int .i64 (x2 + 1))).setCell ⟨gb + 1, 0, none⟩ (.slice (some ⟨g, 0, none⟩) (len0 + 1) gcap)).setCell ⟨gb + 1, 1, none⟩ (.slice ra rl rcap)).setCell ⟨gb + 1, 2, none⟩ (.int .i64 (x2 + 1))).setCell ⟨gb + 1, 3, none⟩ (.int .i64 x3)) := (hCw.mono (fun x hx => .inl hx)).trans (hCf.mono (fun x hx => .inr (by omega)))
                  have hR : Hid _ := hrow4.chg hCf (fun x hx h => by rcases hx with hx | hx; (have := hs0' x hx; omega); omega)
                  have hX : Hid (Chg (fun x => S0 x ∨ w.heap.size ≤ x) w ((((((w9.setCell ⟨gb, 0, none⟩ (.slice (some ⟨g, 0, none⟩) (len0 + 1) gcap)).setCell ⟨gb, 2, none⟩ (.int .i64 (x2 + 1))).setCell ⟨gb + 1, 0, none⟩ (.slice (some ⟨g, 0, none⟩) (len0 + 1) gcap)).setCell ⟨gb + 1, 1, none⟩ (.slice ra rl rcap)).setCell ⟨gb + 1, 2, none⟩ (.int .i64 (x2 + 1))).setCell ⟨gb + 1, 3, none⟩ (.int .i64 x3))) := hCall
                  have hz9 := hgrow9.size
                  rw [World.size_alloc] at hz9
                  have hzE := (hEW310).le
                  have hzz := (hEw.trans hEW0).le
                  clear hrow4 hCf hCw hcur9 hDl hOl hDp hOp hQL hQP hend5 hrow hCall hr1 hL
                  go_wp2
                  first
                    | refine bodyPost_ret (v := .tuple #[.agg #[.slice (some ⟨g, 0, none⟩) (len0 + 1) gcap, .slice ra rl rcap, .int .i64 (x2 + 1), .int .i64 x3], .bool true]) (by simp [results, Tryz.results35, go_sem, t0, t1, t2, t3]) rfl ⟨_, _, rfl, fun _ => ⟨rfl, _, ⟨_, hR.out⟩, fun x hx => ?_⟩, fun h => (by cases h), hX.out⟩
                    | refine bodyPost_ret (v := .tuple #[.agg #[.slice (some ⟨g, 0, none⟩) (len0 + 1) gcap, .slice ra rl rcap, .int .i64 (x2 + 1), .int .i64 x3], .bool true]) (by simp [results, Tryz.results35, go_sem, t0, t1, t2, t3]) rfl ⟨_, _, rfl, ⟨rfl, _, ⟨_, hR.out⟩, fun x hx => ?_⟩, hX.out⟩
                  rcases hx with hx | hx
                  · exact .inl hx
                  · exact .inr (by omega)
                · go_simp
                  refine hK.out _ _ (HK.out _ (Chg.of_ext ((hEW310).alloc _))) (fun hHeld => ?_)
                  clear hK K
                  try simp only [Act.put, putA, putB, putC]
                  refine wpAnyH_ready (rs := [1]) (by kernel_rfl) (by simp) ?_
                  refine AllReadyH.cons (o := ⟨some 29, .load 23 (.tmp 28), 23, _, #[⟨0, .data⟩], none⟩) rfl (fun K hK => ?_) (AllReadyH.nil)
                  have oN := hOb (W310.alloc (.cells #[.int .i64 x2, .slice la lL lc, .slice pa pl pc] 34)) ((hEW310).alloc _)
                  go_simp
                  refine hK.out _ _ (HK.out _ (Chg.of_ext ((hEW310).alloc _))) (fun hHeld => ?_)
                  clear oN
                  clear hK K
                  try simp only [Act.put, putA, putB, putC]
                  have hDl := hend5.1.ext hE6
                  have hOl := hend5.2.ext hE6
                  have hQL : ∀ x, (Value.slice la lL lc).ownBlock = some x → W0.heap.size ≤ x ∧ x < W310.heap.size ∧ ¬ New p6 q6 x := by
                    intro x hx
                    have h0 := hlt5 x hx
                    rcases hloc5 with e | e
                    · rw [e] at hx
                      have hx2 : n4 = x := Option.some.inj hx
                      exact ⟨by omega, by omega, fun h => by have h1 := h.1; have h2 := h.2; omega⟩
                    · rw [e] at hx
                      have hx2 : s5 = x := Option.some.inj hx
                      exact ⟨by omega, by omega, fun h => by have h1 := h.1; have h2 := h.2; omega⟩
                  have hQP : ∀ x, New p6 q6 x → W0.heap.size ≤ x ∧ x < W310.heap.size := fun x hx => by have h1 := hx.1; have h2 := hx.2; omega
                  refine wpAnyH_ready (rs := [11]) (by kernel_rfl) (by simp) ?_
                  refine AllReadyH.cons (o := ⟨some 39, .call { callee := .builtin .append, args := #[.tmp 29, .tmp 38], argTypes := #[23, 23] }, 23, _, #[⟨1, .data⟩, ⟨10, .data⟩, ⟨8, .chain⟩], none⟩) rfl (fun K hK => ?_) (AllReadyH.nil)
                  have hrow := (hGd.ext (hEW310)).1
                  refine step_append_lies _ (by rfl) _ _ _ (by rfl) b0 34 i0 _ 3 56 Tryz.underlying23 hi0 hz00 hz01 hz02 rfl (by omega) (Value.slice ua len0 ucap) len0 cs (by rfl) (hrow.alloc _) ⟨W310.heap.size, 0, none⟩ 1 1 [.int .i64 x2, .slice la lL lc, .slice pa pl pc] (by rfl) (by rfl) (World.news_of_block (cs := #[.int .i64 x2, .slice la lL lc, .slice pa pl pc]) (t := 34) (fr := (0, 0)) (heap_alloc_new W310 _)) (by simp [Value.oneCell']) (by omega) (by unfold maxLen; omega) (by omega) (by have := (hEW310).le; simp; omega) (W310.heap.size + 1) (by simp) ?_
                  intro g gcap w9 hown9 hgrow9 hat9 hlt9
                  have hcur9 : Chg (fun x => (Value.slice ua len0 ucap).ownBlock = some x) W0 w9 := (Chg.of_ext ((hEW310).alloc _)).grown hgrow9 (fun b hb => hb)
                  refine hK.out _ _ (HK.out _ hcur9) (fun hHeld => ?_)
                  clear hK K
                  try simp only [Act.put, putA, putB, putC]
                  refine tkL 12 ⟨some 40, .fieldAddr 26 (.tmp 3) 0, 0, _, #[⟨0, .phase⟩, ⟨1, .phase⟩, ⟨2, .phase⟩, ⟨3, .phase⟩, ⟨4, .phase⟩, ⟨5, .phase⟩, ⟨6, .phase⟩, ⟨7, .phase⟩, ⟨8, .phase⟩, ⟨9, .phase⟩, ⟨10, .phase⟩, ⟨11, .phase⟩], none⟩ ?_ hHeld ?yyA2412 ?rrA2412
                  case yyA2412 => (intro w hSw; (try dsimp only at hSw); go_simp; try with_reducible rfl)
                  try simp only [Act.put, putA, putB, putC]
                  refine wpAnyH_ready (rs := [13]) (by kernel_rfl) (by simp) ?_
                  refine AllReadyH.cons (o := ⟨none, .store 23 (.tmp 40) (.tmp 39), 0, _, #[⟨12, .data⟩, ⟨11, .data⟩, ⟨11, .chain⟩, ⟨0, .phase⟩, ⟨1, .phase⟩, ⟨2, .phase⟩, ⟨3, .phase⟩, ⟨4, .phase⟩, ⟨5, .phase⟩, ⟨6, .phase⟩, ⟨7, .phase⟩, ⟨8, .phase⟩, ⟨9, .phase⟩, ⟨10, .phase⟩, ⟨11, .phase⟩], none⟩) rfl (fun K hK => ?_) (AllReadyH.nil)
                  have hA : Ext W310 (W310.alloc (.cells #[.int .i64 x2, .slice la lL lc, .slice pa pl pc] 34)) := (Ext.refl _).alloc _
                  have hX9 : Ext Wb (W310.alloc (.cells #[.int .i64 x2, .slice la lL lc, .slice pa pl pc] 34)) := hEW0.trans ((hEW310).trans hA)
                  have hk9 : ∀ b, gb ≤ b → b < Wb.heap.size → w9.heap[b]? = Wb.heap[b]? := fun b h1 h2 => by rw [hgrow9.block b (by have := hX9.le; omega) (fun e => by have := hrl _ e.symm; omega), Below.block hX9 b h2]
                  obtain ⟨⟨y0, y1, y2, y3⟩, ⟨t0, t1, t2, t3⟩, yf, tf⟩ := hbx w9 (hk9 gb (by omega) (by omega)) (hk9 (gb + 1) (by omega) (by omega))
                  have yf0 := yf 0
                  have yf2 := yf 2
                  have tf0 := tf 0
                  have tf1 := tf 1
                  have tf2 := tf 2
                  have tf3 := tf 3
                  go_simp
                  refine hK.out _ _ (by rw [World.cell?_setCell_other _ _ _ _ (by simp)]; exact HK.out _ hcur9) (fun hHeld => ?_)
                  clear hK K
                  try simp only [Act.put, putA, putB, putC]
                  refine wpAnyH_done (by kernel_rfl) ?_ _
                  clear hHeld HK
                  clear hOb
                  have hrow4 : GRow w9 (fun x => S0 x ∨ W0.heap.size ≤ x ∧ x < w9.heap.size) b0 34 3 (addF f0 len0 x2 dL dP) (len0 + 1) (.slice (some ⟨g, 0, none⟩) (len0 + 1) gcap) (cs ++ [.int .i64 x2, .slice la lL lc, .slice pa pl pc]) := by
                    have hw9 : (W310.alloc (.cells #[.int .i64 x2, .slice la lL lc, .slice pa pl pc] 34)).heap.size ≤ w9.heap.size := hgrow9.size
                    have hzW := (hEW310).le
                    rw [World.size_alloc] at hw9
                    refine GRow.push (w1 := W310.alloc (.cells #[.int .i64 x2, .slice la lL lc, .slice pa pl pc] 34)) (hGd.congr (fun i hi => addF_lt f0 len0 x2 dL dP hi)) ((hEW310).trans hA) [.int .i64 x2, .slice la lL lc, .slice pa pl pc] rfl (fun j => if j = 1 then (fun x => (Value.slice la lL lc).ownBlock = some x) else if j = 2 then New p6 q6 else fun _ => False) (fun j hj => ?_) (fun j j' hj hj' hne x hx hx' => ?_) (fun x hx => .inl hx) (fun x hx => ?_) (fun e => .inr ⟨by simp; omega, ?_⟩) hown9 hgrow9 ?_
                    · have hc4 : j = 0 ∨ j = 1 ∨ j = 2 := by omega
                      rcases hc4 with rfl | rfl | rfl
                      · rw [addF_at0]; exact ⟨⟨rfl, zx2⟩, trivial, fun x hx => absurd hx (by simp)⟩
                      · rw [addF_at1, hL]; exact ⟨hDl.ext hA, hOl.ext hA, fun x hx => ⟨(hQL x hx).1, Nat.lt_of_lt_of_le (hQL x hx).2.1 hA.le, .inr ⟨(hQL x hx).1, by have := (hQL x hx).2.1; omega⟩⟩⟩
                      · rw [addF_at2]; exact ⟨hDp.ext hA, hOp.ext hA, fun x hx => ⟨(hQP x hx).1, Nat.lt_of_lt_of_le (hQP x hx).2 hA.le, .inr ⟨(hQP x hx).1, by have := (hQP x hx).2; omega⟩⟩⟩
                    · have h1 : j = 1 ∨ j = 2 ∨ (j ≠ 1 ∧ j ≠ 2) := by omega
                      have h2 : j' = 1 ∨ j' = 2 ∨ (j' ≠ 1 ∧ j' ≠ 2) := by omega
                      rcases h1 with rfl | rfl | ⟨h1, h1'⟩
                      · rcases h2 with rfl | rfl | ⟨h2, h2'⟩
                        · exact hne rfl
                        · exact (hQL x hx).2.2 hx'
                        · rw [if_neg h2, if_neg h2'] at hx'; exact hx'
                      · rcases h2 with rfl | rfl | ⟨h2, h2'⟩
                        · exact (hQL x hx').2.2 hx
                        · exact hne rfl
                        · rw [if_neg h2, if_neg h2'] at hx'; exact hx'
                      · rw [if_neg h1, if_neg h1'] at hx; exact hx
                    · rcases hx with hx | hx
                      · have := hs0 x hx; omega
                      · exact hx.2
                    · have := hown9.lt _ (show (Value.slice (some ⟨g, 0, none⟩) (len0 + 1) gcap).ownBlock = some g from rfl)
                      have e2 : g = (W310.alloc (.cells #[.int .i64 x2, .slice la lL lc, .slice pa pl pc] 34)).heap.size := Option.some.inj e
                      omega
                    · rcases hat9 with e | e
                      · exact .inl e.symm
                      · right; subst e; simp [Value.ownBlock]
                  have hCf : Chg (fun x => x = gb ∨ x = gb + 1) w9 ((((((w9.setCell ⟨gb, 0, none⟩ (.slice (some ⟨g, 0, none⟩) (len0 + 1) gcap)).setCell ⟨gb, 2, none⟩ (.int .i64 (x2 + 1))).setCell ⟨gb + 1, 0, none⟩ (.slice (some ⟨g, 0, none⟩) (len0 + 1) gcap)).setCell ⟨gb + 1, 1, none⟩ (.slice ra rl rcap)).setCell ⟨gb + 1, 2, none⟩ (.int .i64 (x2 + 1))).setCell ⟨gb + 1, 3, none⟩ (.int .i64 x3)) := ((((((Chg.refl (fun x => x = gb ∨ x = gb + 1) w9).setCell (p := ⟨gb, 0, none⟩) (.inl rfl) _).setCell (p := ⟨gb, 2, none⟩) (.inl rfl) _).setCell (p := ⟨gb + 1, 0, none⟩) (.inr rfl) _).setCell (p := ⟨gb + 1, 1, none⟩) (.inr rfl) _).setCell (p := ⟨gb + 1, 2, none⟩) (.inr rfl) _).setCell (p := ⟨gb + 1, 3, none⟩) (.inr rfl) _
                  have hCw : Chg (fun x => S0 x) w w9 := chg_up (Chg.of_ext (hEw.trans hEW0)) hcur9 (fun x hx => .inr (hub x hx))
                  have hCall : Chg (fun x => S0 x ∨ w.heap.size ≤ x) w ((((((w9.setCell ⟨gb, 0, none⟩ (.slice (some ⟨g, 0, none⟩) (len0 + 1) gcap)).setCell ⟨gb, 2, none⟩ (.int .i64 (x2 + 1))).setCell ⟨gb + 1, 0, none⟩ (.slice (some ⟨g, 0, none⟩) (len0 + 1) gcap)).setCell ⟨gb + 1, 1, none⟩ (.slice ra rl rcap)).setCell ⟨gb + 1, 2, none⟩ (.int .i64 (x2 + 1))).setCell ⟨gb + 1, 3, none⟩ (.int .i64 x3)) := (hCw.mono (fun x hx => .inl hx)).trans (hCf.mono (fun x hx => .inr (by omega)))
                  have hR : Hid _ := hrow4.chg hCf (fun x hx h => by rcases hx with hx | hx; (have := hs0' x hx; omega); omega)
                  have hX : Hid (Chg (fun x => S0 x ∨ w.heap.size ≤ x) w ((((((w9.setCell ⟨gb, 0, none⟩ (.slice (some ⟨g, 0, none⟩) (len0 + 1) gcap)).setCell ⟨gb, 2, none⟩ (.int .i64 (x2 + 1))).setCell ⟨gb + 1, 0, none⟩ (.slice (some ⟨g, 0, none⟩) (len0 + 1) gcap)).setCell ⟨gb + 1, 1, none⟩ (.slice ra rl rcap)).setCell ⟨gb + 1, 2, none⟩ (.int .i64 (x2 + 1))).setCell ⟨gb + 1, 3, none⟩ (.int .i64 x3))) := hCall
                  have hz9 := hgrow9.size
                  rw [World.size_alloc] at hz9
                  have hzE := (hEW310).le
                  have hzz := (hEw.trans hEW0).le
                  clear hrow4 hCf hCw hcur9 hDl hOl hDp hOp hQL hQP hend5 hrow hCall hr1 hL
                  go_wp2
                  first
                    | refine bodyPost_ret (v := .tuple #[.agg #[.slice (some ⟨g, 0, none⟩) (len0 + 1) gcap, .slice ra rl rcap, .int .i64 (x2 + 1), .int .i64 x3], .bool true]) (by simp [results, Tryz.results35, go_sem, t0, t1, t2, t3]) rfl ⟨_, _, rfl, fun _ => ⟨rfl, _, ⟨_, hR.out⟩, fun x hx => ?_⟩, fun h => (by cases h), hX.out⟩
                    | refine bodyPost_ret (v := .tuple #[.agg #[.slice (some ⟨g, 0, none⟩) (len0 + 1) gcap, .slice ra rl rcap, .int .i64 (x2 + 1), .int .i64 x3], .bool true]) (by simp [results, Tryz.results35, go_sem, t0, t1, t2, t3]) rfl ⟨_, _, rfl, ⟨rfl, _, ⟨_, hR.out⟩, fun x hx => ?_⟩, hX.out⟩
                  rcases hx with hx | hx
                  · exact .inl hx
                  · exact .inr (by omega)
end Go.Proofs.YtbhmblkappmfjaaGreat
