/- Lists without anything; the limits of a graph that is ok. -/
import Derived.Test.YtnhgnklapfhekaaGreatGSpec4
import Derived.Test.YtnhgnklapfhekaaGreatDOwn
import Derived.Test.YtnhgnklapfhekaaGreatEaAdd
namespace Go.Proofs.YtnhgnklapfhekaaGreat
open Go.RowKit Go.Deep

def noneL (n : Nat) : D := .list n 0 (fun _ _ => .int 0)
theorem noneL_in (n : Nat) (S : Nat → Prop) (w : World) : DIn S w (noneL n) (.slice none 0 0) ∧ Own w (noneL n) S (.slice none 0 0) :=
  ⟨⟨none, 0, 0, 0, rfl, Nat.zero_le _, fun h => by omega, fun i hi => by omega⟩, ⟨none, 0, 0, 0, fun _ _ _ => False, rfl, fun h => by omega, fun i _ hi => by omega, fun i _ _ _ hi => by omega, fun i hi => by omega⟩⟩
theorem graph_len {d0 d1 : D} {x2 x3 : Int} (h : graphB d0 d1 x2 x3 = true) : d0.len! ≤ 12 ∧ d1.len! ≤ 16 ∧ (0 ≤ x2 ∧ x2 ≤ 1000000000) ∧ 0 ≤ x3 ∧ x3 ≤ 1000000000 := by
  simp only [graphB, Bool.and_eq_true, decide_eq_true_eq, inB] at h
  simp at h
  omega
end Go.Proofs.YtnhgnklapfhekaaGreat

/- The answer of EdgeAdd, as data. -/
namespace Go.Proofs.YtnhgnklapfhekaaGreat
open Go.RowKit Go.Deep

def eaD0 (g : Bool) (d0 : D) : D := if g then d0 else noneL 3
def eaD1 (g a : Bool) (d1 : D) (x3 : Int) (kind : ByteArray) (fr dst : Int) (dP : D) : D := if g then (if a then .list 5 (d1.len! + 1) (addFE d1.at! d1.len! x3 kind fr dst dP) else d1) else noneL 5
def eaX2 (g : Bool) (x2 : Int) : Int := if g then x2 else 0
def eaX3 (g a : Bool) (x3 : Int) : Int := if g then (if a then x3 + 1 else x3) else 0
def eaId (g a : Bool) (x3 : Int) : Int := if g && a then x3 else 0
theorem addFE_row {f : Nat → Nat → D} {len : Nat} {id : Int} {kind : ByteArray} {fr dst : Int} {dP : D} (h : ∀ i, i < len → HasRow 5 (f i)) (HP : Has dP (.list 3)) : ∀ i, i < len + 1 → HasRow 5 (addFE f len id kind fr dst dP i) := by
  intro i hi j hj
  by_cases e : i = len
  · subst e
    have hj' : j = 0 ∨ j = 1 ∨ j = 2 ∨ j = 3 ∨ j = 4 := by change j < 5 at hj; omega
    rcases hj' with rfl | rfl | rfl | rfl | rfl
    · rw [addFE_at0]; rfl
    · rw [addFE_at1]; rfl
    · rw [addFE_at2]; rfl
    · rw [addFE_at3]; rfl
    · rw [addFE_at4]; exact HP
  · rw [addFE_lt f len id kind fr dst dP (show i < len by omega)]
    exact h i (by omega) j hj
theorem eaD1_has {g a : Bool} {d1 : D} {x3 : Int} {kind : ByteArray} {fr dst : Int} {dP : D} (H1 : Has d1 (.list 5)) (HP : Has dP (.list 3)) : Has (eaD1 g a d1 x3 kind fr dst dP) (.list 5) := by
  unfold eaD1
  cases g
  · exact ⟨5, rfl, rfl, fun i hi => by omega⟩
  · cases a
    · exact H1
    · obtain ⟨len, f, rfl, HR⟩ := H1.list
      exact ⟨5, rfl, rfl, fun i hi j hj => addFE_row HR HP i hi j hj⟩
theorem eaD0_has {g : Bool} {d0 : D} (H0 : Has d0 (.list 4)) : Has (eaD0 g d0) (.list 4) := by
  unfold eaD0
  cases g
  · exact ⟨4, rfl, rfl, fun i hi => by omega⟩
  · exact H0
end Go.Proofs.YtnhgnklapfhekaaGreat

/- What spec.EdgeAdd answers. -/
namespace Go.Proofs.YtnhgnklapfhekaaGreat
open Go.RowKit Go.Deep

set_option maxRecDepth 100000 in
set_option maxHeartbeats 8000000 in
theorem specEdgeAdd_any (S : Nat → Prop) (d0 d1 dP : D) (kind : ByteArray) (fr dst : Int) (c0 c1 cP : Value) (x2 x3 : Int) (w : World) (H0 : Has d0 (.list 4)) (h0 : DIn S w d0 c0) (s0 : SmallD d0) (H1 : Has d1 (.list 5)) (h1 : DIn S w d1 c1) (s1 : SmallD d1) (zk : kind.size ≤ maxLen) (zf : (Lit.int .i64 fr).wf = true) (zd : (Lit.int .i64 dst).wf = true) (HP : Has dP (.list 3)) (hP : DIn S w dP cP) (sP : SmallD dP) (g a : Bool) (hg : graphB d0 d1 x2 x3 = g) (ha : addEB kind dP d0 fr dst d1.len! x3 = a) :
    Calls Tryz.prog 6 #[.agg #[c0, c1, .int .i64 x2, .int .i64 x3], .string kind, .int .i64 fr, .int .i64 dst, cP] w fun e w' => ∃ u0 u1, e = .returned (.tuple #[.agg #[u0, u1, .int .i64 (eaX2 g x2), .int .i64 (eaX3 g a x3)], .int .i64 (eaId g a x3), .bool (g && a)]) ∧ DIn (New w.heap.size w'.heap.size) w' (eaD0 g d0) u0 ∧ DIn (New w.heap.size w'.heap.size) w' (eaD1 g a d1 x3 kind fr dst dP) u1 ∧ Ext w w' := by
  have hok := fun (W : World) (hW : Ext w W) => specGraphOk_any S d0 d1 c0 c1 x2 x3 W H0 (h0.ext hW) H1 (h1.ext hW)
  have hcp := fun (W : World) (hW : Ext w W) => l2Copy_both S d0 d1 c0 c1 x2 x3 W H0 (h0.ext hW) s0 H1 (h1.ext hW) s1
  have had := fun (W : World) (hW : Ext w W) (S0 S1 : Nat → Prop) (bw b1 : Nat) (r0 u1 : Value) (ds : List Value) hG hr0 hsep hb0 hbw hb00 hl hx0 hx1 => l2AddEdge_any S S0 S1 bw b1 d1.len! d1.at! d0 dP kind fr dst r0 u1 cP ds x2 x3 W hG H0 hr0 hsep hb0 hbw hb00 hl hx0 hx1 zk zf zd HP (hP.ext hW) sP
  have hgl : g = true → _ := fun e => graph_len (hg.trans e)
  rw [hg] at hok
  rw [ha] at had
  have hd1' : Hid (d1 = .list 5 d1.len! d1.at!) := by
    obtain ⟨len1, f1, hd1, HR1⟩ := H1.list
    show d1 = _
    rw [hd1]
    rfl
  obtain ⟨a0, cap0, l0, _, hq0, rfl, _, _⟩ := list_shape H0 h0
  obtain ⟨a1, cap1, l1, _, hq1, rfl, _, _⟩ := list_shape H1 h1
  obtain ⟨aP, capP, lP, _, hqP, rfl, _, _⟩ := list_shape HP hP
  clear hq0 hq1 hqP
  obtain ⟨Wb, hWb⟩ : ∃ Wb, Wb = (w.alloc (.cells #[.slice a0 l0 cap0, .slice a1 l1 cap1, .int .i64 x2, .int .i64 x3] 32)).alloc (.cells #[.slice none 0 0, .slice none 0 0, .int .i64 0, .int .i64 0] 32) := ⟨_, rfl⟩
  obtain ⟨gb, hgb⟩ : ∃ m, m = w.heap.size := ⟨_, rfl⟩
  have hEw : Ext w Wb := by rw [hWb]; exact ((Ext.refl _).alloc _).alloc _
  have hzb : Wb.heap.size ≤ gb + 2 := by rw [hWb, hgb]; simp
  have hzb2 : gb + 2 ≤ Wb.heap.size := by rw [hWb, hgb]; simp
  have hblk0 : Wb.heap[gb]? = some (.cells #[.slice a0 l0 cap0, .slice a1 l1 cap1, .int .i64 x2, .int .i64 x3] 32 (0, 0)) := by
    rw [hWb, Below.block ((Ext.refl _).alloc _) _ (by rw [hgb]; simp), hgb]
    exact heap_alloc_new w _
  have hblk1 : Wb.heap[gb + 1]? = some (.cells #[.slice none 0 0, .slice none 0 0, .int .i64 0, .int .i64 0] 32 (0, 0)) := by
    have := heap_alloc_new (w.alloc (.cells #[.slice a0 l0 cap0, .slice a1 l1 cap1, .int .i64 x2, .int .i64 x3] 32)) (.cells #[.slice none 0 0, .slice none 0 0, .int .i64 0, .int .i64 0] 32)
    rw [World.size_alloc] at this
    rw [hWb, hgb]
    exact this
  have hbx : ∀ W : World, W.heap[gb]? = Wb.heap[gb]? → W.heap[gb + 1]? = Wb.heap[gb + 1]? → (W.cell? ⟨gb, 0, none⟩ = some (.slice a0 l0 cap0) ∧ W.cell? ⟨gb, 1, none⟩ = some (.slice a1 l1 cap1) ∧ W.cell? ⟨gb, 2, none⟩ = some (.int .i64 x2) ∧ W.cell? ⟨gb, 3, none⟩ = some (.int .i64 x3)) ∧ (W.cell? ⟨gb + 1, 0, none⟩ = some (.slice none 0 0) ∧ W.cell? ⟨gb + 1, 1, none⟩ = some (.slice none 0 0) ∧ W.cell? ⟨gb + 1, 2, none⟩ = some (.int .i64 0) ∧ W.cell? ⟨gb + 1, 3, none⟩ = some (.int .i64 0)) ∧ (∀ o, W.frozen? ⟨gb + 1, o, none⟩ = false) := fun W h1 h2 => by
    rw [hblk0] at h1
    rw [hblk1] at h2
    refine ⟨⟨?_, ?_, ?_, ?_⟩, ⟨?_, ?_, ?_, ?_⟩, fun o => ?_⟩
    all_goals first | (simp [World.cell?, h1]; done) | (simp [World.cell?, h2]; done) | (simp [World.frozen?, h2]; done)
  have hbW : ∀ W : World, Ext Wb W → (W.cell? ⟨gb, 0, none⟩ = some (.slice a0 l0 cap0) ∧ W.cell? ⟨gb, 1, none⟩ = some (.slice a1 l1 cap1) ∧ W.cell? ⟨gb, 2, none⟩ = some (.int .i64 x2) ∧ W.cell? ⟨gb, 3, none⟩ = some (.int .i64 x3)) ∧ (W.cell? ⟨gb + 1, 0, none⟩ = some (.slice none 0 0) ∧ W.cell? ⟨gb + 1, 1, none⟩ = some (.slice none 0 0) ∧ W.cell? ⟨gb + 1, 2, none⟩ = some (.int .i64 0) ∧ W.cell? ⟨gb + 1, 3, none⟩ = some (.int .i64 0)) ∧ (∀ o, W.frozen? ⟨gb + 1, o, none⟩ = false) := fun W hW => hbx W (Below.block hW _ (by omega)) (Below.block hW _ (by omega))
  have hgb1 : gb ≤ w.heap.size := Nat.le_of_eq hgb
  have hgb2 : w.heap.size ≤ gb := Nat.le_of_eq hgb.symm
  clear hg ha
  obtain ⟨⟨p0, p1, p2, p3⟩, _⟩ := hbW Wb (Ext.refl _)
  go_enter Tryz.func6, Tryz.ntmps6
  go_wp2_with fail
  rw [← hWb, ← hgb]
  clear hWb hgb p0 p1 p2 p3
  refine (hok Wb hEw).mono ?_
  rintro e w1 ⟨rfl, hE1⟩
  have hz1 := hE1.le
  cases g
  · obtain ⟨⟨p0, p1, p2, p3⟩, ⟨t0, t1, t2, t3⟩, tf⟩ := hbW w1 hE1
    have tf0 := tf 0
    have tf1 := tf 1
    have tf2 := tf 2
    have tf3 := tf 3
    have hCf : Chg (fun x => x = gb + 1) w1 ((((w1.setCell ⟨gb + 1, 0, none⟩ (.slice none 0 0)).setCell ⟨gb + 1, 1, none⟩ (.slice none 0 0)).setCell ⟨gb + 1, 2, none⟩ (.int .i64 0)).setCell ⟨gb + 1, 3, none⟩ (.int .i64 0)) := ((((Chg.refl (fun x => x = gb + 1) w1).setCell (p := ⟨gb + 1, 0, none⟩) rfl _).setCell (p := ⟨gb + 1, 1, none⟩) rfl _).setCell (p := ⟨gb + 1, 2, none⟩) rfl _).setCell (p := ⟨gb + 1, 3, none⟩) rfl _
    have hX : Hid (Ext w ((((w1.setCell ⟨gb + 1, 0, none⟩ (.slice none 0 0)).setCell ⟨gb + 1, 1, none⟩ (.slice none 0 0)).setCell ⟨gb + 1, 2, none⟩ (.int .i64 0)).setCell ⟨gb + 1, 3, none⟩ (.int .i64 0))) := hCf.toExt (hEw.trans hE1) (fun x hx => by omega)
    clear hCf
    go_wp2
    refine bodyPost_ret (v := .tuple #[.agg #[.slice none 0 0, .slice none 0 0, .int .i64 0, .int .i64 0], .int .i64 0, .bool false]) (by simp [results, Tryz.results6, go_sem, t0, t1, t2, t3]) rfl ⟨_, _, rfl, (noneL_in 3 _ _).1, (noneL_in 5 _ _).1, hX.out⟩
  · obtain ⟨_, hl16, _, hx0, hx1⟩ := hgl rfl
    clear hgl
    obtain ⟨⟨p0, p1, p2, p3⟩, ⟨t0, t1, t2, t3⟩, tf⟩ := hbW w1 hE1
    go_wp2_with fail
    refine (hcp w1 (hEw.trans hE1)).mono ?_
    rintro e w2 ⟨u0, u1, cs, ds, b0, b1, S0, S1, rfl, hb01, hb02, hGn, hb12, hGr, hS0, hS1, hE2⟩
    clear hcp p0 p1 p2 p3 t0 t1 t2 t3 tf
    have hz2 := hE2.le
    have hd0n : DIn S0 w2 d0 u0 := by
      obtain ⟨len0, f0, hd0, HR0⟩ := H0.list
      rw [hd0] at hGn s0 ⊢
      exact (hGn.end (by have := s0.2.1; unfold maxLen; change len0 ≤ _; omega)).1
    have hS0l := hGn.2.2.1
    have had2 := had w2 ((hEw.trans hE1).trans hE2) S0 S1 w1.heap.size b1 u0 u1 ds hGr hd0n (fun x hx h => (hS1 x h).2.2 hx) (fun x hx => (hS1 x hx).1) hz2 hb12 hl16 hx0 hx1
    clear had
    obtain ⟨ra, rcap, rl, _, hqr, rfl, _, _⟩ := list_shape H0 hd0n
    clear hqr
    obtain ⟨va0, vcap0, rfl⟩ := hGr.shape
    go_wp2_with fail
    refine had2.mono ?_
    rintro e w3 ⟨v0, y3, rfl, hyes, hno, hC3⟩
    clear had2
    have hz3 := hC3.size
    have hk3 : ∀ b, gb ≤ b → b < Wb.heap.size → w3.heap[b]? = Wb.heap[b]? := fun b h1 h2 => by rw [hC3.block b (by omega) (by omega), Below.block (hE1.trans hE2) b h2]
    have hbW3 := fun (W : World) (hW : Ext w3 W) => hbx W ((Below.block hW gb (by omega)).trans (hk3 gb (by omega) (by omega))) ((Below.block hW (gb + 1) (by omega)).trans (hk3 (gb + 1) (by omega) (by omega)))
    have hX3 : Ext w w3 := hC3.toExt ((hEw.trans hE1).trans hE2) (fun x hx => by omega)
    cases a
    · obtain ⟨rfl, rfl, hD1, hD0⟩ := hno rfl
      clear hyes hno
      have hEa : Ext w3 (w3.alloc (.cells #[.slice ra rl rcap, .slice va0 d1.len! vcap0, .int .i64 x2, .int .i64 y3] 32)) := (Ext.refl _).alloc _
      obtain ⟨⟨p0, p1, p2, p3⟩, ⟨t0, t1, t2, t3⟩, tf⟩ := hbW3 _ hEa
      have tf0 := tf 0
      have tf1 := tf 1
      have tf2 := tf 2
      have tf3 := tf 3
      have hCf : Chg (fun x => x = gb + 1) (w3.alloc (.cells #[.slice ra rl rcap, .slice va0 d1.len! vcap0, .int .i64 x2, .int .i64 y3] 32)) (((((w3.alloc (.cells #[.slice ra rl rcap, .slice va0 d1.len! vcap0, .int .i64 x2, .int .i64 y3] 32)).setCell ⟨gb + 1, 0, none⟩ (.slice ra rl rcap)).setCell ⟨gb + 1, 1, none⟩ (.slice va0 d1.len! vcap0)).setCell ⟨gb + 1, 2, none⟩ (.int .i64 x2)).setCell ⟨gb + 1, 3, none⟩ (.int .i64 y3)) := ((((Chg.refl (fun x => x = gb + 1) _).setCell (p := ⟨gb + 1, 0, none⟩) rfl _).setCell (p := ⟨gb + 1, 1, none⟩) rfl _).setCell (p := ⟨gb + 1, 2, none⟩) rfl _).setCell (p := ⟨gb + 1, 3, none⟩) rfl _
      have hX : Hid _ := And.intro (And.intro (((hD0.ext hEa).carry hCf.size (fun b hb hl => hCf.block b hl (by have := hS0 b hb; omega))).mono (S' := New gb ((((((w3.alloc (.cells #[.slice ra rl rcap, .slice va0 d1.len! vcap0, .int .i64 x2, .int .i64 y3] 32)).setCell ⟨gb + 1, 0, none⟩ (.slice ra rl rcap)).setCell ⟨gb + 1, 1, none⟩ (.slice va0 d1.len! vcap0)).setCell ⟨gb + 1, 2, none⟩ (.int .i64 x2)).setCell ⟨gb + 1, 3, none⟩ (.int .i64 y3))).heap.size) (fun x hx => ⟨by have := hS0 x hx; omega, by have := hS0l x hx; simp; omega⟩)) (((hD1.ext hEa).carry hCf.size (fun b hb hl => hCf.block b hl (by have := hS1 b hb; omega))).mono (S' := New gb ((((((w3.alloc (.cells #[.slice ra rl rcap, .slice va0 d1.len! vcap0, .int .i64 x2, .int .i64 y3] 32)).setCell ⟨gb + 1, 0, none⟩ (.slice ra rl rcap)).setCell ⟨gb + 1, 1, none⟩ (.slice va0 d1.len! vcap0)).setCell ⟨gb + 1, 2, none⟩ (.int .i64 x2)).setCell ⟨gb + 1, 3, none⟩ (.int .i64 y3))).heap.size) (fun x hx => ⟨by have := (hS1 x hx).1; omega, by have := (hS1 x hx).2.1; simp; omega⟩))) (hCf.toExt (hX3.trans hEa) (fun x hx => by omega))
      clear hCf hD0 hD1
      go_wp2
      refine bodyPost_ret (v := .tuple #[.agg #[.slice ra rl rcap, .slice va0 d1.len! vcap0, .int .i64 x2, .int .i64 y3], .int .i64 0, .bool false]) (by simp [results, Tryz.results6, go_sem, t0, t1, t2, t3]) rfl ⟨_, _, rfl, ?_, ?_, hX.out.2⟩
      · rw [← show gb = w.heap.size by omega]; exact hX.out.1.1
      · rw [← show gb = w.heap.size by omega]; show DIn _ _ d1 _; rw [hd1'.out]; exact hX.out.1.2
    · obtain ⟨rfl, S1', hD1, hD0, hS1'⟩ := hyes rfl
      clear hyes hno
      obtain ⟨va, vcap, hv0, _⟩ := hD1.list_eq
      subst hv0
      have hEa : Ext w3 (w3.alloc (.cells #[.slice ra rl rcap, .slice va (d1.len! + 1) vcap, .int .i64 x2, .int .i64 (x3 + 1)] 32)) := (Ext.refl _).alloc _
      obtain ⟨⟨p0, p1, p2, p3⟩, ⟨t0, t1, t2, t3⟩, tf⟩ := hbW3 _ hEa
      have tf0 := tf 0
      have tf1 := tf 1
      have tf2 := tf 2
      have tf3 := tf 3
      go_wp2_with fail
      obtain ⟨wz, hwz⟩ : ∃ wz, wz = (w3.alloc (.cells #[.slice ra rl rcap, .slice va (d1.len! + 1) vcap, .int .i64 x2, .int .i64 (x3 + 1)] 32)) := ⟨_, rfl⟩
      have hz0 : wz.cell? ⟨w3.heap.size, 0, none⟩ = some (.slice ra rl rcap) := by rw [hwz]; exact box_cell (Ext.refl _) 0 _ rfl
      have hz1' : wz.cell? ⟨w3.heap.size, 1, none⟩ = some (.slice va (d1.len! + 1) vcap) := by rw [hwz]; exact box_cell (Ext.refl _) 1 _ rfl
      have hz2' : wz.cell? ⟨w3.heap.size, 2, none⟩ = some (.int .i64 x2) := by rw [hwz]; exact box_cell (Ext.refl _) 2 _ rfl
      have hz3' : wz.cell? ⟨w3.heap.size, 3, none⟩ = some (.int .i64 (x3 + 1)) := by rw [hwz]; exact box_cell (Ext.refl _) 3 _ rfl
      have hzz : wz.heap.size = w3.heap.size + 1 := by rw [hwz]; simp
      rw [← hwz] at p3 t0 t1 t2 t3 tf0 tf1 tf2 tf3 hEa ⊢
      clear hwz tf p0 p1 p2
      have hzl : w3.heap.size < wz.heap.size := by omega
      clear hzz
      have hne : ¬ w3.heap.size = gb + 1 := by omega
      have hne2 : ¬ gb + 1 = w3.heap.size := by omega
      have hEd : Ext w3 wz.drew := hEa.drew
      have hCf : Chg (fun x => x = gb + 1) wz.drew ((((wz.drew.setCell ⟨gb + 1, 0, none⟩ (.slice ra rl rcap)).setCell ⟨gb + 1, 1, none⟩ (.slice va (d1.len! + 1) vcap)).setCell ⟨gb + 1, 2, none⟩ (.int .i64 x2)).setCell ⟨gb + 1, 3, none⟩ (.int .i64 (x3 + 1))) := ((((Chg.refl (fun x => x = gb + 1) wz.drew).setCell (p := ⟨gb + 1, 0, none⟩) rfl _).setCell (p := ⟨gb + 1, 1, none⟩) rfl _).setCell (p := ⟨gb + 1, 2, none⟩) rfl _).setCell (p := ⟨gb + 1, 3, none⟩) rfl _
      have hzd : w3.heap.size < wz.drew.heap.size := hzl
      have hX : Hid _ := And.intro (And.intro (((hD0.ext hEd).carry hCf.size (fun b hb hl => hCf.block b hl (by have := hS0 b hb; omega))).mono (S' := New gb (((((wz.drew.setCell ⟨gb + 1, 0, none⟩ (.slice ra rl rcap)).setCell ⟨gb + 1, 1, none⟩ (.slice va (d1.len! + 1) vcap)).setCell ⟨gb + 1, 2, none⟩ (.int .i64 x2)).setCell ⟨gb + 1, 3, none⟩ (.int .i64 (x3 + 1)))).heap.size) (fun x hx => ⟨by have := hS0 x hx; omega, by have := hS0l x hx; simp only [World.size_setCell]; omega⟩)) (((hD1.ext hEd).carry hCf.size (fun b hb hl => hCf.block b hl (by have := hS1' b hb; omega))).mono (S' := New gb (((((wz.drew.setCell ⟨gb + 1, 0, none⟩ (.slice ra rl rcap)).setCell ⟨gb + 1, 1, none⟩ (.slice va (d1.len! + 1) vcap)).setCell ⟨gb + 1, 2, none⟩ (.int .i64 x2)).setCell ⟨gb + 1, 3, none⟩ (.int .i64 (x3 + 1)))).heap.size) (fun x hx => ⟨by have := (hS1' x hx).1; omega, by have := (hS1' x hx).2; simp only [World.size_setCell]; omega⟩))) (hCf.toExt (hX3.trans hEd) (fun x hx => by omega))
      have hgbw : Hid (gb = w.heap.size) := by show _ = _; omega
      clear hCf hD0 hD1
      go_region
      all_goals go_wp2
      all_goals refine bodyPost_ret (v := .tuple #[.agg #[.slice ra rl rcap, .slice va (d1.len! + 1) vcap, .int .i64 x2, .int .i64 (x3 + 1)], .int .i64 x3, .bool true]) (by simp [results, Tryz.results6, go_sem, t0, t1, t2, t3]) rfl ⟨_, _, rfl, ?_, ?_, ?_⟩
      · rw [← hgbw.out]; exact hX.out.1.1
      · rw [← hgbw.out]; exact hX.out.1.2
      · exact hX.out.2
end Go.Proofs.YtnhgnklapfhekaaGreat
