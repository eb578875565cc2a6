/- A row of a net with one leaf set anew. -/
import Derived.Test.YteijgejpenlgjaaGreatNetD
import Derived.Test.YteijgejpenlgjaaGreatNetOf
import Derived.Test.YteijgejpenlgjaaGreatGrS
import Derived.Test.YteijgejpenlgjaaGreatPsX
import Derived.Test.YteijgejpenlgjaaGreatTk
namespace Go.Proofs.YteijgejpenlgjaaGreat
open Go.RowKit Go.Deep

/-- A leaf of a row is another one. -/
def setF (f : Nat → Nat → D) (k c : Nat) (v : D) : Nat → Nat → D := fun i j => if i = k ∧ j = c then v else f i j
theorem setF_at (f : Nat → Nat → D) (k c : Nat) (v : D) : setF f k c v k c = v := by simp [setF]
theorem setF_ne {f : Nat → Nat → D} {k c : Nat} {v : D} {i j : Nat} (h : ¬ (i = k ∧ j = c)) : setF f k c v i j = f i j := by simp [setF, h]
theorem RowsS.set {w w' : World} {N N' : NetD} {S S' : Nat → Prop} {j : MI} {n : Nat} {f : Nat → Nat → D} {len k c0 : Nat} {v : D} {vL : Value} (h : RowsS w N S j n f len) (hk : k < len) (hc00 : c0 ≠ 0) (st : NStep w N w' N')
  (hv : ∀ i, i < len → i ≠ k → N'.val j (f i 0).int! = N.val j (f i 0).int!) (hvk : ∀ C : Nat → Value, N.val j (f k 0).int! = .agg ((List.range n).map C).toArray → N'.val j (f k 0).int! = .agg ((List.range n).map fun c => if c = c0 then vL else C c).toArray)
  (Q : Nat → Prop) (hQ : DIn Q w' v vL ∧ Own w' v Q vL) (hQ1 : ∀ x, Q x → w.heap.size ≤ x ∧ ¬ NetR N' x) (hS : ∀ x, S x → S' x) (hQS : ∀ x, Q x → S' x) (hS' : ∀ x, S' x → x < w'.heap.size) : RowsS w' N' S' j n (setF f k c0 v) len := by
 obtain ⟨P, hw, h1, h2⟩ := h
 have h0 : ∀ i, setF f k c0 v i 0 = f i 0 := fun i => setF_ne (fun e => hc00 e.2.symm)
 refine ⟨fun i c => if i = k ∧ c = c0 then Q else P i c, hS', fun i hi => ?_, fun i c i' c' hi hc hi' hc' hne x hx => ?_⟩
 ·
  obtain ⟨C, hv1, hc⟩ := h1 i hi
  have key : ∀ c, c < n → DIn (P i c) w' (f i c) (C c) ∧ Own w' (f i c) (P i c) (C c) ∧ ∀ x, P i c x → S' x ∧ ¬ NetR N' x := fun c hcn => by
   obtain ⟨a1, a2, a3⟩ := hc c hcn
   have kk : ∀ x, P i c x → x < w.heap.size → w'.heap[x]? = w.heap[x]? := fun x hx hl => st.chg.block x hl (a3 x hx).2
   refine ⟨a1.carry st.chg.size kk, a2.carry st.chg.size kk, fun x hx => ⟨hS x (a3 x hx).1, fun hn => ?_⟩⟩
   rcases st.own x hn with h3 | h3
   ·
    exact (a3 x hx).2 h3
   ·
    have := hw x (a3 x hx).1; omega
  rw [h0]
  by_cases hik : i = k
  ·
   subst hik
   refine ⟨_, hvk C hv1, fun c hcn => ?_⟩
   by_cases hcc : c = c0
   ·
    subst hcc
    rw [setF_at]
    simp only [true_and, if_true]
    exact ⟨hQ.1, hQ.2, fun x hx => ⟨hQS x hx, (hQ1 x hx).2⟩⟩
   ·
    rw [setF_ne (fun e => hcc e.2)]
    simp only [hcc, and_false, if_false]
    exact key c hcn
  ·
   refine ⟨C, (hv i hi hik).trans hv1, fun c hcn => ?_⟩
   rw [setF_ne (fun e => hik e.1)]
   simp only [hik, false_and, if_false]
   exact key c hcn
 ·
  have hl : ∀ i c, i < len → c < n → ∀ x, P i c x → x < w.heap.size := fun i c hi hc x hx => by
   obtain ⟨C, _, hcc⟩ := h1 i hi
   exact hw x ((hcc c hc).2.2 x hx).1
  dsimp only at hx ⊢
  by_cases e1 : i = k ∧ c = c0 <;> by_cases e2 : i' = k ∧ c' = c0
  ·
   exact absurd ⟨e1.1.trans e2.1.symm, e1.2.trans e2.2.symm⟩ hne
  ·
   rw [if_pos e1] at hx; rw [if_neg e2]
   intro hx2; have := (hQ1 x hx).1; have := hl i' c' hi' hc' x hx2; omega
  ·
   rw [if_neg e1] at hx; rw [if_pos e2]
   intro hx2; have := (hQ1 x hx2).1; have := hl i c hi hc x hx; omega
  ·
   rw [if_neg e1] at hx; rw [if_neg e2]
   exact h2 i c i' c' hi hc hi' hc' hne x hx
theorem ids_setF (f : Nat → Nat → D) (len k c : Nat) (v : D) (hc : c ≠ 0) : idsOf (setF f k c v) len = idsOf f len := by
 unfold idsOf
 refine List.map_congr_left fun i _ => ?_
 rw [setF_ne (fun e => hc e.2.symm)]
theorem setF_has {r k c : Nat} {f : Nat → Nat → D} {len : Nat} {v : D} {lf : Leaf} (HR : ∀ i, i < len → HasRow r (f i)) (hc : (rowsOf r).getD c Leaf.int = lf) (hv : Has v lf) : ∀ i, i < len → HasRow r (setF f k c v i) := fun i hi j hj => by
 by_cases e : i = k ∧ j = c
 ·
  obtain ⟨rfl, rfl⟩ := e
  rw [setF_at, hc]
  exact hv
 ·
  rw [setF_ne e]
  exact HR i hi j hj
/-- One leaf of a row is written. -/
theorem GRow.setg {w : World} {S Q : Nat → Prop} {base : Nat} {T : TypeId} {n : Nat} {f : Nat → Nat → D} {len : Nat} {a : Option Addr} {cap : Nat} {cs : List Value} (h : GRow w S base T n f len (.slice a len cap) cs) {i0 j0 : Nat} (hi0 : i0 < len) (hj0 : j0 < n) {v : D} {vL : Value} (hv : DIn Q w v vL) (hQS : ∀ g, (Value.slice a len cap).ownBlock = some g → ¬ Q g) (hl : len ≤ maxLen) :
  ∃ g, a = some ⟨g, 0, none⟩ ∧ S g ∧ (∃ u, w.cell? ⟨g, i0 * n + j0, none⟩ = some u) ∧ (∀ o, w.frozen? ⟨g, o, none⟩ = false) ∧ DIn (fun x => S x ∨ Q x) (w.setCell ⟨g, i0 * n + j0, none⟩ vL) (.list n len (setF f i0 j0 v)) (.slice a len cap) := by
 obtain ⟨hr, hub, hs, P, hlv, hd⟩ := h
 rcases hr.2 with ⟨e, e2⟩ | ⟨g, cap', cur, e, hb, hg, hn, hm, hsz, ht⟩
 ·
  omega
 ·
  injection e with e1 _ e3
  subst e1 e3
  have hgS : S g := hub g rfl
  have hglt : g < w.heap.size := lt_of_block hg
  have hcell : ∀ (o : Nat) (c : Value), cs[o]? = some c → w.cell? ⟨g, o, none⟩ = some c := fun o c hc => by
   have := hr.cells (g := g) rfl o c hc
   rw [Go.WideShapes.add_plain] at this
   simpa using this
  have hoff : ∀ i j, i < len → j < n → (i * n + j = i0 * n + j0 ↔ i = i0 ∧ j = j0) := fun i j hi hj => by
   constructor
   ·
    intro h
    have h1 : i = i0 := by
     have e1 : (i * n + j) / n = i := by rw [Nat.mul_comm, Nat.mul_add_div (by omega), Nat.div_eq_of_lt hj]; omega
     have e2 : (i0 * n + j0) / n = i0 := by rw [Nat.mul_comm, Nat.mul_add_div (by omega), Nat.div_eq_of_lt hj0]; omega
     rw [← e1, ← e2, h]
    subst h1
    exact ⟨rfl, by omega⟩
   ·
    rintro ⟨rfl, rfl⟩; rfl
  obtain ⟨c0, hc0, _⟩ := hlv i0 hi0 j0 hj0
  refine ⟨g, rfl, hgS, ⟨c0, hcell _ _ hc0⟩, fun o => by simp [World.frozen?, hg], ⟨_, cap, g, 0, rfl, hl, fun _ => ⟨rfl, .inl hgS, by simpa using hglt⟩, fun i hi j hj => ?_⟩⟩
  have hidx : 0 + i * n + j = i * n + j := by omega
  rw [hidx]
  by_cases hij : i = i0 ∧ j = j0
  ·
   obtain ⟨rfl, rfl⟩ := hij
   refine ⟨vL, ?_, ?_⟩
   ·
    exact World.cell?_setCell_same _ _ _ (hcell _ _ hc0)
   ·
    rw [setF_at]
    exact (hv.setCell (fun hq => hQS g rfl hq) _).mono (fun x hx => .inr hx)
  ·
   obtain ⟨c, h1, h2, h3, h4⟩ := hlv i hi j hj
   refine ⟨c, ?_, ?_⟩
   ·
    rw [World.cell?_setCell_other]
    ·
     exact hcell _ _ h1
    ·
     intro e
     injection e with _ e2 _
     exact hij ((hoff i j hi hj).1 e2.symm)
   ·
    rw [setF_ne hij]
    have := h2.setCell (p := ⟨g, i0 * n + j0, none⟩) (fun hq => (h4 _ hq).2 rfl) vL
    exact this.mono (fun x hx => Or.inl (h4 x hx).1)
/-- A leaf of a row: its list lies in no block that is the row's own. -/
theorem GRow.leafZ {w : World} {S : Nat → Prop} {base : Nat} {T : TypeId} {n : Nat} {f : Nat → Nat → D} {len : Nat} {u : Value} {cs : List Value} (h : GRow w S base T n f len u cs) {i j : Nat} (hi : i < len) (hj : j < n) {b off l c : Nat} {v : Value} (hu : u = .slice (some ⟨b, off, none⟩) l c) (hv : w.cell? ⟨b, off + i * n + j, none⟩ = some v) : DIn (fun x => S x ∧ u.ownBlock ≠ some x) w (f i j) v := by
 obtain ⟨hr, hub, hs, P, hlv, hd⟩ := h
 obtain ⟨c0, h1, h2, h3, h4⟩ := hlv i hi j hj
 rcases hr.2 with ⟨e, e2⟩ | ⟨g, cap', cur, e, hb, hg, hn, hm, hsz, ht⟩
 ·
  omega
 ·
  subst e
  injection hu with e1 _ _
  injection e1 with e1
  injection e1 with e3 e4 _
  subst e3 e4
  have := hr.cells (g := g) rfl _ c0 h1
  rw [Go.WideShapes.add_plain] at this
  rw [show 0 + i * n + j = 0 + (i * n + j) by omega, this] at hv
  cases hv
  exact h2.mono h4
end Go.Proofs.YteijgejpenlgjaaGreat

/- What the closures of the net's method setProp answer. -/
namespace Go.Proofs.YteijgejpenlgjaaGreat
open Go.RowKit Go.Deep
open Go.ChangeMaps (setBlock)

set_option maxRecDepth 100000 in
set_option maxHeartbeats 4000000 in
theorem setPropN_any (S S3 : Nat → Prop) (d d3 : D) (H : Has d (.list 3)) (H3 : Has d3 (.list 2)) (ix : Int) (pa : Option Addr) (pl pc : Nat) (a : Option Addr) (c : Nat) (s : ByteArray) (k n : Int) (t : ByteArray) (a3 : Option Addr) (l3 p3 : Nat) (B6 B7 : Nat) (w : World) (hv : DIn S w d (.slice a d.len! c)) (hc : d.len! ≤ c) (hd : propsB d = true) (zs : s.size ≤ maxLen) (zk : (Lit.int .i64 k).wf = true) (zn : (Lit.int .i64 n).wf = true) (zt : t.size ≤ maxLen) (h3 : DIn S3 w d3 (.slice a3 l3 p3)) (h6 : w.cell? ⟨B6, 0, none⟩ = some (.string s)) (h70 : w.cell? ⟨B7, 0, none⟩ = some (.int .i64 k)) (h71 : w.cell? ⟨B7, 1, none⟩ = some (.int .i64 n)) (h72 : w.cell? ⟨B7, 2, none⟩ = some (.string t)) (h73 : w.cell? ⟨B7, 3, none⟩ = some (.slice a3 l3 p3)) (l6 : B6 < w.heap.size) (l7 : B7 < w.heap.size) :
  Calls Tryz.prog 58 #[.agg #[.int .i64 ix, .slice pa pl pc, .slice a d.len! c], .pointer (some ⟨B6, 0, none⟩), .pointer (some ⟨B7, 0, none⟩)] w fun e w' => ∃ a' l' c', e = .returned (.tuple #[.agg #[.int .i64 ix, .slice pa pl pc, .slice a' l' c'], .bool (proOk d s k n t d3)]) ∧ (proOk d s k n t d3 = true → DIn (New w.heap.size w'.heap.size) w' (proD d s k n t d3) (.slice a' l' c') ∧ Own w' (proD d s k n t d3) (New w.heap.size w'.heap.size) (.slice a' l' c') ∧ l' ≤ c') ∧ Ext w w' := by
 have hwl := fun (W : World) (hW : Ext w W) => withProp_any S S3 d d3 H H3 a c s k n t _ W (hv.ext hW) hc hd zs zk zn zt (h3.ext hW)
 generalize proOk d s k n t d3 = ok at *
 generalize proD d s k n t d3 = dN at *
 generalize d.len! = m at *
 obtain ⟨Wb, hWb⟩ : ∃ Wb, Wb = (w.alloc (.cells #[.int .i64 ix, .slice pa pl pc, .slice a m c] 81)).alloc (.cells #[.int .i64 0, .slice none 0 0, .slice none 0 0] 81) := ⟨_, rfl⟩
 obtain ⟨gb, hgb⟩ : ∃ m, m = w.heap.size := ⟨_, rfl⟩
 have hEw : Ext w Wb := by rw [hWb]; exact ((Ext.refl _).alloc _).alloc _
 have hzb : Wb.heap.size = gb + 2 := by rw [hWb, hgb]; simp
 have hb0 : Wb.heap[gb]? = some (.cells #[.int .i64 ix, .slice pa pl pc, .slice a m c] 81 (0, 0)) := by
  rw [hWb, Below.block ((Ext.refl _).alloc _) _ (by rw [hgb]; simp), hgb]
  exact heap_alloc_new w _
 have hb1 : Wb.heap[gb + 1]? = some (.cells #[.int .i64 0, .slice none 0 0, .slice none 0 0] 81 (0, 0)) := by
  have := heap_alloc_new (w.alloc (.cells #[.int .i64 ix, .slice pa pl pc, .slice a m c] 81)) (.cells #[.int .i64 0, .slice none 0 0, .slice none 0 0] 81)
  rw [World.size_alloc] at this
  rw [hWb, hgb]
  exact this
 have hgb1 := Nat.le_of_eq hgb
 have hgb2 := Nat.le_of_eq hgb.symm
 have hz1 := Nat.le_of_eq hzb
 have hz2 := Nat.le_of_eq hzb.symm
 clear hzb
 have p0 : Wb.cell? ⟨gb, 0, none⟩ = some (.int .i64 ix) := by simp [World.cell?, hb0]
 have p1 : Wb.cell? ⟨gb, 1, none⟩ = some (.slice pa pl pc) := by simp [World.cell?, hb0]
 have p2 : Wb.cell? ⟨gb, 2, none⟩ = some (.slice a m c) := by simp [World.cell?, hb0]
 rw [← hEw.cell (p := ⟨B6, 0, none⟩) l6] at h6
 rw [← hEw.cell (p := ⟨B7, 0, none⟩) l7] at h70
 rw [← hEw.cell (p := ⟨B7, 1, none⟩) l7] at h71
 rw [← hEw.cell (p := ⟨B7, 2, none⟩) l7] at h72
 rw [← hEw.cell (p := ⟨B7, 3, none⟩) l7] at h73
 go_enter Tryz.func58, Tryz.ntmps58
 go_upto_region 1 with fail
 rw [← hWb, ← hgb]
 clear hWb hgb
 go_wp2_with fail
 refine (hwl Wb hEw).mono ?_
 rintro e w1 ⟨la, ll, lc, rfl, hDO, hE1⟩
 clear p0 p1 p2 h6 h70 h71 h72 h73 hwl
 have hzz := hE1.le
 have hb0' := (Below.block hE1 gb (by omega)).trans hb0
 have hb1' := (Below.block hE1 (gb + 1) (by omega)).trans hb1
 have p0 : w1.cell? ⟨gb, 0, none⟩ = some (.int .i64 ix) := by simp [World.cell?, hb0']
 have p1 : w1.cell? ⟨gb, 1, none⟩ = some (.slice pa pl pc) := by simp [World.cell?, hb0']
 have p2 : w1.cell? ⟨gb, 2, none⟩ = some (.slice a m c) := by simp [World.cell?, hb0']
 have pf : w1.frozen? ⟨gb, 2, none⟩ = false := by simp [World.frozen?, hb0']
 have t0 : w1.cell? ⟨gb + 1, 0, none⟩ = some (.int .i64 0) := by simp [World.cell?, hb1']
 have t1 : w1.cell? ⟨gb + 1, 1, none⟩ = some (.slice none 0 0) := by simp [World.cell?, hb1']
 have t2 : w1.cell? ⟨gb + 1, 2, none⟩ = some (.slice none 0 0) := by simp [World.cell?, hb1']
 have tf0 : w1.frozen? ⟨gb + 1, 0, none⟩ = false := by simp [World.frozen?, hb1']
 have tf1 : w1.frozen? ⟨gb + 1, 1, none⟩ = false := by simp [World.frozen?, hb1']
 have tf2 : w1.frozen? ⟨gb + 1, 2, none⟩ = false := by simp [World.frozen?, hb1']
 have hX : ∀ v0 v1 v2 v3 : Value, Hid (Chg (fun x => x = gb ∨ x = gb + 1) w1 ((((w1.setCell ⟨gb, 2, none⟩ v0).setCell ⟨gb + 1, 0, none⟩ v1).setCell ⟨gb + 1, 1, none⟩ v2).setCell ⟨gb + 1, 2, none⟩ v3)) := fun v0 v1 v2 v3 =>
  (((((Chg.refl (fun x => x = gb ∨ x = gb + 1) w1).setCell (p := ⟨gb, 2, none⟩) (.inl rfl) v0).setCell (p := ⟨gb + 1, 0, none⟩) (.inr rfl) v1).setCell (p := ⟨gb + 1, 1, none⟩) (.inr rfl) v2).setCell (p := ⟨gb + 1, 2, none⟩) (.inr rfl) v3)
 have hE01 := (show Hid _ from hEw.trans hE1)
 have hDO' := (show Hid _ from hDO)
 clear hDO hv hEw hE1 hb0 hb1 hb0' hb1'
 go_wp2
 refine bodyPost_ret (v := .tuple #[.agg #[.int .i64 ix, .slice pa pl pc, .slice la ll lc], .bool ok]) (by simp [results, Tryz.results58, go_sem, t0, t1, t2]) rfl ⟨_, _, _, rfl, fun h => ?_, ?_⟩
 ·
  have hC := (hX (.slice la ll lc) (.int .i64 ix) (.slice pa pl pc) (.slice la ll lc)).out
  obtain ⟨D1, D2, D3⟩ := hDO'.out h
  have hm : ∀ x, New Wb.heap.size w1.heap.size x → New w.heap.size w1.heap.size x := fun x hx => ⟨by have := hx.1; omega, hx.2⟩
  have hcar : ∀ b, New Wb.heap.size w1.heap.size b → b < w1.heap.size → _ := fun b hb hl => hC.block b hl (by have := hb.1; omega)
  have E1 := (D1.carry hC.size hcar).mono hm
  have E2 := (D2.carry hC.size hcar).mono hm
  simp only [World.size_setCell]
  exact ⟨E1, E2, D3⟩
 ·
  exact (hX _ _ _ _).out.toExt hE01.out (fun x hx => by omega)
set_option maxRecDepth 100000 in
set_option maxHeartbeats 4000000 in
theorem setPropE_any (S S3 : Nat → Prop) (d d3 : D) (H : Has d (.list 3)) (H3 : Has d3 (.list 2)) (ix : Int) (ek : ByteArray) (y2 y3 : Int) (a : Option Addr) (c : Nat) (s : ByteArray) (k n : Int) (t : ByteArray) (a3 : Option Addr) (l3 p3 : Nat) (B6 B7 : Nat) (w : World) (hv : DIn S w d (.slice a d.len! c)) (hc : d.len! ≤ c) (hd : propsB d = true) (zs : s.size ≤ maxLen) (zk : (Lit.int .i64 k).wf = true) (zn : (Lit.int .i64 n).wf = true) (zt : t.size ≤ maxLen) (h3 : DIn S3 w d3 (.slice a3 l3 p3)) (h6 : w.cell? ⟨B6, 0, none⟩ = some (.string s)) (h70 : w.cell? ⟨B7, 0, none⟩ = some (.int .i64 k)) (h71 : w.cell? ⟨B7, 1, none⟩ = some (.int .i64 n)) (h72 : w.cell? ⟨B7, 2, none⟩ = some (.string t)) (h73 : w.cell? ⟨B7, 3, none⟩ = some (.slice a3 l3 p3)) (l6 : B6 < w.heap.size) (l7 : B7 < w.heap.size) :
  Calls Tryz.prog 61 #[.agg #[.int .i64 ix, .string ek, .int .i64 y2, .int .i64 y3, .slice a d.len! c], .pointer (some ⟨B6, 0, none⟩), .pointer (some ⟨B7, 0, none⟩)] w fun e w' => ∃ a' l' c', e = .returned (.tuple #[.agg #[.int .i64 ix, .string ek, .int .i64 y2, .int .i64 y3, .slice a' l' c'], .bool (proOk d s k n t d3)]) ∧ (proOk d s k n t d3 = true → DIn (New w.heap.size w'.heap.size) w' (proD d s k n t d3) (.slice a' l' c') ∧ Own w' (proD d s k n t d3) (New w.heap.size w'.heap.size) (.slice a' l' c') ∧ l' ≤ c') ∧ Ext w w' := by
 have hwl := fun (W : World) (hW : Ext w W) => withProp_any S S3 d d3 H H3 a c s k n t _ W (hv.ext hW) hc hd zs zk zn zt (h3.ext hW)
 generalize proOk d s k n t d3 = ok at *
 generalize proD d s k n t d3 = dN at *
 generalize d.len! = m at *
 obtain ⟨Wb, hWb⟩ : ∃ Wb, Wb = (w.alloc (.cells #[.int .i64 ix, .string ek, .int .i64 y2, .int .i64 y3, .slice a m c] 86)).alloc (.cells #[.int .i64 0, .string ⟨#[]⟩, .int .i64 0, .int .i64 0, .slice none 0 0] 86) := ⟨_, rfl⟩
 obtain ⟨gb, hgb⟩ : ∃ m, m = w.heap.size := ⟨_, rfl⟩
 have hEw : Ext w Wb := by rw [hWb]; exact ((Ext.refl _).alloc _).alloc _
 have hzb : Wb.heap.size = gb + 2 := by rw [hWb, hgb]; simp
 have hb0 : Wb.heap[gb]? = some (.cells #[.int .i64 ix, .string ek, .int .i64 y2, .int .i64 y3, .slice a m c] 86 (0, 0)) := by
  rw [hWb, Below.block ((Ext.refl _).alloc _) _ (by rw [hgb]; simp), hgb]
  exact heap_alloc_new w _
 have hb1 : Wb.heap[gb + 1]? = some (.cells #[.int .i64 0, .string ⟨#[]⟩, .int .i64 0, .int .i64 0, .slice none 0 0] 86 (0, 0)) := by
  have := heap_alloc_new (w.alloc (.cells #[.int .i64 ix, .string ek, .int .i64 y2, .int .i64 y3, .slice a m c] 86)) (.cells #[.int .i64 0, .string ⟨#[]⟩, .int .i64 0, .int .i64 0, .slice none 0 0] 86)
  rw [World.size_alloc] at this
  rw [hWb, hgb]
  exact this
 have hgb1 := Nat.le_of_eq hgb
 have hgb2 := Nat.le_of_eq hgb.symm
 have hz1 := Nat.le_of_eq hzb
 have hz2 := Nat.le_of_eq hzb.symm
 clear hzb
 have p0 : Wb.cell? ⟨gb, 0, none⟩ = some (.int .i64 ix) := by simp [World.cell?, hb0]
 have p1 : Wb.cell? ⟨gb, 1, none⟩ = some (.string ek) := by simp [World.cell?, hb0]
 have p2 : Wb.cell? ⟨gb, 2, none⟩ = some (.int .i64 y2) := by simp [World.cell?, hb0]
 have p3 : Wb.cell? ⟨gb, 3, none⟩ = some (.int .i64 y3) := by simp [World.cell?, hb0]
 have p4 : Wb.cell? ⟨gb, 4, none⟩ = some (.slice a m c) := by simp [World.cell?, hb0]
 rw [← hEw.cell (p := ⟨B6, 0, none⟩) l6] at h6
 rw [← hEw.cell (p := ⟨B7, 0, none⟩) l7] at h70
 rw [← hEw.cell (p := ⟨B7, 1, none⟩) l7] at h71
 rw [← hEw.cell (p := ⟨B7, 2, none⟩) l7] at h72
 rw [← hEw.cell (p := ⟨B7, 3, none⟩) l7] at h73
 go_enter Tryz.func61, Tryz.ntmps61
 go_upto_region 1 with fail
 rw [← hWb, ← hgb]
 clear hWb hgb
 go_wp2_with fail
 refine (hwl Wb hEw).mono ?_
 rintro e w1 ⟨la, ll, lc, rfl, hDO, hE1⟩
 clear p0 p1 p2 p3 p4 h6 h70 h71 h72 h73 hwl
 have hzz := hE1.le
 have hb0' := (Below.block hE1 gb (by omega)).trans hb0
 have hb1' := (Below.block hE1 (gb + 1) (by omega)).trans hb1
 have p0 : w1.cell? ⟨gb, 0, none⟩ = some (.int .i64 ix) := by simp [World.cell?, hb0']
 have p1 : w1.cell? ⟨gb, 1, none⟩ = some (.string ek) := by simp [World.cell?, hb0']
 have p2 : w1.cell? ⟨gb, 2, none⟩ = some (.int .i64 y2) := by simp [World.cell?, hb0']
 have p3 : w1.cell? ⟨gb, 3, none⟩ = some (.int .i64 y3) := by simp [World.cell?, hb0']
 have p4 : w1.cell? ⟨gb, 4, none⟩ = some (.slice a m c) := by simp [World.cell?, hb0']
 have pf : w1.frozen? ⟨gb, 4, none⟩ = false := by simp [World.frozen?, hb0']
 have t0 : w1.cell? ⟨gb + 1, 0, none⟩ = some (.int .i64 0) := by simp [World.cell?, hb1']
 have t1 : w1.cell? ⟨gb + 1, 1, none⟩ = some (.string ⟨#[]⟩) := by simp [World.cell?, hb1']
 have t2 : w1.cell? ⟨gb + 1, 2, none⟩ = some (.int .i64 0) := by simp [World.cell?, hb1']
 have t3 : w1.cell? ⟨gb + 1, 3, none⟩ = some (.int .i64 0) := by simp [World.cell?, hb1']
 have t4 : w1.cell? ⟨gb + 1, 4, none⟩ = some (.slice none 0 0) := by simp [World.cell?, hb1']
 have tf0 : w1.frozen? ⟨gb + 1, 0, none⟩ = false := by simp [World.frozen?, hb1']
 have tf1 : w1.frozen? ⟨gb + 1, 1, none⟩ = false := by simp [World.frozen?, hb1']
 have tf2 : w1.frozen? ⟨gb + 1, 2, none⟩ = false := by simp [World.frozen?, hb1']
 have tf3 : w1.frozen? ⟨gb + 1, 3, none⟩ = false := by simp [World.frozen?, hb1']
 have tf4 : w1.frozen? ⟨gb + 1, 4, none⟩ = false := by simp [World.frozen?, hb1']
 have hX : ∀ v0 v1 v2 v3 v4 v5 : Value, Hid (Chg (fun x => x = gb ∨ x = gb + 1) w1 ((((((w1.setCell ⟨gb, 4, none⟩ v0).setCell ⟨gb + 1, 0, none⟩ v1).setCell ⟨gb + 1, 1, none⟩ v2).setCell ⟨gb + 1, 2, none⟩ v3).setCell ⟨gb + 1, 3, none⟩ v4).setCell ⟨gb + 1, 4, none⟩ v5)) := fun v0 v1 v2 v3 v4 v5 =>
  (((((((Chg.refl (fun x => x = gb ∨ x = gb + 1) w1).setCell (p := ⟨gb, 4, none⟩) (.inl rfl) v0).setCell (p := ⟨gb + 1, 0, none⟩) (.inr rfl) v1).setCell (p := ⟨gb + 1, 1, none⟩) (.inr rfl) v2).setCell (p := ⟨gb + 1, 2, none⟩) (.inr rfl) v3).setCell (p := ⟨gb + 1, 3, none⟩) (.inr rfl) v4).setCell (p := ⟨gb + 1, 4, none⟩) (.inr rfl) v5)
 have hE01 := (show Hid _ from hEw.trans hE1)
 have hDO' := (show Hid _ from hDO)
 clear hDO hv hEw hE1 hb0 hb1 hb0' hb1'
 go_wp2
 refine bodyPost_ret (v := .tuple #[.agg #[.int .i64 ix, .string ek, .int .i64 y2, .int .i64 y3, .slice la ll lc], .bool ok]) (by simp [results, Tryz.results61, go_sem, t0, t1, t2, t3, t4]) rfl ⟨_, _, _, rfl, fun h => ?_, ?_⟩
 ·
  have hC := (hX (.slice la ll lc) (.int .i64 ix) (.string ek) (.int .i64 y2) (.int .i64 y3) (.slice la ll lc)).out
  obtain ⟨D1, D2, D3⟩ := hDO'.out h
  have hm : ∀ x, New Wb.heap.size w1.heap.size x → New w.heap.size w1.heap.size x := fun x hx => ⟨by have := hx.1; omega, hx.2⟩
  have hcar : ∀ b, New Wb.heap.size w1.heap.size b → b < w1.heap.size → _ := fun b hb hl => hC.block b hl (by have := hb.1; omega)
  have E1 := (D1.carry hC.size hcar).mono hm
  have E2 := (D2.carry hC.size hcar).mono hm
  simp only [World.size_setCell]
  exact ⟨E1, E2, D3⟩
 ·
  exact (hX _ _ _ _ _ _).out.toExt hE01.out (fun x hx => by omega)
end Go.Proofs.YteijgejpenlgjaaGreat

/- What the tables' method change does with the props of a node, and of an edge. -/
namespace Go.Proofs.YteijgejpenlgjaaGreat
open Go.RowKit Go.Deep
open Go.ChangeMaps (setBlock)

/-- What change leaves of a net. -/
inductive PrPost (w : World) (base : Nat) (N : NetD) (j : MI) (id : Int) (row : Option Addr → Nat → Nat → Value) (dN : D) : Bool → Ending → World → Prop
 | no (w' : World) (e : Ext w w') : PrPost w base N j id row dN false (.returned (.bool false)) w'
 | yes (la : Option Addr) (ll lc : Nat) (w' : World) (hN : NetIn w' base 100 (N.put j id (row la ll lc))) (st : NStep w N w' (N.put j id (row la ll lc)))
   (hD : DIn (New w.heap.size w'.heap.size) w' dN (.slice la ll lc)) (hO : Own w' dN (New w.heap.size w'.heap.size) (.slice la ll lc)) : PrPost w base N j id row dN true (.returned (.bool true)) w'
def rowN (ix : Int) (pa : Option Addr) (pl pc : Nat) (a : Option Addr) (l c : Nat) : Value := .agg #[.int .i64 ix, .slice pa pl pc, .slice a l c]
set_option maxRecDepth 100000 in
set_option maxHeartbeats 4000000 in
theorem changeN_no (w : World) (base : Nat) (N : NetD) (id : Int) (B6 B7 : Nat) (h : NetIn w base 100 N) (zid : (Lit.int .i64 id).wf = true) (hin : id ∉ N.keys .n) :
  Calls Tryz.prog 57 #[.pointer (some ⟨N.nb, 0, none⟩), .int .i64 id, .func (.func 58) #[] #[.pointer (some ⟨B6, 0, none⟩), .pointer (some ⟨B7, 0, none⟩)]] w fun e w' => e = .returned (.bool false) ∧ Ext w w' := by
 have hlook := (h.maps .n).look Tryz.underlying97 (zeroNode w) zid true
 simp only [if_true, if_neg hin, decide_eq_false hin] at hlook
 have c1 := h.c1
 clear h hin
 go_enter Tryz.func57, Tryz.ntmps57
 go_wp2
 go_ret
 exact ⟨rfl, (Ext.refl _).alloc _⟩
set_option maxRecDepth 100000 in
set_option maxHeartbeats 8000000 in
theorem changeN_yes (S S3 : Nat → Prop) (w : World) (base : Nat) (N : NetD) (id : Int) (d d3 : D) (H : Has d (.list 3)) (H3 : Has d3 (.list 2)) (ix : Int) (pa : Option Addr) (pl pc : Nat) (a : Option Addr) (c : Nat) (s : ByteArray) (k n : Int) (t : ByteArray) (a3 : Option Addr) (l3 p3 : Nat) (B6 B7 : Nat) (h : NetIn w base 100 N) (zid : (Lit.int .i64 id).wf = true) (hin : id ∈ N.keys .n) (hval : N.val .n id = rowN ix pa pl pc a d.len! c) (hv : DIn S w d (.slice a d.len! c)) (hc : d.len! ≤ c) (hd : propsB d = true) (zs : s.size ≤ maxLen) (zk : (Lit.int .i64 k).wf = true) (zn : (Lit.int .i64 n).wf = true) (zt : t.size ≤ maxLen) (h3 : DIn S3 w d3 (.slice a3 l3 p3)) (hp : pl ≤ pc) (h6 : w.cell? ⟨B6, 0, none⟩ = some (.string s)) (h70 : w.cell? ⟨B7, 0, none⟩ = some (.int .i64 k)) (h71 : w.cell? ⟨B7, 1, none⟩ = some (.int .i64 n)) (h72 : w.cell? ⟨B7, 2, none⟩ = some (.string t)) (h73 : w.cell? ⟨B7, 3, none⟩ = some (.slice a3 l3 p3)) (l6 : B6 < w.heap.size) (l7 : B7 < w.heap.size) :
  Calls Tryz.prog 57 #[.pointer (some ⟨N.nb, 0, none⟩), .int .i64 id, .func (.func 58) #[] #[.pointer (some ⟨B6, 0, none⟩), .pointer (some ⟨B7, 0, none⟩)]] w (PrPost w base N .n id (rowN ix pa pl pc) (proD d s k n t d3) (proOk d s k n t d3)) := by
 have hlook := (h.maps .n).look Tryz.underlying97 (zeroNode w) zid true
 simp only [if_true, if_pos hin, decide_eq_true hin, hval, rowN] at hlook
 have c1 := h.c1
 have hlab := fun (W : World) (hW : Ext w W) => setPropN_any S S3 d d3 H H3 ix pa pl pc a c s k n t a3 l3 p3 B6 B7 W (hv.ext hW) hc hd zs zk zn zt (h3.ext hW) ((hW.cell (p := ⟨B6, 0, none⟩) l6).trans h6) ((hW.cell (p := ⟨B7, 0, none⟩) l7).trans h70) ((hW.cell (p := ⟨B7, 1, none⟩) l7).trans h71) ((hW.cell (p := ⟨B7, 2, none⟩) l7).trans h72) ((hW.cell (p := ⟨B7, 3, none⟩) l7).trans h73) (Nat.lt_of_lt_of_le l6 hW.le) (Nat.lt_of_lt_of_le l7 hW.le)
 have hlab := (show Hid _ from hlab)
 generalize proOk d s k n t d3 = ok at *
 generalize proD d s k n t d3 = dN at *
 generalize d.len! = m at *
 clear hval hin h6 h70 h71 h72 h73 hv
 go_enter Tryz.func57, Tryz.ntmps57
 go_upto_region 4 with fail
 have hEb : Ext w (w.alloc (.cells #[.int .i64 ix, .slice pa pl pc, .slice a m c] 81)) := (Ext.refl _).alloc _
 have hbb := heap_alloc_new w (.cells #[.int .i64 ix, .slice pa pl pc, .slice a m c] 81)
 have hzb : w.heap.size < (w.alloc (.cells #[.int .i64 ix, .slice pa pl pc, .slice a m c] 81)).heap.size := by simp
 generalize w.alloc (.cells #[.int .i64 ix, .slice pa pl pc, .slice a m c] 81) = Wb at *
 obtain ⟨gb, hgb⟩ : ∃ m, m = w.heap.size := ⟨_, rfl⟩
 rw [← hgb] at hbb ⊢
 have hgb1 := Nat.le_of_eq hgb
 have hgb2 := Nat.le_of_eq hgb.symm
 clear hgb
 have p0 : Wb.cell? ⟨gb, 0, none⟩ = some (.int .i64 ix) := by simp [World.cell?, hbb]
 have p1 : Wb.cell? ⟨gb, 1, none⟩ = some (.slice pa pl pc) := by simp [World.cell?, hbb]
 have p2 : Wb.cell? ⟨gb, 2, none⟩ = some (.slice a m c) := by simp [World.cell?, hbb]
 go_wp2_with fail
 refine (hlab.out Wb hEb).mono ?_
 rintro e w1 ⟨la, ll, lc, rfl, hDO, hE1⟩
 have hz1 := hE1.le
 have hbb1 := (Below.block hE1 gb (by omega)).trans hbb
 clear p0 p1 p2 hlook c1
 have p0 : w1.cell? ⟨gb, 0, none⟩ = some (.int .i64 ix) := by simp [World.cell?, hbb1]
 have p1 : w1.cell? ⟨gb, 1, none⟩ = some (.slice pa pl pc) := by simp [World.cell?, hbb1]
 have p2 : w1.cell? ⟨gb, 2, none⟩ = some (.slice a m c) := by simp [World.cell?, hbb1]
 have pf0 : w1.frozen? ⟨gb, 0, none⟩ = false := by simp [World.frozen?, hbb1]
 have pf1 : w1.frozen? ⟨gb, 1, none⟩ = false := by simp [World.frozen?, hbb1]
 have pf2 : w1.frozen? ⟨gb, 2, none⟩ = false := by simp [World.frozen?, hbb1]
 obtain ⟨W3, hW3⟩ : ∃ W, W = (((w1.setCell ⟨gb, 0, none⟩ (.int .i64 ix)).setCell ⟨gb, 1, none⟩ (.slice pa pl pc)).setCell ⟨gb, 2, none⟩ (.slice la ll lc)) := ⟨_, rfl⟩
 have hb3 : W3.heap[gb]? = some (.cells #[.int .i64 ix, .slice pa pl pc, .slice la ll lc] 81 (0, 0)) := by
  have h0 := heap_set_same w1 gb 0 _ 81 (.int .i64 ix) hbb1
  have h1 := heap_set_same _ gb 1 _ 81 (.slice pa pl pc) h0
  have h2 := heap_set_same _ gb 2 _ 81 (.slice la ll lc) h1
  rw [hW3, h2]
  simp
 have hC3 : Chg (fun x => x = gb) w1 W3 := by rw [hW3]; exact ((((Chg.refl (fun x => x = gb) w1).setCell (p := ⟨gb, 0, none⟩) rfl _).setCell (p := ⟨gb, 1, none⟩) rfl _).setCell (p := ⟨gb, 2, none⟩) rfl _)
 have hs3 : W3.heap.size = w1.heap.size := by rw [hW3]; simp
 have hE3 : Ext w W3 := hC3.toExt (hEb.trans hE1) (fun x hx => by omega)
 have hs3a := Nat.le_of_eq hs3
 have hs3b := Nat.le_of_eq hs3.symm
 clear hs3
 cases ok
 ·
  have hno := (show Hid _ from PrPost.no (base := base) (N := N) (j := .n) (id := id) (row := (rowN ix pa pl pc)) (dN := dN) W3 hE3)
  clear hDO hlab hC3 hE3 hb3
  go_wp2
  rw [← hW3]
  go_ret
  exact hno.out
 ·
  have hD1 := (show Hid _ from hDO rfl)
  clear hDO
  go_upto_region 6 with fail
  rw [← hW3]
  have hN3 := h.ext hE3
  have hNd := hN3.ext (Ext.refl W3).drew
  obtain ⟨ob, hput, hM, hsz4, hoth⟩ := (hNd.maps .n).put Tryz.underlying97 zid (.agg #[.int .i64 ix, .slice pa pl pc, .slice la ll lc])
  replace hput : (Instr.mapUpdate 97 (.map (some (N.mb .n))) (.int .i64 id) (.agg #[.int .i64 ix, .slice pa pl pc, .slice la ll lc])).run Tryz.prog W3.drew = .ok () (setBlock W3.drew (N.mb .n) ob) := hput
  have hmbl : N.mb .n < w.heap.size := (h.maps .n).lt
  have hnbl := h.nb_lt
  have hsW := hE3.le
  have hmn := h.mb_nb .n
  have HK : Hid (∀ W, Chg (fun x => x = N.mb .n) W3 W → W.cell? ⟨N.nb, 1, none⟩ = some (.map (some (N.mb .n))) ∧ W.cell? ⟨gb, 0, none⟩ = some (.int .i64 ix) ∧ W.cell? ⟨gb, 1, none⟩ = some (.slice pa pl pc) ∧ W.cell? ⟨gb, 2, none⟩ = some (.slice la ll lc)) := fun W hW => by
   have hx : ∀ b k, b < W3.heap.size → b ≠ N.mb .n → W.cell? ⟨b, k, none⟩ = W3.cell? ⟨b, k, none⟩ := fun b k h1 h2 => World.cell?_of_block (hW.block b h1 h2)
   refine ⟨by rw [hx N.nb _ (by omega) (Ne.symm hmn)]; exact hN3.c1, by rw [hx gb _ (by omega) (by omega)]; simp [World.cell?, hb3], by rw [hx gb _ (by omega) (by omega)]; simp [World.cell?, hb3], by rw [hx gb _ (by omega) (by omega)]; simp [World.cell?, hb3]⟩
  have hcur : Chg (fun x => x = N.mb .n) W3 W3.drew := Chg.of_ext (Ext.refl _).drew
  have hfin : Hid (PrPost w base N .n id (rowN ix pa pl pc) dN true (.returned (.bool true)) (setBlock W3.drew (N.mb .n) ob)) := by
   obtain ⟨D1, D2, D3⟩ := hD1.out
   have hC4 : Chg (fun x => x = N.mb .n) W3 (setBlock W3.drew (N.mb .n) ob) := hcur.setBlock (B := N.mb .n) rfl ob hoth
   have hCC : Chg (fun x => x = gb ∨ x = N.mb .n) w1 (setBlock W3.drew (N.mb .n) ob) := (hC3.mono (fun x hx => .inl hx)).trans (hC4.mono (fun x hx => .inr hx))
   have hzf := hCC.size
   have hm : ∀ x, New Wb.heap.size w1.heap.size x → New w.heap.size (setBlock W3.drew (N.mb .n) ob).heap.size x := fun x hx => ⟨by have := hx.1; omega, Nat.lt_of_lt_of_le hx.2 hzf⟩
   have hcar : ∀ b, New Wb.heap.size w1.heap.size b → b < w1.heap.size → _ := fun b hb hl => hCC.block b hl (by have := hb.1; omega)
   exact .yes la ll lc _ (hNd.put .n (by simp) hM hoth ⟨_, _, _, _, _, _, _, rfl, hp, D3⟩) ⟨(Chg.of_ext hE3).trans (hC4.mono (fun x hx => .inr (.inl ⟨.n, hx⟩))), fun x hx => .inl (NetR.put hx)⟩ ((D1.carry hCC.size hcar).mono hm) ((D2.carry hCC.size hcar).mono hm)
  clear hlab hC3 hE3 hb3 hD1 hN3 hM h hW3
  refine wp_region_held_drew (S := (fun W => W.cell? ⟨N.nb, 1, none⟩ = some (.map (some (N.mb .n))) ∧ W.cell? ⟨gb, 0, none⟩ = some (.int .i64 ix) ∧ W.cell? ⟨gb, 1, none⟩ = some (.slice pa pl pc) ∧ W.cell? ⟨gb, 2, none⟩ = some (.slice la ll lc))) (by kernel_rfl) (HK.out _ hcur) (fun hHeld => ?_)
  refine tkL 0 ⟨some 28, .move (.tmp 0), 143, _, #[], none⟩ ?_ hHeld ?yyM0 ?rrM0
  case yyM0 => (intro w hSw; (try dsimp only at hSw); go_simp; try with_reducible rfl)
  try simp only [Act.put, putA, putB, putC]
  refine tkL 1 ⟨some 29, .nilCheck (.tmp 28), 0, _, #[⟨0, .data⟩], none⟩ ?_ hHeld ?yyM1 ?rrM1
  case yyM1 => (intro w hSw; (try dsimp only at hSw); go_simp; try with_reducible rfl)
  try simp only [Act.put, putA, putB, putC]
  refine tkL 2 ⟨some 30, .fieldAddr 99 (.tmp 29) 1, 0, _, #[⟨1, .data⟩], none⟩ ?_ hHeld ?yyM2 ?rrM2
  case yyM2 => (intro w hSw; (try dsimp only at hSw); go_simp; try with_reducible rfl)
  try simp only [Act.put, putA, putB, putC]
  refine tkL 3 ⟨some 31, .load 97 (.tmp 30), 97, _, #[⟨2, .data⟩], none⟩ ?_ hHeld ?yyM3 ?rrM3
  case yyM3 => (intro w hSw; (try dsimp only at hSw); go_simp; try with_reducible rfl)
  try simp only [Act.put, putA, putB, putC]
  refine tkL 4 ⟨some 32, .move (.tmp 1), 3, _, #[], none⟩ ?_ hHeld ?yyM4 ?rrM4
  case yyM4 => (intro w hSw; (try dsimp only at hSw); go_simp; try with_reducible rfl)
  try simp only [Act.put, putA, putB, putC]
  refine tkL 5 ⟨some 33, .load 81 (.tmp 7), 81, _, #[], none⟩ ?_ hHeld ?yyM5 ?rrM5
  case yyM5 => (intro w hSw; (try dsimp only at hSw); go_simp; try with_reducible rfl)
  try simp only [Act.put, putA, putB, putC]
  refine wpAnyH_ready (rs := [6]) (by kernel_rfl) (by simp) ?_
  refine AllReadyH.cons (o := ⟨none, .mapUpdate 97 (.tmp 31) (.tmp 32) (.tmp 33), 0, _, #[⟨3, .data⟩, ⟨4, .data⟩, ⟨5, .data⟩, ⟨0, .phase⟩, ⟨1, .phase⟩, ⟨2, .phase⟩, ⟨3, .phase⟩, ⟨4, .phase⟩, ⟨5, .phase⟩], none⟩) rfl (fun K hK => ?_) AllReadyH.nil
  go_simp
  replace hcur := hcur.setBlock (B := N.mb .n) rfl ob hoth
  refine hK.out _ _ (HK.out _ hcur) (fun hHeld => ?_)
  clear hK K
  try simp only [Act.put, putA, putB, putC]
  refine wpAnyH_done (by kernel_rfl) ?_ _
  go_wp2
  go_ret
  exact hfin.out
def rowE (ix : Int) (ek : ByteArray) (y2 y3 : Int) (a : Option Addr) (l c : Nat) : Value := .agg #[.int .i64 ix, .string ek, .int .i64 y2, .int .i64 y3, .slice a l c]
set_option maxRecDepth 100000 in
set_option maxHeartbeats 4000000 in
theorem changeE_no (w : World) (base : Nat) (N : NetD) (id : Int) (B6 B7 : Nat) (h : NetIn w base 100 N) (zid : (Lit.int .i64 id).wf = true) (hin : id ∉ N.keys .e) :
  Calls Tryz.prog 60 #[.pointer (some ⟨N.nb, 3, none⟩), .int .i64 id, .func (.func 61) #[] #[.pointer (some ⟨B6, 0, none⟩), .pointer (some ⟨B7, 0, none⟩)]] w fun e w' => e = .returned (.bool false) ∧ Ext w w' := by
 have hlook := (h.maps .e).look Tryz.underlying101 (zeroEdge w) zid true
 simp only [if_true, if_neg hin, decide_eq_false hin] at hlook
 have c1 := h.c4
 clear h hin
 go_enter Tryz.func60, Tryz.ntmps60
 go_wp2
 go_ret
 exact ⟨rfl, (Ext.refl _).alloc _⟩
set_option maxRecDepth 100000 in
set_option maxHeartbeats 8000000 in
theorem changeE_yes (S S3 : Nat → Prop) (w : World) (base : Nat) (N : NetD) (id : Int) (d d3 : D) (H : Has d (.list 3)) (H3 : Has d3 (.list 2)) (ix : Int) (ek : ByteArray) (y2 y3 : Int) (a : Option Addr) (c : Nat) (s : ByteArray) (k n : Int) (t : ByteArray) (a3 : Option Addr) (l3 p3 : Nat) (B6 B7 : Nat) (h : NetIn w base 100 N) (zid : (Lit.int .i64 id).wf = true) (hin : id ∈ N.keys .e) (hval : N.val .e id = rowE ix ek y2 y3 a d.len! c) (hv : DIn S w d (.slice a d.len! c)) (hc : d.len! ≤ c) (hd : propsB d = true) (zs : s.size ≤ maxLen) (zk : (Lit.int .i64 k).wf = true) (zn : (Lit.int .i64 n).wf = true) (zt : t.size ≤ maxLen) (h3 : DIn S3 w d3 (.slice a3 l3 p3))  (h6 : w.cell? ⟨B6, 0, none⟩ = some (.string s)) (h70 : w.cell? ⟨B7, 0, none⟩ = some (.int .i64 k)) (h71 : w.cell? ⟨B7, 1, none⟩ = some (.int .i64 n)) (h72 : w.cell? ⟨B7, 2, none⟩ = some (.string t)) (h73 : w.cell? ⟨B7, 3, none⟩ = some (.slice a3 l3 p3)) (l6 : B6 < w.heap.size) (l7 : B7 < w.heap.size) :
  Calls Tryz.prog 60 #[.pointer (some ⟨N.nb, 3, none⟩), .int .i64 id, .func (.func 61) #[] #[.pointer (some ⟨B6, 0, none⟩), .pointer (some ⟨B7, 0, none⟩)]] w (PrPost w base N .e id (rowE ix ek y2 y3) (proD d s k n t d3) (proOk d s k n t d3)) := by
 have hlook := (h.maps .e).look Tryz.underlying101 (zeroEdge w) zid true
 simp only [if_true, if_pos hin, decide_eq_true hin, hval, rowE] at hlook
 have c1 := h.c4
 have hlab := fun (W : World) (hW : Ext w W) => setPropE_any S S3 d d3 H H3 ix ek y2 y3 a c s k n t a3 l3 p3 B6 B7 W (hv.ext hW) hc hd zs zk zn zt (h3.ext hW) ((hW.cell (p := ⟨B6, 0, none⟩) l6).trans h6) ((hW.cell (p := ⟨B7, 0, none⟩) l7).trans h70) ((hW.cell (p := ⟨B7, 1, none⟩) l7).trans h71) ((hW.cell (p := ⟨B7, 2, none⟩) l7).trans h72) ((hW.cell (p := ⟨B7, 3, none⟩) l7).trans h73) (Nat.lt_of_lt_of_le l6 hW.le) (Nat.lt_of_lt_of_le l7 hW.le)
 have hlab := (show Hid _ from hlab)
 generalize proOk d s k n t d3 = ok at *
 generalize proD d s k n t d3 = dN at *
 generalize d.len! = m at *
 clear hval hin h6 h70 h71 h72 h73 hv
 go_enter Tryz.func60, Tryz.ntmps60
 go_upto_region 4 with fail
 have hEb : Ext w (w.alloc (.cells #[.int .i64 ix, .string ek, .int .i64 y2, .int .i64 y3, .slice a m c] 86)) := (Ext.refl _).alloc _
 have hbb := heap_alloc_new w (.cells #[.int .i64 ix, .string ek, .int .i64 y2, .int .i64 y3, .slice a m c] 86)
 have hzb : w.heap.size < (w.alloc (.cells #[.int .i64 ix, .string ek, .int .i64 y2, .int .i64 y3, .slice a m c] 86)).heap.size := by simp
 generalize w.alloc (.cells #[.int .i64 ix, .string ek, .int .i64 y2, .int .i64 y3, .slice a m c] 86) = Wb at *
 obtain ⟨gb, hgb⟩ : ∃ m, m = w.heap.size := ⟨_, rfl⟩
 rw [← hgb] at hbb ⊢
 have hgb1 := Nat.le_of_eq hgb
 have hgb2 := Nat.le_of_eq hgb.symm
 clear hgb
 have p0 : Wb.cell? ⟨gb, 0, none⟩ = some (.int .i64 ix) := by simp [World.cell?, hbb]
 have p1 : Wb.cell? ⟨gb, 1, none⟩ = some (.string ek) := by simp [World.cell?, hbb]
 have p2 : Wb.cell? ⟨gb, 2, none⟩ = some (.int .i64 y2) := by simp [World.cell?, hbb]
 have p3 : Wb.cell? ⟨gb, 3, none⟩ = some (.int .i64 y3) := by simp [World.cell?, hbb]
 have p4 : Wb.cell? ⟨gb, 4, none⟩ = some (.slice a m c) := by simp [World.cell?, hbb]
 go_wp2_with fail
 refine (hlab.out Wb hEb).mono ?_
 rintro e w1 ⟨la, ll, lc, rfl, hDO, hE1⟩
 have hz1 := hE1.le
 have hbb1 := (Below.block hE1 gb (by omega)).trans hbb
 clear p0 p1 p2 p3 p4 hlook c1
 have p0 : w1.cell? ⟨gb, 0, none⟩ = some (.int .i64 ix) := by simp [World.cell?, hbb1]
 have p1 : w1.cell? ⟨gb, 1, none⟩ = some (.string ek) := by simp [World.cell?, hbb1]
 have p2 : w1.cell? ⟨gb, 2, none⟩ = some (.int .i64 y2) := by simp [World.cell?, hbb1]
 have p3 : w1.cell? ⟨gb, 3, none⟩ = some (.int .i64 y3) := by simp [World.cell?, hbb1]
 have p4 : w1.cell? ⟨gb, 4, none⟩ = some (.slice a m c) := by simp [World.cell?, hbb1]
 have pf0 : w1.frozen? ⟨gb, 0, none⟩ = false := by simp [World.frozen?, hbb1]
 have pf1 : w1.frozen? ⟨gb, 1, none⟩ = false := by simp [World.frozen?, hbb1]
 have pf2 : w1.frozen? ⟨gb, 2, none⟩ = false := by simp [World.frozen?, hbb1]
 have pf3 : w1.frozen? ⟨gb, 3, none⟩ = false := by simp [World.frozen?, hbb1]
 have pf4 : w1.frozen? ⟨gb, 4, none⟩ = false := by simp [World.frozen?, hbb1]
 obtain ⟨W3, hW3⟩ : ∃ W, W = (((((w1.setCell ⟨gb, 0, none⟩ (.int .i64 ix)).setCell ⟨gb, 1, none⟩ (.string ek)).setCell ⟨gb, 2, none⟩ (.int .i64 y2)).setCell ⟨gb, 3, none⟩ (.int .i64 y3)).setCell ⟨gb, 4, none⟩ (.slice la ll lc)) := ⟨_, rfl⟩
 have hb3 : W3.heap[gb]? = some (.cells #[.int .i64 ix, .string ek, .int .i64 y2, .int .i64 y3, .slice la ll lc] 86 (0, 0)) := by
  have h0 := heap_set_same w1 gb 0 _ 86 (.int .i64 ix) hbb1
  have h1 := heap_set_same _ gb 1 _ 86 (.string ek) h0
  have h2 := heap_set_same _ gb 2 _ 86 (.int .i64 y2) h1
  have h3 := heap_set_same _ gb 3 _ 86 (.int .i64 y3) h2
  have h4 := heap_set_same _ gb 4 _ 86 (.slice la ll lc) h3
  rw [hW3, h4]
  simp
 have hC3 : Chg (fun x => x = gb) w1 W3 := by rw [hW3]; exact ((((((Chg.refl (fun x => x = gb) w1).setCell (p := ⟨gb, 0, none⟩) rfl _).setCell (p := ⟨gb, 1, none⟩) rfl _).setCell (p := ⟨gb, 2, none⟩) rfl _).setCell (p := ⟨gb, 3, none⟩) rfl _).setCell (p := ⟨gb, 4, none⟩) rfl _)
 have hs3 : W3.heap.size = w1.heap.size := by rw [hW3]; simp
 have hE3 : Ext w W3 := hC3.toExt (hEb.trans hE1) (fun x hx => by omega)
 have hs3a := Nat.le_of_eq hs3
 have hs3b := Nat.le_of_eq hs3.symm
 clear hs3
 cases ok
 ·
  have hno := (show Hid _ from PrPost.no (base := base) (N := N) (j := .e) (id := id) (row := (rowE ix ek y2 y3)) (dN := dN) W3 hE3)
  clear hDO hlab hC3 hE3 hb3
  go_wp2
  rw [← hW3]
  go_ret
  exact hno.out
 ·
  have hD1 := (show Hid _ from hDO rfl)
  clear hDO
  go_upto_region 6 with fail
  rw [← hW3]
  have hN3 := h.ext hE3
  have hNd := hN3.ext (Ext.refl W3).drew
  obtain ⟨ob, hput, hM, hsz4, hoth⟩ := (hNd.maps .e).put Tryz.underlying101 zid (.agg #[.int .i64 ix, .string ek, .int .i64 y2, .int .i64 y3, .slice la ll lc])
  replace hput : (Instr.mapUpdate 101 (.map (some (N.mb .e))) (.int .i64 id) (.agg #[.int .i64 ix, .string ek, .int .i64 y2, .int .i64 y3, .slice la ll lc])).run Tryz.prog W3.drew = .ok () (setBlock W3.drew (N.mb .e) ob) := hput
  have hmbl : N.mb .e < w.heap.size := (h.maps .e).lt
  have hnbl := h.nb_lt
  have hsW := hE3.le
  have hmn := h.mb_nb .e
  have HK : Hid (∀ W, Chg (fun x => x = N.mb .e) W3 W → W.cell? ⟨N.nb, 4, none⟩ = some (.map (some (N.mb .e))) ∧ W.cell? ⟨gb, 0, none⟩ = some (.int .i64 ix) ∧ W.cell? ⟨gb, 1, none⟩ = some (.string ek) ∧ W.cell? ⟨gb, 2, none⟩ = some (.int .i64 y2) ∧ W.cell? ⟨gb, 3, none⟩ = some (.int .i64 y3) ∧ W.cell? ⟨gb, 4, none⟩ = some (.slice la ll lc)) := fun W hW => by
   have hx : ∀ b k, b < W3.heap.size → b ≠ N.mb .e → W.cell? ⟨b, k, none⟩ = W3.cell? ⟨b, k, none⟩ := fun b k h1 h2 => World.cell?_of_block (hW.block b h1 h2)
   refine ⟨by rw [hx N.nb _ (by omega) (Ne.symm hmn)]; exact hN3.c4, by rw [hx gb _ (by omega) (by omega)]; simp [World.cell?, hb3], by rw [hx gb _ (by omega) (by omega)]; simp [World.cell?, hb3], by rw [hx gb _ (by omega) (by omega)]; simp [World.cell?, hb3], by rw [hx gb _ (by omega) (by omega)]; simp [World.cell?, hb3], by rw [hx gb _ (by omega) (by omega)]; simp [World.cell?, hb3]⟩
  have hcur : Chg (fun x => x = N.mb .e) W3 W3.drew := Chg.of_ext (Ext.refl _).drew
  have hfin : Hid (PrPost w base N .e id (rowE ix ek y2 y3) dN true (.returned (.bool true)) (setBlock W3.drew (N.mb .e) ob)) := by
   obtain ⟨D1, D2, D3⟩ := hD1.out
   have hC4 : Chg (fun x => x = N.mb .e) W3 (setBlock W3.drew (N.mb .e) ob) := hcur.setBlock (B := N.mb .e) rfl ob hoth
   have hCC : Chg (fun x => x = gb ∨ x = N.mb .e) w1 (setBlock W3.drew (N.mb .e) ob) := (hC3.mono (fun x hx => .inl hx)).trans (hC4.mono (fun x hx => .inr hx))
   have hzf := hCC.size
   have hm : ∀ x, New Wb.heap.size w1.heap.size x → New w.heap.size (setBlock W3.drew (N.mb .e) ob).heap.size x := fun x hx => ⟨by have := hx.1; omega, Nat.lt_of_lt_of_le hx.2 hzf⟩
   have hcar : ∀ b, New Wb.heap.size w1.heap.size b → b < w1.heap.size → _ := fun b hb hl => hCC.block b hl (by have := hb.1; omega)
   exact .yes la ll lc _ (hNd.put .e (by simp) hM hoth ⟨_, _, _, _, _, _, _, rfl, D3⟩) ⟨(Chg.of_ext hE3).trans (hC4.mono (fun x hx => .inr (.inl ⟨.e, hx⟩))), fun x hx => .inl (NetR.put hx)⟩ ((D1.carry hCC.size hcar).mono hm) ((D2.carry hCC.size hcar).mono hm)
  clear hlab hC3 hE3 hb3 hD1 hN3 hM h hW3
  refine wp_region_held_drew (S := (fun W => W.cell? ⟨N.nb, 4, none⟩ = some (.map (some (N.mb .e))) ∧ W.cell? ⟨gb, 0, none⟩ = some (.int .i64 ix) ∧ W.cell? ⟨gb, 1, none⟩ = some (.string ek) ∧ W.cell? ⟨gb, 2, none⟩ = some (.int .i64 y2) ∧ W.cell? ⟨gb, 3, none⟩ = some (.int .i64 y3) ∧ W.cell? ⟨gb, 4, none⟩ = some (.slice la ll lc))) (by kernel_rfl) (HK.out _ hcur) (fun hHeld => ?_)
  refine tkL 0 ⟨some 28, .move (.tmp 0), 148, _, #[], none⟩ ?_ hHeld ?yyM0 ?rrM0
  case yyM0 => (intro w hSw; (try dsimp only at hSw); go_simp; try with_reducible rfl)
  try simp only [Act.put, putA, putB, putC]
  refine tkL 1 ⟨some 29, .nilCheck (.tmp 28), 0, _, #[⟨0, .data⟩], none⟩ ?_ hHeld ?yyM1 ?rrM1
  case yyM1 => (intro w hSw; (try dsimp only at hSw); go_simp; try with_reducible rfl)
  try simp only [Act.put, putA, putB, putC]
  refine tkL 2 ⟨some 30, .fieldAddr 103 (.tmp 29) 1, 0, _, #[⟨1, .data⟩], none⟩ ?_ hHeld ?yyM2 ?rrM2
  case yyM2 => (intro w hSw; (try dsimp only at hSw); go_simp; try with_reducible rfl)
  try simp only [Act.put, putA, putB, putC]
  refine tkL 3 ⟨some 31, .load 101 (.tmp 30), 101, _, #[⟨2, .data⟩], none⟩ ?_ hHeld ?yyM3 ?rrM3
  case yyM3 => (intro w hSw; (try dsimp only at hSw); go_simp; try with_reducible rfl)
  try simp only [Act.put, putA, putB, putC]
  refine tkL 4 ⟨some 32, .move (.tmp 1), 3, _, #[], none⟩ ?_ hHeld ?yyM4 ?rrM4
  case yyM4 => (intro w hSw; (try dsimp only at hSw); go_simp; try with_reducible rfl)
  try simp only [Act.put, putA, putB, putC]
  refine tkL 5 ⟨some 33, .load 86 (.tmp 7), 86, _, #[], none⟩ ?_ hHeld ?yyM5 ?rrM5
  case yyM5 => (intro w hSw; (try dsimp only at hSw); go_simp; try with_reducible rfl)
  try simp only [Act.put, putA, putB, putC]
  refine wpAnyH_ready (rs := [6]) (by kernel_rfl) (by simp) ?_
  refine AllReadyH.cons (o := ⟨none, .mapUpdate 101 (.tmp 31) (.tmp 32) (.tmp 33), 0, _, #[⟨3, .data⟩, ⟨4, .data⟩, ⟨5, .data⟩, ⟨0, .phase⟩, ⟨1, .phase⟩, ⟨2, .phase⟩, ⟨3, .phase⟩, ⟨4, .phase⟩, ⟨5, .phase⟩], none⟩) rfl (fun K hK => ?_) AllReadyH.nil
  go_simp
  replace hcur := hcur.setBlock (B := N.mb .e) rfl ob hoth
  refine hK.out _ _ (HK.out _ hcur) (fun hHeld => ?_)
  clear hK K
  try simp only [Act.put, putA, putB, putC]
  refine wpAnyH_done (by kernel_rfl) ?_ _
  go_wp2
  go_ret
  exact hfin.out
end Go.Proofs.YteijgejpenlgjaaGreat
