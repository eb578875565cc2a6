/- What the net's method setLabel does. -/
import Derived.Test.YtjbppmclhdaaoaaGreatLsX
import Derived.Test.YtjbppmclhdaaoaaGreatNetEnd
import Derived.Test.YtjbppmclhdaaoaaGreatNetOf
import Derived.Test.YtjbppmclhdaaoaaGreatTk
import Derived.Test.YtjbppmclhdaaoaaGreatNetPut
namespace Go.Proofs.YtjbppmclhdaaoaaGreat
open Go.RowKit Go.Deep
open Go.ChangeMaps (setBlock)

/-- A leaf of a row is another one. -/
def setF (f : Nat → Nat → D) (k c : Nat) (v : D) : Nat → Nat → D := fun i j => if i = k ∧ j = c then v else f i j
theorem setF_at (f : Nat → Nat → D) (k c : Nat) (v : D) : setF f k c v k c = v := by simp [setF]
theorem setF_ne {f : Nat → Nat → D} {k c : Nat} {v : D} {i j : Nat} (h : ¬ (i = k ∧ j = c)) : setF f k c v i j = f i j := by simp [setF, h]
theorem RowsS.set {w w' : World} {N N' : NetD} {S S' : Nat → Prop} {j : MI} {n : Nat} {f : Nat → Nat → D} {len k c0 : Nat} {v : D} {vL : Value} (h : RowsS w N S j n f len) (hk : k < len) (hc00 : c0 ≠ 0) (st : NStep w N w' N')
    (hv : ∀ i, i < len → i ≠ k → N'.val j (f i 0).int! = N.val j (f i 0).int!) (hvk : ∀ C : Nat → Value, N.val j (f k 0).int! = .agg ((List.range n).map C).toArray → N'.val j (f k 0).int! = .agg ((List.range n).map fun c => if c = c0 then vL else C c).toArray)
    (Q : Nat → Prop) (hQ : DIn Q w' v vL ∧ Own w' v Q vL) (hQ1 : ∀ x, Q x → w.heap.size ≤ x ∧ ¬ NetR N' x) (hS : ∀ x, S x → S' x) (hQS : ∀ x, Q x → S' x) (hS' : ∀ x, S' x → x < w'.heap.size) : RowsS w' N' S' j n (setF f k c0 v) len := by
  obtain ⟨P, hw, h1, h2⟩ := h
  have h0 : ∀ i, setF f k c0 v i 0 = f i 0 := fun i => setF_ne (fun e => hc00 e.2.symm)
  refine ⟨fun i c => if i = k ∧ c = c0 then Q else P i c, hS', fun i hi => ?_, fun i c i' c' hi hc hi' hc' hne x hx => ?_⟩
  · obtain ⟨C, hv1, hc⟩ := h1 i hi
    have key : ∀ c, c < n → DIn (P i c) w' (f i c) (C c) ∧ Own w' (f i c) (P i c) (C c) ∧ ∀ x, P i c x → S' x ∧ ¬ NetR N' x := fun c hcn => by
      obtain ⟨a1, a2, a3⟩ := hc c hcn
      have kk : ∀ x, P i c x → x < w.heap.size → w'.heap[x]? = w.heap[x]? := fun x hx hl => st.chg.block x hl (a3 x hx).2
      refine ⟨a1.carry st.chg.size kk, a2.carry st.chg.size kk, fun x hx => ⟨hS x (a3 x hx).1, fun hn => ?_⟩⟩
      rcases st.own x hn with h3 | h3
      · exact (a3 x hx).2 h3
      · have := hw x (a3 x hx).1; omega
    rw [h0]
    by_cases hik : i = k
    · subst hik
      refine ⟨_, hvk C hv1, fun c hcn => ?_⟩
      by_cases hcc : c = c0
      · subst hcc
        rw [setF_at]
        simp only [true_and, if_true]
        exact ⟨hQ.1, hQ.2, fun x hx => ⟨hQS x hx, (hQ1 x hx).2⟩⟩
      · rw [setF_ne (fun e => hcc e.2)]
        simp only [hcc, and_false, if_false]
        exact key c hcn
    · refine ⟨C, (hv i hi hik).trans hv1, fun c hcn => ?_⟩
      rw [setF_ne (fun e => hik e.1)]
      simp only [hik, false_and, if_false]
      exact key c hcn
  · have hl : ∀ i c, i < len → c < n → ∀ x, P i c x → x < w.heap.size := fun i c hi hc x hx => by
      obtain ⟨C, _, hcc⟩ := h1 i hi
      exact hw x ((hcc c hc).2.2 x hx).1
    dsimp only at hx ⊢
    by_cases e1 : i = k ∧ c = c0 <;> by_cases e2 : i' = k ∧ c' = c0
    · exact absurd ⟨e1.1.trans e2.1.symm, e1.2.trans e2.2.symm⟩ hne
    · rw [if_pos e1] at hx; rw [if_neg e2]
      intro hx2; have := (hQ1 x hx).1; have := hl i' c' hi' hc' x hx2; omega
    · rw [if_neg e1] at hx; rw [if_pos e2]
      intro hx2; have := (hQ1 x hx2).1; have := hl i c hi hc x hx; omega
    · rw [if_neg e1] at hx; rw [if_neg e2]
      exact h2 i c i' c' hi hc hi' hc' hne x hx

set_option maxRecDepth 100000 in
set_option maxHeartbeats 4000000 in
theorem setLab1_any (S : Nat → Prop) (d : D) (H : Has d (.list 0)) (id : Int) (a : Option Addr) (c : Nat) (pa : Option Addr) (pl pc : Nat) (s : ByteArray) (has : Bool) (B6 B7 : Nat) (w : World) (hv : DIn S w d (.slice a d.len! c)) (hc : d.len! ≤ c) (hd : labelsB d = true) (zs : s.size ≤ maxLen) (h6 : w.cell? ⟨B6, 0, none⟩ = some (.string s)) (h7 : w.cell? ⟨B7, 0, none⟩ = some (.bool has)) (l6 : B6 < w.heap.size) (l7 : B7 < w.heap.size) :
    Calls Tryz.prog 45 #[.agg #[.int .i64 id, .slice a d.len! c, .slice pa pl pc], .pointer (some ⟨B6, 0, none⟩), .pointer (some ⟨B7, 0, none⟩)] w fun e w' => ∃ a' l' c', e = .returned (.tuple #[.agg #[.int .i64 id, .slice a' l' c', .slice pa pl pc], .bool (labOk d s has)]) ∧ (labOk d s has = true → DIn (New w.heap.size w'.heap.size) w' (labD d s has) (.slice a' l' c') ∧ Own w' (labD d s has) (New w.heap.size w'.heap.size) (.slice a' l' c') ∧ l' ≤ c') ∧ Ext w w' := by
  have hwl := fun (W : World) (hW : Ext w W) => withLabel_any S d H a c s has W (hv.ext hW) hc hd zs
  generalize labOk d s has = ok at *
  generalize labD d s has = dN at *
  generalize d.len! = n at *
  obtain ⟨Wb, hWb⟩ : ∃ Wb, Wb = (w.alloc (.cells #[.int .i64 id, .slice a n c, .slice pa pl pc] 45)).alloc (.cells #[.int .i64 0, .slice none 0 0, .slice none 0 0] 45) := ⟨_, rfl⟩
  obtain ⟨gb, hgb⟩ : ∃ m, m = w.heap.size := ⟨_, rfl⟩
  have hEw : Ext w Wb := by rw [hWb]; exact ((Ext.refl _).alloc _).alloc _
  have hzb : Wb.heap.size = gb + 2 := by rw [hWb, hgb]; simp
  have hb0 : Wb.heap[gb]? = some (.cells #[.int .i64 id, .slice a n c, .slice pa pl pc] 45 (0, 0)) := by
    rw [hWb, Below.block ((Ext.refl _).alloc _) _ (by rw [hgb]; simp), hgb]
    exact heap_alloc_new w _
  have hb1 : Wb.heap[gb + 1]? = some (.cells #[.int .i64 0, .slice none 0 0, .slice none 0 0] 45 (0, 0)) := by
    have := heap_alloc_new (w.alloc (.cells #[.int .i64 id, .slice a n c, .slice pa pl pc] 45)) (.cells #[.int .i64 0, .slice none 0 0, .slice none 0 0] 45)
    rw [World.size_alloc] at this
    rw [hWb, hgb]
    exact this
  have hgb1 := Nat.le_of_eq hgb
  have hgb2 := Nat.le_of_eq hgb.symm
  have hz1 := Nat.le_of_eq hzb
  have hz2 := Nat.le_of_eq hzb.symm
  clear hzb
  have p0 : Wb.cell? ⟨gb, 0, none⟩ = some (.int .i64 id) := by simp [World.cell?, hb0]
  have p1 : Wb.cell? ⟨gb, 1, none⟩ = some (.slice a n c) := by simp [World.cell?, hb0]
  have p2 : Wb.cell? ⟨gb, 2, none⟩ = some (.slice pa pl pc) := by simp [World.cell?, hb0]
  rw [← hEw.cell (p := ⟨B6, 0, none⟩) l6] at h6
  rw [← hEw.cell (p := ⟨B7, 0, none⟩) l7] at h7
  go_enter Tryz.func45, Tryz.ntmps45
  go_upto_region 1 with fail
  rw [← hWb, ← hgb]
  clear hWb hgb
  go_wp2_with fail
  refine (hwl Wb hEw).mono ?_
  rintro e w1 ⟨la, ll, lc, rfl, hDO, hE1⟩
  clear p0 p1 p2 h6 h7 hwl
  have hzz := hE1.le
  have hb0' := (Below.block hE1 gb (by omega)).trans hb0
  have hb1' := (Below.block hE1 (gb + 1) (by omega)).trans hb1
  have p0 : w1.cell? ⟨gb, 0, none⟩ = some (.int .i64 id) := by simp [World.cell?, hb0']
  have p1 : w1.cell? ⟨gb, 1, none⟩ = some (.slice a n c) := by simp [World.cell?, hb0']
  have p2 : w1.cell? ⟨gb, 2, none⟩ = some (.slice pa pl pc) := by simp [World.cell?, hb0']
  have pf : w1.frozen? ⟨gb, 1, none⟩ = false := by simp [World.frozen?, hb0']
  have t0 : w1.cell? ⟨gb + 1, 0, none⟩ = some (.int .i64 0) := by simp [World.cell?, hb1']
  have t1 : w1.cell? ⟨gb + 1, 1, none⟩ = some (.slice none 0 0) := by simp [World.cell?, hb1']
  have t2 : w1.cell? ⟨gb + 1, 2, none⟩ = some (.slice none 0 0) := by simp [World.cell?, hb1']
  have tf0 : w1.frozen? ⟨gb + 1, 0, none⟩ = false := by simp [World.frozen?, hb1']
  have tf1 : w1.frozen? ⟨gb + 1, 1, none⟩ = false := by simp [World.frozen?, hb1']
  have tf2 : w1.frozen? ⟨gb + 1, 2, none⟩ = false := by simp [World.frozen?, hb1']
  have hX : ∀ v0 v1 v2 v3 : Value, Hid (Chg (fun x => x = gb ∨ x = gb + 1) w1 ((((w1.setCell ⟨gb, 1, none⟩ v0).setCell ⟨gb + 1, 0, none⟩ v1).setCell ⟨gb + 1, 1, none⟩ v2).setCell ⟨gb + 1, 2, none⟩ v3)) := fun v0 v1 v2 v3 =>
    ((((Chg.refl (fun x => x = gb ∨ x = gb + 1) w1).setCell (p := ⟨gb, 1, none⟩) (.inl rfl) v0).setCell (p := ⟨gb + 1, 0, none⟩) (.inr rfl) v1).setCell (p := ⟨gb + 1, 1, none⟩) (.inr rfl) v2).setCell (p := ⟨gb + 1, 2, none⟩) (.inr rfl) v3
  have hE01 := (show Hid _ from hEw.trans hE1)
  have hDO' := (show Hid _ from hDO)
  clear hDO hv hEw hE1 hb0 hb1 hb0' hb1'
  go_wp2
  refine bodyPost_ret (v := .tuple #[.agg #[.int .i64 id, .slice la ll lc, .slice pa pl pc], .bool ok]) (by simp [results, Tryz.results45, go_sem, t0, t1, t2]) rfl ⟨_, _, _, rfl, fun h => ?_, ?_⟩
  · have hC := (hX (.slice la ll lc) (.int .i64 id) (.slice la ll lc) (.slice pa pl pc)).out
    obtain ⟨D1, D2, D3⟩ := hDO'.out h
    have hm : ∀ x, New Wb.heap.size w1.heap.size x → New w.heap.size w1.heap.size x := fun x hx => ⟨by have := hx.1; omega, hx.2⟩
    have hcar : ∀ b, New Wb.heap.size w1.heap.size b → b < w1.heap.size → _ := fun b hb hl => hC.block b hl (by have := hb.1; omega)
    have E1 := (D1.carry hC.size hcar).mono hm
    have E2 := (D2.carry hC.size hcar).mono hm
    simp only [World.size_setCell]
    exact ⟨E1, E2, D3⟩
  · exact (hX _ _ _ _).out.toExt hE01.out (fun x hx => by omega)
end Go.Proofs.YtjbppmclhdaaoaaGreat

/- What the table's method change does with a node's labels, and the net's setLabel. -/
namespace Go.Proofs.YtjbppmclhdaaoaaGreat
open Go.RowKit Go.Deep
open Go.ChangeMaps (setBlock)

/-- What change leaves of a net. -/
inductive LabPost (w : World) (base : Nat) (N : NetD) (id idc : Int) (pa : Option Addr) (pl pc : Nat) (d : D) (s : ByteArray) (has : Bool) : Ending → World → Prop
  | no (w' : World) (hok : labOk d s has = false) (e : Ext w w') : LabPost w base N id idc pa pl pc d s has (.returned (.bool false)) w'
  | yes (la : Option Addr) (ll lc : Nat) (w' : World) (hok : labOk d s has = true) (hN : NetIn w' base 100 (N.put .n id (.agg #[.int .i64 idc, .slice la ll lc, .slice pa pl pc]))) (st : NStep w N w' (N.put .n id (.agg #[.int .i64 idc, .slice la ll lc, .slice pa pl pc])))
      (hD : DIn (New w.heap.size w'.heap.size) w' (labD d s has) (.slice la ll lc)) (hO : Own w' (labD d s has) (New w.heap.size w'.heap.size) (.slice la ll lc)) : LabPost w base N id idc pa pl pc d s has (.returned (.bool true)) w'
def labFn (B6 B7 : Nat) : Value := .func (.func 45) #[] #[.pointer (some ⟨B6, 0, none⟩), .pointer (some ⟨B7, 0, none⟩)]
set_option maxRecDepth 100000 in
set_option maxHeartbeats 4000000 in
theorem changeLab_no (w : World) (base : Nat) (N : NetD) (id : Int) (B6 B7 : Nat) (h : NetIn w base 100 N) (zid : (Lit.int .i64 id).wf = true) (hin : id ∉ N.keys .n) :
    Calls Tryz.prog 44 #[.pointer (some ⟨N.nb, 0, none⟩), .int .i64 id, .func (.func 45) #[] #[.pointer (some ⟨B6, 0, none⟩), .pointer (some ⟨B7, 0, none⟩)]] w fun e w' => e = .returned (.bool false) ∧ Ext w w' := by
  have hlook := (h.maps .n).look Tryz.underlying76 (zeroNode w) zid true
  simp only [if_true, if_neg hin, decide_eq_false hin] at hlook
  have c1 := h.c1
  clear h hin
  go_enter Tryz.func44, Tryz.ntmps44
  go_wp2
  go_ret
  exact ⟨rfl, (Ext.refl _).alloc _⟩
set_option maxRecDepth 100000 in
set_option maxHeartbeats 8000000 in
theorem changeLab_yes (S : Nat → Prop) (w : World) (base : Nat) (N : NetD) (id idc : Int) (d : D) (H : Has d (.list 0)) (a : Option Addr) (c : Nat) (pa : Option Addr) (pl pc : Nat) (s : ByteArray) (has : Bool) (B6 B7 : Nat) (h : NetIn w base 100 N) (zid : (Lit.int .i64 id).wf = true) (hin : id ∈ N.keys .n) (hval : N.val .n id = .agg #[.int .i64 idc, .slice a d.len! c, .slice pa pl pc]) (hv : DIn S w d (.slice a d.len! c)) (hc : d.len! ≤ c) (hd : labelsB d = true) (zs : s.size ≤ maxLen) (hp : pl ≤ pc) (h6 : w.cell? ⟨B6, 0, none⟩ = some (.string s)) (h7 : w.cell? ⟨B7, 0, none⟩ = some (.bool has)) (l6 : B6 < w.heap.size) (l7 : B7 < w.heap.size) :
    Calls Tryz.prog 44 #[.pointer (some ⟨N.nb, 0, none⟩), .int .i64 id, .func (.func 45) #[] #[.pointer (some ⟨B6, 0, none⟩), .pointer (some ⟨B7, 0, none⟩)]] w (LabPost w base N id idc pa pl pc d s has) := by
  have hlook := (h.maps .n).look Tryz.underlying76 (zeroNode w) zid true
  simp only [if_true, if_pos hin, decide_eq_true hin, hval] at hlook
  have c1 := h.c1
  have hlab := fun (W : World) (hW : Ext w W) => setLab1_any S d H idc a c pa pl pc s has B6 B7 W (hv.ext hW) hc hd zs ((hW.cell (p := ⟨B6, 0, none⟩) l6).trans h6) ((hW.cell (p := ⟨B7, 0, none⟩) l7).trans h7) (Nat.lt_of_lt_of_le l6 hW.le) (Nat.lt_of_lt_of_le l7 hW.le)
  have hlab := (show Hid _ from hlab)
  have hok0 := (show Hid (labOk d s has = labOk d s has) from rfl)
  generalize hokk : labOk d s has = ok at *
  have hokk := (show Hid _ from hokk)
  generalize hdN : labD d s has = dN at *
  have hdN := (show Hid _ from hdN)
  generalize d.len! = n at *
  clear hval hin h6 h7 hv
  go_enter Tryz.func44, Tryz.ntmps44
  go_upto_region 4 with fail
  have hEb : Ext w (w.alloc (.cells #[.int .i64 idc, .slice a n c, .slice pa pl pc] 45)) := (Ext.refl _).alloc _
  have hbb := heap_alloc_new w (.cells #[.int .i64 idc, .slice a n c, .slice pa pl pc] 45)
  have hzb : w.heap.size < (w.alloc (.cells #[.int .i64 idc, .slice a n c, .slice pa pl pc] 45)).heap.size := by simp
  generalize w.alloc (.cells #[.int .i64 idc, .slice a n c, .slice pa pl pc] 45) = Wb at *
  obtain ⟨gb, hgb⟩ : ∃ m, m = w.heap.size := ⟨_, rfl⟩
  rw [← hgb] at hbb ⊢
  have hgb1 := Nat.le_of_eq hgb
  have hgb2 := Nat.le_of_eq hgb.symm
  clear hgb
  have p0 : Wb.cell? ⟨gb, 0, none⟩ = some (.int .i64 idc) := by simp [World.cell?, hbb]
  have p1 : Wb.cell? ⟨gb, 1, none⟩ = some (.slice a n c) := by simp [World.cell?, hbb]
  have p2 : Wb.cell? ⟨gb, 2, none⟩ = some (.slice pa pl pc) := by simp [World.cell?, hbb]
  go_wp2_with fail
  refine (hlab.out Wb hEb).mono ?_
  rintro e w1 ⟨la, ll, lc, rfl, hDO, hE1⟩
  have hz1 := hE1.le
  have hbb1 := (Below.block hE1 gb (by omega)).trans hbb
  clear p0 p1 p2 hlook c1
  have p0 : w1.cell? ⟨gb, 0, none⟩ = some (.int .i64 idc) := by simp [World.cell?, hbb1]
  have p1 : w1.cell? ⟨gb, 1, none⟩ = some (.slice a n c) := by simp [World.cell?, hbb1]
  have p2 : w1.cell? ⟨gb, 2, none⟩ = some (.slice pa pl pc) := by simp [World.cell?, hbb1]
  have pf0 : w1.frozen? ⟨gb, 0, none⟩ = false := by simp [World.frozen?, hbb1]
  have pf1 : w1.frozen? ⟨gb, 1, none⟩ = false := by simp [World.frozen?, hbb1]
  have pf2 : w1.frozen? ⟨gb, 2, none⟩ = false := by simp [World.frozen?, hbb1]
  obtain ⟨W3, hW3⟩ : ∃ W, W = ((w1.setCell ⟨gb, 0, none⟩ (.int .i64 idc)).setCell ⟨gb, 1, none⟩ (.slice la ll lc)).setCell ⟨gb, 2, none⟩ (.slice pa pl pc) := ⟨_, rfl⟩
  have hb3 : W3.heap[gb]? = some (.cells #[.int .i64 idc, .slice la ll lc, .slice pa pl pc] 45 (0, 0)) := by
    have h0 := heap_set_same w1 gb 0 _ 45 (.int .i64 idc) hbb1
    have h1 := heap_set_same _ gb 1 _ 45 (.slice la ll lc) h0
    have h2 := heap_set_same _ gb 2 _ 45 (.slice pa pl pc) h1
    rw [hW3, h2]
    simp
  have hC3 : Chg (fun x => x = gb) w1 W3 := by rw [hW3]; exact (((Chg.refl (fun x => x = gb) w1).setCell (p := ⟨gb, 0, none⟩) rfl _).setCell (p := ⟨gb, 1, none⟩) rfl _).setCell (p := ⟨gb, 2, none⟩) rfl _
  have hs3 : W3.heap.size = w1.heap.size := by rw [hW3]; simp
  have hE3 : Ext w W3 := hC3.toExt (hEb.trans hE1) (fun x hx => by omega)
  have hs3a := Nat.le_of_eq hs3
  have hs3b := Nat.le_of_eq hs3.symm
  clear hs3
  cases ok
  · have hno := (show Hid _ from LabPost.no (base := base) (N := N) (id := id) (idc := idc) (pa := pa) (pl := pl) (pc := pc) W3 hokk.out hE3)
    clear hDO hlab hok0 hC3 hE3 hb3
    go_wp2
    rw [← hW3]
    go_ret
    exact hno.out
  · have hD1 := (show Hid _ from hDO rfl)
    clear hDO
    go_upto_region 6 with fail
    rw [← hW3]
    have hN3 := h.ext hE3
    have hNd := hN3.ext (Ext.refl W3).drew
    obtain ⟨ob, hput, hM, hsz4, hoth⟩ := (hNd.maps .n).put Tryz.underlying76 zid (.agg #[.int .i64 idc, .slice la ll lc, .slice pa pl pc])
    replace hput : (Instr.mapUpdate 76 (.map (some (N.mb .n))) (.int .i64 id) (.agg #[.int .i64 idc, .slice la ll lc, .slice pa pl pc])).run Tryz.prog W3.drew = .ok () (setBlock W3.drew (N.mb .n) ob) := hput
    have hmbl : N.mb .n < w.heap.size := (h.maps .n).lt
    have hnbl := h.nb_lt
    have hsW := hE3.le
    have hmn := h.mb_nb .n
    have HK : Hid (∀ W, Chg (fun x => x = N.mb .n) W3 W → W.cell? ⟨N.nb, 1, none⟩ = some (.map (some (N.mb .n))) ∧ W.cell? ⟨gb, 0, none⟩ = some (.int .i64 idc) ∧ W.cell? ⟨gb, 1, none⟩ = some (.slice la ll lc) ∧ W.cell? ⟨gb, 2, none⟩ = some (.slice pa pl pc)) := fun W hW => by
      have hx : ∀ b k, b < W3.heap.size → b ≠ N.mb .n → W.cell? ⟨b, k, none⟩ = W3.cell? ⟨b, k, none⟩ := fun b k h1 h2 => World.cell?_of_block (hW.block b h1 h2)
      refine ⟨by rw [hx N.nb _ (by omega) (Ne.symm hmn)]; exact hN3.c1, by rw [hx gb _ (by omega) (by omega)]; simp [World.cell?, hb3], by rw [hx gb _ (by omega) (by omega)]; simp [World.cell?, hb3], by rw [hx gb _ (by omega) (by omega)]; simp [World.cell?, hb3]⟩
    have hcur : Chg (fun x => x = N.mb .n) W3 W3.drew := Chg.of_ext (Ext.refl _).drew
    have hfin : Hid (LabPost w base N id idc pa pl pc d s has (.returned (.bool true)) (setBlock W3.drew (N.mb .n) ob)) := by
      obtain ⟨D1, D2, D3⟩ := hD1.out
      have hC4 : Chg (fun x => x = N.mb .n) W3 (setBlock W3.drew (N.mb .n) ob) := hcur.setBlock (B := N.mb .n) rfl ob hoth
      have hCC : Chg (fun x => x = gb ∨ x = N.mb .n) w1 (setBlock W3.drew (N.mb .n) ob) := (hC3.mono (fun x hx => .inl hx)).trans (hC4.mono (fun x hx => .inr hx))
      have hzf := hCC.size
      have hm : ∀ x, New Wb.heap.size w1.heap.size x → New w.heap.size (setBlock W3.drew (N.mb .n) ob).heap.size x := fun x hx => ⟨by have := hx.1; omega, Nat.lt_of_lt_of_le hx.2 hzf⟩
      have hcar : ∀ b, New Wb.heap.size w1.heap.size b → b < w1.heap.size → _ := fun b hb hl => hCC.block b hl (by have := hb.1; omega)
      refine .yes la ll lc _ hokk.out (hNd.put .n (by simp) hM hoth ⟨_, _, _, _, _, _, _, rfl, D3, hp⟩) ⟨(Chg.of_ext hE3).trans (hC4.mono (fun x hx => .inr (.inl ⟨.n, hx⟩))), fun x hx => .inl (NetR.put hx)⟩ ?_ ?_
      · rw [hdN.out]; exact (D1.carry hCC.size hcar).mono hm
      · rw [hdN.out]; exact (D2.carry hCC.size hcar).mono hm
    clear hlab hok0 hC3 hE3 hb3 hD1 hN3 hM h hW3
    refine wp_region_held_drew (S := (fun W => W.cell? ⟨N.nb, 1, none⟩ = some (.map (some (N.mb .n))) ∧ W.cell? ⟨gb, 0, none⟩ = some (.int .i64 idc) ∧ W.cell? ⟨gb, 1, none⟩ = some (.slice la ll lc) ∧ W.cell? ⟨gb, 2, none⟩ = some (.slice pa pl pc))) (by kernel_rfl) (HK.out _ hcur) (fun hHeld => ?_)
    refine tkL 0 ⟨some 28, .move (.tmp 0), 115, _, #[], none⟩ ?_ hHeld ?yyM0 ?rrM0
    case yyM0 => (intro w hSw; (try dsimp only at hSw); go_simp; first | done | with_reducible rfl)
    try simp only [Act.put, putA, putB, putC]
    refine tkL 1 ⟨some 29, .nilCheck (.tmp 28), 0, _, #[⟨0, .data⟩], none⟩ ?_ hHeld ?yyM1 ?rrM1
    case yyM1 => (intro w hSw; (try dsimp only at hSw); go_simp; first | done | with_reducible rfl)
    try simp only [Act.put, putA, putB, putC]
    refine tkL 2 ⟨some 30, .fieldAddr 78 (.tmp 29) 1, 0, _, #[⟨1, .data⟩], none⟩ ?_ hHeld ?yyM2 ?rrM2
    case yyM2 => (intro w hSw; (try dsimp only at hSw); go_simp; first | done | with_reducible rfl)
    try simp only [Act.put, putA, putB, putC]
    refine tkL 3 ⟨some 31, .load 76 (.tmp 30), 76, _, #[⟨2, .data⟩], none⟩ ?_ hHeld ?yyM3 ?rrM3
    case yyM3 => (intro w hSw; (try dsimp only at hSw); go_simp; first | done | with_reducible rfl)
    try simp only [Act.put, putA, putB, putC]
    refine tkL 4 ⟨some 32, .move (.tmp 1), 3, _, #[], none⟩ ?_ hHeld ?yyM4 ?rrM4
    case yyM4 => (intro w hSw; (try dsimp only at hSw); go_simp; first | done | with_reducible rfl)
    try simp only [Act.put, putA, putB, putC]
    refine tkL 5 ⟨some 33, .load 45 (.tmp 7), 45, _, #[], none⟩ ?_ hHeld ?yyM5 ?rrM5
    case yyM5 => (intro w hSw; (try dsimp only at hSw); go_simp; first | done | with_reducible rfl)
    try simp only [Act.put, putA, putB, putC]
    refine wpAnyH_ready (rs := [6]) (by kernel_rfl) (by simp) ?_
    refine AllReadyH.cons (o := ⟨none, .mapUpdate 76 (.tmp 31) (.tmp 32) (.tmp 33), 0, _, #[⟨3, .data⟩, ⟨4, .data⟩, ⟨5, .data⟩, ⟨0, .phase⟩, ⟨1, .phase⟩, ⟨2, .phase⟩, ⟨3, .phase⟩, ⟨4, .phase⟩, ⟨5, .phase⟩], none⟩) rfl (fun K hK => ?_) AllReadyH.nil
    go_simp
    replace hcur := hcur.setBlock (B := N.mb .n) rfl ob hoth
    refine hK.out _ _ (HK.out _ hcur) (fun hHeld => ?_)
    clear hK K
    try simp only [Act.put, putA, putB, putC]
    refine wpAnyH_done (by kernel_rfl) ?_ _
    go_wp2
    go_ret
    exact hfin.out
end Go.Proofs.YtjbppmclhdaaoaaGreat
