/- What the net's method setLabel does, as a step of a net. -/
import Derived.Test.YtjbppmclhdaaoaaGreatLsN
import Derived.Test.YtjbppmclhdaaoaaGreatEdS
namespace Go.Proofs.YtjbppmclhdaaoaaGreat
open Go.RowKit Go.Deep

/-- A node's labels are others. -/
def lsD0 (g b : Bool) (d0 : D) (id : Int) (s : ByteArray) (has : Bool) : D := if g then (if b then (match edK d0 id with | some k => .list 3 d0.len! (setF d0.at! k 1 (labD (d0.at! k 1) s has)) | none => d0) else d0) else noneL 3
def lsD1 (g : Bool) (d1 : D) : D := if g then d1 else noneL 5
def lsB (d0 : D) (id : Int) (s : ByteArray) (has : Bool) : Bool := match edK d0 id with | some k => labOk (d0.at! k 1) s has | none => false
theorem lsD0_none {d0 : D} {id : Int} {s : ByteArray} {has : Bool} : lsD0 true false d0 id s has = d0 := rfl
theorem lsB_some {d0 : D} {id : Int} {s : ByteArray} {has : Bool} {k : Nat} (h : edK d0 id = some k) : lsB d0 id s has = labOk (d0.at! k 1) s has := by unfold lsB; rw [h]
theorem lsB_none {d0 : D} {id : Int} {s : ByteArray} {has : Bool} (h : edK d0 id = none) : lsB d0 id s has = false := by unfold lsB; rw [h]
theorem lsD0_some {d0 : D} {id : Int} {s : ByteArray} {has : Bool} {k : Nat} (h : edK d0 id = some k) : lsD0 true true d0 id s has = .list 3 d0.len! (setF d0.at! k 1 (labD (d0.at! k 1) s has)) := by unfold lsD0; rw [h]; rfl
theorem ids_setF (f : Nat → Nat → D) (len k c : Nat) (v : D) (hc : c ≠ 0) : idsOf (setF f k c v) len = idsOf f len := by
  unfold idsOf
  refine List.map_congr_left fun i _ => ?_
  rw [setF_ne (fun e => hc e.2.symm)]
theorem setF_has {r k c : Nat} {f : Nat → Nat → D} {len : Nat} {v : D} {lf : Leaf} (HR : ∀ i, i < len → HasRow r (f i)) (hc : (rowsOf r).getD c Leaf.int = lf) (hv : Has v lf) : ∀ i, i < len → HasRow r (setF f k c v i) := fun i hi j hj => by
  by_cases e : i = k ∧ j = c
  · obtain ⟨rfl, rfl⟩ := e
    rw [setF_at, hc]
    exact hv
  · rw [setF_ne e]
    exact HR i hi j hj
theorem lsD0_has {g b : Bool} {d0 : D} {id : Int} {s : ByteArray} {has : Bool} (H0 : Has d0 (.list 4)) : Has (lsD0 g b d0 id s has) (.list 4) := by
  unfold lsD0
  cases g
  · exact ⟨4, rfl, rfl, fun i hi => by omega⟩
  · cases b
    · exact H0
    · cases h : edK d0 id with
      | none => exact H0
      | some k =>
        obtain ⟨len, f, rfl, HR⟩ := H0.list
        exact ⟨4, rfl, rfl, fun i hi j hj => setF_has (r := 4) HR (rfl : (rowsOf 4).getD 1 Leaf.int = .list 0) (strsD_has _) i hi j hj⟩
theorem lsD0_len {b : Bool} {d0 : D} {id : Int} {s : ByteArray} {has : Bool} : (lsD0 true b d0 id s has).len! ≤ d0.len! := by
  unfold lsD0
  cases b
  · exact Nat.le_refl _
  · cases h : edK d0 id with
    | none => exact Nat.le_refl _
    | some k => exact Nat.le_refl _
theorem graph_labs {d0 d1 : D} {x2 x3 : Int} (h : graphB d0 d1 x2 x3 = true) : ∀ i, i < d0.len! → labelsB (d0.at! i 1) = true := by
  simp only [graphB, Bool.and_eq_true, List.all_eq_true, List.mem_range] at h
  intro i hi
  have := h.1.1 i hi
  simp only [nodeB, Bool.and_eq_true] at this
  exact this.1.1.2
/-- A node of the rows: its cells. -/
theorem RowsS.node {w : World} {base : Nat} {N : NetD} {S : Nat → Prop} {f : Nat → Nat → D} {len k : Nat} (h : RowsS w N S .n 3 f len) (hN : NetIn w base 100 N) (hin : (f k 0).int! ∈ N.keys .n) (hk : k < len) (HR : HasRow 4 (f k)) :
    ∃ idc a c pa pl pc, ∃ P : Nat → Prop, N.val .n (f k 0).int! = .agg #[.int .i64 idc, .slice a (f k 1).len! c, .slice pa pl pc] ∧ DIn P w (f k 1) (.slice a (f k 1).len! c) ∧ (f k 1).len! ≤ c ∧ pl ≤ pc := by
  obtain ⟨P, h0, h1, h2⟩ := h
  obtain ⟨C, hv, hc⟩ := h1 k hk
  obtain ⟨id, a, l, c, a', l', c', hs, g1, g2⟩ := hN.shp .n _ hin
  have a1 := (hc 1 (by decide)).1
  rw [hv] at hs
  have e : [C 0, C 1, C 2] = [.int .i64 id, .slice a l c, .slice a' l' c'] := by
    injection hs with hs
    have := congrArg Array.toList hs
    exact this
  simp only [List.cons.injEq, and_true] at e
  obtain ⟨e0, e1, e2⟩ := e
  obtain ⟨lenD, fD, hdD, HRD⟩ := (show Has (f k 1) (.list 0) from HR 1 (by decide)).list
  have hl : l = (f k 1).len! := by
    rw [e1, hdD] at a1
    rw [hdD]
    obtain ⟨_, _, ee, _⟩ := a1.list_eq
    injection ee
  subst hl
  refine ⟨id, a, c, a', l', c', P k 1, ?_, by rw [← e1]; exact a1, g1, g2⟩
  rw [hv]
  show Value.agg #[C 0, C 1, C 2] = _
  rw [e0, e1, e2]
set_option maxRecDepth 100000 in
set_option maxHeartbeats 4000000 in
theorem setLabel_any (w : World) (base : Nat) (N : NetD) (S0 S1 : Nat → Prop) (d0 d1 : D) (id : Int) (s : ByteArray) (has : Bool) (h : NetDat w base N S0 S1 d0 d1) (hSS : ∀ x, S0 x → ¬ S1 x) (hS1 : ∀ x, S1 x → x < w.heap.size) (H0 : Has d0 (.list 4)) (hinc : incD d0) (hlab : ∀ i, i < d0.len! → labelsB (d0.at! i 1) = true) (zid : (Lit.int .i64 id).wf = true) (zs : s.size ≤ maxLen) (b : Bool) (hbb : lsB d0 id s has = b) :
    Calls Tryz.prog 22 #[.pointer (some ⟨N.nb, 0, none⟩), .int .i64 id, .string s, .bool has] w (NdPost w base N S0 S1 (lsD0 true b d0 id s has) (lsD1 true d1) b) := by
  have hEb : Ext w ((w.alloc (.cells #[.string s] 9)).alloc (.cells #[.bool has] 4)) := ((Ext.refl _).alloc _).alloc _
  have h6 : ((w.alloc (.cells #[.string s] 9)).alloc (.cells #[.bool has] 4)).cell? ⟨w.heap.size, 0, none⟩ = some (.string s) := box_cell ((Ext.refl _).alloc _) 0 _ rfl
  have h7 : ((w.alloc (.cells #[.string s] 9)).alloc (.cells #[.bool has] 4)).cell? ⟨w.heap.size + 1, 0, none⟩ = some (.bool has) := by
    have := box_cell (w := w.alloc (.cells #[.string s] 9)) (cs := #[.bool has]) (T := 4) (Ext.refl _) 0 _ rfl
    rw [World.size_alloc] at this
    exact this
  have hz : ((w.alloc (.cells #[.string s] 9)).alloc (.cells #[.bool has] 4)).heap.size = w.heap.size + 2 := by simp
  cases hk : edK d0 id with
  | none =>
    have hin : id ∉ N.keys .n := fun hm => by
      obtain ⟨k, hk2⟩ := edK_in ((h.kn _).1 hm)
      rw [hk] at hk2
      cases hk2
    have hbf : b = false := by rw [← hbb, lsB_none hk]
    subst hbf
    have hch := changeLab_no _ base N id w.heap.size (w.heap.size + 1) (h.net.ext hEb) zid hin
    have hfin : Hid (∀ W, Ext w W → NdPost w base N S0 S1 (lsD0 true false d0 id s has) (lsD1 true d1) false (.returned (.bool false)) W) := fun W hW => .mk N W S0 S1 (fun _ hx => .inl hx) (fun _ hx => .inl hx) hSS (h.ext hW) (NStep.ext N hW) ⟨rfl, rfl, rfl⟩
    clear h hin hk hbb h6 h7 hz
    go_enter Tryz.func22, Tryz.ntmps22
    go_wp2_with fail
    refine hch.mono ?_
    rintro e w1 ⟨rfl, hE1⟩
    go_wp2
    go_ret
    exact hfin.out _ (hEb.trans hE1)
  | some k =>
    obtain ⟨hkl, hkid, _⟩ := edK_some hk
    have HRk : HasRow 4 (d0.at! k) := by
      obtain ⟨len0, f0, hd0, HR0⟩ := H0.list
      rw [hd0] at hkl ⊢
      exact HR0 k hkl
    have hin : id ∈ N.keys .n := by rw [h.kn, ← hkid]; exact mem_ids hkl
    obtain ⟨idc, a, c, pa, pl, pc, P, hval, hDv, hcc, hpp⟩ := h.rn.node h.net (by rw [hkid]; exact hin) hkl HRk
    rw [hkid] at hval
    rw [lsB_some hk] at hbb
    have hEb' := (show Hid _ from hEb)
    have hnet := h.net.ext hEb
    have hch := changeLab_yes P _ base N id idc (d0.at! k 1) (HRk 1 (by decide)) a c pa pl pc s has w.heap.size (w.heap.size + 1) hnet zid hin hval (hDv.ext hEb) hcc (hlab k hkl) zs hpp h6 h7 (by rw [hz]; omega) (by rw [hz]; omega)
    have hfin : Hid (∀ e W, LabPost ((w.alloc (.cells #[.string s] 9)).alloc (.cells #[.bool has] 4)) base N id idc pa pl pc (d0.at! k 1) s has e W → NdPost w base N S0 S1 (lsD0 true b d0 id s has) (lsD1 true d1) b e W ∧ e = .returned (.bool b)) := fun e W hp => by
      cases hp with
      | no w' hok hE =>
        rw [hbb] at hok
        subst hok
        exact ⟨.mk N W S0 S1 (fun _ hx => .inl hx) (fun _ hx => .inl hx) hSS (h.ext (hEb.trans hE)) (NStep.ext N (hEb.trans hE)) ⟨rfl, rfl, rfl⟩, rfl⟩
      | yes la ll lc w' hok hN st hD hO =>
        rw [hbb] at hok
        subst hok
        refine ⟨?_, rfl⟩
        have stw : NStep w N W _ := (NStep.ext N hEb).trans st
        have hzW := stw.chg.size
        have hzb := hEb.le
        have hNRl : ∀ x, NetR (N.put .n id (.agg #[.int .i64 idc, .slice la ll lc, .slice pa pl pc])) x → x < w.heap.size := fun x hx => (NetR.lt h.net (NetR.put hx)).2
        refine .mk _ W (fun x => S0 x ∨ New w.heap.size W.heap.size x) S1 (fun x hx => hx.imp (fun h => h) (fun h => h.1)) (fun x hx => .inl hx) (fun x hx hx1 => hx.elim (fun h => hSS x h hx1) (fun h => by have := hS1 x hx1; have := h.1; omega)) ?_ stw ⟨rfl, rfl, rfl⟩
        rw [lsD0_some hk]
        have hS0l : ∀ x, S0 x → x < w.heap.size := by obtain ⟨P, hP⟩ := h.rn; exact hP.1
        have hm : ∀ x, New ((w.alloc (.cells #[.string s] 9)).alloc (.cells #[.bool has] 4)).heap.size W.heap.size x → New w.heap.size W.heap.size x := fun x hx => ⟨Nat.le_trans hzb hx.1, hx.2⟩
        refine ⟨hN, h.ln.trans (ids_setF _ _ _ _ _ (by decide)).symm, h.le, fun x => ?_, h.ke, ?_, h.re.step stw (fun _ _ => rfl)⟩
        · show x ∈ upd N.keys .n (putKeys (N.keys .n) id) .n ↔ x ∈ idsOf (setF d0.at! k 1 _) d0.len!
          rw [upd_same, mem_putKeys, ids_setF _ _ _ _ _ (by decide), h.kn]
          exact ⟨fun hx => hx.elim (fun h => h) (fun e => by rw [e, ← hkid]; exact mem_ids hkl), .inl⟩
        · refine h.rn.set hkl (by decide) stw (fun i hi hik => ?_) (fun C hC => ?_) (New w.heap.size W.heap.size) ⟨hD.mono hm, hO.mono hm⟩ (fun x hx => ⟨hx.1, fun hn => by have := hNRl x hn; have := hx.1; omega⟩) (fun x hx => .inl hx) (fun x hx => .inr hx) (fun x hx => hx.elim (fun h => by have := hS0l x h; omega) (fun h => h.2))
          · show upd N.val .n (putVal (N.val .n) id _) .n _ = _
            rw [upd_same, putVal, if_neg]
            rw [← hkid]
            intro e
            rcases Nat.lt_or_gt_of_ne hik with h1 | h1
            · have := hinc i k h1 hkl; omega
            · have := hinc k i h1 hi; omega
          · show upd N.val .n (putVal (N.val .n) id _) .n _ = _
            rw [upd_same, putVal, if_pos hkid]
            rw [hkid, hval] at hC
            have e : [.int .i64 idc, .slice a (d0.at! k 1).len! c, .slice pa pl pc] = [C 0, C 1, C 2] := by
              injection hC with hC
              exact congrArg Array.toList hC
            simp only [List.cons.injEq, and_true] at e
            obtain ⟨e0, _, e2⟩ := e
            show _ = Value.agg #[C 0, .slice la ll lc, C 2]
            rw [← e0, ← e2]
    clear h hin hk hbb h6 h7 hz hval hDv hnet
    go_enter Tryz.func22, Tryz.ntmps22
    go_wp2_with fail
    refine hch.mono ?_
    intro e w1 hp
    obtain ⟨hp1, rfl⟩ := hfin.out e w1 hp
    have hp1 := (show Hid _ from hp1)
    clear hch hp hfin
    go_wp2
    go_ret
    exact hp1.out
end Go.Proofs.YtjbppmclhdaaoaaGreat
