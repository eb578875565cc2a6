/- What impl.without leaves of a row of numbers: it shifts within the row's own block. -/
import Derived.Test.YtdnigcndjmmkcaaGreatNetMem
import Derived.Test.YtdnigcndjmmkcaaGreatLay
import Derived.Shelf.SlicesE.DeleteFunc
import Derived.Lib.OwnBridge
import Derived.Test.YtdnigcndjmmkcaaGreatNetEnd
import Derived.ChangeMaps4
import Derived.Test.YtdnigcndjmmkcaaGreatNetPut
import Derived.Test.YtdnigcndjmmkcaaGreatTk
import Derived.Deep.RegionHeld3
import Derived.Deep.DeepCutAuto
import Derived.Test.YtdnigcndjmmkcaaGreatEdDef
namespace Go.Proofs.YtdnigcndjmmkcaaGreat
open Go.RowKit Go.Deep

def less (l : List Int) (id : Int) : List Int := l.filter fun x => !decide (x = id)
/-- What without leaves. -/
inductive OutPost (w : World) (base : Nat) (u : Value) (l : List Int) (id : Int) : Ending → World → Prop
  | mk (u' : Value) (w' : World) (ho : w'.ownsRow base 3 1 u' (less l id).length ((less l id).map (Value.int .i64))) (hb : u'.ownBlock = u.ownBlock) (hc : Chg (fun x => u.ownBlock = some x) w w') : OutPost w base u l id (.returned u') w'

set_option maxHeartbeats 1000000 in
theorem outOne_any (id x : Int) (B : Nat) (W : World) (hc : W.cell? ⟨B, 0, none⟩ = some (.int .i64 id)) :
    FnGives Tryz.prog 89 #[.pointer (some ⟨B, 0, none⟩)] #[.int .i64 x] (.bool (decide (x = id))) W := by
  rw [show decide (x = id) = (x == id) from by rw [Bool.eq_iff_iff]; simp]
  show Calls Tryz.prog 89 #[.int .i64 x, .pointer (some ⟨B, 0, none⟩)] W _
  go_enter Tryz.func89, Tryz.ntmps89
  go_wp2
  all_goals (go_ret; exact ⟨by simp_all, 0, rfl⟩)

theorem chg_put (w : World) (g q : Nat) (d : Array Int) : Chg (fun x => x = g) w (Sort.putRow (Value.int .i64) (Sort.ahead w q) g 0 d) :=
  ⟨rfl, rfl, rfl, by simp [Sort.putRow, Sort.mapBlock, Sort.ahead], fun b _ hn => by
    have hne : g ≠ b := fun e => hn e.symm
    simp [Sort.putRow, Sort.mapBlock, Sort.ahead, Array.getElem?_modify, hne]⟩

set_option maxRecDepth 100000 in
set_option maxHeartbeats 2000000 in
theorem without_any (w : World) (base : Nat) (u : Value) (l : List Int) (id : Int) (h : w.ownsRow base 3 1 u l.length (l.map (Value.int .i64))) :
    Calls Tryz.prog 73 #[u, .int .i64 id] w (OutPost w base u l id) := by
  have hE : Ext w (w.alloc (.cells #[.int .i64 id] 3)) := (Ext.refl _).alloc _
  rcases h.2 with ⟨rfl, hl⟩ | ⟨g, cap, cur, rfl, hb, hg, hn, hm, hs, ht⟩
  · have hl0 : l = [] := List.length_eq_zero_iff.1 hl
    subst hl0
    have hcon := AnyE.slices_IndexFunc_empty (P := Tryz.prog) (ρ := Tryz.lays10_ren) { Tryz.lays10 with } none 0 (.func (.func 89) #[] #[.pointer (some ⟨w.heap.size, 0, none⟩)]) (w.alloc (.cells #[.int .i64 id] 3))
    change Calls Tryz.prog 107 _ _ _ at hcon
    have hdel : Calls Tryz.prog 88 #[.slice none 0 0, .func (.func 89) #[] #[.pointer (some ⟨w.heap.size, 0, none⟩)]] (w.alloc (.cells #[.int .i64 id] 3)) fun e w' => e = .returned (.slice none 0 0) ∧ w' = w.alloc (.cells #[.int .i64 id] 3) := by
      generalize w.alloc (.cells #[.int .i64 id] 3) = W at hcon ⊢
      go_enter Tryz.func88, Tryz.ntmps88
      go_wp2_with (go_at_call 107; refine hcon.mono ?_; rintro e w' ⟨rfl, rfl⟩)
      go_ret
      exact ⟨rfl, rfl⟩
    clear hcon
    go_enter Tryz.func73, Tryz.ntmps73
    go_wp2_with (go_at_call 88; refine hdel.mono ?_; rintro e w' ⟨rfl, rfl⟩)
    go_ret
    exact .mk _ _ ⟨rfl, .inl ⟨rfl, rfl⟩⟩ rfl (Chg.of_ext hE)
  · have eg : ∀ args w, (callFunc 89 args).run Tryz.prog w = .ok (.enter 89 args) w := enters_of Tryz.func89 (by kernel_rfl) rfl
    obtain ⟨g', cap', e1, _, hlt, _, _, _, hH⟩ := Go.Lib.holds_of_ownsRow (enc := Value.int .i64) h (by intro e; cases e)
    injection e1 with e1 _ e2
    injection e1 with e1
    injection e1 with e1
    subst e1 e2
    have hcell : (w.alloc (.cells #[.int .i64 id] 3)).cell? ⟨w.heap.size, 0, none⟩ = some (.int .i64 id) := by simp
    have hH' : Sort.Holds (Value.int .i64) (w.alloc (.cells #[.int .i64 id] 3)) g 0 l.toArray := fun j hj => ⟨Lib.cell?_alloc_some _ (hH j hj).1, by rw [World.frozen?_alloc_old _ _ _ (by show g ≠ w.heap.size; omega)]; exact (hH j hj).2⟩
    have hp : PredAt Tryz.prog 89 #[.pointer (some ⟨w.heap.size, 0, none⟩)] (Value.int .i64) (fun x => decide (x = id)) (w.alloc (.cells #[.int .i64 id] 3)) :=
      fun W x hb => outOne_any id x w.heap.size W ((hb.cell (p := ⟨w.heap.size, 0, none⟩) (by simp)).trans hcell)
    have hpo : PredOver Tryz.prog 89 #[.pointer (some ⟨w.heap.size, 0, none⟩)] (Value.int .i64) (fun x => decide (x = id)) g 0 l.toArray.size (w.alloc (.cells #[.int .i64 id] 3)) :=
      fun n os dk x _ => outOne_any id x w.heap.size _ (by
        unfold sortWorld
        rw [Sort.cell?_grow _ _ _ (by show w.heap.size < (Sort.putRow _ _ _ _ _).heap.size; rw [Sort.size_putRow]; simp [Sort.ahead]), Sort.cell?_putRow_other _ _ g 0 _ _ (Or.inl (by show w.heap.size ≠ g; omega))]
        exact hcell)
    have hcon := AnyE.slices_DeleteFunc Tryz.lays10 (Value.int .i64) (fun _ => rfl) (fun x => decide (x = id)) 89 #[.pointer (some ⟨w.heap.size, 0, none⟩)] eg 0 Tryz.zeroValue3 g 0 cap l.toArray (w.alloc (.cells #[.int .i64 id] 3)) hp hpo hH' (by unfold maxLen at hm; simp; omega) (by simpa using hn)
    change Calls Tryz.prog 88 #[.slice (some ⟨g, 0, none⟩) l.length cap, _] _ _ at hcon
    have hfil : (l.toArray.toList.filter fun x => !decide (x = id)) = less l id := rfl
    rw [hfil] at hcon
    have hle : (less l id).length ≤ l.length := List.length_filter_le _ _
    clear hH hH' hp hpo eg hfil
    go_enter Tryz.func73, Tryz.ntmps73
    go_wp2_with (go_at_call 88; refine hcon.mono ?_; rintro e w' ⟨rfl, q, rfl⟩)
    go_ret
    have hown := Go.Lib.ownsRow_putRow (enc := Value.int .i64) (q := q) (h.kept hE.grown (by simp [Value.ownBlock])) (ys := less l id ++ List.replicate (l.toArray.size - (less l id).length) 0) (by simp; omega) hle
    rw [List.take_left'] at hown
    · exact .mk _ _ hown rfl ((Chg.of_ext hE).trans ((chg_put _ g q _).mono (fun x hx => by subst hx; rfl)))
    · rfl
end Go.Proofs.YtdnigcndjmmkcaaGreat

/- A net from which an edge is taken: rows that are less, maps that are less. -/
namespace Go.Proofs.YtdnigcndjmmkcaaGreat
open Go.RowKit Go.Deep
open Go.ChangeMaps (setBlock heap_setBlock_same heap_setBlock_other)
open Go.Maps

theorem less_not {l : List Int} {k : Int} (h : k ∉ l) : less l k = l := List.filter_eq_self.2 fun x hx => by
  have : x ≠ k := fun e => h (e ▸ hx)
  simp [this]
theorem mem_less (l : List Int) (k x : Int) : x ∈ less l k ↔ x ∈ l ∧ x ≠ k := by simp [less]
theorem less_at {l : List Int} (hn : l.Nodup) {j : Nat} {k : Int} (h : l[j]? = some k) : less l k = l.eraseIdx j := by
  induction l generalizing j with
  | nil => simp at h
  | cons x xs ih =>
    have hx := List.nodup_cons.1 hn
    cases j with
    | zero =>
      have e : x = k := by simpa using h
      subst e
      have := less_not hx.1
      simp only [less] at this ⊢
      simp [this]
    | succ j =>
      have h' : xs[j]? = some k := by simpa using h
      have hne : x ≠ k := fun e => hx.1 (e ▸ List.mem_of_getElem? h')
      have := ih hx.2 h'
      simp only [less] at this ⊢
      simp [hne, this]

set_option maxRecDepth 10000 in
theorem MapF.del {w : World} {B : Nat} {keys : List Int} {val : Int → Value} (h : MapF w B keys val) {t e : TypeId} (ht : Tryz.prog.underlying t = some (.map 3 e)) {k : Int} (hk : (Lit.int .i64 k).wf = true) :
    ∃ o, (∀ ty, (Builtin.delete_ #[t, 3] ty #[.map (some B), .int .i64 k]).run Tryz.prog w = .ok (.tuple #[]) (setBlock w B o)) ∧ MapF (setBlock w B o) B (less keys k) val ∧ (setBlock w B o).heap.size = w.heap.size ∧ ∀ b, b ≠ B → (setBlock w B o).heap[b]? = w.heap[b]? := by
  obtain ⟨es, cl, hb, h1, h2, h3⟩ := h
  have hch := intKeyed.check w false (intKey hk)
  rcases mapf_find (w := w) h1 h3 hk with ⟨f1, f2⟩ | ⟨j, e', f1, f2, f3, f4⟩
  · refine ⟨.map es cl, ?_, ⟨_, _, heap_setBlock_same hb _, ?_, ?_, ?_⟩, by simp [setBlock], fun b hb2 => heap_setBlock_other hb _ hb2⟩
    · intro ty; simp [Builtin.delete_, run_underlying ht, MapKept.run_getObj_map hb, intKeyed.check w _ (intKey hk), f1, MapKept.run_setObj_map _ hb, Result.andThen, setBlock]
    · rw [less_not f2]; exact h1
    · rw [less_not f2]; exact h2
    · rw [less_not f2]; exact h3
  · have hjl : j < es.toList.length := (List.getElem?_eq_some_iff.1 f2).1
    have hjs : j < es.size := by simpa using hjl
    have hsub : (es.eraseIdxIfInBounds j).toList = es.toList.eraseIdx j := by
      unfold Array.eraseIdxIfInBounds
      rw [dif_pos hjs]
      simp
    refine ⟨.map (es.eraseIdxIfInBounds j) cl, ?_, ⟨_, _, heap_setBlock_same hb _, ?_, ?_, ?_⟩, by simp [setBlock], fun b hb2 => heap_setBlock_other hb _ hb2⟩
    · intro ty; simp [Builtin.delete_, run_underlying ht, MapKept.run_getObj_map hb, intKeyed.check w _ (intKey hk), f1, MapKept.run_setObj_map _ hb, Result.andThen, setBlock]
    · rw [hsub, less_at h2 f4, Go.ChangeMaps.map_eraseIdx, Go.ChangeMaps.map_eraseIdx, h1]
    · rw [less_at h2 f4]; exact h2.sublist (List.eraseIdx_sublist _ _)
    · intro x hx
      exact h3 x ((mem_less _ _ _).1 hx).1

def NetD.setr (N : NetD) (r : RN) (v' : Value) (l' : List Int) : NetD := { N with rows := upd N.rows r v', lists := upd N.lists r l' }
def NetD.del (N : NetD) (j : MI) (k : Int) : NetD := { N with keys := upd N.keys j (less (N.keys j) k) }
/-- A row that lies where it lay, with other numbers in it. -/
theorem NetIn.rows_set {w w3 : World} {base c : Nat} {N : NetD} (h : NetIn w base c N) (r : RN) {l' : List Int} {v' : Value} (hown : w3.ownsRow base 3 1 v' l'.length (l'.map (Value.int .i64))) (hl : l'.length ≤ c) (hg : w.grownBy w3 (N.rows r).ownBlock) (hloc : v'.ownBlock = (N.rows r).ownBlock ∨ v'.ownBlock = some w.heap.size) :
    (∀ q, w3.ownsRow base 3 1 (upd N.rows r v' q) (upd N.lists r l' q).length ((upd N.lists r l' q).map (Value.int .i64))) ∧ (∀ q, (upd N.lists r l' q).length ≤ c) ∧
    (∀ q q', q ≠ q' → ∀ y, (upd N.rows r v' q).ownBlock = some y → (upd N.rows r v' q').ownBlock ≠ some y) := by
  have hnew : ∀ q, q ≠ r → ∀ y, v'.ownBlock = some y → (N.rows q).ownBlock ≠ some y := by
    intro q hq y hy e
    rcases hloc with hl | hl
    · rw [hl] at hy; exact h.sep r q (Ne.symm hq) y hy e
    · rw [hl] at hy
      cases hy
      have := (h.row_lt q e).2
      omega
  refine ⟨fun q => ?_, fun q => ?_, fun q q' hne y hy => ?_⟩
  · by_cases hq : q = r
    · subst hq; rw [upd_same, upd_same]; exact hown
    · rw [upd_other _ _ _ hq, upd_other _ _ _ hq]
      refine (h.own q).kept hg ?_
      cases e : (N.rows q).ownBlock with
      | none => exact .inl rfl
      | some y => exact .inr (fun e2 => h.sep q r hq y e e2.symm)
  · by_cases hq : q = r
    · subst hq; rw [upd_same]; exact hl
    · rw [upd_other _ _ _ hq]; exact h.len q
  · by_cases hq : q = r
    · subst hq
      rw [upd_same] at hy
      rw [upd_other _ _ _ (Ne.symm hne)]
      exact hnew q' (Ne.symm hne) y hy
    · rw [upd_other _ _ _ hq] at hy
      by_cases hq' : q' = r
      · subst hq'
        rw [upd_same]
        exact fun e => hnew q hq y e hy
      · rw [upd_other _ _ _ hq']
        exact h.sep q q' hne y hy

/-- A row of the net's own (of nodes, of edges) has other numbers, and is stored. -/
theorem NetIn.setOwn {w w3 : World} {base c : Nat} {N : NetD} (h : NetIn w base c N) (r : RN) (hr : r = .n ∨ r = .e) {l' : List Int} {v' : Value} (hown : w3.ownsRow base 3 1 v' l'.length (l'.map (Value.int .i64))) (hl : l'.length ≤ c) (hg : w.grownBy w3 (N.rows r).ownBlock) (hloc : v'.ownBlock = (N.rows r).ownBlock ∨ v'.ownBlock = some w.heap.size) :
    NetIn (w3.setCell ⟨N.nb, cellAt r, none⟩ v') base c (N.setr r v' l') := by
  obtain ⟨h1, h2, h3⟩ := h.rows_set r hown hl hg hloc
  have hnb : w3.heap[N.nb]? = some (.cells N.cells 86 (0, 0)) := by rw [hg.block _ h.nb_lt (fun e => h.row_nb r e.symm rfl)]; exact h.blk
  have hnr : ∀ q y, (upd N.rows r v' q).ownBlock = some y → y ≠ N.nb := by
    intro q y hy e
    subst e
    obtain ⟨cur, hc⟩ := own_block (h1 q) hy
    rw [hnb] at hc
    injection hc with hc
    injection hc with _ hc
    exact absurd hc (by decide)
  have hoth : ∀ b, b ≠ N.nb → (w3.setCell ⟨N.nb, cellAt r, none⟩ v').heap[b]? = w3.heap[b]? := fun b hb => Below.heap_setCell _ _ _ _ hb
  refine ⟨?_, h.lo, fun q => ?_, h2, h3, fun j => ?_, h.mlo, h.minj, fun k => ?_, fun k => ?_, h.shp⟩
  · rw [show (N.setr r v' l').nb = N.nb from rfl, heap_set_same _ _ _ _ _ _ hnb]
    rcases hr with rfl | rfl
    · simp [NetD.cells, NetD.setr, cellAt, upd]
    · simp [NetD.cells, NetD.setr, cellAt, upd]
  · exact own_kept (h1 q) (hnr q) ⟨rfl, rfl, rfl, by simp, fun b _ hb => hoth b (fun e => hb (by rw [e]))⟩
  · refine (h.maps j).block ?_
    rw [hoth _ (h.mb_nb j), hg.block _ (h.maps j).lt (fun e => h.row_mb r j e.symm rfl)]
  · have := h.outs k
    have hne : (RN.o k) ≠ r := by rcases hr with rfl | rfl <;> simp
    show if k ∈ N.keys .o then N.val .o k = upd N.rows r v' (.o k) else upd N.rows r v' (.o k) = _
    rw [upd_other _ _ _ hne]
    exact this
  · have := h.ins k
    have hne : (RN.i k) ≠ r := by rcases hr with rfl | rfl <;> simp
    show if k ∈ N.keys .i then N.val .i k = upd N.rows r v' (.i k) else upd N.rows r v' (.i k) = _
    rw [upd_other _ _ _ hne]
    exact this

/-- A row of a map of rows has other numbers, and is stored there. -/
theorem NetIn.setGrow {w w3 : World} {base c : Nat} {N : NetD} (h : NetIn w base c N) (j : MI) (hj : j = .o ∨ j = .i) {k : Int} {l' : List Int} {v' : Value} (hown : w3.ownsRow base 3 1 v' l'.length (l'.map (Value.int .i64))) (hl : l'.length ≤ c) (hg : w.grownBy w3 (N.rows (ownRow j k)).ownBlock) (hloc : v'.ownBlock = (N.rows (ownRow j k)).ownBlock ∨ v'.ownBlock = some w.heap.size)
    {o : Obj} (hm : MapF (setBlock w3 (N.mb j) o) (N.mb j) (putKeys (N.keys j) k) (putVal (N.val j) k v')) (hoth : ∀ b, b ≠ N.mb j → (setBlock w3 (N.mb j) o).heap[b]? = w3.heap[b]?) :
    NetIn (setBlock w3 (N.mb j) o) base c ((N.setr (ownRow j k) v' l').put j k v') := by
  obtain ⟨h1, h2, h3⟩ := h.rows_set (ownRow j k) hown hl hg hloc
  have hmap : ∀ jj, w3.heap[N.mb jj]? = w.heap[N.mb jj]? := fun jj => hg.block _ (h.maps jj).lt (fun e => h.row_mb (ownRow j k) jj e.symm rfl)
  refine ⟨?_, h.lo, fun q => ?_, h2, h3, fun jj => ?_, h.mlo, h.minj, fun y => ?_, fun y => ?_, shp_put h (by rcases hj with rfl | rfl <;> trivial)⟩
  · show (setBlock w3 (N.mb j) o).heap[N.nb]? = some (.cells ((N.setr (ownRow j k) v' l').put j k v').cells _ _)
    rw [hoth _ (Ne.symm (h.mb_nb j)), hg.block _ h.nb_lt (fun e => h.row_nb _ e.symm rfl), h.blk]
    rcases hj with rfl | rfl <;> simp [NetD.cells, NetD.setr, NetD.put, ownRow, upd]
  · refine own_kept (h1 q) (fun y e e2 => ?_) ⟨rfl, rfl, rfl, by simp [ChangeMaps.setBlock], fun b _ hb => hoth b (fun e => hb (by rw [e]))⟩
    subst e2
    obtain ⟨cur, hc⟩ := own_block (h1 q) e
    obtain ⟨es, cl, hmj, _⟩ := h.maps j
    rw [hmap, hmj] at hc
    injection hc with hc
    cases hc
  · show MapF _ (N.mb jj) (upd N.keys j _ jj) (upd N.val j _ jj)
    by_cases hi : jj = j
    · subst hi; rw [upd_same, upd_same]; exact hm
    · rw [upd_other _ _ _ hi, upd_other _ _ _ hi]
      exact (h.maps jj).block (by rw [hoth _ (fun e => hi (h.minj _ _ e)), hmap])
  · have hy := h.outs y
    show if y ∈ upd N.keys j (putKeys (N.keys j) k) .o then upd N.val j (putVal (N.val j) k v') .o y = upd N.rows (ownRow j k) v' (.o y) else upd N.rows (ownRow j k) v' (.o y) = _
    rcases hj with rfl | rfl
    · rw [upd_same, upd_same]
      by_cases hyk : y = k
      · subst hyk
        rw [if_pos ((mem_putKeys _ _ _).2 (.inr rfl)), putVal, if_pos rfl]
        exact (upd_same _ _ _).symm
      · rw [upd_other _ _ _ (show RN.o y ≠ ownRow .o k by simp [ownRow, hyk]), putVal, if_neg hyk]
        by_cases hin : y ∈ N.keys .o
        · rw [if_pos ((mem_putKeys _ _ _).2 (.inl hin))]; rw [if_pos hin] at hy; exact hy
        · rw [if_neg (fun e => ((mem_putKeys _ _ _).1 e).elim hin hyk)]; rw [if_neg hin] at hy; exact hy
    · rw [upd_other _ _ _ (show MI.o ≠ .i by simp), upd_other _ _ _ (show MI.o ≠ .i by simp), upd_other _ _ _ (show RN.o y ≠ ownRow .i k by simp [ownRow])]
      exact hy
  · have hy := h.ins y
    show if y ∈ upd N.keys j (putKeys (N.keys j) k) .i then upd N.val j (putVal (N.val j) k v') .i y = upd N.rows (ownRow j k) v' (.i y) else upd N.rows (ownRow j k) v' (.i y) = _
    rcases hj with rfl | rfl
    · rw [upd_other _ _ _ (show MI.i ≠ .o by simp), upd_other _ _ _ (show MI.i ≠ .o by simp), upd_other _ _ _ (show RN.i y ≠ ownRow .o k by simp [ownRow])]
      exact hy
    · rw [upd_same, upd_same]
      by_cases hyk : y = k
      · subst hyk
        rw [if_pos ((mem_putKeys _ _ _).2 (.inr rfl)), putVal, if_pos rfl]
        exact (upd_same _ _ _).symm
      · rw [upd_other _ _ _ (show RN.i y ≠ ownRow .i k by simp [ownRow, hyk]), putVal, if_neg hyk]
        by_cases hin : y ∈ N.keys .i
        · rw [if_pos ((mem_putKeys _ _ _).2 (.inl hin))]; rw [if_pos hin] at hy; exact hy
        · rw [if_neg (fun e => ((mem_putKeys _ _ _).1 e).elim hin hyk)]; rw [if_neg hin] at hy; exact hy

/-- A map of rows (of nodes, of edges) has one less. -/
theorem NetIn.del {w : World} {base c : Nat} {N : NetD} (h : NetIn w base c N) (j : MI) (hj : j = .n ∨ j = .e) {k : Int} {o : Obj} (hm : MapF (setBlock w (N.mb j) o) (N.mb j) (less (N.keys j) k) (N.val j)) (hoth : ∀ b, b ≠ N.mb j → (setBlock w (N.mb j) o).heap[b]? = w.heap[b]?) :
    NetIn (setBlock w (N.mb j) o) base c (N.del j k) := by
  refine ⟨?_, h.lo, fun q => ?_, h.len, h.sep, fun jj => ?_, h.mlo, h.minj, fun x => ?_, fun x => ?_, fun jj x hx => ?_⟩
  · rw [show (N.del j k).nb = N.nb from rfl, hoth _ (Ne.symm (h.mb_nb j))]; exact h.blk
  · exact own_kept (h.own q) (fun y e => h.row_mb q j e) ⟨rfl, rfl, rfl, by simp [ChangeMaps.setBlock], fun b _ hb => hoth b (fun e => hb (by rw [e]))⟩
  · show MapF _ (N.mb jj) (upd N.keys j _ jj) (N.val jj)
    by_cases hi : jj = j
    · subst hi; rw [upd_same]; exact hm
    · rw [upd_other _ _ _ hi]
      exact (h.maps jj).block (hoth _ (fun e => hi (h.minj _ _ e)))
  · have := h.outs x
    have hne : MI.o ≠ j := by rcases hj with rfl | rfl <;> simp
    show if x ∈ upd N.keys j _ .o then N.val .o x = _ else _
    rw [upd_other _ _ _ hne]
    exact this
  · have := h.ins x
    have hne : MI.i ≠ j := by rcases hj with rfl | rfl <;> simp
    show if x ∈ upd N.keys j _ .i then N.val .i x = _ else _
    rw [upd_other _ _ _ hne]
    exact this
  · change x ∈ upd N.keys j _ jj at hx
    show Shp jj (N.val jj x)
    by_cases hi : jj = j
    · subst hi; rw [upd_same] at hx; exact h.shp _ x ((mem_less _ _ _).1 hx).1
    · rw [upd_other _ _ _ hi] at hx; exact h.shp _ x hx

theorem Chg.grownTo {w w' : World} {r : Option Nat} (h : Chg (fun x => r = some x) w w') : w.grownBy w' r := ⟨h.os, h.tape, h.output, h.size, fun b hb hn => h.block b hb (fun e => hn e.symm)⟩
theorem NetR.setr {N : NetD} {r : RN} {v' : Value} {l' : List Int} {x : Nat} (hb : v'.ownBlock = (N.rows r).ownBlock) (h : NetR (N.setr r v' l') x) : NetR N x := by
  rcases h with h | ⟨j, h⟩ | ⟨q, h⟩
  · exact .inl h
  · exact .inr (.inl ⟨j, h⟩)
  · change (upd N.rows r v' q).ownBlock = some x at h
    by_cases hq : q = r
    · subst hq
      rw [upd_same, hb] at h
      exact .inr (.inr ⟨q, h⟩)
    · rw [upd_other _ _ _ hq] at h
      exact .inr (.inr ⟨q, h⟩)
/-- 'm[k] = without(m[k], id)' of a map of rows, whole. -/
theorem NetIn.lesses {W w5 : World} {base c : Nat} {N : NetD} (h : NetIn W base c N) (j : MI) (hj : j = .o ∨ j = .i) {k id : Int} (hk : (Lit.int .i64 k).wf = true) {u' : Value}
    (hown : w5.ownsRow base 3 1 u' (less (N.lists (ownRow j k)) id).length ((less (N.lists (ownRow j k)) id).map (Value.int .i64))) (hb : u'.ownBlock = (N.rows (ownRow j k)).ownBlock) (hc : Chg (fun x => (N.rows (ownRow j k)).ownBlock = some x) W w5) :
    ∃ o, (Instr.mapUpdate 84 (.map (some (N.mb j))) (.int .i64 k) u').run Tryz.prog w5 = .ok () (setBlock w5 (N.mb j) o) ∧
      NetIn (setBlock w5 (N.mb j) o) base c ((N.setr (ownRow j k) u' (less (N.lists (ownRow j k)) id)).put j k u') ∧
      NStep W N (setBlock w5 (N.mb j) o) ((N.setr (ownRow j k) u' (less (N.lists (ownRow j k)) id)).put j k u') ∧ ∀ b, b ≠ N.mb j → (setBlock w5 (N.mb j) o).heap[b]? = w5.heap[b]? := by
  have hg := hc.grownTo
  have hm5 : MapF w5 (N.mb j) (N.keys j) (N.val j) := (h.maps j).block (hg.block _ (h.maps j).lt (fun e => h.row_mb _ j e.symm rfl))
  obtain ⟨o, hput, hM, hsz, hoth⟩ := hm5.put Tryz.underlying84 hk u'
  have hl : (less (N.lists (ownRow j k)) id).length ≤ c := Nat.le_trans (List.length_filter_le _ _) (h.len _)
  refine ⟨o, hput, h.setGrow j hj hown hl hg (.inl hb) hM hoth, ⟨?_, fun y hy => .inl (NetR.setr hb (NetR.put hy))⟩, hoth⟩
  exact ((Chg.refl (NetR N) W).grown hg (fun b hb => .inr (.inr ⟨_, hb⟩))).setBlock (.inr (.inl ⟨j, rfl⟩)) o hoth
end Go.Proofs.YtdnigcndjmmkcaaGreat

/- What the table of nodes does with a number that is dropped. -/
namespace Go.Proofs.YtdnigcndjmmkcaaGreat
open Go.RowKit Go.Deep
open Go.ChangeMaps (setBlock)

/-- What drop leaves. -/
inductive TabPostN (w : World) (base c : Nat) (N : NetD) (id : Int) : Ending → World → Prop
  | mk (u : Value) (w' : World) (hN : NetIn w' base c ((N.setr .n u (less (N.lists .n) id)).del .n id)) (st : NStep w N w' ((N.setr .n u (less (N.lists .n) id)).del .n id)) : TabPostN w base c N id (.returned (.tuple #[])) w'

set_option maxRecDepth 100000 in
set_option maxHeartbeats 4000000 in
theorem dropNd_any (w : World) (base c : Nat) (N : NetD) (id : Int) (h : NetIn w base c N) (hid : (Lit.int .i64 id).wf = true) :
    Calls Tryz.prog 47 #[.pointer (some ⟨N.nb, 0, none⟩), .int .i64 id] w (TabPostN w base c N id) := by
  have hwo := without_any w base (N.rows .n) (N.lists .n) id (h.own .n)
  obtain ⟨ra, rc, hrow⟩ := h.shape .n
  have hrowS := (show Hid _ from hrow)
  have c0 := h.c0
  rw [hrow] at c0 hwo
  have hset : ∀ (w3 : World) (u : Value), w3.ownsRow base 3 1 u (less (N.lists .n) id).length ((less (N.lists .n) id).map (Value.int .i64)) → u.ownBlock = (N.rows .n).ownBlock → Chg (fun x => (N.rows .n).ownBlock = some x) w w3 →
      NetIn (w3.setCell ⟨N.nb, 0, none⟩ u) base c (N.setr .n u (less (N.lists .n) id)) ∧ Chg (NetR N) w (w3.setCell ⟨N.nb, 0, none⟩ u) ∧ w3.cell? ⟨N.nb, 0, none⟩ = w.cell? ⟨N.nb, 0, none⟩ ∧ w3.frozen? ⟨N.nb, 0, none⟩ = false := fun w3 u ho hb hc => by
    have hnb : w3.heap[N.nb]? = w.heap[N.nb]? := hc.block N.nb h.nb_lt (fun e => h.row_nb .n e rfl)
    exact ⟨h.setOwn .n (.inl rfl) ho (Nat.le_trans (List.length_filter_le _ _) (h.len _)) hc.grownTo (.inl hb), (hc.mono (fun x hx => .inr (.inr ⟨_, hx⟩))).setCell (.inl rfl) _, World.cell?_of_block hnb, by rw [World.frozen?_of_block (w := w) hnb]; exact h.frozen 0⟩
  rw [hrow] at hset
  clear h
  go_enter Tryz.func47, Tryz.ntmps47
  go_wp2_with fail
  refine hwo.mono ?_
  rintro e w1 ⟨u, _, ho, hb, hc⟩
  obtain ⟨ua, un, uc, rfl⟩ : ∃ a n c, u = .slice a n c := by
    rcases ho.2 with ⟨e, _⟩ | ⟨g, cap, cur, e, _⟩
    · exact ⟨_, _, _, e⟩
    · exact ⟨_, _, _, e⟩
  obtain ⟨h1, hch, r3, f3⟩ := hset w1 _ ho hb hc
  rw [c0] at r3
  clear hwo c0 hset
  obtain ⟨o, hdel, hM, _, hoth⟩ := (h1.maps .n).del Tryz.underlying76 hid
  have h2 := h1.del .n (.inl rfl) hM hoth
  have hch2 := hch.setBlock (B := N.mb .n) (.inr (.inl ⟨.n, rfl⟩)) o hoth
  have c1 := h1.c1
  replace hdel : ∀ ty, (Builtin.delete_ #[76, 3] ty #[.map (some (N.mb .n)), .int .i64 id]).run Tryz.prog (w1.setCell ⟨N.nb, 0, none⟩ (.slice ua un uc)) = .ok (.tuple #[]) (setBlock (w1.setCell ⟨N.nb, 0, none⟩ (.slice ua un uc)) (N.mb .n) o) := hdel
  replace c1 : (w1.setCell ⟨N.nb, 0, none⟩ (.slice ua un uc)).cell? ⟨N.nb, 1, none⟩ = some (.map (some (N.mb .n))) := c1
  have hpost : TabPostN w base c N id (.returned (.tuple #[])) (setBlock (w1.setCell ⟨N.nb, 0, none⟩ (.slice ua un uc)) (N.mb .n) o) := .mk _ _ h2 ⟨hch2, fun x hx => .inl (NetR.setr (l' := less (N.lists .n) id) (by rw [hrowS.out]; exact hb) hx)⟩
  clear hM hoth h2 hch2 hch ho hc h1
  go_wp2
  go_end0
  exact hpost
end Go.Proofs.YtdnigcndjmmkcaaGreat

/- What the table of edges does with a number that is dropped. -/
namespace Go.Proofs.YtdnigcndjmmkcaaGreat
open Go.RowKit Go.Deep
open Go.ChangeMaps (setBlock)

/-- What drop leaves. -/
inductive TabPost (w : World) (base c : Nat) (N : NetD) (id : Int) : Ending → World → Prop
  | mk (u : Value) (w' : World) (hN : NetIn w' base c ((N.setr .e u (less (N.lists .e) id)).del .e id)) (st : NStep w N w' ((N.setr .e u (less (N.lists .e) id)).del .e id)) : TabPost w base c N id (.returned (.tuple #[])) w'

set_option maxRecDepth 100000 in
set_option maxHeartbeats 4000000 in
theorem dropE_any (w : World) (base c : Nat) (N : NetD) (id : Int) (h : NetIn w base c N) (hid : (Lit.int .i64 id).wf = true) :
    Calls Tryz.prog 74 #[.pointer (some ⟨N.nb, 3, none⟩), .int .i64 id] w (TabPost w base c N id) := by
  have hwo := without_any w base (N.rows .e) (N.lists .e) id (h.own .e)
  obtain ⟨ra, rc, hrow⟩ := h.shape .e
  have hrowS := (show Hid _ from hrow)
  have c3 := h.c3
  rw [hrow] at c3 hwo
  have hset : ∀ (w3 : World) (u : Value), w3.ownsRow base 3 1 u (less (N.lists .e) id).length ((less (N.lists .e) id).map (Value.int .i64)) → u.ownBlock = (N.rows .e).ownBlock → Chg (fun x => (N.rows .e).ownBlock = some x) w w3 →
      NetIn (w3.setCell ⟨N.nb, 3, none⟩ u) base c (N.setr .e u (less (N.lists .e) id)) ∧ Chg (NetR N) w (w3.setCell ⟨N.nb, 3, none⟩ u) ∧ w3.cell? ⟨N.nb, 3, none⟩ = w.cell? ⟨N.nb, 3, none⟩ ∧ w3.frozen? ⟨N.nb, 3, none⟩ = false := fun w3 u ho hb hc => by
    have hnb : w3.heap[N.nb]? = w.heap[N.nb]? := hc.block N.nb h.nb_lt (fun e => h.row_nb .e e rfl)
    exact ⟨h.setOwn .e (.inr rfl) ho (Nat.le_trans (List.length_filter_le _ _) (h.len _)) hc.grownTo (.inl hb), (hc.mono (fun x hx => .inr (.inr ⟨_, hx⟩))).setCell (.inl rfl) _, World.cell?_of_block hnb, by rw [World.frozen?_of_block (w := w) hnb]; exact h.frozen 3⟩
  rw [hrow] at hset
  clear h
  go_enter Tryz.func74, Tryz.ntmps74
  go_wp2_with fail
  refine hwo.mono ?_
  rintro e w1 ⟨u, _, ho, hb, hc⟩
  obtain ⟨ua, un, uc, rfl⟩ : ∃ a n c, u = .slice a n c := by
    rcases ho.2 with ⟨e, _⟩ | ⟨g, cap, cur, e, _⟩
    · exact ⟨_, _, _, e⟩
    · exact ⟨_, _, _, e⟩
  obtain ⟨h1, hch, r3, f3⟩ := hset w1 _ ho hb hc
  rw [c3] at r3
  clear hwo c3 hset
  obtain ⟨o, hdel, hM, _, hoth⟩ := (h1.maps .e).del Tryz.underlying80 hid
  have h2 := h1.del .e (.inr rfl) hM hoth
  have hch2 := hch.setBlock (B := N.mb .e) (.inr (.inl ⟨.e, rfl⟩)) o hoth
  have c4 := h1.c4
  replace hdel : ∀ ty, (Builtin.delete_ #[80, 3] ty #[.map (some (N.mb .e)), .int .i64 id]).run Tryz.prog (w1.setCell ⟨N.nb, 3, none⟩ (.slice ua un uc)) = .ok (.tuple #[]) (setBlock (w1.setCell ⟨N.nb, 3, none⟩ (.slice ua un uc)) (N.mb .e) o) := hdel
  replace c4 : (w1.setCell ⟨N.nb, 3, none⟩ (.slice ua un uc)).cell? ⟨N.nb, 4, none⟩ = some (.map (some (N.mb .e))) := c4
  have hpost : TabPost w base c N id (.returned (.tuple #[])) (setBlock (w1.setCell ⟨N.nb, 3, none⟩ (.slice ua un uc)) (N.mb .e) o) := .mk _ _ h2 ⟨hch2, fun x hx => .inl (NetR.setr (l' := less (N.lists .e) id) (by rw [hrowS.out]; exact hb) hx)⟩
  clear hM hoth h2 hch2 hch ho hc h1
  go_wp2
  go_end0
  exact hpost
end Go.Proofs.YtdnigcndjmmkcaaGreat

/- What the net's method dropEdge does. -/
namespace Go.Proofs.YtdnigcndjmmkcaaGreat
open Go.RowKit Go.Deep
open Go.ChangeMaps (setBlock)

/-- The net without an edge of it. -/
def dropN (N : NetD) (id x y : Int) (u1 u2 u3 : Value) : NetD :=
  let N1 := (N.setr (ownRow .o x) u1 (less (N.lists (ownRow .o x)) id)).put .o x u1
  let N2 := (N1.setr (ownRow .i y) u2 (less (N1.lists (ownRow .i y)) id)).put .i y u2
  (N2.setr .e u3 (less (N2.lists .e) id)).del .e id
/-- What dropEdge leaves. -/
inductive DropPost (w : World) (base c : Nat) (N : NetD) (id x y : Int) : Ending → World → Prop
  | mk (u1 u2 u3 : Value) (w' : World) (hN : NetIn w' base c (dropN N id x y u1 u2 u3)) (st : NStep w N w' (dropN N id x y u1 u2 u3)) : DropPost w base c N id x y (.returned (.bool true)) w'

set_option maxRecDepth 100000 in
set_option maxHeartbeats 8000000 in
theorem dropEdge_any (w : World) (base c : Nat) (N : NetD) (id z x y : Int) (s : ByteArray) (a : Option Addr) (l cp : Nat) (h : NetIn w base c N) (hid : (Lit.int .i64 id).wf = true) (xwf : (Lit.int .i64 x).wf = true) (ywf : (Lit.int .i64 y).wf = true) (hin : id ∈ N.keys .e) (hv : N.val .e id = .agg #[.int .i64 z, .string s, .int .i64 x, .int .i64 y, .slice a l cp]) :
    Calls Tryz.prog 46 #[.pointer (some ⟨N.nb, 0, none⟩), .int .i64 id] w (DropPost w base c N id x y) := by
  have hlk := (h.maps .e).look Tryz.underlying80 (zeroEdge w) hid true
  simp only [if_true, if_pos hin, hv, decide_eq_true hin] at hlk
  have c4 := h.c4
  have HV := (show Hid _ from hv)
  clear hv hin
  obtain ⟨W0, hW0⟩ : ∃ W0, W0 = w.alloc (.cells #[.int .i64 z, .string s, .int .i64 x, .int .i64 y, .slice a l cp] 67) := ⟨_, rfl⟩
  obtain ⟨B, hB⟩ : ∃ B, B = w.heap.size := ⟨_, rfl⟩
  go_enter Tryz.func46, Tryz.ntmps46
  go_upto_region 4 with fail
  rw [← hW0, ← hB]
  have hE0 : Ext w W0 := by rw [hW0]; exact (Ext.refl _).alloc _
  have hBl0 : B < W0.heap.size := by rw [hW0, hB]; simp
  have hb02 : W0.cell? ⟨B, 2, none⟩ = some (.int .i64 x) := by rw [hW0, hB]; simp
  have hb03 : W0.cell? ⟨B, 3, none⟩ = some (.int .i64 y) := by rw [hW0, hB]; simp
  obtain ⟨N0, hN0e⟩ : ∃ M, M = N := ⟨_, rfl⟩
  have hN0h := (show Hid _ from hN0e)
  have hnb0 : N0.nb = N.nb := by rw [hN0e]
  have hmb0 : N0.mb = N.mb := by rw [hN0e]
  have hN0 : NetIn W0 base c N0 := by rw [hN0e]; exact h.ext hE0
  have hst0 : NStep w N W0 N0 := by rw [hN0e]; exact NStep.ext N hE0
  have hbN0 : ¬ NetR N0 B := fun e => by rw [hN0e] at e; have := (NetR.lt h e).2; omega
  have hnl0 : N.nb < W0.heap.size := Nat.lt_of_lt_of_le h.nb_lt hE0.le
  clear hW0 hB hlk c4 hN0e hE0
  go_upto_region 4 with fail
  obtain ⟨rao, rco, hrowo⟩ := hN0.shape (ownRow .o x)
  have hN0d := hN0.ext (Ext.refl W0).drew
  have hlko := (hN0d.maps .o).look Tryz.underlying84 (zeroInts W0.drew) xwf false
  simp only [Bool.false_eq_true, if_false, hN0.look .o (by simp)] at hlko
  have hwoo := without_any W0.drew base (N0.rows (ownRow .o x)) (N0.lists (ownRow .o x)) id (hN0d.own _)
  have hlesso := fun (w5 : World) (u' : Value) ho hb hc => hN0d.lesses (w5 := w5) .o (by simp) (k := x) (id := id) xwf (u' := u') ho hb hc
  rw [hmb0] at hlko hlesso
  have hbxo : ∀ z, (N0.rows (ownRow .o x)).ownBlock = some z → z ≠ N.nb ∧ z ≠ B := fun z hz => ⟨by rw [← hnb0]; exact hN0.row_nb _ hz, fun e => hbN0 (.inr (.inr ⟨_, by rw [← e]; exact hz⟩))⟩
  have hmxo : N.nb ≠ N.mb .o ∧ B ≠ N.mb .o := ⟨by rw [← hnb0, ← hmb0]; exact Ne.symm (hN0.mb_nb .o), fun e => hbN0 (.inr (.inl ⟨.o, by rw [hmb0]; exact e⟩))⟩
  rw [hrowo] at hlko hwoo hbxo hlesso
  have hrwo := (show Hid _ from hrowo)
  clear hrowo
  generalize (N0.lists (ownRow .o x)).length = leno at hlko hwoo hbxo hlesso hrwo
  have hcno : W0.cell? ⟨N.nb, 6, none⟩ = some (.map (some (N.mb .o))) := by have := hN0.c6; rw [hnb0, hmb0] at this; exact this
  have HK : Hid (∀ W, Chg (fun z => z = N.mb .o ∨ (Value.slice rao leno rco).ownBlock = some z) W0.drew W → W.cell? ⟨N.nb, 6, none⟩ = some (.map (some (N.mb .o))) ∧ W.cell? ⟨B, 2, none⟩ = some (.int .i64 x)) := fun W hW =>
    ⟨(World.cell?_of_block (hW.block N.nb (by simpa using hnl0) (fun hz => hz.elim hmxo.1 (fun e => (hbxo _ e).1 rfl)))).trans hcno, (World.cell?_of_block (hW.block B (by simpa using hBl0) (fun hz => hz.elim hmxo.2 (fun e => (hbxo _ e).2 rfl)))).trans hb02⟩
  have hcur : Chg (fun z => z = N.mb .o ∨ (Value.slice rao leno rco).ownBlock = some z) W0.drew W0.drew := Chg.refl _ _
  have hst0o : NStep W0 N0 W0.drew N0 := NStep.ext _ (Ext.refl _).drew
  clear hcno
  refine wp_region_held_drew (S := (fun W => W.cell? ⟨N.nb, 6, none⟩ = some (.map (some (N.mb .o))) ∧ W.cell? ⟨B, 2, none⟩ = some (.int .i64 x))) (by kernel_rfl) (HK.out _ hcur) (fun hHeld => ?_)
  refine tkL 0 ⟨some 19, .move (.tmp 0), 43, _, #[], none⟩ ?_ hHeld ?yyD40 ?rrD40
  case yyD40 => (intro w hSw; (try dsimp only at hSw); go_simp; first | done | with_reducible rfl)
  try simp only [Act.put, putA, putB, putC]
  refine tkL 1 ⟨some 20, .nilCheck (.tmp 19), 0, _, #[⟨0, .data⟩], none⟩ ?_ hHeld ?yyD41 ?rrD41
  case yyD41 => (intro w hSw; (try dsimp only at hSw); go_simp; first | done | with_reducible rfl)
  try simp only [Act.put, putA, putB, putC]
  refine tkL 2 ⟨some 21, .fieldAddr 86 (.tmp 20) 2, 0, _, #[⟨1, .data⟩], none⟩ ?_ hHeld ?yyD42 ?rrD42
  case yyD42 => (intro w hSw; (try dsimp only at hSw); go_simp; first | done | with_reducible rfl)
  try simp only [Act.put, putA, putB, putC]
  refine tkL 3 ⟨some 22, .load 84 (.tmp 21), 84, _, #[⟨2, .data⟩], none⟩ ?_ hHeld ?yyD43 ?rrD43
  case yyD43 => (intro w hSw; (try dsimp only at hSw); go_simp; first | done | with_reducible rfl)
  try simp only [Act.put, putA, putB, putC]
  refine tkL 4 ⟨some 23, .fieldAddr 67 (.tmp 5) 2, 0, _, #[], none⟩ ?_ hHeld ?yyD44 ?rrD44
  case yyD44 => (intro w hSw; (try dsimp only at hSw); go_simp; first | done | with_reducible rfl)
  try simp only [Act.put, putA, putB, putC]
  refine tkL 5 ⟨some 24, .load 3 (.tmp 23), 3, _, #[⟨4, .data⟩], none⟩ ?_ hHeld ?yyD45 ?rrD45
  case yyD45 => (intro w hSw; (try dsimp only at hSw); go_simp; first | done | with_reducible rfl)
  try simp only [Act.put, putA, putB, putC]
  refine tkL 6 ⟨some 25, .move (.tmp 0), 43, _, #[], none⟩ ?_ hHeld ?yyD46 ?rrD46
  case yyD46 => (intro w hSw; (try dsimp only at hSw); go_simp; first | done | with_reducible rfl)
  try simp only [Act.put, putA, putB, putC]
  refine tkL 7 ⟨some 26, .nilCheck (.tmp 25), 0, _, #[⟨6, .data⟩], none⟩ ?_ hHeld ?yyD47 ?rrD47
  case yyD47 => (intro w hSw; (try dsimp only at hSw); go_simp; first | done | with_reducible rfl)
  try simp only [Act.put, putA, putB, putC]
  refine tkL 8 ⟨some 27, .fieldAddr 86 (.tmp 26) 2, 0, _, #[⟨7, .data⟩], none⟩ ?_ hHeld ?yyD48 ?rrD48
  case yyD48 => (intro w hSw; (try dsimp only at hSw); go_simp; first | done | with_reducible rfl)
  try simp only [Act.put, putA, putB, putC]
  refine tkL 9 ⟨some 28, .load 84 (.tmp 27), 84, _, #[⟨8, .data⟩], none⟩ ?_ hHeld ?yyD49 ?rrD49
  case yyD49 => (intro w hSw; (try dsimp only at hSw); go_simp; first | done | with_reducible rfl)
  try simp only [Act.put, putA, putB, putC]
  refine tkL 10 ⟨some 29, .fieldAddr 67 (.tmp 5) 2, 0, _, #[], none⟩ ?_ hHeld ?yyD410 ?rrD410
  case yyD410 => (intro w hSw; (try dsimp only at hSw); go_simp; first | done | with_reducible rfl)
  try simp only [Act.put, putA, putB, putC]
  refine tkL 11 ⟨some 30, .load 3 (.tmp 29), 3, _, #[⟨10, .data⟩], none⟩ ?_ hHeld ?yyD411 ?rrD411
  case yyD411 => (intro w hSw; (try dsimp only at hSw); go_simp; first | done | with_reducible rfl)
  try simp only [Act.put, putA, putB, putC]
  refine tkL 13 ⟨some 32, .move (.tmp 1), 3, _, #[], none⟩ ?_ hHeld ?yyD413 ?rrD413
  case yyD413 => (intro w hSw; (try dsimp only at hSw); go_simp; first | done | with_reducible rfl)
  try simp only [Act.put, putA, putB, putC]
  generalize W0.drew = Wo at *
  refine wpAnyH_ready (rs := [12]) (by kernel_rfl) (by simp) ?_
  refine AllReadyH.cons (o := ⟨some 31, .lookup 84 (.tmp 28) (.tmp 30) false, 70, _, #[⟨9, .data⟩, ⟨11, .data⟩], none⟩) rfl (fun K hK => ?_) (AllReadyH.nil)
  go_simp
  refine hK.out _ _ (HK.out _ hcur) (fun hHeld => ?_)
  clear hK K
  try simp only [Act.put, putA, putB, putC]
  refine wpAnyH_ready (rs := [14]) (by kernel_rfl) (by simp) ?_
  refine AllReadyH.cons (o := ⟨some 33, .call { callee := .value (.func 73), args := #[.tmp 31, .tmp 32], argTypes := #[70, 3] }, 70, _, #[⟨12, .data⟩, ⟨13, .data⟩], none⟩) rfl (fun K hK => ?_) (AllReadyH.nil)
  go_simp
  refine hwoo.mono ?_
  rintro e w5o ⟨uo, _, hoo, hobo, hoco⟩
  go_wp2_with fail
  refine hK.out _ _ (HK.out _ (hoco.mono (fun z hz => .inr hz))) (fun hHeld => ?_)
  clear hK K
  try simp only [Act.put, putA, putB, putC]
  obtain ⟨obo, hputo, hNxo, hsto, hotho⟩ := hlesso w5o uo hoo hobo hoco
  refine wpAnyH_ready (rs := [15]) (by kernel_rfl) (by simp) ?_
  refine AllReadyH.cons (o := ⟨none, .mapUpdate 84 (.tmp 22) (.tmp 24) (.tmp 33), 0, _, #[⟨3, .data⟩, ⟨5, .data⟩, ⟨14, .data⟩, ⟨14, .chain⟩, ⟨0, .phase⟩, ⟨1, .phase⟩, ⟨2, .phase⟩, ⟨3, .phase⟩, ⟨4, .phase⟩, ⟨5, .phase⟩, ⟨6, .phase⟩, ⟨7, .phase⟩, ⟨8, .phase⟩, ⟨9, .phase⟩, ⟨10, .phase⟩, ⟨11, .phase⟩, ⟨12, .phase⟩, ⟨13, .phase⟩, ⟨14, .phase⟩], none⟩) rfl (fun K hK => ?_) (AllReadyH.nil)
  go_simp
  refine hK.out _ _ (HK.out _ ((hoco.mono (fun z hz => .inr hz)).setBlock (B := N.mb .o) (.inl rfl) obo hotho)) (fun hHeld => ?_)
  clear hK K
  try simp only [Act.put, putA, putB, putC]
  refine wpAnyH_done (by kernel_rfl) ?_ _
  obtain ⟨N1, hN1e⟩ : ∃ M, M = (N0.setr (ownRow .o x) uo (less (N0.lists (ownRow .o x)) id)).put .o x uo := ⟨_, rfl⟩
  rw [← hN1e] at hNxo hsto
  have hN1h := (show Hid _ from hN1e)
  have hnb1 : N1.nb = N.nb := by rw [hN1e]; exact hnb0
  have hmb1 : N1.mb = N.mb := by rw [hN1e]; exact hmb0
  have hbN1 : ¬ NetR N1 B := fun e => hbN0 (NetR.setr (N := N0) (r := ownRow .o x) (v' := uo) (l' := less (N0.lists (ownRow .o x)) id) (by rw [hrwo.out]; exact hobo) (by rw [hN1e] at e; exact e))
  have hstxo := hst0o.trans hsto
  have hBk1 : ∀ k, (setBlock w5o (N.mb .o) obo).cell? ⟨B, k, none⟩ = W0.cell? ⟨B, k, none⟩ := fun k => World.cell?_of_block (hstxo.chg.block B hBl0 hbN0)
  have hnl1 : N.nb < (setBlock w5o (N.mb .o) obo).heap.size := by have := hNxo.nb_lt; rw [hnb1] at this; exact this
  have hBl1 : B < (setBlock w5o (N.mb .o) obo).heap.size := Nat.lt_of_lt_of_le hBl0 hstxo.chg.size
  have hb12 := (hBk1 2).trans hb02
  have hb13 := (hBk1 3).trans hb03
  have hst1 := hst0.trans hstxo
  have hN1 := hNxo
  clear HK hcur hHeld hlko hwoo hlesso hputo hBk1 hNxo hst0o hstxo hsto hoo hobo hoco hN1e hN0d
  generalize setBlock w5o (N.mb .o) obo = W1 at *
  go_upto_region 5 with fail
  obtain ⟨rai, rci, hrowi⟩ := hN1.shape (ownRow .i y)
  have hN1d := hN1.ext (Ext.refl W1).drew
  have hlki := (hN1d.maps .i).look Tryz.underlying84 (zeroInts W1.drew) ywf false
  simp only [Bool.false_eq_true, if_false, hN1.look .i (by simp)] at hlki
  have hwoi := without_any W1.drew base (N1.rows (ownRow .i y)) (N1.lists (ownRow .i y)) id (hN1d.own _)
  have hlessi := fun (w5 : World) (u' : Value) ho hb hc => hN1d.lesses (w5 := w5) .i (by simp) (k := y) (id := id) ywf (u' := u') ho hb hc
  rw [hmb1] at hlki hlessi
  have hbxi : ∀ z, (N1.rows (ownRow .i y)).ownBlock = some z → z ≠ N.nb ∧ z ≠ B := fun z hz => ⟨by rw [← hnb1]; exact hN1.row_nb _ hz, fun e => hbN1 (.inr (.inr ⟨_, by rw [← e]; exact hz⟩))⟩
  have hmxi : N.nb ≠ N.mb .i ∧ B ≠ N.mb .i := ⟨by rw [← hnb1, ← hmb1]; exact Ne.symm (hN1.mb_nb .i), fun e => hbN1 (.inr (.inl ⟨.i, by rw [hmb1]; exact e⟩))⟩
  rw [hrowi] at hlki hwoi hbxi hlessi
  have hrwi := (show Hid _ from hrowi)
  clear hrowi
  generalize (N1.lists (ownRow .i y)).length = leni at hlki hwoi hbxi hlessi hrwi
  have hcni : W1.cell? ⟨N.nb, 7, none⟩ = some (.map (some (N.mb .i))) := by have := hN1.c7; rw [hnb1, hmb1] at this; exact this
  have HK : Hid (∀ W, Chg (fun z => z = N.mb .i ∨ (Value.slice rai leni rci).ownBlock = some z) W1.drew W → W.cell? ⟨N.nb, 7, none⟩ = some (.map (some (N.mb .i))) ∧ W.cell? ⟨B, 3, none⟩ = some (.int .i64 y)) := fun W hW =>
    ⟨(World.cell?_of_block (hW.block N.nb (by simpa using hnl1) (fun hz => hz.elim hmxi.1 (fun e => (hbxi _ e).1 rfl)))).trans hcni, (World.cell?_of_block (hW.block B (by simpa using hBl1) (fun hz => hz.elim hmxi.2 (fun e => (hbxi _ e).2 rfl)))).trans hb13⟩
  have hcur : Chg (fun z => z = N.mb .i ∨ (Value.slice rai leni rci).ownBlock = some z) W1.drew W1.drew := Chg.refl _ _
  have hst0i : NStep W1 N1 W1.drew N1 := NStep.ext _ (Ext.refl _).drew
  clear hcni
  refine wp_region_held_drew (S := (fun W => W.cell? ⟨N.nb, 7, none⟩ = some (.map (some (N.mb .i))) ∧ W.cell? ⟨B, 3, none⟩ = some (.int .i64 y))) (by kernel_rfl) (HK.out _ hcur) (fun hHeld => ?_)
  refine tkL 0 ⟨some 34, .move (.tmp 0), 43, _, #[], none⟩ ?_ hHeld ?yyD50 ?rrD50
  case yyD50 => (intro w hSw; (try dsimp only at hSw); go_simp; first | done | with_reducible rfl)
  try simp only [Act.put, putA, putB, putC]
  refine tkL 1 ⟨some 35, .nilCheck (.tmp 34), 0, _, #[⟨0, .data⟩], none⟩ ?_ hHeld ?yyD51 ?rrD51
  case yyD51 => (intro w hSw; (try dsimp only at hSw); go_simp; first | done | with_reducible rfl)
  try simp only [Act.put, putA, putB, putC]
  refine tkL 2 ⟨some 36, .fieldAddr 86 (.tmp 35) 3, 0, _, #[⟨1, .data⟩], none⟩ ?_ hHeld ?yyD52 ?rrD52
  case yyD52 => (intro w hSw; (try dsimp only at hSw); go_simp; first | done | with_reducible rfl)
  try simp only [Act.put, putA, putB, putC]
  refine tkL 3 ⟨some 37, .load 84 (.tmp 36), 84, _, #[⟨2, .data⟩], none⟩ ?_ hHeld ?yyD53 ?rrD53
  case yyD53 => (intro w hSw; (try dsimp only at hSw); go_simp; first | done | with_reducible rfl)
  try simp only [Act.put, putA, putB, putC]
  refine tkL 4 ⟨some 38, .fieldAddr 67 (.tmp 5) 3, 0, _, #[], none⟩ ?_ hHeld ?yyD54 ?rrD54
  case yyD54 => (intro w hSw; (try dsimp only at hSw); go_simp; first | done | with_reducible rfl)
  try simp only [Act.put, putA, putB, putC]
  refine tkL 5 ⟨some 39, .load 3 (.tmp 38), 3, _, #[⟨4, .data⟩], none⟩ ?_ hHeld ?yyD55 ?rrD55
  case yyD55 => (intro w hSw; (try dsimp only at hSw); go_simp; first | done | with_reducible rfl)
  try simp only [Act.put, putA, putB, putC]
  refine tkL 6 ⟨some 40, .move (.tmp 0), 43, _, #[], none⟩ ?_ hHeld ?yyD56 ?rrD56
  case yyD56 => (intro w hSw; (try dsimp only at hSw); go_simp; first | done | with_reducible rfl)
  try simp only [Act.put, putA, putB, putC]
  refine tkL 7 ⟨some 41, .nilCheck (.tmp 40), 0, _, #[⟨6, .data⟩], none⟩ ?_ hHeld ?yyD57 ?rrD57
  case yyD57 => (intro w hSw; (try dsimp only at hSw); go_simp; first | done | with_reducible rfl)
  try simp only [Act.put, putA, putB, putC]
  refine tkL 8 ⟨some 42, .fieldAddr 86 (.tmp 41) 3, 0, _, #[⟨7, .data⟩], none⟩ ?_ hHeld ?yyD58 ?rrD58
  case yyD58 => (intro w hSw; (try dsimp only at hSw); go_simp; first | done | with_reducible rfl)
  try simp only [Act.put, putA, putB, putC]
  refine tkL 9 ⟨some 43, .load 84 (.tmp 42), 84, _, #[⟨8, .data⟩], none⟩ ?_ hHeld ?yyD59 ?rrD59
  case yyD59 => (intro w hSw; (try dsimp only at hSw); go_simp; first | done | with_reducible rfl)
  try simp only [Act.put, putA, putB, putC]
  refine tkL 10 ⟨some 44, .fieldAddr 67 (.tmp 5) 3, 0, _, #[], none⟩ ?_ hHeld ?yyD510 ?rrD510
  case yyD510 => (intro w hSw; (try dsimp only at hSw); go_simp; first | done | with_reducible rfl)
  try simp only [Act.put, putA, putB, putC]
  refine tkL 11 ⟨some 45, .load 3 (.tmp 44), 3, _, #[⟨10, .data⟩], none⟩ ?_ hHeld ?yyD511 ?rrD511
  case yyD511 => (intro w hSw; (try dsimp only at hSw); go_simp; first | done | with_reducible rfl)
  try simp only [Act.put, putA, putB, putC]
  refine tkL 13 ⟨some 47, .move (.tmp 1), 3, _, #[], none⟩ ?_ hHeld ?yyD513 ?rrD513
  case yyD513 => (intro w hSw; (try dsimp only at hSw); go_simp; first | done | with_reducible rfl)
  try simp only [Act.put, putA, putB, putC]
  generalize W1.drew = Wi at *
  refine wpAnyH_ready (rs := [12]) (by kernel_rfl) (by simp) ?_
  refine AllReadyH.cons (o := ⟨some 46, .lookup 84 (.tmp 43) (.tmp 45) false, 70, _, #[⟨9, .data⟩, ⟨11, .data⟩], none⟩) rfl (fun K hK => ?_) (AllReadyH.nil)
  go_simp
  refine hK.out _ _ (HK.out _ hcur) (fun hHeld => ?_)
  clear hK K
  try simp only [Act.put, putA, putB, putC]
  refine wpAnyH_ready (rs := [14]) (by kernel_rfl) (by simp) ?_
  refine AllReadyH.cons (o := ⟨some 48, .call { callee := .value (.func 73), args := #[.tmp 46, .tmp 47], argTypes := #[70, 3] }, 70, _, #[⟨12, .data⟩, ⟨13, .data⟩], none⟩) rfl (fun K hK => ?_) (AllReadyH.nil)
  go_simp
  refine hwoi.mono ?_
  rintro e w5i ⟨ui, _, hoi, hobi, hoci⟩
  go_wp2_with fail
  refine hK.out _ _ (HK.out _ (hoci.mono (fun z hz => .inr hz))) (fun hHeld => ?_)
  clear hK K
  try simp only [Act.put, putA, putB, putC]
  obtain ⟨obi, hputi, hNxi, hsti, hothi⟩ := hlessi w5i ui hoi hobi hoci
  refine wpAnyH_ready (rs := [15]) (by kernel_rfl) (by simp) ?_
  refine AllReadyH.cons (o := ⟨none, .mapUpdate 84 (.tmp 37) (.tmp 39) (.tmp 48), 0, _, #[⟨3, .data⟩, ⟨5, .data⟩, ⟨14, .data⟩, ⟨14, .chain⟩, ⟨0, .phase⟩, ⟨1, .phase⟩, ⟨2, .phase⟩, ⟨3, .phase⟩, ⟨4, .phase⟩, ⟨5, .phase⟩, ⟨6, .phase⟩, ⟨7, .phase⟩, ⟨8, .phase⟩, ⟨9, .phase⟩, ⟨10, .phase⟩, ⟨11, .phase⟩, ⟨12, .phase⟩, ⟨13, .phase⟩, ⟨14, .phase⟩], none⟩) rfl (fun K hK => ?_) (AllReadyH.nil)
  go_simp
  refine hK.out _ _ (HK.out _ ((hoci.mono (fun z hz => .inr hz)).setBlock (B := N.mb .i) (.inl rfl) obi hothi)) (fun hHeld => ?_)
  clear hK K
  try simp only [Act.put, putA, putB, putC]
  refine wpAnyH_done (by kernel_rfl) ?_ _
  obtain ⟨N2, hN2e⟩ : ∃ M, M = (N1.setr (ownRow .i y) ui (less (N1.lists (ownRow .i y)) id)).put .i y ui := ⟨_, rfl⟩
  rw [← hN2e] at hNxi hsti
  have hN2h := (show Hid _ from hN2e)
  have hnb2 : N2.nb = N.nb := by rw [hN2e]; exact hnb1
  have hmb2 : N2.mb = N.mb := by rw [hN2e]; exact hmb1
  have hbN2 : ¬ NetR N2 B := fun e => hbN1 (NetR.setr (N := N1) (r := ownRow .i y) (v' := ui) (l' := less (N1.lists (ownRow .i y)) id) (by rw [hrwi.out]; exact hobi) (by rw [hN2e] at e; exact e))
  have hstxi := hst0i.trans hsti
  have hBk2 : ∀ k, (setBlock w5i (N.mb .i) obi).cell? ⟨B, k, none⟩ = W1.cell? ⟨B, k, none⟩ := fun k => World.cell?_of_block (hstxi.chg.block B hBl1 hbN1)
  have hnl2 : N.nb < (setBlock w5i (N.mb .i) obi).heap.size := by have := hNxi.nb_lt; rw [hnb2] at this; exact this
  have hBl2 : B < (setBlock w5i (N.mb .i) obi).heap.size := Nat.lt_of_lt_of_le hBl1 hstxi.chg.size
  have hb22 := (hBk2 2).trans hb12
  have hb23 := (hBk2 3).trans hb13
  have hst2 := hst1.trans hstxi
  have hN2 := hNxi
  clear HK hcur hHeld hlki hwoi hlessi hputi hBk2 hNxi hst0i hstxi hsti hoi hobi hoci hN2e hN1d
  generalize setBlock w5i (N.mb .i) obi = W2 at *
  have hdr := dropE_any W2 base c N2 id hN2 hid
  rw [hnb2] at hdr
  clear hb02 hb03 hb12 hb13 hb22 hb23 hnl0 hnl1 hnl2 hBl0 hBl1 hBl2
  go_wp2_with fail
  refine hdr.mono ?_
  rintro e w6 ⟨u3, _, hN3, st3⟩
  go_wp2
  go_ret
  have hst := hst2.trans st3
  have e0 := hN0h.out
  have e1 := hN1h.out
  have e2 := hN2h.out
  subst e0 e1 e2
  exact .mk _ _ _ _ hN3 hst
end Go.Proofs.YtdnigcndjmmkcaaGreat

/- The rows of a net from which an edge is taken. -/
namespace Go.Proofs.YtdnigcndjmmkcaaGreat
open Go.RowKit Go.Deep

theorem RowsS.drop {w : World} {N : NetD} {S : Nat → Prop} {j : MI} {n : Nat} {f : Nat → Nat → D} {len k : Nat} (h : RowsS w N S j n f len) (hk : k < len) : RowsS w N S j n (dropF f k) (len - 1) := by
  obtain ⟨P, h0, h1, h2⟩ := h
  refine ⟨fun i => if i < k then P i else P (i + 1), h0, fun i hi => ?_, fun i c i' c' hi hc hi' hc' hne x hx => ?_⟩
  · unfold dropF
    dsimp only
    split
    · exact h1 i (by omega)
    · exact h1 (i + 1) (by omega)
  · dsimp only at hx ⊢
    by_cases e1 : i < k <;> by_cases e2 : i' < k
    · rw [if_pos e1] at hx; rw [if_pos e2]; exact h2 i c i' c' (by omega) hc (by omega) hc' hne x hx
    · rw [if_pos e1] at hx; rw [if_neg e2]; exact h2 i c (i' + 1) c' (by omega) hc (by omega) hc' (by omega) x hx
    · rw [if_neg e1] at hx; rw [if_pos e2]; exact h2 (i + 1) c i' c' (by omega) hc (by omega) hc' (by omega) x hx
    · rw [if_neg e1] at hx; rw [if_neg e2]; exact h2 (i + 1) c (i' + 1) c' (by omega) hc (by omega) hc' (by omega) x hx
theorem dropN_ln (N : NetD) (id x y : Int) (u1 u2 u3 : Value) : (dropN N id x y u1 u2 u3).lists .n = N.lists .n := by simp [dropN, NetD.setr, NetD.put, NetD.del, upd, ownRow]
theorem dropN_le (N : NetD) (id x y : Int) (u1 u2 u3 : Value) : (dropN N id x y u1 u2 u3).lists .e = less (N.lists .e) id := by simp [dropN, NetD.setr, NetD.put, NetD.del, upd, ownRow]
theorem dropN_kn (N : NetD) (id x y : Int) (u1 u2 u3 : Value) : (dropN N id x y u1 u2 u3).keys .n = N.keys .n := by simp [dropN, NetD.setr, NetD.put, NetD.del, upd]
theorem dropN_ke (N : NetD) (id x y : Int) (u1 u2 u3 : Value) : (dropN N id x y u1 u2 u3).keys .e = less (N.keys .e) id := by simp [dropN, NetD.setr, NetD.put, NetD.del, upd]
theorem dropN_vn (N : NetD) (id x y : Int) (u1 u2 u3 : Value) : (dropN N id x y u1 u2 u3).val .n = N.val .n := by simp [dropN, NetD.setr, NetD.put, NetD.del, upd]
theorem dropN_ve (N : NetD) (id x y : Int) (u1 u2 u3 : Value) : (dropN N id x y u1 u2 u3).val .e = N.val .e := by simp [dropN, NetD.setr, NetD.put, NetD.del, upd]
theorem dropN_nn (N : NetD) (id x y : Int) (u1 u2 u3 : Value) : (dropN N id x y u1 u2 u3).nb = N.nb ∧ (dropN N id x y u1 u2 u3).nn = N.nn ∧ (dropN N id x y u1 u2 u3).ne = N.ne := ⟨rfl, rfl, rfl⟩
/-- An edge of the rows: its cells. -/
theorem RowsS.edge {w : World} {N : NetD} {S : Nat → Prop} {f : Nat → Nat → D} {len k : Nat} (h : RowsS w N S .e 5 f len) (hk : k < len) (HR : HasRow 5 (f k)) :
    ∃ z s x y a l c, N.val .e (f k 0).int! = .agg #[.int .i64 z, .string s, .int .i64 x, .int .i64 y, .slice a l c] ∧ (Lit.int .i64 x).wf = true ∧ (Lit.int .i64 y).wf = true ∧ (Lit.int .i64 (f k 0).int!).wf = true := by
  obtain ⟨P, h0, h1, h2⟩ := h
  obtain ⟨C, hv, hc⟩ := h1 k hk
  obtain ⟨z, e0⟩ := (show Has (f k 0) .int from HR 0 (by decide)).int
  obtain ⟨s, e1⟩ := (show Has (f k 1) .str from HR 1 (by decide)).str
  obtain ⟨x, e2⟩ := (show Has (f k 2) .int from HR 2 (by decide)).int
  obtain ⟨y, e3⟩ := (show Has (f k 3) .int from HR 3 (by decide)).int
  have a0 := (hc 0 (by decide)).1
  have a1 := (hc 1 (by decide)).1
  have a2 := (hc 2 (by decide)).1
  have a3 := (hc 3 (by decide)).1
  have a4 := (hc 4 (by decide)).1
  rw [e0] at a0
  rw [e1] at a1
  rw [e2] at a2
  rw [e3] at a3
  obtain ⟨b0, w0⟩ := a0.int_eq
  obtain ⟨b1, _⟩ := a1.str_eq
  obtain ⟨b2, w2⟩ := a2.int_eq
  obtain ⟨b3, w3⟩ := a3.int_eq
  obtain ⟨a, cap, l, _, _, b4, _, _⟩ := list_shape (r := 3) (show Has (f k 4) (.list 3) from HR 4 (by decide)) a4
  refine ⟨z, s, x, y, a, l, cap, ?_, w2, w3, by rw [e0]; exact w0⟩
  rw [hv, ← b0, ← b1, ← b2, ← b3, ← b4]
  rfl
end Go.Proofs.YtdnigcndjmmkcaaGreat
