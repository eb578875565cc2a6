/- A net's next number of edges may be set; what hasRoom and addEdge answer. -/
import Derived.Test.YtnhgnklapfhekaaGreatNetOf
import Derived.Test.YtnhgnklapfhekaaGreatEaS
import Derived.Test.YtnhgnklapfhekaaGreatNetData
import Derived.Test.YtnhgnklapfhekaaGreatNetPut
import Derived.Deep.AppendLies
namespace Go.Proofs.YtnhgnklapfhekaaGreat
open Go.RowKit Go.Deep

/-- A net whose next number of edges is another one. -/
def NetD.setNe (N : NetD) (x : Int) : NetD := { N with ne := x }
theorem NetIn.setNe {w : World} {base c : Nat} {N : NetD} (h : NetIn w base c N) (x : Int) : NetIn (w.setCell ⟨N.nb, 5, none⟩ (.int .i64 x)) base c (N.setNe x) ∧ NStep w N (w.setCell ⟨N.nb, 5, none⟩ (.int .i64 x)) (N.setNe x) := by
  refine ⟨⟨?_, h.lo, fun r => ownsRow_at (h.own r) (fun y hy => Below.heap_setCell _ _ _ _ (h.row_nb r hy)), h.len, h.sep, fun j => ?_, h.mlo, h.minj, h.outs, h.ins, h.shp⟩, ⟨(Chg.refl _ _).setCell (p := ⟨N.nb, 5, none⟩) (.inl rfl) _, fun y hy => .inl hy⟩⟩
  · have := block_set (o := 5) h.blk (.int .i64 x)
    simpa [NetD.cells, NetD.setNe] using this
  · obtain ⟨es, cl, hm, rest⟩ := h.maps j
    exact ⟨es, cl, (Below.heap_setCell _ _ _ _ (h.mb_nb j)).trans hm, rest⟩

set_option maxHeartbeats 1000000 in
theorem hasRoomE_any (w : World) (base c : Nat) (N : NetD) (h : NetIn w base c N) :
    Calls Tryz.prog 53 #[.pointer (some ⟨N.nb, 3, none⟩), .int .i64 16] w fun e w' => e = .returned (.bool (decide ((N.lists .e).length < 16) && decide (N.ne < 1000000000))) ∧ Ext w w' := by
  obtain ⟨a, cap, hrow⟩ := h.shape .e
  have hlen := h.len .e
  have c0 := h.c3
  rw [hrow] at c0
  have c2 := h.c5
  clear hrow
  generalize (N.lists .e).length = len at *
  generalize N.ne = nn at *
  go_enter Tryz.func53, Tryz.ntmps53
  by_cases h12 : len < 16
  · have h12' : (len : Int) < 16 := by omega
    go_wp2
    go_ret
    refine ⟨ret_bool ?_, Ext.refl _⟩
    simp [h12]
  · have h12' : ¬ (len : Int) < 16 := by omega
    go_wp2
    go_ret
    refine ⟨ret_bool ?_, Ext.refl _⟩
    simp

/-- The number that is told. -/
def idA (a : Bool) (x : Int) : Int := if a then x else 0
set_option maxRecDepth 100000 in
set_option maxHeartbeats 4000000 in
theorem addEdge_any (w : World) (base c : Nat) (N : NetD) (S : Nat → Prop) (d0 dP : D) (kind : ByteArray) (fr dst : Int) (cP : Value) (h : NetIn w base c N) (hc : c ≤ 800) (hb : base ≤ w.heap.size) (hn0 : 0 ≤ N.ne) (hn1 : N.ne ≤ 1000000000) (hlast : (N.lists .e).getLast?.getD (-1) < N.ne) (zk : kind.size ≤ maxLen) (zf : (Lit.int .i64 fr).wf = true) (zd : (Lit.int .i64 dst).wf = true) (HP : Has dP (.list 3)) (hP : DIn S w dP cP) (hSn : ∀ x, S x → x ≠ N.nb) (hfr : decide (fr ∈ N.keys .n) = hasId d0 fr) (hdst : decide (dst ∈ N.keys .n) = hasId d0 dst) (a : Bool) (ha : addEB kind dP d0 fr dst (N.lists .e).length N.ne = a) :
    Calls Tryz.prog 25 #[.pointer (some ⟨N.nb, 0, none⟩), .string kind, .int .i64 fr, .int .i64 dst, cP] w fun e w' => e = .returned (.tuple #[.int .i64 (idA a N.ne), .bool a]) ∧ ∃ N', NetIn w' base (c + 3) N' ∧ NStep w N w' N' ∧
      (a = true → ∃ v' uP vo vi m, N' = (((((((N.setNe (N.ne + 1)).push .e v' N.ne).put .e N.ne (.agg #[.int .i64 N.ne, .string kind, .int .i64 fr, .int .i64 dst, uP])).push (.o fr) vo N.ne).put .o fr vo).push (.i dst) vi N.ne).put .i dst vi) ∧ w.heap.size ≤ m ∧ m ≤ w'.heap.size ∧ (DIn (New w.heap.size m) w' dP uP ∧ Own w' dP (New w.heap.size m) uP) ∧ ∀ x, NetR N' x → NetR N x ∨ m ≤ x) ∧
      (a = false → N' = N) := by
  have hroom := fun (W : World) (hW : Ext w W) => hasRoomE_any W base c N (h.ext hW)
  have zid : (Lit.int .i64 N.ne).wf = true := by simp [Lit.wf, IntKind.min, IntKind.max, IntKind.signed, IntKind.bits]; omega
  have hput := fun (W : World) (hW : Ext w W) => netPutEdge_any (W.setCell ⟨N.nb, 5, none⟩ (.int .i64 (N.ne + 1))) base c (N.setNe (N.ne + 1)) S N.ne kind fr dst dP cP ((h.ext hW).setNe (N.ne + 1)).1 zid zf zd zk (by omega) (by have := hW.le; simp; omega) HP ((hP.ext hW).setCell (fun hs => hSn _ hs rfl) _)
  have hok : okPut ((N.setNe (N.ne + 1)).lists .e) (N.setNe (N.ne + 1)).ne N.ne = true := by
    show (decide ((N.lists .e).getLast?.getD (-1) < N.ne) && decide (N.ne < N.ne + 1)) = true
    rw [decide_eq_true hlast, decide_eq_true (by omega)]
    rfl
  have hfr' : decide (fr ∈ (N.setNe (N.ne + 1)).keys .n) = hasId d0 fr := hfr
  have hdst' : decide (dst ∈ (N.setNe (N.ne + 1)).keys .n) = hasId d0 dst := hdst
  simp only [hok, hfr', hdst', Bool.and_true] at hput
  have hset := fun (W : World) (hW : Ext w W) => (h.ext hW).setNe (N.ne + 1)
  have hback := fun (W : World) (M : NetD) (b' : Nat) (hM : NetIn W base b' M) (x : Int) => hM.setNe x
  have hadd : Hid (a = (nameB kind && propsB dP && hasId d0 fr && hasId d0 dst && decide ((N.lists .e).length < 16) && decide (N.ne < 1000000000))) := ha.symm
  clear ha hok hlast hfr hdst hfr' hdst'
  have hc2 := fun (W : World) (hW : Ext w W) => (h.ext hW).c5
  have hfz := fun (W : World) (hW : Ext w W) => (h.ext hW).frozen 5
  have hmono := fun (W : World) (hW : Ext w W) => (h.ext hW).mono (show c ≤ c + 3 by omega)
  have hw1 : IntKind.i64.wrap (N.ne + 1) = N.ne + 1 := wrap_i64 (by omega) (by omega)
  have hw2 : IntKind.i64.wrap (N.ne + 1 - 1) = N.ne := by rw [show N.ne + 1 - 1 = N.ne by omega]; exact wrap_i64 (by omega) (by omega)
  obtain ⟨aP, capP, lP, _, hqP, rfl, _, _⟩ := list_shape HP hP
  clear hqP
  generalize nameB kind = nb at *
  generalize propsB dP = pb at *
  generalize hasId d0 fr = fb at *
  generalize hasId d0 dst = tb at *
  generalize decide ((N.lists .e).length < 16) = b16 at *
  generalize decide (N.ne < 1000000000) = bN at *
  go_enter Tryz.func25, Tryz.ntmps25
  go_wp2_with fail
  refine (hroom w (Ext.refl _)).mono ?_
  rintro e w1 ⟨rfl, hE1⟩
  cases hr : (b16 && bN)
  · have hf : Hid (a = false) := by show _ = _; rw [hadd.out, Bool.and_assoc, hr, Bool.and_false]
    go_wp2
    go_ret2
    have ea := hf.out
    clear hf hadd
    subst ea
    exact ⟨rfl, N, hmono _ hE1, NStep.ext N hE1, fun e => (by cases e), fun _ => rfl⟩
  · have hf : Hid (a = (pb && nb && fb && tb)) := by show _ = _; rw [hadd.out, Bool.and_assoc, hr, Bool.and_true, Bool.and_comm nb pb]
    have c2 := hc2 w1 hE1
    have fz := hfz w1 hE1
    have hp1 := hput w1 hE1
    go_wp2_with fail
    refine hp1.mono ?_
    rintro e w2 ⟨rfl, N', hN', hyes, hno, hst⟩
    clear hp1 hput hroom
    have hstA := (NStep.ext N hE1).trans (hset w1 hE1).2
    have hsz1 := hE1.le
    cases hlp : (pb && nb && fb && tb)
    · have hN := hno hlp
      subst hN
      have d2 := hN'.c5
      have gz := hN'.frozen 5
      change w2.cell? ⟨N.nb, 5, none⟩ = some (.int .i64 (N.ne + 1)) at d2
      change w2.frozen? ⟨N.nb, 5, none⟩ = false at gz
      have hfin : Hid _ := And.intro (hback w2 _ _ hN' N.ne).1 ((hstA.trans hst).trans (hback w2 _ _ hN' N.ne).2)
      clear hyes hno
      go_wp2
      go_ret2
      have ea := hf.out
      rw [hlp] at ea
      clear hf hadd
      subst ea
      exact ⟨rfl, N, hfin.out.1, hfin.out.2, fun e => (by cases e), fun _ => rfl⟩
    · obtain ⟨v', uP, vo, vi, m, hN2, g1, g3, hDP, hown⟩ := hyes hlp
      clear hyes hno
      have hfin : Hid _ := And.intro hN' (hstA.trans hst)
      have hdat : Hid _ := And.intro hDP hown
      clear hDP hown
      rw [World.size_setCell] at g1 hdat
      go_wp2
      go_ret2
      have ea := hf.out
      rw [hlp] at ea
      clear hf hadd
      subst ea
      refine ⟨rfl, N', hfin.out.1, hfin.out.2, fun _ => ⟨v', uP, vo, vi, m, hN2, by omega, g3, ?_, fun x hx => ?_⟩, fun e => (by cases e)⟩
      · have hs : ∀ x, New w1.heap.size m x → New w.heap.size m x := fun x hx => ⟨Nat.le_trans hsz1 hx.1, hx.2⟩
        exact ⟨hdat.out.1.1.mono hs, hdat.out.1.2.mono hs⟩
      · exact hdat.out.2 x hx
end Go.Proofs.YtnhgnklapfhekaaGreat

/- A list that is made of a net's rows: its own block is new, its leaves lie where the net's rows do. -/
namespace Go.Proofs.YtnhgnklapfhekaaGreat
open Go.RowKit Go.Deep

/-- The cells of the first k rows. -/
def rowCells (n : Nat) (C : Nat → Nat → Value) : Nat → List Value
  | 0 => []
  | k + 1 => rowCells n C k ++ (List.range n).map (C k)
theorem rowCells_len (n : Nat) (C : Nat → Nat → Value) (k : Nat) : (rowCells n C k).length = k * n := by
  induction k with
  | zero => simp [rowCells]
  | succ k ih => simp [rowCells, ih, Nat.add_mul]
theorem rowCells_get (n : Nat) (C : Nat → Nat → Value) (k : Nat) : ∀ i, i < k → ∀ c, c < n → (rowCells n C k)[i * n + c]? = some (C i c) := by
  induction k with
  | zero => intro i hi; omega
  | succ k ih =>
    intro i hi c hc
    have hlen := rowCells_len n C k
    by_cases hik : i = k
    · subst hik
      rw [rowCells, List.getElem?_append_right (by omega), show i * n + c - (rowCells n C i).length = c by omega, List.getElem?_map, List.getElem?_range hc]
      rfl
    · have hlt := at_lt (show i < k by omega) hc
      rw [rowCells, List.getElem?_append_left (by omega)]
      exact ih i (by omega) c hc
theorem rows_end {w : World} {b0 n len : Nat} {S : Nat → Prop} {T : TypeId} {u : Value} {f : Nat → Nat → D} {C : Nat → Nat → Value} {P : Nat → Nat → Nat → Prop} (hown : w.ownsRow b0 T n u len (rowCells n C len))
    (hC : ∀ i, i < len → ∀ c, c < n → DIn (P i c) w (f i c) (C i c) ∧ Own w (f i c) (P i c) (C i c) ∧ ∀ x, P i c x → S x)
    (hd : ∀ i c i' c', i < len → c < n → i' < len → c' < n → ¬ (i = i' ∧ c = c') → ∀ x, P i c x → ¬ P i' c' x) (hhi : ∀ x, S x → x < b0) (hl : len ≤ maxLen) :
    DIn (fun x => S x ∨ b0 ≤ x ∧ x < w.heap.size) w (.list n len f) u ∧ Own w (.list n len f) (fun x => S x ∨ b0 ≤ x ∧ x < w.heap.size) u := by
  rcases hown.2 with ⟨rfl, rfl⟩ | ⟨g, cap, cur, rfl, hb, hg, _⟩
  · exact ⟨⟨none, 0, 0, 0, rfl, Nat.zero_le _, fun h => by omega, fun i hi => by omega⟩, ⟨none, 0, 0, 0, fun _ _ _ => False, rfl, fun h => by omega, fun i _ hi => by omega, fun i _ _ _ hi => by omega, fun i hi => by omega⟩⟩
  · have hglt : g < w.heap.size := lt_of_block hg
    have hfz : ∀ o, w.frozen? ⟨g, o, none⟩ = false := fun o => by simp [World.frozen?, hg]
    have hcell : ∀ i, i < len → ∀ c, c < n → w.cell? ⟨g, 0 + i * n + c, none⟩ = some (C i c) := by
      intro i hi c hc
      have := hown.cells (g := g) rfl (i * n + c) (C i c) (rowCells_get n C len i hi c hc)
      rw [Go.WideShapes.add_plain] at this
      rw [Nat.add_assoc]
      exact this
    constructor
    · refine ⟨_, cap, g, 0, rfl, hl, fun _ => ⟨rfl, .inr ⟨hb, hglt⟩, hglt⟩, fun i hi c hc => ⟨C i c, hcell i hi c hc, (hC i hi c hc).1.mono (fun x hx => .inl ((hC i hi c hc).2.2 x hx))⟩⟩
    · refine ⟨_, cap, g, 0, P, rfl, fun _ => ⟨rfl, .inr ⟨hb, hglt⟩, hglt, hfz⟩, fun i c hi hc x hx => ⟨.inl ((hC i hi c hc).2.2 x hx), fun e => ?_⟩, hd, fun i hi c hc => ⟨C i c, hcell i hi c hc, (hC i hi c hc).2.1⟩⟩
      have := hhi x ((hC i hi c hc).2.2 x hx)
      omega
/-- What stands under the numbers of a net, its leaves in blocks of S. -/
def RowsQ (w : World) (N : NetD) (S : Nat → Prop) (j : MI) (n : Nat) (f : Nat → Nat → D) (k : Nat) (P : Nat → Nat → Nat → Prop) : Prop :=
  (∀ x, S x → x < w.heap.size) ∧ (∀ i, i < k → ∃ C : Nat → Value, N.val j (f i 0).int! = .agg ((List.range n).map C).toArray ∧ ∀ c, c < n → DIn (P i c) w (f i c) (C c) ∧ Own w (f i c) (P i c) (C c) ∧ ∀ x, P i c x → S x ∧ ¬ NetR N x) ∧
  (∀ i c i' c', i < k → c < n → i' < k → c' < n → ¬ (i = i' ∧ c = c') → ∀ x, P i c x → ¬ P i' c' x)
def RowsS (w : World) (N : NetD) (S : Nat → Prop) (j : MI) (n : Nat) (f : Nat → Nat → D) (k : Nat) : Prop := ∃ P, RowsQ w N S j n f k P
theorem RowsD.toS {w : World} {N : NetD} {base hi : Nat} {j : MI} {n : Nat} {f : Nat → Nat → D} {k : Nat} (h : RowsD w N base hi j n f k) : RowsS w N (fun x => base ≤ x ∧ x < hi) j n f k := by
  obtain ⟨P, hw, h1, h2⟩ := h
  refine ⟨P, fun x hx => Nat.lt_of_lt_of_le hx.2 hw, fun i hi => ?_, h2⟩
  obtain ⟨C, hv, hc⟩ := h1 i hi
  exact ⟨C, hv, fun c hc' => ⟨(hc c hc').1, (hc c hc').2.1, fun x hx => ⟨⟨((hc c hc').2.2 x hx).1, ((hc c hc').2.2 x hx).2.1⟩, ((hc c hc').2.2 x hx).2.2⟩⟩⟩
theorem RowsQ.step {w w' : World} {N N' : NetD} {S : Nat → Prop} {j : MI} {n : Nat} {f : Nat → Nat → D} {k : Nat} {P : Nat → Nat → Nat → Prop} (h : RowsQ w N S j n f k P) (st : NStep w N w' N') (hv : ∀ i, i < k → N'.val j (f i 0).int! = N.val j (f i 0).int!) : RowsQ w' N' S j n f k P := by
  obtain ⟨hw, h1, h2⟩ := h
  refine ⟨fun x hx => Nat.lt_of_lt_of_le (hw x hx) st.chg.size, fun i hi => ?_, h2⟩
  obtain ⟨C, hv1, hc⟩ := h1 i hi
  refine ⟨C, (hv i hi).trans hv1, fun c hc' => ?_⟩
  obtain ⟨a1, a2, a3⟩ := hc c hc'
  have key : ∀ x, P i c x → x < w.heap.size → w'.heap[x]? = w.heap[x]? := fun x hx hl => st.chg.block x hl (a3 x hx).2
  refine ⟨a1.carry st.chg.size key, a2.carry st.chg.size key, fun x hx => ⟨(a3 x hx).1, fun hn => ?_⟩⟩
  rcases st.own x hn with h3 | h3
  · exact (a3 x hx).2 h3
  · have := hw x (a3 x hx).1; omega
theorem RowsS.step {w w' : World} {N N' : NetD} {S : Nat → Prop} {j : MI} {n : Nat} {f : Nat → Nat → D} {k : Nat} (h : RowsS w N S j n f k) (st : NStep w N w' N') (hv : ∀ i, i < k → N'.val j (f i 0).int! = N.val j (f i 0).int!) : RowsS w' N' S j n f k := by
  obtain ⟨P, h⟩ := h
  exact ⟨P, h.step st hv⟩
theorem RowsS.ext {w w' : World} {N : NetD} {S : Nat → Prop} {j : MI} {n : Nat} {f : Nat → Nat → D} {k : Nat} (h : RowsS w N S j n f k) (e : Ext w w') : RowsS w' N S j n f k := h.step (NStep.ext N e) (fun _ _ => rfl)
/-- One row more, its leaves in new blocks. -/
theorem RowsS.push {w w' : World} {N N' : NetD} {S S' : Nat → Prop} {j : MI} {n : Nat} {f : Nat → Nat → D} {k : Nat} (h : RowsS w N S j n f k) (st : NStep w N w' N') (hv : ∀ i, i < k → N'.val j (f i 0).int! = N.val j (f i 0).int!) (hS : ∀ x, S x → S' x) (hS' : ∀ x, S' x → x < w'.heap.size)
    (C : Nat → Value) (hval : N'.val j (f k 0).int! = .agg ((List.range n).map C).toArray) (Q : Nat → Nat → Prop)
    (hq : ∀ c, c < n → DIn (Q c) w' (f k c) (C c) ∧ Own w' (f k c) (Q c) (C c) ∧ ∀ x, Q c x → w.heap.size ≤ x ∧ S' x ∧ ¬ NetR N' x) (hdq : ∀ c c', c < n → c' < n → c ≠ c' → ∀ x, Q c x → ¬ Q c' x) : RowsS w' N' S' j n f (k + 1) := by
  obtain ⟨P, h⟩ := h
  have hlow : ∀ i, i < k → ∀ c, c < n → ∀ x, P i c x → x < w.heap.size := fun i hi c hc x hx => by
    obtain ⟨_, _, hc0⟩ := h.2.1 i hi
    exact h.1 x ((hc0 c hc).2.2 x hx).1
  obtain ⟨hw, h1, h2⟩ := h.step st hv
  refine ⟨fun i c => if i = k then Q c else P i c, hS', fun i hi => ?_, fun i c i' c' hi hc hi' hc' hne x hx => ?_⟩
  · by_cases hik : i = k
    · subst hik
      refine ⟨C, hval, fun c hc => ?_⟩
      dsimp only
      rw [if_pos rfl]
      exact ⟨(hq c hc).1, (hq c hc).2.1, fun x hx => ⟨((hq c hc).2.2 x hx).2.1, ((hq c hc).2.2 x hx).2.2⟩⟩
    · obtain ⟨C', hv', hc'⟩ := h1 i (by omega)
      refine ⟨C', hv', fun c hc => ?_⟩
      dsimp only
      rw [if_neg hik]
      exact ⟨(hc' c hc).1, (hc' c hc).2.1, fun x hx => ⟨hS x ((hc' c hc).2.2 x hx).1, ((hc' c hc).2.2 x hx).2⟩⟩
  · dsimp only at hx ⊢
    by_cases e1 : i = k <;> by_cases e2 : i' = k
    · rw [if_pos e1] at hx
      rw [if_pos e2]
      exact hdq c c' hc hc' (fun h => hne ⟨by omega, h⟩) x hx
    · rw [if_pos e1] at hx
      rw [if_neg e2]
      intro hx2
      have := hlow i' (by omega) c' hc' x hx2
      have := ((hq c hc).2.2 x hx).1
      omega
    · rw [if_neg e1] at hx
      rw [if_pos e2]
      intro hx2
      have := hlow i (by omega) c hc x hx
      have := ((hq c' hc').2.2 x hx2).1
      omega
    · rw [if_neg e1] at hx
      rw [if_neg e2]
      exact h2 i c i' c' (by omega) hc (by omega) hc' hne x hx
/-- The rows are told of one list alone: another list that agrees on them will do. -/
theorem RowsS.congr {w : World} {N : NetD} {S : Nat → Prop} {j : MI} {n : Nat} {f g : Nat → Nat → D} {k : Nat} (h : RowsS w N S j n f k) (e : ∀ i, i < k → g i = f i) : RowsS w N S j n g k := by
  obtain ⟨P, h0, h1, h2⟩ := h
  exact ⟨P, h0, fun i hi => by rw [e i hi]; exact h1 i hi, h2⟩
/-- The cells, chosen. -/
theorem RowsQ.cells {w : World} {N : NetD} {S : Nat → Prop} {j : MI} {n : Nat} {f : Nat → Nat → D} {k : Nat} {P : Nat → Nat → Nat → Prop} (h : RowsQ w N S j n f k P) : ∃ C : Nat → Nat → Value, ∀ i, i < k → N.val j (f i 0).int! = .agg ((List.range n).map (C i)).toArray ∧ ∀ c, c < n → DIn (P i c) w (f i c) (C i c) ∧ Own w (f i c) (P i c) (C i c) ∧ ∀ x, P i c x → S x ∧ ¬ NetR N x := by
  refine ⟨fun i => if hi : i < k then Classical.choose (h.2.1 i hi) else fun _ => undef, fun i hi' => ?_⟩
  dsimp only
  rw [dif_pos hi']
  exact Classical.choose_spec (h.2.1 i hi')
end Go.Proofs.YtnhgnklapfhekaaGreat

/- What the tables' method list answers: a list out of the net's rows. -/
namespace Go.Proofs.YtnhgnklapfhekaaGreat
open Go.RowKit Go.Deep

theorem Tryz.infoNode : (Tryz.prog.info? 85).map (fun i => (i.zero, i.size, i.bytes)) = some (some (.agg #[.int .i64 0, .slice none 0 0, .slice none 0 0]), 3, 56) := by kernel_rfl
set_option maxRecDepth 100000 in
set_option maxHeartbeats 4000000 in
theorem listNode_any (w : World) (base0 c : Nat) (S : Nat → Prop) (N : NetD) (f : Nat → Nat → D) (len : Nat) (h : NetIn w base0 c N) (HRa : ∀ i, i < len → HasRow 4 (f i)) (hln : N.lists .n = (List.range len).map fun i => (f i 0).int!) (hkn : ∀ i, i < len → (f i 0).int! ∈ N.keys .n) (hrn : RowsS w N S .n 3 f len) (hl : len ≤ 1000) :
    Calls Tryz.prog 54 #[.pointer (some ⟨N.nb, 0, none⟩)] w fun e w' => ∃ a l c, e = .returned (.slice a l c) ∧ (DIn (fun x => S x ∨ w.heap.size ≤ x ∧ x < w'.heap.size) w' (.list 3 len f) (.slice a l c) ∧ Own w' (.list 3 len f) (fun x => S x ∨ w.heap.size ≤ x ∧ x < w'.heap.size) (.slice a l c)) ∧ Ext w w' := by
  obtain ⟨i0, hi0, hz0, hz1, hz2⟩ := info_parts Tryz.infoNode
  obtain ⟨a, cap, hrow⟩ := h.shape .n
  have hlen : (N.lists .n).length = len := by rw [hln]; simp
  rw [hlen] at hrow
  have c0 := h.c0
  rw [hrow] at c0
  have hcell : ∀ k, k < len → ∃ g, a = some ⟨g, 0, none⟩ ∧ g < w.heap.size ∧ w.cell? ⟨g, k, none⟩ = some (.int .i64 (f k 0).int!) := by
    intro k hk
    have ho := h.own .n
    rw [hrow, hlen] at ho
    rcases ho.2 with ⟨_, e⟩ | ⟨g, cap', cur, e, _⟩
    · omega
    · injection e with e1 _ _
      refine ⟨g, e1, (ho.lt g (by rw [e1]; rfl)).2, ?_⟩
      have := ho.cells (g := g) (by rw [e1]; rfl) k (.int .i64 (f k 0).int!) (by rw [List.getElem?_map, hln, List.getElem?_map, List.getElem?_range hk]; rfl)
      rw [Go.WideShapes.add_plain] at this
      simpa using this
  obtain ⟨P, hRP⟩ := hrn
  obtain ⟨C, hC⟩ := hRP.cells
  have hdis := hRP.2.2
  have hhi := hRP.1
  clear hRP
  go_enter Tryz.func54, Tryz.ntmps54
  go_wp2
  go_loopw [3, 11] (fun u i wr => ∃ k : Nat, k ≤ len ∧ i = .int .i64 k ∧ wr.ownsRow w.heap.size 85 3 u k (rowCells 3 C k) ∧ Ext w wr) (fun _ i _ => len - (intOf i).toNat)
  case atStart => exact ⟨0, Nat.zero_le _, rfl, World.ownsRow_nil _ _ _ _, Ext.refl _⟩
  case round =>
    obtain ⟨k, hk, rfl, hown, hE⟩ := hrel
    obtain ⟨ua, ucap, rfl⟩ : ∃ a cap, u3 = .slice a k cap := by
      rcases hown.2 with ⟨rfl, rfl⟩ | ⟨g, cap', cur, rfl, _⟩
      · exact ⟨_, _, rfl⟩
      · exact ⟨_, _, rfl⟩
    by_cases hlt : k < len
    · obtain ⟨g, rfl, hgl, e0⟩ := hcell k hlt
      rw [← hE.cell hgl] at e0
      have HR := HRa k hlt
      obtain ⟨id, hd⟩ := (show Has (f k 0) .int from HR 0 (by decide)).int
      have hidv : (f k 0).int! = id := by rw [hd]; rfl
      obtain ⟨hval, hCk⟩ := hC k hlt
      have b0 := (hCk 0 (by decide)).1
      rw [hd] at b0
      obtain ⟨v0, zid⟩ := b0.int_eq
      obtain ⟨a1, cap1, l1, f1, hD1, v1, _, _⟩ := list_shape (show Has (f k 1) (.list 0) from HR 1 (by decide)) (hCk 1 (by decide)).1
      clear hD1
      obtain ⟨a2, cap2, l2, f2, hD2, v2, _, _⟩ := list_shape (show Has (f k 2) (.list 3) from HR 2 (by decide)) (hCk 2 (by decide)).1
      clear hD2
      have hin := hkn k hlt
      have c1 := (h.ext hE).c1
      have hlook := ((h.ext hE).maps .n).look Tryz.underlying98 (zeroNode wr) (k := id) zid false
      rw [hidv] at hin hval e0
      simp only [Bool.false_eq_true, if_false, if_pos hin, hval] at hlook
      have hrc : (List.range 3).map (C k) = [.int .i64 id, .slice a1 l1 cap1, .slice a2 l2 cap2] := by
        show [C k 0, C k 1, C k 2] = _
        rw [v0, v1, v2]
      rw [hrc] at hlook
      have hnext : Hid (rowCells 3 C (k + 1) = rowCells 3 C k ++ [.int .i64 id, .slice a1 l1 cap1, .slice a2 l2 cap2]) := by show rowCells 3 C k ++ (List.range 3).map (C k) = _; rw [hrc]
      have hle := hE.le
      clear hCk hval b0 hrc hin v0 v1 v2
      go_wp2_with (at_builtin; refine wpList_append_own_at _ rfl _ _ 29 rfl w.heap.size 85 i0 _ 3 56 Tryz.underlying29 hi0 hz0 hz1 hz2 rfl (by decide) _ _ _ rfl (hown.alloc _) ⟨_, 0, none⟩ 1 1 [.int .i64 id, .slice a1 l1 cap1, .slice a2 l2 cap2] rfl rfl (World.news_of_block (cs := #[.int .i64 id, .slice a1 l1 cap1, .slice a2 l2 cap2]) (t := 85) (fr := (0, 0)) (heap_alloc_new _ _)) (by simp [Value.oneCell']) (by unfold maxLen; omega) (by omega) (by simp; omega) ?_; intro v' w3 hown' hgrow hnil hloc)
      go_roundw
      case rel => exact ⟨k + 1, by omega, by go_num, by rw [hnext.out]; exact hown', Below.grown (hE.alloc _) hgrow (by simp; omega) (fun j hj => (hown.lt j hj).1)⟩
      case measure => simp [intOf]; omega
    · have hkx : k = len := by omega
      subst hkx
      have hend : Hid _ := rows_end (S := S) hown (fun i hi' c hc => ⟨((hC i hi').2 c hc).1.ext hE, ((hC i hi').2 c hc).2.1.ext hE, fun x hx => (((hC i hi').2 c hc).2.2 x hx).1⟩) hdis hhi (by unfold maxLen; omega)
      clear hC
      go_wp2
      go_ret
      exact ⟨_, _, _, rfl, hend.out, hE⟩

theorem Tryz.infoEdge : (Tryz.prog.info? 90).map (fun i => (i.zero, i.size, i.bytes)) = some (some (.agg #[.int .i64 0, .string ⟨#[]⟩, .int .i64 0, .int .i64 0, .slice none 0 0]), 5, 64) := by kernel_rfl
set_option maxRecDepth 100000 in
set_option maxHeartbeats 4000000 in
theorem listEdge_any (w : World) (base0 c : Nat) (S : Nat → Prop) (N : NetD) (f : Nat → Nat → D) (len : Nat) (h : NetIn w base0 c N) (HRa : ∀ i, i < len → HasRow 5 (f i)) (hln : N.lists .e = (List.range len).map fun i => (f i 0).int!) (hkn : ∀ i, i < len → (f i 0).int! ∈ N.keys .e) (hrn : RowsS w N S .e 5 f len) (hl : len ≤ 1000) :
    Calls Tryz.prog 55 #[.pointer (some ⟨N.nb, 3, none⟩)] w fun e w' => ∃ a l c, e = .returned (.slice a l c) ∧ (DIn (fun x => S x ∨ w.heap.size ≤ x ∧ x < w'.heap.size) w' (.list 5 len f) (.slice a l c) ∧ Own w' (.list 5 len f) (fun x => S x ∨ w.heap.size ≤ x ∧ x < w'.heap.size) (.slice a l c)) ∧ Ext w w' := by
  obtain ⟨i0, hi0, hz0, hz1, hz2⟩ := info_parts Tryz.infoEdge
  obtain ⟨a, cap, hrow⟩ := h.shape .e
  have hlen : (N.lists .e).length = len := by rw [hln]; simp
  rw [hlen] at hrow
  have c0 := h.c3
  rw [hrow] at c0
  have hcell : ∀ k, k < len → ∃ g, a = some ⟨g, 0, none⟩ ∧ g < w.heap.size ∧ w.cell? ⟨g, k, none⟩ = some (.int .i64 (f k 0).int!) := by
    intro k hk
    have ho := h.own .e
    rw [hrow, hlen] at ho
    rcases ho.2 with ⟨_, e⟩ | ⟨g, cap', cur, e, _⟩
    · omega
    · injection e with e1 _ _
      refine ⟨g, e1, (ho.lt g (by rw [e1]; rfl)).2, ?_⟩
      have := ho.cells (g := g) (by rw [e1]; rfl) k (.int .i64 (f k 0).int!) (by rw [List.getElem?_map, hln, List.getElem?_map, List.getElem?_range hk]; rfl)
      rw [Go.WideShapes.add_plain] at this
      simpa using this
  obtain ⟨P, hRP⟩ := hrn
  obtain ⟨C, hC⟩ := hRP.cells
  have hdis := hRP.2.2
  have hhi := hRP.1
  clear hRP
  go_enter Tryz.func55, Tryz.ntmps55
  go_wp2
  go_loopw [3, 11] (fun u i wr => ∃ k : Nat, k ≤ len ∧ i = .int .i64 k ∧ wr.ownsRow w.heap.size 90 5 u k (rowCells 5 C k) ∧ Ext w wr) (fun _ i _ => len - (intOf i).toNat)
  case atStart => exact ⟨0, Nat.zero_le _, rfl, World.ownsRow_nil _ _ _ _, Ext.refl _⟩
  case round =>
    obtain ⟨k, hk, rfl, hown, hE⟩ := hrel
    obtain ⟨ua, ucap, rfl⟩ : ∃ a cap, u3 = .slice a k cap := by
      rcases hown.2 with ⟨rfl, rfl⟩ | ⟨g, cap', cur, rfl, _⟩
      · exact ⟨_, _, rfl⟩
      · exact ⟨_, _, rfl⟩
    by_cases hlt : k < len
    · obtain ⟨g, rfl, hgl, e0⟩ := hcell k hlt
      rw [← hE.cell hgl] at e0
      have HR := HRa k hlt
      obtain ⟨id, hd⟩ := (show Has (f k 0) .int from HR 0 (by decide)).int
      have hidv : (f k 0).int! = id := by rw [hd]; rfl
      obtain ⟨hval, hCk⟩ := hC k hlt
      have b0 := (hCk 0 (by decide)).1
      rw [hd] at b0
      obtain ⟨v0, zid⟩ := b0.int_eq
      obtain ⟨x1, hd1⟩ := (show Has (f k 1) .str from HR 1 (by decide)).str
      have b1 := (hCk 1 (by decide)).1
      rw [hd1] at b1
      have v1 := b1.str_eq.1
      obtain ⟨x2, hd2⟩ := (show Has (f k 2) .int from HR 2 (by decide)).int
      have b2 := (hCk 2 (by decide)).1
      rw [hd2] at b2
      have v2 := b2.int_eq.1
      obtain ⟨x3, hd3⟩ := (show Has (f k 3) .int from HR 3 (by decide)).int
      have b3 := (hCk 3 (by decide)).1
      rw [hd3] at b3
      have v3 := b3.int_eq.1
      obtain ⟨a4, cap4, l4, f4, hD4, v4, _, _⟩ := list_shape (show Has (f k 4) (.list 3) from HR 4 (by decide)) (hCk 4 (by decide)).1
      clear hD4
      have hin := hkn k hlt
      have c1 := (h.ext hE).c4
      have hlook := ((h.ext hE).maps .e).look Tryz.underlying102 (zeroEdge wr) (k := id) zid false
      rw [hidv] at hin hval e0
      simp only [Bool.false_eq_true, if_false, if_pos hin, hval] at hlook
      have hrc : (List.range 5).map (C k) = [.int .i64 id, .string x1, .int .i64 x2, .int .i64 x3, .slice a4 l4 cap4] := by
        show [C k 0, C k 1, C k 2, C k 3, C k 4] = _
        rw [v0, v1, v2, v3, v4]
      rw [hrc] at hlook
      have hnext : Hid (rowCells 5 C (k + 1) = rowCells 5 C k ++ [.int .i64 id, .string x1, .int .i64 x2, .int .i64 x3, .slice a4 l4 cap4]) := by show rowCells 5 C k ++ (List.range 5).map (C k) = _; rw [hrc]
      have hle := hE.le
      clear hCk hval b0 hrc hin v0 v1 v2 v3 v4
      go_wp2_with (at_builtin; refine wpList_append_own_at _ rfl _ _ 30 rfl w.heap.size 90 i0 _ 5 64 Tryz.underlying30 hi0 hz0 hz1 hz2 rfl (by decide) _ _ _ rfl (hown.alloc _) ⟨_, 0, none⟩ 1 1 [.int .i64 id, .string x1, .int .i64 x2, .int .i64 x3, .slice a4 l4 cap4] rfl rfl (World.news_of_block (cs := #[.int .i64 id, .string x1, .int .i64 x2, .int .i64 x3, .slice a4 l4 cap4]) (t := 90) (fr := (0, 0)) (heap_alloc_new _ _)) (by simp [Value.oneCell']) (by unfold maxLen; omega) (by omega) (by simp; omega) ?_; intro v' w3 hown' hgrow hnil hloc)
      go_roundw
      case rel => exact ⟨k + 1, by omega, by go_num, by rw [hnext.out]; exact hown', Below.grown (hE.alloc _) hgrow (by simp; omega) (fun j hj => (hown.lt j hj).1)⟩
      case measure => simp [intOf]; omega
    · have hkx : k = len := by omega
      subst hkx
      have hend : Hid _ := rows_end (S := S) hown (fun i hi' c hc => ⟨((hC i hi').2 c hc).1.ext hE, ((hC i hi').2 c hc).2.1.ext hE, fun x hx => (((hC i hi').2 c hc).2.2 x hx).1⟩) hdis hhi (by unfold maxLen; omega)
      clear hC
      go_wp2
      go_ret
      exact ⟨_, _, _, rfl, hend.out, hE⟩
end Go.Proofs.YtnhgnklapfhekaaGreat

/- What the net's method graph answers: the graph of its rows, in memory of its own. -/
namespace Go.Proofs.YtnhgnklapfhekaaGreat
open Go.RowKit Go.Deep

/-- The two lists of a graph, each in memory of its own, from block base on, apart from each other. -/
def GraphOwn (w : World) (base : Nat) (d0 d1 : D) (u0 u1 : Value) : Prop := ∃ Q0 Q1 : Nat → Prop, (DIn Q0 w d0 u0 ∧ Own w d0 Q0 u0 ∧ ∀ x, Q0 x → base ≤ x ∧ x < w.heap.size) ∧ (DIn Q1 w d1 u1 ∧ Own w d1 Q1 u1 ∧ ∀ x, Q1 x → base ≤ x ∧ x < w.heap.size) ∧ ∀ x, Q0 x → ¬ Q1 x

set_option maxRecDepth 100000 in
set_option maxHeartbeats 4000000 in
theorem netGraph_any (w : World) (base0 c base : Nat) (S0 S1 : Nat → Prop) (N : NetD) (f0 f1 : Nat → Nat → D) (len0 len1 : Nat) (h : NetIn w base0 c N) (HR0 : ∀ i, i < len0 → HasRow 4 (f0 i)) (HR1 : ∀ i, i < len1 → HasRow 5 (f1 i)) (hln : N.lists .n = (List.range len0).map fun i => (f0 i 0).int!) (hle : N.lists .e = (List.range len1).map fun i => (f1 i 0).int!) (hkn : ∀ i, i < len0 → (f0 i 0).int! ∈ N.keys .n) (hke : ∀ i, i < len1 → (f1 i 0).int! ∈ N.keys .e) (hrn : RowsS w N S0 .n 3 f0 len0) (hre : RowsS w N S1 .e 5 f1 len1) (hb0 : ∀ x, S0 x → base ≤ x) (hb1 : ∀ x, S1 x → base ≤ x) (hb : base ≤ w.heap.size) (hSS : ∀ x, S0 x → ¬ S1 x) (l0 : len0 ≤ 1000) (l1 : len1 ≤ 1000) :
    Calls Tryz.prog 26 #[.pointer (some ⟨N.nb, 0, none⟩)] w fun e w' => ∃ u0 u1, e = .returned (.agg #[u0, u1, .int .i64 N.nn, .int .i64 N.ne]) ∧ GraphOwn w' base (.list 3 len0 f0) (.list 5 len1 f1) u0 u1 ∧ Ext w w' := by
  have hlt0 : ∀ x, S0 x → x < w.heap.size := by obtain ⟨P, hP⟩ := hrn; exact hP.1
  have hlt1 : ∀ x, S1 x → x < w.heap.size := by obtain ⟨P, hP⟩ := hre; exact hP.1
  have hL0 := fun (W : World) (hW : Ext w W) => listNode_any W base0 c S0 N f0 len0 (h.ext hW) HR0 hln hkn (hrn.ext hW) l0
  have hL1 := fun (W : World) (hW : Ext w W) => listEdge_any W base0 c S1 N f1 len1 (h.ext hW) HR1 hle hke (hre.ext hW) l1
  have hnb : N.nb < w.heap.size := h.nb_lt
  have c2 := fun (W : World) (hW : Ext w W) => (h.ext hW).c2
  have c5 := fun (W : World) (hW : Ext w W) => (h.ext hW).c5
  go_enter Tryz.func26, Tryz.ntmps26
  go_upto_region 1 with fail
  generalize hWa : w.alloc _ = Wa
  have hEa : Ext w Wa := by subst hWa; exact (Ext.refl _).alloc _
  have hza : Wa.heap.size = w.heap.size + 1 := by subst hWa; simp
  have hbx : ∀ W, Ext Wa W → (W.cell? ⟨w.heap.size, 0, none⟩ = some (.slice none 0 0) ∧ W.cell? ⟨w.heap.size, 1, none⟩ = some (.slice none 0 0) ∧ W.cell? ⟨w.heap.size, 2, none⟩ = some (.int .i64 0) ∧ W.cell? ⟨w.heap.size, 3, none⟩ = some (.int .i64 0)) ∧ ∀ o, W.frozen? ⟨w.heap.size, o, none⟩ = false := fun W hW => by
    subst hWa
    exact ⟨⟨box_cell hW 0 _ rfl, box_cell hW 1 _ rfl, box_cell hW 2 _ rfl, box_cell hW 3 _ rfl⟩, fun o => by rw [(bcell hW).2 _ _ (by simp)]; simp⟩
  clear hWa
  have HK : Hid (∀ W, Chg (fun x => x = w.heap.size) Wa W → W.cell? ⟨N.nb, 2, none⟩ = some (.int .i64 N.nn) ∧ W.cell? ⟨N.nb, 5, none⟩ = some (.int .i64 N.ne)) := fun W hW => by
    have hx : ∀ k, W.cell? ⟨N.nb, k, none⟩ = Wa.cell? ⟨N.nb, k, none⟩ := fun k => World.cell?_of_block (hW.block N.nb (by omega) (by omega))
    exact ⟨(hx 2).trans (c2 _ hEa), (hx 5).trans (c5 _ hEa)⟩
  clear c2 c5
  have hcur : Chg (fun x => x = w.heap.size) Wa Wa.drew := Chg.of_ext (Ext.refl _).drew
  have hed : Ext Wa Wa.drew := (Ext.refl _).drew
  refine wp_region_held_drew (S := (fun W => W.cell? ⟨N.nb, 2, none⟩ = some (.int .i64 N.nn) ∧ W.cell? ⟨N.nb, 5, none⟩ = some (.int .i64 N.ne))) (by kernel_rfl) (HK.out _ hcur) (fun hHeld => ?_)
  refine wpAnyH_take (i := 0) (oi := ⟨some 3, .move (.tmp 0), 63, _, #[], none⟩) (v := ?_) rfl (by kernel_rfl) (by kernel_rfl) (by kernel_rfl) (fun _ _ _ h => h) (Or.inl ⟨by rfl, ?yyA0⟩) hHeld ?rrA0
  case yyA0 => (intro w hSw; (try dsimp only at hSw); go_simp; first | done | with_reducible rfl)
  try simp only [Act.put, putA, putB, putC]
  refine wpAnyH_take (i := 1) (oi := ⟨some 4, .nilCheck (.tmp 3), 0, _, #[⟨0, .data⟩], none⟩) (v := ?_) rfl (by kernel_rfl) (by kernel_rfl) (by kernel_rfl) (fun _ _ _ h => h) (Or.inl ⟨by rfl, ?yyA1⟩) hHeld ?rrA1
  case yyA1 => (intro w hSw; (try dsimp only at hSw); go_simp; first | done | with_reducible rfl)
  try simp only [Act.put, putA, putB, putC]
  refine wpAnyH_take (i := 2) (oi := ⟨some 5, .fieldAddr 108 (.tmp 4) 0, 0, _, #[⟨1, .data⟩], none⟩) (v := ?_) rfl (by kernel_rfl) (by kernel_rfl) (by kernel_rfl) (fun _ _ _ h => h) (Or.inl ⟨by rfl, ?yyA2⟩) hHeld ?rrA2
  case yyA2 => (intro w hSw; (try dsimp only at hSw); go_simp; first | done | with_reducible rfl)
  try simp only [Act.put, putA, putB, putC]
  refine wpAnyH_take (i := 4) (oi := ⟨some 7, .move (.tmp 0), 63, _, #[], none⟩) (v := ?_) rfl (by kernel_rfl) (by kernel_rfl) (by kernel_rfl) (fun _ _ _ h => h) (Or.inl ⟨by rfl, ?yyA4⟩) hHeld ?rrA4
  case yyA4 => (intro w hSw; (try dsimp only at hSw); go_simp; first | done | with_reducible rfl)
  try simp only [Act.put, putA, putB, putC]
  refine wpAnyH_take (i := 5) (oi := ⟨some 8, .nilCheck (.tmp 7), 0, _, #[⟨4, .data⟩], none⟩) (v := ?_) rfl (by kernel_rfl) (by kernel_rfl) (by kernel_rfl) (fun _ _ _ h => h) (Or.inl ⟨by rfl, ?yyA5⟩) hHeld ?rrA5
  case yyA5 => (intro w hSw; (try dsimp only at hSw); go_simp; first | done | with_reducible rfl)
  try simp only [Act.put, putA, putB, putC]
  refine wpAnyH_take (i := 6) (oi := ⟨some 9, .fieldAddr 108 (.tmp 8) 1, 0, _, #[⟨5, .data⟩], none⟩) (v := ?_) rfl (by kernel_rfl) (by kernel_rfl) (by kernel_rfl) (fun _ _ _ h => h) (Or.inl ⟨by rfl, ?yyA6⟩) hHeld ?rrA6
  case yyA6 => (intro w hSw; (try dsimp only at hSw); go_simp; first | done | with_reducible rfl)
  try simp only [Act.put, putA, putB, putC]
  refine wpAnyH_take (i := 8) (oi := ⟨some 11, .move (.tmp 0), 63, _, #[], none⟩) (v := ?_) rfl (by kernel_rfl) (by kernel_rfl) (by kernel_rfl) (fun _ _ _ h => h) (Or.inl ⟨by rfl, ?yyA8⟩) hHeld ?rrA8
  case yyA8 => (intro w hSw; (try dsimp only at hSw); go_simp; first | done | with_reducible rfl)
  try simp only [Act.put, putA, putB, putC]
  refine wpAnyH_take (i := 9) (oi := ⟨some 12, .nilCheck (.tmp 11), 0, _, #[⟨8, .data⟩], none⟩) (v := ?_) rfl (by kernel_rfl) (by kernel_rfl) (by kernel_rfl) (fun _ _ _ h => h) (Or.inl ⟨by rfl, ?yyA9⟩) hHeld ?rrA9
  case yyA9 => (intro w hSw; (try dsimp only at hSw); go_simp; first | done | with_reducible rfl)
  try simp only [Act.put, putA, putB, putC]
  refine wpAnyH_take (i := 10) (oi := ⟨some 13, .fieldAddr 108 (.tmp 12) 0, 0, _, #[⟨9, .data⟩], none⟩) (v := ?_) rfl (by kernel_rfl) (by kernel_rfl) (by kernel_rfl) (fun _ _ _ h => h) (Or.inl ⟨by rfl, ?yyA10⟩) hHeld ?rrA10
  case yyA10 => (intro w hSw; (try dsimp only at hSw); go_simp; first | done | with_reducible rfl)
  try simp only [Act.put, putA, putB, putC]
  refine wpAnyH_take (i := 11) (oi := ⟨some 14, .fieldAddr 100 (.tmp 13) 2, 0, _, #[⟨10, .data⟩], none⟩) (v := ?_) rfl (by kernel_rfl) (by kernel_rfl) (by kernel_rfl) (fun _ _ _ h => h) (Or.inl ⟨by rfl, ?yyA11⟩) hHeld ?rrA11
  case yyA11 => (intro w hSw; (try dsimp only at hSw); go_simp; first | done | with_reducible rfl)
  try simp only [Act.put, putA, putB, putC]
  refine wpAnyH_take (i := 12) (oi := ⟨some 15, .load 3 (.tmp 14), 3, _, #[⟨11, .data⟩], none⟩) (v := ?_) rfl (by kernel_rfl) (by kernel_rfl) (by kernel_rfl) (fun _ _ _ h => h) (Or.inl ⟨by rfl, ?yyA12⟩) hHeld ?rrA12
  case yyA12 => (intro w hSw; (try dsimp only at hSw); go_simp; first | done | with_reducible rfl)
  try simp only [Act.put, putA, putB, putC]
  refine wpAnyH_take (i := 13) (oi := ⟨some 16, .move (.tmp 0), 63, _, #[], none⟩) (v := ?_) rfl (by kernel_rfl) (by kernel_rfl) (by kernel_rfl) (fun _ _ _ h => h) (Or.inl ⟨by rfl, ?yyA13⟩) hHeld ?rrA13
  case yyA13 => (intro w hSw; (try dsimp only at hSw); go_simp; first | done | with_reducible rfl)
  try simp only [Act.put, putA, putB, putC]
  refine wpAnyH_take (i := 14) (oi := ⟨some 17, .nilCheck (.tmp 16), 0, _, #[⟨13, .data⟩], none⟩) (v := ?_) rfl (by kernel_rfl) (by kernel_rfl) (by kernel_rfl) (fun _ _ _ h => h) (Or.inl ⟨by rfl, ?yyA14⟩) hHeld ?rrA14
  case yyA14 => (intro w hSw; (try dsimp only at hSw); go_simp; first | done | with_reducible rfl)
  try simp only [Act.put, putA, putB, putC]
  refine wpAnyH_take (i := 15) (oi := ⟨some 18, .fieldAddr 108 (.tmp 17) 1, 0, _, #[⟨14, .data⟩], none⟩) (v := ?_) rfl (by kernel_rfl) (by kernel_rfl) (by kernel_rfl) (fun _ _ _ h => h) (Or.inl ⟨by rfl, ?yyA15⟩) hHeld ?rrA15
  case yyA15 => (intro w hSw; (try dsimp only at hSw); go_simp; first | done | with_reducible rfl)
  try simp only [Act.put, putA, putB, putC]
  refine wpAnyH_take (i := 16) (oi := ⟨some 19, .fieldAddr 104 (.tmp 18) 2, 0, _, #[⟨15, .data⟩], none⟩) (v := ?_) rfl (by kernel_rfl) (by kernel_rfl) (by kernel_rfl) (fun _ _ _ h => h) (Or.inl ⟨by rfl, ?yyA16⟩) hHeld ?rrA16
  case yyA16 => (intro w hSw; (try dsimp only at hSw); go_simp; first | done | with_reducible rfl)
  try simp only [Act.put, putA, putB, putC]
  refine wpAnyH_take (i := 17) (oi := ⟨some 20, .load 3 (.tmp 19), 3, _, #[⟨16, .data⟩], none⟩) (v := ?_) rfl (by kernel_rfl) (by kernel_rfl) (by kernel_rfl) (fun _ _ _ h => h) (Or.inl ⟨by rfl, ?yyA17⟩) hHeld ?rrA17
  case yyA17 => (intro w hSw; (try dsimp only at hSw); go_simp; first | done | with_reducible rfl)
  try simp only [Act.put, putA, putB, putC]
  refine wpAnyH_ready (rs := [3]) (by kernel_rfl) (by simp) ?_
  refine AllReadyH.cons (o := ⟨some 6, .call { callee := .value (.func 54), args := #[.tmp 5], argTypes := #[100] }, 29, _, #[⟨2, .data⟩], none⟩) rfl (fun K hK => ?_) (AllReadyH.nil)
  go_simp
  refine (hL0 _ (hEa.trans hed)).mono ?_
  rintro e w1 ⟨ua, ul, uc, rfl, ⟨hD0, hO0⟩, hE1⟩
  replace hed := hed.trans hE1
  replace hcur : Chg (fun x => x = w.heap.size) Wa w1 := Chg.of_ext hed
  go_wp2_with fail
  refine hK.out _ _ (HK.out _ hcur) (fun hHeld => ?_)
  clear hK K
  try simp only [Act.put, putA, putB, putC]
  refine wpAnyH_ready (rs := [7]) (by kernel_rfl) (by simp) ?_
  refine AllReadyH.cons (o := ⟨some 10, .call { callee := .value (.func 55), args := #[.tmp 9], argTypes := #[104] }, 30, _, #[⟨6, .data⟩, ⟨3, .chain⟩], none⟩) rfl (fun K hK => ?_) (AllReadyH.nil)
  go_simp
  refine (hL1 _ (hEa.trans hed)).mono ?_
  rintro e w2 ⟨va, vl, vc, rfl, ⟨hD1, hO1⟩, hE2⟩
  replace hed := hed.trans hE2
  replace hcur : Chg (fun x => x = w.heap.size) Wa w2 := Chg.of_ext hed
  go_wp2_with fail
  refine hK.out _ _ (HK.out _ hcur) (fun hHeld => ?_)
  clear hK K
  try simp only [Act.put, putA, putB, putC]
  refine wpAnyH_take (i := 18) (oi := ⟨some 21, .build 32 #[(0, .tmp 6), (1, .tmp 10), (2, .tmp 15), (3, .tmp 20)], 32, _, #[⟨3, .data⟩, ⟨7, .data⟩, ⟨12, .data⟩, ⟨17, .data⟩], none⟩) (v := ?_) rfl (by kernel_rfl) (by kernel_rfl) (by kernel_rfl) (fun _ _ _ h => h) (Or.inl ⟨by rfl, ?yyA18⟩) hHeld ?rrA18
  case yyA18 => (intro w hSw; (try dsimp only at hSw); go_simp; first | done | with_reducible rfl)
  try simp only [Act.put, putA, putB, putC]
  obtain ⟨⟨b0, b1, b2, b3⟩, fz⟩ := hbx w2 hed
  have z0 := fz 0
  have z1 := fz 1
  have z2 := fz 2
  have z3 := fz 3
  clear fz
  refine wpAnyH_ready (rs := [19]) (by kernel_rfl) (by simp) ?_
  refine AllReadyH.cons (o := ⟨none, .store 32 (.tmp 2) (.tmp 21), 0, _, #[⟨18, .data⟩, ⟨7, .chain⟩, ⟨0, .phase⟩, ⟨1, .phase⟩, ⟨2, .phase⟩, ⟨3, .phase⟩, ⟨4, .phase⟩, ⟨5, .phase⟩, ⟨6, .phase⟩, ⟨7, .phase⟩, ⟨8, .phase⟩, ⟨9, .phase⟩, ⟨10, .phase⟩, ⟨11, .phase⟩, ⟨12, .phase⟩, ⟨13, .phase⟩, ⟨14, .phase⟩, ⟨15, .phase⟩, ⟨16, .phase⟩, ⟨17, .phase⟩, ⟨18, .phase⟩], none⟩) rfl (fun K hK => ?_) (AllReadyH.nil)
  go_simp
  replace hcur := (((hcur.setCell (p := ⟨w.heap.size, 0, none⟩) rfl (.slice ua ul uc)).setCell (p := ⟨w.heap.size, 1, none⟩) rfl (.slice va vl vc)).setCell (p := ⟨w.heap.size, 2, none⟩) rfl (.int .i64 N.nn)).setCell (p := ⟨w.heap.size, 3, none⟩) rfl (.int .i64 N.ne)
  refine hK.out _ _ (HK.out _ hcur) (fun hHeld => ?_)
  clear hK K
  try simp only [Act.put, putA, putB, putC]
  refine wpAnyH_done (by kernel_rfl) ?_ _
  have s1 := hE1.le
  have s2 := hE2.le
  have s0 : Wa.drew.heap.size = w.heap.size + 1 := hza
  rw [s0] at hD0 hO0 s1
  have n0 : ¬ (fun x => S0 x ∨ w.heap.size + 1 ≤ x ∧ x < w1.heap.size) w.heap.size := fun hx => by rcases hx with hx | hx; (have := hlt0 _ hx; omega); omega
  have n1 : ¬ (fun x => S1 x ∨ w1.heap.size ≤ x ∧ x < w2.heap.size) w.heap.size := fun hx => by rcases hx with hx | hx; (have := hlt1 _ hx; omega); omega
  have D0' := ((((hD0.ext hE2).setCell (p := ⟨w.heap.size, 0, none⟩) n0 (.slice ua ul uc)).setCell (p := ⟨w.heap.size, 1, none⟩) n0 (.slice va vl vc)).setCell (p := ⟨w.heap.size, 2, none⟩) n0 (.int .i64 N.nn)).setCell (p := ⟨w.heap.size, 3, none⟩) n0 (.int .i64 N.ne)
  have O0' := ((((hO0.ext hE2).setCell (p := ⟨w.heap.size, 0, none⟩) n0 (.slice ua ul uc)).setCell (p := ⟨w.heap.size, 1, none⟩) n0 (.slice va vl vc)).setCell (p := ⟨w.heap.size, 2, none⟩) n0 (.int .i64 N.nn)).setCell (p := ⟨w.heap.size, 3, none⟩) n0 (.int .i64 N.ne)
  have D1' := (((hD1.setCell (p := ⟨w.heap.size, 0, none⟩) n1 (.slice ua ul uc)).setCell (p := ⟨w.heap.size, 1, none⟩) n1 (.slice va vl vc)).setCell (p := ⟨w.heap.size, 2, none⟩) n1 (.int .i64 N.nn)).setCell (p := ⟨w.heap.size, 3, none⟩) n1 (.int .i64 N.ne)
  have O1' := (((hO1.setCell (p := ⟨w.heap.size, 0, none⟩) n1 (.slice ua ul uc)).setCell (p := ⟨w.heap.size, 1, none⟩) n1 (.slice va vl vc)).setCell (p := ⟨w.heap.size, 2, none⟩) n1 (.int .i64 N.nn)).setCell (p := ⟨w.heap.size, 3, none⟩) n1 (.int .i64 N.ne)
  have hEf : Ext w ((((w2.setCell ⟨w.heap.size, 0, none⟩ (.slice ua ul uc)).setCell ⟨w.heap.size, 1, none⟩ (.slice va vl vc)).setCell ⟨w.heap.size, 2, none⟩ (.int .i64 N.nn)).setCell ⟨w.heap.size, 3, none⟩ (.int .i64 N.ne)) := (((((hEa.trans hed).setCell (Nat.le_refl _) _).setCell (Nat.le_refl _) _).setCell (Nat.le_refl _) _).setCell (Nat.le_refl _) _)
  clear hD0 hO0 hD1 hO1 HK hHeld
  have HD : Hid _ := And.intro (And.intro D0' O0') (And.intro D1' O1')
  clear D0' O0' D1' O1'
  go_wp2
  refine bodyPost_ret (v := .agg #[.slice ua ul uc, .slice va vl vc, .int .i64 N.nn, .int .i64 N.ne]) (by simp [results, Tryz.results26, go_sem, b0, b1, b2, b3]) rfl ⟨_, _, rfl, ⟨_, _, ⟨HD.out.1.1, HD.out.1.2, fun x hx => ?_⟩, ⟨HD.out.2.1, HD.out.2.2, fun x hx => ?_⟩, fun x hx hx' => ?_⟩, hEf⟩
  · simp only [World.size_setCell]
    rcases hx with hx | hx
    · have := hlt0 _ hx; have := hb0 _ hx; omega
    · omega
  · simp only [World.size_setCell]
    rcases hx with hx | hx
    · have := hlt1 _ hx; have := hb1 _ hx; omega
    · omega
  · rcases hx with hx | hx <;> rcases hx' with hx' | hx'
    · exact hSS x hx hx'
    · have := hlt0 _ hx; omega
    · have := hlt1 _ hx'; omega
    · omega
end Go.Proofs.YtnhgnklapfhekaaGreat
