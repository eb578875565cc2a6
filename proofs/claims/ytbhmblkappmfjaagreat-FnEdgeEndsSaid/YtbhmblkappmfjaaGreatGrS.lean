/- A row in memory of its own, within a set of blocks; texts appended to a row that has none. -/
import Derived.Test.YtbhmblkappmfjaaGreatWithSpec
import Derived.Test.YtbhmblkappmfjaaGreatNetM
import Derived.Deep.AppendLies
import Derived.Test.YtbhmblkappmfjaaGreatDa
namespace Go.Proofs.YtbhmblkappmfjaaGreat
open Go.RowKit Go.Deep

/-- The slice u owns a row of k elements of n cells each, which read as f; all of it in blocks of S, each leaf in memory of its own. -/
def GRow (w : World) (S : Nat → Prop) (base : Nat) (T : TypeId) (n : Nat) (f : Nat → Nat → D) (k : Nat) (u : Value) (cs : List Value) : Prop :=
  w.ownsRow base T n u k cs ∧ (∀ x, u.ownBlock = some x → S x) ∧ (∀ x, S x → x < w.heap.size) ∧ ∃ P : Nat → Nat → Nat → Prop,
    (∀ i, i < k → ∀ j, j < n → ∃ c, cs[i * n + j]? = some c ∧ DIn (P i j) w (f i j) c ∧ Own w (f i j) (P i j) c ∧ ∀ x, P i j x → S x ∧ u.ownBlock ≠ some x) ∧
    (∀ i j i' j', i < k → j < n → i' < k → j' < n → ¬ (i = i' ∧ j = j') → ∀ x, P i j x → ¬ P i' j' x)
theorem GRow.of {w : World} {base : Nat} {T : TypeId} {n : Nat} {f : Nat → Nat → D} {k : Nat} {u : Value} {cs : List Value} (h : GSt w base T n f k u cs) : GRow w (New base w.heap.size) base T n f k u cs := by
  obtain ⟨hr, P, hl, hd⟩ := h
  refine ⟨hr, fun x hx => hr.lt x hx, fun x hx => hx.2, P, fun i hi j hj => ?_, hd⟩
  obtain ⟨c, h1, h2, h3, h4⟩ := hl i hi j hj
  exact ⟨c, h1, h2, h3, fun x hx => ⟨⟨(h4 x hx).1, (h4 x hx).2.1⟩, (h4 x hx).2.2⟩⟩
theorem ownsRow_at {w w' : World} {base : Nat} {T : TypeId} {n : Nat} {k : Nat} {u : Value} {cs : List Value} (h : w.ownsRow base T n u k cs) (e : ∀ x, u.ownBlock = some x → w'.heap[x]? = w.heap[x]?) : w'.ownsRow base T n u k cs := by
  refine ⟨h.1, ?_⟩
  rcases h.2 with h2 | ⟨g, cap, cur, rfl, hb, hg, h3⟩
  · exact .inl h2
  · exact .inr ⟨g, cap, cur, rfl, hb, by rw [e g rfl]; exact hg, h3⟩
theorem GRow.chg {w w' : World} {S R : Nat → Prop} {base : Nat} {T : TypeId} {n : Nat} {f : Nat → Nat → D} {k : Nat} {u : Value} {cs : List Value} (h : GRow w S base T n f k u cs) (c : Chg R w w') (hR : ∀ x, S x → ¬ R x) : GRow w' S base T n f k u cs := by
  obtain ⟨hr, hu, hs, P, hl, hd⟩ := h
  have e : ∀ x, S x → w'.heap[x]? = w.heap[x]? := fun x hx => c.block x (hs x hx) (hR x hx)
  refine ⟨ownsRow_at hr (fun x hx => e x (hu x hx)), hu, fun x hx => Nat.lt_of_lt_of_le (hs x hx) c.size, P, fun i hi j hj => ?_, hd⟩
  obtain ⟨v, h1, h2, h3, h4⟩ := hl i hi j hj
  exact ⟨v, h1, h2.carry c.size (fun b hb _ => e b (h4 b hb).1), h3.carry c.size (fun b hb _ => e b (h4 b hb).1), h4⟩
theorem GRow.ext {w w' : World} {S : Nat → Prop} {base : Nat} {T : TypeId} {n : Nat} {f : Nat → Nat → D} {k : Nat} {u : Value} {cs : List Value} (h : GRow w S base T n f k u cs) (e : Ext w w') : GRow w' S base T n f k u cs := h.chg (R := fun _ => False) (Chg.of_ext e) (fun _ _ h => h)
theorem GRow.congr {w : World} {S : Nat → Prop} {base : Nat} {T : TypeId} {n : Nat} {f g : Nat → Nat → D} {k : Nat} {u : Value} {cs : List Value} (h : GRow w S base T n f k u cs) (e : ∀ i, i < k → g i = f i) : GRow w S base T n g k u cs := by
  obtain ⟨hr, hu, hs, P, hl, hd⟩ := h
  exact ⟨hr, hu, hs, P, fun i hi => by rw [e i hi]; exact hl i hi, hd⟩
theorem GRow.shape {w : World} {S : Nat → Prop} {base : Nat} {T : TypeId} {n : Nat} {f : Nat → Nat → D} {k : Nat} {u : Value} {cs : List Value} (h : GRow w S base T n f k u cs) : ∃ a cap, u = .slice a k cap := by
  rcases h.1.2 with ⟨rfl, rfl⟩ | ⟨g, cap, cur, rfl, _⟩
  · exact ⟨_, _, rfl⟩
  · exact ⟨_, _, rfl⟩
theorem GRow.push {w0 w1 w3 : World} {S S' : Nat → Prop} {base : Nat} {T : TypeId} {n : Nat} {f : Nat → Nat → D} {k : Nat} {u v' : Value} {cs : List Value} (h : GRow w0 S base T n f k u cs) (e : Ext w0 w1) (us : List Value) (hu : us.length = n) (Q : Nat → Nat → Prop)
    (hq : ∀ j, j < n → DIn (Q j) w1 (f k j) (us.getD j undef) ∧ Own w1 (f k j) (Q j) (us.getD j undef) ∧ ∀ x, Q j x → w0.heap.size ≤ x ∧ x < w1.heap.size ∧ S' x)
    (hdq : ∀ j j', j < n → j' < n → j ≠ j' → ∀ x, Q j x → ¬ Q j' x) (hS : ∀ x, S x → S' x) (hS' : ∀ x, S' x → x < w3.heap.size) (hnew : v'.ownBlock = some w1.heap.size → S' w1.heap.size)
    (hown : w3.ownsRow base T n v' (k + 1) (cs ++ us)) (hg : w1.grownBy w3 u.ownBlock) (hloc : v'.ownBlock = u.ownBlock ∨ v'.ownBlock = some w1.heap.size) : GRow w3 S' base T n f (k + 1) v' (cs ++ us) := by
  obtain ⟨hr, hub, hs, P, hl, hd⟩ := h
  have hlen : cs.length = k * n := hr.1
  have hult : ∀ x, u.ownBlock = some x → x < w0.heap.size := fun x hx => (hr.lt x hx).2
  have hsz := hg.size
  have carD : ∀ {S : Nat → Prop} {d : D} {v : Value}, (∀ x, S x → u.ownBlock ≠ some x) → DIn S w1 d v → DIn S w3 d v := fun hS h => h.carry hsz (fun b hb hlt => hg.block b hlt (fun e => hS b hb e.symm))
  have carO : ∀ {S : Nat → Prop} {d : D} {v : Value}, (∀ x, S x → u.ownBlock ≠ some x) → Own w1 d S v → Own w3 d S v := fun hS h => h.carry hsz (fun b hb hlt => hg.block b hlt (fun e => hS b hb e.symm))
  have away : ∀ x, x < w1.heap.size → u.ownBlock ≠ some x → v'.ownBlock ≠ some x := by
    intro x hx hne
    rcases hloc with e | e
    · rw [e]; exact hne
    · rw [e]; intro e2; cases e2; omega
  refine ⟨hown, fun x hx => ?_, hS', fun i j => if i = k then Q j else P i j, fun i hi j hj => ?_, fun i j i' j' hi hj hi' hj' hne x hx => ?_⟩
  · rcases hloc with e | e
    · exact hS x (hub x (by rw [← e]; exact hx))
    · rw [e] at hx; cases hx; exact hnew e
  · by_cases hik : i = k
    · subst hik
      obtain ⟨q1, q2, q3⟩ := hq j hj
      have hS : ∀ x, Q j x → u.ownBlock ≠ some x := fun x hx e2 => by have := hult x e2; have := (q3 x hx).1; omega
      refine ⟨us.getD j undef, ?_, ?_, ?_, ?_⟩
      · rw [List.getElem?_append_right (by omega), show i * n + j - cs.length = j by omega, List.getD_eq_getElem?_getD, List.getElem?_eq_getElem (by omega)]; rfl
      · dsimp only; rw [if_pos rfl]; exact carD hS q1
      · dsimp only; rw [if_pos rfl]; exact carO hS q2
      · dsimp only; rw [if_pos rfl]; exact fun x hx => ⟨(q3 x hx).2.2, away x (q3 x hx).2.1 (hS x hx)⟩
    · have hi2 : i < k := by omega
      obtain ⟨c, h1, h2, h3, h4⟩ := hl i hi2 j hj
      have hlt := at_lt hi2 hj
      refine ⟨c, by rw [List.getElem?_append_left (by omega)]; exact h1, ?_, ?_, ?_⟩
      · dsimp only; rw [if_neg hik]; exact carD (fun x hx => (h4 x hx).2) (h2.ext e)
      · dsimp only; rw [if_neg hik]; exact carO (fun x hx => (h4 x hx).2) (h3.ext e)
      · dsimp only; rw [if_neg hik]; exact fun x hx => ⟨hS x (h4 x hx).1, away x (Nat.lt_of_lt_of_le (hs x (h4 x hx).1) e.le) (h4 x hx).2⟩
  · dsimp only at hx ⊢
    by_cases h1 : i = k <;> by_cases h2 : i' = k
    · rw [if_pos h1] at hx
      rw [if_pos h2]
      exact hdq j j' hj hj' (fun h => hne ⟨by omega, h⟩) x hx
    · rw [if_pos h1] at hx
      rw [if_neg h2]
      intro hx2
      obtain ⟨_, _, _, _, h4⟩ := hl i' (by omega) j' hj'
      have := hs x (h4 x hx2).1
      have := ((hq j hj).2.2 x hx).1
      omega
    · rw [if_neg h1] at hx
      rw [if_pos h2]
      intro hx2
      obtain ⟨_, _, _, _, h4⟩ := hl i (by omega) j hj
      have := hs x (h4 x hx).1
      have := ((hq j' hj').2.2 x hx2).1
      omega
    · rw [if_neg h1] at hx
      rw [if_neg h2]
      exact hd i j i' j' (by omega) hj (by omega) hj' hne x hx
theorem GRow.end {w : World} {S : Nat → Prop} {base : Nat} {T : TypeId} {n : Nat} {f : Nat → Nat → D} {k : Nat} {u : Value} {cs : List Value} (h : GRow w S base T n f k u cs) (hk : k ≤ maxLen) :
    DIn S w (.list n k f) u ∧ Own w (.list n k f) S u := by
  obtain ⟨hr, hub, hs, P, hl, hd⟩ := h
  rcases hr.2 with ⟨rfl, rfl⟩ | ⟨g, cap, cur, rfl, hb, hg, _⟩
  · exact ⟨⟨none, 0, 0, 0, rfl, Nat.zero_le _, fun h => by omega, fun i hi => by omega⟩, ⟨none, 0, 0, 0, fun _ _ _ => False, rfl, fun h => by omega, fun i _ hi => by omega, fun i _ _ _ hi => by omega, fun i hi => by omega⟩⟩
  · have hglt : g < w.heap.size := lt_of_block hg
    have hgS : S g := hub g rfl
    have hfz : ∀ o, w.frozen? ⟨g, o, none⟩ = false := fun o => by simp [World.frozen?, hg]
    have hcell : ∀ (o : Nat) (c : Value), cs[o]? = some c → w.cell? ⟨g, 0 + o, none⟩ = some c := by
      intro o c hc
      have := hr.cells (g := g) rfl o c hc
      rw [Go.WideShapes.add_plain] at this
      exact this
    constructor
    · refine ⟨_, cap, g, 0, rfl, hk, fun _ => ⟨rfl, hgS, hglt⟩, fun i hi j hj => ?_⟩
      obtain ⟨c, h1, h2, h3, h4⟩ := hl i hi j hj
      exact ⟨c, by rw [Nat.add_assoc]; exact hcell _ _ h1, h2.mono (fun x hx => (h4 x hx).1)⟩
    · refine ⟨_, cap, g, 0, P, rfl, fun _ => ⟨rfl, hgS, hglt, hfz⟩, fun i j hi hj x hx => ?_, hd, fun i hi j hj => ?_⟩
      · obtain ⟨_, _, _, _, h4⟩ := hl i hi j hj
        exact ⟨(h4 x hx).1, fun e => (h4 x hx).2 (by rw [e]; rfl)⟩
      · obtain ⟨c, h1, h2, h3, h4⟩ := hl i hi j hj
        exact ⟨c, by rw [Nat.add_assoc]; exact hcell _ _ h1, h3⟩
/-- A block below the row's may be written. -/
theorem GSt.setLow {w : World} {base : Nat} {T : TypeId} {n : Nat} {f : Nat → Nat → D} {k : Nat} {u : Value} {cs : List Value} (h : GSt w base T n f k u cs) {p : Addr} (hp : p.block < base) (v : Value) : GSt (w.setCell p v) base T n f k u cs := by
  obtain ⟨hr, P, hl, hd⟩ := h
  have e : ∀ x, base ≤ x → (w.setCell p v).heap[x]? = w.heap[x]? := fun x hx => Below.heap_setCell _ _ _ _ (by omega)
  refine ⟨ownsRow_at hr (fun x hx => e x (hr.lt x hx).1), P, fun i hi j hj => ?_, hd⟩
  obtain ⟨c, h1, h2, h3, h4⟩ := hl i hi j hj
  exact ⟨c, h1, h2.carry (by simp) (fun b hb _ => e b (h4 b hb).1), h3.carry (by simp) (fun b hb _ => e b (h4 b hb).1), fun x hx => ⟨(h4 x hx).1, by simpa using (h4 x hx).2.1, (h4 x hx).2.2⟩⟩
end Go.Proofs.YtbhmblkappmfjaaGreat

/- Texts of a list appended to an empty row: a copy in memory of its own. -/
namespace Go.Proofs.YtbhmblkappmfjaaGreat
open Go.RowKit Go.Deep

theorem Tryz.infoS_ : (Tryz.prog.info? 9).map (fun i => (i.zero, i.size, i.bytes)) = some (some (.string ⟨#[]⟩), 1, 16) := by kernel_rfl
theorem infoS_parts : ∃ i0, Tryz.prog.info? 9 = some i0 ∧ i0.zero = some (.string ⟨#[]⟩) ∧ i0.size = 1 ∧ i0.bytes = 16 := by
  obtain ⟨i, hi, hzz⟩ := Option.map_eq_some_iff.1 Tryz.infoS_
  simp only [Prod.mk.injEq] at hzz
  exact ⟨i, hi, hzz.1, hzz.2.1, hzz.2.2⟩
def newsS (len : Nat) (f : Nat → Nat → D) : List Value := (List.range len).map fun o => .string (f o 0).str!
theorem newsS_len (len : Nat) (f : Nat → Nat → D) : (newsS len f).length = len := by simp [newsS]
theorem newsS_at {len : Nat} {f : Nat → Nat → D} {o : Nat} (h : o < len) : (newsS len f)[o]? = some (.string (f o 0).str!) := by simp [newsS, h]
theorem newsS_cells {S : Nat → Prop} {w : World} {len cap : Nat} {f : Nat → Nat → D} {p : Addr} (HR : ∀ i, i < len → HasRow 0 (f i)) (h : DIn S w (.list 1 len f) (.slice (some p) len cap)) : ∀ o u, (newsS len f)[o]? = some u → w.cell? (p.add o) = some u := by
  intro o u hu
  have ho : o < len := by
    have := (List.getElem?_eq_some_iff.1 hu).1
    simpa [newsS] using this
  rw [newsS_at ho] at hu
  cases hu
  obtain ⟨cap2, b, off, C, hsl, _, hb, ec, hx⟩ := h.at ho
  cases hsl
  obtain ⟨x, hd⟩ := (show Has (f o 0) .str from HR _ ho 0 (by decide)).str
  have k := hx 0 (by decide)
  have e := ec 0 (by decide)
  rw [hd] at k
  rw [k.str_eq.1] at e
  rw [hd, Go.WideShapes.add_plain]
  show w.cell? _ = some (.string x)
  simpa using e
/-- A row of texts reads as they do; its own block is all that it has. -/
theorem strs_end {w : World} {base len : Nat} {f : Nat → Nat → D} {v : Value} (HR : ∀ i, i < len → HasRow 0 (f i)) (hz : ∀ i, i < len → (f i 0).str!.size ≤ maxLen) (hl : len ≤ maxLen) (ho : w.ownsRow base 9 1 v len (newsS len f)) :
    DIn (fun x => v.ownBlock = some x) w (.list 1 len f) v ∧ Own w (.list 1 len f) (fun x => v.ownBlock = some x) v := by
  have hG : GRow w (fun x => v.ownBlock = some x) base 9 1 f len v (newsS len f) := by
    refine ⟨ho, fun x hx => hx, fun x hx => (ho.lt x hx).2, fun _ _ _ => False, fun i hi j hj => ?_, fun i _ _ _ _ _ _ _ _ x hx => hx.elim⟩
    obtain rfl : j = 0 := by omega
    obtain ⟨x, hd⟩ := (show Has (f i 0) .str from HR _ hi 0 (by decide)).str
    have hz' := hz i hi
    rw [hd] at hz'
    refine ⟨.string x, by rw [show i * 1 + 0 = i by omega, newsS_at hi, hd]; rfl, by rw [hd]; exact ⟨rfl, hz'⟩, by rw [hd]; trivial, fun x hx => hx.elim⟩
  exact hG.end hl
theorem strs_sizes {S : Nat → Prop} {w : World} {len : Nat} {f : Nat → Nat → D} {v : Value} (HR : ∀ i, i < len → HasRow 0 (f i)) (h : DIn S w (.list 1 len f) v) : ∀ i, i < len → (f i 0).str!.size ≤ maxLen := by
  intro i hi
  obtain ⟨cap2, b, off, C, hsl, _, hb, ec, hx⟩ := h.at hi
  obtain ⟨x, hd⟩ := (show Has (f i 0) .str from HR _ hi 0 (by decide)).str
  have k := hx 0 (by decide)
  rw [hd] at k ⊢
  exact k.str_eq.2
theorem run_append_strs {S : Nat → Prop} (w : World) {len cap : Nat} {f : Nat → Nat → D} {p : Option Addr} (HR : ∀ i, i < len → HasRow 0 (f i)) (h : DIn S w (.list 1 len f) (.slice p len cap)) (hl : len ≤ 1048576) {base : Nat} (hb : base ≤ w.heap.size) {v : Value} (hv : w.ownsRow base 9 1 v 0 []) (ty : TypeId) :
    ∃ a c w', (Builtin.append_ #[31, 31] ty #[v, .slice p len cap]).run Tryz.prog w = .ok (.slice a len c) w' ∧ w'.ownsRow base 9 1 (.slice a len c) len (newsS len f) ∧ w.grownBy w' v.ownBlock ∧ ((Value.slice a len c).ownBlock = v.ownBlock ∨ (Value.slice a len c).ownBlock = some w.heap.size) := by
  obtain ⟨i0, hi, hz0, hz1, hz2⟩ := infoS_parts
  cases p with
  | none =>
    have h0 : len = 0 := by
      obtain ⟨a, cap', b, off, hv', _, ha, _⟩ := h
      cases hv'
      by_cases h : 0 < len
      · have := (ha h).1; cases this
      · omega
    subst h0
    have hsh : ∃ a c, v = .slice a 0 c := by
      rcases hv.2 with ⟨rfl, _⟩ | ⟨g, cap, cur, rfl, _⟩
      · exact ⟨_, _, rfl⟩
      · exact ⟨_, _, rfl⟩
    obtain ⟨a, c, rfl⟩ := hsh
    refine ⟨a, c, w, ?_, hv, ⟨rfl, rfl, rfl, Nat.le_refl _, fun _ _ _ => rfl⟩, .inl rfl⟩
    simp [Builtin.append_, run_underlying Tryz.underlying31, sizeOf, typeInfo, hi, Builtin.lenOf, Builtin.firstCells, loadCells, loadCellsFrom]
    cases a <;> simp [storeCells]
  | some ad =>
    obtain ⟨v', w', hr, h1, h2, _, h4⟩ := run_append_own_at (P := Tryz.prog) w base 31 ty 9 i0 _ 1 16 Tryz.underlying31 hi hz0 hz1 hz2 rfl (by decide) v 0 [] hv ad len cap (newsS len f) (by rw [newsS_len]; omega) (newsS_cells HR h) (by
      intro u hu
      obtain ⟨o, _, rfl⟩ := List.mem_map.1 hu
      rfl) (by unfold maxLen; omega) (by omega) hb
    rw [Nat.zero_add, List.nil_append] at h1
    have hsh : ∃ a c, v' = .slice a len c := by
      rcases h1.2 with ⟨rfl, h0⟩ | ⟨g, cap, cur, rfl, _⟩
      · exact ⟨none, 0, by rw [h0]⟩
      · exact ⟨_, _, rfl⟩
    obtain ⟨a, c, rfl⟩ := hsh
    exact ⟨a, c, w', hr, h1, h2, h4⟩
/-- The same at a step of a region that draws. -/
theorem step_append_strs {ops : Array Oper} {o : Oper} {A : Act} {K : Act → World → Prop} {Q : Exit → Act → World → Prop} {E : Prop} (hgd : o.guard = none) (s x : Operand)
    (ho : o.op = .call { callee := .builtin .append, args := #[s, x], argTypes := #[31, 31] })
    {S : Nat → Prop} (w : World) {len cap : Nat} {f : Nat → Nat → D} {p : Option Addr} (HR : ∀ i, i < len → HasRow 0 (f i)) (h : DIn S w (.list 1 len f) (.slice p len cap)) (hl : len ≤ 1048576) {base : Nat} (hb : base ≤ w.heap.size) {v : Value} (hv : w.ownsRow base 9 1 v 0 [])
    (hs : A.eval s = v) (hx : A.eval x = .slice p len cap)
    (hk : ∀ a c w', w'.ownsRow base 9 1 (.slice a len c) len (newsS len f) → w.grownBy w' v.ownBlock → ((Value.slice a len c).ownBlock = v.ownBlock ∨ (Value.slice a len c).ownBlock = some w.heap.size) → K (A.put o.dst (.slice a len c)) w') :
    if Region.wanted o (yielded ops A.tmps) = true then Oper.wp Tryz.prog o A w K Q else E := by
  have hw : Region.wanted o (yielded ops A.tmps) = true := by simp [Region.wanted, hgd]
  rw [if_pos hw]
  obtain ⟨a, c, w', hr, h1, h2, h3⟩ := run_append_strs w HR h hl hb hv o.type
  unfold Oper.wp execOp
  simp only [ho, resolve, invoke, builtin, Sem.run_bind, Sem.run_pure, Result.andThen_ok, List.map_toArray, List.map_cons, List.map_nil, hs, hx, hr]
  exact hk a c w' h1 h2 h3
end Go.Proofs.YtbhmblkappmfjaaGreat
