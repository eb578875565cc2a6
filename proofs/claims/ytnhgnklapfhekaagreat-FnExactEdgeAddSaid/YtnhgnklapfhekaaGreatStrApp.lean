/- Texts of a list appended to an empty row: a copy in memory of its own. -/
import Derived.Test.YtnhgnklapfhekaaGreatGRow
import Derived.Test.YtnhgnklapfhekaaGreatDAcc
namespace Go.Proofs.YtnhgnklapfhekaaGreat
open Go.RowKit Go.Deep

theorem Tryz.infoS_ : (Tryz.prog.info? 9).map (fun i => (i.zero, i.size, i.bytes)) = some (some (.string ⟨#[]⟩), 1, 16) := by kernel_rfl
theorem infoS_parts : ∃ i0, Tryz.prog.info? 9 = some i0 ∧ i0.zero = some (.string ⟨#[]⟩) ∧ i0.size = 1 ∧ i0.bytes = 16 := by
  obtain ⟨i, hi, hzz⟩ := Option.map_eq_some_iff.1 Tryz.infoS_
  simp only [Prod.mk.injEq] at hzz
  exact ⟨i, hi, hzz.1, hzz.2.1, hzz.2.2⟩
def newsS (len : Nat) (f : Nat → Nat → D) : List Value := (List.range len).map fun o => .string (f o 0).str!
theorem newsS_len (len : Nat) (f : Nat → Nat → D) : (newsS len f).length = len := by simp [newsS]
theorem newsS_at {len : Nat} {f : Nat → Nat → D} {o : Nat} (h : o < len) : (newsS len f)[o]? = some (.string (f o 0).str!) := by simp [newsS, h]
theorem newsS_cells {S : Nat → Prop} {w : World} {len cap : Nat} {f : Nat → Nat → D} {p : Addr} (HR : ∀ i, i < len → HasRow 0 (f i)) (h : DIn S w (.list 1 len f) (.slice (some p) len cap)) : ∀ o u, (newsS len f)[o]? = some u → w.cell? (p.add o) = some u := by
  intro o u hu
  have ho : o < len := by
    have := (List.getElem?_eq_some_iff.1 hu).1
    simpa [newsS] using this
  rw [newsS_at ho] at hu
  cases hu
  obtain ⟨cap2, b, off, C, hsl, _, hb, ec, hx⟩ := h.at ho
  cases hsl
  obtain ⟨x, hd⟩ := (show Has (f o 0) .str from HR _ ho 0 (by decide)).str
  have k := hx 0 (by decide)
  have e := ec 0 (by decide)
  rw [hd] at k
  rw [k.str_eq.1] at e
  rw [hd, Go.WideShapes.add_plain]
  show w.cell? _ = some (.string x)
  simpa using e
/-- A row of texts reads as they do; its own block is all that it has. -/
theorem strs_end {w : World} {base len : Nat} {f : Nat → Nat → D} {v : Value} (HR : ∀ i, i < len → HasRow 0 (f i)) (hz : ∀ i, i < len → (f i 0).str!.size ≤ maxLen) (hl : len ≤ maxLen) (ho : w.ownsRow base 9 1 v len (newsS len f)) :
    DIn (fun x => v.ownBlock = some x) w (.list 1 len f) v ∧ Own w (.list 1 len f) (fun x => v.ownBlock = some x) v := by
  have hG : GRow w (fun x => v.ownBlock = some x) base 9 1 f len v (newsS len f) := by
    refine ⟨ho, fun x hx => hx, fun x hx => (ho.lt x hx).2, fun _ _ _ => False, fun i hi j hj => ?_, fun i _ _ _ _ _ _ _ _ x hx => hx.elim⟩
    obtain rfl : j = 0 := by omega
    obtain ⟨x, hd⟩ := (show Has (f i 0) .str from HR _ hi 0 (by decide)).str
    have hz' := hz i hi
    rw [hd] at hz'
    refine ⟨.string x, by rw [show i * 1 + 0 = i by omega, newsS_at hi, hd]; rfl, by rw [hd]; exact ⟨rfl, hz'⟩, by rw [hd]; trivial, fun x hx => hx.elim⟩
  exact hG.end hl
theorem strs_sizes {S : Nat → Prop} {w : World} {len : Nat} {f : Nat → Nat → D} {v : Value} (HR : ∀ i, i < len → HasRow 0 (f i)) (h : DIn S w (.list 1 len f) v) : ∀ i, i < len → (f i 0).str!.size ≤ maxLen := by
  intro i hi
  obtain ⟨cap2, b, off, C, hsl, _, hb, ec, hx⟩ := h.at hi
  obtain ⟨x, hd⟩ := (show Has (f i 0) .str from HR _ hi 0 (by decide)).str
  have k := hx 0 (by decide)
  rw [hd] at k ⊢
  exact k.str_eq.2
theorem run_append_strs {S : Nat → Prop} (w : World) {len cap : Nat} {f : Nat → Nat → D} {p : Option Addr} (HR : ∀ i, i < len → HasRow 0 (f i)) (h : DIn S w (.list 1 len f) (.slice p len cap)) (hl : len ≤ 1048576) {base : Nat} (hb : base ≤ w.heap.size) {v : Value} (hv : w.ownsRow base 9 1 v 0 []) (ty : TypeId) :
    ∃ a c w', (Builtin.append_ #[77, 77] ty #[v, .slice p len cap]).run Tryz.prog w = .ok (.slice a len c) w' ∧ w'.ownsRow base 9 1 (.slice a len c) len (newsS len f) ∧ w.grownBy w' v.ownBlock ∧ ((Value.slice a len c).ownBlock = v.ownBlock ∨ (Value.slice a len c).ownBlock = some w.heap.size) := by
  obtain ⟨i0, hi, hz0, hz1, hz2⟩ := infoS_parts
  cases p with
  | none =>
    have h0 : len = 0 := by
      obtain ⟨a, cap', b, off, hv', _, ha, _⟩ := h
      cases hv'
      by_cases h : 0 < len
      · have := (ha h).1; cases this
      · omega
    subst h0
    have hsh : ∃ a c, v = .slice a 0 c := by
      rcases hv.2 with ⟨rfl, _⟩ | ⟨g, cap, cur, rfl, _⟩
      · exact ⟨_, _, rfl⟩
      · exact ⟨_, _, rfl⟩
    obtain ⟨a, c, rfl⟩ := hsh
    refine ⟨a, c, w, ?_, hv, ⟨rfl, rfl, rfl, Nat.le_refl _, fun _ _ _ => rfl⟩, .inl rfl⟩
    simp [Builtin.append_, run_underlying Tryz.underlying77, sizeOf, typeInfo, hi, Builtin.lenOf, Builtin.firstCells, loadCells, loadCellsFrom]
    cases a <;> simp [storeCells]
  | some ad =>
    obtain ⟨v', w', hr, h1, h2, _, h4⟩ := run_append_own_at (P := Tryz.prog) w base 77 ty 9 i0 _ 1 16 Tryz.underlying77 hi hz0 hz1 hz2 rfl (by decide) v 0 [] hv ad len cap (newsS len f) (by rw [newsS_len]; omega) (newsS_cells HR h) (by
      intro u hu
      obtain ⟨o, _, rfl⟩ := List.mem_map.1 hu
      rfl) (by unfold maxLen; omega) (by omega) hb
    rw [Nat.zero_add, List.nil_append] at h1
    have hsh : ∃ a c, v' = .slice a len c := by
      rcases h1.2 with ⟨rfl, h0⟩ | ⟨g, cap, cur, rfl, _⟩
      · exact ⟨none, 0, by rw [h0]⟩
      · exact ⟨_, _, rfl⟩
    obtain ⟨a, c, rfl⟩ := hsh
    exact ⟨a, c, w', hr, h1, h2, h4⟩
/-- The same at a step of a region that draws. -/
theorem step_append_strs {ops : Array Oper} {o : Oper} {A : Act} {K : Act → World → Prop} {Q : Exit → Act → World → Prop} {E : Prop} (hgd : o.guard = none) (s x : Operand)
    (ho : o.op = .call { callee := .builtin .append, args := #[s, x], argTypes := #[77, 77] })
    {S : Nat → Prop} (w : World) {len cap : Nat} {f : Nat → Nat → D} {p : Option Addr} (HR : ∀ i, i < len → HasRow 0 (f i)) (h : DIn S w (.list 1 len f) (.slice p len cap)) (hl : len ≤ 1048576) {base : Nat} (hb : base ≤ w.heap.size) {v : Value} (hv : w.ownsRow base 9 1 v 0 [])
    (hs : A.eval s = v) (hx : A.eval x = .slice p len cap)
    (hk : ∀ a c w', w'.ownsRow base 9 1 (.slice a len c) len (newsS len f) → w.grownBy w' v.ownBlock → ((Value.slice a len c).ownBlock = v.ownBlock ∨ (Value.slice a len c).ownBlock = some w.heap.size) → K (A.put o.dst (.slice a len c)) w') :
    if Region.wanted o (yielded ops A.tmps) = true then Oper.wp Tryz.prog o A w K Q else E := by
  have hw : Region.wanted o (yielded ops A.tmps) = true := by simp [Region.wanted, hgd]
  rw [if_pos hw]
  obtain ⟨a, c, w', hr, h1, h2, h3⟩ := run_append_strs w HR h hl hb hv o.type
  unfold Oper.wp execOp
  simp only [ho, resolve, invoke, builtin, Sem.run_bind, Sem.run_pure, Result.andThen_ok, List.map_toArray, List.map_cons, List.map_nil, hs, hx, hr]
  exact hk a c w' h1 h2 h3
end Go.Proofs.YtnhgnklapfhekaaGreat
