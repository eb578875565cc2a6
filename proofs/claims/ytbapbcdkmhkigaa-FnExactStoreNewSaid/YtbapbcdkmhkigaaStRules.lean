/- Rules as data; what spec.StoreNew and impl.StoreNew hand back: a store without anything but a copy of the rules, in new memory of its own. -/
import Derived.Test.YtbapbcdkmhkigaaRulImpl
import Derived.Test.YtbapbcdkmhkigaaDGrow
import Derived.Test.YtbapbcdkmhkigaaDAcc
import Derived.Lib.SliceRun
namespace Go.Proofs.Ytbapbcdkmhkigaa
open Go.RowKit Go.Deep

def rulXs (d : D) : List RulT := (List.range d.len!).map fun i => ((d.at! i 0).str!, (d.at! i 1).str!)
theorem rulXs_len (d : D) : (rulXs d).length = d.len! := by simp [rulXs]
theorem rulXs_at (d : D) {k : Nat} (hk : k < d.len!) : nameAt (rulXs d) k = ((d.at! k 0).str!, (d.at! k 1).str!) := by
  simp [nameAt, rulXs, List.getD_eq_getElem?_getD, hk]
theorem rul_of {S : Nat → Prop} {w : World} {d : D} {v : Value} (H : Has d (.list 7)) (h : DIn S w d v) : RulIn w v (rulXs d) := by
  obtain ⟨len, f, rfl, HR⟩ := H.list
  have h2 : DIn S w (.list 2 len f) v := h
  obtain ⟨a, cap, rfl, hl⟩ := h2.list_eq
  refine ⟨a, cap, by rw [rulXs_len]; rfl, by rw [rulXs_len]; exact hl, fun k hk => ?_⟩
  rw [rulXs_len] at hk
  change k < len at hk
  obtain ⟨cap2, b, off, C, hsl, _, hb, ec, hx⟩ := h2.at hk
  cases hsl
  rw [rulXs_at _ hk]
  obtain ⟨x0, hd0⟩ := (show Has (f k 0) .str from HR k hk 0 (by decide)).str
  obtain ⟨x1, hd1⟩ := (show Has (f k 1) .str from HR k hk 1 (by decide)).str
  have k0 := hx 0 (by decide)
  have k1 := hx 1 (by decide)
  have e0 := ec 0 (by decide)
  have e1 := ec 1 (by decide)
  rw [hd0] at k0
  rw [hd1] at k1
  obtain ⟨y0, z0⟩ := k0.str_eq
  obtain ⟨y1, z1⟩ := k1.str_eq
  rw [y0] at e0
  rw [y1] at e1
  have a0 : ((D.list (rowsOf 7).length len f).at! k 0).str! = x0 := by show (f k 0).str! = x0; rw [hd0]; rfl
  have a1 : ((D.list (rowsOf 7).length len f).at! k 1).str! = x1 := by show (f k 1).str! = x1; rw [hd1]; rfl
  simp only [Nat.add_zero] at e0
  dsimp only
  rw [a0, a1]
  exact ⟨z0, z1, b, off, rfl, hb, e0, e1⟩
theorem rulesB_len {d : D} (h : rulesB (rulXs d) = true) : d.len! ≤ 3 := by
  simp only [rulesB, Bool.and_eq_true, decide_eq_true_eq, rulXs_len] at h
  exact h.2

theorem Try.infoRc : (Try.prog.info? 45).map (fun i => (i.zero, i.size, i.bytes)) = some (some (.agg #[.string ⟨#[]⟩, .string ⟨#[]⟩]), 2, 32) := by kernel_rfl
theorem infoR_parts : ∃ i0, Try.prog.info? 45 = some i0 ∧ i0.zero = some (.agg #[.string ⟨#[]⟩, .string ⟨#[]⟩]) ∧ i0.size = 2 ∧ i0.bytes = 32 := by
  obtain ⟨i, hi, hzz⟩ := Option.map_eq_some_iff.1 Try.infoRc
  simp only [Prod.mk.injEq] at hzz
  exact ⟨i, hi, hzz.1, hzz.2.1, hzz.2.2⟩

def emptyD : D := .list 2 0 (fun _ _ => .str ⟨#[]⟩)
theorem empty_in (S : Nat → Prop) (w : World) : DIn S w emptyD (.slice none 0 0) ∧ Own w emptyD S (.slice none 0 0) :=
  ⟨⟨none, 0, 0, 0, rfl, Nat.zero_le _, fun h => by omega, fun i hi => by omega⟩, ⟨none, 0, 0, 0, fun _ _ _ => False, rfl, fun h => by omega, fun i _ hi => by omega, fun i _ _ _ hi => by omega, fun i hi => by omega⟩⟩
theorem empty_has : Has emptyD (.list 7) := ⟨7, rfl, rfl, fun i hi => by omega⟩
/-- The rules that a new store has. -/
def stD (d : D) : D := if rulesB (rulXs d) then d else emptyD
theorem stD_has {d : D} (H : Has d (.list 7)) : Has (stD d) (.list 7) := by unfold stD; split; exact H; exact empty_has
theorem stD_len (d : D) : (stD d).len! ≤ 3 := by
  unfold stD
  split
  · next h => exact rulesB_len h
  · exact Nat.zero_le _
/-- A store without anything but rules. -/
def stV (r : Value) : Value := .agg #[.slice none 0 0, .slice none 0 0, .int .i64 0, .int .i64 0, r, .int .i64 0, .slice none 0 0, .slice none 0 0, .int .i64 0]

/-- The cells of rules, one behind the other. -/
def newsR (len : Nat) (f : Nat → Nat → D) : List Value := (List.range (len * 2)).map fun o => .string (f (o / 2) (o % 2)).str!
theorem newsR_at {len : Nat} {f : Nat → Nat → D} {o : Nat} (h : o < len * 2) : (newsR len f)[o]? = some (.string (f (o / 2) (o % 2)).str!) := by simp [newsR, h]
theorem newsR_cells {S : Nat → Prop} {w : World} {len cap : Nat} {f : Nat → Nat → D} {p : Addr} (HR : ∀ i, i < len → HasRow 7 (f i)) (h : DIn S w (.list 2 len f) (.slice (some p) len cap)) : ∀ o u, (newsR len f)[o]? = some u → w.cell? (p.add o) = some u := by
  intro o u hu
  have ho : o < len * 2 := by
    have := (List.getElem?_eq_some_iff.1 hu).1
    simpa [newsR] using this
  rw [newsR_at ho] at hu
  cases hu
  have hi : o / 2 < len := by omega
  obtain ⟨cap2, b, off, C, hsl, _, hb, ec, hx⟩ := h.at hi
  cases hsl
  have hj : o % 2 < 2 := by omega
  obtain ⟨x, hd⟩ := (show Has (f (o / 2) (o % 2)) .str from by
    have := HR _ hi (o % 2) hj
    have hc : o % 2 = 0 ∨ o % 2 = 1 := by omega
    rcases hc with hc | hc <;> rw [hc] at this ⊢ <;> exact this).str
  have k := hx _ hj
  have e := ec _ hj
  rw [hd] at k
  rw [k.str_eq.1] at e
  rw [hd, Go.WideShapes.add_plain, show off + o = off + o / 2 * 2 + o % 2 by omega]
  exact e
theorem GSt.rules {S : Nat → Prop} {w0 w : World} {base len cap : Nat} {f : Nat → Nat → D} {p : Addr} {v : Value} (HR : ∀ i, i < len → HasRow 7 (f i)) (h : DIn S w0 (.list 2 len f) (.slice (some p) len cap)) (ho : w.ownsRow base 45 2 v len (newsR len f)) : GSt w base 45 2 f len v (newsR len f) := by
  refine ⟨ho, fun _ _ _ => False, fun i hi j hj => ?_, fun i _ _ _ _ _ _ _ _ x hx => hx.elim⟩
  have hc : (i * 2 + j) / 2 = i ∧ (i * 2 + j) % 2 = j := by omega
  obtain ⟨x, hd⟩ := (show Has (f i j) .str from by
    have := HR _ hi j hj
    have hc : j = 0 ∨ j = 1 := by omega
    rcases hc with hc | hc <;> rw [hc] at this ⊢ <;> exact this).str
  obtain ⟨cap2, b, off, C, hsl, _, hb, ec, hx⟩ := h.at hi
  have k := hx j hj
  rw [hd] at k
  refine ⟨.string x, ?_, ?_, ?_, fun x hx => hx.elim⟩
  · rw [newsR_at (by omega), hc.1, hc.2, hd]; rfl
  · rw [hd]; exact ⟨rfl, k.str_eq.2⟩
  · rw [hd]; trivial

set_option maxRecDepth 100000 in
set_option maxHeartbeats 2000000 in
theorem cloneRules_any (d : D) (H : Has d (.list 7)) (h3 : d.len! ≤ 3) (S : Nat → Prop) (v : Value) (w : World) (hv : DIn S w d v) :
    Calls Try.prog 17 #[v] w fun e w' => ∃ a l c, e = .returned (.slice a l c) ∧ (DIn (New w.heap.size w'.heap.size) w' d (.slice a l c) ∧ Own w' d (New w.heap.size w'.heap.size) (.slice a l c)) ∧ Ext w w' := by
  obtain ⟨len, f, rfl, HR⟩ := H.list
  change DIn S w (.list 2 len f) v at hv
  change len ≤ 3 at h3
  obtain ⟨a, cap, rfl, hl⟩ := hv.list_eq
  clear hl
  obtain ⟨i0, hi, hz0, hz1, hz2⟩ := infoR_parts
  change Calls _ _ _ _ fun e w' => ∃ a l c, e = .returned (.slice a l c) ∧ (DIn (New w.heap.size w'.heap.size) w' (.list 2 len f) (.slice a l c) ∧ Own w' (.list 2 len f) (New w.heap.size w'.heap.size) (.slice a l c)) ∧ Ext w w'
  have hnil0 := fun W a => Lib.run_eql_slice_nil (P := Try.prog) W 28 45 a len cap 0 0 Try.underlying28
  cases a with
  | none =>
    have hnil1 : ∀ W, (binOp .eql 28 (.slice none len cap) (.slice none 0 0)).run Try.prog W = .ok (.bool true) W := fun W => hnil0 W none
    clear hnil0
    have h0 : len = 0 := by
      obtain ⟨a, cap', b, off, hv', _, ha, _⟩ := hv
      cases hv'
      by_cases h : 0 < len
      · have := (ha h).1; cases this
      · omega
    subst h0
    go_enter Try.func17, Try.ntmps17
    go_wp2
    go_ret
    exact ⟨_, _, _, rfl, ⟨⟨none, 0, 0, 0, rfl, Nat.zero_le _, fun h => by omega, fun i hi => by omega⟩, ⟨none, 0, 0, 0, fun _ _ _ => False, rfl, fun h => by omega, fun i _ hi => by omega, fun i _ _ _ hi => by omega, fun i hi => by omega⟩⟩, Ext.refl _⟩
  | some p =>
    have hnil1 : ∀ W, (binOp .eql 28 (.slice (some p) len cap) (.slice none 0 0)).run Try.prog W = .ok (.bool false) W := fun W => hnil0 W (some p)
    clear hnil0
    have hA : Ext w (w.alloc (.cells #[] 45)) := (Ext.refl _).alloc _
    have hm : (w.alloc (.cells #[] 45)).ownsRow w.heap.size 45 2 (.slice (some ⟨w.heap.size, 0, none⟩) 0 0) 0 [] := World.ownsRow_made w #[] 0 (Nat.le_refl _) (Nat.zero_le _) (by simp)
    have hnews := newsR_cells HR (hv.ext hA)
    have hnl : (newsR len f).length = len * 2 := by simp [newsR]
    have hn1 : ∀ u ∈ newsR len f, u.oneCell' = true := by
      intro u hu
      obtain ⟨o, _, rfl⟩ := List.mem_map.1 hu
      rfl
    go_enter Try.func17, Try.ntmps17
    go_wp2_with (at_builtin; refine wpList_append_own_at _ rfl _ _ 28 rfl w.heap.size 45 i0 _ 2 32 Try.underlying28 hi hz0 hz1 hz2 rfl (by decide) _ _ _ rfl hm p len cap (newsR len f) rfl hnl hnews hn1 (by unfold maxLen; omega) (by omega) (by simp) ?_; intro v' w1 hown hgrow hnil hat)
    rw [Nat.zero_add, List.nil_append] at hown
    have hG := GSt.rules HR hv hown
    have hE1 : Ext w w1 := Below.grown hA hgrow hA.le (fun j hj => (hm.lt j hj).1)
    obtain ⟨xa, xc, rfl⟩ := hG.shape
    have hend : Hid _ := hG.end (by unfold maxLen; omega)
    go_wp2
    go_ret
    exact ⟨_, _, _, rfl, hend.out, hE1⟩
end Go.Proofs.Ytbapbcdkmhkigaa
