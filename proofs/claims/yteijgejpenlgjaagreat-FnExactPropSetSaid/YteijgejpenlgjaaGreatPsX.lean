/- Props with one set, changed or taken away: by name, each once. -/
import Derived.Test.YteijgejpenlgjaaGreatBlThy
import Derived.Test.YteijgejpenlgjaaGreatGSpec2
import Derived.Test.YteijgejpenlgjaaGreatDa
import Derived.Test.YteijgejpenlgjaaGreatGrS
import Derived.Test.YteijgejpenlgjaaGreatGPV
import Derived.Test.YteijgejpenlgjaaGreatLay
import Derived.Shelf.Spec.SlicesGrow
import Derived.Test.YteijgejpenlgjaaGreatTk
import Derived.Test.YteijgejpenlgjaaGreatPgFind
import Derived.Test.YteijgejpenlgjaaGreatValOkImpl
namespace Go.Proofs.YteijgejpenlgjaaGreat
open Go.RowKit Go.Deep

/-- A prop's five cells. -/
abbrev PRow := Nat → D
def nmR (r : PRow) : List UInt8 := (r 0).str!.toList
def prL (d : D) : List PRow := (List.range d.len!).map d.at!
def prZ : PRow := fun _ => .int 0
def prD (l : List PRow) : D := .list 5 l.length (fun i => l.getD i prZ)
theorem prL_len (d : D) : (prL d).length = d.len! := by simp [prL]
theorem prL_at {d : D} {i : Nat} (h : i < d.len!) : (prL d)[i]? = some (d.at! i) := by simp [prL, h]
theorem prL_get {d : D} {i : Nat} (h : i < (prL d).length) : (prL d)[i] = d.at! i := by simp [prL]
theorem prD_has {l : List PRow} (h : ∀ r ∈ l, HasRow 3 r) : Has (prD l) (.list 3) := ⟨3, rfl, rfl, fun i hi => by
 show HasRow 3 (l.getD i prZ)
 rw [List.getD_eq_getElem?_getD, List.getElem?_eq_getElem hi]
 exact h _ (List.getElem_mem hi)⟩
theorem prL_has {d : D} (H : Has d (.list 3)) : ∀ r ∈ prL d, HasRow 3 r := by
 obtain ⟨len, f, rfl, HR⟩ := H.list
 intro r hr
 obtain ⟨i, hi, rfl⟩ := List.mem_map.1 hr
 exact HR i (List.mem_range.1 hi)
/-- In order, by their names. -/
def AscP (l : List PRow) : Prop := l.Pairwise fun a b => Op.bytesLess (nmR a) (nmR b) = true
/-- Those before a name, then others, then those behind it. -/
def setP (l : List PRow) (s : ByteArray) (p : List PRow) : List PRow := l.filter (fun r => Op.bytesLess (nmR r) s.toList) ++ (p ++ l.filter (fun r => Op.bytesLess s.toList (nmR r)))
/-- A prop to be put in: none, if the value is null. -/
def putP (s : ByteArray) (k n : Int) (t : ByteArray) (l : D) : List PRow := if k = 0 then [] else [fun j => if j = 0 then .str s else if j = 1 then .int k else if j = 2 then .int n else if j = 3 then .str t else l]
theorem putP_len (s : ByteArray) (k n : Int) (t : ByteArray) (l : D) : (putP s k n t l).length ≤ 1 := by unfold putP; split <;> simp
theorem putP_has {s : ByteArray} {k n : Int} {t : ByteArray} {l : D} (H : Has l (.list 2)) : ∀ r ∈ putP s k n t l, HasRow 3 r := by
 intro r hr
 unfold putP at hr
 split at hr
 ·
  cases hr
 ·
  rw [List.mem_singleton] at hr
  subst hr
  intro j hj
  have hj : j < 5 := hj
  rcases (by omega : j = 0 ∨ j = 1 ∨ j = 2 ∨ j = 3 ∨ j = 4) with rfl | rfl | rfl | rfl | rfl
  ·
   exact rfl
  ·
   exact rfl
  ·
   exact rfl
  ·
   exact rfl
  ·
   exact H
theorem setP_has {l p : List PRow} {s : ByteArray} (h : ∀ r ∈ l, HasRow 3 r) (k : ∀ r ∈ p, HasRow 3 r) : ∀ r ∈ setP l s p, HasRow 3 r := by
 intro r hr
 unfold setP at hr
 rw [List.mem_append, List.mem_append] at hr
 rcases hr with hr | hr | hr
 ·
  exact h r (List.mem_filter.1 hr).1
 ·
  exact k r hr
 ·
  exact h r (List.mem_filter.1 hr).1
theorem setP_len (l : List PRow) (s : ByteArray) (p : List PRow) : (setP l s p).length ≤ l.length + p.length + l.length := by
 unfold setP
 have h1 := List.length_filter_le (fun r : PRow => Op.bytesLess (nmR r) s.toList) l
 have h2 := List.length_filter_le (fun r : PRow => Op.bytesLess s.toList (nmR r)) l
 simp only [List.length_append]
 omega
theorem filter_take {α : Type} (p : α → Bool) (l : List α) (i : Nat) (hlow : ∀ t (ht : t < l.length), t < i → p l[t] = true) (hup : ∀ t (ht : t < l.length), i ≤ t → p l[t] = false) : l.filter p = l.take i := by
 conv => lhs; rw [← List.take_append_drop i l]
 rw [List.filter_append, List.filter_eq_self.2, List.filter_eq_nil_iff.2, List.append_nil]
 ·
  intro a ha
  obtain ⟨t, ht, rfl⟩ := List.mem_iff_getElem.1 ha
  rw [List.length_drop] at ht
  rw [List.getElem_drop, hup _ (by omega) (by omega)]
  simp
 ·
  intro a ha
  obtain ⟨t, ht, rfl⟩ := List.mem_iff_getElem.1 ha
  rw [List.length_take] at ht
  rw [List.getElem_take]
  exact hlow _ (by omega) (by omega)
theorem filter_drop {α : Type} (p : α → Bool) (l : List α) (i : Nat) (hlow : ∀ t (ht : t < l.length), t < i → p l[t] = false) (hup : ∀ t (ht : t < l.length), i ≤ t → p l[t] = true) : l.filter p = l.drop i := by
 conv => lhs; rw [← List.take_append_drop i l]
 have h1 : (l.take i).filter p = [] := List.filter_eq_nil_iff.2 fun a ha => by
  obtain ⟨t, ht, rfl⟩ := List.mem_iff_getElem.1 ha
  rw [List.length_take] at ht
  rw [List.getElem_take, hlow _ (by omega) (by omega)]
  simp
 have h2 : (l.drop i).filter p = l.drop i := List.filter_eq_self.2 fun a ha => by
  obtain ⟨t, ht, rfl⟩ := List.mem_iff_getElem.1 ha
  rw [List.length_drop] at ht
  rw [List.getElem_drop]
  exact hup _ (by omega) (by omega)
 rw [List.filter_append, h1, h2, List.nil_append]
theorem ascP_lt {l : List PRow} (h : AscP l) {i j : Nat} (hi : i < l.length) (hj : j < l.length) (hij : i < j) : Op.bytesLess (nmR l[i]) (nmR l[j]) = true := (List.pairwise_iff_getElem.1 h) i j hi hj hij
/-- What a search finds is where those before a name end. -/
theorem setP_at {l : List PRow} (h : AscP l) (s : ByteArray) (p : List PRow) {i : Nat} (hlow : ∀ t (ht : t < l.length), t < i → Op.bytesLess (nmR l[t]) s.toList = true) (hup : ∀ (hi : i < l.length), Op.bytesLess (nmR l[i]) s.toList = false) {th : Bool} (hth : ∀ (hi : i < l.length), th = (nmR l[i] == s.toList)) (hno : ¬ i < l.length → th = false) :
  setP l s p = l.take i ++ (p ++ l.drop (i + (if th then 1 else 0))) := by
 have hup2 : ∀ t (ht : t < l.length), i ≤ t → Op.bytesLess (nmR l[t]) s.toList = false := by
  intro t ht hit
  rcases Nat.lt_or_ge i t with h2 | h2
  ·
   cases hb : Op.bytesLess (nmR l[t]) s.toList
   ·
    rfl
   ·
    have h3 := bl_trans _ _ _ (ascP_lt h (by omega) ht h2) hb
    rw [hup (by omega)] at h3
    cases h3
  ·
   obtain rfl : i = t := by omega
   exact hup ht
 rw [setP, filter_take _ l i hlow hup2, filter_drop (fun r => Op.bytesLess s.toList (nmR r)) l (i + (if th then 1 else 0))]
 ·
  intro t ht hti
  rcases Nat.lt_or_ge t i with h2 | h2
  ·
   exact bl_asymm _ _ (hlow t ht h2)
  ·
   cases th
   ·
    simp at hti; omega
   ·
    obtain rfl : t = i := by simp at hti; omega
    have := hth ht
    have e : nmR l[t] = s.toList := by simpa using this.symm
    show Op.bytesLess s.toList (nmR l[t]) = false
    rw [e, bl_irrefl]
 ·
  intro t ht hti
  have h0 := hup2 t ht (by omega)
  cases hb : Op.bytesLess s.toList (nmR l[t])
  ·
   have e := bl_total _ _ h0 hb
   exfalso
   rcases Nat.lt_or_ge i t with h2 | h2
   ·
    have h3 := ascP_lt h (by omega) ht h2
    rw [e, hup (by omega)] at h3
    cases h3
   ·
    obtain rfl : i = t := by omega
    have := hth ht
    rw [e] at this
    have h3 : th = true := by rw [this]; exact beq_self_eq_true _
    rw [h3] at hti
    simp at hti
    omega
  ·
   rfl
end Go.Proofs.YteijgejpenlgjaaGreat

/- What slices.Concat answers of three rows of props. -/
namespace Go.Proofs.YteijgejpenlgjaaGreat
open Go.RowKit Go.Deep

theorem DIn.one {S : Nat → Prop} {w : World} : ∀ {d : D} {v : Value}, DIn S w d v → v.oneCell' = true
 | .int _, _, h => by rw [h.int_eq.1]; rfl
 | .bool _, _, h => by rw [h.bool_eq]; rfl
 | .str _, _, h => by rw [h.str_eq.1]; rfl
 | .list _ _ _, _, h => by obtain ⟨a, c, rfl, _⟩ := h.list_eq; rfl
/-- These cells read, five by five, as these props. -/
def RowZ (Z : Nat → Prop) (w : World) (l : List PRow) (cs : List Value) : Prop := cs.length = l.length * 5 ∧ ∀ i r, l[i]? = some r → ∀ j, j < 5 → ∃ c, cs[i * 5 + j]? = some c ∧ DIn Z w (r j) c
/-- The same, wherever their lists lie. -/
abbrev RowC := RowZ anyB
theorem RowZ.ext {Z : Nat → Prop} {w w' : World} {l : List PRow} {cs : List Value} (h : RowZ Z w l cs) (e : Ext w w') : RowZ Z w' l cs := ⟨h.1, fun i r hr j hj => by
 obtain ⟨c, h1, h2⟩ := h.2 i r hr j hj
 exact ⟨c, h1, h2.ext e⟩⟩
theorem RowZ.nil (Z : Nat → Prop) (w : World) : RowZ Z w [] [] := ⟨rfl, fun i r h => by simp at h⟩
theorem RowC.nil (w : World) : RowC w [] [] := RowZ.nil anyB w
theorem RowZ.mono {Z Z' : Nat → Prop} (hz : ∀ x, Z x → Z' x) {w : World} {l : List PRow} {cs : List Value} (h : RowZ Z w l cs) : RowZ Z' w l cs := ⟨h.1, fun i r hr j hj => by
 obtain ⟨c, h1, h2⟩ := h.2 i r hr j hj
 exact ⟨c, h1, h2.mono hz⟩⟩
theorem RowZ.append {Z : Nat → Prop} {w : World} {l m : List PRow} {cs ds : List Value} (h : RowZ Z w l cs) (k : RowZ Z w m ds) : RowZ Z w (l ++ m) (cs ++ ds) := by
 refine ⟨by rw [List.length_append, List.length_append, h.1, k.1, Nat.add_mul], fun i r hr j hj => ?_⟩
 have hl := h.1
 rcases Nat.lt_or_ge i l.length with hi | hi
 ·
  rw [List.getElem?_append_left hi] at hr
  obtain ⟨c, h1, h2⟩ := h.2 i r hr j hj
  exact ⟨c, by rw [List.getElem?_append_left (by omega)]; exact h1, h2⟩
 ·
  rw [List.getElem?_append_right hi] at hr
  obtain ⟨c, h1, h2⟩ := k.2 (i - l.length) r hr j hj
  exact ⟨c, by rw [List.getElem?_append_right (by omega), show i * 5 + j - cs.length = (i - l.length) * 5 + j by omega]; exact h1, h2⟩
theorem RowZ.take {Z : Nat → Prop} {w : World} {l : List PRow} {cs : List Value} (h : RowZ Z w l cs) (k : Nat) : RowZ Z w (l.take k) (cs.take (k * 5)) := by
 have hl := h.1
 refine ⟨by rw [List.length_take, List.length_take, hl]; omega, fun i r hr j hj => ?_⟩
 rw [List.getElem?_take] at hr
 split at hr
 ·
  obtain ⟨c, h1, h2⟩ := h.2 i r hr j hj
  exact ⟨c, by rw [List.getElem?_take, if_pos (by omega)]; exact h1, h2⟩
 ·
  cases hr
theorem RowZ.drop {Z : Nat → Prop} {w : World} {l : List PRow} {cs : List Value} (h : RowZ Z w l cs) (k : Nat) : RowZ Z w (l.drop k) (cs.drop (k * 5)) := by
 have hl := h.1
 refine ⟨by rw [List.length_drop, List.length_drop, hl]; omega, fun i r hr j hj => ?_⟩
 rw [List.getElem?_drop] at hr
 obtain ⟨c, h1, h2⟩ := h.2 _ r hr j hj
 exact ⟨c, by rw [List.getElem?_drop, show k * 5 + (i * 5 + j) = (k + i) * 5 + j by omega]; exact h1, h2⟩
theorem RowZ.one {Z : Nat → Prop} {w : World} {l : List PRow} {cs : List Value} (h : RowZ Z w l cs) : ∀ u ∈ cs, u.oneCell' = true := by
 intro u hu
 obtain ⟨q, hq, rfl⟩ := List.mem_iff_getElem.1 hu
 have hl := h.1
 obtain ⟨c, h1, h2⟩ := h.2 (q / 5) _ (List.getElem?_eq_getElem (show q / 5 < l.length by omega)) (q % 5) (Nat.mod_lt _ (by decide))
 rw [show q / 5 * 5 + q % 5 = q by omega, List.getElem?_eq_getElem hq] at h1
 cases h1
 exact h2.one
/-- A slice that reads as these props. -/
def SrcZ (Z : Nat → Prop) (w : World) (v : Value) (l : List PRow) : Prop := ∃ p c cs, v = .slice p l.length c ∧ RowZ Z w l cs ∧ (l = [] ∨ ∃ b off, p = some ⟨b, off, none⟩ ∧ b < w.heap.size ∧ ∀ (j : Nat) (u : Value), cs[j]? = some u → w.cell? ⟨b, off + j, none⟩ = some u)
abbrev SrcP := SrcZ anyB
theorem SrcZ.ext {Z : Nat → Prop} {w w' : World} {v : Value} {l : List PRow} (h : SrcZ Z w v l) (e : Ext w w') : SrcZ Z w' v l := by
 obtain ⟨p, c, cs, h1, h3, h2⟩ := h
 refine ⟨p, c, cs, h1, h3.ext e, ?_⟩
 rcases h2 with h2 | ⟨b, off, hp, hb, hc⟩
 ·
  exact .inl h2
 ·
  exact .inr ⟨b, off, hp, Nat.lt_of_lt_of_le hb e.le, fun j u hu => by rw [e.cell (p := ⟨b, off + j, none⟩) hb]; exact hc j u hu⟩
theorem SrcZ.of {S : Nat → Prop} {w : World} {d : D} {v : Value} (H : Has d (.list 3)) (h : DIn S w d v) : SrcZ S w v (prL d) := by
 obtain ⟨len, f, rfl, HR⟩ := H.list
 change DIn S w (.list 5 len f) v at h
 rw [show (rowsOf 3).length = 5 from rfl]
 obtain ⟨a, cap, b, off, rfl, _, ha, hc⟩ := h
 refine ⟨a, cap, (List.range (len * 5)).map fun q => (w.cell? ⟨b, off + q, none⟩).getD undef, by rw [prL_len]; rfl, ⟨by rw [prL_len]; simp [D.len!], fun i r hr j hj => ?_⟩, ?_⟩
 ·
  have hi : i < len := by
   have := (List.getElem?_eq_some_iff.1 hr).1
   rw [prL_len] at this
   exact this
  have e := prL_at (d := .list 5 len f) hi
  rw [e] at hr
  cases hr
  obtain ⟨c, h1, h2⟩ := hc i hi j hj
  refine ⟨c, ?_, h2⟩
  rw [List.getElem?_map, List.getElem?_range (by omega), Option.map_some, ← Nat.add_assoc, h1]
  rfl
 ·
  by_cases h0 : 0 < len
  ·
   obtain ⟨rfl, _, hb⟩ := ha h0
   refine .inr ⟨b, off, rfl, hb, fun j u hu => ?_⟩
   have hj : j < len * 5 := by
    have := (List.getElem?_eq_some_iff.1 hu).1
    simpa using this
   obtain ⟨c, h1, h2⟩ := hc (j / 5) (by omega) (j % 5) (Nat.mod_lt _ (by decide))
   rw [Nat.add_assoc, show j / 5 * 5 + j % 5 = j by omega] at h1
   rw [List.getElem?_map, List.getElem?_range hj, Option.map_some, h1] at hu
   rw [h1]
   exact hu
  ·
   exact .inl (by rw [show len = 0 by omega]; rfl)
theorem SrcP.of {S : Nat → Prop} {w : World} {d : D} {v : Value} (H : Has d (.list 3)) (h : DIn S w d v) : SrcP w v (prL d) := SrcZ.of H h.any
theorem ownP_shape {w : World} {base n : Nat} {v : Value} {xs : List Value} (h : w.ownsRow base 127 5 v n xs) : ∃ a c, v = .slice a n c ∧ n ≤ c := by
 rcases h.2 with ⟨rfl, rfl⟩ | ⟨g, cap, cur, rfl, _, _, hn, _⟩
 ·
  exact ⟨_, _, rfl, Nat.le_refl _⟩
 ·
  exact ⟨_, _, rfl, hn⟩
theorem ownP_low {w : World} {b b' n : Nat} {v : Value} {xs : List Value} (h : w.ownsRow b 127 5 v n xs) (e : b' ≤ b) : w.ownsRow b' 127 5 v n xs := by
 refine ⟨h.1, ?_⟩
 rcases h.2 with h | ⟨g, cap, cur, e1, hb, r⟩
 ·
  exact .inl h
 ·
  exact .inr ⟨g, cap, cur, e1, Nat.le_trans e hb, r⟩
/-- A row of its own reads as the props that its cells read as. -/
theorem ownZ_in {Z : Nat → Prop} {w : World} {base : Nat} {v : Value} {l : List PRow} {cs : List Value} (h : w.ownsRow base 127 5 v l.length cs) (k : RowZ Z w l cs) (hl : l.length ≤ maxLen) : DIn (fun x => Z x ∨ v.ownBlock = some x) w (prD l) v := by
 rcases h.2 with ⟨rfl, h2⟩ | ⟨g, cap, cur, rfl, hb, hg, _⟩
 ·
  exact ⟨none, 0, 0, 0, by rw [h2], hl, fun h => by omega, fun i hi => by omega⟩
 ·
  refine ⟨_, cap, g, 0, rfl, hl, fun _ => ⟨rfl, .inr rfl, lt_of_block hg⟩, fun i hi j hj => ?_⟩
  obtain ⟨c, h1, h2⟩ := k.2 i _ (List.getElem?_eq_getElem hi) j hj
  have := h.cells (g := g) rfl _ c h1
  rw [Go.WideShapes.add_plain] at this
  refine ⟨c, by rw [Nat.add_assoc]; exact this, ?_⟩
  show DIn _ w (l.getD i prZ j) c
  rw [List.getD_eq_getElem?_getD, List.getElem?_eq_getElem hi]
  exact h2.mono (fun _ h => .inl h)
theorem ownP_in {w : World} {base : Nat} {v : Value} {l : List PRow} {cs : List Value} (h : w.ownsRow base 127 5 v l.length cs) (k : RowC w l cs) (hl : l.length ≤ maxLen) : DIn anyB w (prD l) v := (ownZ_in h k hl).any
theorem run_append_props {Z : Nat → Prop} {B0 : Nat} (w0 w : World) (e : Ext w0 w) {l : List PRow} {n : Nat} {us : List Value} {u v : Value} (hu : SrcZ Z w0 u l) (hv : w.ownsRow B0 127 5 v n us) (hl : l.length ≤ 1000) (hm : n ≤ 1000) (hb : B0 ≤ w.heap.size) (ty : TypeId) :
  ∃ a c w' ds, (Builtin.append_ #[79, 79] ty #[v, u]).run Tryz.prog w = .ok (.slice a (n + l.length) c) w' ∧ w'.ownsRow B0 127 5 (.slice a (n + l.length) c) (n + l.length) (us ++ ds) ∧ RowZ Z w0 l ds ∧ w.grownBy w' v.ownBlock ∧ ((Value.slice a (n + l.length) c).ownBlock = v.ownBlock ∨ (Value.slice a (n + l.length) c).ownBlock = some w.heap.size) := by
 obtain ⟨i0, hi, hz0, hz1, hz2⟩ := info_parts Tryz.infoP
 obtain ⟨p, c, cs, rfl, hC, rfl | ⟨b, off, rfl, hbw, hcs⟩⟩ := hu
 ·
  obtain ⟨a, c', rfl, hmc⟩ := ownP_shape hv
  refine ⟨a, c', w, [], ?_, by rw [List.append_nil]; exact hv, RowZ.nil _ w0, ⟨rfl, rfl, rfl, Nat.le_refl _, fun _ _ _ => rfl⟩, .inl rfl⟩
  cases p <;> cases a <;> simp [Builtin.append_, run_underlying Tryz.underlying79, sizeOf, typeInfo, hi, Builtin.lenOf, Builtin.firstCells, loadCells, loadCellsFrom, storeCells, hmc]
 ·
  obtain ⟨v', w', hr, h1, hg, _, hloc⟩ := run_append_own_at (P := Tryz.prog) w B0 79 ty 127 i0 _ 5 72 Tryz.underlying79 hi hz0 hz1 hz2 rfl (by decide) v n us hv ⟨b, off, none⟩ l.length c cs hC.1 (fun j u hu => by rw [Go.WideShapes.add_plain, e.cell (p := ⟨b, off + j, none⟩) hbw]; exact hcs j u hu) hC.one (by unfold maxLen; omega) (by omega) hb
  obtain ⟨a, c', rfl, _⟩ := ownP_shape h1
  exact ⟨a, c', w', cs, hr, h1, hC, hg, hloc⟩
theorem wpList_append_ranP {ops : Array Oper} {rest : List Oper} {o : Oper} {a : Act} {Q : Exit → Act → World → Prop} (w : World) (hgd : o.guard = none) (s x : Operand) (ho : o.op = .call { callee := .builtin .append, args := #[s, x], argTypes := #[79, 79] }) {v u r : Value} {w' : World}
  (hr : (Builtin.append_ #[79, 79] o.type #[v, u]).run Tryz.prog w = .ok r w') (hs : a.eval s = v) (hx : a.eval x = u) (h : wpList Tryz.prog ops Q rest (a.put o.dst r) w') : wpList Tryz.prog ops Q (o :: rest) a w := by
 refine wpList_plain hgd fun K hK => ?_
 unfold Oper.wp execOp
 simp only [ho, resolve, invoke, builtin, Sem.run_bind, Sem.run_pure, Result.andThen_ok, List.map_toArray, List.map_cons, List.map_nil, hs, hx, hr]
 exact hK _ _ h
/-- The first k rows, one behind the other. -/
def catP (ls : Nat → List PRow) : Nat → List PRow
 | 0 => []
 | k + 1 => catP ls k ++ ls k
theorem catP_le (ls : Nat → List PRow) : ∀ {k m : Nat}, k ≤ m → (catP ls k).length ≤ (catP ls m).length := by
 intro k m h
 induction h with
 | refl => exact Nat.le_refl _
 | step _ ih => exact Nat.le_trans ih (by simp [catP])
/-- slices.Grow of nil. -/
theorem growP_any (n : Nat) (w : World) (hn : n ≤ 1000) :
  Calls Tryz.prog 108 #[.slice none 0 0, .int .i64 n] w fun e w' => ∃ a c, e = .returned (.slice a 0 c) ∧ w'.ownsRow w.heap.size 127 5 (.slice a 0 c) 0 [] ∧ Ext w w' := by
 obtain ⟨i0, hi, hz0, hz1, hz2⟩ := info_parts Tryz.infoP
 by_cases h0 : n = 0
 ·
  subst h0
  have h := Any8.slices_Grow_room (P := Tryz.prog) Tryz.lays4 none 0 0 0 w (Nat.le_refl _) (by omega) (by omega) (by omega)
  change Calls Tryz.prog 108 _ _ _ at h
  refine h.mono ?_
  rintro e w' ⟨rfl, rfl⟩
  exact ⟨none, 0, rfl, World.ownsRow_nil _ _ _ _, Ext.refl _⟩
 ·
  have h := Any8.slices_Grow_grow (P := Tryz.prog) Tryz.lays4 i0 (.agg #[.string ⟨#[]⟩, .int .i64 0, .int .i64 0, .string ⟨#[]⟩, .slice none 0 0]) hi hz0 (by omega) none 0 0 n [] w (Nat.le_refl _) (by omega) (by rw [hz2]; omega) (by omega) (by simp) (fun _ => rfl) (fun a ha => by cases ha)
  change Calls Tryz.prog 108 _ _ _ at h
  refine h.mono ?_
  rintro e w' ⟨rfl, rfl⟩
  refine ⟨_, _, rfl, ⟨rfl, .inr ⟨w.heap.size, grownCap w (0 + n) 0 127, _, rfl, Nat.le_refl _, heap_alloc_new w.drew _, Nat.zero_le _, grownCap_le_maxLen w (0 + n) 0 127 (by unfold maxLen; omega), ?_, by simp⟩⟩, (Ext.refl w).drew.alloc _⟩
  have hge := grownCap_ge w (0 + n) 0 (Tryz.lays4_ren.t 25)
  have e9 : grownCap w (0 + n) 0 127 = grownCap w (0 + n) 0 (Tryz.lays4_ren.t 25) := rfl
  have hzs : (Value.agg #[.string ⟨#[]⟩, .int .i64 0, .int .i64 0, .string ⟨#[]⟩, .slice none 0 0]).cells.size = 5 := rfl
  rw [Array.size_append, Array.size_append, size_zeroCells, size_zeroCells, hzs]
  show 0 + (0 + n - 0) * 5 + _ = _
  omega
set_option maxRecDepth 100000 in
set_option maxHeartbeats 4000000 in
theorem concatP_any (w : World) (B : Nat) (vs : Nat → Value) (ls : Nat → List PRow) (hB : B < w.heap.size) (hc : ∀ k, k < 3 → w.cell? ⟨B, k, none⟩ = some (vs k)) (hs : ∀ k, k < 3 → SrcP w (vs k) (ls k)) (hl : (catP ls 3).length ≤ 1000) :
  Calls Tryz.prog 104 #[.slice (some ⟨B, 0, none⟩) 3 3] w fun e w' => ∃ a c cs, e = .returned (.slice a (catP ls 3).length c) ∧ w'.ownsRow w.heap.size 127 5 (.slice a (catP ls 3).length c) (catP ls 3).length cs ∧ RowC w (catP ls 3) cs ∧ Ext w w' := by
 have hle := fun k (hk : k ≤ 3) => catP_le ls (k := k) (m := 3) hk
 have hgrow := growP_any
 have hcc := (show Hid _ from hc)
 have hss := (show Hid _ from hs)
 have hll := (show Hid _ from hle)
 clear hc hs hle
 go_enter Tryz.func104, Tryz.ntmps104
 go_wp2
 go_loopw [3, 11] (fun s i wr => ∃ k : Nat, k ≤ 3 ∧ i = .int .i64 k ∧ s = .int .i64 (catP ls k).length ∧ wr = w) (fun _ i _ => 3 - (intOf i).toNat)
 case atStart => exact ⟨0, Nat.zero_le _, rfl, rfl, rfl⟩
 case round =>
  obtain ⟨k, hk, rfl, rfl, hwr⟩ := hrel
  have hwr' := hwr.symm
  subst hwr'
  by_cases hlt : k < 3
  ·
   have e0 := hcc.out k hlt
   obtain ⟨p, c, cs0, hv, _⟩ := hss.out k hlt
   rw [hv] at e0
   have hk1 := hll.out (k + 1) hlt
   have hcat : (catP ls (k + 1)).length = (catP ls k).length + (ls k).length := by simp [catP]
   rw [hcat] at hk1
   have hcH := (show Hid _ from hcat)
   clear hv hcat
   go_wp2
   go_roundw
   case rel => exact ⟨k + 1, by omega, by go_num, by rw [hcH.out]; go_num, by first | rfl | trivial⟩
   case measure => simp [intOf]; omega
  ·
   have hke : k = 3 := by omega
   subst hke
   have hg := hgrow (catP ls 3).length w hl
   clear hgrow hwr
   go_wp2_with fail
   refine hg.mono ?_
   rintro e w1 ⟨ga, gc, rfl, hown, hE1⟩
   clear hg
   go_wp2
   go_loopw [6, 27] (fun u i wr => ∃ (k : Nat) (cs : List Value), k ≤ 3 ∧ i = .int .i64 k ∧ wr.ownsRow w.heap.size 127 5 u (catP ls k).length cs ∧ RowC w (catP ls k) cs ∧ Ext w wr) (fun _ i _ => 3 - (intOf i).toNat)
   case atStart => exact ⟨0, [], Nat.zero_le _, rfl, hown, RowC.nil w, hE1⟩
   case round =>
    clear hown hE1
    obtain ⟨k, cs, hk, rfl, hown, hrow, hE⟩ := hrel
    obtain ⟨ua, ucap, rfl, _⟩ := ownP_shape hown
    by_cases hlt : k < 3
    ·
     have e0 := hcc.out k hlt
     have hs0 := hss.out k hlt
     have hsr := hs0.ext hE
     rw [← hE.cell (p := ⟨B, k, none⟩) hB] at e0
     have hk1 := hll.out (k + 1) hlt
     have hk0 := hll.out k (by omega)
     have hcl : (catP ls (k + 1)).length = (catP ls k).length + (ls k).length := by rw [catP, List.length_append]
     have hkl : (ls k).length ≤ 1000 := by omega
     obtain ⟨a', c', w3, ds, hr, hown', hds, hgr, _⟩ := run_append_props w wr hE hs0 hown hkl (by omega) hE.le 79
     have hrow' : Hid (RowC w (catP ls (k + 1)) (cs ++ ds)) := hrow.append hds
     obtain ⟨p, c, cs0, hv, _⟩ := hsr
     rw [hv] at e0 hr
     have hEn : Ext w w3 := Below.grown hE hgr hE.le (fun j hj => (hown.lt j hj).1)
     have hclH := (show Hid _ from hcl)
     clear hv hgr hcl hds hs0 hrow
     go_wp2_with (at_builtin; refine wpList_append_ranP _ rfl _ _ rfl hr rfl rfl ?_)
     go_roundw
     case rel => exact ⟨k + 1, cs ++ ds, by omega, by go_num, by rw [hclH.out]; exact hown', hrow'.out, hEn⟩
     case measure => simp [intOf]; omega
    ·
     have hke : k = 3 := by omega
     subst hke
     go_wp2
     go_ret
     exact ⟨_, _, _, rfl, hown, hrow, hE⟩
end Go.Proofs.YteijgejpenlgjaaGreat

/- What impl.replaced answers at props. -/
namespace Go.Proofs.YteijgejpenlgjaaGreat
open Go.RowKit Go.Deep

/-- What replaced leaves. -/
def repP (l p : List PRow) (k : Nat) (th : Bool) : List PRow := l.take k ++ (p ++ l.drop (k + (if th then 1 else 0)))
theorem srcP_take {w : World} {a : Option Addr} {c : Nat} {l : List PRow} {k : Nat} (h : SrcP w (.slice a l.length c) l) (hk : k ≤ l.length) : SrcP w (.slice a k c) (l.take k) := by
 obtain ⟨p, c', cs, e, hr, h2⟩ := h
 injection e with e1 _ e3
 subst e1 e3
 refine ⟨a, c, cs.take (k * 5), by rw [List.length_take, Nat.min_eq_left hk], hr.take k, ?_⟩
 rcases h2 with rfl | ⟨b, off, rfl, hb, hc⟩
 ·
  exact .inl (by simp)
 ·
  refine .inr ⟨b, off, rfl, hb, fun j u hu => hc j u ?_⟩
  rw [List.getElem?_take] at hu
  split at hu
  ·
   exact hu
  ·
   cases hu
theorem srcP_drop {w : World} {a : Option Addr} {c c' : Nat} {l : List PRow} {k : Nat} (h : SrcP w (.slice a l.length c) l) (hc : l.length ≤ c) : SrcP w (.slice (if c = k then a else Option.map (fun x => x.add (k * 5)) a) (l.length - k) c') (l.drop k) := by
 obtain ⟨p, c2, cs, e, hr, h2⟩ := h
 injection e with e1 _ e3
 subst e1 e3
 refine ⟨_, c', cs.drop (k * 5), by rw [List.length_drop], hr.drop k, ?_⟩
 by_cases hck : c = k
 ·
  exact .inl (List.drop_eq_nil_iff.2 (by omega))
 rcases h2 with rfl | ⟨b, off, rfl, hb, hcs⟩
 ·
  exact .inl (by simp)
 ·
  refine .inr ⟨b, off + k * 5, by rw [if_neg hck]; simp [Go.WideShapes.add_plain], hb, fun j u hu => ?_⟩
  rw [List.getElem?_drop] at hu
  rw [Nat.add_assoc]
  exact hcs _ u hu
/-- Three sources, as concatP_any asks for them. -/
def three {α : Type} (x y z : α) : Nat → α := fun k => if k = 0 then x else if k = 1 then y else z
theorem three_cells (w : World) (x y z : Value) (T : TypeId) : ∀ i, i < 3 → (w.drew.alloc (.cells #[x, y, z] T)).cell? ⟨w.heap.size, i, none⟩ = some (three x y z i) := fun i hi => by
 rcases (by omega : i = 0 ∨ i = 1 ∨ i = 2) with rfl | rfl | rfl
 ·
  exact box_cell (w := w.drew) (Ext.refl _) 0 _ rfl
 ·
  exact box_cell (w := w.drew) (Ext.refl _) 1 _ rfl
 ·
  exact box_cell (w := w.drew) (Ext.refl _) 2 _ rfl
set_option maxRecDepth 100000 in
set_option maxHeartbeats 4000000 in
theorem replacedP_any (w : World) (a : Option Addr) (c : Nat) (u : Value) (l p : List PRow) (k : Nat) (th : Bool) (hv : SrcP w (.slice a l.length c) l) (hc : l.length ≤ c) (hu : SrcP w u p) (hk : k + (if th then 1 else 0) ≤ l.length) (hl : l.length ≤ 100) (hp : p.length ≤ 100) :
  Calls Tryz.prog 91 #[.slice a l.length c, .int .i64 k, .bool th, u] w fun e w' => ∃ a' c', e = .returned (.slice a' (repP l p k th).length c') ∧ ∃ cs, w'.ownsRow w.heap.size 127 5 (.slice a' (repP l p k th).length c') (repP l p k th).length cs ∧ RowC w' (repP l p k th) cs ∧ Ext w w' := by
 have hkl : k ≤ l.length := by omega
 have hkc : k ≤ c := by omega
 have hs0 := srcP_take hv hkl
 obtain ⟨ua, uc, rfl⟩ : ∃ ua uc, u = .slice ua p.length uc := by obtain ⟨a, c, _, e, _⟩ := hu; exact ⟨a, c, e⟩
 cases th
 ·
  by_cases hck : c = k
  ·
   have hs2 := fun c' => srcP_drop (k := k) (c' := c') hv hc
   simp only [if_pos hck] at hs2
   have hck2 := hck.symm
   subst hck2
   clear hck
   simp only [Nat.sub_eq_zero_of_le hc] at hs2
   have hcat := fun (W : World) (hW : Ext w W) (hB : w.heap.size < W.heap.size) (hb : ∀ i, i < 3 → W.cell? ⟨w.heap.size, i, none⟩ = some (three (.slice a k k) (.slice ua p.length uc) (.slice a 0 0) i)) => concatP_any W w.heap.size (three (.slice a k k) (.slice ua p.length uc) (.slice a 0 0)) (three (l.take k) p (l.drop k)) hB hb (fun i hi => by
    rcases (by omega : i = 0 ∨ i = 1 ∨ i = 2) with rfl | rfl | rfl
    ·
     exact hs0.ext hW
    ·
     exact hu.ext hW
    ·
     exact (hs2 _).ext hW) (by simp [catP, three]; omega)
   have hR : catP (three (l.take k) p (l.drop k)) 3 = repP l p k false := by simp [catP, three, repP]
   rw [hR] at hcat
   have hcat := (show Hid _ from hcat)
   go_enter Tryz.func91, Tryz.ntmps91
   go_wp2_with fail
   have HK : Hid (∀ W, Ext w W → True) := fun _ _ => trivial
   have hcur : Ext w w.drew := (Ext.refl _).drew
   refine wp_region_held_drew (S := (fun _ => True)) (by kernel_rfl) (trivial) (fun hHeld => ?_)
   refine tkL 0 ⟨some 14, .move (.tmp 0), 79, _, #[], none⟩ ?_ hHeld ?yyA0 ?rrA0
   case yyA0 => (intro w hSw; (try dsimp only at hSw); go_simp; try with_reducible rfl)
   try simp only [Act.put, putA, putB, putC]
   refine tkL 1 ⟨some 15, .move (.tmp 1), 3, _, #[], none⟩ ?_ hHeld ?yyA1 ?rrA1
   case yyA1 => (intro w hSw; (try dsimp only at hSw); go_simp; try with_reducible rfl)
   try simp only [Act.put, putA, putB, putC]
   refine tkL 2 ⟨some 16, .slice 79 (.tmp 14) none (some (.tmp 15)) none, 79, _, #[⟨0, .data⟩, ⟨1, .data⟩], none⟩ ?_ hHeld ?yyA2 ?rrA2
   case yyA2 => (intro w hSw; (try dsimp only at hSw); go_simp; try with_reducible rfl)
   try simp only [Act.put, putA, putB, putC]
   refine tkL 3 ⟨some 17, .move (.tmp 3), 79, _, #[], none⟩ ?_ hHeld ?yyA3 ?rrA3
   case yyA3 => (intro w hSw; (try dsimp only at hSw); go_simp; try with_reducible rfl)
   try simp only [Act.put, putA, putB, putC]
   refine tkL 4 ⟨some 18, .move (.tmp 0), 79, _, #[], none⟩ ?_ hHeld ?yyA4 ?rrA4
   case yyA4 => (intro w hSw; (try dsimp only at hSw); go_simp; try with_reducible rfl)
   try simp only [Act.put, putA, putB, putC]
   refine tkL 5 ⟨some 19, .move (.tmp 9), 3, _, #[], none⟩ ?_ hHeld ?yyA5 ?rrA5
   case yyA5 => (intro w hSw; (try dsimp only at hSw); go_simp; try with_reducible rfl)
   try simp only [Act.put, putA, putB, putC]
   refine tkL 6 ⟨some 20, .slice 79 (.tmp 18) (some (.tmp 19)) none none, 79, _, #[⟨4, .data⟩, ⟨5, .data⟩], none⟩ ?_ hHeld ?yyA6 ?rrA6
   case yyA6 => (intro w hSw; (try dsimp only at hSw); go_simp; try with_reducible rfl)
   try simp only [Act.put, putA, putB, putC]
   refine wpAnyH_ready (rs := [7]) (by kernel_rfl) (by simp) ?_
   refine AllReadyH.cons (o := ⟨some 21, .buildSlice 169 3 #[(0, .tmp 16), (1, .tmp 17), (2, .tmp 20)], 169, _, #[⟨2, .data⟩, ⟨3, .data⟩, ⟨6, .data⟩], none⟩) rfl (fun K hK => ?_) AllReadyH.nil
   go_simp
   replace hcur := hcur.alloc (.cells #[.slice a k k, .slice ua p.length uc, .slice a 0 0] 79)
   refine hK.out _ _ (HK.out _ hcur) (fun hHeld => ?_)
   clear hK K
   try simp only [Act.put, putA, putB, putC]
   refine wpAnyH_ready (rs := [8]) (by kernel_rfl) (by simp) ?_
   refine AllReadyH.cons (o := ⟨some 22, .call { callee := .value (.func 104), args := #[.tmp 21], argTypes := #[169] }, 79, _, #[⟨7, .data⟩], none⟩) rfl (fun K hK => ?_) AllReadyH.nil
   go_simp
   refine (hcat.out _ hcur (by simp) (three_cells w _ _ _ _)).mono ?_
   rintro e w5 ⟨ra, rc, cs5, rfl, hown, hrow5, hE5⟩
   replace hcur := hcur.trans hE5
   go_wp2_with fail
   refine hK.out _ _ (HK.out _ hcur) (fun hHeld => ?_)
   clear hK K
   try simp only [Act.put, putA, putB, putC]
   refine tkL 9 ⟨some 8, .assign (.tmp 22), 79, _, #[⟨8, .data⟩, ⟨8, .chain⟩, ⟨0, .phase⟩, ⟨1, .phase⟩, ⟨2, .phase⟩, ⟨3, .phase⟩, ⟨4, .phase⟩, ⟨5, .phase⟩, ⟨6, .phase⟩, ⟨7, .phase⟩, ⟨8, .phase⟩], none⟩ ?_ hHeld ?yyA9 ?rrA9
   case yyA9 => (intro w hSw; (try dsimp only at hSw); go_simp; try with_reducible rfl)
   try simp only [Act.put, putA, putB, putC]
   refine wpAnyH_done (by kernel_rfl) ?_ _
   go_wp2
   go_ret
   exact ⟨_, _, rfl, cs5, ownP_low hown (by simp), hrow5.ext hE5, hcur⟩
  ·
   have hs2 := fun c' => srcP_drop (k := k) (c' := c') hv hc
   simp only [if_neg hck] at hs2
   have hcat := fun (W : World) (hW : Ext w W) (hB : w.heap.size < W.heap.size) (hb : ∀ i, i < 3 → W.cell? ⟨w.heap.size, i, none⟩ = some (three (.slice a k c) (.slice ua p.length uc) (.slice (Option.map (fun x => x.add (k * 5)) a) (l.length - k) (c - k)) i)) => concatP_any W w.heap.size (three (.slice a k c) (.slice ua p.length uc) (.slice (Option.map (fun x => x.add (k * 5)) a) (l.length - k) (c - k))) (three (l.take k) p (l.drop k)) hB hb (fun i hi => by
    rcases (by omega : i = 0 ∨ i = 1 ∨ i = 2) with rfl | rfl | rfl
    ·
     exact hs0.ext hW
    ·
     exact hu.ext hW
    ·
     exact (hs2 _).ext hW) (by simp [catP, three]; omega)
   have hR : catP (three (l.take k) p (l.drop k)) 3 = repP l p k false := by simp [catP, three, repP]
   rw [hR] at hcat
   have hcat := (show Hid _ from hcat)
   go_enter Tryz.func91, Tryz.ntmps91
   go_wp2_with fail
   have HK : Hid (∀ W, Ext w W → True) := fun _ _ => trivial
   have hcur : Ext w w.drew := (Ext.refl _).drew
   refine wp_region_held_drew (S := (fun _ => True)) (by kernel_rfl) (trivial) (fun hHeld => ?_)
   refine tkL 0 ⟨some 14, .move (.tmp 0), 79, _, #[], none⟩ ?_ hHeld ?yyB0 ?rrB0
   case yyB0 => (intro w hSw; (try dsimp only at hSw); go_simp; try with_reducible rfl)
   try simp only [Act.put, putA, putB, putC]
   refine tkL 1 ⟨some 15, .move (.tmp 1), 3, _, #[], none⟩ ?_ hHeld ?yyB1 ?rrB1
   case yyB1 => (intro w hSw; (try dsimp only at hSw); go_simp; try with_reducible rfl)
   try simp only [Act.put, putA, putB, putC]
   refine tkL 2 ⟨some 16, .slice 79 (.tmp 14) none (some (.tmp 15)) none, 79, _, #[⟨0, .data⟩, ⟨1, .data⟩], none⟩ ?_ hHeld ?yyB2 ?rrB2
   case yyB2 => (intro w hSw; (try dsimp only at hSw); go_simp; try with_reducible rfl)
   try simp only [Act.put, putA, putB, putC]
   refine tkL 3 ⟨some 17, .move (.tmp 3), 79, _, #[], none⟩ ?_ hHeld ?yyB3 ?rrB3
   case yyB3 => (intro w hSw; (try dsimp only at hSw); go_simp; try with_reducible rfl)
   try simp only [Act.put, putA, putB, putC]
   refine tkL 4 ⟨some 18, .move (.tmp 0), 79, _, #[], none⟩ ?_ hHeld ?yyB4 ?rrB4
   case yyB4 => (intro w hSw; (try dsimp only at hSw); go_simp; try with_reducible rfl)
   try simp only [Act.put, putA, putB, putC]
   refine tkL 5 ⟨some 19, .move (.tmp 9), 3, _, #[], none⟩ ?_ hHeld ?yyB5 ?rrB5
   case yyB5 => (intro w hSw; (try dsimp only at hSw); go_simp; try with_reducible rfl)
   try simp only [Act.put, putA, putB, putC]
   refine tkL 6 ⟨some 20, .slice 79 (.tmp 18) (some (.tmp 19)) none none, 79, _, #[⟨4, .data⟩, ⟨5, .data⟩], none⟩ ?_ hHeld ?yyB6 ?rrB6
   case yyB6 => (intro w hSw; (try dsimp only at hSw); go_simp; try with_reducible rfl)
   try simp only [Act.put, putA, putB, putC]
   refine wpAnyH_ready (rs := [7]) (by kernel_rfl) (by simp) ?_
   refine AllReadyH.cons (o := ⟨some 21, .buildSlice 169 3 #[(0, .tmp 16), (1, .tmp 17), (2, .tmp 20)], 169, _, #[⟨2, .data⟩, ⟨3, .data⟩, ⟨6, .data⟩], none⟩) rfl (fun K hK => ?_) AllReadyH.nil
   go_simp
   replace hcur := hcur.alloc (.cells #[.slice a k c, .slice ua p.length uc, .slice (Option.map (fun x => x.add (k * 5)) a) (l.length - k) (c - k)] 79)
   refine hK.out _ _ (HK.out _ hcur) (fun hHeld => ?_)
   clear hK K
   try simp only [Act.put, putA, putB, putC]
   refine wpAnyH_ready (rs := [8]) (by kernel_rfl) (by simp) ?_
   refine AllReadyH.cons (o := ⟨some 22, .call { callee := .value (.func 104), args := #[.tmp 21], argTypes := #[169] }, 79, _, #[⟨7, .data⟩], none⟩) rfl (fun K hK => ?_) AllReadyH.nil
   go_simp
   refine (hcat.out _ hcur (by simp) (three_cells w _ _ _ _)).mono ?_
   rintro e w5 ⟨ra, rc, cs5, rfl, hown, hrow5, hE5⟩
   replace hcur := hcur.trans hE5
   go_wp2_with fail
   refine hK.out _ _ (HK.out _ hcur) (fun hHeld => ?_)
   clear hK K
   try simp only [Act.put, putA, putB, putC]
   refine tkL 9 ⟨some 8, .assign (.tmp 22), 79, _, #[⟨8, .data⟩, ⟨8, .chain⟩, ⟨0, .phase⟩, ⟨1, .phase⟩, ⟨2, .phase⟩, ⟨3, .phase⟩, ⟨4, .phase⟩, ⟨5, .phase⟩, ⟨6, .phase⟩, ⟨7, .phase⟩, ⟨8, .phase⟩], none⟩ ?_ hHeld ?yyB9 ?rrB9
   case yyB9 => (intro w hSw; (try dsimp only at hSw); go_simp; try with_reducible rfl)
   try simp only [Act.put, putA, putB, putC]
   refine wpAnyH_done (by kernel_rfl) ?_ _
   go_wp2
   go_ret
   exact ⟨_, _, rfl, cs5, ownP_low hown (by simp), hrow5.ext hE5, hcur⟩
 ·
  by_cases hck : c = k + 1
  ·
   have hk1 : k + 1 ≤ l.length := hk
   have hkc1 : k + 1 ≤ c := by omega
   have hkk : (k : Int) ≤ (k : Int) + 1 := by omega
   have hkA : (0 : Int) ≤ (k : Int) + 1 := by omega
   have hkB : (k : Int) + 1 ≤ (l.length : Int) := by omega
   have hkC : (k : Int) + 1 ≤ (c : Int) := by omega
   have hs2 := fun c' => srcP_drop (k := k + 1) (c' := c') hv hc
   simp only [if_pos hck] at hs2
   have hck2 := hck.symm
   subst hck2
   clear hck
   simp only [Nat.sub_eq_zero_of_le hc] at hs2
   have hcat := fun (W : World) (hW : Ext w W) (hB : w.heap.size < W.heap.size) (hb : ∀ i, i < 3 → W.cell? ⟨w.heap.size, i, none⟩ = some (three (.slice a k (k + 1)) (.slice ua p.length uc) (.slice a 0 0) i)) => concatP_any W w.heap.size (three (.slice a k (k + 1)) (.slice ua p.length uc) (.slice a 0 0)) (three (l.take k) p (l.drop (k + 1))) hB hb (fun i hi => by
    rcases (by omega : i = 0 ∨ i = 1 ∨ i = 2) with rfl | rfl | rfl
    ·
     exact hs0.ext hW
    ·
     exact hu.ext hW
    ·
     exact (hs2 _).ext hW) (by simp [catP, three]; omega)
   have hR : catP (three (l.take k) p (l.drop (k + 1))) 3 = repP l p k true := by simp [catP, three, repP]
   rw [hR] at hcat
   have hcat := (show Hid _ from hcat)
   go_enter Tryz.func91, Tryz.ntmps91
   go_wp2_with fail
   have HK : Hid (∀ W, Ext w W → True) := fun _ _ => trivial
   have hcur : Ext w w.drew := (Ext.refl _).drew
   refine wp_region_held_drew (S := (fun _ => True)) (by kernel_rfl) (trivial) (fun hHeld => ?_)
   refine tkL 0 ⟨some 14, .move (.tmp 0), 79, _, #[], none⟩ ?_ hHeld ?yyC0 ?rrC0
   case yyC0 => (intro w hSw; (try dsimp only at hSw); go_simp; try with_reducible rfl)
   try simp only [Act.put, putA, putB, putC]
   refine tkL 1 ⟨some 15, .move (.tmp 1), 3, _, #[], none⟩ ?_ hHeld ?yyC1 ?rrC1
   case yyC1 => (intro w hSw; (try dsimp only at hSw); go_simp; try with_reducible rfl)
   try simp only [Act.put, putA, putB, putC]
   refine tkL 2 ⟨some 16, .slice 79 (.tmp 14) none (some (.tmp 15)) none, 79, _, #[⟨0, .data⟩, ⟨1, .data⟩], none⟩ ?_ hHeld ?yyC2 ?rrC2
   case yyC2 => (intro w hSw; (try dsimp only at hSw); go_simp; try with_reducible rfl)
   try simp only [Act.put, putA, putB, putC]
   refine tkL 3 ⟨some 17, .move (.tmp 3), 79, _, #[], none⟩ ?_ hHeld ?yyC3 ?rrC3
   case yyC3 => (intro w hSw; (try dsimp only at hSw); go_simp; try with_reducible rfl)
   try simp only [Act.put, putA, putB, putC]
   refine tkL 4 ⟨some 18, .move (.tmp 0), 79, _, #[], none⟩ ?_ hHeld ?yyC4 ?rrC4
   case yyC4 => (intro w hSw; (try dsimp only at hSw); go_simp; try with_reducible rfl)
   try simp only [Act.put, putA, putB, putC]
   refine tkL 5 ⟨some 19, .move (.tmp 9), 3, _, #[], none⟩ ?_ hHeld ?yyC5 ?rrC5
   case yyC5 => (intro w hSw; (try dsimp only at hSw); go_simp; try with_reducible rfl)
   try simp only [Act.put, putA, putB, putC]
   refine tkL 6 ⟨some 20, .slice 79 (.tmp 18) (some (.tmp 19)) none none, 79, _, #[⟨4, .data⟩, ⟨5, .data⟩], none⟩ ?_ hHeld ?yyC6 ?rrC6
   case yyC6 => (intro w hSw; (try dsimp only at hSw); go_simp; try with_reducible rfl)
   try simp only [Act.put, putA, putB, putC]
   refine wpAnyH_ready (rs := [7]) (by kernel_rfl) (by simp) ?_
   refine AllReadyH.cons (o := ⟨some 21, .buildSlice 169 3 #[(0, .tmp 16), (1, .tmp 17), (2, .tmp 20)], 169, _, #[⟨2, .data⟩, ⟨3, .data⟩, ⟨6, .data⟩], none⟩) rfl (fun K hK => ?_) AllReadyH.nil
   go_simp
   replace hcur := hcur.alloc (.cells #[.slice a k (k + 1), .slice ua p.length uc, .slice a 0 0] 79)
   refine hK.out _ _ (HK.out _ hcur) (fun hHeld => ?_)
   clear hK K
   try simp only [Act.put, putA, putB, putC]
   refine wpAnyH_ready (rs := [8]) (by kernel_rfl) (by simp) ?_
   refine AllReadyH.cons (o := ⟨some 22, .call { callee := .value (.func 104), args := #[.tmp 21], argTypes := #[169] }, 79, _, #[⟨7, .data⟩], none⟩) rfl (fun K hK => ?_) AllReadyH.nil
   go_simp
   refine (hcat.out _ hcur (by simp) (three_cells w _ _ _ _)).mono ?_
   rintro e w5 ⟨ra, rc, cs5, rfl, hown, hrow5, hE5⟩
   replace hcur := hcur.trans hE5
   go_wp2_with fail
   refine hK.out _ _ (HK.out _ hcur) (fun hHeld => ?_)
   clear hK K
   try simp only [Act.put, putA, putB, putC]
   refine tkL 9 ⟨some 8, .assign (.tmp 22), 79, _, #[⟨8, .data⟩, ⟨8, .chain⟩, ⟨0, .phase⟩, ⟨1, .phase⟩, ⟨2, .phase⟩, ⟨3, .phase⟩, ⟨4, .phase⟩, ⟨5, .phase⟩, ⟨6, .phase⟩, ⟨7, .phase⟩, ⟨8, .phase⟩], none⟩ ?_ hHeld ?yyC9 ?rrC9
   case yyC9 => (intro w hSw; (try dsimp only at hSw); go_simp; try with_reducible rfl)
   try simp only [Act.put, putA, putB, putC]
   refine wpAnyH_done (by kernel_rfl) ?_ _
   go_wp2
   go_ret
   exact ⟨_, _, rfl, cs5, ownP_low hown (by simp), hrow5.ext hE5, hcur⟩
  ·
   have hk1 : k + 1 ≤ l.length := hk
   have hkc1 : k + 1 ≤ c := by omega
   have hkk : (k : Int) ≤ (k : Int) + 1 := by omega
   have hkA : (0 : Int) ≤ (k : Int) + 1 := by omega
   have hkB : (k : Int) + 1 ≤ (l.length : Int) := by omega
   have hkC : (k : Int) + 1 ≤ (c : Int) := by omega
   have hs2 := fun c' => srcP_drop (k := k + 1) (c' := c') hv hc
   simp only [if_neg hck] at hs2
   have hcat := fun (W : World) (hW : Ext w W) (hB : w.heap.size < W.heap.size) (hb : ∀ i, i < 3 → W.cell? ⟨w.heap.size, i, none⟩ = some (three (.slice a k c) (.slice ua p.length uc) (.slice (Option.map (fun x => x.add ((k + 1) * 5)) a) (l.length - (k + 1)) (c - (k + 1))) i)) => concatP_any W w.heap.size (three (.slice a k c) (.slice ua p.length uc) (.slice (Option.map (fun x => x.add ((k + 1) * 5)) a) (l.length - (k + 1)) (c - (k + 1)))) (three (l.take k) p (l.drop (k + 1))) hB hb (fun i hi => by
    rcases (by omega : i = 0 ∨ i = 1 ∨ i = 2) with rfl | rfl | rfl
    ·
     exact hs0.ext hW
    ·
     exact hu.ext hW
    ·
     exact (hs2 _).ext hW) (by simp [catP, three]; omega)
   have hR : catP (three (l.take k) p (l.drop (k + 1))) 3 = repP l p k true := by simp [catP, three, repP]
   rw [hR] at hcat
   have hcat := (show Hid _ from hcat)
   go_enter Tryz.func91, Tryz.ntmps91
   go_wp2_with fail
   have HK : Hid (∀ W, Ext w W → True) := fun _ _ => trivial
   have hcur : Ext w w.drew := (Ext.refl _).drew
   refine wp_region_held_drew (S := (fun _ => True)) (by kernel_rfl) (trivial) (fun hHeld => ?_)
   refine tkL 0 ⟨some 14, .move (.tmp 0), 79, _, #[], none⟩ ?_ hHeld ?yyD0 ?rrD0
   case yyD0 => (intro w hSw; (try dsimp only at hSw); go_simp; try with_reducible rfl)
   try simp only [Act.put, putA, putB, putC]
   refine tkL 1 ⟨some 15, .move (.tmp 1), 3, _, #[], none⟩ ?_ hHeld ?yyD1 ?rrD1
   case yyD1 => (intro w hSw; (try dsimp only at hSw); go_simp; try with_reducible rfl)
   try simp only [Act.put, putA, putB, putC]
   refine tkL 2 ⟨some 16, .slice 79 (.tmp 14) none (some (.tmp 15)) none, 79, _, #[⟨0, .data⟩, ⟨1, .data⟩], none⟩ ?_ hHeld ?yyD2 ?rrD2
   case yyD2 => (intro w hSw; (try dsimp only at hSw); go_simp; try with_reducible rfl)
   try simp only [Act.put, putA, putB, putC]
   refine tkL 3 ⟨some 17, .move (.tmp 3), 79, _, #[], none⟩ ?_ hHeld ?yyD3 ?rrD3
   case yyD3 => (intro w hSw; (try dsimp only at hSw); go_simp; try with_reducible rfl)
   try simp only [Act.put, putA, putB, putC]
   refine tkL 4 ⟨some 18, .move (.tmp 0), 79, _, #[], none⟩ ?_ hHeld ?yyD4 ?rrD4
   case yyD4 => (intro w hSw; (try dsimp only at hSw); go_simp; try with_reducible rfl)
   try simp only [Act.put, putA, putB, putC]
   refine tkL 5 ⟨some 19, .move (.tmp 9), 3, _, #[], none⟩ ?_ hHeld ?yyD5 ?rrD5
   case yyD5 => (intro w hSw; (try dsimp only at hSw); go_simp; try with_reducible rfl)
   try simp only [Act.put, putA, putB, putC]
   refine tkL 6 ⟨some 20, .slice 79 (.tmp 18) (some (.tmp 19)) none none, 79, _, #[⟨4, .data⟩, ⟨5, .data⟩], none⟩ ?_ hHeld ?yyD6 ?rrD6
   case yyD6 => (intro w hSw; (try dsimp only at hSw); go_simp; try with_reducible rfl)
   try simp only [Act.put, putA, putB, putC]
   refine wpAnyH_ready (rs := [7]) (by kernel_rfl) (by simp) ?_
   refine AllReadyH.cons (o := ⟨some 21, .buildSlice 169 3 #[(0, .tmp 16), (1, .tmp 17), (2, .tmp 20)], 169, _, #[⟨2, .data⟩, ⟨3, .data⟩, ⟨6, .data⟩], none⟩) rfl (fun K hK => ?_) AllReadyH.nil
   go_simp
   replace hcur := hcur.alloc (.cells #[.slice a k c, .slice ua p.length uc, .slice (Option.map (fun x => x.add ((k + 1) * 5)) a) (l.length - (k + 1)) (c - (k + 1))] 79)
   refine hK.out _ _ (HK.out _ hcur) (fun hHeld => ?_)
   clear hK K
   try simp only [Act.put, putA, putB, putC]
   refine wpAnyH_ready (rs := [8]) (by kernel_rfl) (by simp) ?_
   refine AllReadyH.cons (o := ⟨some 22, .call { callee := .value (.func 104), args := #[.tmp 21], argTypes := #[169] }, 79, _, #[⟨7, .data⟩], none⟩) rfl (fun K hK => ?_) AllReadyH.nil
   go_simp
   refine (hcat.out _ hcur (by simp) (three_cells w _ _ _ _)).mono ?_
   rintro e w5 ⟨ra, rc, cs5, rfl, hown, hrow5, hE5⟩
   replace hcur := hcur.trans hE5
   go_wp2_with fail
   refine hK.out _ _ (HK.out _ hcur) (fun hHeld => ?_)
   clear hK K
   try simp only [Act.put, putA, putB, putC]
   refine tkL 9 ⟨some 8, .assign (.tmp 22), 79, _, #[⟨8, .data⟩, ⟨8, .chain⟩, ⟨0, .phase⟩, ⟨1, .phase⟩, ⟨2, .phase⟩, ⟨3, .phase⟩, ⟨4, .phase⟩, ⟨5, .phase⟩, ⟨6, .phase⟩, ⟨7, .phase⟩, ⟨8, .phase⟩], none⟩ ?_ hHeld ?yyD9 ?rrD9
   case yyD9 => (intro w hSw; (try dsimp only at hSw); go_simp; try with_reducible rfl)
   try simp only [Act.put, putA, putB, putC]
   refine wpAnyH_done (by kernel_rfl) ?_ _
   go_wp2
   go_ret
   exact ⟨_, _, rfl, cs5, ownP_low hown (by simp), hrow5.ext hE5, hcur⟩
end Go.Proofs.YteijgejpenlgjaaGreat

/- What impl.withProp answers. -/
namespace Go.Proofs.YteijgejpenlgjaaGreat
open Go.RowKit Go.Deep

theorem asc_of_sorted {d : D} (h : Sorted d.at! d.len!) : AscP (prL d) := List.pairwise_iff_getElem.2 fun i j hi hj hij => by
 rw [prL_get, prL_get]
 rw [prL_len] at hj
 exact h i j hij hj
/-- What placeOf says of a place is what replaced needs. -/
theorem place_set {d : D} {s : ByteArray} {i : Nat} (hso : Sorted d.at! d.len!) (p : List PRow) (h2 : ∀ j, findO (isAt d.at! s) d.len! = some j → i = j) (h3 : i ≤ d.len!) (h4 : ∀ t, t < i → Op.bytesLess (nameAt d.at! t) s.toList = true) (h5 : i < d.len! → Op.bytesLess (nameAt d.at! i) s.toList = false) {th : Bool} (ht : (findO (isAt d.at! s) d.len!).isSome = th) :
  repP (prL d) p i th = setP (prL d) s p ∧ i + (if th then 1 else 0) ≤ (prL d).length := by
 have hl := prL_len d
 have hth : ∀ (hi : i < (prL d).length), th = (nmR (prL d)[i] == s.toList) := by
  intro hi
  rw [prL_get]
  show th = isAt d.at! s i
  cases hf : findO (isAt d.at! s) d.len! with
  | none =>
   rw [hf] at ht
   subst ht
   have := List.find?_eq_none.1 hf i (List.mem_range.2 (by omega))
   simpa using this
  | some j =>
   rw [hf] at ht
   subst ht
   obtain rfl := h2 j hf
   exact (findO_lt hf).2.symm
 have hno : ¬ i < (prL d).length → th = false := by
  intro hi
  cases hf : findO (isAt d.at! s) d.len! with
  | none => rw [hf] at ht; exact ht.symm
  | some j =>
   obtain rfl := h2 j hf
   have := (findO_lt hf).1
   omega
 refine ⟨(setP_at (asc_of_sorted hso) s p (fun t h k => by rw [prL_get]; exact h4 t k) (fun h => by rw [prL_get]; exact h5 (by omega)) hth hno).symm, ?_⟩
 cases h : th
 ·
  simp only [if_false, Bool.false_eq_true]; omega
 ·
  by_cases hi : i < (prL d).length
  ·
   simp only [if_true]; omega
  ·
   rw [hno hi] at h; cases h
/-- The props behind it, and whether they may be. -/
def proD (d : D) (s : ByteArray) (k n : Int) (t : ByteArray) (l : D) : D := prD (setP (prL d) s (putP s k n t l))
def proOk (d : D) (s : ByteArray) (k n : Int) (t : ByteArray) (l : D) : Bool := nameB s && okN 3 (.mk k n t (vsOf l)) && propsB (proD d s k n t l)
theorem proD_has {d : D} (H : Has d (.list 3)) {s : ByteArray} {k n : Int} {t : ByteArray} {l : D} (H3 : Has l (.list 2)) : Has (proD d s k n t l) (.list 3) := prD_has (setP_has (prL_has H) (putP_has H3))
theorem putP_src {W : World} {S3 : Nat → Prop} {s : ByteArray} {k n : Int} {t : ByteArray} {d3 : D} {c3 : Value} (hk : k ≠ 0) (zs : s.size ≤ maxLen) (zk : (Lit.int .i64 k).wf = true) (zn : (Lit.int .i64 n).wf = true) (zt : t.size ≤ maxLen) (h3 : DIn S3 W d3 c3) :
  SrcP (W.alloc (.cells #[.string s, .int .i64 k, .int .i64 n, .string t, c3] 127)) (.slice (some ⟨W.heap.size, 0, none⟩) 1 1) (putP s k n t d3) := by
 have e : putP s k n t d3 = [fun j => if j = 0 then .str s else if j = 1 then .int k else if j = 2 then .int n else if j = 3 then .str t else d3] := by rw [putP, if_neg hk]
 rw [e]
 have h3' : DIn S3 (W.alloc (.cells #[.string s, .int .i64 k, .int .i64 n, .string t, c3] 127)) d3 c3 := h3.ext ((Ext.refl _).alloc _)
 refine ⟨_, 1, [.string s, .int .i64 k, .int .i64 n, .string t, c3], rfl, ⟨rfl, fun i r hr j hj => ?_⟩, .inr ⟨W.heap.size, 0, rfl, by simp, fun j u hu => by rw [Nat.zero_add]; exact box_cell (Ext.refl _) j u (by simpa using hu)⟩⟩
 have hi : i < 1 := (List.getElem?_eq_some_iff.1 hr).1
 obtain rfl : i = 0 := by omega
 simp only [List.getElem?_cons_zero, Option.some.injEq] at hr
 subst hr
 rcases (by omega : j = 0 ∨ j = 1 ∨ j = 2 ∨ j = 3 ∨ j = 4) with rfl | rfl | rfl | rfl | rfl
 ·
  exact ⟨_, rfl, rfl, zs⟩
 ·
  exact ⟨_, rfl, rfl, zk⟩
 ·
  exact ⟨_, rfl, rfl, zn⟩
 ·
  exact ⟨_, rfl, rfl, zt⟩
 ·
  exact ⟨_, rfl, h3'.any⟩
set_option maxRecDepth 100000 in
set_option maxHeartbeats 4000000 in
theorem withProp_any (S S3 : Nat → Prop) (d d3 : D) (H : Has d (.list 3)) (H3 : Has d3 (.list 2)) (a : Option Addr) (c : Nat) (s : ByteArray) (k n : Int) (t : ByteArray) (c3 : Value) (w : World) (hv : DIn S w d (.slice a d.len! c)) (hc : d.len! ≤ c) (hd : propsB d = true) (zs : s.size ≤ maxLen)
  (zk : (Lit.int .i64 k).wf = true) (zn : (Lit.int .i64 n).wf = true) (zt : t.size ≤ maxLen) (h3 : DIn S3 w d3 c3) :
  Calls Tryz.prog 59 #[.slice a d.len! c, .string s, .agg #[.int .i64 k, .int .i64 n, .string t, c3]] w fun e w' => ∃ a' l' c', e = .returned (.tuple #[.slice a' l' c', .bool (proOk d s k n t d3)]) ∧ (proOk d s k n t d3 = true → DIn (New w.heap.size w'.heap.size) w' (proD d s k n t d3) (.slice a' l' c') ∧ Own w' (proD d s k n t d3) (New w.heap.size w'.heap.size) (.slice a' l' c') ∧ l' ≤ c') ∧ Ext w w' := by
 have hn := fun (W : World) => implNameOk_any s W zs
 have hok3 := fun (W : World) (hW : Ext w W) => implValueOk_any (.mk k n t (vsOf d3)) 0 _ W (valIn_of zk zn zt H3 (h3.ext hW))
 obtain ⟨hso, hl4⟩ := props_sorted hd
 have hplace := fun (W : World) (hW : Ext w W) => placeOf_low d H hso (by omega) S _ s W (hv.ext hW)
 have hsrc := SrcP.of H hv
 have hlen := prL_len d
 have hput := putP_len s k n t d3
 have hset := fun (i : Nat) (th : Bool) h2 h3 h4 h5 (ht : (findO (isAt d.at! s) d.len!).isSome = th) => place_set (i := i) hso (putP s k n t d3) h2 h3 h4 h5 ht
 have hsl := setP_len (prL d) s (putP s k n t d3)
 have hHas : Has (proD d s k n t d3) (.list 3) := proD_has H H3
 obtain ⟨a3, cap3, l3, f3, hd3, hc3, _, _⟩ := list_shape H3 h3
 subst hc3
 clear hd3
 have hpsrc := fun (W : World) (hW : Ext w W) (hk : k ≠ 0) => putP_src hk zs zk zn zt (h3.ext hW)
 have hOk : Hid (proOk d s k n t d3 = (nameB s && okN 3 (.mk k n t (vsOf d3)) && propsB (proD d s k n t d3))) := rfl
 have hPD : Hid (proD d s k n t d3 = prD (setP (prL d) s (putP s k n t d3))) := rfl
 have hP0 : k = 0 → putP s k n t d3 = [] := fun h => by rw [putP, if_pos h]
 have hP1 : k ≠ 0 → (putP s k n t d3).length = 1 := fun h => by rw [putP, if_neg h]; rfl
 generalize proOk d s k n t d3 = ok at *
 generalize proD d s k n t d3 = dN at *
 generalize findO (isAt d.at! s) d.len! = R at *
 rw [← hlen] at hsrc hc hl4 hplace hset ⊢
 generalize d.at! = F at hplace hset hso
 generalize prL d = l at *
 generalize putP s k n t d3 = P at *
 generalize okN 3 (.mk k n t (vsOf d3)) = K at *
 have hset := (show Hid _ from hset)
 have hP0 := (show Hid _ from hP0)
 have hP1 := (show Hid _ from hP1)
 clear hv hd hlen h3 H H3 hso
 cases hnm : nameB s
 ·
  rw [hnm] at hn
  have hok : Hid (ok = false) := by show _ = _; rw [hOk.out, hnm]; rfl
  go_enter Tryz.func59, Tryz.ntmps59
  go_wp2_with (go_at_call 83; refine (hn _).mono ?_; rintro e w1 ⟨rfl, rfl⟩)
  go_ret2
  exact ⟨_, _, _, by rw [hok.out]; rfl, fun h => (by rw [hok.out] at h; cases h), (Ext.refl _).alloc _⟩
 rw [hnm] at hn
 obtain ⟨w0, hw0⟩ : ∃ w0, w0 = w.alloc (.cells #[.int .i64 k, .int .i64 n, .string t, .slice a3 l3 cap3] 40) := ⟨_, rfl⟩
 have hE0 : Ext w w0 := by rw [hw0]; exact (Ext.refl _).alloc _
 have HK : Hid (∀ W, Ext w0 W → W.cell? ⟨w.heap.size, 0, none⟩ = some (.int .i64 k) ∧ W.cell? ⟨w.heap.size, 1, none⟩ = some (.int .i64 n) ∧ W.cell? ⟨w.heap.size, 2, none⟩ = some (.string t) ∧ W.cell? ⟨w.heap.size, 3, none⟩ = some (.slice a3 l3 cap3)) := fun W hW => by
  rw [hw0] at hW
  exact ⟨box_cell hW 0 _ rfl, box_cell hW 1 _ rfl, box_cell hW 2 _ rfl, box_cell hW 3 _ rfl⟩
 cases hK : K
 ·
  rw [hK] at hok3
  have hok : Hid (ok = false) := by show _ = _; rw [hOk.out, hK, Bool.and_false, Bool.false_and]
  obtain ⟨q0, q1, q2, q3⟩ := HK.out _ (Ext.refl _)
  go_enter Tryz.func59, Tryz.ntmps59
  go_wp2_with fail
  rw [← hw0]
  clear hw0
  refine (hn w0).mono ?_
  rintro e w1 ⟨rfl, hw⟩
  subst hw
  go_wp2_with fail
  refine (hok3 _ hE0).mono ?_
  rintro e w2 ⟨rfl, hE2⟩
  go_wp2_with fail
  go_ret2
  exact ⟨_, _, _, by rw [hok.out]; rfl, fun h => (by rw [hok.out] at h; cases h), hE0.trans hE2⟩
 rw [hK] at hok3
 have hok : Hid (ok = propsB dN) := by show _ = _; rw [hOk.out, hnm, hK]; rfl
 obtain ⟨q0, q1, q2, q3⟩ := HK.out _ (Ext.refl _)
 go_enter Tryz.func59, Tryz.ntmps59
 go_wp2_with fail
 rw [← hw0]
 clear hw0
 refine (hn w0).mono ?_
 rintro e w1 ⟨rfl, hw⟩
 subst hw
 go_wp2_with fail
 refine (hok3 _ hE0).mono ?_
 rintro e w2 ⟨rfl, hE2⟩
 have hE02 := hE0.trans hE2
 clear q0 q1 q2 q3
 go_wp2_with fail
 refine (hplace _ hE02).mono ?_
 rintro e w3 ⟨i, rfl, h2, hi3, hE3, h4, h5⟩
 have hE13 : Ext w1 w3 := hE2.trans hE3
 obtain ⟨q0, q1, q2, q3⟩ := HK.out _ hE13
 generalize hth : R.isSome = th
 obtain ⟨hrep, hle⟩ := hset.out i th h2 hi3 h4 h5 hth
 clear h2 h4 h5 hset hplace hn hok3
 have hrep := (show Hid _ from hrep)
 have hE03 := hE0.trans hE13
 have hrp : ∀ (ua : Option Addr) (uc : Nat) (W : World), Ext w W → SrcP W (.slice ua P.length uc) P → Calls Tryz.prog 91 #[.slice a l.length c, .int .i64 i, .bool th, .slice ua P.length uc] W fun e w' => ∃ a' c', e = .returned (.slice a' (setP l s P).length c') ∧ ∃ cs, w'.ownsRow W.heap.size 127 5 (.slice a' (setP l s P).length c') (setP l s P).length cs ∧ RowC w' (setP l s P) cs ∧ Ext W w' := fun ua uc W hW hs => by
  have := replacedP_any W a c (.slice ua P.length uc) l P i th (hsrc.ext hW) hc hs hle (by omega) (by omega)
  rwa [hrep.out] at this
 have hpr : ∀ (W W0 : World) (v : Value) (cs : List Value), W.ownsRow W0.heap.size 127 5 v (setP l s P).length cs → RowC W (setP l s P) cs → Calls Tryz.prog 81 #[v] W fun e w' => ∃ a l c, e = .returned (.tuple #[.slice a l c, .bool (propsB dN)]) ∧ (propsB dN = true → DIn (New W.heap.size w'.heap.size) w' dN (.slice a l c) ∧ Own w' dN (New W.heap.size w'.heap.size) (.slice a l c)) ∧ (propsB dN = true → l ≤ c) ∧ Ext W w' := fun W W0 v cs ho hr => by
  have := ownP_in ho hr (by unfold maxLen; omega)
  rw [← hPD.out] at this
  exact propsOf_any _ hHas _ v W this
 clear hPD hHas hsl hsrc hc hle hOk hrep hth
 by_cases hk0 : k = 0
 ·
  subst hk0
  have hP := hP0.out rfl
  subst hP
  have hr := hrp none 0 w3 hE03 ⟨none, 0, [], rfl, RowC.nil _, .inl rfl⟩
  change Calls Tryz.prog 91 #[.slice a l.length c, .int .i64 i, .bool th, .slice none 0 0] _ _ at hr
  clear hrp hP0 hP1 hpsrc hput
  go_wp2_with fail
  refine hr.mono ?_
  rintro e w4 ⟨ra, rc, rfl, cs4, ho, hrow, hE4⟩
  have hE34 := hE03.trans hE4
  have hpb := hpr w4 _ _ _ ho hrow
  clear hr hpr ho hrow
  go_wp2_with fail
  refine hpb.mono ?_
  rintro e w5 ⟨la, ll, lc, rfl, hDO, hcap, hE5⟩
  have hz := hE34.le
  have hf : Hid (ok = true → DIn (New w.heap.size w5.heap.size) w5 dN (.slice la ll lc) ∧ Own w5 dN (New w.heap.size w5.heap.size) (.slice la ll lc) ∧ ll ≤ lc) := fun h => by
   rw [hok.out] at h
   have hm : ∀ x, New w4.heap.size w5.heap.size x → New w.heap.size w5.heap.size x := fun x hx => ⟨Nat.le_trans hz hx.1, hx.2⟩
   exact ⟨(hDO h).1.mono hm, (hDO h).2.mono hm, hcap h⟩
  clear hpb hDO hcap
  go_wp2
  go_ret2
  exact ⟨_, _, _, by rw [hok.out]; rfl, hf.out, hE34.trans hE5⟩
 ·
  have hPl := hP1.out hk0
  have hps := hpsrc w3 hE03 hk0
  rw [← hPl] at hps
  have hEa : Ext w (w3.alloc (.cells #[.string s, .int .i64 k, .int .i64 n, .string t, .slice a3 l3 cap3] 127)) := hE03.alloc _
  have hr := hrp (some ⟨w3.heap.size, 0, none⟩) 1 _ hEa (by rw [hPl] at hps ⊢; exact hps)
  rw [hPl] at hr
  clear hrp hP0 hP1 hpsrc hput hps
  go_wp2_with fail
  refine hr.mono ?_
  rintro e w4 ⟨ra, rc, rfl, cs4, ho, hrow, hE4⟩
  have hE34 := hEa.trans hE4
  have hpb := hpr w4 _ _ _ ho hrow
  clear hr hpr ho hrow
  go_wp2_with fail
  refine hpb.mono ?_
  rintro e w5 ⟨la, ll, lc, rfl, hDO, hcap, hE5⟩
  have hz := hE34.le
  have hf : Hid (ok = true → DIn (New w.heap.size w5.heap.size) w5 dN (.slice la ll lc) ∧ Own w5 dN (New w.heap.size w5.heap.size) (.slice la ll lc) ∧ ll ≤ lc) := fun h => by
   rw [hok.out] at h
   have hm : ∀ x, New w4.heap.size w5.heap.size x → New w.heap.size w5.heap.size x := fun x hx => ⟨Nat.le_trans hz hx.1, hx.2⟩
   exact ⟨(hDO h).1.mono hm, (hDO h).2.mono hm, hcap h⟩
  clear hpb hDO hcap
  go_wp2
  go_ret2
  exact ⟨_, _, _, by rw [hok.out]; rfl, hf.out, hE34.trans hE5⟩
end Go.Proofs.YteijgejpenlgjaaGreat
