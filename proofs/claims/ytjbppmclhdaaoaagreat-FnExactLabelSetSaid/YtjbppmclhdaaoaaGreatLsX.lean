/- Labels with one, or without it: as lists of texts, and as data. -/
import Derived.Test.YtjbppmclhdaaoaaGreatGSpec1
import Derived.Test.YtjbppmclhdaaoaaGreatBlThy
import Derived.Test.YtjbppmclhdaaoaaGreatWithSpec
import Derived.Shelf.Spec.SearchS
import Derived.Test.YtjbppmclhdaaoaaGreatTk
import Derived.Test.YtjbppmclhdaaoaaGreatLsCat
import Derived.Test.YtjbppmclhdaaoaaGreatGPV
namespace Go.Proofs.YtjbppmclhdaaoaaGreat
open Go.RowKit Go.Deep

abbrev ltB (a b : ByteArray) : Bool := Op.bytesLess a.toList b.toList
/-- Texts of a list; texts as data. -/
def strsOf (d : D) : List ByteArray := (List.range d.len!).map fun i => (d.at! i 0).str!
def strsF (l : List ByteArray) : Nat → Nat → D := fun i _ => .str (l.getD i ⟨#[]⟩)
def strsD (l : List ByteArray) : D := .list 1 l.length (strsF l)
/-- Ascending. -/
def AscS (l : List ByteArray) : Prop := l.Pairwise fun a b => ltB a b = true
theorem strsOf_list (n len : Nat) (f : Nat → Nat → D) : strsOf (.list n len f) = (List.range len).map fun i => (f i 0).str! := rfl
theorem strsOf_len (d : D) : (strsOf d).length = d.len! := by simp [strsOf]
theorem strsD_has (l : List ByteArray) : Has (strsD l) (.list 0) := ⟨0, rfl, rfl, fun i hi j hj => by
  have : j = 0 := by have : j < 1 := hj; omega
  subst this
  exact rfl⟩
theorem ltS_lt (a b : ByteArray) : ltS a b = ltB a b := rfl
theorem ba_ext {a b : ByteArray} (h : a.toList = b.toList) : a = b := by
  have e : ∀ x : ByteArray, x.toList = x.data.toList := fun x => ByteArray.toList_eq _
  rw [e, e] at h
  cases a; cases b
  simp at h
  rw [h]
theorem lt_irr (a : ByteArray) : ltB a a = false := bl_irrefl _
theorem lt_tr {a b c : ByteArray} (h : ltB a b = true) (k : ltB b c = true) : ltB a c = true := bl_trans _ _ _ h k
theorem lt_as {a b : ByteArray} (h : ltB a b = true) : ltB b a = false := bl_asymm _ _ h
theorem lt_to {a b : ByteArray} (h : ltB a b = false) (k : ltB b a = false) : a = b := ba_ext (bl_total _ _ h k)
theorem labels_asc {d : D} (h : labelsB d = true) : AscS (strsOf d) := by
  simp only [labelsB, Bool.and_eq_true, List.all_eq_true, List.mem_range, decide_eq_true_eq] at h
  have hstep : ∀ i, i + 1 < d.len! → ltB (d.at! i 0).str! (d.at! (i + 1) 0).str! = true := fun i hi => by
    have := h.1 (i + 1) hi
    simp only [labelB, Bool.and_eq_true, Bool.or_eq_true, beq_iff_eq] at this
    rcases this.2 with h2 | h2
    · omega
    · exact h2
  have hall : ∀ n i, i + n + 1 < d.len! → ltB (d.at! i 0).str! (d.at! (i + n + 1) 0).str! = true := by
    intro n
    induction n with
    | zero => exact fun i hi => hstep i hi
    | succ n ih => exact fun i hi => lt_tr (ih i (by omega)) (hstep (i + n + 1) hi)
  refine List.pairwise_iff_getElem.2 fun i j hi hj hij => ?_
  have hj' : j < d.len! := by rw [strsOf_len] at hj; exact hj
  have := hall (j - i - 1) i (by omega)
  rw [show i + (j - i - 1) + 1 = j by omega] at this
  simpa [strsOf] using this
/-- With a text, or without it. -/
def setL (l : List ByteArray) (s : ByteArray) (has : Bool) : List ByteArray := l.filter (fun x => ltB x s) ++ ((if has then [s] else []) ++ l.filter (fun x => ltB s x))
/-- Where a text stands, or would stand. -/
def atL (l : List ByteArray) (s : ByteArray) : Nat := (l.filter fun x => ltB x s).length
theorem asc_split {l : List ByteArray} (h : AscS l) (s : ByteArray) : (l.filter fun x => ltB x s) = l.take (atL l s) ∧ (∀ t, t < l.length → ltB (l.getD t s) s = decide (t < atL l s)) := by
  induction l with
  | nil => exact ⟨rfl, fun t ht => by simp at ht⟩
  | cons a l ih =>
    obtain ⟨h1, h2⟩ := List.pairwise_cons.1 h
    obtain ⟨i1, i2⟩ := ih h2
    by_cases ha : ltB a s = true
    · have hat : atL (a :: l) s = atL l s + 1 := by simp [atL, ha]
      refine ⟨?_, fun t ht => ?_⟩
      · rw [hat, List.take_succ_cons, ← i1, List.filter_cons, if_pos ha]
      · rw [hat]
        cases t with
        | zero => simp [ha]
        | succ t =>
          have := i2 t (by simpa using ht)
          simpa using this
    · have hf : ltB a s = false := by simpa using ha
      have hno : ∀ x ∈ l, ltB x s = false := fun x hx => by
        cases e : ltB x s with
        | false => rfl
        | true => exact absurd (lt_tr (h1 x hx) e) ha
      have hfl : (l.filter fun x => ltB x s) = [] := List.filter_eq_nil_iff.2 fun x hx => by simp [hno x hx]
      have hat : atL (a :: l) s = 0 := by unfold atL; rw [List.filter_cons, if_neg ha, hfl]; rfl
      refine ⟨?_, fun t ht => ?_⟩
      · rw [hat, List.filter_cons, if_neg ha, hfl]; rfl
      · rw [hat]
        cases t with
        | zero => simp [hf]
        | succ t =>
          have ht' : t < l.length := by simpa using ht
          simp only [List.getD_cons_succ]
          rw [hno _ (by rw [List.getD_eq_getElem?_getD, List.getElem?_eq_getElem ht']; exact List.getElem_mem ht')]
          simp
theorem asc_drop {l : List ByteArray} (h : AscS l) (s : ByteArray) : (l.filter fun x => ltB s x) = l.drop (atL l s + (if l.getD (atL l s) ⟨#[]⟩ = s ∧ atL l s < l.length then 1 else 0)) := by
  induction l with
  | nil => simp
  | cons a l ih =>
    obtain ⟨h1, h2⟩ := List.pairwise_cons.1 h
    by_cases ha : ltB a s = true
    · have hat : atL (a :: l) s = atL l s + 1 := by simp [atL, ha]
      rw [hat, List.filter_cons, if_neg (by rw [lt_as ha]; exact Bool.false_ne_true), ih h2]
      simp only [List.getD_cons_succ, List.length_cons, Nat.add_lt_add_iff_right]
      rw [show atL l s + 1 + (if l.getD (atL l s) ⟨#[]⟩ = s ∧ atL l s < l.length then 1 else 0) = (atL l s + (if l.getD (atL l s) ⟨#[]⟩ = s ∧ atL l s < l.length then 1 else 0)) + 1 by omega, List.drop_succ_cons]
    · have hf : ltB a s = false := by simpa using ha
      have hno : ∀ x ∈ l, ltB x s = false := fun x hx => by
        cases e : ltB x s with
        | false => rfl
        | true => exact absurd (lt_tr (h1 x hx) e) ha
      have hfl : (l.filter fun x => ltB x s) = [] := List.filter_eq_nil_iff.2 fun x hx => by simp [hno x hx]
      have hat : atL (a :: l) s = 0 := by unfold atL; rw [List.filter_cons, if_neg ha, hfl]; rfl
      rw [hat]
      by_cases he : a = s
      · subst he
        have hall : (l.filter fun x => ltB a x) = l := List.filter_eq_self.2 fun x hx => h1 x hx
        rw [List.filter_cons, if_neg (by rw [lt_irr]; exact Bool.false_ne_true), hall]
        simp
      · have hsa : ltB s a = true := by
          cases e : ltB s a with
          | true => rfl
          | false => exact absurd (lt_to hf e) he
        have hall : (l.filter fun x => ltB s x) = l := List.filter_eq_self.2 fun x hx => lt_tr hsa (h1 x hx)
        rw [List.filter_cons, if_pos hsa, hall]
        simp [he]
/-- What binary search finds. -/
theorem bs_at {l : List ByteArray} (h : AscS l) (s : ByteArray) : Lib.bsGo (fun t => Op.bytesLess (l.getD t s).toList s.toList) l.length 0 l.length = atL l s := by
  obtain ⟨_, h2⟩ := asc_split h s
  have hle : atL l s ≤ l.length := List.length_filter_le _ _
  refine Lib.bsGo_spec _ (atL l s) (fun t ht => ?_) (fun t ht => ?_) _ _ _ (by omega) (Nat.zero_le _) hle
  · have := h2 t (by omega)
    rw [decide_eq_true ht] at this
    exact this
  · by_cases hl : t < l.length
    · have := h2 t hl
      rw [decide_eq_false (by omega)] at this
      exact this
    · show ltB (l.getD t s) s = false
      rw [List.getD_eq_getElem?_getD, List.getElem?_eq_none (by omega)]
      exact lt_irr s
theorem setL_eq {l : List ByteArray} (h : AscS l) (s : ByteArray) (has : Bool) : setL l s has = l.take (atL l s) ++ ((if has then [s] else []) ++ l.drop (atL l s + (if l.getD (atL l s) ⟨#[]⟩ = s ∧ atL l s < l.length then 1 else 0))) := by
  unfold setL
  rw [(asc_split h s).1, asc_drop h s]
theorem setL_len (l : List ByteArray) (s : ByteArray) (has : Bool) : (setL l s has).length ≤ l.length + l.length + 1 := by
  unfold setL
  have h1 := List.length_filter_le (fun x => ltB x s) l
  have h2 := List.length_filter_le (fun x => ltB s x) l
  rw [List.length_append, List.length_append]
  cases has
  · simp only [Bool.false_eq_true, if_false, List.length_nil]; omega
  · simp only [if_true, List.length_singleton]; omega
end Go.Proofs.YtjbppmclhdaaoaaGreat

/- What impl.replaced answers at texts, and impl.withLabel. -/
namespace Go.Proofs.YtjbppmclhdaaoaaGreat
open Go.RowKit Go.Deep

theorem strs_src {S : Nat → Prop} {w : World} {len : Nat} {f : Nat → Nat → D} {v : Value} (HR : ∀ i, i < len → HasRow 0 (f i)) (h : DIn S w (.list 1 len f) v) : SrcS w v (strsOf (.list 1 len f)) := by
  obtain ⟨a, cap, b, off, rfl, _, ha, hc⟩ := h
  refine ⟨a, cap, by rw [strsOf_len]; rfl, ?_⟩
  rw [strsOf_list]
  by_cases h0 : 0 < len
  · obtain ⟨rfl, _, hb⟩ := ha h0
    refine .inr ⟨b, off, rfl, hb, fun j u hu => ?_⟩
    have hj : j < len := by
      have := (List.getElem?_eq_some_iff.1 hu).1
      simpa using this
    obtain ⟨c, h1, h2⟩ := hc j hj 0 (by decide)
    obtain ⟨x, hd⟩ := (show Has (f j 0) .str from HR _ hj 0 (by decide)).str
    rw [hd] at h2
    rw [h2.str_eq.1] at h1
    have hu2 : u = .string x := by
      rw [List.getElem?_map, List.getElem?_map, List.getElem?_range hj] at hu
      simp only [Option.map_some, hd] at hu
      exact (Option.some.inj hu).symm
    rw [hu2]
    simpa using h1
  · exact .inl (by rw [show len = 0 by omega]; rfl)
/-- What replaced leaves. -/
def repL (l p : List ByteArray) (k : Nat) (th : Bool) : List ByteArray := l.take k ++ (p ++ l.drop (k + (if th then 1 else 0)))
theorem src_take {w : World} {a : Option Addr} {c : Nat} {l : List ByteArray} {k : Nat} (h : SrcS w (.slice a l.length c) l) (hk : k ≤ l.length) : SrcS w (.slice a k c) (l.take k) := by
  obtain ⟨p, c', e, h2⟩ := h
  injection e with e1 _ e3
  subst e1 e3
  refine ⟨a, c, by rw [List.length_take, Nat.min_eq_left hk], ?_⟩
  rcases h2 with rfl | ⟨b, off, rfl, hb, hc⟩
  · exact .inl (by simp)
  · refine .inr ⟨b, off, rfl, hb, fun j u hu => hc j u ?_⟩
    rw [List.map_take, List.getElem?_take] at hu
    split at hu
    · exact hu
    · cases hu
theorem src_drop {w : World} {a : Option Addr} {c c' : Nat} {l : List ByteArray} {k : Nat} (h : SrcS w (.slice a l.length c) l) (hc : l.length ≤ c) : SrcS w (.slice (if c = k then a else Option.map (fun x => x.add k) a) (l.length - k) c') (l.drop k) := by
  obtain ⟨p, c2, e, h2⟩ := h
  injection e with e1 _ e3
  subst e1 e3
  refine ⟨_, c', by rw [List.length_drop], ?_⟩
  by_cases hck : c = k
  · exact .inl (List.drop_eq_nil_iff.2 (by omega))
  rcases h2 with rfl | ⟨b, off, rfl, hb, hcs⟩
  · exact .inl (by simp)
  · refine .inr ⟨b, off + k, by rw [if_neg hck]; simp [Go.WideShapes.add_plain], hb, fun j u hu => ?_⟩
    rw [List.map_drop, List.getElem?_drop] at hu
    rw [Nat.add_assoc]
    exact hcs _ u hu
theorem own9_low {w : World} {b b' n : Nat} {v : Value} {xs : List Value} (h : w.ownsRow b 9 1 v n xs) (e : b' ≤ b) : w.ownsRow b' 9 1 v n xs := by
  refine ⟨h.1, ?_⟩
  rcases h.2 with h | ⟨g, cap, cur, e1, hb, r⟩
  · exact .inl h
  · exact .inr ⟨g, cap, cur, e1, Nat.le_trans e hb, r⟩
/-- Three sources, as concat_any asks for them. -/
def three {α : Type} (x y z : α) : Nat → α := fun k => if k = 0 then x else if k = 1 then y else z
theorem three_cells (w : World) (x y z : Value) (T : TypeId) : ∀ i, i < 3 → (w.drew.alloc (.cells #[x, y, z] T)).cell? ⟨w.heap.size, i, none⟩ = some (three x y z i) := fun i hi => by
  rcases (by omega : i = 0 ∨ i = 1 ∨ i = 2) with rfl | rfl | rfl
  · exact box_cell (w := w.drew) (Ext.refl _) 0 _ rfl
  · exact box_cell (w := w.drew) (Ext.refl _) 1 _ rfl
  · exact box_cell (w := w.drew) (Ext.refl _) 2 _ rfl
set_option maxRecDepth 100000 in
set_option maxHeartbeats 4000000 in
theorem replaced_any (w : World) (a : Option Addr) (c : Nat) (u : Value) (l p : List ByteArray) (k : Nat) (th : Bool) (hv : SrcS w (.slice a l.length c) l) (hc : l.length ≤ c) (hu : SrcS w u p) (hk : k + (if th then 1 else 0) ≤ l.length) (hl : l.length ≤ 100) (hp : p.length ≤ 100) :
    Calls Tryz.prog 70 #[.slice a l.length c, .int .i64 k, .bool th, u] w fun e w' => ∃ a' c', e = .returned (.slice a' (repL l p k th).length c') ∧ w'.ownsRow w.heap.size 9 1 (.slice a' (repL l p k th).length c') (repL l p k th).length ((repL l p k th).map Value.string) ∧ Ext w w' := by
  have hkl : k ≤ l.length := by omega
  have hkc : k ≤ c := by omega
  have hs0 := src_take hv hkl
  obtain ⟨ua, uc, rfl⟩ : ∃ ua uc, u = .slice ua p.length uc := by obtain ⟨a, c, e, _⟩ := hu; exact ⟨a, c, e⟩
  cases th
  · by_cases hck : c = k
    · have hs2 := fun c' => src_drop (k := k) (c' := c') hv hc
      simp only [if_pos hck] at hs2
      have hck2 := hck.symm
      subst hck2
      clear hck
      simp only [Nat.sub_eq_zero_of_le hc] at hs2
      have hcat := fun (W : World) (hW : Ext w W) (hB : w.heap.size < W.heap.size) (hb : ∀ i, i < 3 → W.cell? ⟨w.heap.size, i, none⟩ = some (three (.slice a k k) (.slice ua p.length uc) (.slice a 0 0) i)) => concat_any W w.heap.size (three (.slice a k k) (.slice ua p.length uc) (.slice a 0 0)) (three (l.take k) p (l.drop k)) hB hb (fun i hi => by
        rcases (by omega : i = 0 ∨ i = 1 ∨ i = 2) with rfl | rfl | rfl
        · exact hs0.ext hW
        · exact hu.ext hW
        · exact (hs2 _).ext hW) (by simp [catS, three]; omega)
      have hR : catS (three (l.take k) p (l.drop k)) 3 = repL l p k false := by simp [catS, three, repL]
      rw [hR] at hcat
      have hcat := (show Hid _ from hcat)
      go_enter Tryz.func70, Tryz.ntmps70
      go_wp2_with fail
      have HK : Hid (∀ W, Ext w W → True) := fun _ _ => trivial
      have hcur : Ext w w.drew := (Ext.refl _).drew
      refine wp_region_held_drew (S := (fun _ => True)) (by kernel_rfl) (trivial) (fun hHeld => ?_)
      refine tkL 0 ⟨some 14, .move (.tmp 0), 42, _, #[], none⟩ ?_ hHeld ?yyA0 ?rrA0
      case yyA0 => (intro w hSw; (try dsimp only at hSw); go_simp; first | done | with_reducible rfl)
      try simp only [Act.put, putA, putB, putC]
      refine tkL 1 ⟨some 15, .move (.tmp 1), 3, _, #[], none⟩ ?_ hHeld ?yyA1 ?rrA1
      case yyA1 => (intro w hSw; (try dsimp only at hSw); go_simp; first | done | with_reducible rfl)
      try simp only [Act.put, putA, putB, putC]
      refine tkL 2 ⟨some 16, .slice 42 (.tmp 14) none (some (.tmp 15)) none, 42, _, #[⟨0, .data⟩, ⟨1, .data⟩], none⟩ ?_ hHeld ?yyA2 ?rrA2
      case yyA2 => (intro w hSw; (try dsimp only at hSw); go_simp; first | done | with_reducible rfl)
      try simp only [Act.put, putA, putB, putC]
      refine tkL 3 ⟨some 17, .move (.tmp 3), 42, _, #[], none⟩ ?_ hHeld ?yyA3 ?rrA3
      case yyA3 => (intro w hSw; (try dsimp only at hSw); go_simp; first | done | with_reducible rfl)
      try simp only [Act.put, putA, putB, putC]
      refine tkL 4 ⟨some 18, .move (.tmp 0), 42, _, #[], none⟩ ?_ hHeld ?yyA4 ?rrA4
      case yyA4 => (intro w hSw; (try dsimp only at hSw); go_simp; first | done | with_reducible rfl)
      try simp only [Act.put, putA, putB, putC]
      refine tkL 5 ⟨some 19, .move (.tmp 9), 3, _, #[], none⟩ ?_ hHeld ?yyA5 ?rrA5
      case yyA5 => (intro w hSw; (try dsimp only at hSw); go_simp; first | done | with_reducible rfl)
      try simp only [Act.put, putA, putB, putC]
      refine tkL 6 ⟨some 20, .slice 42 (.tmp 18) (some (.tmp 19)) none none, 42, _, #[⟨4, .data⟩, ⟨5, .data⟩], none⟩ ?_ hHeld ?yyA6 ?rrA6
      case yyA6 => (intro w hSw; (try dsimp only at hSw); go_simp; first | done | with_reducible rfl)
      try simp only [Act.put, putA, putB, putC]
      refine wpAnyH_ready (rs := [7]) (by kernel_rfl) (by simp) ?_
      refine AllReadyH.cons (o := ⟨some 21, .buildSlice 147 3 #[(0, .tmp 16), (1, .tmp 17), (2, .tmp 20)], 147, _, #[⟨2, .data⟩, ⟨3, .data⟩, ⟨6, .data⟩], none⟩) rfl (fun K hK => ?_) AllReadyH.nil
      go_simp
      replace hcur := hcur.alloc (.cells #[.slice a k k, .slice ua p.length uc, .slice a 0 0] 42)
      refine hK.out _ _ (HK.out _ hcur) (fun hHeld => ?_)
      clear hK K
      try simp only [Act.put, putA, putB, putC]
      refine wpAnyH_ready (rs := [8]) (by kernel_rfl) (by simp) ?_
      refine AllReadyH.cons (o := ⟨some 22, .call { callee := .value (.func 84), args := #[.tmp 21], argTypes := #[147] }, 42, _, #[⟨7, .data⟩], none⟩) rfl (fun K hK => ?_) AllReadyH.nil
      go_simp
      refine (hcat.out _ hcur (by simp) (three_cells w _ _ _ _)).mono ?_
      rintro e w5 ⟨ra, rc, rfl, hown, hE5⟩
      replace hcur := hcur.trans hE5
      go_wp2_with fail
      refine hK.out _ _ (HK.out _ hcur) (fun hHeld => ?_)
      clear hK K
      try simp only [Act.put, putA, putB, putC]
      refine tkL 9 ⟨some 8, .assign (.tmp 22), 42, _, #[⟨8, .data⟩, ⟨8, .chain⟩, ⟨0, .phase⟩, ⟨1, .phase⟩, ⟨2, .phase⟩, ⟨3, .phase⟩, ⟨4, .phase⟩, ⟨5, .phase⟩, ⟨6, .phase⟩, ⟨7, .phase⟩, ⟨8, .phase⟩], none⟩ ?_ hHeld ?yyA9 ?rrA9
      case yyA9 => (intro w hSw; (try dsimp only at hSw); go_simp; first | done | with_reducible rfl)
      try simp only [Act.put, putA, putB, putC]
      refine wpAnyH_done (by kernel_rfl) ?_ _
      go_wp2
      go_ret
      exact ⟨_, _, rfl, own9_low hown (by simp), hcur⟩
    · have hs2 := fun c' => src_drop (k := k) (c' := c') hv hc
      simp only [if_neg hck] at hs2
      have hcat := fun (W : World) (hW : Ext w W) (hB : w.heap.size < W.heap.size) (hb : ∀ i, i < 3 → W.cell? ⟨w.heap.size, i, none⟩ = some (three (.slice a k c) (.slice ua p.length uc) (.slice (Option.map (fun x => x.add k) a) (l.length - k) (c - k)) i)) => concat_any W w.heap.size (three (.slice a k c) (.slice ua p.length uc) (.slice (Option.map (fun x => x.add k) a) (l.length - k) (c - k))) (three (l.take k) p (l.drop k)) hB hb (fun i hi => by
        rcases (by omega : i = 0 ∨ i = 1 ∨ i = 2) with rfl | rfl | rfl
        · exact hs0.ext hW
        · exact hu.ext hW
        · exact (hs2 _).ext hW) (by simp [catS, three]; omega)
      have hR : catS (three (l.take k) p (l.drop k)) 3 = repL l p k false := by simp [catS, three, repL]
      rw [hR] at hcat
      have hcat := (show Hid _ from hcat)
      go_enter Tryz.func70, Tryz.ntmps70
      go_wp2_with fail
      have HK : Hid (∀ W, Ext w W → True) := fun _ _ => trivial
      have hcur : Ext w w.drew := (Ext.refl _).drew
      refine wp_region_held_drew (S := (fun _ => True)) (by kernel_rfl) (trivial) (fun hHeld => ?_)
      refine tkL 0 ⟨some 14, .move (.tmp 0), 42, _, #[], none⟩ ?_ hHeld ?yyB0 ?rrB0
      case yyB0 => (intro w hSw; (try dsimp only at hSw); go_simp; first | done | with_reducible rfl)
      try simp only [Act.put, putA, putB, putC]
      refine tkL 1 ⟨some 15, .move (.tmp 1), 3, _, #[], none⟩ ?_ hHeld ?yyB1 ?rrB1
      case yyB1 => (intro w hSw; (try dsimp only at hSw); go_simp; first | done | with_reducible rfl)
      try simp only [Act.put, putA, putB, putC]
      refine tkL 2 ⟨some 16, .slice 42 (.tmp 14) none (some (.tmp 15)) none, 42, _, #[⟨0, .data⟩, ⟨1, .data⟩], none⟩ ?_ hHeld ?yyB2 ?rrB2
      case yyB2 => (intro w hSw; (try dsimp only at hSw); go_simp; first | done | with_reducible rfl)
      try simp only [Act.put, putA, putB, putC]
      refine tkL 3 ⟨some 17, .move (.tmp 3), 42, _, #[], none⟩ ?_ hHeld ?yyB3 ?rrB3
      case yyB3 => (intro w hSw; (try dsimp only at hSw); go_simp; first | done | with_reducible rfl)
      try simp only [Act.put, putA, putB, putC]
      refine tkL 4 ⟨some 18, .move (.tmp 0), 42, _, #[], none⟩ ?_ hHeld ?yyB4 ?rrB4
      case yyB4 => (intro w hSw; (try dsimp only at hSw); go_simp; first | done | with_reducible rfl)
      try simp only [Act.put, putA, putB, putC]
      refine tkL 5 ⟨some 19, .move (.tmp 9), 3, _, #[], none⟩ ?_ hHeld ?yyB5 ?rrB5
      case yyB5 => (intro w hSw; (try dsimp only at hSw); go_simp; first | done | with_reducible rfl)
      try simp only [Act.put, putA, putB, putC]
      refine tkL 6 ⟨some 20, .slice 42 (.tmp 18) (some (.tmp 19)) none none, 42, _, #[⟨4, .data⟩, ⟨5, .data⟩], none⟩ ?_ hHeld ?yyB6 ?rrB6
      case yyB6 => (intro w hSw; (try dsimp only at hSw); go_simp; first | done | with_reducible rfl)
      try simp only [Act.put, putA, putB, putC]
      refine wpAnyH_ready (rs := [7]) (by kernel_rfl) (by simp) ?_
      refine AllReadyH.cons (o := ⟨some 21, .buildSlice 147 3 #[(0, .tmp 16), (1, .tmp 17), (2, .tmp 20)], 147, _, #[⟨2, .data⟩, ⟨3, .data⟩, ⟨6, .data⟩], none⟩) rfl (fun K hK => ?_) AllReadyH.nil
      go_simp
      replace hcur := hcur.alloc (.cells #[.slice a k c, .slice ua p.length uc, .slice (Option.map (fun x => x.add k) a) (l.length - k) (c - k)] 42)
      refine hK.out _ _ (HK.out _ hcur) (fun hHeld => ?_)
      clear hK K
      try simp only [Act.put, putA, putB, putC]
      refine wpAnyH_ready (rs := [8]) (by kernel_rfl) (by simp) ?_
      refine AllReadyH.cons (o := ⟨some 22, .call { callee := .value (.func 84), args := #[.tmp 21], argTypes := #[147] }, 42, _, #[⟨7, .data⟩], none⟩) rfl (fun K hK => ?_) AllReadyH.nil
      go_simp
      refine (hcat.out _ hcur (by simp) (three_cells w _ _ _ _)).mono ?_
      rintro e w5 ⟨ra, rc, rfl, hown, hE5⟩
      replace hcur := hcur.trans hE5
      go_wp2_with fail
      refine hK.out _ _ (HK.out _ hcur) (fun hHeld => ?_)
      clear hK K
      try simp only [Act.put, putA, putB, putC]
      refine tkL 9 ⟨some 8, .assign (.tmp 22), 42, _, #[⟨8, .data⟩, ⟨8, .chain⟩, ⟨0, .phase⟩, ⟨1, .phase⟩, ⟨2, .phase⟩, ⟨3, .phase⟩, ⟨4, .phase⟩, ⟨5, .phase⟩, ⟨6, .phase⟩, ⟨7, .phase⟩, ⟨8, .phase⟩], none⟩ ?_ hHeld ?yyB9 ?rrB9
      case yyB9 => (intro w hSw; (try dsimp only at hSw); go_simp; first | done | with_reducible rfl)
      try simp only [Act.put, putA, putB, putC]
      refine wpAnyH_done (by kernel_rfl) ?_ _
      go_wp2
      go_ret
      exact ⟨_, _, rfl, own9_low hown (by simp), hcur⟩
  · by_cases hck : c = k + 1
    · have hk1 : k + 1 ≤ l.length := hk
      have hkc1 : k + 1 ≤ c := by omega
      have hkk : (k : Int) ≤ (k : Int) + 1 := by omega
      have hkA : (0 : Int) ≤ (k : Int) + 1 := by omega
      have hkB : (k : Int) + 1 ≤ (l.length : Int) := by omega
      have hkC : (k : Int) + 1 ≤ (c : Int) := by omega
      have hs2 := fun c' => src_drop (k := k + 1) (c' := c') hv hc
      simp only [if_pos hck] at hs2
      have hck2 := hck.symm
      subst hck2
      clear hck
      simp only [Nat.sub_eq_zero_of_le hc] at hs2
      have hcat := fun (W : World) (hW : Ext w W) (hB : w.heap.size < W.heap.size) (hb : ∀ i, i < 3 → W.cell? ⟨w.heap.size, i, none⟩ = some (three (.slice a k (k + 1)) (.slice ua p.length uc) (.slice a 0 0) i)) => concat_any W w.heap.size (three (.slice a k (k + 1)) (.slice ua p.length uc) (.slice a 0 0)) (three (l.take k) p (l.drop (k + 1))) hB hb (fun i hi => by
        rcases (by omega : i = 0 ∨ i = 1 ∨ i = 2) with rfl | rfl | rfl
        · exact hs0.ext hW
        · exact hu.ext hW
        · exact (hs2 _).ext hW) (by simp [catS, three]; omega)
      have hR : catS (three (l.take k) p (l.drop (k + 1))) 3 = repL l p k true := by simp [catS, three, repL]
      rw [hR] at hcat
      have hcat := (show Hid _ from hcat)
      go_enter Tryz.func70, Tryz.ntmps70
      go_wp2_with fail
      have HK : Hid (∀ W, Ext w W → True) := fun _ _ => trivial
      have hcur : Ext w w.drew := (Ext.refl _).drew
      refine wp_region_held_drew (S := (fun _ => True)) (by kernel_rfl) (trivial) (fun hHeld => ?_)
      refine tkL 0 ⟨some 14, .move (.tmp 0), 42, _, #[], none⟩ ?_ hHeld ?yyC0 ?rrC0
      case yyC0 => (intro w hSw; (try dsimp only at hSw); go_simp; first | done | with_reducible rfl)
      try simp only [Act.put, putA, putB, putC]
      refine tkL 1 ⟨some 15, .move (.tmp 1), 3, _, #[], none⟩ ?_ hHeld ?yyC1 ?rrC1
      case yyC1 => (intro w hSw; (try dsimp only at hSw); go_simp; first | done | with_reducible rfl)
      try simp only [Act.put, putA, putB, putC]
      refine tkL 2 ⟨some 16, .slice 42 (.tmp 14) none (some (.tmp 15)) none, 42, _, #[⟨0, .data⟩, ⟨1, .data⟩], none⟩ ?_ hHeld ?yyC2 ?rrC2
      case yyC2 => (intro w hSw; (try dsimp only at hSw); go_simp; first | done | with_reducible rfl)
      try simp only [Act.put, putA, putB, putC]
      refine tkL 3 ⟨some 17, .move (.tmp 3), 42, _, #[], none⟩ ?_ hHeld ?yyC3 ?rrC3
      case yyC3 => (intro w hSw; (try dsimp only at hSw); go_simp; first | done | with_reducible rfl)
      try simp only [Act.put, putA, putB, putC]
      refine tkL 4 ⟨some 18, .move (.tmp 0), 42, _, #[], none⟩ ?_ hHeld ?yyC4 ?rrC4
      case yyC4 => (intro w hSw; (try dsimp only at hSw); go_simp; first | done | with_reducible rfl)
      try simp only [Act.put, putA, putB, putC]
      refine tkL 5 ⟨some 19, .move (.tmp 9), 3, _, #[], none⟩ ?_ hHeld ?yyC5 ?rrC5
      case yyC5 => (intro w hSw; (try dsimp only at hSw); go_simp; first | done | with_reducible rfl)
      try simp only [Act.put, putA, putB, putC]
      refine tkL 6 ⟨some 20, .slice 42 (.tmp 18) (some (.tmp 19)) none none, 42, _, #[⟨4, .data⟩, ⟨5, .data⟩], none⟩ ?_ hHeld ?yyC6 ?rrC6
      case yyC6 => (intro w hSw; (try dsimp only at hSw); go_simp; first | done | with_reducible rfl)
      try simp only [Act.put, putA, putB, putC]
      refine wpAnyH_ready (rs := [7]) (by kernel_rfl) (by simp) ?_
      refine AllReadyH.cons (o := ⟨some 21, .buildSlice 147 3 #[(0, .tmp 16), (1, .tmp 17), (2, .tmp 20)], 147, _, #[⟨2, .data⟩, ⟨3, .data⟩, ⟨6, .data⟩], none⟩) rfl (fun K hK => ?_) AllReadyH.nil
      go_simp
      replace hcur := hcur.alloc (.cells #[.slice a k (k + 1), .slice ua p.length uc, .slice a 0 0] 42)
      refine hK.out _ _ (HK.out _ hcur) (fun hHeld => ?_)
      clear hK K
      try simp only [Act.put, putA, putB, putC]
      refine wpAnyH_ready (rs := [8]) (by kernel_rfl) (by simp) ?_
      refine AllReadyH.cons (o := ⟨some 22, .call { callee := .value (.func 84), args := #[.tmp 21], argTypes := #[147] }, 42, _, #[⟨7, .data⟩], none⟩) rfl (fun K hK => ?_) AllReadyH.nil
      go_simp
      refine (hcat.out _ hcur (by simp) (three_cells w _ _ _ _)).mono ?_
      rintro e w5 ⟨ra, rc, rfl, hown, hE5⟩
      replace hcur := hcur.trans hE5
      go_wp2_with fail
      refine hK.out _ _ (HK.out _ hcur) (fun hHeld => ?_)
      clear hK K
      try simp only [Act.put, putA, putB, putC]
      refine tkL 9 ⟨some 8, .assign (.tmp 22), 42, _, #[⟨8, .data⟩, ⟨8, .chain⟩, ⟨0, .phase⟩, ⟨1, .phase⟩, ⟨2, .phase⟩, ⟨3, .phase⟩, ⟨4, .phase⟩, ⟨5, .phase⟩, ⟨6, .phase⟩, ⟨7, .phase⟩, ⟨8, .phase⟩], none⟩ ?_ hHeld ?yyC9 ?rrC9
      case yyC9 => (intro w hSw; (try dsimp only at hSw); go_simp; first | done | with_reducible rfl)
      try simp only [Act.put, putA, putB, putC]
      refine wpAnyH_done (by kernel_rfl) ?_ _
      go_wp2
      go_ret
      exact ⟨_, _, rfl, own9_low hown (by simp), hcur⟩
    · have hk1 : k + 1 ≤ l.length := hk
      have hkc1 : k + 1 ≤ c := by omega
      have hkk : (k : Int) ≤ (k : Int) + 1 := by omega
      have hkA : (0 : Int) ≤ (k : Int) + 1 := by omega
      have hkB : (k : Int) + 1 ≤ (l.length : Int) := by omega
      have hkC : (k : Int) + 1 ≤ (c : Int) := by omega
      have hs2 := fun c' => src_drop (k := k + 1) (c' := c') hv hc
      simp only [if_neg hck] at hs2
      have hcat := fun (W : World) (hW : Ext w W) (hB : w.heap.size < W.heap.size) (hb : ∀ i, i < 3 → W.cell? ⟨w.heap.size, i, none⟩ = some (three (.slice a k c) (.slice ua p.length uc) (.slice (Option.map (fun x => x.add (k + 1)) a) (l.length - (k + 1)) (c - (k + 1))) i)) => concat_any W w.heap.size (three (.slice a k c) (.slice ua p.length uc) (.slice (Option.map (fun x => x.add (k + 1)) a) (l.length - (k + 1)) (c - (k + 1)))) (three (l.take k) p (l.drop (k + 1))) hB hb (fun i hi => by
        rcases (by omega : i = 0 ∨ i = 1 ∨ i = 2) with rfl | rfl | rfl
        · exact hs0.ext hW
        · exact hu.ext hW
        · exact (hs2 _).ext hW) (by simp [catS, three]; omega)
      have hR : catS (three (l.take k) p (l.drop (k + 1))) 3 = repL l p k true := by simp [catS, three, repL]
      rw [hR] at hcat
      have hcat := (show Hid _ from hcat)
      go_enter Tryz.func70, Tryz.ntmps70
      go_wp2_with fail
      have HK : Hid (∀ W, Ext w W → True) := fun _ _ => trivial
      have hcur : Ext w w.drew := (Ext.refl _).drew
      refine wp_region_held_drew (S := (fun _ => True)) (by kernel_rfl) (trivial) (fun hHeld => ?_)
      refine tkL 0 ⟨some 14, .move (.tmp 0), 42, _, #[], none⟩ ?_ hHeld ?yyD0 ?rrD0
      case yyD0 => (intro w hSw; (try dsimp only at hSw); go_simp; first | done | with_reducible rfl)
      try simp only [Act.put, putA, putB, putC]
      refine tkL 1 ⟨some 15, .move (.tmp 1), 3, _, #[], none⟩ ?_ hHeld ?yyD1 ?rrD1
      case yyD1 => (intro w hSw; (try dsimp only at hSw); go_simp; first | done | with_reducible rfl)
      try simp only [Act.put, putA, putB, putC]
      refine tkL 2 ⟨some 16, .slice 42 (.tmp 14) none (some (.tmp 15)) none, 42, _, #[⟨0, .data⟩, ⟨1, .data⟩], none⟩ ?_ hHeld ?yyD2 ?rrD2
      case yyD2 => (intro w hSw; (try dsimp only at hSw); go_simp; first | done | with_reducible rfl)
      try simp only [Act.put, putA, putB, putC]
      refine tkL 3 ⟨some 17, .move (.tmp 3), 42, _, #[], none⟩ ?_ hHeld ?yyD3 ?rrD3
      case yyD3 => (intro w hSw; (try dsimp only at hSw); go_simp; first | done | with_reducible rfl)
      try simp only [Act.put, putA, putB, putC]
      refine tkL 4 ⟨some 18, .move (.tmp 0), 42, _, #[], none⟩ ?_ hHeld ?yyD4 ?rrD4
      case yyD4 => (intro w hSw; (try dsimp only at hSw); go_simp; first | done | with_reducible rfl)
      try simp only [Act.put, putA, putB, putC]
      refine tkL 5 ⟨some 19, .move (.tmp 9), 3, _, #[], none⟩ ?_ hHeld ?yyD5 ?rrD5
      case yyD5 => (intro w hSw; (try dsimp only at hSw); go_simp; first | done | with_reducible rfl)
      try simp only [Act.put, putA, putB, putC]
      refine tkL 6 ⟨some 20, .slice 42 (.tmp 18) (some (.tmp 19)) none none, 42, _, #[⟨4, .data⟩, ⟨5, .data⟩], none⟩ ?_ hHeld ?yyD6 ?rrD6
      case yyD6 => (intro w hSw; (try dsimp only at hSw); go_simp; first | done | with_reducible rfl)
      try simp only [Act.put, putA, putB, putC]
      refine wpAnyH_ready (rs := [7]) (by kernel_rfl) (by simp) ?_
      refine AllReadyH.cons (o := ⟨some 21, .buildSlice 147 3 #[(0, .tmp 16), (1, .tmp 17), (2, .tmp 20)], 147, _, #[⟨2, .data⟩, ⟨3, .data⟩, ⟨6, .data⟩], none⟩) rfl (fun K hK => ?_) AllReadyH.nil
      go_simp
      replace hcur := hcur.alloc (.cells #[.slice a k c, .slice ua p.length uc, .slice (Option.map (fun x => x.add (k + 1)) a) (l.length - (k + 1)) (c - (k + 1))] 42)
      refine hK.out _ _ (HK.out _ hcur) (fun hHeld => ?_)
      clear hK K
      try simp only [Act.put, putA, putB, putC]
      refine wpAnyH_ready (rs := [8]) (by kernel_rfl) (by simp) ?_
      refine AllReadyH.cons (o := ⟨some 22, .call { callee := .value (.func 84), args := #[.tmp 21], argTypes := #[147] }, 42, _, #[⟨7, .data⟩], none⟩) rfl (fun K hK => ?_) AllReadyH.nil
      go_simp
      refine (hcat.out _ hcur (by simp) (three_cells w _ _ _ _)).mono ?_
      rintro e w5 ⟨ra, rc, rfl, hown, hE5⟩
      replace hcur := hcur.trans hE5
      go_wp2_with fail
      refine hK.out _ _ (HK.out _ hcur) (fun hHeld => ?_)
      clear hK K
      try simp only [Act.put, putA, putB, putC]
      refine tkL 9 ⟨some 8, .assign (.tmp 22), 42, _, #[⟨8, .data⟩, ⟨8, .chain⟩, ⟨0, .phase⟩, ⟨1, .phase⟩, ⟨2, .phase⟩, ⟨3, .phase⟩, ⟨4, .phase⟩, ⟨5, .phase⟩, ⟨6, .phase⟩, ⟨7, .phase⟩, ⟨8, .phase⟩], none⟩ ?_ hHeld ?yyD9 ?rrD9
      case yyD9 => (intro w hSw; (try dsimp only at hSw); go_simp; first | done | with_reducible rfl)
      try simp only [Act.put, putA, putB, putC]
      refine wpAnyH_done (by kernel_rfl) ?_ _
      go_wp2
      go_ret
      exact ⟨_, _, rfl, own9_low hown (by simp), hcur⟩
end Go.Proofs.YtjbppmclhdaaoaaGreat

/- What impl.withLabel answers. -/
namespace Go.Proofs.YtjbppmclhdaaoaaGreat
open Go.RowKit Go.Deep

def thL (l : List ByteArray) (s : ByteArray) : Bool := decide (atL l s < l.length ∧ l.getD (atL l s) s = s)
def putL (s : ByteArray) (has : Bool) : List ByteArray := if has then [s] else []
theorem atL_le (l : List ByteArray) (s : ByteArray) : atL l s ≤ l.length := List.length_filter_le _ _
theorem thL_le (l : List ByteArray) (s : ByteArray) : atL l s + (if thL l s then 1 else 0) ≤ l.length := by
  have := atL_le l s
  cases h : thL l s
  · simpa using this
  · simp only [thL, decide_eq_true_eq] at h
    simp only [if_true]
    omega
theorem repL_set {l : List ByteArray} (h : AscS l) (s : ByteArray) (has : Bool) : repL l (putL s has) (atL l s) (thL l s) = setL l s has := by
  rw [setL_eq h, repL]
  have e : (if thL l s then 1 else 0) = (if l.getD (atL l s) ⟨#[]⟩ = s ∧ atL l s < l.length then 1 else 0) := by
    unfold thL
    by_cases hl : atL l s < l.length
    · rw [List.getD_eq_getElem?_getD, List.getD_eq_getElem?_getD, List.getElem?_eq_getElem hl]
      by_cases he : l[atL l s] = s <;> simp [hl, he]
    · simp [hl]
  rw [e]
  rfl
theorem bsearch_any (w : World) (a : Option Addr) (c : Nat) (l : List ByteArray) (s : ByteArray) (hv : SrcS w (.slice a l.length c) l) (hasc : AscS l) (hl : l.length ≤ 100) :
    Calls Tryz.prog 69 #[.slice a l.length c, .string s] w fun e w' => e = .returned (.tuple #[.int .i64 (atL l s), .bool (thL l s)]) ∧ Ext w w' := by
  obtain ⟨p, c2, e, h2⟩ := hv
  injection e with e1 _ e3
  subst e1 e3
  rcases h2 with rfl | ⟨b, off, rfl, hb, hc⟩
  · have h := Any2.slices_BinarySearch_string_empty (P := Tryz.prog) Tryz.lays26 a c s w
    change Calls Tryz.prog 69 _ _ _ at h
    refine h.mono ?_
    rintro e w' ⟨rfl, rfl⟩
    exact ⟨rfl, Ext.refl _⟩
  · have h := Any2.slices_BinarySearch_string (P := Tryz.prog) Tryz.lays26 b off l.length c (fun t => l.getD t s) s w (by omega) (fun j hj => by
      have := hc j (.string l[j]) (by rw [List.getElem?_map, List.getElem?_eq_getElem hj]; rfl)
      rw [this]
      simp [List.getD_eq_getElem?_getD, List.getElem?_eq_getElem hj])
    rw [bs_at hasc s] at h
    change Calls Tryz.prog 69 _ _ _ at h
    refine h.mono ?_
    rintro e w' ⟨rfl, q, rfl⟩
    exact ⟨rfl, (Ext.refl _).drewN q⟩
theorem strs_news (l : List ByteArray) : newsS l.length (strsF l) = l.map Value.string := by
  unfold newsS strsF
  apply List.ext_getElem?
  intro i
  by_cases hi : i < l.length
  · rw [List.getElem?_map, List.getElem?_range hi, List.getElem?_map, List.getElem?_eq_getElem hi]
    simp [List.getD_eq_getElem?_getD, List.getElem?_eq_getElem hi, D.str!]
  · rw [List.getElem?_eq_none (by simp; omega), List.getElem?_eq_none (by simp; omega)]
/-- All texts of a list that lies in memory are of the size that a text may have. -/
theorem strsOf_small {S : Nat → Prop} {w : World} {d : D} {v : Value} (H : Has d (.list 0)) (h : DIn S w d v) : ∀ x ∈ strsOf d, x.size ≤ maxLen := by
  obtain ⟨len, f, rfl, HR⟩ := H.list
  intro x hx
  rw [show (rowsOf 0).length = 1 from rfl, strsOf_list] at hx
  obtain ⟨i, hi, rfl⟩ := List.mem_map.1 hx
  exact strs_sizes HR h i (List.mem_range.1 hi)
theorem setL_small {l : List ByteArray} {s : ByteArray} {has : Bool} (h : ∀ x ∈ l, x.size ≤ maxLen) (hs : s.size ≤ maxLen) : ∀ x ∈ setL l s has, x.size ≤ maxLen := by
  intro x hx
  unfold setL at hx
  rw [List.mem_append, List.mem_append] at hx
  rcases hx with hx | hx | hx
  · exact h x (List.mem_filter.1 hx).1
  · cases has
    · simp at hx
    · simp only [if_true, List.mem_singleton] at hx; rw [hx]; exact hs
  · exact h x (List.mem_filter.1 hx).1
theorem strsF_row (l : List ByteArray) (i : Nat) : HasRow 0 (strsF l i) := fun j hj => by
  have : j = 0 := by have : j < 1 := hj; omega
  subst this
  exact rfl
theorem strs_in {w : World} {base : Nat} {v : Value} {l : List ByteArray} (hz : ∀ x ∈ l, x.size ≤ maxLen) (hl : l.length ≤ maxLen) (ho : w.ownsRow base 9 1 v l.length (l.map Value.string)) : DIn (fun x => v.ownBlock = some x) w (strsD l) v := by
  have := strs_end (f := strsF l) (fun i _ => strsF_row l i) (fun i hi => ?_) hl (by rw [strs_news]; exact ho)
  · exact this.1
  · show (l.getD i ⟨#[]⟩).size ≤ maxLen
    rw [List.getD_eq_getElem?_getD, List.getElem?_eq_getElem hi]
    exact hz _ (List.getElem_mem hi)
/-- The labels behind it, and whether they may be. -/
def labD (d : D) (s : ByteArray) (has : Bool) : D := strsD (setL (strsOf d) s has)
def labOk (d : D) (s : ByteArray) (has : Bool) : Bool := nameB s && labelsB (labD d s has)
set_option maxRecDepth 100000 in
set_option maxHeartbeats 4000000 in
theorem withLabel_any (S : Nat → Prop) (d : D) (H : Has d (.list 0)) (a : Option Addr) (c : Nat) (s : ByteArray) (has : Bool) (w : World) (hv : DIn S w d (.slice a d.len! c)) (hc : d.len! ≤ c) (hd : labelsB d = true) (zs : s.size ≤ maxLen) :
    Calls Tryz.prog 46 #[.slice a d.len! c, .string s, .bool has] w fun e w' => ∃ a' l' c', e = .returned (.tuple #[.slice a' l' c', .bool (labOk d s has)]) ∧ (labOk d s has = true → DIn (New w.heap.size w'.heap.size) w' (labD d s has) (.slice a' l' c') ∧ Own w' (labD d s has) (New w.heap.size w'.heap.size) (.slice a' l' c') ∧ l' ≤ c') ∧ Ext w w' := by
  have hn := fun (W : World) => implNameOk_any s W zs
  have hasc := labels_asc hd
  have hsm := setL_small (has := has) (strsOf_small H hv) zs
  have hlen := strsOf_len d
  have hl3 : d.len! ≤ 3 := by
    simp only [labelsB, Bool.and_eq_true, decide_eq_true_eq] at hd
    exact hd.2
  have hsrc : SrcS w (.slice a d.len! c) (strsOf d) := by
    obtain ⟨len, f, rfl, HR⟩ := H.list
    exact strs_src HR hv
  rw [← hlen] at hsrc hc hl3
  rw [← hlen]
  have hOk : Hid (labOk d s has = (nameB s && labelsB (labD d s has))) := rfl
  have hLD : Hid (labD d s has = strsD (setL (strsOf d) s has)) := rfl
  have hset := setL_len (strsOf d) s has
  have hrep := repL_set hasc s has
  have hat := atL_le (strsOf d) s
  have hth := thL_le (strsOf d) s
  generalize labOk d s has = ok at *
  generalize labD d s has = dN at *
  generalize strsOf d = l at *
  have hrep := (show Hid _ from hrep)
  clear hv hd hlen
  cases hnm : nameB s
  · rw [hnm] at hn
    have hok : Hid (ok = false) := by show _ = _; rw [hOk.out, hnm]; rfl
    go_enter Tryz.func46, Tryz.ntmps46
    go_wp2_with (go_at_call 66; refine (hn _).mono ?_; rintro e w1 ⟨rfl, rfl⟩)
    go_ret2
    exact ⟨_, _, _, by rw [hok.out]; rfl, fun h => (by rw [hok.out] at h; cases h), Ext.refl _⟩
  · rw [hnm] at hn
    have hok : Hid (ok = labelsB dN) := by show _ = _; rw [hOk.out, hnm]; rfl
    go_enter Tryz.func46, Tryz.ntmps46
    go_wp2_with fail
    refine (hn w).mono ?_
    rintro e w1 ⟨rfl, hw⟩
    subst hw
    go_wp2_with fail
    refine (bsearch_any w1 a c l s hsrc hasc (by omega)).mono ?_
    rintro e w2 ⟨rfl, hE2⟩
    have hput : ∀ (ua : Option Addr) (uc : Nat) (W : World), Ext w1 W → SrcS W (.slice ua (putL s has).length uc) (putL s has) → Calls Tryz.prog 70 #[.slice a l.length c, .int .i64 (atL l s), .bool (thL l s), .slice ua (putL s has).length uc] W fun e w' => ∃ a' c', e = .returned (.slice a' (setL l s has).length c') ∧ w'.ownsRow W.heap.size 9 1 (.slice a' (setL l s has).length c') (setL l s has).length ((setL l s has).map Value.string) ∧ Ext W w' := fun ua uc W hW hs => by
      have := replaced_any W a c (.slice ua (putL s has).length uc) l (putL s has) (atL l s) (thL l s) (hsrc.ext hW) hc hs hth (by omega) (by cases has <;> simp [putL])
      rwa [hrep.out] at this
    have hlab : ∀ (W : World) (v : Value), Ext w1 W → W.ownsRow w1.heap.size 9 1 v (setL l s has).length ((setL l s has).map Value.string) → Calls Tryz.prog 63 #[v] W fun e w' => ∃ a l c, e = .returned (.tuple #[.slice a l c, .bool (labelsB dN)]) ∧ (labelsB dN = true → DIn (New W.heap.size w'.heap.size) w' dN (.slice a l c) ∧ Own w' dN (New W.heap.size w'.heap.size) (.slice a l c)) ∧ (labelsB dN = true → l ≤ c) ∧ Ext W w' := fun W v hW ho => by
      rw [hLD.out]
      exact labelsOf_any _ (strsD_has _) _ v W (strs_in hsm (by unfold maxLen; omega) ho)
    clear hLD hsm hset hsrc hasc hat hth hn hOk hrep
    have hok := (show Hid _ from hok)
    cases has
    · have hr := hput none 0 w2 hE2 ⟨none, 0, rfl, .inl rfl⟩
      change Calls Tryz.prog 70 #[.slice a l.length c, .int .i64 (atL l s), .bool (thL l s), .slice none 0 0] _ _ at hr
      clear hput
      go_wp2_with fail
      refine hr.mono ?_
      rintro e w3 ⟨ra, rc, rfl, ho, hE3⟩
      have hE13 := hE2.trans hE3
      have hlb := hlab w3 _ hE13 (own9_low ho hE2.le)
      clear hr hlab ho
      go_wp2_with fail
      refine hlb.mono ?_
      rintro e w4 ⟨la, ll, lc, rfl, hDO, hcap, hE4⟩
      have hz := hE13.le
      have hf : Hid (ok = true → DIn (New w1.heap.size w4.heap.size) w4 dN (.slice la ll lc) ∧ Own w4 dN (New w1.heap.size w4.heap.size) (.slice la ll lc) ∧ ll ≤ lc) := fun h => by
        rw [hok.out] at h
        have hm : ∀ x, New w3.heap.size w4.heap.size x → New w1.heap.size w4.heap.size x := fun x hx => ⟨Nat.le_trans hz hx.1, hx.2⟩
        exact ⟨(hDO h).1.mono hm, (hDO h).2.mono hm, hcap h⟩
      clear hlb hDO hcap
      go_wp2
      go_ret2
      exact ⟨_, _, _, by rw [hok.out]; rfl, hf.out, hE13.trans hE4⟩
    · have hEa : Ext w1 (w2.alloc (.cells #[.string s] 9)) := hE2.alloc _
      have hr := hput (some ⟨w2.heap.size, 0, none⟩) 1 (w2.alloc (.cells #[.string s] 9)) hEa ⟨_, 1, rfl, .inr ⟨w2.heap.size, 0, rfl, by simp, fun j u hu => by
        have hj : j < 1 := by
          have := (List.getElem?_eq_some_iff.1 hu).1
          simpa [putL] using this
        obtain rfl : j = 0 := by omega
        have : u = .string s := by simpa [putL] using hu.symm
        rw [this]
        exact box_cell (Ext.refl _) 0 _ rfl⟩⟩
      change Calls Tryz.prog 70 #[.slice a l.length c, .int .i64 (atL l s), .bool (thL l s), .slice (some ⟨w2.heap.size, 0, none⟩) 1 1] _ _ at hr
      clear hput
      go_wp2_with fail
      refine hr.mono ?_
      rintro e w3 ⟨ra, rc, rfl, ho, hE3⟩
      have hE13 := hEa.trans hE3
      have hlb := hlab w3 _ hE13 (own9_low ho hEa.le)
      clear hr hlab ho
      go_wp2_with fail
      refine hlb.mono ?_
      rintro e w4 ⟨la, ll, lc, rfl, hDO, hcap, hE4⟩
      have hz := hE13.le
      have hf : Hid (ok = true → DIn (New w1.heap.size w4.heap.size) w4 dN (.slice la ll lc) ∧ Own w4 dN (New w1.heap.size w4.heap.size) (.slice la ll lc) ∧ ll ≤ lc) := fun h => by
        rw [hok.out] at h
        have hm : ∀ x, New w3.heap.size w4.heap.size x → New w1.heap.size w4.heap.size x := fun x hx => ⟨Nat.le_trans hz hx.1, hx.2⟩
        exact ⟨(hDO h).1.mono hm, (hDO h).2.mono hm, hcap h⟩
      clear hlb hDO hcap
      go_wp2
      go_ret2
      exact ⟨_, _, _, by rw [hok.out]; rfl, hf.out, hE13.trans hE4⟩
end Go.Proofs.YtjbppmclhdaaoaaGreat
