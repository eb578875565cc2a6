/- The answer of NodeDrop, as data. -/
import Derived.Test.YtdnigcndjmmkcaaGreatEdDef
import Derived.Test.YtdnigcndjmmkcaaGreatEoS
namespace Go.Proofs.YtdnigcndjmmkcaaGreat
open Go.RowKit Go.Deep

def incD (d : D) : Prop := ∀ i j, i < j → j < d.len! → (d.at! i 0).int! < (d.at! j 0).int!
theorem edK_in {d : D} {id : Int} (h : id ∈ idsOf d.at! d.len!) : ∃ k, edK d id = some k := by
  cases e : edK d id with
  | some k => exact ⟨k, rfl⟩
  | none =>
    obtain ⟨i, hi, e2⟩ := List.mem_map.1 h
    exact absurd e2 (edK_none e i (List.mem_range.1 hi))
theorem dropF_rowR {r : Nat} {f : Nat → Nat → D} {len k : Nat} (h : ∀ i, i < len → HasRow r (f i)) (hk : k < len) : ∀ i, i < len - 1 → HasRow r (dropF f k i) := fun i hi => by
  unfold dropF
  split
  · exact h i (by omega)
  · exact h (i + 1) (by omega)
theorem dropF_inc {f : Nat → Nat → D} {len k : Nat} (h : ∀ i j, i < j → j < len → (f i 0).int! < (f j 0).int!) : ∀ i j, i < j → j < len - 1 → (dropF f k i 0).int! < (dropF f k j 0).int! := fun i j hij hj => by
  unfold dropF
  split <;> split
  · exact h i j hij (by omega)
  · exact h i (j + 1) (by omega) (by omega)
  · omega
  · exact h (i + 1) (j + 1) (by omega) (by omega)
theorem dropF_mem {f : Nat → Nat → D} {len k : Nat} {x : Int} (hinc : ∀ i j, i < j → j < len → (f i 0).int! < (f j 0).int!) (hk : k < len) : x ∈ idsOf (dropF f k) (len - 1) ↔ x ∈ idsOf f len ∧ x ≠ (f k 0).int! := by
  unfold idsOf
  simp only [List.mem_map, List.mem_range]
  constructor
  · rintro ⟨i, hi, rfl⟩
    unfold dropF
    split
    · exact ⟨⟨i, by omega, rfl⟩, by have := hinc i k (by assumption) hk; omega⟩
    · exact ⟨⟨i + 1, by omega, rfl⟩, by have := hinc k (i + 1) (by omega) (by omega); omega⟩
  · rintro ⟨⟨i, hi, rfl⟩, hne⟩
    by_cases h1 : i < k
    · exact ⟨i, by omega, by unfold dropF; rw [if_pos h1]⟩
    · have h2 : i ≠ k := fun e => hne (by rw [e])
      exact ⟨i - 1, by omega, by unfold dropF; rw [if_neg (by omega), show i - 1 + 1 = i by omega]⟩
/-- What is left of a list of rows of n leaves. -/
def dropL (n : Nat) (d : D) (a : Option Nat) : D := match a with | some k => .list n (d.len! - 1) (dropF d.at! k) | none => d
theorem edL_dropL (d : D) (a : Option Nat) : edL d a = dropL 5 d a := by cases a <;> rfl
theorem dropL_has {r : Nat} {d : D} {id : Int} (H : Has d (.list r)) : Has (dropL (rowsOf r).length d (edK d id)) (.list r) := by
  cases h : edK d id with
  | none => exact H
  | some k =>
    obtain ⟨len, f, rfl, HR⟩ := H.list
    exact ⟨r, rfl, rfl, fun i hi j hj => dropF_rowR HR (edK_some h).1 i hi j hj⟩
theorem dropL_lenOk {r : Nat} {d : D} {id : Int} (H : Has d (.list r)) (s : LenOk d) : LenOk (dropL (rowsOf r).length d (edK d id)) := by
  cases h : edK d id with
  | none => exact s
  | some k =>
    obtain ⟨len, f, rfl, _⟩ := H.list
    have hl := s.1
    have hk := (edK_some h).1
    change k < len at hk
    refine ⟨by show len - 1 ≤ _; omega, fun i hi j hj => ?_⟩
    change i < len - 1 at hi
    show LenOk (dropF f k i j)
    unfold dropF
    split
    · exact s.2 i (by omega) j hj
    · exact s.2 (i + 1) (by omega) j hj
theorem dropL_cnt {r : Nat} {d : D} {id : Int} (H : Has d (.list r)) : cntD (dropL (rowsOf r).length d (edK d id)) ≤ cntD d := by
  cases h : edK d id with
  | none => exact Nat.le_refl _
  | some k =>
    obtain ⟨len, f, rfl, _⟩ := H.list
    have hk := (edK_some h).1
    change k < len at hk
    show sumN (fun i => sumN (fun j => cntD (dropF f k i j)) (rowsOf r).length) (len - 1) ≤ sumN (fun i => sumN (fun j => cntD (f i j)) (rowsOf r).length) len
    have hd := sumN_drop (fun i => sumN (fun j => cntD (f i j)) (rowsOf r).length) k (len - 1)
    rw [show len - 1 + 1 = len by omega] at hd
    refine Nat.le_trans (Nat.le_of_eq (sumN_congr fun i hi => ?_)) hd
    unfold dropF
    split <;> rfl
theorem dropL_inc {n : Nat} {d : D} {id : Int} (h : incD d) : incD (dropL n d (edK d id)) := by
  cases e : edK d id with
  | none => exact h
  | some k => exact dropF_inc (f := d.at!) h
theorem dropL_len {n : Nat} {d : D} {a : Option Nat} : (dropL n d a).len! ≤ d.len! := by
  cases a with
  | none => exact Nat.le_refl _
  | some k => exact Nat.sub_le _ _
theorem dropL_mem {n : Nat} {d : D} {id x : Int} (h : incD d) : x ∈ idsOf (dropL n d (edK d id)).at! (dropL n d (edK d id)).len! ↔ x ∈ idsOf d.at! d.len! ∧ x ≠ id := by
  cases e : edK d id with
  | none =>
    refine ⟨fun hx => ⟨hx, fun ex => ?_⟩, fun hx => hx.1⟩
    obtain ⟨k, hk⟩ := edK_in (ex ▸ hx)
    change edK d id = some k at hk
    rw [e] at hk
    cases hk
  | some k =>
    obtain ⟨h1, h2, _⟩ := edK_some e
    have := dropF_mem (f := d.at!) (x := x) h h1
    rw [h2] at this
    exact this
/-- Without all edges of these numbers. -/
def dropIds (d : D) (l : List Int) : D := l.foldl (fun d id => edL d (edK d id)) d
theorem dropIds_nil (d : D) : dropIds d [] = d := rfl
theorem dropIds_snoc (d : D) (l : List Int) (x : Int) : dropIds d (l ++ [x]) = edL (dropIds d l) (edK (dropIds d l) x) := by simp [dropIds]
/-- What is true of what is left. -/
structure Left (d d' : D) (l : List Int) : Prop where
  has : Has d' (.list 5)
  len : d'.len! ≤ d.len!
  ok : LenOk d → LenOk d'
  cnt : cntD d' ≤ cntD d
  inc : incD d'
  mem : ∀ x, x ∈ idsOf d'.at! d'.len! ↔ x ∈ idsOf d.at! d.len! ∧ x ∉ l
theorem left_of {d : D} (H : Has d (.list 5)) (h : incD d) (l : List Int) : Left d (dropIds d l) l := by
  have key : ∀ m : List Int, Left d (dropIds d m.reverse) m.reverse := by
    intro m
    induction m with
    | nil => exact ⟨H, Nat.le_refl _, id, Nat.le_refl _, h, fun x => by simp [dropIds]⟩
    | cons a m ih =>
      rw [List.reverse_cons, dropIds_snoc, edL_dropL]
      exact ⟨dropL_has (r := 5) ih.has, Nat.le_trans dropL_len ih.len, fun s => dropL_lenOk (r := 5) ih.has (ih.ok s), Nat.le_trans (dropL_cnt (r := 5) ih.has) ih.cnt, dropL_inc ih.inc, fun x => by
        rw [dropL_mem ih.inc, ih.mem]
        simp [and_assoc]⟩
  have := key l.reverse
  rwa [List.reverse_reverse] at this
/-- The edges of a node. -/
def ndIds (d1 : D) (id : Int) : List Int := eoIds d1.at! id 0 ⟨#[]⟩ d1.len!
theorem ndIds_mem {d1 : D} {id x : Int} (h : x ∈ ndIds d1 id) : x ∈ idsOf d1.at! d1.len! := by
  obtain ⟨i, hi, e⟩ := List.mem_map.1 h
  exact List.mem_map.2 ⟨i, (List.mem_filter.1 hi).1, e⟩
theorem ndIds_nodup {d1 : D} {id : Int} (h : incD d1) : (ndIds d1 id).Nodup := by
  unfold ndIds eoIds
  show List.Pairwise (· ≠ ·) _
  rw [List.pairwise_map]
  refine List.Pairwise.imp_of_mem ?_ (List.Pairwise.filter _ List.pairwise_lt_range)
  intro i j hi hj hij
  have := h i j hij (List.mem_range.1 (List.mem_filter.1 hj).1)
  omega
theorem ndIds_len (d1 : D) (id : Int) : (ndIds d1 id).length ≤ d1.len! := eo_len _ _ _ _ _
/-- The next one is still there. -/
theorem ndIds_next {d1 : D} {id : Int} (H : Has d1 (.list 5)) (h : incD d1) {j : Nat} (hj : j < (ndIds d1 id).length) : ∃ k, edK (dropIds d1 ((ndIds d1 id).take j)) (ndIds d1 id)[j] = some k := by
  refine edK_in (((left_of H h _).mem _).2 ⟨ndIds_mem (List.getElem_mem hj), fun hm => ?_⟩)
  obtain ⟨i, hi, e⟩ := List.getElem_of_mem hm
  rw [List.getElem_take] at e
  have hij : i < j := by rw [List.length_take] at hi; omega
  have := List.pairwise_iff_getElem.1 (ndIds_nodup (id := id) h) i j (by omega) hj hij
  exact this e
theorem ndIds_step (d1 : D) (id : Int) {j : Nat} (hj : j < (ndIds d1 id).length) : dropIds d1 ((ndIds d1 id).take (j + 1)) = edL (dropIds d1 ((ndIds d1 id).take j)) (edK (dropIds d1 ((ndIds d1 id).take j)) (ndIds d1 id)[j]) := by
  rw [List.take_add_one, List.getElem?_eq_getElem hj]
  exact dropIds_snoc _ _ _
/-- The answer's rows, its Bool; g: the graph is ok, b: the node is taken away. -/
def ndD0 (g b : Bool) (d0 : D) (id : Int) : D := if g then (if b then dropL 3 d0 (edK d0 id) else d0) else noneL 3
def ndD1 (g b : Bool) (d1 : D) (id : Int) : D := if g then (if b then dropIds d1 (ndIds d1 id) else d1) else noneL 5
def ndB (d0 d1 : D) (id : Int) (detach : Bool) : Bool := hasId d0 id && (detach || (ndIds d1 id).isEmpty)
theorem ndD0_has {g b : Bool} {d0 : D} {id : Int} (H0 : Has d0 (.list 4)) : Has (ndD0 g b d0 id) (.list 4) := by
  unfold ndD0
  cases g
  · exact ⟨4, rfl, rfl, fun i hi => by omega⟩
  · cases b
    · exact H0
    · exact dropL_has (r := 4) H0
theorem ndD1_has {g b : Bool} {d1 : D} {id : Int} (H1 : Has d1 (.list 5)) (h : g = true → incD d1) : Has (ndD1 g b d1 id) (.list 5) := by
  unfold ndD1
  cases g
  · exact ⟨5, rfl, rfl, fun i hi => by omega⟩
  · cases b
    · exact H1
    · exact (left_of H1 (h rfl) _).has
theorem ndD0_lenOk {g b : Bool} {d0 : D} {id : Int} (H0 : Has d0 (.list 4)) (s0 : SmallD d0) : LenOk (ndD0 g b d0 id) := by
  unfold ndD0
  cases g
  · exact ⟨Nat.zero_le _, fun i hi => by omega⟩
  · cases b
    · exact small_lenOk _ s0
    · exact dropL_lenOk (r := 4) H0 (small_lenOk _ s0)
theorem ndD1_lenOk {g b : Bool} {d1 : D} {id : Int} (H1 : Has d1 (.list 5)) (s1 : SmallD d1) (h : g = true → incD d1) : LenOk (ndD1 g b d1 id) := by
  unfold ndD1
  cases g
  · exact ⟨Nat.zero_le _, fun i hi => by omega⟩
  · cases b
    · exact small_lenOk _ s1
    · exact (left_of H1 (h rfl) _).ok (small_lenOk _ s1)
theorem ndD0_cnt {g b : Bool} {d0 : D} {id : Int} (H0 : Has d0 (.list 4)) : cntD (ndD0 g b d0 id) ≤ cntD d0 := by
  unfold ndD0
  cases g
  · simp [noneL, cntD, sumN]
  · cases b
    · exact Nat.le_refl _
    · exact dropL_cnt (r := 4) H0
theorem ndD1_cnt {g b : Bool} {d1 : D} {id : Int} (H1 : Has d1 (.list 5)) (h : g = true → incD d1) : cntD (ndD1 g b d1 id) ≤ cntD d1 := by
  unfold ndD1
  cases g
  · simp [noneL, cntD, sumN]
  · cases b
    · exact Nat.le_refl _
    · exact (left_of H1 (h rfl) _).cnt
theorem node_incD {d0 d1 : D} {x2 x3 : Int} (h : graphB d0 d1 x2 x3 = true) : incD d0 := by
  simp only [graphB, Bool.and_eq_true, List.all_eq_true, List.mem_range] at h
  exact node_inc h.1.1
theorem hasId_in {d0 : D} {id : Int} (h : hasId d0 id = true) : ∃ k, edK d0 id = some k := by
  unfold hasId at h
  rw [List.any_eq_true] at h
  obtain ⟨i, hi, e⟩ := h
  exact edK_in (List.mem_map.2 ⟨i, hi, by simpa using e⟩)
end Go.Proofs.YtdnigcndjmmkcaaGreat
