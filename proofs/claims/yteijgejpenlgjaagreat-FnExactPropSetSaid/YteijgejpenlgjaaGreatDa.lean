/- Data of any shape as they lie in memory: numbers, yes and no, texts, and lists whose elements take some cells each. -/
import Derived.Test.YteijgejpenlgjaaGreatBase
namespace Go.Proofs.YteijgejpenlgjaaGreat
open Go.RowKit Go.Deep

/-- A cell's worth of data; a list has len elements of n cells each. -/
inductive D where
 | int (n : Int)
 | bool (b : Bool)
 | str (s : ByteArray)
 | list (n len : Nat) (f : Nat → Nat → D)

instance : Inhabited D := ⟨.int 0⟩

/-- The cell v lies in w as d; all blocks that it goes through are in S. -/
def DIn (S : Nat → Prop) (w : World) : D → Value → Prop
 | .int n, v => v = .int .i64 n ∧ (Lit.int .i64 n).wf = true
 | .bool b, v => v = .bool b
 | .str s, v => v = .string s ∧ s.size ≤ maxLen
 | .list n len f, v => ∃ a cap b off, v = .slice a len cap ∧ len ≤ maxLen ∧ (0 < len → a = some ⟨b, off, none⟩ ∧ S b ∧ b < w.heap.size) ∧
   ∀ i, i < len → ∀ j, j < n → ∃ c, w.cell? ⟨b, off + i * n + j, none⟩ = some c ∧ DIn S w (f i j) c

/-- So lie n cells. -/
def RowIn (S : Nat → Prop) (w : World) (n : Nat) (d : Nat → D) (C : Nat → Value) : Prop := ∀ j, j < n → DIn S w (d j) (C j)

theorem DIn.carry {S : Nat → Prop} {w w' : World} (hs : w.heap.size ≤ w'.heap.size) (hb : ∀ b, S b → b < w.heap.size → w'.heap[b]? = w.heap[b]?) : ∀ {d : D} {v : Value}, DIn S w d v → DIn S w' d v := by
 intro d
 induction d with
 | int n => exact fun h => h
 | bool b => exact fun h => h
 | str s => exact fun h => h
 | list n len f ih =>
  rintro v ⟨a, cap, b, off, hv, hl, ha, hc⟩
  refine ⟨a, cap, b, off, hv, hl, fun h0 => ⟨(ha h0).1, (ha h0).2.1, Nat.lt_of_lt_of_le (ha h0).2.2 hs⟩, fun i hi j hj => ?_⟩
  obtain ⟨c, h1, h2⟩ := hc i hi j hj
  have h0 := ha (by omega)
  exact ⟨c, by rw [World.cell?_of_block (hb b h0.2.1 h0.2.2)]; exact h1, ih i j h2⟩
theorem DIn.ext {S : Nat → Prop} {w w' : World} {d : D} {v : Value} (h : DIn S w d v) (e : Ext w w') : DIn S w' d v := h.carry e.le (fun b _ h2 => Below.block e b h2)
theorem DIn.mono {S S' : Nat → Prop} (hl : ∀ x, S x → S' x) {w : World} : ∀ {d : D} {v : Value}, DIn S w d v → DIn S' w d v := by
 intro d
 induction d with
 | int n => exact fun h => h
 | bool b => exact fun h => h
 | str s => exact fun h => h
 | list n len f ih =>
  rintro v ⟨a, cap, b, off, hv, hm, ha, hc⟩
  refine ⟨a, cap, b, off, hv, hm, fun h0 => ⟨(ha h0).1, hl _ (ha h0).2.1, (ha h0).2.2⟩, fun i hi j hj => ?_⟩
  obtain ⟨c, h1, h2⟩ := hc i hi j hj
  exact ⟨c, h1, ih i j h2⟩
theorem DIn.setCell {S : Nat → Prop} {w : World} {d : D} {v : Value} (h : DIn S w d v) {p : Addr} (hp : ¬ S p.block) (u : Value) : DIn S (w.setCell p u) d v :=
 h.carry (by simp) (fun b h1 _ => Below.heap_setCell _ _ _ _ (fun e => hp (by rw [← e]; exact h1)))
theorem RowIn.ext {S : Nat → Prop} {w w' : World} {n : Nat} {d : Nat → D} {C : Nat → Value} (h : RowIn S w n d C) (e : Ext w w') : RowIn S w' n d C := fun j hj => (h j hj).ext e
theorem RowIn.mono {S S' : Nat → Prop} (hl : ∀ x, S x → S' x) {w : World} {n : Nat} {d : Nat → D} {C : Nat → Value} (h : RowIn S w n d C) : RowIn S' w n d C := fun j hj => (h j hj).mono hl
def anyB : Nat → Prop := fun _ => True
theorem DIn.any {S : Nat → Prop} {w : World} {d : D} {v : Value} (h : DIn S w d v) : DIn anyB w d v := h.mono (fun _ _ => trivial)

theorem DIn.int_eq {S : Nat → Prop} {w : World} {n : Int} {v : Value} (h : DIn S w (.int n) v) : v = .int .i64 n ∧ (Lit.int .i64 n).wf = true := h
theorem DIn.bool_eq {S : Nat → Prop} {w : World} {n : Bool} {v : Value} (h : DIn S w (.bool n) v) : v = .bool n := h
theorem DIn.str_eq {S : Nat → Prop} {w : World} {n : ByteArray} {v : Value} (h : DIn S w (.str n) v) : v = .string n ∧ n.size ≤ maxLen := h
theorem DIn.list_eq {S : Nat → Prop} {w : World} {n len : Nat} {f : Nat → Nat → D} {v : Value} (h : DIn S w (.list n len f) v) : ∃ a cap, v = .slice a len cap ∧ len ≤ maxLen := by
 obtain ⟨a, cap, _, _, hv, hl, _⟩ := h
 exact ⟨a, cap, hv, hl⟩
/-- One element of a list: its cells, what they are. -/
theorem DIn.at {S : Nat → Prop} {w : World} {n len : Nat} {f : Nat → Nat → D} {v : Value} (h : DIn S w (.list n len f) v) {i : Nat} (hi : i < len) :
  ∃ (cap b off : Nat) (C : Nat → Value), v = .slice (some ⟨b, off, none⟩) len cap ∧ S b ∧ b < w.heap.size ∧ (∀ j, j < n → w.cell? ⟨b, off + i * n + j, none⟩ = some (C j)) ∧ RowIn S w n (f i) C := by
 obtain ⟨a, cap, b, off, hv, hl, ha, hc⟩ := h
 obtain ⟨rfl, h1, h2⟩ := ha (by omega)
 refine ⟨cap, b, off, fun j => if hj : j < n then Classical.choose (hc i hi j hj) else undef, hv, h1, h2, fun j hj => ?_, fun j hj => ?_⟩
 ·
  dsimp only; rw [dif_pos hj]; exact (Classical.choose_spec (hc i hi j hj)).1
 ·
  dsimp only; rw [dif_pos hj]; exact (Classical.choose_spec (hc i hi j hj)).2

/-- A box that was laid still has its cells. -/
theorem box_cell {w W : World} {cs : Array Value} {T : TypeId} (h : Ext (w.alloc (.cells cs T)) W) (j : Nat) (c : Value) (hc : cs[j]? = some c) : W.cell? ⟨w.heap.size, j, none⟩ = some c := by
 rw [h.cell (by simp)]
 simpa using hc

/-- A sum of so many. -/
def sumN (g : Nat → Nat) : Nat → Nat
 | 0 => 0
 | m + 1 => sumN g m + g m
theorem sumN_mono (g : Nat → Nat) {a b : Nat} (h : a ≤ b) : sumN g a ≤ sumN g b := by
 induction b with
 | zero => have : a = 0 := by omega
           subst this; exact Nat.le_refl _
 | succ b ih =>
  by_cases h' : a = b + 1
  ·
   subst h'; exact Nat.le_refl _
  ·
   have := ih (by omega); simp only [sumN]; omega
theorem sumN_congr {g h : Nat → Nat} {m : Nat} (e : ∀ i, i < m → g i = h i) : sumN g m = sumN h m := by
 induction m with
 | zero => rfl
 | succ m ih => simp only [sumN]; rw [ih (fun i hi => e i (by omega)), e m (by omega)]

/-- How many elements all lists within have. -/
def lenD : D → Nat
 | .list n len f => len + sumN (fun i => sumN (fun j => lenD (f i j)) n) len
 | _ => 0
def lenRow (n : Nat) (d : Nat → D) : Nat := sumN (fun j => lenD (d j)) n
/-- No text and no list within is longer than a million; no element has more than some cells. -/
def SmallD : D → Prop
 | .list n len f => n ≤ 24 ∧ len ≤ 1048576 ∧ ∀ i, i < len → ∀ j, j < n → SmallD (f i j)
 | .str s => s.size ≤ 1048576
 | _ => True
def SmallRow (n : Nat) (d : Nat → D) : Prop := ∀ j, j < n → SmallD (d j)

/-- What a cell may be; a list's elements by the place of their row in the table. -/
inductive Leaf where
 | int | bool | str
 | list (r : Nat)

/-- The rows: 0 a text, 1 a number, 2 Value, 3 Prop and Cell, 4 Node, 5 Edge, 6 Graph, 7 Rule, 8 Expr, 9 Pat, 10 Hop, 11 Path, 12 Item, 13 Order, 14 To, 15 Clause, 16 a list of values, 17 Ask, 18 Tx, 19 Event, 20 Reply, 21 Msg, 22 Table. -/
def rowsOf : Nat → List Leaf
 | 0 => [.str]
 | 1 => [.int]
 | 2 => [.int, .int, .str, .list 2]
 | 3 => [.str, .int, .int, .str, .list 2]
 | 4 => [.int, .list 0, .list 3]
 | 5 => [.int, .str, .int, .int, .list 3]
 | 6 => [.list 4, .list 5, .int, .int]
 | 7 => [.str, .str]
 | 8 => [.int, .int, .int, .str, .list 2, .str, .str, .list 8]
 | 9 => [.str, .int, .int, .int, .str, .list 2, .str, .str, .list 8]
 | 10 => [.str, .str, .int, .str, .str, .list 9]
 | 11 => [.str, .str, .list 9, .list 10]
 | 12 => [.int, .int, .int, .str, .list 2, .str, .str, .list 8, .str]
 | 13 => [.str, .bool]
 | 14 => [.str, .str, .int, .int, .int, .str, .list 2, .str, .str, .list 8]
 | 15 => [.int, .list 11, .int, .int, .int, .str, .list 2, .str, .str, .list 8, .str, .list 12, .bool, .list 13, .int, .int, .list 14, .list 0, .bool]
 | 16 => [.list 2]
 | 17 => [.str, .list 3]
 | 18 => [.int, .int, .list 4, .list 5, .int, .int, .list 17]
 | 19 => [.int, .bool, .str]
 | 20 => [.int, .list 0, .list 2, .int, .bool]
 | 21 => [.int, .str, .list 3, .int]
 | 22 => [.list 0, .list 16]
 | _ => []

/-- Data of that shape. -/
def Has : D → Leaf → Prop
 | .int _, t => t = .int
 | .bool _, t => t = .bool
 | .str _, t => t = .str
 | .list n len f, t => ∃ r, t = .list r ∧ n = (rowsOf r).length ∧ ∀ i, i < len → ∀ j, j < n → Has (f i j) ((rowsOf r).getD j .int)
def HasRow (r : Nat) (d : Nat → D) : Prop := ∀ j, j < (rowsOf r).length → Has (d j) ((rowsOf r).getD j .int)

theorem Has.int {d : D} (h : Has d .int) : ∃ n, d = .int n := by
 cases d with
 | int n => exact ⟨n, rfl⟩
 | list n len f => obtain ⟨r, h, _⟩ := h; cases h
 | _ => cases h
theorem Has.bool {d : D} (h : Has d .bool) : ∃ n, d = .bool n := by
 cases d with
 | bool n => exact ⟨n, rfl⟩
 | list n len f => obtain ⟨r, h, _⟩ := h; cases h
 | _ => cases h
theorem Has.str {d : D} (h : Has d .str) : ∃ n, d = .str n := by
 cases d with
 | str n => exact ⟨n, rfl⟩
 | list n len f => obtain ⟨r, h, _⟩ := h; cases h
 | _ => cases h
theorem Has.list {d : D} {r : Nat} (h : Has d (.list r)) : ∃ len f, d = .list (rowsOf r).length len f ∧ ∀ i, i < len → HasRow r (f i) := by
 cases d with
 | list n len f =>
  obtain ⟨r', h1, h2, h3⟩ := h
  cases h1
  subst h2
  exact ⟨len, f, rfl, fun i hi j hj => h3 i hi j hj⟩
 | _ => cases h
theorem list_shape {S : Nat → Prop} {w : World} {r : Nat} {d : D} {v : Value} (H : Has d (.list r)) (h : DIn S w d v) : ∃ a cap len f, d = .list (rowsOf r).length len f ∧ v = .slice a len cap ∧ len ≤ maxLen ∧ ∀ i, i < len → HasRow r (f i) := by
 obtain ⟨len, f, rfl, hr⟩ := H.list
 obtain ⟨a, cap, rfl, hl⟩ := h.list_eq
 exact ⟨a, cap, len, f, rfl, rfl, hl, hr⟩
end Go.Proofs.YteijgejpenlgjaaGreat

/- What cells of data are; small facts on lists and numbers. -/
namespace Go.Proofs.YteijgejpenlgjaaGreat
open Go.RowKit Go.Deep

def D.int! : D → Int | .int n => n | _ => 0
def D.str! : D → ByteArray | .str s => s | _ => ⟨#[]⟩
def D.len! : D → Nat | .list _ len _ => len | _ => 0
def D.at! : D → Nat → Nat → D | .list _ _ f => f | _ => fun _ _ => .int 0

def ltS (s t : ByteArray) : Bool := Op.bytesLess s.toList t.toList

theorem wrap_i64 {x : Int} (h0 : -9223372036854775808 ≤ x) (h1 : x ≤ 9223372036854775807) : IntKind.i64.wrap x = x := by
 simp [IntKind.wrap, IntKind.signed, IntKind.bits]
 omega
theorem all_no {n : Nat} {p : Nat → Bool} {k : Nat} (hk : k < n) (h : p k = false) : (List.range n).all p = false := by
 rw [List.all_eq_false]
 exact ⟨k, List.mem_range.2 hk, by simp [h]⟩
theorem all_yes {n : Nat} {p : Nat → Bool} (h : ∀ j, j < n → p j = true) : (List.range n).all p = true := by
 rw [List.all_eq_true]
 intro j hj
 exact h j (List.mem_range.1 hj)
theorem upto_succ {p : Nat → Bool} {k : Nat} (h : ∀ j, j < k → p j = true) (hk : p k = true) : ∀ j, j < k + 1 → p j = true := by
 intro j hj
 rcases Nat.lt_succ_iff_lt_or_eq.1 hj with h' | h'
 ·
  exact h j h'
 ·
  subst h'; exact hk

end Go.Proofs.YteijgejpenlgjaaGreat
