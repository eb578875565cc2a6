/- Data of any shape as they lie in memory: numbers, yes and no, texts, and lists whose elements take some cells each. -/
import Derived.Test.YtbhmblkappmfjaaGreatBase
namespace Go.Proofs.YtbhmblkappmfjaaGreat
open Go.RowKit Go.Deep

/-- A cell's worth of data; a list has len elements of n cells each. -/
inductive D where
  | int (n : Int)
  | bool (b : Bool)
  | str (s : ByteArray)
  | list (n len : Nat) (f : Nat → Nat → D)

instance : Inhabited D := ⟨.int 0⟩

/-- The cell v lies in w as d; all blocks that it goes through are in S. -/
def DIn (S : Nat → Prop) (w : World) : D → Value → Prop
  | .int n, v => v = .int .i64 n ∧ (Lit.int .i64 n).wf = true
  | .bool b, v => v = .bool b
  | .str s, v => v = .string s ∧ s.size ≤ maxLen
  | .list n len f, v => ∃ a cap b off, v = .slice a len cap ∧ len ≤ maxLen ∧ (0 < len → a = some ⟨b, off, none⟩ ∧ S b ∧ b < w.heap.size) ∧
      ∀ i, i < len → ∀ j, j < n → ∃ c, w.cell? ⟨b, off + i * n + j, none⟩ = some c ∧ DIn S w (f i j) c

/-- So lie n cells. -/
def RowIn (S : Nat → Prop) (w : World) (n : Nat) (d : Nat → D) (C : Nat → Value) : Prop := ∀ j, j < n → DIn S w (d j) (C j)

theorem DIn.carry {S : Nat → Prop} {w w' : World} (hs : w.heap.size ≤ w'.heap.size) (hb : ∀ b, S b → b < w.heap.size → w'.heap[b]? = w.heap[b]?) : ∀ {d : D} {v : Value}, DIn S w d v → DIn S w' d v := by
  intro d
  induction d with
  | int n => exact fun h => h
  | bool b => exact fun h => h
  | str s => exact fun h => h
  | list n len f ih =>
    rintro v ⟨a, cap, b, off, hv, hl, ha, hc⟩
    refine ⟨a, cap, b, off, hv, hl, fun h0 => ⟨(ha h0).1, (ha h0).2.1, Nat.lt_of_lt_of_le (ha h0).2.2 hs⟩, fun i hi j hj => ?_⟩
    obtain ⟨c, h1, h2⟩ := hc i hi j hj
    have h0 := ha (by omega)
    exact ⟨c, by rw [World.cell?_of_block (hb b h0.2.1 h0.2.2)]; exact h1, ih i j h2⟩
theorem DIn.ext {S : Nat → Prop} {w w' : World} {d : D} {v : Value} (h : DIn S w d v) (e : Ext w w') : DIn S w' d v := h.carry e.le (fun b _ h2 => Below.block e b h2)
theorem DIn.mono {S S' : Nat → Prop} (hl : ∀ x, S x → S' x) {w : World} : ∀ {d : D} {v : Value}, DIn S w d v → DIn S' w d v := by
  intro d
  induction d with
  | int n => exact fun h => h
  | bool b => exact fun h => h
  | str s => exact fun h => h
  | list n len f ih =>
    rintro v ⟨a, cap, b, off, hv, hm, ha, hc⟩
    refine ⟨a, cap, b, off, hv, hm, fun h0 => ⟨(ha h0).1, hl _ (ha h0).2.1, (ha h0).2.2⟩, fun i hi j hj => ?_⟩
    obtain ⟨c, h1, h2⟩ := hc i hi j hj
    exact ⟨c, h1, ih i j h2⟩
theorem DIn.setCell {S : Nat → Prop} {w : World} {d : D} {v : Value} (h : DIn S w d v) {p : Addr} (hp : ¬ S p.block) (u : Value) : DIn S (w.setCell p u) d v :=
  h.carry (by simp) (fun b h1 _ => Below.heap_setCell _ _ _ _ (fun e => hp (by rw [← e]; exact h1)))
theorem RowIn.ext {S : Nat → Prop} {w w' : World} {n : Nat} {d : Nat → D} {C : Nat → Value} (h : RowIn S w n d C) (e : Ext w w') : RowIn S w' n d C := fun j hj => (h j hj).ext e
theorem RowIn.mono {S S' : Nat → Prop} (hl : ∀ x, S x → S' x) {w : World} {n : Nat} {d : Nat → D} {C : Nat → Value} (h : RowIn S w n d C) : RowIn S' w n d C := fun j hj => (h j hj).mono hl
def anyB : Nat → Prop := fun _ => True
theorem DIn.any {S : Nat → Prop} {w : World} {d : D} {v : Value} (h : DIn S w d v) : DIn anyB w d v := h.mono (fun _ _ => trivial)

theorem DIn.int_eq {S : Nat → Prop} {w : World} {n : Int} {v : Value} (h : DIn S w (.int n) v) : v = .int .i64 n ∧ (Lit.int .i64 n).wf = true := h
theorem DIn.str_eq {S : Nat → Prop} {w : World} {n : ByteArray} {v : Value} (h : DIn S w (.str n) v) : v = .string n ∧ n.size ≤ maxLen := h
theorem DIn.list_eq {S : Nat → Prop} {w : World} {n len : Nat} {f : Nat → Nat → D} {v : Value} (h : DIn S w (.list n len f) v) : ∃ a cap, v = .slice a len cap ∧ len ≤ maxLen := by
  obtain ⟨a, cap, _, _, hv, hl, _⟩ := h
  exact ⟨a, cap, hv, hl⟩
/-- One element of a list: its cells, what they are. -/
theorem DIn.at {S : Nat → Prop} {w : World} {n len : Nat} {f : Nat → Nat → D} {v : Value} (h : DIn S w (.list n len f) v) {i : Nat} (hi : i < len) :
    ∃ (cap b off : Nat) (C : Nat → Value), v = .slice (some ⟨b, off, none⟩) len cap ∧ S b ∧ b < w.heap.size ∧ (∀ j, j < n → w.cell? ⟨b, off + i * n + j, none⟩ = some (C j)) ∧ RowIn S w n (f i) C := by
  obtain ⟨a, cap, b, off, hv, hl, ha, hc⟩ := h
  obtain ⟨rfl, h1, h2⟩ := ha (by omega)
  refine ⟨cap, b, off, fun j => if hj : j < n then Classical.choose (hc i hi j hj) else undef, hv, h1, h2, fun j hj => ?_, fun j hj => ?_⟩
  · dsimp only; rw [dif_pos hj]; exact (Classical.choose_spec (hc i hi j hj)).1
  · dsimp only; rw [dif_pos hj]; exact (Classical.choose_spec (hc i hi j hj)).2

/-- A box that was laid still has its cells. -/
theorem box_cell {w W : World} {cs : Array Value} {T : TypeId} (h : Ext (w.alloc (.cells cs T)) W) (j : Nat) (c : Value) (hc : cs[j]? = some c) : W.cell? ⟨w.heap.size, j, none⟩ = some c := by
  rw [h.cell (by simp)]
  simpa using hc

/-- A sum of so many. -/
def sumN (g : Nat → Nat) : Nat → Nat
  | 0 => 0
  | m + 1 => sumN g m + g m
theorem sumN_congr {g h : Nat → Nat} {m : Nat} (e : ∀ i, i < m → g i = h i) : sumN g m = sumN h m := by
  induction m with
  | zero => rfl
  | succ m ih => simp only [sumN]; rw [ih (fun i hi => e i (by omega)), e m (by omega)]

/-- No text and no list within is longer than a million; no element has more than some cells. -/
def SmallD : D → Prop
  | .list n len f => n ≤ 24 ∧ len ≤ 1048576 ∧ ∀ i, i < len → ∀ j, j < n → SmallD (f i j)
  | .str s => s.size ≤ 1048576
  | _ => True
/-- No list has more than a million elements; of texts nothing is said. -/
def SmallL : D → Prop
  | .list n len f => n ≤ 24 ∧ len ≤ 1048576 ∧ ∀ i, i < len → ∀ j, j < n → SmallL (f i j)
  | _ => True
theorem SmallD.toL : ∀ {d : D}, SmallD d → SmallL d := by
  intro d
  induction d with
  | list n len f ih => exact fun h => ⟨h.1, h.2.1, fun i hi j hj => ih i j (h.2.2 i hi j hj)⟩
  | int _ => exact fun _ => trivial
  | bool _ => exact fun _ => trivial
  | str _ => exact fun _ => trivial
instance smallCoe (d : D) : Coe (SmallD d) (SmallL d) := ⟨SmallD.toL⟩

/-- What a cell may be; a list's elements by the place of their row in the table. -/
inductive Leaf where
  | int | bool | str
  | list (r : Nat)

/-- The rows: 0 a text, 1 a number, 2 Value, 3 Prop and Cell, 4 Node, 5 Edge, 6 Graph, 7 Rule, 8 Expr, 9 Pat, 10 Hop, 11 Path, 12 Item, 13 Order, 14 To, 15 Clause, 16 a list of values, 17 Ask, 18 Tx, 19 Event, 20 Reply, 21 Msg, 22 Table. -/
def rowsOf : Nat → List Leaf
  | 0 => [.str]
  | 1 => [.int]
  | 2 => [.int, .int, .str, .list 2]
  | 3 => [.str, .int, .int, .str, .list 2]
  | 4 => [.int, .list 0, .list 3]
  | 5 => [.int, .str, .int, .int, .list 3]
  | 6 => [.list 4, .list 5, .int, .int]
  | 7 => [.str, .str]
  | 8 => [.int, .int, .int, .str, .list 2, .str, .str, .list 8]
  | 9 => [.str, .int, .int, .int, .str, .list 2, .str, .str, .list 8]
  | 10 => [.str, .str, .int, .str, .str, .list 9]
  | 11 => [.str, .str, .list 9, .list 10]
  | 12 => [.int, .int, .int, .str, .list 2, .str, .str, .list 8, .str]
  | 13 => [.str, .bool]
  | 14 => [.str, .str, .int, .int, .int, .str, .list 2, .str, .str, .list 8]
  | 15 => [.int, .list 11, .int, .int, .int, .str, .list 2, .str, .str, .list 8, .str, .list 12, .bool, .list 13, .int, .int, .list 14, .list 0, .bool]
  | 16 => [.list 2]
  | 17 => [.str, .list 3]
  | 18 => [.int, .int, .list 4, .list 5, .int, .int, .list 17]
  | 19 => [.int, .bool, .str]
  | 20 => [.int, .list 0, .list 2, .int, .bool]
  | 21 => [.int, .str, .list 3, .int]
  | 22 => [.list 0, .list 16]
  | _ => []

/-- Data of that shape. -/
def Has : D → Leaf → Prop
  | .int _, t => t = .int
  | .bool _, t => t = .bool
  | .str _, t => t = .str
  | .list n len f, t => ∃ r, t = .list r ∧ n = (rowsOf r).length ∧ ∀ i, i < len → ∀ j, j < n → Has (f i j) ((rowsOf r).getD j .int)
def HasRow (r : Nat) (d : Nat → D) : Prop := ∀ j, j < (rowsOf r).length → Has (d j) ((rowsOf r).getD j .int)

theorem Has.int {d : D} (h : Has d .int) : ∃ n, d = .int n := by
  cases d with
  | int n => exact ⟨n, rfl⟩
  | list n len f => obtain ⟨r, h, _⟩ := h; cases h
  | _ => cases h
theorem Has.bool {d : D} (h : Has d .bool) : ∃ n, d = .bool n := by
  cases d with
  | bool n => exact ⟨n, rfl⟩
  | list n len f => obtain ⟨r, h, _⟩ := h; cases h
  | _ => cases h
theorem Has.str {d : D} (h : Has d .str) : ∃ n, d = .str n := by
  cases d with
  | str n => exact ⟨n, rfl⟩
  | list n len f => obtain ⟨r, h, _⟩ := h; cases h
  | _ => cases h
theorem Has.list {d : D} {r : Nat} (h : Has d (.list r)) : ∃ len f, d = .list (rowsOf r).length len f ∧ ∀ i, i < len → HasRow r (f i) := by
  cases d with
  | list n len f =>
    obtain ⟨r', h1, h2, h3⟩ := h
    cases h1
    subst h2
    exact ⟨len, f, rfl, fun i hi j hj => h3 i hi j hj⟩
  | _ => cases h
theorem list_shape {S : Nat → Prop} {w : World} {r : Nat} {d : D} {v : Value} (H : Has d (.list r)) (h : DIn S w d v) : ∃ a cap len f, d = .list (rowsOf r).length len f ∧ v = .slice a len cap ∧ len ≤ maxLen ∧ ∀ i, i < len → HasRow r (f i) := by
  obtain ⟨len, f, rfl, hr⟩ := H.list
  obtain ⟨a, cap, rfl, hl⟩ := h.list_eq
  exact ⟨a, cap, len, f, rfl, rfl, hl, hr⟩
end Go.Proofs.YtbhmblkappmfjaaGreat

/- Memory of one's own: lists in blocks that are not frozen, none of them twice; a row that is being laid. -/
namespace Go.Proofs.YtbhmblkappmfjaaGreat
open Go.RowKit Go.Deep

def New (a b : Nat) : Nat → Prop := fun x => a ≤ x ∧ x < b

/-- The cell v of d owns blocks of S: no list's block is another one's, none is frozen. -/
def Own (w : World) : D → (Nat → Prop) → Value → Prop
  | .list n len f, S, v => ∃ a cap b off, ∃ P : Nat → Nat → Nat → Prop, v = .slice a len cap ∧
      (0 < len → a = some ⟨b, off, none⟩ ∧ S b ∧ b < w.heap.size ∧ ∀ o, w.frozen? ⟨b, o, none⟩ = false) ∧
      (∀ i j, i < len → j < n → ∀ x, P i j x → S x ∧ x ≠ b) ∧
      (∀ i j i' j', i < len → j < n → i' < len → j' < n → ¬ (i = i' ∧ j = j') → ∀ x, P i j x → ¬ P i' j' x) ∧
      ∀ i, i < len → ∀ j, j < n → ∃ c, w.cell? ⟨b, off + i * n + j, none⟩ = some c ∧ Own w (f i j) (P i j) c
  | _, _, _ => True

theorem Own.carry {w w' : World} (hs : w.heap.size ≤ w'.heap.size) : ∀ {d : D} {S : Nat → Prop} {v : Value}, (∀ b, S b → b < w.heap.size → w'.heap[b]? = w.heap[b]?) → Own w d S v → Own w' d S v := by
  intro d
  induction d with
  | int n => intro S v _ _; exact trivial
  | bool b => intro S v _ _; exact trivial
  | str s => intro S v _ _; exact trivial
  | list n len f ih =>
    rintro S v hb ⟨a, cap, b, off, P, hv, ha, hP, hd, hc⟩
    refine ⟨a, cap, b, off, P, hv, fun h0 => ?_, hP, hd, fun i hi j hj => ?_⟩
    · obtain ⟨h1, h2, h3, h4⟩ := ha h0
      exact ⟨h1, h2, Nat.lt_of_lt_of_le h3 hs, fun o => by rw [World.frozen?_of_block (hb b h2 h3)]; exact h4 o⟩
    · obtain ⟨c, h1, h2⟩ := hc i hi j hj
      obtain ⟨_, h3, h4, _⟩ := ha (by omega)
      exact ⟨c, by rw [World.cell?_of_block (hb b h3 h4)]; exact h1, ih i j (fun x hx hl => hb x (hP i j hi hj x hx).1 hl) h2⟩
theorem Own.ext {w w' : World} {d : D} {S : Nat → Prop} {v : Value} (h : Own w d S v) (e : Ext w w') : Own w' d S v := h.carry e.le (fun b _ h2 => Below.block e b h2)
theorem Own.mono {S S' : Nat → Prop} (hl : ∀ x, S x → S' x) {w : World} {d : D} {v : Value} (h : Own w d S v) : Own w d S' v := by
  cases d with
  | list n len f =>
    obtain ⟨a, cap, b, off, P, hv, ha, hP, hd, hc⟩ := h
    exact ⟨a, cap, b, off, P, hv, fun h0 => ⟨(ha h0).1, hl _ (ha h0).2.1, (ha h0).2.2⟩, fun i j hi hj x hx => ⟨hl _ (hP i j hi hj x hx).1, (hP i j hi hj x hx).2⟩, hd, hc⟩
  | int _ => trivial
  | bool _ => trivial
  | str _ => trivial
theorem Own.setCell {S : Nat → Prop} {w : World} {d : D} {v : Value} (h : Own w d S v) {p : Addr} (hp : ¬ S p.block) (u : Value) : Own (w.setCell p u) d S v :=
  h.carry (by simp) (fun b h1 _ => Below.heap_setCell _ _ _ _ (fun e => hp (by rw [← e]; exact h1)))

/-- From block lo on nothing of w has turned in w'. -/
structure Keep (lo : Nat) (w w' : World) : Prop where
  size : w.heap.size ≤ w'.heap.size
  block : ∀ b, lo ≤ b → b < w.heap.size → w'.heap[b]? = w.heap[b]?
theorem Keep.refl (lo : Nat) (w : World) : Keep lo w w := ⟨Nat.le_refl _, fun _ _ _ => rfl⟩
theorem Keep.set {lo : Nat} {w w' : World} (h : Keep lo w w') {p : Addr} (hp : p.block < lo) (u : Value) : Keep lo w (w'.setCell p u) :=
  ⟨by simpa using h.size, fun b h1 h2 => by rw [Below.heap_setCell _ _ _ _ (by omega)]; exact h.block b h1 h2⟩
theorem Keep.ext {lo : Nat} {w w' w'' : World} (h : Keep lo w w') (e : Ext w' w'') : Keep lo w w'' :=
  ⟨Nat.le_trans h.size e.le, fun b h1 h2 => by rw [Below.block e b (Nat.lt_of_lt_of_le h2 h.size)]; exact h.block b h1 h2⟩
/-- The cells from o on of block b, set one behind the other. -/
def setRow (w : World) (b o : Nat) : List Value → World
  | [] => w
  | u :: r => setRow (w.setCell ⟨b, o, none⟩ u) b (o + 1) r
theorem setRow_size (b : Nat) (us : List Value) : ∀ (w : World) (o : Nat), (setRow w b o us).heap.size = w.heap.size := by
  induction us with
  | nil => intro w o; rfl
  | cons u r ih => intro w o; show (setRow _ b (o + 1) r).heap.size = _; rw [ih]; simp
theorem setRow_other (b : Nat) (us : List Value) : ∀ (w : World) (o : Nat) (b' : Nat), b' ≠ b → (setRow w b o us).heap[b']? = w.heap[b']? := by
  induction us with
  | nil => intro w o b' _; rfl
  | cons u r ih => intro w o b' h; show (setRow _ b (o + 1) r).heap[b']? = _; rw [ih _ _ _ h]; exact Below.heap_setCell _ _ _ _ h
theorem setRow_row {B : Nat} {T : TypeId} {N : Nat} (us : List Value) : ∀ {w : World} {F : Nat → Value} (o : Nat), w.rowIs B T N F → (setRow w B o us).rowIs B T N (fun x => if o ≤ x ∧ x < o + us.length then us.getD (x - o) undef else F x) := by
  induction us with
  | nil => intro w F o h; exact h.congr (fun i _ => by rw [if_neg (by simp)])
  | cons u r ih =>
    intro w F o h
    refine (ih (o + 1) (h.set o u)).congr (fun i _ => ?_)
    by_cases h1 : i = o
    · subst h1
      rw [if_neg (by omega), if_pos rfl, if_pos (by simp)]
      simp
    · rw [if_neg h1]
      by_cases h2 : o + 1 ≤ i ∧ i < o + 1 + r.length
      · rw [if_pos h2, if_pos (by simp; omega)]
        have : i - o = (i - (o + 1)) + 1 := by omega
        rw [this]
        rfl
      · rw [if_neg h2, if_neg (by simp; omega)]

theorem at_lt {i j n k : Nat} (hi : i < k) (hj : j < n) : i * n + j < k * n := by
  have : (i + 1) * n ≤ k * n := Nat.mul_le_mul_right n hi
  rw [Nat.add_mul] at this
  omega

/-- A row at block B, its first k elements laid, each leaf in memory of its own behind it. -/
def TSt (w : World) (B : Nat) (T : TypeId) (n len : Nat) (f : Nat → Nat → D) (k : Nat) : Prop :=
  ∃ F : Nat → Value, ∃ P : Nat → Nat → Nat → Prop, w.rowIs B T (len * n) F ∧
    (∀ i, i < k → ∀ j, j < n → DIn (P i j) w (f i j) (F (i * n + j)) ∧ Own w (f i j) (P i j) (F (i * n + j)) ∧ ∀ x, P i j x → B < x ∧ x < w.heap.size) ∧
    (∀ i j i' j', i < k → j < n → i' < k → j' < n → ¬ (i = i' ∧ j = j') → ∀ x, P i j x → ¬ P i' j' x)

theorem TSt.row {w : World} {B : Nat} {T : TypeId} {n len : Nat} {f : Nat → Nat → D} {k : Nat} (h : TSt w B T n len f k) : ∃ F : Nat → Value, w.rowIs B T (len * n) F := by
  obtain ⟨F, _, h, _⟩ := h
  exact ⟨F, h⟩
theorem TSt.ext {w w' : World} {B : Nat} {T : TypeId} {n len : Nat} {f : Nat → Nat → D} {k : Nat} (h : TSt w B T n len f k) (e : Ext w w') : TSt w' B T n len f k := by
  obtain ⟨F, P, hr, hl, hd⟩ := h
  exact ⟨F, P, hr.of_block (Below.block e _ hr.lt), fun i hi j hj => ⟨(hl i hi j hj).1.ext e, (hl i hi j hj).2.1.ext e, fun x hx => ⟨((hl i hi j hj).2.2 x hx).1, Nat.lt_of_lt_of_le ((hl i hi j hj).2.2 x hx).2 e.le⟩⟩, hd⟩
theorem TSt.step {w w' : World} {B : Nat} {T : TypeId} {n len : Nat} {f : Nat → Nat → D} {k : Nat} (h : TSt w B T n len f k) (e : Ext w w') (us : List Value) (hu : us.length = n) (Q : Nat → Nat → Prop)
    (hq : ∀ j, j < n → DIn (Q j) w' (f k j) (us.getD j undef) ∧ Own w' (f k j) (Q j) (us.getD j undef) ∧ ∀ x, Q j x → w.heap.size ≤ x ∧ x < w'.heap.size)
    (hdq : ∀ j j', j < n → j' < n → j ≠ j' → ∀ x, Q j x → ¬ Q j' x) : TSt (setRow w' B (k * n) us) B T n len f (k + 1) := by
  have hB : B < w.heap.size := by obtain ⟨F, hr⟩ := h.row; exact hr.lt
  have carD : ∀ {S : Nat → Prop} {d : D} {v : Value}, (∀ x, S x → B < x) → DIn S w' d v → DIn S (setRow w' B (k * n) us) d v := fun hS h => h.carry (by rw [setRow_size]; exact Nat.le_refl _) (fun b hb _ => setRow_other _ _ _ _ _ (by have := hS b hb; omega))
  have carO : ∀ {S : Nat → Prop} {d : D} {v : Value}, (∀ x, S x → B < x) → Own w' d S v → Own (setRow w' B (k * n) us) d S v := fun hS h => h.carry (by rw [setRow_size]; exact Nat.le_refl _) (fun b hb _ => setRow_other _ _ _ _ _ (by have := hS b hb; omega))
  obtain ⟨F0, P0, hr0, hl0, hd0⟩ := h
  -- the elder elements' sets, in w: below w's size
  refine ⟨_, fun i j => if i = k then Q j else P0 i j, setRow_row us (k * n) (hr0.of_block (Below.block e _ hr0.lt)), fun i hi j hj => ?_, fun i j i' j' hi hj hi' hj' hne x hx => ?_⟩
  · by_cases hik : i = k
    · subst hik
      have := hq j hj
      have hb : ∀ x, Q j x → B < x := fun x hx => by have := (this.2.2 x hx).1; omega
      dsimp only
      rw [if_pos rfl, if_pos (by rw [hu]; omega)]
      have e2 : i * n + j - i * n = j := by omega
      rw [e2]
      exact ⟨carD hb this.1, carO hb this.2.1, fun x hx => ⟨hb x hx, by rw [setRow_size]; exact (this.2.2 x hx).2⟩⟩
    · have hi2 : i < k := by omega
      have := hl0 i hi2 j hj
      have hlt := at_lt hi2 hj
      dsimp only
      rw [if_neg hik, if_neg (by omega)]
      exact ⟨carD (fun x hx => (this.2.2 x hx).1) (this.1.ext e), carO (fun x hx => (this.2.2 x hx).1) (this.2.1.ext e), fun x hx => ⟨(this.2.2 x hx).1, by rw [setRow_size]; exact Nat.lt_of_lt_of_le (this.2.2 x hx).2 e.le⟩⟩
  · dsimp only at hx ⊢
    by_cases h1 : i = k <;> by_cases h2 : i' = k
    · rw [if_pos h1] at hx
      rw [if_pos h2]
      exact hdq j j' hj hj' (fun h => hne ⟨by omega, h⟩) x hx
    · rw [if_pos h1] at hx
      rw [if_neg h2]
      intro hx2
      have := ((hl0 i' (by omega) j' hj').2.2 x hx2).2
      have := ((hq j hj).2.2 x hx).1
      omega
    · rw [if_neg h1] at hx
      rw [if_pos h2]
      intro hx2
      have := ((hl0 i (by omega) j hj).2.2 x hx).2
      have := ((hq j' hj').2.2 x hx2).1
      omega
    · rw [if_neg h1] at hx
      rw [if_neg h2]
      exact hd0 i j i' j' (by omega) hj (by omega) hj' hne x hx
theorem TSt.end {w : World} {B : Nat} {T : TypeId} {n len : Nat} {f : Nat → Nat → D} (h : TSt w B T n len f len) (hl : len ≤ maxLen) (cap : Nat) (S : Nat → Prop) (hS : ∀ x, B ≤ x → x < w.heap.size → S x) :
    DIn S w (.list n len f) (.slice (some ⟨B, 0, none⟩) len cap) ∧ Own w (.list n len f) S (.slice (some ⟨B, 0, none⟩) len cap) := by
  obtain ⟨F, P, hr, hv, hd⟩ := h
  have hB := hr.lt
  constructor
  · refine ⟨_, _, B, 0, rfl, hl, fun _ => ⟨rfl, hS B (Nat.le_refl _) hB, hB⟩, fun i hi j hj => ⟨F (i * n + j), ?_, (hv i hi j hj).1.mono (fun x hx => hS x (by have := ((hv i hi j hj).2.2 x hx).1; omega) ((hv i hi j hj).2.2 x hx).2)⟩⟩
    rw [Nat.zero_add]; exact hr.cell (at_lt hi hj)
  · refine ⟨_, _, B, 0, P, rfl, fun _ => ⟨rfl, hS B (Nat.le_refl _) hB, hB, fun o => hr.frozen o⟩, fun i j hi hj x hx => ⟨hS x (by have := ((hv i hi j hj).2.2 x hx).1; omega) ((hv i hi j hj).2.2 x hx).2, by have := ((hv i hi j hj).2.2 x hx).1; omega⟩, hd, fun i hi j hj => ⟨F (i * n + j), ?_, (hv i hi j hj).2.1⟩⟩
    rw [Nat.zero_add]; exact hr.cell (at_lt hi hj)
end Go.Proofs.YtbhmblkappmfjaaGreat

/- What cells of data are; small facts on lists and numbers. -/
namespace Go.Proofs.YtbhmblkappmfjaaGreat
open Go.RowKit Go.Deep

def D.int! : D → Int | .int n => n | _ => 0
def D.str! : D → ByteArray | .str s => s | _ => ⟨#[]⟩
def D.len! : D → Nat | .list _ len _ => len | _ => 0
def D.at! : D → Nat → Nat → D | .list _ _ f => f | _ => fun _ _ => .int 0

def ltS (s t : ByteArray) : Bool := Op.bytesLess s.toList t.toList

theorem wrap_i64 {x : Int} (h0 : -9223372036854775808 ≤ x) (h1 : x ≤ 9223372036854775807) : IntKind.i64.wrap x = x := by
  simp [IntKind.wrap, IntKind.signed, IntKind.bits]
  omega
theorem all_no {n : Nat} {p : Nat → Bool} {k : Nat} (hk : k < n) (h : p k = false) : (List.range n).all p = false := by
  rw [List.all_eq_false]
  exact ⟨k, List.mem_range.2 hk, by simp [h]⟩
theorem all_yes {n : Nat} {p : Nat → Bool} (h : ∀ j, j < n → p j = true) : (List.range n).all p = true := by
  rw [List.all_eq_true]
  intro j hj
  exact h j (List.mem_range.1 hj)
theorem upto_succ {p : Nat → Bool} {k : Nat} (h : ∀ j, j < k → p j = true) (hk : p k = true) : ∀ j, j < k + 1 → p j = true := by
  intro j hj
  rcases Nat.lt_succ_iff_lt_or_eq.1 hj with h' | h'
  · exact h j h'
  · subst h'; exact hk

end Go.Proofs.YtbhmblkappmfjaaGreat
