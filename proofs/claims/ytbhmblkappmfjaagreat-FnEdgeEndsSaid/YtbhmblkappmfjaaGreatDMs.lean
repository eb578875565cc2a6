/- Marks: what data are when each number, text and yes or no within has been turned into a mark, one behind the other; a row that is being marked. -/
import Derived.Test.YtbhmblkappmfjaaGreatDa
import Derived.Laws.BytesArg
namespace Go.Proofs.YtbhmblkappmfjaaGreat
open Go.RowKit Go.Deep

/-- Of what lay in w nothing but blocks of S may have turned in w'. -/
structure OnlyS (S : Nat → Prop) (w w' : World) : Prop where
  os : w'.os = w.os
  tape : w'.tape = w.tape
  output : w'.output = w.output
  size : w.heap.size ≤ w'.heap.size
  block : ∀ b, b < w.heap.size → ¬ S b → w'.heap[b]? = w.heap[b]?
theorem OnlyS.refl (S : Nat → Prop) (w : World) : OnlyS S w w := ⟨rfl, rfl, rfl, Nat.le_refl _, fun _ _ _ => rfl⟩
theorem OnlyS.trans {S : Nat → Prop} {a b c : World} (h : OnlyS S a b) (k : OnlyS S b c) : OnlyS S a c :=
  ⟨k.os.trans h.os, k.tape.trans h.tape, k.output.trans h.output, Nat.le_trans h.size k.size, fun i hi ho => (k.block i (Nat.lt_of_lt_of_le hi h.size) ho).trans (h.block i hi ho)⟩
theorem OnlyS.of_ext {S : Nat → Prop} {a b : World} (h : Ext a b) : OnlyS S a b := ⟨Below.os h, Below.tape h, Below.output h, Below.size h, fun i hi _ => Below.block h i hi⟩
theorem OnlyS.mono {S S' : Nat → Prop} (hS : ∀ x, S x → S' x) {a b : World} (h : OnlyS S a b) : OnlyS S' a b := ⟨h.os, h.tape, h.output, h.size, fun i hi ho => h.block i hi (fun h' => ho (hS i h'))⟩
theorem OnlyS.setCell {S : Nat → Prop} {a b : World} (h : OnlyS S a b) {p : Addr} (hp : S p.block) (u : Value) : OnlyS S a (b.setCell p u) :=
  ⟨h.os, h.tape, h.output, by simpa using h.size, fun i hi ho => by rw [Below.heap_setCell _ _ _ _ (fun e => ho (by rw [e]; exact hp))]; exact h.block i hi ho⟩
/-- What is new may turn as it likes. -/
theorem OnlyS.toExt {S : Nat → Prop} {a b c : World} (h : Ext a b) (k : OnlyS S b c) (hl : ∀ x, S x → a.heap.size ≤ x) : Ext a c :=
  ⟨k.os.trans (Below.os h), k.tape.trans (Below.tape h), k.output.trans (Below.output h), Nat.le_trans (Below.size h) k.size, fun i hi => by
    rw [k.block i (Nat.lt_of_lt_of_le hi (Below.size h)) (fun h' => by have := hl i h'; omega)]; exact Below.block h i hi⟩
theorem DIn.only {Q S : Nat → Prop} {w w' : World} {d : D} {v : Value} (h : DIn Q w d v) (k : OnlyS S w w') (hq : ∀ x, Q x → ¬ S x) : DIn Q w' d v := h.carry k.size (fun b h1 h2 => k.block b h2 (hq b h1))
theorem Own.only {Q S : Nat → Prop} {w w' : World} {d : D} {v : Value} (h : Own w d Q v) (k : OnlyS S w w') (hq : ∀ x, Q x → ¬ S x) : Own w' d Q v := h.carry k.size (fun b h1 h2 => k.block b h2 (hq b h1))

/-- A number's figures ahead of a text. -/
def digM (m : Int) (acc : ByteArray) : ByteArray :=
  if 0 < m then digM (m / 10) (strOfNums [48 + m % 10] ++ acc) else acc
termination_by m.toNat
decreasing_by omega
/-- The mark of a number. -/
def markM (k : Int) : ByteArray := if k ≤ 0 then ⟨#[109, 48]⟩ else ⟨#[109]⟩ ++ digM k ⟨#[]⟩
/-- How many marks a cell's data take. -/
def cntD : D → Nat
  | .list n len f => sumN (fun i => sumN (fun j => cntD (f i j)) n) len
  | _ => 1
/-- The mark at which leaf j of element i begins. -/
def preK (n : Nat) (f : Nat → Nat → D) (k0 i j : Nat) : Nat := k0 + sumN (fun i' => sumN (fun j' => cntD (f i' j')) n) i + sumN (fun j' => cntD (f i j')) j
/-- Data, marked from k on. -/
def markD : D → Nat → D
  | .int _, k => .int k
  | .bool _, k => .bool (k % 3 == 0)
  | .str _, k => .str (markM k)
  | .list n len f, k => .list n len fun i j => markD (f i j) (k + sumN (fun i' => sumN (fun j' => cntD (f i' j')) n) i + sumN (fun j' => cntD (f i j')) j)
/-- A cell, marked. -/
def mkCell : D → Nat → Value → Value
  | .int _, k, _ => .int .i64 k
  | .bool _, k, _ => .bool (k % 3 == 0)
  | .str _, k, _ => .string (markM k)
  | .list _ _ _, _, v => v
/-- Leaf j' of element i comes ahead of leaf j of element k. -/
def bef (i j' k j : Nat) : Bool := decide (i < k ∨ i = k ∧ j' < j)

/-- A row that is being marked: all ahead of leaf j of element k is. -/
structure MSt (S : Nat → Prop) (b off n len : Nat) (f : Nat → Nat → D) (P : Nat → Nat → Nat → Prop) (G : Nat → Nat → Value) (k0 : Nat) (w0 w : World) (k j : Nat) : Prop where
  only : OnlyS S w0 w
  lt : b < w.heap.size
  frz : ∀ o, w.frozen? ⟨b, o, none⟩ = false
  row : ∀ i, i < len → ∀ j', j' < n → w.cell? ⟨b, off + i * n + j', none⟩ = some (if bef i j' k j then mkCell (f i j') (preK n f k0 i j') (G i j') else G i j')
  past : ∀ i, i < len → ∀ j', j' < n → bef i j' k j = true → DIn (P i j') w (markD (f i j') (preK n f k0 i j')) (mkCell (f i j') (preK n f k0 i j') (G i j'))
  fut : ∀ i, i < len → ∀ j', j' < n → bef i j' k j = false → Own w (f i j') (P i j') (G i j')

theorem MSt.ext {S : Nat → Prop} {b off n len : Nat} {f : Nat → Nat → D} {P : Nat → Nat → Nat → Prop} {G : Nat → Nat → Value} {k0 : Nat} {w0 w w' : World} {k j : Nat} (h : MSt S b off n len f P G k0 w0 w k j) (e : Ext w w') : MSt S b off n len f P G k0 w0 w' k j :=
  ⟨h.only.trans (.of_ext e), Nat.lt_of_lt_of_le h.lt e.le, fun o => by rw [World.frozen?_of_block (Below.block e b h.lt)]; exact h.frz o, fun i hi j' hj' => by rw [e.cell h.lt]; exact h.row i hi j' hj',
   fun i hi j' hj' hb => (h.past i hi j' hj' hb).ext e, fun i hi j' hj' hb => (h.fut i hi j' hj' hb).ext e⟩
theorem bef_next {i j' k n : Nat} (hj' : j' < n) : bef i j' (k + 1) 0 = bef i j' k n := by
  simp only [bef]
  congr 1
  apply propext
  omega
theorem MSt.next {S : Nat → Prop} {b off n len : Nat} {f : Nat → Nat → D} {P : Nat → Nat → Nat → Prop} {G : Nat → Nat → Value} {k0 : Nat} {w0 w : World} {k : Nat} (h : MSt S b off n len f P G k0 w0 w k n) : MSt S b off n len f P G k0 w0 w (k + 1) 0 :=
  ⟨h.only, h.lt, h.frz, fun i hi j' hj' => by rw [bef_next hj']; exact h.row i hi j' hj', fun i hi j' hj' hb => h.past i hi j' hj' (by rw [← bef_next hj']; exact hb), fun i hi j' hj' hb => h.fut i hi j' hj' (by rw [← bef_next hj']; exact hb)⟩
end Go.Proofs.YtbhmblkappmfjaaGreat

/- What laws.markText answers: the mark of a number. -/
namespace Go.Proofs.YtbhmblkappmfjaaGreat
open Go.RowKit Go.Deep

end Go.Proofs.YtbhmblkappmfjaaGreat

/- What the laws' functions mark.. do: a list is marked, and its own memory alone turns. -/
namespace Go.Proofs.YtbhmblkappmfjaaGreat
open Go.RowKit Go.Deep

/-- No list within is longer than lists may be. -/
def LenOk : D → Prop
  | .list n len f => len ≤ maxLen ∧ ∀ i, i < len → ∀ j, j < n → LenOk (f i j)
  | _ => True
theorem LenOk.len {d : D} (h : LenOk d) : d.len! ≤ maxLen := by
  cases d with
  | list n len f => exact h.1
  | _ => exact Nat.zero_le _

end Go.Proofs.YtbhmblkappmfjaaGreat

/- How many marks data take. -/
namespace Go.Proofs.YtbhmblkappmfjaaGreat
open Go.RowKit Go.Deep

end Go.Proofs.YtbhmblkappmfjaaGreat
