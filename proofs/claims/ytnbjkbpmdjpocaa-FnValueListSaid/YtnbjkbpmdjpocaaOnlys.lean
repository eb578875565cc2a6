/- Worlds of which some blocks alone have turned. -/
import Derived.Test.YtnbjkbpmdjpocaaValMem
namespace Go.Proofs.Ytnbjkbpmdjpocaa
open Go.RowKit Go.Deep

/-- Of what lay in w nothing but blocks lo to hi may have turned in w'. -/
structure Only (lo hi : Nat) (w w' : World) : Prop where
  os : w'.os = w.os
  tape : w'.tape = w.tape
  output : w'.output = w.output
  size : w.heap.size ≤ w'.heap.size
  block : ∀ b, b < w.heap.size → (b < lo ∨ hi ≤ b) → w'.heap[b]? = w.heap[b]?
theorem Only.refl (lo hi : Nat) (w : World) : Only lo hi w w := ⟨rfl, rfl, rfl, Nat.le_refl _, fun _ _ _ => rfl⟩
theorem Only.trans {lo hi : Nat} {a b c : World} (h : Only lo hi a b) (k : Only lo hi b c) : Only lo hi a c :=
  ⟨k.os.trans h.os, k.tape.trans h.tape, k.output.trans h.output, Nat.le_trans h.size k.size, fun i hi ho => (k.block i (Nat.lt_of_lt_of_le hi h.size) ho).trans (h.block i hi ho)⟩
theorem Only.of_ext {lo hi : Nat} {a b : World} (h : Ext a b) : Only lo hi a b := ⟨Below.os h, Below.tape h, Below.output h, Below.size h, fun i hi _ => Below.block h i hi⟩
theorem Only.mono {lo hi lo' hi' : Nat} {a b : World} (h : Only lo hi a b) (h1 : lo' ≤ lo) (h2 : hi ≤ hi') : Only lo' hi' a b := ⟨h.os, h.tape, h.output, h.size, fun i hi ho => h.block i hi (by omega)⟩
theorem Only.setCell {lo hi : Nat} {a b : World} (h : Only lo hi a b) {p : Addr} (h1 : lo ≤ p.block) (h2 : p.block < hi) (u : Value) : Only lo hi a (b.setCell p u) :=
  ⟨h.os, h.tape, h.output, by simpa using h.size, fun i hi ho => by rw [Below.heap_setCell _ _ _ _ (by omega)]; exact h.block i hi ho⟩
theorem Only.cell {lo hi : Nat} {a b : World} (h : Only lo hi a b) {p : Addr} (h1 : p.block < a.heap.size) (h2 : p.block < lo ∨ hi ≤ p.block) : b.cell? p = a.cell? p := by
  obtain ⟨pb, po, pf⟩ := p
  exact World.cell?_of_block (h.block _ h1 h2)
theorem ValIn.only {lo l0 h0 : Nat} {w w' : World} {x : V} {v : Value} (h : ValIn lo w x v) (e : Only l0 h0 w w') (hl : h0 ≤ lo) : ValIn lo w' x v := h.carry e.size (fun b h1 h2 => e.block b h2 (.inr (Nat.le_trans hl h1)))
theorem ListIn.only {lo l0 h0 : Nat} {w w' : World} {l : List V} {v : Value} (h : ListIn lo w l v) (e : Only l0 h0 w w') (hl : h0 ≤ lo) : ListIn lo w' l v := h.carry e.size (fun b h1 h2 => e.block b h2 (.inr (Nat.le_trans hl h1)))
theorem Only.alloc {lo hi : Nat} {a b : World} (h : Only lo hi a b) (o : Obj) : Only lo hi a (b.alloc o) := h.trans (.of_ext ((Ext.refl _).alloc o))
theorem Only.drew {lo hi : Nat} {a b : World} (h : Only lo hi a b) : Only lo hi a b.drew := h.trans (.of_ext (Ext.refl _).drew)
theorem Only.setNew {lo hi : Nat} {a b : World} (h : Only lo hi a b) {p : Addr} (hp : a.heap.size ≤ p.block) (u : Value) : Only lo hi a (b.setCell p u) :=
  ⟨h.os, h.tape, h.output, by simpa using h.size, fun i hi ho => by rw [Below.heap_setCell _ _ _ _ (by omega)]; exact h.block i hi ho⟩
/-- What is new may turn as it likes. -/
theorem Only.toExt {lo hi : Nat} {a b c : World} (h : Ext a b) (k : Only lo hi b c) (hl : a.heap.size ≤ lo) : Ext a c :=
  ⟨k.os.trans (Below.os h), k.tape.trans (Below.tape h), k.output.trans (Below.output h), Nat.le_trans (Below.size h) k.size, fun i hi => by rw [k.block i (Nat.lt_of_lt_of_le hi (Below.size h)) (.inl (by omega))]; exact Below.block h i hi⟩
end Go.Proofs.Ytnbjkbpmdjpocaa
