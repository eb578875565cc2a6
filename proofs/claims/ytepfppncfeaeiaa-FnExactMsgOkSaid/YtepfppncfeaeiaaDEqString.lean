/- What the laws' functions eq.. answer of two that lie in memory as the same: true. -/
import Derived.Test.YtepfppncfeaeiaaDat
import Derived.BigRegion
import Derived.Deep.RegionWith
namespace Go.Proofs.Ytepfppncfeaeiaa
open Go.RowKit Go.Deep

def EqD (F : FuncId) (d : D) : Prop := ∀ (S S2 : Nat → Prop) (u v : Value) (w : World), DIn S w d u → DIn S2 w d v →
  Calls Try.prog F #[u, v] w fun e w' => e = .returned (.bool true) ∧ Ext w w'
theorem box2_fst {w W : World} {cs cs2 : Array Value} {T T2 : TypeId} (h : Ext ((w.alloc (.cells cs T)).alloc (.cells cs2 T2)) W) (j : Nat) (c : Value) (hc : cs[j]? = some c) : W.cell? ⟨w.heap.size, j, none⟩ = some c :=
  box_cell (((Ext.refl _).alloc _).trans h) j c hc
theorem box2_snd {w W : World} {cs cs2 : Array Value} {T T2 : TypeId} (h : Ext ((w.alloc (.cells cs T)).alloc (.cells cs2 T2)) W) (j : Nat) (c : Value) (hc : cs2[j]? = some c) : W.cell? ⟨w.heap.size + 1, j, none⟩ = some c := by
  have := box_cell h j c hc
  simpa using this

end Go.Proofs.Ytepfppncfeaeiaa
