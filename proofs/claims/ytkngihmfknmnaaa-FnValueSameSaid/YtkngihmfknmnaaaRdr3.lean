/- The reader of a drawn code over a list that is written out: one of it. -/
import Derived.Test.YtkngihmfknmnaaaRdr2
import Derived.Deep.AppendLies
namespace Go.Proofs.Ytkngihmfknmnaaa
open Go.RowKit Go.Deep

theorem cell_new_row (w : World) (cs : Array Value) (T : TypeId) (i : Nat) (u : Value) (h : cs.toList[i]? = some u) : (w.alloc (.cells cs T)).cell? ⟨w.heap.size, 0 + i, none⟩ = some u := by
  have := World.news_of_block (w := w.alloc (.cells cs T)) (B := w.heap.size) (cs := cs) (t := T) (fr := (0, 0)) (heap_alloc_new w _) i u h
  rw [Go.WideShapes.add_plain] at this
  exact this

theorem ofList_any (R p n : Nat) (l : List ByteArray) (cs : Array Value) (T : TypeId) (w : World) (h : RdAt w R p) (hp : p ≤ 1000000) (hcs : cs.toList = l.map Value.string) (hn : n = l.length) (h1 : 1 ≤ n) (h2 : n ≤ 1000) :
    Calls Try.prog 26 #[.pointer (some ⟨R, 0, none⟩), .slice (some ⟨w.heap.size, 0, none⟩) n n] (w.alloc (.cells cs T)) fun e w' => ∃ s, s ∈ l ∧ e = .returned (.string s) ∧ RdAt w' R (p + 1) ∧ Only R (R + 1) w w' := by
  have hlt := h.lt
  have hE : Ext w (w.alloc (.cells cs T)) := (Ext.refl _).alloc _
  refine (of_any R p w.heap.size 0 n n (fun i => l[i]?.getD ⟨#[]⟩) _ (h.ext hE) hp h1 h2 (by simp) (.inr hlt) (fun i hi => cell_new_row w cs T i _ ?_)).mono ?_
  · rw [hcs, List.getElem?_map, List.getElem?_eq_getElem (by omega)]; rfl
  · rintro e w' ⟨i, hi, rfl, hR, hO⟩
    refine ⟨l[i]?.getD ⟨#[]⟩, ?_, rfl, hR, (Only.of_ext hE).trans hO⟩
    rw [List.getElem?_eq_getElem (by omega)]
    exact List.getElem_mem _

theorem oneList_any (R p n : Nat) (l : List Int) (cs : Array Value) (T : TypeId) (w : World) (h : RdAt w R p) (hp : p ≤ 1000000) (hcs : cs.toList = l.map (Value.int .i64)) (hn : n = l.length) (h1 : 1 ≤ n) (h2 : n ≤ 1000) :
    Calls Try.prog 25 #[.pointer (some ⟨R, 0, none⟩), .slice (some ⟨w.heap.size, 0, none⟩) n n] (w.alloc (.cells cs T)) fun e w' => ∃ s, s ∈ l ∧ e = .returned (.int .i64 s) ∧ RdAt w' R (p + 1) ∧ Only R (R + 1) w w' := by
  have hlt := h.lt
  have hE : Ext w (w.alloc (.cells cs T)) := (Ext.refl _).alloc _
  refine (one_any R p w.heap.size 0 n n (fun i => l[i]?.getD 0) _ (h.ext hE) hp h1 h2 (by simp) (.inr hlt) (fun i hi => cell_new_row w cs T i _ ?_)).mono ?_
  · rw [hcs, List.getElem?_map, List.getElem?_eq_getElem (by omega)]; rfl
  · rintro e w' ⟨i, hi, rfl, hR, hO⟩
    refine ⟨l[i]?.getD 0, ?_, rfl, hR, (Only.of_ext hE).trans hO⟩
    rw [List.getElem?_eq_getElem (by omega)]
    exact List.getElem_mem _
end Go.Proofs.Ytkngihmfknmnaaa
