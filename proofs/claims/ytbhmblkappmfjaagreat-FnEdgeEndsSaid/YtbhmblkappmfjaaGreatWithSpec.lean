/- What spec.l2Has and spec.l2With answer. -/
import Derived.Test.YtbhmblkappmfjaaGreatDGrow
import Derived.Test.YtbhmblkappmfjaaGreatDa
namespace Go.Proofs.YtbhmblkappmfjaaGreat
open Go.RowKit Go.Deep

/-- Numbers, as data. -/
def intsF (l : List Int) : Nat → Nat → D := fun i _ => .int (l.getD i 0)
def intsD (l : List Int) : D := .list 1 l.length (intsF l)
theorem intsF_push (l : List Int) (x : Int) : ∀ i, i < l.length → ∀ j, intsF (l ++ [x]) i j = intsF l i j := by
  intro i hi j
  simp [intsF, List.getD_eq_getElem?_getD, List.getElem?_append_left hi]
theorem intsF_last (l : List Int) (x : Int) (j : Nat) : intsF (l ++ [x]) l.length j = .int x := by
  simp [intsF, List.getD_eq_getElem?_getD]
theorem GSt.congr {w : World} {base : Nat} {T : TypeId} {n : Nat} {f g : Nat → Nat → D} {k : Nat} {u : Value} {cs : List Value} (h : GSt w base T n f k u cs) (e : ∀ i, i < k → ∀ j, g i j = f i j) : GSt w base T n g k u cs := by
  obtain ⟨hr, P, hl, hd⟩ := h
  exact ⟨hr, P, fun i hi j hj => by rw [e i hi j]; exact hl i hi j hj, hd⟩
theorem GSt.made (w : World) (base : Nat) (T : TypeId) (n : Nat) (f : Nat → Nat → D) (hb : base ≤ w.heap.size) : GSt (w.alloc (.cells #[] T)) base T n f 0 (.slice (some ⟨w.heap.size, 0, none⟩) 0 0) [] :=
  ⟨World.ownsRow_made w #[] 0 hb (Nat.zero_le _) (by simp), fun _ _ _ => False, fun i hi => by omega, fun i _ _ _ hi => by omega⟩
/-- One number more. -/
theorem GSt.int_push {w w0 w1 w3 : World} {base : Nat} {T : TypeId} {l : List Int} {u v' : Value} {cs : List Value} {x : Int} (h : GSt w0 base T 1 (intsF l) l.length u cs) (e : Ext w0 w1) (hb : base ≤ w0.heap.size) (hx : (Lit.int .i64 x).wf = true) (hown : w3.ownsRow base T 1 v' (l.length + 1) (cs ++ [.int .i64 x])) (hg : w1.grownBy w3 u.ownBlock) (hloc : v'.ownBlock = u.ownBlock ∨ v'.ownBlock = some w1.heap.size) (hw : w = w0) :
    GSt w3 base T 1 (intsF (l ++ [x])) (l ++ [x]).length v' (cs ++ [.int .i64 x]) := by
  subst hw
  have h' : GSt w base T 1 (intsF (l ++ [x])) l.length u cs := h.congr (fun i hi j => intsF_push l x i hi j)
  rw [List.length_append, List.length_singleton]
  refine h'.push e hb [.int .i64 x] rfl (fun _ _ => False) (fun j hj => ?_) (fun j j' _ _ _ y hy => hy.elim) hown hg hloc
  obtain rfl : j = 0 := by omega
  rw [intsF_last]
  exact ⟨⟨rfl, hx⟩, trivial, fun y hy => hy.elim⟩

end Go.Proofs.YtbhmblkappmfjaaGreat
