/- What spec.l2Has and spec.l2With answer. -/
import Derived.Test.YteijgejpenlgjaaGreatDGrow
import Derived.Test.YteijgejpenlgjaaGreatDa
namespace Go.Proofs.YteijgejpenlgjaaGreat
open Go.RowKit Go.Deep

theorem GSt.congr {w : World} {base : Nat} {T : TypeId} {n : Nat} {f g : Nat → Nat → D} {k : Nat} {u : Value} {cs : List Value} (h : GSt w base T n f k u cs) (e : ∀ i, i < k → ∀ j, g i j = f i j) : GSt w base T n g k u cs := by
 obtain ⟨hr, P, hl, hd⟩ := h
 exact ⟨hr, P, fun i hi j hj => by rw [e i hi j]; exact hl i hi j hj, hd⟩
theorem GSt.made (w : World) (base : Nat) (T : TypeId) (n : Nat) (f : Nat → Nat → D) (hb : base ≤ w.heap.size) : GSt (w.alloc (.cells #[] T)) base T n f 0 (.slice (some ⟨w.heap.size, 0, none⟩) 0 0) [] :=
 ⟨World.ownsRow_made w #[] 0 hb (Nat.zero_le _) (by simp), fun _ _ _ => False, fun i hi => by omega, fun i _ _ _ hi => by omega⟩
end Go.Proofs.YteijgejpenlgjaaGreat
