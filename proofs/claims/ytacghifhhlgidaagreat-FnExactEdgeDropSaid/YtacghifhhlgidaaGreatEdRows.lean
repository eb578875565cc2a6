/- The rows of a net from which an edge is taken. -/
import Derived.Test.YtacghifhhlgidaaGreatEdDef
import Derived.Test.YtacghifhhlgidaaGreatEdN
import Derived.Test.YtacghifhhlgidaaGreatNetEnd
namespace Go.Proofs.YtacghifhhlgidaaGreat
open Go.RowKit Go.Deep

theorem RowsS.drop {w : World} {N : NetD} {S : Nat → Prop} {j : MI} {n : Nat} {f : Nat → Nat → D} {len k : Nat} (h : RowsS w N S j n f len) (hk : k < len) : RowsS w N S j n (dropF f k) (len - 1) := by
  obtain ⟨P, h0, h1, h2⟩ := h
  refine ⟨fun i => if i < k then P i else P (i + 1), h0, fun i hi => ?_, fun i c i' c' hi hc hi' hc' hne x hx => ?_⟩
  · unfold dropF
    dsimp only
    split
    · exact h1 i (by omega)
    · exact h1 (i + 1) (by omega)
  · dsimp only at hx ⊢
    by_cases e1 : i < k <;> by_cases e2 : i' < k
    · rw [if_pos e1] at hx; rw [if_pos e2]; exact h2 i c i' c' (by omega) hc (by omega) hc' hne x hx
    · rw [if_pos e1] at hx; rw [if_neg e2]; exact h2 i c (i' + 1) c' (by omega) hc (by omega) hc' (by omega) x hx
    · rw [if_neg e1] at hx; rw [if_pos e2]; exact h2 (i + 1) c i' c' (by omega) hc (by omega) hc' (by omega) x hx
    · rw [if_neg e1] at hx; rw [if_neg e2]; exact h2 (i + 1) c (i' + 1) c' (by omega) hc (by omega) hc' (by omega) x hx
theorem dropN_ln (N : NetD) (id x y : Int) (u1 u2 u3 : Value) : (dropN N id x y u1 u2 u3).lists .n = N.lists .n := by simp [dropN, NetD.setr, NetD.put, NetD.del, upd, ownRow]
theorem dropN_le (N : NetD) (id x y : Int) (u1 u2 u3 : Value) : (dropN N id x y u1 u2 u3).lists .e = less (N.lists .e) id := by simp [dropN, NetD.setr, NetD.put, NetD.del, upd, ownRow]
theorem dropN_kn (N : NetD) (id x y : Int) (u1 u2 u3 : Value) : (dropN N id x y u1 u2 u3).keys .n = N.keys .n := by simp [dropN, NetD.setr, NetD.put, NetD.del, upd]
theorem dropN_ke (N : NetD) (id x y : Int) (u1 u2 u3 : Value) : (dropN N id x y u1 u2 u3).keys .e = less (N.keys .e) id := by simp [dropN, NetD.setr, NetD.put, NetD.del, upd]
theorem dropN_vn (N : NetD) (id x y : Int) (u1 u2 u3 : Value) : (dropN N id x y u1 u2 u3).val .n = N.val .n := by simp [dropN, NetD.setr, NetD.put, NetD.del, upd]
theorem dropN_ve (N : NetD) (id x y : Int) (u1 u2 u3 : Value) : (dropN N id x y u1 u2 u3).val .e = N.val .e := by simp [dropN, NetD.setr, NetD.put, NetD.del, upd]
theorem dropN_nn (N : NetD) (id x y : Int) (u1 u2 u3 : Value) : (dropN N id x y u1 u2 u3).nb = N.nb ∧ (dropN N id x y u1 u2 u3).nn = N.nn ∧ (dropN N id x y u1 u2 u3).ne = N.ne := ⟨rfl, rfl, rfl⟩
/-- An edge of the rows: its cells. -/
theorem RowsS.edge {w : World} {N : NetD} {S : Nat → Prop} {f : Nat → Nat → D} {len k : Nat} (h : RowsS w N S .e 5 f len) (hk : k < len) (HR : HasRow 5 (f k)) :
    ∃ z s x y a l c, N.val .e (f k 0).int! = .agg #[.int .i64 z, .string s, .int .i64 x, .int .i64 y, .slice a l c] ∧ (Lit.int .i64 x).wf = true ∧ (Lit.int .i64 y).wf = true ∧ (Lit.int .i64 (f k 0).int!).wf = true := by
  obtain ⟨P, h0, h1, h2⟩ := h
  obtain ⟨C, hv, hc⟩ := h1 k hk
  obtain ⟨z, e0⟩ := (show Has (f k 0) .int from HR 0 (by decide)).int
  obtain ⟨s, e1⟩ := (show Has (f k 1) .str from HR 1 (by decide)).str
  obtain ⟨x, e2⟩ := (show Has (f k 2) .int from HR 2 (by decide)).int
  obtain ⟨y, e3⟩ := (show Has (f k 3) .int from HR 3 (by decide)).int
  have a0 := (hc 0 (by decide)).1
  have a1 := (hc 1 (by decide)).1
  have a2 := (hc 2 (by decide)).1
  have a3 := (hc 3 (by decide)).1
  have a4 := (hc 4 (by decide)).1
  rw [e0] at a0
  rw [e1] at a1
  rw [e2] at a2
  rw [e3] at a3
  obtain ⟨b0, w0⟩ := a0.int_eq
  obtain ⟨b1, _⟩ := a1.str_eq
  obtain ⟨b2, w2⟩ := a2.int_eq
  obtain ⟨b3, w3⟩ := a3.int_eq
  obtain ⟨a, cap, l, _, _, b4, _, _⟩ := list_shape (r := 3) (show Has (f k 4) (.list 3) from HR 4 (by decide)) a4
  refine ⟨z, s, x, y, a, l, cap, ?_, w2, w3, by rw [e0]; exact w0⟩
  rw [hv, ← b0, ← b1, ← b2, ← b3, ← b4]
  rfl
end Go.Proofs.YtacghifhhlgidaaGreat
