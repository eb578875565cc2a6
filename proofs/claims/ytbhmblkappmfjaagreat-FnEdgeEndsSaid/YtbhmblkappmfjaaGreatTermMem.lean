/- Terms as they lie in memory: an interface value of the type of its kind; a list's terms behind one another. -/
import Derived.Test.YtbhmblkappmfjaaGreatVa
import Derived.Maps.AppendAt
namespace Go.Proofs.YtbhmblkappmfjaaGreat
open Go.RowKit Go.Deep

/-- The interface value t lies in w as the term of x; all blocks that it goes through have S. -/
inductive TermIn (S : Nat → Prop) (w : World) : V → Value → Prop
  | null (n : Int) (t : ByteArray) (l : List V) : TermIn S w (.mk 0 n t l) (.iface 134 (.agg #[]))
  | bool (n : Int) (t : ByteArray) (l : List V) : TermIn S w (.mk 1 n t l) (.iface 143 (.int .i64 n))
  | num (n : Int) (t : ByteArray) (l : List V) : TermIn S w (.mk 2 n t l) (.iface 144 (.int .i64 n))
  | text (n : Int) (t : ByteArray) (l : List V) : TermIn S w (.mk 3 n t l) (.iface 145 (.string t))
  | list (n : Int) (t : ByteArray) (l : List V) (a : Option Addr) (cap b off : Nat) (c : Nat → Value) (hl : l.length ≤ 6)
    (ha : 0 < l.length → a = some ⟨b, off, none⟩ ∧ S b ∧ b < w.heap.size) (hc : ∀ i, i < l.length → w.cell? ⟨b, off + i, none⟩ = some (c i))
    (hv : ∀ i (hi : i < l.length), TermIn S w l[i] (c i)) : TermIn S w (.mk 4 n t l) (.iface 138 (.slice a l.length cap))
  | node (n : Int) (t : ByteArray) (l : List V) : TermIn S w (.mk 5 n t l) (.iface 135 (.int .i64 n))
  | edge (n : Int) (t : ByteArray) (l : List V) : TermIn S w (.mk 6 n t l) (.iface 136 (.int .i64 n))

/-- The slice u lies in w as the terms of l. -/
def TermsIn (S : Nat → Prop) (w : World) (l : List V) (u : Value) : Prop :=
  ∃ (a : Option Addr) (cap b off : Nat) (c : Nat → Value), u = .slice a l.length cap ∧ l.length ≤ 6 ∧ (0 < l.length → a = some ⟨b, off, none⟩ ∧ S b ∧ b < w.heap.size) ∧
    (∀ i, i < l.length → w.cell? ⟨b, off + i, none⟩ = some (c i)) ∧ ∀ i (hi : i < l.length), TermIn S w l[i] (c i)

theorem TermIn.of_list {S : Nat → Prop} {w : World} {n : Int} {t : ByteArray} {l : List V} {u : Value} (h : TermsIn S w l u) : TermIn S w (.mk 4 n t l) (.iface 138 u) := by
  obtain ⟨a, cap, b, off, c, rfl, h1, h2, h3, h4⟩ := h
  exact .list n t l a cap b off c h1 h2 h3 h4
theorem TermIn.shape {S : Nat → Prop} {w : World} {x : V} {t : Value} (h : TermIn S w x t) : ∃ ty y, t = .iface ty y := by
  cases h <;> exact ⟨_, _, rfl⟩
theorem TermIn.carry {S S' : Nat → Prop} {w w' : World} (hs : w.heap.size ≤ w'.heap.size) (hS : ∀ b, S b → b < w.heap.size → S' b) (hb : ∀ b, S b → b < w.heap.size → w'.heap[b]? = w.heap[b]?) {x : V} {t : Value} (h : TermIn S w x t) : TermIn S' w' x t := by
  induction h with
  | list n t l a cap b off c hl ha hc hv ih =>
    refine .list n t l a cap b off c hl (fun h0 => ⟨(ha h0).1, hS b (ha h0).2.1 (ha h0).2.2, Nat.lt_of_lt_of_le (ha h0).2.2 hs⟩) (fun i hi => ?_) ih
    have h0 := ha (by omega)
    rw [World.cell?_of_block (hb b h0.2.1 h0.2.2)]
    exact hc i hi
  | null n t l => exact .null n t l
  | bool n t l => exact .bool n t l
  | num n t l => exact .num n t l
  | text n t l => exact .text n t l
  | node n t l => exact .node n t l
  | edge n t l => exact .edge n t l
theorem TermIn.ext {S : Nat → Prop} {w w' : World} {x : V} {t : Value} (h : TermIn S w x t) (e : Ext w w') : TermIn S w' x t := h.carry e.le (fun _ h _ => h) (fun b _ h2 => Below.block e b h2)
theorem TermIn.mono {S S' : Nat → Prop} {w : World} {x : V} {t : Value} (h : TermIn S w x t) (hS : ∀ b, S b → b < w.heap.size → S' b) : TermIn S' w x t := h.carry (Nat.le_refl _) hS (fun _ _ _ => rfl)

theorem len_beq (n : Nat) : ((n : Int) == 0) = (n == 0) := by
  rw [Bool.eq_iff_iff]; simp

theorem rest_mk (k n : Int) (t : ByteArray) (l : List V) : restB (.mk k n t l) = (((k == 1 || k == 2 || k == 5 || k == 6) || n == 0) && (k == 3 || t.toList == []) && (k == 4 || l.length == 0)) := rfl

set_option maxHeartbeats 1000000 in
theorem rest_any (x : V) (lo : Nat) (v : Value) (w : World) (hv : ValIn lo w x v) :
    Calls Tryz.prog 86 #[v] w fun e w' => e = .returned (.bool (restB x)) ∧ Ext w w' := by
  obtain ⟨k, n, t, l⟩ := x
  obtain ⟨a, cap, rfl, wk, wn, ht, hl, hL⟩ := hv.open
  clear wk wn hL hv
  rw [rest_mk]
  by_cases h1 : k = 1
  · subst h1
    go_enter Tryz.func86, Tryz.ntmps86
    go_wp2
    all_goals go_ret
    all_goals exact ⟨ret_bool (by first | (simp [*]; done) | (simp [*]; exact len_beq _)), (Ext.refl _).alloc _⟩
  by_cases h2 : k = 2
  · subst h2
    go_enter Tryz.func86, Tryz.ntmps86
    go_wp2
    all_goals go_ret
    all_goals exact ⟨ret_bool (by first | (simp [*]; done) | (simp [*]; exact len_beq _)), (Ext.refl _).alloc _⟩
  by_cases h3 : k = 3
  · subst h3
    go_enter Tryz.func86, Tryz.ntmps86
    go_wp2
    all_goals go_ret
    all_goals exact ⟨ret_bool (by first | (simp [*]; done) | (simp [*]; exact len_beq _)), (Ext.refl _).alloc _⟩
  by_cases h4 : k = 4
  · subst h4
    go_enter Tryz.func86, Tryz.ntmps86
    go_wp2
    all_goals go_ret
    all_goals exact ⟨ret_bool (by first | (simp [*]; done) | (simp [*]; exact len_beq _)), (Ext.refl _).alloc _⟩
  by_cases h5 : k = 5
  · subst h5
    go_enter Tryz.func86, Tryz.ntmps86
    go_wp2
    all_goals go_ret
    all_goals exact ⟨ret_bool (by first | (simp [*]; done) | (simp [*]; exact len_beq _)), (Ext.refl _).alloc _⟩
  by_cases h6 : k = 6
  · subst h6
    go_enter Tryz.func86, Tryz.ntmps86
    go_wp2
    all_goals go_ret
    all_goals exact ⟨ret_bool (by first | (simp [*]; done) | (simp [*]; exact len_beq _)), (Ext.refl _).alloc _⟩
  have e1 : (k == 1) = false := by simp [h1]
  have e2 : (k == 2) = false := by simp [h2]
  have e3 : (k == 3) = false := by simp [h3]
  have e4 : (k == 4) = false := by simp [h4]
  have e5 : (k == 5) = false := by simp [h5]
  have e6 : (k == 6) = false := by simp [h6]
  clear h1 h2 h3 h4 h5 h6
  go_enter Tryz.func86, Tryz.ntmps86
  go_wp2
  all_goals go_ret
  all_goals exact ⟨ret_bool (by first | (simp [*]; done) | (simp [*]; exact len_beq _)), (Ext.refl _).alloc _⟩
end Go.Proofs.YtbhmblkappmfjaaGreat
