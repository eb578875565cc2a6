/- Values as they lie in memory: a value of four cells, its list's values behind one another. -/
import Derived.Test.YtbhmblkappmfjaaGreatBase
namespace Go.Proofs.YtbhmblkappmfjaaGreat
open Go.RowKit Go.Deep

inductive V where
  | mk (kind num : Int) (text : ByteArray) (list : List V)

def V.kind : V → Int | .mk k _ _ _ => k
def V.num : V → Int | .mk _ n _ _ => n
def V.text : V → ByteArray | .mk _ _ t _ => t
def V.list : V → List V | .mk _ _ _ l => l

theorem V.ind {P : V → Prop} (h : ∀ k n t l, (∀ i (hi : i < l.length), P l[i]) → P (.mk k n t l)) : ∀ x, P x := by
  intro x
  induction x using V.rec (motive_2 := fun l => ∀ i (hi : i < l.length), P l[i]) with
  | mk k n t l ih => exact h k n t l ih
  | nil i hi => simp at hi
  | cons a r ha hr i hi => cases i with
    | zero => exact ha
    | succ i => exact hr i (by simpa using hi)

/-- The value v lies in w as x; all blocks that it goes through are at least lo. -/
inductive ValIn (lo : Nat) (w : World) : V → Value → Prop
  | mk (kind num : Int) (text : ByteArray) (l : List V) (a : Option Addr) (cap b off : Nat) (c0 c1 c2 c3 : Nat → Value)
    (hk : (Lit.int .i64 kind).wf = true) (hn : (Lit.int .i64 num).wf = true) (ht : text.size ≤ maxLen) (hl : l.length ≤ maxLen)
    (ha : 0 < l.length → a = some ⟨b, off, none⟩ ∧ lo ≤ b ∧ b < w.heap.size)
    (hc : ∀ i, i < l.length → w.cell? ⟨b, off + i * 4, none⟩ = some (c0 i) ∧ w.cell? ⟨b, off + i * 4 + 1, none⟩ = some (c1 i) ∧ w.cell? ⟨b, off + i * 4 + 2, none⟩ = some (c2 i) ∧ w.cell? ⟨b, off + i * 4 + 3, none⟩ = some (c3 i))
    (hv : ∀ i (hi : i < l.length), ValIn lo w l[i] (.agg #[c0 i, c1 i, c2 i, c3 i])) :
    ValIn lo w (.mk kind num text l) (.agg #[.int .i64 kind, .int .i64 num, .string text, .slice a l.length cap])

/-- The slice v lies in w as the list l. -/
def ListIn (lo : Nat) (w : World) (l : List V) (v : Value) : Prop :=
  ∃ (a : Option Addr) (cap b off : Nat) (c0 c1 c2 c3 : Nat → Value), v = .slice a l.length cap ∧ l.length ≤ maxLen ∧ (0 < l.length → a = some ⟨b, off, none⟩ ∧ lo ≤ b ∧ b < w.heap.size) ∧
    (∀ i, i < l.length → w.cell? ⟨b, off + i * 4, none⟩ = some (c0 i) ∧ w.cell? ⟨b, off + i * 4 + 1, none⟩ = some (c1 i) ∧ w.cell? ⟨b, off + i * 4 + 2, none⟩ = some (c2 i) ∧ w.cell? ⟨b, off + i * 4 + 3, none⟩ = some (c3 i)) ∧
    (∀ i (hi : i < l.length), ValIn lo w l[i] (.agg #[c0 i, c1 i, c2 i, c3 i]))

theorem ValIn.open {lo : Nat} {w : World} {kind num : Int} {text : ByteArray} {l : List V} {v : Value} (h : ValIn lo w (.mk kind num text l) v) :
    ∃ a cap, v = .agg #[.int .i64 kind, .int .i64 num, .string text, .slice a l.length cap] ∧ (Lit.int .i64 kind).wf = true ∧ (Lit.int .i64 num).wf = true ∧ text.size ≤ maxLen ∧ l.length ≤ maxLen ∧ ListIn lo w l (.slice a l.length cap) := by
  cases h with
  | mk _ _ _ _ a cap b off c0 c1 c2 c3 hk hn ht hl ha hc hv => exact ⟨a, cap, rfl, hk, hn, ht, hl, a, cap, b, off, c0, c1, c2, c3, rfl, hl, ha, hc, hv⟩

theorem ValIn.shape {lo : Nat} {w : World} {x : V} {v : Value} (h : ValIn lo w x v) : ∃ kk nn tt aa ll cc, v = .agg #[.int .i64 kk, .int .i64 nn, .string tt, .slice aa ll cc] := by
  cases h with
  | mk _ _ _ _ a cap b off c0 c1 c2 c3 hk hn ht hl ha hc hv => exact ⟨_, _, _, _, _, _, rfl⟩
theorem ValIn.of_list {lo : Nat} {w : World} {kind num : Int} {text : ByteArray} {l : List V} {u : Value} (hk : (Lit.int .i64 kind).wf = true) (hn : (Lit.int .i64 num).wf = true) (ht : text.size ≤ maxLen) (h : ListIn lo w l u) :
    ValIn lo w (.mk kind num text l) (.agg #[.int .i64 kind, .int .i64 num, .string text, u]) := by
  obtain ⟨a, cap, b, off, c0, c1, c2, c3, rfl, hl, ha, hc, hv⟩ := h
  exact .mk kind num text l a cap b off c0 c1 c2 c3 hk hn ht hl ha hc hv

theorem ValIn.carry {lo : Nat} {w w' : World} (hs : w.heap.size ≤ w'.heap.size) (hb : ∀ b, lo ≤ b → b < w.heap.size → w'.heap[b]? = w.heap[b]?) {x : V} {v : Value} (h : ValIn lo w x v) : ValIn lo w' x v := by
  induction h with
  | mk kind num text l a cap b off c0 c1 c2 c3 hk hn ht hl ha hc hv ih =>
    refine .mk kind num text l a cap b off c0 c1 c2 c3 hk hn ht hl (fun h0 => ⟨(ha h0).1, (ha h0).2.1, Nat.lt_of_lt_of_le (ha h0).2.2 hs⟩) (fun i hi => ?_) ih
    have h0 := ha (by omega)
    have e : ∀ o, w'.cell? ⟨b, o, none⟩ = w.cell? ⟨b, o, none⟩ := fun o => World.cell?_of_block (hb b h0.2.1 h0.2.2)
    simp only [e]
    exact hc i hi
theorem ListIn.carry {lo : Nat} {w w' : World} (hs : w.heap.size ≤ w'.heap.size) (hb : ∀ b, lo ≤ b → b < w.heap.size → w'.heap[b]? = w.heap[b]?) {l : List V} {v : Value} (h : ListIn lo w l v) : ListIn lo w' l v := by
  obtain ⟨a, cap, b, off, c0, c1, c2, c3, rfl, hl, ha, hc, hv⟩ := h
  refine ⟨a, cap, b, off, c0, c1, c2, c3, rfl, hl, fun h0 => ⟨(ha h0).1, (ha h0).2.1, Nat.lt_of_lt_of_le (ha h0).2.2 hs⟩, fun i hi => ?_, fun i hi => (hv i hi).carry hs hb⟩
  have h0 := ha (by omega)
  have e : ∀ o, w'.cell? ⟨b, o, none⟩ = w.cell? ⟨b, o, none⟩ := fun o => World.cell?_of_block (hb b h0.2.1 h0.2.2)
  simp only [e]
  exact hc i hi
theorem ValIn.ext {lo : Nat} {w w' : World} {x : V} {v : Value} (h : ValIn lo w x v) (e : Ext w w') : ValIn lo w' x v := h.carry e.le (fun b _ h2 => Below.block e b h2)
theorem ListIn.ext {lo : Nat} {w w' : World} {l : List V} {v : Value} (h : ListIn lo w l v) (e : Ext w w') : ListIn lo w' l v := h.carry e.le (fun b _ h2 => Below.block e b h2)
theorem ValIn.mono {lo lo' : Nat} (hl : lo' ≤ lo) {w : World} {x : V} {v : Value} (h : ValIn lo w x v) : ValIn lo' w x v := by
  induction h with
  | mk kind num text l a cap b off c0 c1 c2 c3 hk hn ht hl2 ha hc hv ih =>
    exact .mk kind num text l a cap b off c0 c1 c2 c3 hk hn ht hl2 (fun h0 => ⟨(ha h0).1, Nat.le_trans hl (ha h0).2.1, (ha h0).2.2⟩) hc ih
theorem ListIn.mono {lo lo' : Nat} (hl : lo' ≤ lo) {w : World} {l : List V} {v : Value} (h : ListIn lo w l v) : ListIn lo' w l v := by
  obtain ⟨a, cap, b, off, c0, c1, c2, c3, rfl, hl2, ha, hc, hv⟩ := h
  exact ⟨a, cap, b, off, c0, c1, c2, c3, rfl, hl2, fun h0 => ⟨(ha h0).1, Nat.le_trans hl (ha h0).2.1, (ha h0).2.2⟩, hc, fun i hi => (hv i hi).mono hl⟩

/-- One value of a list: its address, its four cells, what it is. -/
theorem ListIn.at {lo : Nat} {w : World} {l : List V} {v : Value} (h : ListIn lo w l v) (hp : 0 < l.length) : ∃ cap b off, v = .slice (some ⟨b, off, none⟩) l.length cap ∧ lo ≤ b ∧ b < w.heap.size ∧
    ∀ i (hi : i < l.length), ∃ c0 c1 c2 c3, w.cell? ⟨b, off + i * 4, none⟩ = some c0 ∧ w.cell? ⟨b, off + i * 4 + 1, none⟩ = some c1 ∧ w.cell? ⟨b, off + i * 4 + 2, none⟩ = some c2 ∧ w.cell? ⟨b, off + i * 4 + 3, none⟩ = some c3 ∧ ValIn lo w l[i] (.agg #[c0, c1, c2, c3]) := by
  obtain ⟨a, cap, b, off, c0, c1, c2, c3, rfl, hl, ha, hc, hv⟩ := h
  obtain ⟨rfl, h1, h2⟩ := ha hp
  exact ⟨cap, b, off, rfl, h1, h2, fun i hi => ⟨c0 i, c1 i, c2 i, c3 i, (hc i hi).1, (hc i hi).2.1, (hc i hi).2.2.1, (hc i hi).2.2.2, hv i hi⟩⟩

/-- No list within x is longer than a million. -/
inductive Small : V → Prop
  | mk (k n : Int) (t : ByteArray) (l : List V) (h : l.length ≤ 1048576) (hs : ∀ i (hi : i < l.length), Small l[i]) : Small (.mk k n t l)
end Go.Proofs.YtbhmblkappmfjaaGreat
