/- Memory of one's own: lists in blocks that are not frozen, none of them twice; a row that is being laid. -/
import Derived.Test.YteijgejpenlgjaaGreatDa
namespace Go.Proofs.YteijgejpenlgjaaGreat
open Go.RowKit Go.Deep

def New (a b : Nat) : Nat → Prop := fun x => a ≤ x ∧ x < b

/-- The cell v of d owns blocks of S: no list's block is another one's, none is frozen. -/
def Own (w : World) : D → (Nat → Prop) → Value → Prop
 | .list n len f, S, v => ∃ a cap b off, ∃ P : Nat → Nat → Nat → Prop, v = .slice a len cap ∧
   (0 < len → a = some ⟨b, off, none⟩ ∧ S b ∧ b < w.heap.size ∧ ∀ o, w.frozen? ⟨b, o, none⟩ = false) ∧
   (∀ i j, i < len → j < n → ∀ x, P i j x → S x ∧ x ≠ b) ∧
   (∀ i j i' j', i < len → j < n → i' < len → j' < n → ¬ (i = i' ∧ j = j') → ∀ x, P i j x → ¬ P i' j' x) ∧
   ∀ i, i < len → ∀ j, j < n → ∃ c, w.cell? ⟨b, off + i * n + j, none⟩ = some c ∧ Own w (f i j) (P i j) c
 | _, _, _ => True

theorem Own.carry {w w' : World} (hs : w.heap.size ≤ w'.heap.size) : ∀ {d : D} {S : Nat → Prop} {v : Value}, (∀ b, S b → b < w.heap.size → w'.heap[b]? = w.heap[b]?) → Own w d S v → Own w' d S v := by
 intro d
 induction d with
 | int n => intro S v _ _; exact trivial
 | bool b => intro S v _ _; exact trivial
 | str s => intro S v _ _; exact trivial
 | list n len f ih =>
  rintro S v hb ⟨a, cap, b, off, P, hv, ha, hP, hd, hc⟩
  refine ⟨a, cap, b, off, P, hv, fun h0 => ?_, hP, hd, fun i hi j hj => ?_⟩
  ·
   obtain ⟨h1, h2, h3, h4⟩ := ha h0
   exact ⟨h1, h2, Nat.lt_of_lt_of_le h3 hs, fun o => by rw [World.frozen?_of_block (hb b h2 h3)]; exact h4 o⟩
  ·
   obtain ⟨c, h1, h2⟩ := hc i hi j hj
   obtain ⟨_, h3, h4, _⟩ := ha (by omega)
   exact ⟨c, by rw [World.cell?_of_block (hb b h3 h4)]; exact h1, ih i j (fun x hx hl => hb x (hP i j hi hj x hx).1 hl) h2⟩
theorem Own.ext {w w' : World} {d : D} {S : Nat → Prop} {v : Value} (h : Own w d S v) (e : Ext w w') : Own w' d S v := h.carry e.le (fun b _ h2 => Below.block e b h2)
theorem Own.mono {S S' : Nat → Prop} (hl : ∀ x, S x → S' x) {w : World} {d : D} {v : Value} (h : Own w d S v) : Own w d S' v := by
 cases d with
 | list n len f =>
  obtain ⟨a, cap, b, off, P, hv, ha, hP, hd, hc⟩ := h
  exact ⟨a, cap, b, off, P, hv, fun h0 => ⟨(ha h0).1, hl _ (ha h0).2.1, (ha h0).2.2⟩, fun i j hi hj x hx => ⟨hl _ (hP i j hi hj x hx).1, (hP i j hi hj x hx).2⟩, hd, hc⟩
 | int _ => trivial
 | bool _ => trivial
 | str _ => trivial
theorem Own.setCell {S : Nat → Prop} {w : World} {d : D} {v : Value} (h : Own w d S v) {p : Addr} (hp : ¬ S p.block) (u : Value) : Own (w.setCell p u) d S v :=
 h.carry (by simp) (fun b h1 _ => Below.heap_setCell _ _ _ _ (fun e => hp (by rw [← e]; exact h1)))

/-- From block lo on nothing of w has turned in w'. -/
structure Keep (lo : Nat) (w w' : World) : Prop where
 size : w.heap.size ≤ w'.heap.size
 block : ∀ b, lo ≤ b → b < w.heap.size → w'.heap[b]? = w.heap[b]?
theorem Keep.refl (lo : Nat) (w : World) : Keep lo w w := ⟨Nat.le_refl _, fun _ _ _ => rfl⟩
theorem Keep.set {lo : Nat} {w w' : World} (h : Keep lo w w') {p : Addr} (hp : p.block < lo) (u : Value) : Keep lo w (w'.setCell p u) :=
 ⟨by simpa using h.size, fun b h1 h2 => by rw [Below.heap_setCell _ _ _ _ (by omega)]; exact h.block b h1 h2⟩
theorem Keep.ext {lo : Nat} {w w' w'' : World} (h : Keep lo w w') (e : Ext w' w'') : Keep lo w w'' :=
 ⟨Nat.le_trans h.size e.le, fun b h1 h2 => by rw [Below.block e b (Nat.lt_of_lt_of_le h2 h.size)]; exact h.block b h1 h2⟩
theorem DIn.keep {Q : Nat → Prop} {lo : Nat} {w w' : World} {d : D} {v : Value} (h : DIn Q w d v) (hq : ∀ x, Q x → lo ≤ x) (k : Keep lo w w') : DIn Q w' d v := h.carry k.size (fun b h1 h2 => k.block b (hq b h1) h2)
theorem Own.keep {Q : Nat → Prop} {lo : Nat} {w w' : World} {d : D} {v : Value} (h : Own w d Q v) (hq : ∀ x, Q x → lo ≤ x) (k : Keep lo w w') : Own w' d Q v := h.carry k.size (fun b h1 h2 => k.block b (hq b h1) h2)

/-- The cells from o on of block b, set one behind the other. -/
def setRow (w : World) (b o : Nat) : List Value → World
 | [] => w
 | u :: r => setRow (w.setCell ⟨b, o, none⟩ u) b (o + 1) r
theorem setRow_size (b : Nat) (us : List Value) : ∀ (w : World) (o : Nat), (setRow w b o us).heap.size = w.heap.size := by
 induction us with
 | nil => intro w o; rfl
 | cons u r ih => intro w o; show (setRow _ b (o + 1) r).heap.size = _; rw [ih]; simp
theorem setRow_other (b : Nat) (us : List Value) : ∀ (w : World) (o : Nat) (b' : Nat), b' ≠ b → (setRow w b o us).heap[b']? = w.heap[b']? := by
 induction us with
 | nil => intro w o b' _; rfl
 | cons u r ih => intro w o b' h; show (setRow _ b (o + 1) r).heap[b']? = _; rw [ih _ _ _ h]; exact Below.heap_setCell _ _ _ _ h
theorem setRow_ext {a w : World} (h : Ext a w) {b : Nat} (hb : a.heap.size ≤ b) (us : List Value) : ∀ (o : Nat), Ext a (setRow w b o us) := by
 induction us generalizing w with
 | nil => intro o; exact h
 | cons u r ih => intro o; exact ih (h.setCell hb u) (o + 1)
theorem setRow_row {B : Nat} {T : TypeId} {N : Nat} (us : List Value) : ∀ {w : World} {F : Nat → Value} (o : Nat), w.rowIs B T N F → (setRow w B o us).rowIs B T N (fun x => if o ≤ x ∧ x < o + us.length then us.getD (x - o) undef else F x) := by
 induction us with
 | nil => intro w F o h; exact h.congr (fun i _ => by rw [if_neg (by simp)])
 | cons u r ih =>
  intro w F o h
  refine (ih (o + 1) (h.set o u)).congr (fun i _ => ?_)
  by_cases h1 : i = o
  ·
   subst h1
   rw [if_neg (by omega), if_pos rfl, if_pos (by simp)]
   simp
  ·
   rw [if_neg h1]
   by_cases h2 : o + 1 ≤ i ∧ i < o + 1 + r.length
   ·
    rw [if_pos h2, if_pos (by simp; omega)]
    have : i - o = (i - (o + 1)) + 1 := by omega
    rw [this]
    rfl
   ·
    rw [if_neg h2, if_neg (by simp; omega)]

theorem at_lt {i j n k : Nat} (hi : i < k) (hj : j < n) : i * n + j < k * n := by
 have : (i + 1) * n ≤ k * n := Nat.mul_le_mul_right n hi
 rw [Nat.add_mul] at this
 omega

/-- A row at block B, its first k elements laid, each leaf in memory of its own behind it. -/
def TSt (w : World) (B : Nat) (T : TypeId) (n len : Nat) (f : Nat → Nat → D) (k : Nat) : Prop :=
 ∃ F : Nat → Value, ∃ P : Nat → Nat → Nat → Prop, w.rowIs B T (len * n) F ∧
  (∀ i, i < k → ∀ j, j < n → DIn (P i j) w (f i j) (F (i * n + j)) ∧ Own w (f i j) (P i j) (F (i * n + j)) ∧ ∀ x, P i j x → B < x ∧ x < w.heap.size) ∧
  (∀ i j i' j', i < k → j < n → i' < k → j' < n → ¬ (i = i' ∧ j = j') → ∀ x, P i j x → ¬ P i' j' x)

theorem TSt.row {w : World} {B : Nat} {T : TypeId} {n len : Nat} {f : Nat → Nat → D} {k : Nat} (h : TSt w B T n len f k) : ∃ F : Nat → Value, w.rowIs B T (len * n) F := by
 obtain ⟨F, _, h, _⟩ := h
 exact ⟨F, h⟩
theorem TSt.ext {w w' : World} {B : Nat} {T : TypeId} {n len : Nat} {f : Nat → Nat → D} {k : Nat} (h : TSt w B T n len f k) (e : Ext w w') : TSt w' B T n len f k := by
 obtain ⟨F, P, hr, hl, hd⟩ := h
 exact ⟨F, P, hr.of_block (Below.block e _ hr.lt), fun i hi j hj => ⟨(hl i hi j hj).1.ext e, (hl i hi j hj).2.1.ext e, fun x hx => ⟨((hl i hi j hj).2.2 x hx).1, Nat.lt_of_lt_of_le ((hl i hi j hj).2.2 x hx).2 e.le⟩⟩, hd⟩
theorem TSt.start {w : World} {B : Nat} {T : TypeId} {n len : Nat} {f : Nat → Nat → D} {F : Nat → Value} (h : w.rowIs B T (len * n) F) : TSt w B T n len f 0 :=
 ⟨F, fun _ _ _ => False, h, fun i hi => by omega, fun i _ _ _ hi => by omega⟩
theorem TSt.step {w w' : World} {B : Nat} {T : TypeId} {n len : Nat} {f : Nat → Nat → D} {k : Nat} (h : TSt w B T n len f k) (e : Ext w w') (us : List Value) (hu : us.length = n) (Q : Nat → Nat → Prop)
  (hq : ∀ j, j < n → DIn (Q j) w' (f k j) (us.getD j undef) ∧ Own w' (f k j) (Q j) (us.getD j undef) ∧ ∀ x, Q j x → w.heap.size ≤ x ∧ x < w'.heap.size)
  (hdq : ∀ j j', j < n → j' < n → j ≠ j' → ∀ x, Q j x → ¬ Q j' x) : TSt (setRow w' B (k * n) us) B T n len f (k + 1) := by
 have hB : B < w.heap.size := by obtain ⟨F, hr⟩ := h.row; exact hr.lt
 have carD : ∀ {S : Nat → Prop} {d : D} {v : Value}, (∀ x, S x → B < x) → DIn S w' d v → DIn S (setRow w' B (k * n) us) d v := fun hS h => h.carry (by rw [setRow_size]; exact Nat.le_refl _) (fun b hb _ => setRow_other _ _ _ _ _ (by have := hS b hb; omega))
 have carO : ∀ {S : Nat → Prop} {d : D} {v : Value}, (∀ x, S x → B < x) → Own w' d S v → Own (setRow w' B (k * n) us) d S v := fun hS h => h.carry (by rw [setRow_size]; exact Nat.le_refl _) (fun b hb _ => setRow_other _ _ _ _ _ (by have := hS b hb; omega))
 obtain ⟨F0, P0, hr0, hl0, hd0⟩ := h
 -- the elder elements' sets, in w: below w's size
 refine ⟨_, fun i j => if i = k then Q j else P0 i j, setRow_row us (k * n) (hr0.of_block (Below.block e _ hr0.lt)), fun i hi j hj => ?_, fun i j i' j' hi hj hi' hj' hne x hx => ?_⟩
 ·
  by_cases hik : i = k
  ·
   subst hik
   have := hq j hj
   have hb : ∀ x, Q j x → B < x := fun x hx => by have := (this.2.2 x hx).1; omega
   dsimp only
   rw [if_pos rfl, if_pos (by rw [hu]; omega)]
   have e2 : i * n + j - i * n = j := by omega
   rw [e2]
   exact ⟨carD hb this.1, carO hb this.2.1, fun x hx => ⟨hb x hx, by rw [setRow_size]; exact (this.2.2 x hx).2⟩⟩
  ·
   have hi2 : i < k := by omega
   have := hl0 i hi2 j hj
   have hlt := at_lt hi2 hj
   dsimp only
   rw [if_neg hik, if_neg (by omega)]
   exact ⟨carD (fun x hx => (this.2.2 x hx).1) (this.1.ext e), carO (fun x hx => (this.2.2 x hx).1) (this.2.1.ext e), fun x hx => ⟨(this.2.2 x hx).1, by rw [setRow_size]; exact Nat.lt_of_lt_of_le (this.2.2 x hx).2 e.le⟩⟩
 ·
  dsimp only at hx ⊢
  by_cases h1 : i = k <;> by_cases h2 : i' = k
  ·
   rw [if_pos h1] at hx
   rw [if_pos h2]
   exact hdq j j' hj hj' (fun h => hne ⟨by omega, h⟩) x hx
  ·
   rw [if_pos h1] at hx
   rw [if_neg h2]
   intro hx2
   have := ((hl0 i' (by omega) j' hj').2.2 x hx2).2
   have := ((hq j hj).2.2 x hx).1
   omega
  ·
   rw [if_neg h1] at hx
   rw [if_pos h2]
   intro hx2
   have := ((hl0 i (by omega) j hj).2.2 x hx).2
   have := ((hq j' hj').2.2 x hx2).1
   omega
  ·
   rw [if_neg h1] at hx
   rw [if_neg h2]
   exact hd0 i j i' j' (by omega) hj (by omega) hj' hne x hx
theorem TSt.end {w : World} {B : Nat} {T : TypeId} {n len : Nat} {f : Nat → Nat → D} (h : TSt w B T n len f len) (hl : len ≤ maxLen) (cap : Nat) (S : Nat → Prop) (hS : ∀ x, B ≤ x → x < w.heap.size → S x) :
  DIn S w (.list n len f) (.slice (some ⟨B, 0, none⟩) len cap) ∧ Own w (.list n len f) S (.slice (some ⟨B, 0, none⟩) len cap) := by
 obtain ⟨F, P, hr, hv, hd⟩ := h
 have hB := hr.lt
 constructor
 ·
  refine ⟨_, _, B, 0, rfl, hl, fun _ => ⟨rfl, hS B (Nat.le_refl _) hB, hB⟩, fun i hi j hj => ⟨F (i * n + j), ?_, (hv i hi j hj).1.mono (fun x hx => hS x (by have := ((hv i hi j hj).2.2 x hx).1; omega) ((hv i hi j hj).2.2 x hx).2)⟩⟩
  rw [Nat.zero_add]; exact hr.cell (at_lt hi hj)
 ·
  refine ⟨_, _, B, 0, P, rfl, fun _ => ⟨rfl, hS B (Nat.le_refl _) hB, hB, fun o => hr.frozen o⟩, fun i j hi hj x hx => ⟨hS x (by have := ((hv i hi j hj).2.2 x hx).1; omega) ((hv i hi j hj).2.2 x hx).2, by have := ((hv i hi j hj).2.2 x hx).1; omega⟩, hd, fun i hi j hj => ⟨F (i * n + j), ?_, (hv i hi j hj).2.1⟩⟩
  rw [Nat.zero_add]; exact hr.cell (at_lt hi hj)
end Go.Proofs.YteijgejpenlgjaaGreat
