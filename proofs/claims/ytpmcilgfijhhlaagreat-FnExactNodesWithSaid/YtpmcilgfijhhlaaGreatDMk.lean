/- Marks: what data are when each number, text and yes or no within has been turned into a mark, one behind the other; a row that is being marked. -/
import Derived.Test.YtpmcilgfijhhlaaGreatDOwn
import Derived.Laws.BytesArg
import Derived.Test.YtpmcilgfijhhlaaGreatDAcc
import Derived.Deep.RegionHeld3
namespace Go.Proofs.YtpmcilgfijhhlaaGreat
open Go.RowKit Go.Deep

/-- Of what lay in w nothing but blocks of S may have turned in w'. -/
structure OnlyS (S : Nat → Prop) (w w' : World) : Prop where
  os : w'.os = w.os
  tape : w'.tape = w.tape
  output : w'.output = w.output
  size : w.heap.size ≤ w'.heap.size
  block : ∀ b, b < w.heap.size → ¬ S b → w'.heap[b]? = w.heap[b]?
theorem OnlyS.refl (S : Nat → Prop) (w : World) : OnlyS S w w := ⟨rfl, rfl, rfl, Nat.le_refl _, fun _ _ _ => rfl⟩
theorem OnlyS.trans {S : Nat → Prop} {a b c : World} (h : OnlyS S a b) (k : OnlyS S b c) : OnlyS S a c :=
  ⟨k.os.trans h.os, k.tape.trans h.tape, k.output.trans h.output, Nat.le_trans h.size k.size, fun i hi ho => (k.block i (Nat.lt_of_lt_of_le hi h.size) ho).trans (h.block i hi ho)⟩
theorem OnlyS.of_ext {S : Nat → Prop} {a b : World} (h : Ext a b) : OnlyS S a b := ⟨Below.os h, Below.tape h, Below.output h, Below.size h, fun i hi _ => Below.block h i hi⟩
theorem OnlyS.mono {S S' : Nat → Prop} (hS : ∀ x, S x → S' x) {a b : World} (h : OnlyS S a b) : OnlyS S' a b := ⟨h.os, h.tape, h.output, h.size, fun i hi ho => h.block i hi (fun h' => ho (hS i h'))⟩
theorem OnlyS.setCell {S : Nat → Prop} {a b : World} (h : OnlyS S a b) {p : Addr} (hp : S p.block) (u : Value) : OnlyS S a (b.setCell p u) :=
  ⟨h.os, h.tape, h.output, by simpa using h.size, fun i hi ho => by rw [Below.heap_setCell _ _ _ _ (fun e => ho (by rw [e]; exact hp))]; exact h.block i hi ho⟩
/-- What is new may turn as it likes. -/
theorem OnlyS.toExt {S : Nat → Prop} {a b c : World} (h : Ext a b) (k : OnlyS S b c) (hl : ∀ x, S x → a.heap.size ≤ x) : Ext a c :=
  ⟨k.os.trans (Below.os h), k.tape.trans (Below.tape h), k.output.trans (Below.output h), Nat.le_trans (Below.size h) k.size, fun i hi => by
    rw [k.block i (Nat.lt_of_lt_of_le hi (Below.size h)) (fun h' => by have := hl i h'; omega)]; exact Below.block h i hi⟩
theorem DIn.only {Q S : Nat → Prop} {w w' : World} {d : D} {v : Value} (h : DIn Q w d v) (k : OnlyS S w w') (hq : ∀ x, Q x → ¬ S x) : DIn Q w' d v := h.carry k.size (fun b h1 h2 => k.block b h2 (hq b h1))
theorem Own.only {Q S : Nat → Prop} {w w' : World} {d : D} {v : Value} (h : Own w d Q v) (k : OnlyS S w w') (hq : ∀ x, Q x → ¬ S x) : Own w' d Q v := h.carry k.size (fun b h1 h2 => k.block b h2 (hq b h1))

/-- A number's figures ahead of a text. -/
def digM (m : Int) (acc : ByteArray) : ByteArray :=
  if 0 < m then digM (m / 10) (strOfNums [48 + m % 10] ++ acc) else acc
termination_by m.toNat
decreasing_by omega
/-- The mark of a number. -/
def markM (k : Int) : ByteArray := if k ≤ 0 then ⟨#[109, 48]⟩ else ⟨#[109]⟩ ++ digM k ⟨#[]⟩
theorem digM_size : ∀ (n : Nat) (m : Int) (acc : ByteArray), m.toNat ≤ n → ((digM m acc).size : Int) ≤ acc.size + m.toNat := by
  intro n
  induction n with
  | zero =>
    intro m acc h
    rw [digM, if_neg (by omega)]
    omega
  | succ n ih =>
    intro m acc h
    rw [digM]
    by_cases hm : 0 < m
    · rw [if_pos hm]
      have := ih (m / 10) (strOfNums [48 + m % 10] ++ acc) (by omega)
      have h1 : (strOfNums [48 + m % 10] ++ acc).size = 1 + acc.size := by rw [ByteArray.size_append]; rfl
      rw [h1] at this
      omega
    · rw [if_neg hm]
      omega
theorem markM_size (k : Int) (h : k ≤ 1000000000) : (markM k).size ≤ 1048576 * 1048576 := by
  unfold markM
  by_cases hk : k ≤ 0
  · rw [if_pos hk]
    exact (by decide : 2 ≤ 1048576 * 1048576)
  · rw [if_neg hk, ByteArray.size_append]
    have := digM_size k.toNat k ⟨#[]⟩ (Nat.le_refl _)
    have e1 : (⟨#[109]⟩ : ByteArray).size = 1 := rfl
    have e2 : (⟨#[]⟩ : ByteArray).size = 0 := rfl
    rw [e2] at this
    rw [e1]
    omega

/-- How many marks a cell's data take. -/
def cntD : D → Nat
  | .list n len f => sumN (fun i => sumN (fun j => cntD (f i j)) n) len
  | _ => 1
/-- The mark at which leaf j of element i begins. -/
def preK (n : Nat) (f : Nat → Nat → D) (k0 i j : Nat) : Nat := k0 + sumN (fun i' => sumN (fun j' => cntD (f i' j')) n) i + sumN (fun j' => cntD (f i j')) j
/-- Data, marked from k on. -/
def markD : D → Nat → D
  | .int _, k => .int k
  | .bool _, k => .bool (k % 3 == 0)
  | .str _, k => .str (markM k)
  | .list n len f, k => .list n len fun i j => markD (f i j) (k + sumN (fun i' => sumN (fun j' => cntD (f i' j')) n) i + sumN (fun j' => cntD (f i j')) j)
/-- A cell, marked. -/
def mkCell : D → Nat → Value → Value
  | .int _, k, _ => .int .i64 k
  | .bool _, k, _ => .bool (k % 3 == 0)
  | .str _, k, _ => .string (markM k)
  | .list _ _ _, _, v => v
theorem preK_zero (n : Nat) (f : Nat → Nat → D) (k0 : Nat) : preK n f k0 0 0 = k0 := rfl
theorem preK_succ (n : Nat) (f : Nat → Nat → D) (k0 i j : Nat) : preK n f k0 i (j + 1) = preK n f k0 i j + cntD (f i j) := by simp only [preK, sumN]; omega
theorem preK_next (n : Nat) (f : Nat → Nat → D) (k0 i : Nat) : preK n f k0 (i + 1) 0 = preK n f k0 i n := by simp only [preK, sumN]; omega
theorem preK_end (n len : Nat) (f : Nat → Nat → D) (k0 : Nat) : preK n f k0 len 0 = k0 + cntD (.list n len f) := by simp only [preK, sumN, cntD]; omega
theorem preK_le {n len : Nat} {f : Nat → Nat → D} {k0 i j : Nat} (hi : i < len) (hj : j ≤ n) : preK n f k0 i j ≤ k0 + cntD (.list n len f) := by
  have h1 : sumN (fun j' => cntD (f i j')) j ≤ sumN (fun j' => cntD (f i j')) n := sumN_mono _ hj
  have h2 : sumN (fun i' => sumN (fun j' => cntD (f i' j')) n) (i + 1) ≤ sumN (fun i' => sumN (fun j' => cntD (f i' j')) n) len := sumN_mono _ hi
  simp only [sumN] at h2
  simp only [preK, cntD]
  omega

/-- Leaf j' of element i comes ahead of leaf j of element k. -/
def bef (i j' k j : Nat) : Bool := decide (i < k ∨ i = k ∧ j' < j)

/-- Which blocks a row's leaves own. -/
structure MOk (S : Nat → Prop) (b n len : Nat) (P : Nat → Nat → Nat → Prop) : Prop where
  sb : S b
  inS : ∀ i j, i < len → j < n → ∀ x, P i j x → S x ∧ x ≠ b
  disj : ∀ i j i' j', i < len → j < n → i' < len → j' < n → ¬ (i = i' ∧ j = j') → ∀ x, P i j x → ¬ P i' j' x
/-- A row that is being marked: all ahead of leaf j of element k is. -/
structure MSt (S : Nat → Prop) (b off n len : Nat) (f : Nat → Nat → D) (P : Nat → Nat → Nat → Prop) (G : Nat → Nat → Value) (k0 : Nat) (w0 w : World) (k j : Nat) : Prop where
  only : OnlyS S w0 w
  lt : b < w.heap.size
  frz : ∀ o, w.frozen? ⟨b, o, none⟩ = false
  row : ∀ i, i < len → ∀ j', j' < n → w.cell? ⟨b, off + i * n + j', none⟩ = some (if bef i j' k j then mkCell (f i j') (preK n f k0 i j') (G i j') else G i j')
  past : ∀ i, i < len → ∀ j', j' < n → bef i j' k j = true → DIn (P i j') w (markD (f i j') (preK n f k0 i j')) (mkCell (f i j') (preK n f k0 i j') (G i j'))
  fut : ∀ i, i < len → ∀ j', j' < n → bef i j' k j = false → Own w (f i j') (P i j') (G i j')

theorem at_inj {i j k j' n : Nat} (hj : j < n) (hj' : j' < n) (h : i * n + j = k * n + j') : i = k ∧ j = j' := by
  have h1 : (i * n + j) / n = i := by rw [Nat.mul_comm, Nat.mul_add_div (by omega), Nat.div_eq_of_lt hj]; omega
  have h2 : (k * n + j') / n = k := by rw [Nat.mul_comm, Nat.mul_add_div (by omega), Nat.div_eq_of_lt hj']; omega
  rw [h, h2] at h1
  subst h1
  omega
theorem bef_succ {i j' k j : Nat} : bef i j' k (j + 1) = (bef i j' k j || decide (i = k ∧ j' = j)) := by
  simp only [bef, ← Bool.decide_or]
  congr 1
  apply propext
  omega
theorem bef_self {k j : Nat} : bef k j k j = false := by simp [bef]

theorem MSt.ext {S : Nat → Prop} {b off n len : Nat} {f : Nat → Nat → D} {P : Nat → Nat → Nat → Prop} {G : Nat → Nat → Value} {k0 : Nat} {w0 w w' : World} {k j : Nat} (h : MSt S b off n len f P G k0 w0 w k j) (e : Ext w w') : MSt S b off n len f P G k0 w0 w' k j :=
  ⟨h.only.trans (.of_ext e), Nat.lt_of_lt_of_le h.lt e.le, fun o => by rw [World.frozen?_of_block (Below.block e b h.lt)]; exact h.frz o, fun i hi j' hj' => by rw [e.cell h.lt]; exact h.row i hi j' hj',
   fun i hi j' hj' hb => (h.past i hi j' hj' hb).ext e, fun i hi j' hj' hb => (h.fut i hi j' hj' hb).ext e⟩
/-- A number, a text, a yes or no is marked. -/
theorem MSt.scal {S : Nat → Prop} {b off n len : Nat} {f : Nat → Nat → D} {P : Nat → Nat → Nat → Prop} {G : Nat → Nat → Value} {k0 : Nat} {w0 w : World} {k j : Nat} (o : MOk S b n len P) (h : MSt S b off n len f P G k0 w0 w k j) (hk : k < len) (hj : j < n)
    (hd : ∀ W, DIn (P k j) W (markD (f k j) (preK n f k0 k j)) (mkCell (f k j) (preK n f k0 k j) (G k j))) : MSt S b off n len f P G k0 w0 (w.setCell ⟨b, off + k * n + j, none⟩ (mkCell (f k j) (preK n f k0 k j) (G k j))) k (j + 1) := by
  have hnb : ∀ i, i < len → ∀ j', j' < n → ¬ P i j' b := fun i hi j' hj' hx => (o.inS i j' hi hj' b hx).2 rfl
  refine ⟨h.only.setCell o.sb _, by simpa using h.lt, fun x => by rw [World.frozen?_setCell]; exact h.frz x, fun i hi j' hj' => ?_, fun i hi j' hj' hb => ?_, fun i hi j' hj' hb => ?_⟩
  · by_cases he : i = k ∧ j' = j
    · obtain ⟨rfl, rfl⟩ := he
      have hb : bef i j' i (j' + 1) = true := by rw [bef_succ]; simp
      rw [hb, if_pos rfl]
      exact World.cell?_setCell_same _ _ _ (h.row i hi j' hj')
    · have hne : ¬ off + k * n + j = off + i * n + j' := fun h' => he (by have := at_inj (i := k) (k := i) hj hj' (by omega); omega)
      have hb : bef i j' k (j + 1) = bef i j' k j := by rw [bef_succ]; simp [he]
      rw [hb, World.cell?_setCell_other w (a := ⟨b, off + k * n + j, none⟩) (b := ⟨b, off + i * n + j', none⟩) (v := mkCell (f k j) (preK n f k0 k j) (G k j)) (fun h' => hne (congrArg Addr.off h'))]
      exact h.row i hi j' hj'
  · by_cases he : i = k ∧ j' = j
    · obtain ⟨rfl, rfl⟩ := he
      exact hd _
    · have hb' : bef i j' k j = true := by rw [bef_succ] at hb; simpa [he] using hb
      exact (h.past i hi j' hj' hb').setCell (hnb i hi j' hj') _
  · have hb' : bef i j' k j = false := by rw [bef_succ] at hb; simp at hb; exact hb.1
    exact (h.fut i hi j' hj' hb').setCell (hnb i hi j' hj') _
/-- A list within is marked. -/
theorem MSt.lst {S : Nat → Prop} {b off n len : Nat} {f : Nat → Nat → D} {P : Nat → Nat → Nat → Prop} {G : Nat → Nat → Value} {k0 : Nat} {w0 w w' : World} {k j : Nat} (o : MOk S b n len P) (h : MSt S b off n len f P G k0 w0 w k j) (hk : k < len) (hj : j < n)
    (hm : mkCell (f k j) (preK n f k0 k j) (G k j) = G k j) (ho : OnlyS (P k j) w w') (hd : DIn (P k j) w' (markD (f k j) (preK n f k0 k j)) (G k j)) : MSt S b off n len f P G k0 w0 w' k (j + 1) := by
  have hnb : ¬ P k j b := fun hx => (o.inS k j hk hj b hx).2 rfl
  have eb := ho.block b h.lt hnb
  refine ⟨h.only.trans (ho.mono fun x hx => (o.inS k j hk hj x hx).1), Nat.lt_of_lt_of_le h.lt ho.size, fun x => by rw [World.frozen?_of_block eb]; exact h.frz x, fun i hi j' hj' => ?_, fun i hi j' hj' hb => ?_, fun i hi j' hj' hb => ?_⟩
  · rw [World.cell?_of_block eb]
    by_cases he : i = k ∧ j' = j
    · obtain ⟨rfl, rfl⟩ := he
      have hb : bef i j' i (j' + 1) = true := by rw [bef_succ]; simp
      have hr := h.row i hi j' hj'
      rw [bef_self] at hr
      rw [hb, if_pos rfl, hm]
      simpa using hr
    · have hb : bef i j' k (j + 1) = bef i j' k j := by rw [bef_succ]; simp [he]
      rw [hb]
      exact h.row i hi j' hj'
  · by_cases he : i = k ∧ j' = j
    · obtain ⟨rfl, rfl⟩ := he
      rw [hm]
      exact hd
    · have hb' : bef i j' k j = true := by rw [bef_succ] at hb; simpa [he] using hb
      exact (h.past i hi j' hj' hb').only ho (fun x hx hx2 => o.disj i j' k j hi hj' hk hj he x hx hx2)
  · have hb' : bef i j' k j = false := by rw [bef_succ] at hb; simp at hb; exact hb.1
    have he : ¬ (i = k ∧ j' = j) := fun h' => by rw [bef_succ] at hb; simp [h'] at hb
    exact (h.fut i hi j' hj' hb').only ho (fun x hx hx2 => o.disj i j' k j hi hj' hk hj he x hx hx2)
theorem bef_next {i j' k n : Nat} (hj' : j' < n) : bef i j' (k + 1) 0 = bef i j' k n := by
  simp only [bef]
  congr 1
  apply propext
  omega
theorem MSt.next {S : Nat → Prop} {b off n len : Nat} {f : Nat → Nat → D} {P : Nat → Nat → Nat → Prop} {G : Nat → Nat → Value} {k0 : Nat} {w0 w : World} {k : Nat} (h : MSt S b off n len f P G k0 w0 w k n) : MSt S b off n len f P G k0 w0 w (k + 1) 0 :=
  ⟨h.only, h.lt, h.frz, fun i hi j' hj' => by rw [bef_next hj']; exact h.row i hi j' hj', fun i hi j' hj' hb => h.past i hi j' hj' (by rw [← bef_next hj']; exact hb), fun i hi j' hj' hb => h.fut i hi j' hj' (by rw [← bef_next hj']; exact hb)⟩
theorem MSt.start {w : World} {S : Nat → Prop} {n len : Nat} {f : Nat → Nat → D} {v : Value} (h : Own w (.list n len f) S v) (hl : 0 < len) (k0 : Nat) : ∃ cap b off P G, v = .slice (some ⟨b, off, none⟩) len cap ∧ MOk S b n len P ∧ MSt S b off n len f P G k0 w w 0 0 := by
  obtain ⟨a, cap, b, off, P, rfl, ha, hP, hd, hc⟩ := h
  obtain ⟨rfl, h1, h2, h3⟩ := ha hl
  have hb0 : ∀ i j', bef i j' 0 0 = false := fun i j' => by simp [bef]
  refine ⟨cap, b, off, P, fun i j => if hij : i < len ∧ j < n then Classical.choose (hc i hij.1 j hij.2) else undef, rfl, ⟨h1, fun i j hi hj x hx => hP i j hi hj x hx, hd⟩, ⟨OnlyS.refl _ _, h2, h3, fun i hi j hj => ?_, fun i hi j hj hb => ?_, fun i hi j hj hb => ?_⟩⟩
  · rw [hb0]
    rw [dif_pos ⟨hi, hj⟩]
    simpa using (Classical.choose_spec (hc i hi j hj)).1
  · rw [hb0] at hb; cases hb
  · rw [dif_pos ⟨hi, hj⟩]
    exact (Classical.choose_spec (hc i hi j hj)).2
theorem MSt.fin {S : Nat → Prop} {b off n len : Nat} {f : Nat → Nat → D} {P : Nat → Nat → Nat → Prop} {G : Nat → Nat → Value} {k0 : Nat} {w0 w : World} (o : MOk S b n len P) (h : MSt S b off n len f P G k0 w0 w len 0) (hl : len ≤ maxLen) (cap : Nat) :
    DIn S w (markD (.list n len f) k0) (.slice (some ⟨b, off, none⟩) len cap) := by
  refine ⟨_, cap, b, off, rfl, hl, fun _ => ⟨rfl, o.sb, h.lt⟩, fun i hi j hj => ?_⟩
  have hb : bef i j len 0 = true := by simp [bef]; omega
  have hr := h.row i hi j hj
  rw [hb, if_pos rfl] at hr
  exact ⟨_, hr, (h.past i hi j hj hb).mono fun x hx => (o.inS i j hi hj x hx).1⟩
/-- Of a list without anything nothing is marked. -/
theorem mark_nil {S : Nat → Prop} {w : World} {n len : Nat} {f : Nat → Nat → D} {v : Value} (h : Own w (.list n len f) S v) (hl : len = 0) (k0 : Nat) : DIn S w (markD (.list n len f) k0) v := by
  subst hl
  obtain ⟨a, cap, b, off, P, rfl, _⟩ := h
  exact ⟨a, cap, b, off, rfl, Nat.zero_le _, fun h => by omega, fun i hi => by omega⟩
theorem mk_int {Q : Nat → Prop} {W : World} {x : Int} {p : Nat} {v : Value} (h : p ≤ 1000000000) : DIn Q W (markD (.int x) p) (mkCell (.int x) p v) := ⟨rfl, by simp [Lit.wf, IntKind.min, IntKind.max, IntKind.signed, IntKind.bits]; omega⟩
theorem mk_bool {Q : Nat → Prop} {W : World} {x : Bool} {p : Nat} {v : Value} : DIn Q W (markD (.bool x) p) (mkCell (.bool x) p v) := rfl
theorem mk_str {Q : Nat → Prop} {W : World} {x : ByteArray} {p : Nat} {v : Value} (h : p ≤ 1000000000) : DIn Q W (markD (.str x) p) (mkCell (.str x) p v) := ⟨rfl, by have := markM_size p (by omega); unfold maxLen; omega⟩
end Go.Proofs.YtpmcilgfijhhlaaGreat

/- What laws.markText answers: the mark of a number. -/
namespace Go.Proofs.YtpmcilgfijhhlaaGreat
open Go.RowKit Go.Deep

set_option maxRecDepth 100000 in
set_option maxHeartbeats 1000000 in
theorem markText_mark (k : Int) (w : World) (h0 : 0 ≤ k) (h1 : k ≤ 1000000000) :
    Calls Tryz.prog 45 #[.int .i64 k] w fun e w' => e = .returned (.string (markM k)) ∧ Ext w w' := by
  by_cases hk : k ≤ 0
  · have hfin : Hid (markM k = ⟨#[109, 48]⟩) := by show _ = _; rw [markM, if_pos hk]
    go_enter Tryz.func45, Tryz.ntmps45
    go_wp2
    go_ret
    exact ⟨ret_str hfin.out.symm, Ext.refl _⟩
  · have hfin : Hid (markM k = ⟨#[109]⟩ ++ digM k ⟨#[]⟩) := by show _ = _; rw [markM, if_neg hk]
    go_enter Tryz.func45, Tryz.ntmps45
    go_wp2
    go_loopw [0, 3] (fun n o wr => ∃ (m : Int) (s : ByteArray), n = .int .i64 m ∧ o = .string s ∧ 0 ≤ m ∧ m ≤ 1000000000 ∧ (s.size : Int) + m ≤ 1000000000 ∧ Ext w wr ∧ digM m s = digM k ⟨#[]⟩) (fun n _ _ => (intOf n).toNat)
    case atStart => exact ⟨k, _, rfl, rfl, h0, h1, by show ((0 : Nat) : Int) + k ≤ _; omega, Ext.refl _, rfl⟩
    case round =>
      obtain ⟨m, s, rfl, rfl, hm0, hm1, hsz, hE, hd⟩ := hrel
      by_cases hm : 0 < m
      · have hcv := run_convert_bytes_arg (P := Tryz.prog) (wr.alloc (.cells #[.int .u8 (48 + m % 10)] 5)) 111 5 Tryz.underlying111 Tryz.underlying5 wr.heap.size 0 1 1 [48 + m % 10] rfl (fun i hi => by
          have : i = 0 := by omega
          subst this
          simp) 9 Tryz.underlying9
        have hs1 : (strOfNums [48 + m % 10]).size = 1 := rfl
        have HD : Hid (digM (m / 10) (strOfNums [48 + m % 10] ++ s) = digM k ⟨#[]⟩) := by show _ = _; rw [← hd, digM.eq_1 m, if_pos hm]
        clear hd
        generalize strOfNums [48 + m % 10] = s1 at hcv hs1 HD
        go_wp2
        go_roundw
        case rel => exact ⟨m / 10, s1 ++ s, rfl, rfl, by omega, by omega, by rw [ByteArray.size_append]; omega, hE.alloc _, HD.out⟩
        case measure => simp [intOf]; omega
      · have HD : Hid (s = digM k ⟨#[]⟩) := by show _ = _; rw [← hd, digM, if_neg hm]
        clear hd
        go_wp2
        go_ret
        exact ⟨ret_str (by rw [hfin.out, ← HD.out]), hE⟩
end Go.Proofs.YtpmcilgfijhhlaaGreat

/- What the laws' functions mark.. do: a list is marked, and its own memory alone turns. -/
namespace Go.Proofs.YtpmcilgfijhhlaaGreat
open Go.RowKit Go.Deep

/-- Marks a list from K on: its own memory alone turns. -/
def MkD (F : FuncId) (d : D) : Prop := ∀ (S : Nat → Prop) (v : Value) (w : World) (K : Nat) (k : Int), k = K → Own w d S v → d.len! ≤ maxLen → K + cntD d ≤ 1000000000 →
  Calls Tryz.prog F #[v, .int .i64 k] w fun e w' => e = .returned (.int .i64 (k + cntD d)) ∧ OnlyS S w w' ∧ DIn S w' (markD d K) v
/-- Reads the marks back. -/
def HlD (F : FuncId) (d : D) : Prop := ∀ (S : Nat → Prop) (v : Value) (w : World) (K : Nat) (k : Int), k = K → DIn S w (markD d K) v → K + cntD d ≤ 1000000000 →
  Calls Tryz.prog F #[v, .int .i64 k] w fun e w' => e = .returned (.int .i64 (k + cntD d)) ∧ Ext w w'
theorem own_len {w : World} {n len : Nat} {f : Nat → Nat → D} {S : Nat → Prop} {v : Value} (h : Own w (.list n len f) S v) : ∃ a cap, v = .slice a len cap := by
  obtain ⟨a, cap, _, _, _, hv, _⟩ := h
  exact ⟨a, cap, hv⟩
theorem own_shape {w : World} {r : Nat} {d : D} {S : Nat → Prop} {v : Value} (H : Has d (.list r)) (h : Own w d S v) : ∃ a cap, v = .slice a d.len! cap := by
  obtain ⟨len, f, rfl, _⟩ := H.list
  exact own_len h
theorem mkCell_list {d : D} {r : Nat} (H : Has d (.list r)) (k : Nat) (v : Value) : mkCell d k v = v := by
  obtain ⟨len, f, rfl, _⟩ := H.list
  rfl
/-- No list within is longer than lists may be. -/
def LenOk : D → Prop
  | .list n len f => len ≤ maxLen ∧ ∀ i, i < len → ∀ j, j < n → LenOk (f i j)
  | _ => True
theorem LenOk.len {d : D} (h : LenOk d) : d.len! ≤ maxLen := by
  cases d with
  | list n len f => exact h.1
  | _ => exact Nat.zero_le _

set_option maxRecDepth 100000 in
set_option maxHeartbeats 8000000 in
theorem markStringS_list (len : Nat) (f : Nat → Nat → D) (HRa : ∀ i, i < len → HasRow 0 (f i)) (hLO : LenOk (.list 1 len f)) : MkD 43 (.list 1 len f) := by
  intro S v w K k hK hown hlen hbd
  subst hK
  change len ≤ maxLen at hlen
  have hlen' := hlen
  unfold maxLen at hlen
  by_cases h0 : len = 0
  · have hnil := mark_nil hown h0 K
    obtain ⟨a, cap, rfl⟩ := own_len hown
    subst h0
    go_enter Tryz.func43, Tryz.ntmps43
    go_wp2
    go_loopw [1, 5] (fun q i wr => q = .int .i64 (K : Int) ∧ i = .int .i64 0 ∧ wr = w) (fun _ _ _ => 0)
    case atStart => exact ⟨rfl, rfl, rfl⟩
    case round =>
      obtain ⟨rfl, rfl, rfl⟩ := hrel
      go_wp2
      go_ret
      exact ⟨ret_int (by simp [cntD, sumN]), OnlyS.refl _ _, hnil⟩
  obtain ⟨cap, b, off, P, G, rfl, o, hM0⟩ := MSt.start hown (by omega) K
  go_enter Tryz.func43, Tryz.ntmps43
  go_wp2
  go_loopw [1, 5] (fun q i wr => ∃ (kk : Nat) (m : Int), kk ≤ len ∧ i = .int .i64 kk ∧ q = .int .i64 m ∧ Hid (m = (preK 1 f K kk 0 : Nat)) ∧ MSt S b off 1 len f P G K w wr kk 0) (fun _ i _ => len - (intOf i).toNat)
  case atStart => exact ⟨0, _, Nat.zero_le _, rfl, rfl, (rfl : (K : Int) = (preK 1 f K 0 0 : Nat)), hM0⟩
  case round =>
    obtain ⟨kk, m, hk, rfl, rfl, hm, hM⟩ := hrel
    by_cases hlt : kk < len
    · have HR := HRa kk hlt
      have hp_0 : preK 1 f K kk 0 ≤ 1000000000 := Nat.le_trans (preK_le hlt (by decide)) hbd
      have hm0 : 0 ≤ m := by have := hm.out; omega
      have hm1 : m ≤ 1000000000 := by have := hm.out; omega
      have q0 : Hid (m = (preK 1 f K kk 0 : Nat)) := hm
      have hM_0 := hM
      clear hM
      obtain ⟨x0, hd0⟩ := (show Has (f kk 0) .str from HR 0 (by decide)).str
      have hp_1 : preK 1 f K kk 1 = preK 1 f K kk 0 + 1 := by rw [preK_succ, hd0]; rfl
      have hb_1 : preK 1 f K kk 1 ≤ 1000000000 := Nat.le_trans (preK_le hlt (by decide)) hbd
      have q1 : Hid (m + 1 = (preK 1 f K kk 1 : Nat)) := by show _ = _; have := q0.out; omega
      go_wp2_with fail
      refine (markText_mark _ _ (by omega) (by have := q0.out; omega)).mono ?_
      rintro e v1 ⟨rfl, X1⟩
      have hM_0b := hM_0.ext X1
      have z0 : v1.cell? ⟨b, off + kk, none⟩ = some (G kk 0) := by have := hM_0b.row kk hlt 0 (by decide); rw [show bef kk 0 kk 0 = false by simp [bef]] at this; simpa using this
      have fz0 : v1.frozen? ⟨b, off + kk, none⟩ = false := hM_0b.frz _
      have hM_1 := hM_0b.scal o hlt (by decide) (fun W => by rw [hd0]; exact mk_str (by omega))
      rw [show mkCell (f kk 0) (preK 1 f K kk 0) (G kk 0) = .string (markM (m)) by rw [hd0, q0.out]; rfl] at hM_1
      have e1_ : off + kk * 1 + 0 = off + kk := by omega
      rw [e1_] at hM_1
      go_wp2
      go_roundw
      case rel => exact ⟨kk + 1, _, by omega, by go_num, rfl, by show _ = _; rw [preK_next]; exact q1.out, hM_1.next⟩
      case measure => simp [intOf]; omega
    · have hkx : kk = len := by omega
      subst hkx
      have hend := preK_end 1 kk f K
      go_wp2
      go_ret
      exact ⟨ret_int (by have := hm.out; omega), hM.only, hM.fin o hlen' _⟩

theorem markStringS_any (d : D) (H : Has d (.list 0)) (hL : LenOk d) : MkD 43 d := by
  obtain ⟨len, f, rfl, HRa⟩ := H.list
  exact markStringS_list len f HRa hL

end Go.Proofs.YtpmcilgfijhhlaaGreat

/- What the laws' functions mark.. do: a list is marked, and its own memory alone turns. -/
namespace Go.Proofs.YtpmcilgfijhhlaaGreat
open Go.RowKit Go.Deep

set_option maxRecDepth 100000 in
set_option maxHeartbeats 8000000 in
theorem markValueS_of (len : Nat) (f : Nat → Nat → D) (HRa : ∀ i, i < len → HasRow 2 (f i)) (hLO : LenOk (.list 4 len f)) (hS3 : ∀ i, i < len → MkD 63 (f i 3)) : MkD 63 (.list 4 len f) := by
  intro S v w K k hK hown hlen hbd
  subst hK
  change len ≤ maxLen at hlen
  have hlen' := hlen
  unfold maxLen at hlen
  by_cases h0 : len = 0
  · have hnil := mark_nil hown h0 K
    obtain ⟨a, cap, rfl⟩ := own_len hown
    subst h0
    go_enter Tryz.func63, Tryz.ntmps63
    go_wp2
    go_loopw [1, 5] (fun q i wr => q = .int .i64 (K : Int) ∧ i = .int .i64 0 ∧ wr = w) (fun _ _ _ => 0)
    case atStart => exact ⟨rfl, rfl, rfl⟩
    case round =>
      obtain ⟨rfl, rfl, rfl⟩ := hrel
      go_wp2
      go_ret
      exact ⟨ret_int (by simp [cntD, sumN]), OnlyS.refl _ _, hnil⟩
  obtain ⟨cap, b, off, P, G, rfl, o, hM0⟩ := MSt.start hown (by omega) K
  go_enter Tryz.func63, Tryz.ntmps63
  go_wp2
  go_loopw [1, 5] (fun q i wr => ∃ (kk : Nat) (m : Int), kk ≤ len ∧ i = .int .i64 kk ∧ q = .int .i64 m ∧ Hid (m = (preK 4 f K kk 0 : Nat)) ∧ MSt S b off 4 len f P G K w wr kk 0) (fun _ i _ => len - (intOf i).toNat)
  case atStart => exact ⟨0, _, Nat.zero_le _, rfl, rfl, (rfl : (K : Int) = (preK 4 f K 0 0 : Nat)), hM0⟩
  case round =>
    obtain ⟨kk, m, hk, rfl, rfl, hm, hM⟩ := hrel
    by_cases hlt : kk < len
    · have HR := HRa kk hlt
      have hp_0 : preK 4 f K kk 0 ≤ 1000000000 := Nat.le_trans (preK_le hlt (by decide)) hbd
      have hm0 : 0 ≤ m := by have := hm.out; omega
      have hm1 : m ≤ 1000000000 := by have := hm.out; omega
      have q0 : Hid (m = (preK 4 f K kk 0 : Nat)) := hm
      have hT3 := hS3 kk hlt
      clear hS3
      have hM_0 := hM
      clear hM
      obtain ⟨x0, hd0⟩ := (show Has (f kk 0) .int from HR 0 (by decide)).int
      have hp_1 : preK 4 f K kk 1 = preK 4 f K kk 0 + 1 := by rw [preK_succ, hd0]; rfl
      have hb_1 : preK 4 f K kk 1 ≤ 1000000000 := Nat.le_trans (preK_le hlt (by decide)) hbd
      have q1 : Hid (m + 1 = (preK 4 f K kk 1 : Nat)) := by show _ = _; have := q0.out; omega
      have z0 : wr.cell? ⟨b, off + kk * 4, none⟩ = some (G kk 0) := by have := hM_0.row kk hlt 0 (by decide); rw [show bef kk 0 kk 0 = false by simp [bef]] at this; simpa using this
      have fz0 : wr.frozen? ⟨b, off + kk * 4, none⟩ = false := hM_0.frz _
      have hM_1 := hM_0.scal o hlt (by decide) (fun W => by rw [hd0]; exact mk_int (by omega))
      rw [show mkCell (f kk 0) (preK 4 f K kk 0) (G kk 0) = .int .i64 (m) by rw [hd0, q0.out]; rfl] at hM_1
      obtain ⟨x1, hd1⟩ := (show Has (f kk 1) .int from HR 1 (by decide)).int
      have hp_2 : preK 4 f K kk 2 = preK 4 f K kk 1 + 1 := by rw [preK_succ, hd1]; rfl
      have hb_2 : preK 4 f K kk 2 ≤ 1000000000 := Nat.le_trans (preK_le hlt (by decide)) hbd
      have q2 : Hid (m + 1 + 1 = (preK 4 f K kk 2 : Nat)) := by show _ = _; have := q1.out; omega
      have z1 : wr.cell? ⟨b, off + kk * 4 + 1, none⟩ = some (G kk 1) := by have := hM_0.row kk hlt 1 (by decide); rw [show bef kk 1 kk 0 = false by simp [bef]] at this; simpa using this
      have fz1 : wr.frozen? ⟨b, off + kk * 4 + 1, none⟩ = false := hM_0.frz _
      have hM_2 := hM_1.scal o hlt (by decide) (fun W => by rw [hd1]; exact mk_int (by omega))
      rw [show mkCell (f kk 1) (preK 4 f K kk 1) (G kk 1) = .int .i64 (m + 1) by rw [hd1, q1.out]; rfl] at hM_2
      obtain ⟨x2, hd2⟩ := (show Has (f kk 2) .str from HR 2 (by decide)).str
      have hp_3 : preK 4 f K kk 3 = preK 4 f K kk 2 + 1 := by rw [preK_succ, hd2]; rfl
      have hb_3 : preK 4 f K kk 3 ≤ 1000000000 := Nat.le_trans (preK_le hlt (by decide)) hbd
      have q3 : Hid (m + 1 + 1 + 1 = (preK 4 f K kk 3 : Nat)) := by show _ = _; have := q2.out; omega
      go_wp2_with fail
      refine (markText_mark _ _ (by omega) (by have := q2.out; omega)).mono ?_
      rintro e v1 ⟨rfl, X1⟩
      have hM_2b := hM_2.ext X1
      have z2 : v1.cell? ⟨b, off + kk * 4 + 2, none⟩ = some (G kk 2) := by have := hM_2b.row kk hlt 2 (by decide); rw [show bef kk 2 kk 2 = false by simp [bef]] at this; simpa using this
      have fz2 : v1.frozen? ⟨b, off + kk * 4 + 2, none⟩ = false := hM_2b.frz _
      have hM_3 := hM_2b.scal o hlt (by decide) (fun W => by rw [hd2]; exact mk_str (by omega))
      rw [show mkCell (f kk 2) (preK 4 f K kk 2) (G kk 2) = .string (markM (m + 1 + 1)) by rw [hd2, q2.out]; rfl] at hM_3
      have H3 : Has (f kk 3) (.list 2) := HR 3 (by decide)
      have hp_4 : preK 4 f K kk 4 = preK 4 f K kk 3 + cntD (f kk 3) := preK_succ _ _ _ _ _
      have hb_4 : preK 4 f K kk 4 ≤ 1000000000 := Nat.le_trans (preK_le hlt (by decide)) hbd
      have z3 : v1.cell? ⟨b, off + kk * 4 + 3, none⟩ = some (G kk 3) := by have := hM_2b.row kk hlt 3 (by decide); rw [show bef kk 3 kk 2 = false by simp [bef]] at this; simpa using this
      have fz3 : v1.frozen? ⟨b, off + kk * 4 + 3, none⟩ = false := hM_2b.frz _
      have ow3 := hM_3.fut kk hlt 3 (by decide) bef_self
      have hcall3 := hT3 (P kk 3) (G kk 3) _ (preK 4 f K kk 3) (m + 1 + 1 + 1) q3.out ow3 (hLO.2 kk hlt 3 (by decide)).len (by omega)
      obtain ⟨ga3, gc3, hG3⟩ := own_shape H3 ow3
      rw [hG3] at z3 hcall3
      go_wp2_with fail
      refine hcall3.mono ?_
      rintro e v2 ⟨rfl, X2, Y2⟩
      rw [← hG3] at Y2
      have hM_4 := hM_3.lst o hlt (by decide) (mkCell_list H3 _ _) X2 Y2
      clear hcall3
      have q4 : Hid ((m + 1 + 1 + 1 + (cntD (f kk 3) : Nat)) = (preK 4 f K kk 4 : Nat)) := by show _ = _; have := q3.out; omega
      go_wp2
      go_roundw
      case rel => exact ⟨kk + 1, _, by omega, by go_num, rfl, by show _ = _; rw [preK_next]; exact q4.out, hM_4.next⟩
      case measure => simp [intOf]; omega
    · have hkx : kk = len := by omega
      subst hkx
      clear hS3
      have hend := preK_end 4 kk f K
      go_wp2
      go_ret
      exact ⟨ret_int (by have := hm.out; omega), hM.only, hM.fin o hlen' _⟩

theorem markValueS_any (d : D) (H : Has d (.list 2)) (hL : LenOk d) : MkD 63 d := by
  induction d with
  | list n len f ih =>
    obtain ⟨r, h1, rfl, h3⟩ := H
    cases h1
    exact markValueS_of len f (fun i hi j hj => h3 i hi j hj) hL (fun i hi => ih i 3 (h3 i hi 3 (by decide)) (hL.2 i hi 3 (by decide)))
  | int _ => cases H
  | bool _ => cases H
  | str _ => cases H

end Go.Proofs.YtpmcilgfijhhlaaGreat

/- What the laws' functions mark.. do: a list is marked, and its own memory alone turns. -/
namespace Go.Proofs.YtpmcilgfijhhlaaGreat
open Go.RowKit Go.Deep

set_option maxRecDepth 100000 in
set_option maxHeartbeats 8000000 in
theorem markPropS_list (len : Nat) (f : Nat → Nat → D) (HRa : ∀ i, i < len → HasRow 3 (f i)) (hLO : LenOk (.list 5 len f)) : MkD 44 (.list 5 len f) := by
  intro S v w K k hK hown hlen hbd
  subst hK
  change len ≤ maxLen at hlen
  have hlen' := hlen
  unfold maxLen at hlen
  by_cases h0 : len = 0
  · have hnil := mark_nil hown h0 K
    obtain ⟨a, cap, rfl⟩ := own_len hown
    subst h0
    go_enter Tryz.func44, Tryz.ntmps44
    go_wp2
    go_loopw [1, 5] (fun q i wr => q = .int .i64 (K : Int) ∧ i = .int .i64 0 ∧ wr = w) (fun _ _ _ => 0)
    case atStart => exact ⟨rfl, rfl, rfl⟩
    case round =>
      obtain ⟨rfl, rfl, rfl⟩ := hrel
      go_wp2
      go_ret
      exact ⟨ret_int (by simp [cntD, sumN]), OnlyS.refl _ _, hnil⟩
  obtain ⟨cap, b, off, P, G, rfl, o, hM0⟩ := MSt.start hown (by omega) K
  go_enter Tryz.func44, Tryz.ntmps44
  go_wp2
  go_loopw [1, 5] (fun q i wr => ∃ (kk : Nat) (m : Int), kk ≤ len ∧ i = .int .i64 kk ∧ q = .int .i64 m ∧ Hid (m = (preK 5 f K kk 0 : Nat)) ∧ MSt S b off 5 len f P G K w wr kk 0) (fun _ i _ => len - (intOf i).toNat)
  case atStart => exact ⟨0, _, Nat.zero_le _, rfl, rfl, (rfl : (K : Int) = (preK 5 f K 0 0 : Nat)), hM0⟩
  case round =>
    obtain ⟨kk, m, hk, rfl, rfl, hm, hM⟩ := hrel
    by_cases hlt : kk < len
    · have HR := HRa kk hlt
      have hp_0 : preK 5 f K kk 0 ≤ 1000000000 := Nat.le_trans (preK_le hlt (by decide)) hbd
      have hm0 : 0 ≤ m := by have := hm.out; omega
      have hm1 : m ≤ 1000000000 := by have := hm.out; omega
      have q0 : Hid (m = (preK 5 f K kk 0 : Nat)) := hm
      have hM_0 := hM
      clear hM
      obtain ⟨x0, hd0⟩ := (show Has (f kk 0) .str from HR 0 (by decide)).str
      have hp_1 : preK 5 f K kk 1 = preK 5 f K kk 0 + 1 := by rw [preK_succ, hd0]; rfl
      have hb_1 : preK 5 f K kk 1 ≤ 1000000000 := Nat.le_trans (preK_le hlt (by decide)) hbd
      have q1 : Hid (m + 1 = (preK 5 f K kk 1 : Nat)) := by show _ = _; have := q0.out; omega
      go_wp2_with fail
      refine (markText_mark _ _ (by omega) (by have := q0.out; omega)).mono ?_
      rintro e v1 ⟨rfl, X1⟩
      have hM_0b := hM_0.ext X1
      have z0 : v1.cell? ⟨b, off + kk * 5, none⟩ = some (G kk 0) := by have := hM_0b.row kk hlt 0 (by decide); rw [show bef kk 0 kk 0 = false by simp [bef]] at this; simpa using this
      have fz0 : v1.frozen? ⟨b, off + kk * 5, none⟩ = false := hM_0b.frz _
      have hM_1 := hM_0b.scal o hlt (by decide) (fun W => by rw [hd0]; exact mk_str (by omega))
      rw [show mkCell (f kk 0) (preK 5 f K kk 0) (G kk 0) = .string (markM (m)) by rw [hd0, q0.out]; rfl] at hM_1
      obtain ⟨x1, hd1⟩ := (show Has (f kk 1) .int from HR 1 (by decide)).int
      have hp_2 : preK 5 f K kk 2 = preK 5 f K kk 1 + 1 := by rw [preK_succ, hd1]; rfl
      have hb_2 : preK 5 f K kk 2 ≤ 1000000000 := Nat.le_trans (preK_le hlt (by decide)) hbd
      have q2 : Hid (m + 1 + 1 = (preK 5 f K kk 2 : Nat)) := by show _ = _; have := q1.out; omega
      have z1 : v1.cell? ⟨b, off + kk * 5 + 1, none⟩ = some (G kk 1) := by have := hM_0b.row kk hlt 1 (by decide); rw [show bef kk 1 kk 0 = false by simp [bef]] at this; simpa using this
      have fz1 : v1.frozen? ⟨b, off + kk * 5 + 1, none⟩ = false := hM_0b.frz _
      have hM_2 := hM_1.scal o hlt (by decide) (fun W => by rw [hd1]; exact mk_int (by omega))
      rw [show mkCell (f kk 1) (preK 5 f K kk 1) (G kk 1) = .int .i64 (m + 1) by rw [hd1, q1.out]; rfl] at hM_2
      obtain ⟨x2, hd2⟩ := (show Has (f kk 2) .int from HR 2 (by decide)).int
      have hp_3 : preK 5 f K kk 3 = preK 5 f K kk 2 + 1 := by rw [preK_succ, hd2]; rfl
      have hb_3 : preK 5 f K kk 3 ≤ 1000000000 := Nat.le_trans (preK_le hlt (by decide)) hbd
      have q3 : Hid (m + 1 + 1 + 1 = (preK 5 f K kk 3 : Nat)) := by show _ = _; have := q2.out; omega
      have z2 : v1.cell? ⟨b, off + kk * 5 + 2, none⟩ = some (G kk 2) := by have := hM_0b.row kk hlt 2 (by decide); rw [show bef kk 2 kk 0 = false by simp [bef]] at this; simpa using this
      have fz2 : v1.frozen? ⟨b, off + kk * 5 + 2, none⟩ = false := hM_0b.frz _
      have hM_3 := hM_2.scal o hlt (by decide) (fun W => by rw [hd2]; exact mk_int (by omega))
      rw [show mkCell (f kk 2) (preK 5 f K kk 2) (G kk 2) = .int .i64 (m + 1 + 1) by rw [hd2, q2.out]; rfl] at hM_3
      obtain ⟨x3, hd3⟩ := (show Has (f kk 3) .str from HR 3 (by decide)).str
      have hp_4 : preK 5 f K kk 4 = preK 5 f K kk 3 + 1 := by rw [preK_succ, hd3]; rfl
      have hb_4 : preK 5 f K kk 4 ≤ 1000000000 := Nat.le_trans (preK_le hlt (by decide)) hbd
      have q4 : Hid (m + 1 + 1 + 1 + 1 = (preK 5 f K kk 4 : Nat)) := by show _ = _; have := q3.out; omega
      go_wp2_with fail
      refine (markText_mark _ _ (by omega) (by have := q3.out; omega)).mono ?_
      rintro e v2 ⟨rfl, X2⟩
      have hM_3b := hM_3.ext X2
      have z3 : v2.cell? ⟨b, off + kk * 5 + 3, none⟩ = some (G kk 3) := by have := hM_3b.row kk hlt 3 (by decide); rw [show bef kk 3 kk 3 = false by simp [bef]] at this; simpa using this
      have fz3 : v2.frozen? ⟨b, off + kk * 5 + 3, none⟩ = false := hM_3b.frz _
      have hM_4 := hM_3b.scal o hlt (by decide) (fun W => by rw [hd3]; exact mk_str (by omega))
      rw [show mkCell (f kk 3) (preK 5 f K kk 3) (G kk 3) = .string (markM (m + 1 + 1 + 1)) by rw [hd3, q3.out]; rfl] at hM_4
      have H4 : Has (f kk 4) (.list 2) := HR 4 (by decide)
      have hp_5 : preK 5 f K kk 5 = preK 5 f K kk 4 + cntD (f kk 4) := preK_succ _ _ _ _ _
      have hb_5 : preK 5 f K kk 5 ≤ 1000000000 := Nat.le_trans (preK_le hlt (by decide)) hbd
      have z4 : v2.cell? ⟨b, off + kk * 5 + 4, none⟩ = some (G kk 4) := by have := hM_3b.row kk hlt 4 (by decide); rw [show bef kk 4 kk 3 = false by simp [bef]] at this; simpa using this
      have fz4 : v2.frozen? ⟨b, off + kk * 5 + 4, none⟩ = false := hM_3b.frz _
      have ow4 := hM_4.fut kk hlt 4 (by decide) bef_self
      have hcall4 := markValueS_any (f kk 4) H4 (hLO.2 kk hlt 4 (by decide)) (P kk 4) (G kk 4) _ (preK 5 f K kk 4) (m + 1 + 1 + 1 + 1) q4.out ow4 (hLO.2 kk hlt 4 (by decide)).len (by omega)
      obtain ⟨ga4, gc4, hG4⟩ := own_shape H4 ow4
      rw [hG4] at z4 hcall4
      go_wp2_with fail
      refine hcall4.mono ?_
      rintro e v3 ⟨rfl, X3, Y3⟩
      rw [← hG4] at Y3
      have hM_5 := hM_4.lst o hlt (by decide) (mkCell_list H4 _ _) X3 Y3
      clear hcall4
      have q5 : Hid ((m + 1 + 1 + 1 + 1 + (cntD (f kk 4) : Nat)) = (preK 5 f K kk 5 : Nat)) := by show _ = _; have := q4.out; omega
      go_wp2
      go_roundw
      case rel => exact ⟨kk + 1, _, by omega, by go_num, rfl, by show _ = _; rw [preK_next]; exact q5.out, hM_5.next⟩
      case measure => simp [intOf]; omega
    · have hkx : kk = len := by omega
      subst hkx
      have hend := preK_end 5 kk f K
      go_wp2
      go_ret
      exact ⟨ret_int (by have := hm.out; omega), hM.only, hM.fin o hlen' _⟩

theorem markPropS_any (d : D) (H : Has d (.list 3)) (hL : LenOk d) : MkD 44 d := by
  obtain ⟨len, f, rfl, HRa⟩ := H.list
  exact markPropS_list len f HRa hL

end Go.Proofs.YtpmcilgfijhhlaaGreat

/- What the laws' functions mark.. do: a list is marked, and its own memory alone turns. -/
namespace Go.Proofs.YtpmcilgfijhhlaaGreat
open Go.RowKit Go.Deep

end Go.Proofs.YtpmcilgfijhhlaaGreat

/- What the laws' functions mark.. do: a list is marked, and its own memory alone turns. -/
namespace Go.Proofs.YtpmcilgfijhhlaaGreat
open Go.RowKit Go.Deep

set_option maxRecDepth 100000 in
set_option maxHeartbeats 8000000 in
theorem markNodeS_list (len : Nat) (f : Nat → Nat → D) (HRa : ∀ i, i < len → HasRow 4 (f i)) (hLO : LenOk (.list 3 len f)) : MkD 23 (.list 3 len f) := by
  intro S v w K k hK hown hlen hbd
  subst hK
  change len ≤ maxLen at hlen
  have hlen' := hlen
  unfold maxLen at hlen
  by_cases h0 : len = 0
  · have hnil := mark_nil hown h0 K
    obtain ⟨a, cap, rfl⟩ := own_len hown
    subst h0
    go_enter Tryz.func23, Tryz.ntmps23
    go_wp2
    go_loopw [1, 5] (fun q i wr => q = .int .i64 (K : Int) ∧ i = .int .i64 0 ∧ wr = w) (fun _ _ _ => 0)
    case atStart => exact ⟨rfl, rfl, rfl⟩
    case round =>
      obtain ⟨rfl, rfl, rfl⟩ := hrel
      go_wp2
      go_ret
      exact ⟨ret_int (by simp [cntD, sumN]), OnlyS.refl _ _, hnil⟩
  obtain ⟨cap, b, off, P, G, rfl, o, hM0⟩ := MSt.start hown (by omega) K
  go_enter Tryz.func23, Tryz.ntmps23
  go_wp2
  go_loopw [1, 5] (fun q i wr => ∃ (kk : Nat) (m : Int), kk ≤ len ∧ i = .int .i64 kk ∧ q = .int .i64 m ∧ Hid (m = (preK 3 f K kk 0 : Nat)) ∧ MSt S b off 3 len f P G K w wr kk 0) (fun _ i _ => len - (intOf i).toNat)
  case atStart => exact ⟨0, _, Nat.zero_le _, rfl, rfl, (rfl : (K : Int) = (preK 3 f K 0 0 : Nat)), hM0⟩
  case round =>
    obtain ⟨kk, m, hk, rfl, rfl, hm, hM⟩ := hrel
    by_cases hlt : kk < len
    · have HR := HRa kk hlt
      have hp_0 : preK 3 f K kk 0 ≤ 1000000000 := Nat.le_trans (preK_le hlt (by decide)) hbd
      have hm0 : 0 ≤ m := by have := hm.out; omega
      have hm1 : m ≤ 1000000000 := by have := hm.out; omega
      have q0 : Hid (m = (preK 3 f K kk 0 : Nat)) := hm
      have hM_0 := hM
      clear hM
      obtain ⟨x0, hd0⟩ := (show Has (f kk 0) .int from HR 0 (by decide)).int
      have hp_1 : preK 3 f K kk 1 = preK 3 f K kk 0 + 1 := by rw [preK_succ, hd0]; rfl
      have hb_1 : preK 3 f K kk 1 ≤ 1000000000 := Nat.le_trans (preK_le hlt (by decide)) hbd
      have q1 : Hid (m + 1 = (preK 3 f K kk 1 : Nat)) := by show _ = _; have := q0.out; omega
      have z0 : wr.cell? ⟨b, off + kk * 3, none⟩ = some (G kk 0) := by have := hM_0.row kk hlt 0 (by decide); rw [show bef kk 0 kk 0 = false by simp [bef]] at this; simpa using this
      have fz0 : wr.frozen? ⟨b, off + kk * 3, none⟩ = false := hM_0.frz _
      have hM_1 := hM_0.scal o hlt (by decide) (fun W => by rw [hd0]; exact mk_int (by omega))
      rw [show mkCell (f kk 0) (preK 3 f K kk 0) (G kk 0) = .int .i64 (m) by rw [hd0, q0.out]; rfl] at hM_1
      have H1 : Has (f kk 1) (.list 0) := HR 1 (by decide)
      have hp_2 : preK 3 f K kk 2 = preK 3 f K kk 1 + cntD (f kk 1) := preK_succ _ _ _ _ _
      have hb_2 : preK 3 f K kk 2 ≤ 1000000000 := Nat.le_trans (preK_le hlt (by decide)) hbd
      have z1 : wr.cell? ⟨b, off + kk * 3 + 1, none⟩ = some (G kk 1) := by have := hM_0.row kk hlt 1 (by decide); rw [show bef kk 1 kk 0 = false by simp [bef]] at this; simpa using this
      have fz1 : wr.frozen? ⟨b, off + kk * 3 + 1, none⟩ = false := hM_0.frz _
      have ow1 := hM_1.fut kk hlt 1 (by decide) bef_self
      have hcall1 := markStringS_any (f kk 1) H1 (hLO.2 kk hlt 1 (by decide)) (P kk 1) (G kk 1) _ (preK 3 f K kk 1) (m + 1) q1.out ow1 (hLO.2 kk hlt 1 (by decide)).len (by omega)
      obtain ⟨ga1, gc1, hG1⟩ := own_shape H1 ow1
      rw [hG1] at z1 hcall1
      go_wp2_with fail
      refine hcall1.mono ?_
      rintro e v1 ⟨rfl, X1, Y1⟩
      rw [← hG1] at Y1
      have hM_2 := hM_1.lst o hlt (by decide) (mkCell_list H1 _ _) X1 Y1
      clear hcall1
      have q2 : Hid ((m + 1 + (cntD (f kk 1) : Nat)) = (preK 3 f K kk 2 : Nat)) := by show _ = _; have := q1.out; omega
      have H2 : Has (f kk 2) (.list 3) := HR 2 (by decide)
      have hp_3 : preK 3 f K kk 3 = preK 3 f K kk 2 + cntD (f kk 2) := preK_succ _ _ _ _ _
      have hb_3 : preK 3 f K kk 3 ≤ 1000000000 := Nat.le_trans (preK_le hlt (by decide)) hbd
      have z2 : v1.cell? ⟨b, off + kk * 3 + 2, none⟩ = some (G kk 2) := by have := hM_2.row kk hlt 2 (by decide); rw [show bef kk 2 kk 2 = false by simp [bef]] at this; simpa using this
      have fz2 : v1.frozen? ⟨b, off + kk * 3 + 2, none⟩ = false := hM_2.frz _
      have ow2 := hM_2.fut kk hlt 2 (by decide) bef_self
      have hcall2 := markPropS_any (f kk 2) H2 (hLO.2 kk hlt 2 (by decide)) (P kk 2) (G kk 2) _ (preK 3 f K kk 2) ((m + 1 + (cntD (f kk 1) : Nat))) q2.out ow2 (hLO.2 kk hlt 2 (by decide)).len (by omega)
      obtain ⟨ga2, gc2, hG2⟩ := own_shape H2 ow2
      rw [hG2] at z2 hcall2
      go_wp2_with fail
      refine hcall2.mono ?_
      rintro e v2 ⟨rfl, X2, Y2⟩
      rw [← hG2] at Y2
      have hM_3 := hM_2.lst o hlt (by decide) (mkCell_list H2 _ _) X2 Y2
      clear hcall2
      have q3 : Hid (((m + 1 + (cntD (f kk 1) : Nat)) + (cntD (f kk 2) : Nat)) = (preK 3 f K kk 3 : Nat)) := by show _ = _; have := q2.out; omega
      go_wp2
      go_roundw
      case rel => exact ⟨kk + 1, _, by omega, by go_num, rfl, by show _ = _; rw [preK_next]; exact q3.out, hM_3.next⟩
      case measure => simp [intOf]; omega
    · have hkx : kk = len := by omega
      subst hkx
      have hend := preK_end 3 kk f K
      go_wp2
      go_ret
      exact ⟨ret_int (by have := hm.out; omega), hM.only, hM.fin o hlen' _⟩

theorem markNodeS_any (d : D) (H : Has d (.list 4)) (hL : LenOk d) : MkD 23 d := by
  obtain ⟨len, f, rfl, HRa⟩ := H.list
  exact markNodeS_list len f HRa hL

end Go.Proofs.YtpmcilgfijhhlaaGreat

/- What the laws' functions mark.. do: a list is marked, and its own memory alone turns. -/
namespace Go.Proofs.YtpmcilgfijhhlaaGreat
open Go.RowKit Go.Deep

set_option maxRecDepth 100000 in
set_option maxHeartbeats 8000000 in
theorem markEdgeS_list (len : Nat) (f : Nat → Nat → D) (HRa : ∀ i, i < len → HasRow 5 (f i)) (hLO : LenOk (.list 5 len f)) : MkD 24 (.list 5 len f) := by
  intro S v w K k hK hown hlen hbd
  subst hK
  change len ≤ maxLen at hlen
  have hlen' := hlen
  unfold maxLen at hlen
  by_cases h0 : len = 0
  · have hnil := mark_nil hown h0 K
    obtain ⟨a, cap, rfl⟩ := own_len hown
    subst h0
    go_enter Tryz.func24, Tryz.ntmps24
    go_wp2
    go_loopw [1, 5] (fun q i wr => q = .int .i64 (K : Int) ∧ i = .int .i64 0 ∧ wr = w) (fun _ _ _ => 0)
    case atStart => exact ⟨rfl, rfl, rfl⟩
    case round =>
      obtain ⟨rfl, rfl, rfl⟩ := hrel
      go_wp2
      go_ret
      exact ⟨ret_int (by simp [cntD, sumN]), OnlyS.refl _ _, hnil⟩
  obtain ⟨cap, b, off, P, G, rfl, o, hM0⟩ := MSt.start hown (by omega) K
  go_enter Tryz.func24, Tryz.ntmps24
  go_wp2
  go_loopw [1, 5] (fun q i wr => ∃ (kk : Nat) (m : Int), kk ≤ len ∧ i = .int .i64 kk ∧ q = .int .i64 m ∧ Hid (m = (preK 5 f K kk 0 : Nat)) ∧ MSt S b off 5 len f P G K w wr kk 0) (fun _ i _ => len - (intOf i).toNat)
  case atStart => exact ⟨0, _, Nat.zero_le _, rfl, rfl, (rfl : (K : Int) = (preK 5 f K 0 0 : Nat)), hM0⟩
  case round =>
    obtain ⟨kk, m, hk, rfl, rfl, hm, hM⟩ := hrel
    by_cases hlt : kk < len
    · have HR := HRa kk hlt
      have hp_0 : preK 5 f K kk 0 ≤ 1000000000 := Nat.le_trans (preK_le hlt (by decide)) hbd
      have hm0 : 0 ≤ m := by have := hm.out; omega
      have hm1 : m ≤ 1000000000 := by have := hm.out; omega
      have q0 : Hid (m = (preK 5 f K kk 0 : Nat)) := hm
      have hM_0 := hM
      clear hM
      obtain ⟨x0, hd0⟩ := (show Has (f kk 0) .int from HR 0 (by decide)).int
      have hp_1 : preK 5 f K kk 1 = preK 5 f K kk 0 + 1 := by rw [preK_succ, hd0]; rfl
      have hb_1 : preK 5 f K kk 1 ≤ 1000000000 := Nat.le_trans (preK_le hlt (by decide)) hbd
      have q1 : Hid (m + 1 = (preK 5 f K kk 1 : Nat)) := by show _ = _; have := q0.out; omega
      have z0 : wr.cell? ⟨b, off + kk * 5, none⟩ = some (G kk 0) := by have := hM_0.row kk hlt 0 (by decide); rw [show bef kk 0 kk 0 = false by simp [bef]] at this; simpa using this
      have fz0 : wr.frozen? ⟨b, off + kk * 5, none⟩ = false := hM_0.frz _
      have hM_1 := hM_0.scal o hlt (by decide) (fun W => by rw [hd0]; exact mk_int (by omega))
      rw [show mkCell (f kk 0) (preK 5 f K kk 0) (G kk 0) = .int .i64 (m) by rw [hd0, q0.out]; rfl] at hM_1
      obtain ⟨x1, hd1⟩ := (show Has (f kk 1) .str from HR 1 (by decide)).str
      have hp_2 : preK 5 f K kk 2 = preK 5 f K kk 1 + 1 := by rw [preK_succ, hd1]; rfl
      have hb_2 : preK 5 f K kk 2 ≤ 1000000000 := Nat.le_trans (preK_le hlt (by decide)) hbd
      have q2 : Hid (m + 1 + 1 = (preK 5 f K kk 2 : Nat)) := by show _ = _; have := q1.out; omega
      go_wp2_with fail
      refine (markText_mark _ _ (by omega) (by have := q1.out; omega)).mono ?_
      rintro e v1 ⟨rfl, X1⟩
      have hM_1b := hM_1.ext X1
      have z1 : v1.cell? ⟨b, off + kk * 5 + 1, none⟩ = some (G kk 1) := by have := hM_1b.row kk hlt 1 (by decide); rw [show bef kk 1 kk 1 = false by simp [bef]] at this; simpa using this
      have fz1 : v1.frozen? ⟨b, off + kk * 5 + 1, none⟩ = false := hM_1b.frz _
      have hM_2 := hM_1b.scal o hlt (by decide) (fun W => by rw [hd1]; exact mk_str (by omega))
      rw [show mkCell (f kk 1) (preK 5 f K kk 1) (G kk 1) = .string (markM (m + 1)) by rw [hd1, q1.out]; rfl] at hM_2
      obtain ⟨x2, hd2⟩ := (show Has (f kk 2) .int from HR 2 (by decide)).int
      have hp_3 : preK 5 f K kk 3 = preK 5 f K kk 2 + 1 := by rw [preK_succ, hd2]; rfl
      have hb_3 : preK 5 f K kk 3 ≤ 1000000000 := Nat.le_trans (preK_le hlt (by decide)) hbd
      have q3 : Hid (m + 1 + 1 + 1 = (preK 5 f K kk 3 : Nat)) := by show _ = _; have := q2.out; omega
      have z2 : v1.cell? ⟨b, off + kk * 5 + 2, none⟩ = some (G kk 2) := by have := hM_1b.row kk hlt 2 (by decide); rw [show bef kk 2 kk 1 = false by simp [bef]] at this; simpa using this
      have fz2 : v1.frozen? ⟨b, off + kk * 5 + 2, none⟩ = false := hM_1b.frz _
      have hM_3 := hM_2.scal o hlt (by decide) (fun W => by rw [hd2]; exact mk_int (by omega))
      rw [show mkCell (f kk 2) (preK 5 f K kk 2) (G kk 2) = .int .i64 (m + 1 + 1) by rw [hd2, q2.out]; rfl] at hM_3
      obtain ⟨x3, hd3⟩ := (show Has (f kk 3) .int from HR 3 (by decide)).int
      have hp_4 : preK 5 f K kk 4 = preK 5 f K kk 3 + 1 := by rw [preK_succ, hd3]; rfl
      have hb_4 : preK 5 f K kk 4 ≤ 1000000000 := Nat.le_trans (preK_le hlt (by decide)) hbd
      have q4 : Hid (m + 1 + 1 + 1 + 1 = (preK 5 f K kk 4 : Nat)) := by show _ = _; have := q3.out; omega
      have z3 : v1.cell? ⟨b, off + kk * 5 + 3, none⟩ = some (G kk 3) := by have := hM_1b.row kk hlt 3 (by decide); rw [show bef kk 3 kk 1 = false by simp [bef]] at this; simpa using this
      have fz3 : v1.frozen? ⟨b, off + kk * 5 + 3, none⟩ = false := hM_1b.frz _
      have hM_4 := hM_3.scal o hlt (by decide) (fun W => by rw [hd3]; exact mk_int (by omega))
      rw [show mkCell (f kk 3) (preK 5 f K kk 3) (G kk 3) = .int .i64 (m + 1 + 1 + 1) by rw [hd3, q3.out]; rfl] at hM_4
      have H4 : Has (f kk 4) (.list 3) := HR 4 (by decide)
      have hp_5 : preK 5 f K kk 5 = preK 5 f K kk 4 + cntD (f kk 4) := preK_succ _ _ _ _ _
      have hb_5 : preK 5 f K kk 5 ≤ 1000000000 := Nat.le_trans (preK_le hlt (by decide)) hbd
      have z4 : v1.cell? ⟨b, off + kk * 5 + 4, none⟩ = some (G kk 4) := by have := hM_1b.row kk hlt 4 (by decide); rw [show bef kk 4 kk 1 = false by simp [bef]] at this; simpa using this
      have fz4 : v1.frozen? ⟨b, off + kk * 5 + 4, none⟩ = false := hM_1b.frz _
      have ow4 := hM_4.fut kk hlt 4 (by decide) bef_self
      have hcall4 := markPropS_any (f kk 4) H4 (hLO.2 kk hlt 4 (by decide)) (P kk 4) (G kk 4) _ (preK 5 f K kk 4) (m + 1 + 1 + 1 + 1) q4.out ow4 (hLO.2 kk hlt 4 (by decide)).len (by omega)
      obtain ⟨ga4, gc4, hG4⟩ := own_shape H4 ow4
      rw [hG4] at z4 hcall4
      go_wp2_with fail
      refine hcall4.mono ?_
      rintro e v2 ⟨rfl, X2, Y2⟩
      rw [← hG4] at Y2
      have hM_5 := hM_4.lst o hlt (by decide) (mkCell_list H4 _ _) X2 Y2
      clear hcall4
      have q5 : Hid ((m + 1 + 1 + 1 + 1 + (cntD (f kk 4) : Nat)) = (preK 5 f K kk 5 : Nat)) := by show _ = _; have := q4.out; omega
      go_wp2
      go_roundw
      case rel => exact ⟨kk + 1, _, by omega, by go_num, rfl, by show _ = _; rw [preK_next]; exact q5.out, hM_5.next⟩
      case measure => simp [intOf]; omega
    · have hkx : kk = len := by omega
      subst hkx
      have hend := preK_end 5 kk f K
      go_wp2
      go_ret
      exact ⟨ret_int (by have := hm.out; omega), hM.only, hM.fin o hlen' _⟩

theorem markEdgeS_any (d : D) (H : Has d (.list 5)) (hL : LenOk d) : MkD 24 d := by
  obtain ⟨len, f, rfl, HRa⟩ := H.list
  exact markEdgeS_list len f HRa hL

end Go.Proofs.YtpmcilgfijhhlaaGreat

/- What the laws' function markGraph does: both lists are marked, and their own memory alone turns. -/
namespace Go.Proofs.YtpmcilgfijhhlaaGreat
open Go.RowKit Go.Deep

set_option maxRecDepth 100000 in
set_option maxHeartbeats 1000000 in
theorem markGraph_any (d0 d1 : D) (u0 u1 : Value) (x2 x3 : Int) (Q0 Q1 : Nat → Prop) (w : World) (K : Nat) (k : Int) (hK : k = K) (H0 : Has d0 (.list 4)) (H1 : Has d1 (.list 5)) (o0 : Own w d0 Q0 u0) (o1 : Own w d1 Q1 u1) (L0 : LenOk d0) (L1 : LenOk d1) (hq : ∀ x, Q0 x → x < w.heap.size) (hd : ∀ x, Q0 x → ¬ Q1 x) (hb : K + cntD d0 + cntD d1 ≤ 1000000000) :
    Calls Tryz.prog 10 #[.agg #[u0, u1, .int .i64 x2, .int .i64 x3], .int .i64 k] w fun e w' => e = .returned (.int .i64 (k + cntD d0 + cntD d1)) ∧ OnlyS (fun x => Q0 x ∨ Q1 x) w w' := by
  have hE0 : Ext w (w.alloc (.cells #[u0, u1, .int .i64 x2, .int .i64 x3] 32)) := (Ext.refl _).alloc _
  have hc0 := markNodeS_any d0 H0 L0 Q0 u0 _ K k hK (o0.ext hE0) L0.len (by omega)
  have hc1 := fun (W : World) (k' : Int) (hk : k' = ((K + cntD d0 : Nat) : Int)) (o : Own W d1 Q1 u1) => markEdgeS_any d1 H1 L1 Q1 u1 W (K + cntD d0) k' hk o L1.len hb
  have HKK : Hid (k = K) := hK
  clear hK
  obtain ⟨a0, cap0, rfl⟩ := own_shape H0 o0
  obtain ⟨a1, cap1, rfl⟩ := own_shape H1 o1
  go_enter Tryz.func10, Tryz.ntmps10
  go_wp2_with fail
  refine hc0.mono ?_
  rintro e w1 ⟨rfl, hO1, hx1⟩
  clear hx1
  have hbk := hO1.block w.heap.size (by simp) (fun hx => by have := hq _ hx; omega)
  have p1 : w1.cell? ⟨w.heap.size, 1, none⟩ = some (.slice a1 d1.len! cap1) := by rw [World.cell?_of_block hbk]; simp
  clear hc0
  go_wp2_with fail
  refine (hc1 _ _ (by have := HKK.out; omega) ((o1.ext hE0).only hO1 (fun x hx hx0 => hd x hx0 hx))).mono ?_
  rintro e w2 ⟨rfl, hO2, hx2⟩
  clear hx2
  go_wp2
  go_ret
  exact ⟨ret_int (by omega), ((OnlyS.of_ext hE0).trans (hO1.mono (fun x hx => .inl hx))).trans (hO2.mono (fun x hx => .inr hx))⟩
end Go.Proofs.YtpmcilgfijhhlaaGreat

/- What the laws' functions held.. answer: the marks are read back. -/
namespace Go.Proofs.YtpmcilgfijhhlaaGreat
open Go.RowKit Go.Deep

theorem held_shape {S : Nat → Prop} {w : World} {r K : Nat} {d : D} {v : Value} (H : Has d (.list r)) (h : DIn S w (markD d K) v) : ∃ a cap, v = .slice a d.len! cap := by
  obtain ⟨len, f, rfl, _⟩ := H.list
  obtain ⟨a, cap, hv, _⟩ := DIn.list_eq h
  exact ⟨a, cap, hv⟩

end Go.Proofs.YtpmcilgfijhhlaaGreat

/- What the laws' function markIntS does. -/
namespace Go.Proofs.YtpmcilgfijhhlaaGreat
open Go.RowKit Go.Deep

-- @IF{laws.markIntS}
set_option maxRecDepth 100000 in
set_option maxHeartbeats 8000000 in
theorem markIntS_list (len : Nat) (f : Nat → Nat → D) (HRa : ∀ i, i < len → HasRow 1 (f i)) (hLO : LenOk (.list 1 len f)) : MkD 11 (.list 1 len f) := by
  intro S v w K k hK hown hlen hbd
  subst hK
  change len ≤ maxLen at hlen
  have hlen' := hlen
  unfold maxLen at hlen
  by_cases h0 : len = 0
  · have hnil := mark_nil hown h0 K
    obtain ⟨a, cap, rfl⟩ := own_len hown
    subst h0
    go_enter Tryz.func11, Tryz.ntmps11
    go_wp2
    go_loopw [1, 5] (fun q i wr => q = .int .i64 (K : Int) ∧ i = .int .i64 0 ∧ wr = w) (fun _ _ _ => 0)
    case atStart => exact ⟨rfl, rfl, rfl⟩
    case round =>
      obtain ⟨rfl, rfl, rfl⟩ := hrel
      go_wp2
      go_ret
      exact ⟨ret_int (by simp [cntD, sumN]), OnlyS.refl _ _, hnil⟩
  obtain ⟨cap, b, off, P, G, rfl, o, hM0⟩ := MSt.start hown (by omega) K
  go_enter Tryz.func11, Tryz.ntmps11
  go_wp2
  go_loopw [1, 5] (fun q i wr => ∃ (kk : Nat) (m : Int), kk ≤ len ∧ i = .int .i64 kk ∧ q = .int .i64 m ∧ Hid (m = (preK 1 f K kk 0 : Nat)) ∧ MSt S b off 1 len f P G K w wr kk 0) (fun _ i _ => len - (intOf i).toNat)
  case atStart => exact ⟨0, _, Nat.zero_le _, rfl, rfl, (rfl : (K : Int) = (preK 1 f K 0 0 : Nat)), hM0⟩
  case round =>
    obtain ⟨kk, m, hk, rfl, rfl, hm, hM⟩ := hrel
    by_cases hlt : kk < len
    · have HR := HRa kk hlt
      have hp_0 : preK 1 f K kk 0 ≤ 1000000000 := Nat.le_trans (preK_le hlt (by decide)) hbd
      have hm0 : 0 ≤ m := by have := hm.out; omega
      have hm1 : m ≤ 1000000000 := by have := hm.out; omega
      have q0 : Hid (m = (preK 1 f K kk 0 : Nat)) := hm
      have hM_0 := hM
      clear hM
      obtain ⟨x0, hd0⟩ := (show Has (f kk 0) .int from HR 0 (by decide)).int
      have hp_1 : preK 1 f K kk 1 = preK 1 f K kk 0 + 1 := by rw [preK_succ, hd0]; rfl
      have hb_1 : preK 1 f K kk 1 ≤ 1000000000 := Nat.le_trans (preK_le hlt (by decide)) hbd
      have q1 : Hid (m + 1 = (preK 1 f K kk 1 : Nat)) := by show _ = _; have := q0.out; omega
      have z0 : wr.cell? ⟨b, off + kk, none⟩ = some (G kk 0) := by have := hM_0.row kk hlt 0 (by decide); rw [show bef kk 0 kk 0 = false by simp [bef]] at this; simpa using this
      have fz0 : wr.frozen? ⟨b, off + kk, none⟩ = false := hM_0.frz _
      have hM_1 := hM_0.scal o hlt (by decide) (fun W => by rw [hd0]; exact mk_int (by omega))
      rw [show mkCell (f kk 0) (preK 1 f K kk 0) (G kk 0) = .int .i64 (m) by rw [hd0, q0.out]; rfl] at hM_1
      have e1_ : off + kk * 1 + 0 = off + kk := by omega
      rw [e1_] at hM_1
      go_wp2
      go_roundw
      case rel => exact ⟨kk + 1, _, by omega, by go_num, rfl, by show _ = _; rw [preK_next]; exact q1.out, hM_1.next⟩
      case measure => simp [intOf]; omega
    · have hkx : kk = len := by omega
      subst hkx
      have hend := preK_end 1 kk f K
      go_wp2
      go_ret
      exact ⟨ret_int (by have := hm.out; omega), hM.only, hM.fin o hlen' _⟩

theorem markIntS_any (d : D) (H : Has d (.list 1)) (hL : LenOk d) : MkD 11 d := by
  obtain ⟨len, f, rfl, HRa⟩ := H.list
  exact markIntS_list len f HRa hL

-- @FI
end Go.Proofs.YtpmcilgfijhhlaaGreat

/- What the laws' function heldIntS answers. -/
namespace Go.Proofs.YtpmcilgfijhhlaaGreat
open Go.RowKit Go.Deep

-- @IF{laws.heldIntS}
set_option maxRecDepth 100000 in
set_option maxHeartbeats 8000000 in
theorem heldIntS_list (len : Nat) (f : Nat → Nat → D) (HRa : ∀ i, i < len → HasRow 1 (f i)) : HlD 12 (.list 1 len f) := by
  intro S v w K k hK hv hbd
  subst hK
  change DIn S w (.list 1 len fun i j => markD (f i j) (preK 1 f K i j)) v at hv
  obtain ⟨a, cap, rfl, hlen⟩ := hv.list_eq
  unfold maxLen at hlen
  go_enter Tryz.func12, Tryz.ntmps12
  go_wp2
  go_loopw [1, 5] (fun q i wr => ∃ (kk : Nat) (m : Int), kk ≤ len ∧ i = .int .i64 kk ∧ q = .int .i64 m ∧ Hid (m = (preK 1 f K kk 0 : Nat)) ∧ Ext w wr) (fun _ i _ => len - (intOf i).toNat)
  case atStart => exact ⟨0, _, Nat.zero_le _, rfl, rfl, (rfl : (K : Int) = (preK 1 f K 0 0 : Nat)), Ext.refl _⟩
  case round =>
    obtain ⟨kk, m, hk, rfl, rfl, hm, hE⟩ := hrel
    by_cases hlt : kk < len
    · have HR := HRa kk hlt
      obtain ⟨cap2, b, off, C, hsl, _, hb, ec, hx⟩ := (hv.ext hE).at hlt
      cases hsl
      have hp_0 : preK 1 f K kk 0 ≤ 1000000000 := Nat.le_trans (preK_le hlt (by decide)) hbd
      have hm0 : 0 ≤ m := by have := hm.out; omega
      have hm1 : m ≤ 1000000000 := by have := hm.out; omega
      have q0 : Hid (m = (preK 1 f K kk 0 : Nat)) := hm
      have e0 := ec 0 (by decide)
      have h0 := hx 0 (by decide)
      dsimp only at h0
      obtain ⟨x0, hd0⟩ := (show Has (f kk 0) .int from HR 0 (by decide)).int
      rw [hd0] at h0
      have y0 : C 0 = .int .i64 (m) := by rw [q0.out]; exact h0.1
      rw [y0] at e0
      have hp_1 : preK 1 f K kk 1 = preK 1 f K kk 0 + 1 := by rw [preK_succ, hd0]; rfl
      have hb_1 : preK 1 f K kk 1 ≤ 1000000000 := Nat.le_trans (preK_le hlt (by decide)) hbd
      have q1 : Hid (m + 1 = (preK 1 f K kk 1 : Nat)) := by show _ = _; have := q0.out; omega
      clear h0 y0
      simp only [Nat.add_zero, Nat.mul_one] at e0
      clear hx ec HR
      have HC : Hid (∀ W, Ext wr W → W.cell? ⟨b, off + kk, none⟩ = some (.int .i64 (m))) := fun W hW => by
        rw [hW.cell hb]; exact e0
      clear e0
      have hcur : Ext wr wr := Ext.refl _
      have e0 := HC.out _ hcur
      go_wp2
      go_roundw
      case rel => exact ⟨kk + 1, _, by omega, by go_num, rfl, by show _ = _; rw [preK_next]; exact q1.out, hE.trans hcur⟩
      case measure => simp [intOf]; omega
    · have hkx : kk = len := by omega
      subst hkx
      have hend := preK_end 1 kk f K
      go_wp2
      go_ret
      exact ⟨ret_int (by have := hm.out; omega), hE⟩

theorem heldIntS_any (d : D) (H : Has d (.list 1)) : HlD 12 d := by
  obtain ⟨len, f, rfl, HRa⟩ := H.list
  exact heldIntS_list len f HRa

-- @FI
end Go.Proofs.YtpmcilgfijhhlaaGreat
