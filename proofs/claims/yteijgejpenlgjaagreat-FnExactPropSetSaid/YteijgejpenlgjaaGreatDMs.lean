/- Marks: what data are when each number, text and yes or no within has been turned into a mark, one behind the other; a row that is being marked. -/
import Derived.Test.YteijgejpenlgjaaGreatDOwn
import Derived.Laws.BytesArg
import Derived.Test.YteijgejpenlgjaaGreatDa
namespace Go.Proofs.YteijgejpenlgjaaGreat
open Go.RowKit Go.Deep

/-- Of what lay in w nothing but blocks of S may have turned in w'. -/
structure OnlyS (S : Nat → Prop) (w w' : World) : Prop where
  os : w'.os = w.os
  tape : w'.tape = w.tape
  output : w'.output = w.output
  size : w.heap.size ≤ w'.heap.size
  block : ∀ b, b < w.heap.size → ¬ S b → w'.heap[b]? = w.heap[b]?
theorem OnlyS.refl (S : Nat → Prop) (w : World) : OnlyS S w w := ⟨rfl, rfl, rfl, Nat.le_refl _, fun _ _ _ => rfl⟩
theorem OnlyS.trans {S : Nat → Prop} {a b c : World} (h : OnlyS S a b) (k : OnlyS S b c) : OnlyS S a c :=
  ⟨k.os.trans h.os, k.tape.trans h.tape, k.output.trans h.output, Nat.le_trans h.size k.size, fun i hi ho => (k.block i (Nat.lt_of_lt_of_le hi h.size) ho).trans (h.block i hi ho)⟩
theorem OnlyS.of_ext {S : Nat → Prop} {a b : World} (h : Ext a b) : OnlyS S a b := ⟨Below.os h, Below.tape h, Below.output h, Below.size h, fun i hi _ => Below.block h i hi⟩
theorem OnlyS.mono {S S' : Nat → Prop} (hS : ∀ x, S x → S' x) {a b : World} (h : OnlyS S a b) : OnlyS S' a b := ⟨h.os, h.tape, h.output, h.size, fun i hi ho => h.block i hi (fun h' => ho (hS i h'))⟩
theorem OnlyS.setCell {S : Nat → Prop} {a b : World} (h : OnlyS S a b) {p : Addr} (hp : S p.block) (u : Value) : OnlyS S a (b.setCell p u) :=
  ⟨h.os, h.tape, h.output, by simpa using h.size, fun i hi ho => by rw [Below.heap_setCell _ _ _ _ (fun e => ho (by rw [e]; exact hp))]; exact h.block i hi ho⟩
/-- What is new may turn as it likes. -/
theorem OnlyS.toExt {S : Nat → Prop} {a b c : World} (h : Ext a b) (k : OnlyS S b c) (hl : ∀ x, S x → a.heap.size ≤ x) : Ext a c :=
  ⟨k.os.trans (Below.os h), k.tape.trans (Below.tape h), k.output.trans (Below.output h), Nat.le_trans (Below.size h) k.size, fun i hi => by
    rw [k.block i (Nat.lt_of_lt_of_le hi (Below.size h)) (fun h' => by have := hl i h'; omega)]; exact Below.block h i hi⟩
theorem DIn.only {Q S : Nat → Prop} {w w' : World} {d : D} {v : Value} (h : DIn Q w d v) (k : OnlyS S w w') (hq : ∀ x, Q x → ¬ S x) : DIn Q w' d v := h.carry k.size (fun b h1 h2 => k.block b h2 (hq b h1))
theorem Own.only {Q S : Nat → Prop} {w w' : World} {d : D} {v : Value} (h : Own w d Q v) (k : OnlyS S w w') (hq : ∀ x, Q x → ¬ S x) : Own w' d Q v := h.carry k.size (fun b h1 h2 => k.block b h2 (hq b h1))

/-- A number's figures ahead of a text. -/
def digM (m : Int) (acc : ByteArray) : ByteArray :=
  if 0 < m then digM (m / 10) (strOfNums [48 + m % 10] ++ acc) else acc
termination_by m.toNat
decreasing_by omega
/-- The mark of a number. -/
def markM (k : Int) : ByteArray := if k ≤ 0 then ⟨#[109, 48]⟩ else ⟨#[109]⟩ ++ digM k ⟨#[]⟩
theorem digM_size : ∀ (n : Nat) (m : Int) (acc : ByteArray), m.toNat ≤ n → ((digM m acc).size : Int) ≤ acc.size + m.toNat := by
  intro n
  induction n with
  | zero =>
    intro m acc h
    rw [digM, if_neg (by omega)]
    omega
  | succ n ih =>
    intro m acc h
    rw [digM]
    by_cases hm : 0 < m
    · rw [if_pos hm]
      have := ih (m / 10) (strOfNums [48 + m % 10] ++ acc) (by omega)
      have h1 : (strOfNums [48 + m % 10] ++ acc).size = 1 + acc.size := by rw [ByteArray.size_append]; rfl
      rw [h1] at this
      omega
    · rw [if_neg hm]
      omega
theorem markM_size (k : Int) (h : k ≤ 1000000000) : (markM k).size ≤ 1048576 * 1048576 := by
  unfold markM
  by_cases hk : k ≤ 0
  · rw [if_pos hk]
    exact (by decide : 2 ≤ 1048576 * 1048576)
  · rw [if_neg hk, ByteArray.size_append]
    have := digM_size k.toNat k ⟨#[]⟩ (Nat.le_refl _)
    have e1 : (⟨#[109]⟩ : ByteArray).size = 1 := rfl
    have e2 : (⟨#[]⟩ : ByteArray).size = 0 := rfl
    rw [e2] at this
    rw [e1]
    omega

/-- How many marks a cell's data take. -/
def cntD : D → Nat
  | .list n len f => sumN (fun i => sumN (fun j => cntD (f i j)) n) len
  | _ => 1
/-- The mark at which leaf j of element i begins. -/
def preK (n : Nat) (f : Nat → Nat → D) (k0 i j : Nat) : Nat := k0 + sumN (fun i' => sumN (fun j' => cntD (f i' j')) n) i + sumN (fun j' => cntD (f i j')) j
/-- Data, marked from k on. -/
def markD : D → Nat → D
  | .int _, k => .int k
  | .bool _, k => .bool (k % 3 == 0)
  | .str _, k => .str (markM k)
  | .list n len f, k => .list n len fun i j => markD (f i j) (k + sumN (fun i' => sumN (fun j' => cntD (f i' j')) n) i + sumN (fun j' => cntD (f i j')) j)
/-- A cell, marked. -/
def mkCell : D → Nat → Value → Value
  | .int _, k, _ => .int .i64 k
  | .bool _, k, _ => .bool (k % 3 == 0)
  | .str _, k, _ => .string (markM k)
  | .list _ _ _, _, v => v
theorem preK_succ (n : Nat) (f : Nat → Nat → D) (k0 i j : Nat) : preK n f k0 i (j + 1) = preK n f k0 i j + cntD (f i j) := by simp only [preK, sumN]; omega
theorem preK_next (n : Nat) (f : Nat → Nat → D) (k0 i : Nat) : preK n f k0 (i + 1) 0 = preK n f k0 i n := by simp only [preK, sumN]; omega
theorem preK_end (n len : Nat) (f : Nat → Nat → D) (k0 : Nat) : preK n f k0 len 0 = k0 + cntD (.list n len f) := by simp only [preK, sumN, cntD]; omega
theorem preK_le {n len : Nat} {f : Nat → Nat → D} {k0 i j : Nat} (hi : i < len) (hj : j ≤ n) : preK n f k0 i j ≤ k0 + cntD (.list n len f) := by
  have h1 : sumN (fun j' => cntD (f i j')) j ≤ sumN (fun j' => cntD (f i j')) n := sumN_mono _ hj
  have h2 : sumN (fun i' => sumN (fun j' => cntD (f i' j')) n) (i + 1) ≤ sumN (fun i' => sumN (fun j' => cntD (f i' j')) n) len := sumN_mono _ hi
  simp only [sumN] at h2
  simp only [preK, cntD]
  omega

/-- Leaf j' of element i comes ahead of leaf j of element k. -/
def bef (i j' k j : Nat) : Bool := decide (i < k ∨ i = k ∧ j' < j)

/-- Which blocks a row's leaves own. -/
structure MOk (S : Nat → Prop) (b n len : Nat) (P : Nat → Nat → Nat → Prop) : Prop where
  sb : S b
  inS : ∀ i j, i < len → j < n → ∀ x, P i j x → S x ∧ x ≠ b
  disj : ∀ i j i' j', i < len → j < n → i' < len → j' < n → ¬ (i = i' ∧ j = j') → ∀ x, P i j x → ¬ P i' j' x
/-- A row that is being marked: all ahead of leaf j of element k is. -/
structure MSt (S : Nat → Prop) (b off n len : Nat) (f : Nat → Nat → D) (P : Nat → Nat → Nat → Prop) (G : Nat → Nat → Value) (k0 : Nat) (w0 w : World) (k j : Nat) : Prop where
  only : OnlyS S w0 w
  lt : b < w.heap.size
  frz : ∀ o, w.frozen? ⟨b, o, none⟩ = false
  row : ∀ i, i < len → ∀ j', j' < n → w.cell? ⟨b, off + i * n + j', none⟩ = some (if bef i j' k j then mkCell (f i j') (preK n f k0 i j') (G i j') else G i j')
  past : ∀ i, i < len → ∀ j', j' < n → bef i j' k j = true → DIn (P i j') w (markD (f i j') (preK n f k0 i j')) (mkCell (f i j') (preK n f k0 i j') (G i j'))
  fut : ∀ i, i < len → ∀ j', j' < n → bef i j' k j = false → Own w (f i j') (P i j') (G i j')

theorem at_inj {i j k j' n : Nat} (hj : j < n) (hj' : j' < n) (h : i * n + j = k * n + j') : i = k ∧ j = j' := by
  have h1 : (i * n + j) / n = i := by rw [Nat.mul_comm, Nat.mul_add_div (by omega), Nat.div_eq_of_lt hj]; omega
  have h2 : (k * n + j') / n = k := by rw [Nat.mul_comm, Nat.mul_add_div (by omega), Nat.div_eq_of_lt hj']; omega
  rw [h, h2] at h1
  subst h1
  omega
theorem bef_succ {i j' k j : Nat} : bef i j' k (j + 1) = (bef i j' k j || decide (i = k ∧ j' = j)) := by
  simp only [bef, ← Bool.decide_or]
  congr 1
  apply propext
  omega
theorem bef_self {k j : Nat} : bef k j k j = false := by simp [bef]

theorem MSt.ext {S : Nat → Prop} {b off n len : Nat} {f : Nat → Nat → D} {P : Nat → Nat → Nat → Prop} {G : Nat → Nat → Value} {k0 : Nat} {w0 w w' : World} {k j : Nat} (h : MSt S b off n len f P G k0 w0 w k j) (e : Ext w w') : MSt S b off n len f P G k0 w0 w' k j :=
  ⟨h.only.trans (.of_ext e), Nat.lt_of_lt_of_le h.lt e.le, fun o => by rw [World.frozen?_of_block (Below.block e b h.lt)]; exact h.frz o, fun i hi j' hj' => by rw [e.cell h.lt]; exact h.row i hi j' hj',
   fun i hi j' hj' hb => (h.past i hi j' hj' hb).ext e, fun i hi j' hj' hb => (h.fut i hi j' hj' hb).ext e⟩
/-- A number, a text, a yes or no is marked. -/
theorem MSt.scal {S : Nat → Prop} {b off n len : Nat} {f : Nat → Nat → D} {P : Nat → Nat → Nat → Prop} {G : Nat → Nat → Value} {k0 : Nat} {w0 w : World} {k j : Nat} (o : MOk S b n len P) (h : MSt S b off n len f P G k0 w0 w k j) (hk : k < len) (hj : j < n)
    (hd : ∀ W, DIn (P k j) W (markD (f k j) (preK n f k0 k j)) (mkCell (f k j) (preK n f k0 k j) (G k j))) : MSt S b off n len f P G k0 w0 (w.setCell ⟨b, off + k * n + j, none⟩ (mkCell (f k j) (preK n f k0 k j) (G k j))) k (j + 1) := by
  have hnb : ∀ i, i < len → ∀ j', j' < n → ¬ P i j' b := fun i hi j' hj' hx => (o.inS i j' hi hj' b hx).2 rfl
  refine ⟨h.only.setCell o.sb _, by simpa using h.lt, fun x => by rw [World.frozen?_setCell]; exact h.frz x, fun i hi j' hj' => ?_, fun i hi j' hj' hb => ?_, fun i hi j' hj' hb => ?_⟩
  · by_cases he : i = k ∧ j' = j
    · obtain ⟨rfl, rfl⟩ := he
      have hb : bef i j' i (j' + 1) = true := by rw [bef_succ]; simp
      rw [hb, if_pos rfl]
      exact World.cell?_setCell_same _ _ _ (h.row i hi j' hj')
    · have hne : ¬ off + k * n + j = off + i * n + j' := fun h' => he (by have := at_inj (i := k) (k := i) hj hj' (by omega); omega)
      have hb : bef i j' k (j + 1) = bef i j' k j := by rw [bef_succ]; simp [he]
      rw [hb, World.cell?_setCell_other w (a := ⟨b, off + k * n + j, none⟩) (b := ⟨b, off + i * n + j', none⟩) (v := mkCell (f k j) (preK n f k0 k j) (G k j)) (fun h' => hne (congrArg Addr.off h'))]
      exact h.row i hi j' hj'
  · by_cases he : i = k ∧ j' = j
    · obtain ⟨rfl, rfl⟩ := he
      exact hd _
    · have hb' : bef i j' k j = true := by rw [bef_succ] at hb; simpa [he] using hb
      exact (h.past i hi j' hj' hb').setCell (hnb i hi j' hj') _
  · have hb' : bef i j' k j = false := by rw [bef_succ] at hb; simp at hb; exact hb.1
    exact (h.fut i hi j' hj' hb').setCell (hnb i hi j' hj') _
/-- A list within is marked. -/
theorem MSt.lst {S : Nat → Prop} {b off n len : Nat} {f : Nat → Nat → D} {P : Nat → Nat → Nat → Prop} {G : Nat → Nat → Value} {k0 : Nat} {w0 w w' : World} {k j : Nat} (o : MOk S b n len P) (h : MSt S b off n len f P G k0 w0 w k j) (hk : k < len) (hj : j < n)
    (hm : mkCell (f k j) (preK n f k0 k j) (G k j) = G k j) (ho : OnlyS (P k j) w w') (hd : DIn (P k j) w' (markD (f k j) (preK n f k0 k j)) (G k j)) : MSt S b off n len f P G k0 w0 w' k (j + 1) := by
  have hnb : ¬ P k j b := fun hx => (o.inS k j hk hj b hx).2 rfl
  have eb := ho.block b h.lt hnb
  refine ⟨h.only.trans (ho.mono fun x hx => (o.inS k j hk hj x hx).1), Nat.lt_of_lt_of_le h.lt ho.size, fun x => by rw [World.frozen?_of_block eb]; exact h.frz x, fun i hi j' hj' => ?_, fun i hi j' hj' hb => ?_, fun i hi j' hj' hb => ?_⟩
  · rw [World.cell?_of_block eb]
    by_cases he : i = k ∧ j' = j
    · obtain ⟨rfl, rfl⟩ := he
      have hb : bef i j' i (j' + 1) = true := by rw [bef_succ]; simp
      have hr := h.row i hi j' hj'
      rw [bef_self] at hr
      rw [hb, if_pos rfl, hm]
      simpa using hr
    · have hb : bef i j' k (j + 1) = bef i j' k j := by rw [bef_succ]; simp [he]
      rw [hb]
      exact h.row i hi j' hj'
  · by_cases he : i = k ∧ j' = j
    · obtain ⟨rfl, rfl⟩ := he
      rw [hm]
      exact hd
    · have hb' : bef i j' k j = true := by rw [bef_succ] at hb; simpa [he] using hb
      exact (h.past i hi j' hj' hb').only ho (fun x hx hx2 => o.disj i j' k j hi hj' hk hj he x hx hx2)
  · have hb' : bef i j' k j = false := by rw [bef_succ] at hb; simp at hb; exact hb.1
    have he : ¬ (i = k ∧ j' = j) := fun h' => by rw [bef_succ] at hb; simp [h'] at hb
    exact (h.fut i hi j' hj' hb').only ho (fun x hx hx2 => o.disj i j' k j hi hj' hk hj he x hx hx2)
theorem bef_next {i j' k n : Nat} (hj' : j' < n) : bef i j' (k + 1) 0 = bef i j' k n := by
  simp only [bef]
  congr 1
  apply propext
  omega
theorem MSt.next {S : Nat → Prop} {b off n len : Nat} {f : Nat → Nat → D} {P : Nat → Nat → Nat → Prop} {G : Nat → Nat → Value} {k0 : Nat} {w0 w : World} {k : Nat} (h : MSt S b off n len f P G k0 w0 w k n) : MSt S b off n len f P G k0 w0 w (k + 1) 0 :=
  ⟨h.only, h.lt, h.frz, fun i hi j' hj' => by rw [bef_next hj']; exact h.row i hi j' hj', fun i hi j' hj' hb => h.past i hi j' hj' (by rw [← bef_next hj']; exact hb), fun i hi j' hj' hb => h.fut i hi j' hj' (by rw [← bef_next hj']; exact hb)⟩
theorem MSt.start {w : World} {S : Nat → Prop} {n len : Nat} {f : Nat → Nat → D} {v : Value} (h : Own w (.list n len f) S v) (hl : 0 < len) (k0 : Nat) : ∃ cap b off P G, v = .slice (some ⟨b, off, none⟩) len cap ∧ MOk S b n len P ∧ MSt S b off n len f P G k0 w w 0 0 := by
  obtain ⟨a, cap, b, off, P, rfl, ha, hP, hd, hc⟩ := h
  obtain ⟨rfl, h1, h2, h3⟩ := ha hl
  have hb0 : ∀ i j', bef i j' 0 0 = false := fun i j' => by simp [bef]
  refine ⟨cap, b, off, P, fun i j => if hij : i < len ∧ j < n then Classical.choose (hc i hij.1 j hij.2) else undef, rfl, ⟨h1, fun i j hi hj x hx => hP i j hi hj x hx, hd⟩, ⟨OnlyS.refl _ _, h2, h3, fun i hi j hj => ?_, fun i hi j hj hb => ?_, fun i hi j hj hb => ?_⟩⟩
  · rw [hb0]
    rw [dif_pos ⟨hi, hj⟩]
    simpa using (Classical.choose_spec (hc i hi j hj)).1
  · rw [hb0] at hb; cases hb
  · rw [dif_pos ⟨hi, hj⟩]
    exact (Classical.choose_spec (hc i hi j hj)).2
theorem MSt.fin {S : Nat → Prop} {b off n len : Nat} {f : Nat → Nat → D} {P : Nat → Nat → Nat → Prop} {G : Nat → Nat → Value} {k0 : Nat} {w0 w : World} (o : MOk S b n len P) (h : MSt S b off n len f P G k0 w0 w len 0) (hl : len ≤ maxLen) (cap : Nat) :
    DIn S w (markD (.list n len f) k0) (.slice (some ⟨b, off, none⟩) len cap) := by
  refine ⟨_, cap, b, off, rfl, hl, fun _ => ⟨rfl, o.sb, h.lt⟩, fun i hi j hj => ?_⟩
  have hb : bef i j len 0 = true := by simp [bef]; omega
  have hr := h.row i hi j hj
  rw [hb, if_pos rfl] at hr
  exact ⟨_, hr, (h.past i hi j hj hb).mono fun x hx => (o.inS i j hi hj x hx).1⟩
/-- Of a list without anything nothing is marked. -/
theorem mark_nil {S : Nat → Prop} {w : World} {n len : Nat} {f : Nat → Nat → D} {v : Value} (h : Own w (.list n len f) S v) (hl : len = 0) (k0 : Nat) : DIn S w (markD (.list n len f) k0) v := by
  subst hl
  obtain ⟨a, cap, b, off, P, rfl, _⟩ := h
  exact ⟨a, cap, b, off, rfl, Nat.zero_le _, fun h => by omega, fun i hi => by omega⟩
theorem mk_int {Q : Nat → Prop} {W : World} {x : Int} {p : Nat} {v : Value} (h : p ≤ 1000000000) : DIn Q W (markD (.int x) p) (mkCell (.int x) p v) := ⟨rfl, by simp [Lit.wf, IntKind.min, IntKind.max, IntKind.signed, IntKind.bits]; omega⟩
theorem mk_str {Q : Nat → Prop} {W : World} {x : ByteArray} {p : Nat} {v : Value} (h : p ≤ 1000000000) : DIn Q W (markD (.str x) p) (mkCell (.str x) p v) := ⟨rfl, by have := markM_size p (by omega); unfold maxLen; omega⟩
end Go.Proofs.YteijgejpenlgjaaGreat

/- What laws.markText answers: the mark of a number. -/
namespace Go.Proofs.YteijgejpenlgjaaGreat
open Go.RowKit Go.Deep

set_option maxRecDepth 100000 in
set_option maxHeartbeats 1000000 in
theorem markText_mark (k : Int) (w : World) (h0 : 0 ≤ k) (h1 : k ≤ 1000000000) :
  Calls Tryz.prog 68 #[.int .i64 k] w fun e w' => e = .returned (.string (markM k)) ∧ Ext w w' := by
 by_cases hk : k ≤ 0
 ·
  have hfin : Hid (markM k = ⟨#[109, 48]⟩) := by show _ = _; rw [markM, if_pos hk]
  go_enter Tryz.func68, Tryz.ntmps68
  go_wp2
  go_ret
  exact ⟨ret_str hfin.out.symm, Ext.refl _⟩
 ·
  have hfin : Hid (markM k = ⟨#[109]⟩ ++ digM k ⟨#[]⟩) := by show _ = _; rw [markM, if_neg hk]
  go_enter Tryz.func68, Tryz.ntmps68
  go_wp2
  go_loopw [0, 3] (fun n o wr => ∃ (m : Int) (s : ByteArray), n = .int .i64 m ∧ o = .string s ∧ 0 ≤ m ∧ m ≤ 1000000000 ∧ (s.size : Int) + m ≤ 1000000000 ∧ Ext w wr ∧ digM m s = digM k ⟨#[]⟩) (fun n _ _ => (intOf n).toNat)
  case atStart => exact ⟨k, _, rfl, rfl, h0, h1, by show ((0 : Nat) : Int) + k ≤ _; omega, Ext.refl _, rfl⟩
  case round =>
   obtain ⟨m, s, rfl, rfl, hm0, hm1, hsz, hE, hd⟩ := hrel
   by_cases hm : 0 < m
   ·
    have hcv := run_convert_bytes_arg (P := Tryz.prog) (wr.alloc (.cells #[.int .u8 (48 + m % 10)] 5)) 152 5 Tryz.underlying152 Tryz.underlying5 wr.heap.size 0 1 1 [48 + m % 10] rfl (fun i hi => by
     have : i = 0 := by omega
     subst this
     simp) 9 Tryz.underlying9
    have hs1 : (strOfNums [48 + m % 10]).size = 1 := rfl
    have HD : Hid (digM (m / 10) (strOfNums [48 + m % 10] ++ s) = digM k ⟨#[]⟩) := by show _ = _; rw [← hd, digM.eq_1 m, if_pos hm]
    clear hd
    generalize strOfNums [48 + m % 10] = s1 at hcv hs1 HD
    go_wp2
    go_roundw
    case rel => exact ⟨m / 10, s1 ++ s, rfl, rfl, by omega, by omega, by rw [ByteArray.size_append]; omega, hE.alloc _, HD.out⟩
    case measure => simp [intOf]; omega
   ·
    have HD : Hid (s = digM k ⟨#[]⟩) := by show _ = _; rw [← hd, digM, if_neg hm]
    clear hd
    go_wp2
    go_ret
    exact ⟨ret_str (by rw [hfin.out, ← HD.out]), hE⟩
end Go.Proofs.YteijgejpenlgjaaGreat

/- What the laws' functions mark.. do: a list is marked, and its own memory alone turns. -/
namespace Go.Proofs.YteijgejpenlgjaaGreat
open Go.RowKit Go.Deep

/-- Marks a list from K on: its own memory alone turns. -/
def MkD (F : FuncId) (d : D) : Prop := ∀ (S : Nat → Prop) (v : Value) (w : World) (K : Nat) (k : Int), k = K → Own w d S v → d.len! ≤ maxLen → K + cntD d ≤ 1000000000 →
 Calls Tryz.prog F #[v, .int .i64 k] w fun e w' => e = .returned (.int .i64 (k + cntD d)) ∧ OnlyS S w w' ∧ DIn S w' (markD d K) v
/-- Reads the marks back. -/
def HlD (F : FuncId) (d : D) : Prop := ∀ (S : Nat → Prop) (v : Value) (w : World) (K : Nat) (k : Int), k = K → DIn S w (markD d K) v → K + cntD d ≤ 1000000000 →
 Calls Tryz.prog F #[v, .int .i64 k] w fun e w' => e = .returned (.int .i64 (k + cntD d)) ∧ Ext w w'
theorem own_len {w : World} {n len : Nat} {f : Nat → Nat → D} {S : Nat → Prop} {v : Value} (h : Own w (.list n len f) S v) : ∃ a cap, v = .slice a len cap := by
 obtain ⟨a, cap, _, _, _, hv, _⟩ := h
 exact ⟨a, cap, hv⟩
theorem own_shape {w : World} {r : Nat} {d : D} {S : Nat → Prop} {v : Value} (H : Has d (.list r)) (h : Own w d S v) : ∃ a cap, v = .slice a d.len! cap := by
 obtain ⟨len, f, rfl, _⟩ := H.list
 exact own_len h
theorem mkCell_list {d : D} {r : Nat} (H : Has d (.list r)) (k : Nat) (v : Value) : mkCell d k v = v := by
 obtain ⟨len, f, rfl, _⟩ := H.list
 rfl
/-- No list within is longer than lists may be. -/
def LenOk : D → Prop
 | .list n len f => len ≤ maxLen ∧ ∀ i, i < len → ∀ j, j < n → LenOk (f i j)
 | _ => True
theorem LenOk.len {d : D} (h : LenOk d) : d.len! ≤ maxLen := by
 cases d with
 | list n len f => exact h.1
 | _ => exact Nat.zero_le _

set_option maxRecDepth 100000 in
set_option maxHeartbeats 8000000 in
theorem markStringS_list (len : Nat) (f : Nat → Nat → D) (HRa : ∀ i, i < len → HasRow 0 (f i)) (hLO : LenOk (.list 1 len f)) : MkD 66 (.list 1 len f) := by
 intro S v w K k hK hown hlen hbd
 subst hK
 change len ≤ maxLen at hlen
 have hlen' := hlen
 unfold maxLen at hlen
 by_cases h0 : len = 0
 ·
  have hnil := mark_nil hown h0 K
  obtain ⟨a, cap, rfl⟩ := own_len hown
  subst h0
  go_enter Tryz.func66, Tryz.ntmps66
  go_wp2
  go_loopw [1, 5] (fun q i wr => q = .int .i64 (K : Int) ∧ i = .int .i64 0 ∧ wr = w) (fun _ _ _ => 0)
  case atStart => exact ⟨rfl, rfl, rfl⟩
  case round =>
   obtain ⟨rfl, rfl, rfl⟩ := hrel
   go_wp2
   go_ret
   exact ⟨ret_int (by simp [cntD, sumN]), OnlyS.refl _ _, hnil⟩
 obtain ⟨cap, b, off, P, G, rfl, o, hM0⟩ := MSt.start hown (by omega) K
 go_enter Tryz.func66, Tryz.ntmps66
 go_wp2
 go_loopw [1, 5] (fun q i wr => ∃ (kk : Nat) (m : Int), kk ≤ len ∧ i = .int .i64 kk ∧ q = .int .i64 m ∧ Hid (m = (preK 1 f K kk 0 : Nat)) ∧ MSt S b off 1 len f P G K w wr kk 0) (fun _ i _ => len - (intOf i).toNat)
 case atStart => exact ⟨0, _, Nat.zero_le _, rfl, rfl, (rfl : (K : Int) = (preK 1 f K 0 0 : Nat)), hM0⟩
 case round =>
  obtain ⟨kk, m, hk, rfl, rfl, hm, hM⟩ := hrel
  by_cases hlt : kk < len
  ·
   have HR := HRa kk hlt
   have hp_0 : preK 1 f K kk 0 ≤ 1000000000 := Nat.le_trans (preK_le hlt (by decide)) hbd
   have hm0 : 0 ≤ m := by have := hm.out; omega
   have hm1 : m ≤ 1000000000 := by have := hm.out; omega
   have q0 : Hid (m = (preK 1 f K kk 0 : Nat)) := hm
   have hM_0 := hM
   clear hM
   obtain ⟨x0, hd0⟩ := (show Has (f kk 0) .str from HR 0 (by decide)).str
   have hp_1 : preK 1 f K kk 1 = preK 1 f K kk 0 + 1 := by rw [preK_succ, hd0]; rfl
   have hb_1 : preK 1 f K kk 1 ≤ 1000000000 := Nat.le_trans (preK_le hlt (by decide)) hbd
   have q1 : Hid (m + 1 = (preK 1 f K kk 1 : Nat)) := by show _ = _; have := q0.out; omega
   go_wp2_with fail
   refine (markText_mark _ _ (by omega) (by have := q0.out; omega)).mono ?_
   rintro e v1 ⟨rfl, X1⟩
   have hM_0b := hM_0.ext X1
   have z0 : v1.cell? ⟨b, off + kk, none⟩ = some (G kk 0) := by have := hM_0b.row kk hlt 0 (by decide); rw [show bef kk 0 kk 0 = false by simp [bef]] at this; simpa using this
   have fz0 : v1.frozen? ⟨b, off + kk, none⟩ = false := hM_0b.frz _
   have hM_1 := hM_0b.scal o hlt (by decide) (fun W => by rw [hd0]; exact mk_str (by omega))
   rw [show mkCell (f kk 0) (preK 1 f K kk 0) (G kk 0) = .string (markM (m)) by rw [hd0, q0.out]; rfl] at hM_1
   have e1_ : off + kk * 1 + 0 = off + kk := by omega
   rw [e1_] at hM_1
   go_wp2
   go_roundw
   case rel => exact ⟨kk + 1, _, by omega, by go_num, rfl, by show _ = _; rw [preK_next]; exact q1.out, hM_1.next⟩
   case measure => simp [intOf]; omega
  ·
   have hkx : kk = len := by omega
   subst hkx
   have hend := preK_end 1 kk f K
   go_wp2
   go_ret
   exact ⟨ret_int (by have := hm.out; omega), hM.only, hM.fin o hlen' _⟩

theorem markStringS_any (d : D) (H : Has d (.list 0)) (hL : LenOk d) : MkD 66 d := by
 obtain ⟨len, f, rfl, HRa⟩ := H.list
 exact markStringS_list len f HRa hL

end Go.Proofs.YteijgejpenlgjaaGreat

/- How many marks data take. -/
namespace Go.Proofs.YteijgejpenlgjaaGreat
open Go.RowKit Go.Deep

theorem sumN_le {g h : Nat → Nat} {m : Nat} (e : ∀ i, i < m → g i ≤ h i) : sumN g m ≤ sumN h m := by
 induction m with
 | zero => exact Nat.le_refl _
 | succ m ih => simp only [sumN]; have := ih (fun i hi => e i (by omega)); have := e m (by omega); omega
theorem sumN_lin (a b : Nat) (g : Nat → Nat) (m : Nat) : sumN (fun i => a + b * g i) m = a * m + b * sumN g m := by
 induction m with
 | zero => simp [sumN]
 | succ m ih => simp only [sumN, ih, Nat.mul_add, Nat.mul_one]; omega
/-- A list takes at most 24 marks for each element of a list within. -/
theorem cnt_le : ∀ (d : D), SmallD d → cntD d ≤ 1 + 24 * lenD d ∧ (∀ n len f, d = .list n len f → cntD d ≤ 24 * lenD d) := by
 intro d
 induction d with
 | int _ => intro _; exact ⟨by simp [cntD], fun _ _ _ h => by cases h⟩
 | bool _ => intro _; exact ⟨by simp [cntD], fun _ _ _ h => by cases h⟩
 | str _ => intro _; exact ⟨by simp [cntD], fun _ _ _ h => by cases h⟩
 | list n len f ih =>
  rintro ⟨hn, _, hs⟩
  have key : cntD (.list n len f) ≤ 24 * lenD (.list n len f) := by
   show sumN (fun i => sumN (fun j => cntD (f i j)) n) len ≤ 24 * (len + sumN (fun i => sumN (fun j => lenD (f i j)) n) len)
   have h1 : ∀ i, i < len → sumN (fun j => cntD (f i j)) n ≤ 24 + 24 * sumN (fun j => lenD (f i j)) n := by
    intro i hi
    have h2 : sumN (fun j => cntD (f i j)) n ≤ sumN (fun j => 1 + 24 * lenD (f i j)) n := sumN_le (fun j hj => (ih i j (hs i hi j hj)).1)
    rw [sumN_lin] at h2
    omega
   have h3 := sumN_le h1
   rw [sumN_lin] at h3
   omega
  exact ⟨by omega, fun _ _ _ _ => key⟩
theorem cnt_list {d : D} {r : Nat} (H : Has d (.list r)) (hs : SmallD d) : cntD d ≤ 24 * lenD d := by
 obtain ⟨len, f, rfl, _⟩ := H.list
 exact (cnt_le _ hs).2 _ _ _ rfl
theorem small_lenOk : ∀ (d : D), SmallD d → LenOk d := by
 intro d
 induction d with
 | int _ => intro _; trivial
 | bool _ => intro _; trivial
 | str _ => intro _; trivial
 | list n len f ih =>
  rintro ⟨_, hl, hs⟩
  exact ⟨by unfold maxLen; omega, fun i hi j hj => ih i j (hs i hi j hj)⟩
end Go.Proofs.YteijgejpenlgjaaGreat
