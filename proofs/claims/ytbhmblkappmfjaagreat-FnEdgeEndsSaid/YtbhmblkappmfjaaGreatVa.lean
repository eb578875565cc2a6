/- What the small functions answer: whether a number lies between two, whether a text may be one. -/
import Derived.Test.YtbhmblkappmfjaaGreatValMem
import Derived.Test.YtbhmblkappmfjaaGreatIn1
namespace Go.Proofs.YtbhmblkappmfjaaGreat
open Go.RowKit Go.Deep

def chrOk (s : ByteArray) (k : Nat) : Bool := decide (32 ≤ chr s k ∧ chr s k ≤ 126 ∧ ¬ chr s k = 39)
def textB (s : ByteArray) : Bool := (List.range s.size).all (chrOk s) && decide (s.size ≤ 16)

theorem text_no (s : ByteArray) (k : Nat) (hk : k < s.size) (h : chrOk s k = false) : textB s = false := by
  have : (List.range s.size).all (chrOk s) = false := by
    rw [List.all_eq_false]
    exact ⟨k, List.mem_range.2 hk, by simp [h]⟩
  simp [textB, this]
theorem chr_no (s : ByteArray) (k : Nat) (hk : k < s.size) (h : (s[k].toNat : Int) < 32 ∨ 126 < (s[k].toNat : Int) ∨ (s[k].toNat : Int) = 39) : chrOk s k = false := by
  unfold chrOk
  rw [chr_eq s k hk]
  exact decide_eq_false (by omega)
theorem chr_yes (s : ByteArray) (k : Nat) (hk : k < s.size) (h1 : 32 ≤ (s[k].toNat : Int)) (h2 : (s[k].toNat : Int) ≤ 126) (h3 : ¬ (s[k].toNat : Int) = 39) : chrOk s k = true := by
  unfold chrOk
  rw [chr_eq s k hk]
  exact decide_eq_true ⟨h1, h2, h3⟩
theorem chr_upto {s : ByteArray} {k : Nat} (hno : ∀ j, j < k → chrOk s j = true) (h : chrOk s k = true) : ∀ j, j < k + 1 → chrOk s j = true := by
  intro j hj
  rcases Nat.lt_succ_iff_lt_or_eq.1 hj with h' | h'
  · exact hno j h'
  · subst h'; exact h
theorem text_end (s : ByteArray) (k : Nat) (hk : ¬ k < s.size) (h : ∀ j, j < k → chrOk s j = true) : decide (s.size ≤ 16) = textB s := by
  have : (List.range s.size).all (chrOk s) = true := by
    rw [List.all_eq_true]
    intro j hj
    exact h j (by have := List.mem_range.1 hj; omega)
  simp [textB, this]

set_option maxHeartbeats 1000000 in
theorem l1Text_any (s : ByteArray) (w : World) (hs : s.size ≤ maxLen) : Calls Tryz.prog 62 #[.string s] w fun e w' => e = .returned (.bool (textB s)) ∧ w' = w := by
  unfold maxLen at hs
  go_enter Tryz.func62, Tryz.ntmps62
  go_wp2
  go_loop [3] (fun i => ∃ k : Nat, k ≤ s.size ∧ i = .int .i64 k ∧ ∀ j, j < k → chrOk s j = true) (fun i => s.size - (intOf i).toNat)
  case atStart => exact ⟨0, Nat.zero_le _, rfl, fun j h => by omega⟩
  case round =>
    obtain ⟨k, hk, rfl, hno⟩ := hrel
    by_cases hlt : k < s.size
    · by_cases hbad : (s[k].toNat : Int) < 32 ∨ 126 < (s[k].toNat : Int) ∨ (s[k].toNat : Int) = 39
      · have hfin : Hid (textB s = false) := text_no s k hlt (chr_no s k hlt hbad)
        rcases hbad with hb | hb | hb
        · go_wp2
          go_ret
          exact ⟨ret_bool hfin.out.symm, rfl⟩
        · go_wp2
          go_ret
          exact ⟨ret_bool hfin.out.symm, rfl⟩
        · have hb2 : ((s[k].toNat : Int) == 39) = true := by rw [hb]; rfl
          have hb3 : ¬ (s[k].toNat : Int) < 32 := by omega
          have hb4 : ¬ 126 < (s[k].toNat : Int) := by omega
          clear hb
          go_wp2
          go_ret
          exact ⟨ret_bool hfin.out.symm, rfl⟩
      · have hb1 : 32 ≤ (s[k].toNat : Int) := by omega
        have hb2 : (s[k].toNat : Int) ≤ 126 := by omega
        have hb3 : ((s[k].toNat : Int) == 39) = false := by simp; omega
        have hok : Hid (chrOk s k = true) := chr_yes s k hlt hb1 hb2 (by omega)
        clear hbad
        go_wp2
        go_round
        case rel => exact ⟨k + 1, by omega, by go_num, chr_upto hno hok.out⟩
        case measure => simp [intOf]; omega
    · have hfin : Hid (decide (s.size ≤ 16) = textB s) := text_end s k hlt hno
      clear hno
      go_wp2
      go_ret
      refine ⟨ret_bool ?_, rfl⟩
      rw [← hfin.out, Bool.eq_iff_iff]; simp; omega

set_option maxHeartbeats 1000000 in
theorem textOk_any (s : ByteArray) (w : World) (hs : s.size ≤ maxLen) : Calls Tryz.prog 87 #[.string s] w fun e w' => e = .returned (.bool (textB s)) ∧ w' = w := by
  unfold maxLen at hs
  by_cases h16 : 16 < s.size
  · have hfin : Hid (textB s = false) := by
      have : decide (s.size ≤ 16) = false := decide_eq_false (by omega)
      show _ = _
      simp [textB, this]
    go_enter Tryz.func87, Tryz.ntmps87
    go_wp2
    go_ret
    exact ⟨ret_bool hfin.out.symm, rfl⟩
  · go_enter Tryz.func87, Tryz.ntmps87
    go_wp2
    go_loop [3] (fun i => ∃ k : Nat, k ≤ s.size ∧ i = .int .i64 k ∧ ∀ j, j < k → chrOk s j = true) (fun i => s.size - (intOf i).toNat)
    case atStart => exact ⟨0, Nat.zero_le _, rfl, fun j h => by omega⟩
    case round =>
      obtain ⟨k, hk, rfl, hno⟩ := hrel
      by_cases hlt : k < s.size
      · by_cases hbad : (s[k].toNat : Int) < 32 ∨ 126 < (s[k].toNat : Int) ∨ (s[k].toNat : Int) = 39
        · have hfin : Hid (textB s = false) := text_no s k hlt (chr_no s k hlt hbad)
          rcases hbad with hb | hb | hb
          · go_wp2
            go_ret
            exact ⟨ret_bool hfin.out.symm, rfl⟩
          · go_wp2
            go_ret
            exact ⟨ret_bool hfin.out.symm, rfl⟩
          · have hb2 : ((s[k].toNat : Int) == 39) = true := by rw [hb]; rfl
            have hb3 : ¬ (s[k].toNat : Int) < 32 := by omega
            have hb4 : ¬ 126 < (s[k].toNat : Int) := by omega
            clear hb
            go_wp2
            go_ret
            exact ⟨ret_bool hfin.out.symm, rfl⟩
        · have hb1 : 32 ≤ (s[k].toNat : Int) := by omega
          have hb2 : (s[k].toNat : Int) ≤ 126 := by omega
          have hb3 : ((s[k].toNat : Int) == 39) = false := by simp; omega
          have hok : Hid (chrOk s k = true) := chr_yes s k hlt hb1 hb2 (by omega)
          clear hbad
          go_wp2
          go_round
          case rel => exact ⟨k + 1, by omega, by go_num, chr_upto hno hok.out⟩
          case measure => simp [intOf]; omega
      · have hfin : Hid (textB s = true) := by
          have h1 := text_end s k hlt hno
          show _ = _
          rw [← h1]; exact decide_eq_true (by omega)
        clear hno
        go_wp2
        go_ret
        exact ⟨ret_bool hfin.out.symm, rfl⟩
end Go.Proofs.YtbhmblkappmfjaaGreat

/- Which values are ok, as plain mathematics: as the model says it (okN), and as the program says it (okI); the two are one. -/
namespace Go.Proofs.YtbhmblkappmfjaaGreat

/-- The model's: down to a depth. -/
def okN : Nat → V → Bool
  | 0, .mk k n t l => if k = 0 then t.toList == [] && l.length == 0 && n == 0 else if k = 1 then t.toList == [] && l.length == 0 && inB n 0 1 else if k = 2 then t.toList == [] && l.length == 0 && inB n (-1000000000) 1000000000
      else if k = 3 then n == 0 && l.length == 0 && textB t else if k = 5 ∨ k = 6 then t.toList == [] && l.length == 0 && inB n 0 1000000000
      else if k = 4 then l.length == 0 && n == 0 && t.toList == [] else false
  | 1, .mk k n t l => if k = 0 then t.toList == [] && l.length == 0 && n == 0 else if k = 1 then t.toList == [] && l.length == 0 && inB n 0 1 else if k = 2 then t.toList == [] && l.length == 0 && inB n (-1000000000) 1000000000
      else if k = 3 then n == 0 && l.length == 0 && textB t else if k = 5 ∨ k = 6 then t.toList == [] && l.length == 0 && inB n 0 1000000000
      else if k = 4 then l.length == 0 && n == 0 && t.toList == [] else false
  | d + 2, .mk k n t l => if k = 0 then t.toList == [] && l.length == 0 && n == 0 else if k = 1 then t.toList == [] && l.length == 0 && inB n 0 1 else if k = 2 then t.toList == [] && l.length == 0 && inB n (-1000000000) 1000000000
      else if k = 3 then n == 0 && l.length == 0 && textB t else if k = 5 ∨ k = 6 then t.toList == [] && l.length == 0 && inB n 0 1000000000
      else if k = 4 then l.all (okN (d + 1)) && n == 0 && t.toList == [] && decide (l.length ≤ 6) else false

/-- What a value's kind leaves empty. -/
def restB (x : V) : Bool := ((x.kind == 1 || x.kind == 2 || x.kind == 5 || x.kind == 6) || x.num == 0) && (x.kind == 3 || x.text.toList == []) && (x.kind == 4 || x.list.length == 0)

/-- The program's: how many may still be within each other. -/
def okI : Nat → V → Bool
  | 0, _ => false
  | d + 1, .mk k n t l => restB (.mk k n t l) && (if k = 0 then true else if k = 1 then n == 0 || n == 1 else if k = 2 then inB n (-1000000000) 1000000000 else if k = 3 then textB t
      else if k = 4 then decide (l.length ≤ 6) && l.all (okI d) else if k = 5 then inB n 0 1000000000 else if k = 6 then inB n 0 1000000000 else false)

theorem bool01 (n : Int) : (n == 0 || n == 1) = inB n 0 1 := by
  unfold inB
  rw [Bool.eq_iff_iff]; simp; omega

theorem okI_kinds (d : Nat) (k n : Int) (t : ByteArray) (l : List V) (hk : ¬ k = 4) : okI (d + 1) (.mk k n t l) = okN (d + 1) (.mk k n t l) := by
  have e : ∀ c : Int, (k == c) = decide (k = c) := fun c => rfl
  cases d with
  | zero =>
    unfold okI okN restB V.kind V.num V.text V.list
    by_cases h0 : k = 0
    · subst h0; simp [Bool.and_comm, Bool.and_left_comm, Bool.and_assoc]
    by_cases h1 : k = 1
    · subst h1; simp [bool01]
    by_cases h2 : k = 2
    · subst h2; simp
    by_cases h3 : k = 3
    · subst h3; simp
    by_cases h5 : k = 5
    · subst h5; simp
    by_cases h6 : k = 6
    · subst h6; simp
    simp [h0, h1, h2, h3, h5, h6, hk]
  | succ d =>
    unfold okI okN restB V.kind V.num V.text V.list
    by_cases h0 : k = 0
    · subst h0; simp [Bool.and_comm, Bool.and_left_comm, Bool.and_assoc]
    by_cases h1 : k = 1
    · subst h1; simp [bool01]
    by_cases h2 : k = 2
    · subst h2; simp
    by_cases h3 : k = 3
    · subst h3; simp
    by_cases h5 : k = 5
    · subst h5; simp
    by_cases h6 : k = 6
    · subst h6; simp
    simp [h0, h1, h2, h3, h5, h6, hk]

theorem okI_eq : ∀ (d : Nat) (x : V), okI (d + 1) x = okN (d + 1) x := by
  intro d
  induction d with
  | zero =>
    intro x
    obtain ⟨k, n, t, l⟩ := x
    by_cases hk : k = 4
    · subst hk
      unfold okI okN restB V.kind V.num V.text V.list
      cases l with
      | nil => simp
      | cons a r => simp [okI]
    · exact okI_kinds _ k n t l hk
  | succ d ih =>
    intro x
    obtain ⟨k, n, t, l⟩ := x
    by_cases hk : k = 4
    · subst hk
      have : okI (d + 1) = okN (d + 1) := funext ih
      unfold okI okN restB V.kind V.num V.text V.list
      rw [this]
      simp [Bool.and_comm, Bool.and_left_comm, Bool.and_assoc]
    · exact okI_kinds _ k n t l hk
end Go.Proofs.YtbhmblkappmfjaaGreat

/- What spec.l1Ok and spec.ValueOk answer. -/
namespace Go.Proofs.YtbhmblkappmfjaaGreat
open Go.RowKit Go.Deep

def L1 (d : Nat) : Prop := ∀ (x : V) (lo : Nat) (v : Value) (w : World), ValIn lo w x v →
  Calls Tryz.prog 49 #[v, .int .i64 (d : Int)] w fun e w' => e = .returned (.bool (okN d x)) ∧ Ext w w'

theorem okN_flat (d : Nat) (k n : Int) (t : ByteArray) (l : List V) (hk : ¬ k = 4) : okN d (.mk k n t l) = okN 0 (.mk k n t l) := by
  match d with
  | 0 => rfl
  | 1 => unfold okN; rfl
  | d + 2 => unfold okN; simp [hk]

set_option maxHeartbeats 1000000 in
theorem l1Ok_flat (d : Nat) (k n : Int) (t : ByteArray) (l : List V) (hk : ¬ k = 4) (lo : Nat) (v : Value) (w : World) (hv : ValIn lo w (.mk k n t l) v) :
    Calls Tryz.prog 49 #[v, .int .i64 (d : Int)] w fun e w' => e = .returned (.bool (okN d (.mk k n t l))) ∧ Ext w w' := by
  rw [okN_flat d k n t l hk]
  obtain ⟨a, cap, rfl, wk, wn, ht, hl, hL⟩ := hv.open
  have hk4 : (k == 4) = false := by simp [hk]
  clear wk wn hL
  by_cases h0 : k = 0
  · subst h0
    go_enter Tryz.func49, Tryz.ntmps49
    go_wp2
    all_goals go_ret
    all_goals exact ⟨ret_bool (by simp [okN, *]), (Ext.refl _).alloc _⟩
  by_cases h1 : k = 1
  · subst h1
    go_enter Tryz.func49, Tryz.ntmps49
    go_wp2_with (go_at_call 11; refine (l1In_any _ _ _ _).mono ?_; rintro e w' ⟨rfl, rfl⟩)
    all_goals go_ret
    all_goals exact ⟨ret_bool (by simp [okN, *]), (Ext.refl _).alloc _⟩
  by_cases h2 : k = 2
  · subst h2
    go_enter Tryz.func49, Tryz.ntmps49
    go_wp2_with (go_at_call 11; refine (l1In_any _ _ _ _).mono ?_; rintro e w' ⟨rfl, rfl⟩)
    all_goals go_ret
    all_goals exact ⟨ret_bool (by simp [okN, *]), (Ext.refl _).alloc _⟩
  by_cases h3 : k = 3
  · subst h3
    go_enter Tryz.func49, Tryz.ntmps49
    go_wp2_with (go_at_call 62; refine (l1Text_any _ _ ht).mono ?_; rintro e w' ⟨rfl, rfl⟩)
    all_goals go_ret
    all_goals exact ⟨ret_bool (by simp [okN, *]), (Ext.refl _).alloc _⟩
  by_cases h5 : k = 5
  · subst h5
    go_enter Tryz.func49, Tryz.ntmps49
    go_wp2_with (go_at_call 11; refine (l1In_any _ _ _ _).mono ?_; rintro e w' ⟨rfl, rfl⟩)
    all_goals go_ret
    all_goals exact ⟨ret_bool (by simp [okN, *]), (Ext.refl _).alloc _⟩
  by_cases h6 : k = 6
  · subst h6
    go_enter Tryz.func49, Tryz.ntmps49
    go_wp2_with (go_at_call 11; refine (l1In_any _ _ _ _).mono ?_; rintro e w' ⟨rfl, rfl⟩)
    all_goals go_ret
    all_goals exact ⟨ret_bool (by simp [okN, *]), (Ext.refl _).alloc _⟩
  have e0 : (k == 0) = false := by simp [h0]
  have e1 : (k == 1) = false := by simp [h1]
  have e2 : (k == 2) = false := by simp [h2]
  have e3 : (k == 3) = false := by simp [h3]
  have e5 : (k == 5) = false := by simp [h5]
  have e6 : (k == 6) = false := by simp [h6]
  have hfin : Hid (okN 0 (.mk k n t l) = false) := by show _ = _; simp [okN, h0, h1, h2, h3, h5, h6, hk]
  clear h0 h1 h2 h3 h5 h6 hk
  go_enter Tryz.func49, Tryz.ntmps49
  go_wp2
  all_goals go_ret
  all_goals exact ⟨ret_bool hfin.out.symm, (Ext.refl _).alloc _⟩

theorem okN_list (d : Nat) (n : Int) (t : ByteArray) (l : List V) : okN d (.mk 4 n t l) = ((decide (2 ≤ d) && l.all (okN (d - 1)) || l.length == 0) && n == 0 && t.toList == [] && decide (l.length ≤ 6)) := by
  match d with
  | 0 => unfold okN; cases l <;> simp
  | 1 => unfold okN; cases l <;> simp
  | d + 2 => unfold okN; cases l <;> simp

set_option maxHeartbeats 1000000 in
theorem l1Ok_step (d : Nat) (hd : d ≤ 3) (ih : 2 ≤ d → L1 (d - 1)) : L1 d := by
  intro x lo v w hv
  obtain ⟨k, n, t, l⟩ := x
  by_cases hk : k = 4
  · subst hk
    obtain ⟨a, cap, rfl, wk, wn, ht, hl, hL⟩ := hv.open
    unfold maxLen at hl
    clear wk wn
    go_enter Tryz.func49, Tryz.ntmps49
    go_wp2
    all_goals
      generalize hW1 : w.alloc _ = W1
      have hE1 : Ext w W1 := by subst hW1; exact (Ext.refl _).alloc _
      have b0 : W1.cell? ⟨w.heap.size, 3, none⟩ = some (.slice a l.length cap) := by subst hW1; simp
      have b1 : W1.cell? ⟨w.heap.size, 1, none⟩ = some (.int .i64 n) := by subst hW1; simp
      have b2 : W1.cell? ⟨w.heap.size, 2, none⟩ = some (.string t) := by subst hW1; simp
      have bs : w.heap.size < W1.heap.size := by subst hW1; simp
      clear hW1
      go_loopw [6] (fun i wr => ∃ k : Nat, k ≤ l.length ∧ i = .int .i64 k ∧ Ext W1 wr ∧ ∀ j (hj : j < l.length), j < k → 2 ≤ d ∧ okN (d - 1) l[j] = true) (fun i _ => l.length - (intOf i).toNat)
      case atStart => exact ⟨0, Nat.zero_le _, rfl, Ext.refl _, fun j _ h => by omega⟩
      case round =>
        obtain ⟨k, hk, rfl, hE, hall⟩ := hrel
        have hE0 : Ext w wr := hE1.trans hE
        rw [← hE.cell (p := ⟨w.heap.size, 3, none⟩) bs] at b0
        rw [← hE.cell (p := ⟨w.heap.size, 1, none⟩) bs] at b1
        rw [← hE.cell (p := ⟨w.heap.size, 2, none⟩) bs] at b2
        by_cases hlt : k < l.length
        · by_cases hd2 : d < 2
          · have hfin : Hid (okN d (.mk 4 n t l) = false) := by
              show _ = _
              have h1 : decide (2 ≤ d) = false := decide_eq_false (by omega)
              have h2 : (l.length == 0) = false := by simp; intro h; subst h; simp at hlt
              rw [okN_list, h1, h2]; rfl
            have hd3 : (d : Int) < 2 := by omega
            clear ih hall
            go_wp2
            go_ret
            exact ⟨ret_bool hfin.out.symm, hE0⟩
          · obtain ⟨cap2, b, off, hsl, _, _, hcs⟩ := (hL.ext hE0).at (by omega)
            cases hsl
            obtain ⟨d0, d1, d2, d3, g0, g1, g2, g3, hx⟩ := hcs k hlt
            clear hcs
            have hcall := ih (by omega) l[k] lo _ wr hx
            have e : ((d - 1 : Nat) : Int) = (d : Int) - 1 := by omega
            rw [e] at hcall
            have hd3 : 2 ≤ (d : Int) := by omega
            clear ih e
            cases hok : okN (d - 1) l[k]
            · have hfin : Hid (okN d (.mk 4 n t l) = false) := by
                show _ = _
                have h1 : l.all (okN (d - 1)) = false := by
                  rw [List.all_eq_false]
                  exact ⟨l[k], List.getElem_mem _, by simp [hok]⟩
                have h2 : (l.length == 0) = false := by simp; intro h; subst h; simp at hlt
                rw [okN_list, h1, h2]; simp
              rw [hok] at hcall
              go_wp2_with (go_at_call 49; refine hcall.mono ?_; rintro e w' ⟨rfl, hE2⟩)
              go_ret
              exact ⟨ret_bool hfin.out.symm, hE0.trans hE2⟩
            · rw [hok] at hcall
              go_wp2_with (go_at_call 49; refine hcall.mono ?_; rintro e w' ⟨rfl, hE2⟩)
              go_roundw
              case rel =>
                refine ⟨k + 1, by omega, by go_num, hE.trans hE2, fun j hj h => ?_⟩
                rcases Nat.lt_succ_iff_lt_or_eq.1 h with h' | h'
                · exact hall j hj h'
                · subst h'; exact ⟨by omega, hok⟩
              case measure => simp [intOf]; omega
        · have hfin : Hid (okN d (.mk 4 n t l) = (n == 0 && t.toList == [] && decide (l.length ≤ 6))) := by
            show _ = _
            have h1 : (decide (2 ≤ d) && l.all (okN (d - 1)) || l.length == 0) = true := by
              by_cases h0 : l.length = 0
              · simp [h0]
              · have h2 : l.all (okN (d - 1)) = true := by
                  rw [List.all_eq_true]
                  intro y hy
                  obtain ⟨j, hj, rfl⟩ := List.getElem_of_mem hy
                  exact (hall j hj (by omega)).2
                have h3 : 2 ≤ d := (hall 0 (by omega) (by omega)).1
                simp [h2, h3]
            rw [okN_list, h1]; simp
          clear ih hall
          go_wp2
          all_goals go_ret
          all_goals exact ⟨ret_bool (by rw [hfin.out]; simp [*]; try omega), hE0⟩
  · exact l1Ok_flat d k n t l hk lo v w hv
theorem l1Ok_any : ∀ d, d ≤ 3 → L1 d := by
  intro d
  induction d with
  | zero => intro hd; exact l1Ok_step 0 hd (fun h => by omega)
  | succ d ih => intro hd; exact l1Ok_step (d + 1) hd (fun _ => ih (by omega))

set_option maxHeartbeats 400000 in
theorem specValueOk_any (x : V) (lo : Nat) (v : Value) (w : World) (hv : ValIn lo w x v) :
    Calls Tryz.prog 28 #[v] w fun e w' => e = .returned (.bool (okN 3 x)) ∧ Ext w w' := by
  have hcall := fun W (hW : Ext w W) => l1Ok_any 3 (by omega) x lo v W (hv.ext hW)
  obtain ⟨kk, nn, tt, aa, ll, cc, rfl⟩ := hv.shape
  go_enter Tryz.func28, Tryz.ntmps28
  go_wp2_with (go_at_call 49; refine (hcall _ ((Ext.refl _).alloc _)).mono ?_; rintro e w' ⟨rfl, hE2⟩)
  go_ret
  exact ⟨rfl, ((Ext.refl _).alloc _).trans hE2⟩
end Go.Proofs.YtbhmblkappmfjaaGreat
