/- What the laws' functions to.. hand back: a copy in new memory of its own. -/
import Derived.Test.YtajepcddoijgoaaDOwn
namespace Go.Proofs.Ytajepcddoijgoaa
open Go.RowKit Go.Deep

def ToD (F : FuncId) (d : D) : Prop := ∀ (S : Nat → Prop) (v : Value) (w : World), DIn S w d v → SmallD d →
  Calls Try.prog F #[v] w fun e w' => ∃ u, e = .returned u ∧ DIn (New w.heap.size w'.heap.size) w' d u ∧ Own w' d (New w.heap.size w'.heap.size) u ∧ Ext w w'

theorem Try.infostring_ : (Try.prog.info? 9).map (fun i => (i.zero, i.size, decide (i.bytes ≤ 1000))) = some (some (.string ⟨#[]⟩), 1, true) := by kernel_rfl
theorem makestring_ (n : Nat) (hn : n ≤ 1048576) (w : World) :
    (Instr.makeSlice 22 (.int .i64 (n : Int)) (.int .i64 (n : Int))).run Try.prog w = .ok (.slice (some ⟨w.heap.size, 0, none⟩) n n) (w.alloc (.cells (madeCells #[.string ⟨#[]⟩] (n)) 9)) := by
  obtain ⟨i, hi, hzz⟩ := Option.map_eq_some_iff.1 Try.infostring_
  simp only [Prod.mk.injEq, decide_eq_true_eq] at hzz
  obtain ⟨hz, hs, hb⟩ := hzz
  have hb2 : i.bytes * n ≤ 1000 * 1048576 := Nat.mul_le_mul hb hn
  have hr := run_make (P := Try.prog) w 22 9 i _ Try.underlying22 hi hz .i64 .i64 n n (by omega) (Int.le_refl _) (by omega) (by omega)
  simp only [Int.toNat_natCast, hs, Nat.mul_one] at hr
  exact hr
set_option maxHeartbeats 2000000 in
theorem toStringS_list (len : Nat) (f : Nat → Nat → D) (HRa : ∀ i, i < len → HasRow 0 (f i)) : ToD 14 (.list 1 len f) := by
  intro S v w hv hsmall
  obtain ⟨a, cap, rfl, _⟩ := hv.list_eq
  obtain ⟨_, hn, hsm⟩ := hsmall
  have hmk := makestring_ len hn
  go_enter Try.func14, Try.ntmps14
  go_wp2
  clear hmk
  generalize hW1 : w.alloc _ = W1
  have hrow : TSt W1 w.heap.size 9 1 len f 0 := by
    subst hW1
    have := World.rowIs_alloc w (madeCells #[.string ⟨#[]⟩] (len)) 9 (fun i => (madeCells #[.string ⟨#[]⟩] (len))[i]?.getD undef) (fun i hi => by simp [hi])
    rw [size_madeCells] at this
    exact TSt.start (by rw [Nat.mul_one]; exact this)
  have hg : Ext w W1 := by subst hW1; exact (Ext.refl _).alloc _
  clear hW1
  go_loopw [4] (fun i wr => ∃ k : Nat, k ≤ len ∧ i = .int .i64 k ∧ Ext w wr ∧ TSt wr w.heap.size 9 1 len f k) (fun i _ => len - (intOf i).toNat)
  case atStart => exact ⟨0, Nat.zero_le _, rfl, hg, hrow⟩
  case round =>
    obtain ⟨k, hk, rfl, hE, hT⟩ := hrel
    by_cases hlt : k < len
    · obtain ⟨cap2, b, off, C, hsl, _, _, ec, hx⟩ := (hv.ext hE).at hlt
      cases hsl
      have HR := HRa k hlt
      have hsk := hsm k hlt
      obtain ⟨F, hr⟩ := hT.row
      have hsz := hr.lt
      obtain ⟨x0, hd0⟩ := (show Has (f k 0) .str from HR 0 (by decide)).str
      have h0 := hx 0 (by decide)
      have e0 := ec 0 (by decide)
      rw [hd0] at h0
      obtain ⟨y0, z0⟩ := h0.str_eq
      rw [y0] at e0
      clear y0
      simp only [Nat.add_zero, Nat.mul_one] at e0
      clear hx ec
      have f0 := hr.frozen k
      have zz0 := hr.cell (i := k) (by omega)
      go_wp2
      go_roundw
      case rel => exact ⟨k + 1, by omega, by go_num, hE.setCell (Nat.le_refl _) _, by
        have := hT.step (Ext.refl _) [.string x0] rfl (fun _ _ => False) (fun j hj => by
          match j, hj with
          | 0, _ => rw [hd0]; exact ⟨⟨rfl, z0⟩, trivial, fun x hx => hx.elim⟩) (fun _ _ _ _ _ x hx => hx.elim)
        rw [Nat.mul_one] at this
        exact this⟩
      case measure => simp [intOf]; omega
    · have hkx : k = len := by omega
      subst hkx
      go_wp2
      go_ret
      have hend := hT.end (by unfold maxLen; omega) k (New w.heap.size wr.heap.size) (fun x h1 h2 => ⟨h1, h2⟩)
      exact ⟨_, rfl, hend.1, hend.2, hE⟩

theorem toStringS_any (d : D) (H : Has d (.list 0)) : ToD 14 d := by
  obtain ⟨len, f, rfl, HRa⟩ := H.list
  exact toStringS_list len f HRa

end Go.Proofs.Ytajepcddoijgoaa
