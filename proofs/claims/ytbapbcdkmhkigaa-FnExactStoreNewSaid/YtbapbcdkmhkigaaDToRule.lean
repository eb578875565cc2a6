/- What the laws' functions to.. hand back: a copy in new memory of its own. -/
import Derived.Test.YtbapbcdkmhkigaaDToString
namespace Go.Proofs.Ytbapbcdkmhkigaa
open Go.RowKit Go.Deep

set_option maxHeartbeats 4000000 in
theorem toRule_any (x0 : ByteArray) (x1 : ByteArray) (w : World)   :
    Calls Try.prog 15 #[.agg #[.string x0, .string x1]] w fun e w' => e = .returned (.agg #[.string x0, .string x1]) ∧ Ext w w' := by
  go_enter Try.func15, Try.ntmps15
  go_wp2
  refine bodyPost_ret (v := .agg #[.string x0, .string x1]) (by simp [results, Try.results15, go_sem]) rfl ⟨rfl, ?_⟩
  exact (((Ext.refl _).alloc _).alloc _).alloc _

theorem Try.infoRule_ : (Try.prog.info? 45).map (fun i => (i.zero, i.size, decide (i.bytes ≤ 1000))) = some (some (.agg #[.string ⟨#[]⟩, .string ⟨#[]⟩]), 2, true) := by kernel_rfl
theorem makeRule_ (n : Nat) (hn : n ≤ 1048576) (w : World) :
    (Instr.makeSlice 28 (.int .i64 (n : Int)) (.int .i64 (n : Int))).run Try.prog w = .ok (.slice (some ⟨w.heap.size, 0, none⟩) n n) (w.alloc (.cells (madeCells #[.string ⟨#[]⟩, .string ⟨#[]⟩] (n * 2)) 45)) := by
  obtain ⟨i, hi, hzz⟩ := Option.map_eq_some_iff.1 Try.infoRule_
  simp only [Prod.mk.injEq, decide_eq_true_eq] at hzz
  obtain ⟨hz, hs, hb⟩ := hzz
  have hb2 : i.bytes * n ≤ 1000 * 1048576 := Nat.mul_le_mul hb hn
  have hr := run_make (P := Try.prog) w 28 45 i _ Try.underlying28 hi hz .i64 .i64 n n (by omega) (Int.le_refl _) (by omega) (by omega)
  simp only [Int.toNat_natCast, hs] at hr
  exact hr
set_option maxHeartbeats 2000000 in
theorem toRuleS_list (len : Nat) (f : Nat → Nat → D) (HRa : ∀ i, i < len → HasRow 7 (f i)) : ToD 6 (.list 2 len f) := by
  intro S v w hv hsmall
  obtain ⟨a, cap, rfl, _⟩ := hv.list_eq
  obtain ⟨_, hn, hsm⟩ := hsmall
  have hmk := makeRule_ len hn
  go_enter Try.func6, Try.ntmps6
  go_wp2
  clear hmk
  generalize hW1 : w.alloc _ = W1
  have hrow : TSt W1 w.heap.size 45 2 len f 0 := by
    subst hW1
    have := World.rowIs_alloc w (madeCells #[.string ⟨#[]⟩, .string ⟨#[]⟩] (len * 2)) 45 (fun i => (madeCells #[.string ⟨#[]⟩, .string ⟨#[]⟩] (len * 2))[i]?.getD undef) (fun i hi => by simp [hi])
    rw [size_madeCells] at this
    exact TSt.start this
  have hg : Ext w W1 := by subst hW1; exact (Ext.refl _).alloc _
  clear hW1
  go_loopw [4] (fun i wr => ∃ k : Nat, k ≤ len ∧ i = .int .i64 k ∧ Ext w wr ∧ TSt wr w.heap.size 45 2 len f k) (fun i _ => len - (intOf i).toNat)
  case atStart => exact ⟨0, Nat.zero_le _, rfl, hg, hrow⟩
  case round =>
    obtain ⟨k, hk, rfl, hE, hT⟩ := hrel
    by_cases hlt : k < len
    · obtain ⟨cap2, b, off, C, hsl, _, _, ec, hx⟩ := (hv.ext hE).at hlt
      cases hsl
      have HR := HRa k hlt
      have hsk := hsm k hlt
      obtain ⟨F, hr⟩ := hT.row
      have hsz := hr.lt
      obtain ⟨x0, hd0⟩ := (show Has (f k 0) .str from HR 0 (by decide)).str
      have h0 := hx 0 (by decide)
      have e0 := ec 0 (by decide)
      rw [hd0] at h0
      obtain ⟨y0, z0⟩ := h0.str_eq
      rw [y0] at e0
      clear y0
      obtain ⟨x1, hd1⟩ := (show Has (f k 1) .str from HR 1 (by decide)).str
      have h1 := hx 1 (by decide)
      have e1 := ec 1 (by decide)
      rw [hd1] at h1
      obtain ⟨y1, z1⟩ := h1.str_eq
      rw [y1] at e1
      clear y1
      simp only [Nat.add_zero] at e0
      clear hx ec
      have hcall := toRule_any x0 x1 wr 
      go_wp2_with fail
      refine hcall.mono ?_
      rintro e w' ⟨rfl, hE2⟩
      have hrx := hr.of_block (Below.block hE2 _ hsz)
      clear hcall
      have ff0 := hrx.frozen (k * 2)
      have zz0 := hrx.cell (i := k * 2) (by omega)
      have ff1 := hrx.frozen (k * 2 + 1)
      have zz1 := hrx.cell (i := k * 2 + 1) (by omega)
      go_wp2
      go_roundw
      case rel =>
        refine ⟨k + 1, by omega, by go_num, setRow_ext (hE.trans hE2) (Nat.le_refl _) [.string x0, .string x1] _, hT.step hE2 [.string x0, .string x1] rfl (fun _ _ => False) (fun j hj => ?_) (fun j j' hj hj' hne x hx hx2 => ?_)⟩
        · match j, hj with
          | 0, _ => rw [hd0]; exact ⟨⟨rfl, z0⟩, trivial, fun x hx => hx.elim⟩
          | 1, _ => rw [hd1]; exact ⟨⟨rfl, z1⟩, trivial, fun x hx => hx.elim⟩
        · exact hx
      case measure => simp [intOf]; omega
    · have hkx : k = len := by omega
      subst hkx
      go_wp2
      go_ret
      have hend := hT.end (by unfold maxLen; omega) k (New w.heap.size wr.heap.size) (fun x h1 h2 => ⟨h1, h2⟩)
      exact ⟨_, rfl, hend.1, hend.2, hE⟩

theorem toRuleS_any (d : D) (H : Has d (.list 7)) : ToD 6 d := by
  obtain ⟨len, f, rfl, HRa⟩ := H.list
  exact toRuleS_list len f HRa

end Go.Proofs.Ytbapbcdkmhkigaa
