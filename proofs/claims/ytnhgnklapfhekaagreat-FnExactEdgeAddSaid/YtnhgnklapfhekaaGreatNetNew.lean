/- How a net begins. -/
import Derived.Test.YtnhgnklapfhekaaGreatNetEdge
import Derived.Deep.Onto
namespace Go.Proofs.YtnhgnklapfhekaaGreat
open Go.RowKit Go.Deep

set_option maxHeartbeats 400000 in
theorem newTableN_any (n : Int) (w : World) : Calls Tryz.prog 49 #[.int .i64 n] w fun e w' => ∃ B, e = .returned (.agg #[.slice none 0 0, .map (some B), .int .i64 n]) ∧ w.heap.size ≤ B ∧ (∀ val, MapF w' B [] val) ∧ Ext w w' := by
  have hmm := @run_makeMap Tryz.prog
  have hM := fun o val => MapF.new (w.alloc o) val
  simp only [World.size_alloc] at hM
  go_enter Tryz.func49, Tryz.ntmps49
  go_wp2
  exact bodyPost_ret (v := .agg #[.slice none 0 0, .map (some (w.heap.size + 1)), .int .i64 n]) (by simp [results, Tryz.results49, go_sem]) rfl ⟨_, rfl, by omega, hM _, ((Ext.refl _).alloc _).alloc _⟩
set_option maxHeartbeats 400000 in
theorem newTableE_any (n : Int) (w : World) : Calls Tryz.prog 50 #[.int .i64 n] w fun e w' => ∃ B, e = .returned (.agg #[.slice none 0 0, .map (some B), .int .i64 n]) ∧ w.heap.size ≤ B ∧ (∀ val, MapF w' B [] val) ∧ Ext w w' := by
  have hmm := @run_makeMap Tryz.prog
  have hM := fun o val => MapF.new (w.alloc o) val
  simp only [World.size_alloc] at hM
  go_enter Tryz.func50, Tryz.ntmps50
  go_wp2
  exact bodyPost_ret (v := .agg #[.slice none 0 0, .map (some (w.heap.size + 1)), .int .i64 n]) (by simp [results, Tryz.results50, go_sem]) rfl ⟨_, rfl, by omega, hM _, ((Ext.refl _).alloc _).alloc _⟩

/-- A net without anything. -/
def net0 (mN mE mO mI nb : Nat) (nn ne : Int) : NetD where
  rows := fun _ => .slice none 0 0
  lists := fun _ => []
  mb := fun j => match j with | .n => mN | .e => mE | .o => mO | .i => mI
  keys := fun _ => []
  val := fun _ _ => undef
  nn := nn
  ne := ne
  nb := nb
theorem lists_e (N : NetD) (v' : Value) (id : Int) (u : Value) (x y : Int) (vo vi : Value) : ((((((N.push .e v' id).put .e id u).push (.o x) vo id).put .o x vo).push (.i y) vi id).put .i y vi).lists .e = N.lists .e ++ [id] := by
  simp [NetD.push, NetD.put, upd]
theorem keys_n (N : NetD) (v' : Value) (id : Int) (u : Value) (x y : Int) (vo vi : Value) : ((((((N.push .e v' id).put .e id u).push (.o x) vo id).put .o x vo).push (.i y) vi id).put .i y vi).keys .n = N.keys .n := by
  simp [NetD.push, NetD.put, upd]
theorem keys_e (N : NetD) (v' : Value) (id : Int) (u : Value) (x y : Int) (vo vi : Value) : ((((((N.push .e v' id).put .e id u).push (.o x) vo id).put .o x vo).push (.i y) vi id).put .i y vi).keys .e = putKeys (N.keys .e) id := by
  simp [NetD.push, NetD.put, upd]
theorem lists_n (N : NetD) (v' : Value) (id : Int) (u : Value) (x y : Int) (vo vi : Value) : ((((((N.push .e v' id).put .e id u).push (.o x) vo id).put .o x vo).push (.i y) vi id).put .i y vi).lists .n = N.lists .n := by
  simp [NetD.push, NetD.put, upd]
theorem val_n (N : NetD) (v' : Value) (id : Int) (u : Value) (x y : Int) (vo vi : Value) : ((((((N.push .e v' id).put .e id u).push (.o x) vo id).put .o x vo).push (.i y) vi id).put .i y vi).val .n = N.val .n := by
  simp [NetD.push, NetD.put, upd]
theorem val_e (N : NetD) (v' : Value) (id : Int) (u : Value) (x y : Int) (vo vi : Value) : ((((((N.push .e v' id).put .e id u).push (.o x) vo id).put .o x vo).push (.i y) vi id).put .i y vi).val .e = putVal (N.val .e) id u := by
  simp [NetD.push, NetD.put, upd]
theorem NetIn.low {w : World} {base base' c : Nat} {N : NetD} (h : NetIn w base c N) (e : base' ≤ base) : NetIn w base' c N :=
  ⟨h.blk, Nat.le_trans e h.lo, fun r => (h.own r).mono e, h.len, h.sep, h.maps, fun j => Nat.le_trans e (h.mlo j), h.minj, h.outs, h.ins, h.shp⟩
theorem net0_in {W : World} {base mN mE mO mI : Nat} {nn ne : Int} (hN : ∀ val, MapF W mN [] val) (hE : ∀ val, MapF W mE [] val) (hO : ∀ val, MapF W mO [] val) (hI : ∀ val, MapF W mI [] val) (bN : base ≤ mN) (bE : base ≤ mE) (bO : base ≤ mO) (bI : base ≤ mI) (hb : base ≤ W.heap.size)
    (d1 : mN ≠ mE) (d2 : mN ≠ mO) (d3 : mN ≠ mI) (d4 : mE ≠ mO) (d5 : mE ≠ mI) (d6 : mO ≠ mI) :
    NetIn (W.alloc (.cells #[.slice none 0 0, .map (some mN), .int .i64 nn, .slice none 0 0, .map (some mE), .int .i64 ne, .map (some mO), .map (some mI)] 108)) base 0 (net0 mN mE mO mI W.heap.size nn ne) := by
  refine ⟨heap_alloc_new W _, hb, fun r => World.ownsRow_nil _ _ _ _, fun r => Nat.le_refl _, fun r r' _ x h => (by cases h), fun j => ?_, fun j => ?_, fun j j' e => ?_, fun k => ?_, fun k => ?_, fun j k hk => ?_⟩
  · cases j
    · exact (hN _).ext ((Ext.refl _).alloc _)
    · exact (hE _).ext ((Ext.refl _).alloc _)
    · exact (hO _).ext ((Ext.refl _).alloc _)
    · exact (hI _).ext ((Ext.refl _).alloc _)
  · cases j <;> assumption
  · cases j <;> cases j' <;> first | rfl | exact absurd e d1 | exact absurd e d2 | exact absurd e d3 | exact absurd e d4 | exact absurd e d5 | exact absurd e d6 | exact absurd e.symm d1 | exact absurd e.symm d2 | exact absurd e.symm d3 | exact absurd e.symm d4 | exact absurd e.symm d5 | exact absurd e.symm d6
  · rw [if_neg (by simp [net0])]; rfl
  · rw [if_neg (by simp [net0])]; rfl
  · simp [net0] at hk
end Go.Proofs.YtnhgnklapfhekaaGreat
