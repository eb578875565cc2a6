/- An argument that reads as data lies in memory. -/
import Derived.Test.YteijgejpenlgjaaGreatDa
import Derived.ProofKit
import Derived.Deep.Slices
namespace Go.Proofs.YteijgejpenlgjaaGreat
open Go.RowKit Go.Deep Go.WideShapes Go.ChangeShapes

/-- Whatever reads as data of type T lies in memory as a row r. -/
def Opens {H : Type} (enc : TypeId × Value → H) (W : World) (sp : Nat → Bool) (T r fuel : Nat) : Prop :=
 ∀ (cs : List Value) (x : DataW H × List MemPlace), DataW.trod enc Tryz.prog W 0 sp true fuel T cs = some x → ∃ d : Nat → D, cs.length = (rowsOf r).length ∧ HasRow r d ∧ ∀ j, j < (rowsOf r).length → DIn anyB W (d j) (cs.getD j undef)

theorem open_slice {H : Type} {enc : TypeId × Value → H} {W : World} {sp : Nat → Bool} {T E r fuel : Nat} (hu : Tryz.prog.underlying T = some (.slice E)) (hn : Tryz.prog.cellsOf E = (rowsOf r).length) (hpos : 0 < (rowsOf r).length)
  (el : ∀ m, m < fuel → Opens enc W sp E r m) {cs : List Value} {x : DataW H × List MemPlace} (h : DataW.trod enc Tryz.prog W 0 sp true fuel T cs = some x) : ∃ d c, cs = [c] ∧ Has d (.list r) ∧ DIn anyB W d c := by
 rcases DataW.trod_slice hu h with ⟨hc, _⟩ | ⟨a, len, cap, elems, rest, n', hn', hc, _, _, hle, hcap, hel, hat, _⟩
 ·
  exact ⟨.list (rowsOf r).length 0 (fun _ _ => .int 0), _, hc, ⟨r, rfl, rfl, fun i hi => by omega⟩, ⟨none, 0, 0, 0, rfl, Nat.zero_le _, fun h => by omega, fun i hi => by omega⟩⟩
 ·
  rw [hn] at hat
  obtain ⟨b, o, spot⟩ := a
  have each : ∀ i, i < len → ∃ q : (Nat → Value) × (Nat → D), W.cell? ((⟨b, o, spot⟩ : Addr).add (i * (rowsOf r).length)) ≠ none ∧ HasRow r q.2 ∧ ∀ j, j < (rowsOf r).length → W.cell? (((⟨b, o, spot⟩ : Addr).add (i * (rowsOf r).length)).add j) = some (q.1 j) ∧ DIn anyB W (q.2 j) (q.1 j) := by
   intro i hi
   have hb := hat i hi
   rw [List.getElem?_eq_getElem (by omega)] at hb
   obtain ⟨cs', h1, h2⟩ := Option.bind_eq_some_iff.1 hb
   obtain ⟨d, hl, hr, hd⟩ := el n' (by omega) cs' _ h2
   obtain ⟨_, hl2, hs⟩ := World.cells?_some h1
   have hcell : ∀ j, j < (rowsOf r).length → W.cell? (((⟨b, o, spot⟩ : Addr).add (i * (rowsOf r).length)).add j) = some (cs'.getD j undef) := by
    intro j hj
    rw [hs j hj, List.getD_eq_getElem?_getD, List.getElem?_eq_getElem (by omega)]
    rfl
   refine ⟨(fun j => cs'.getD j undef, d), ?_, hr, fun j hj => ⟨hcell j hj, hd j hj⟩⟩
   have h0 := hcell 0 hpos
   have e : ∀ q : Addr, q.add 0 = q := fun q => by simp [Addr.add]
   rw [e] at h0
   rw [h0]
   exact Option.some_ne_none _
  have hspot : 0 < len → spot = none := by
   intro h0
   obtain ⟨q, h1, _, h2⟩ := each 0 h0
   have := (h2 0 hpos).1
   have e : ((⟨b, o, spot⟩ : Addr).add (0 * (rowsOf r).length)).add 0 = ⟨b, o, spot⟩ := by simp [Addr.add]
   rw [e] at this
   simpa using World.cell?_spot this
  have hadd : ∀ i j, i < len → ((⟨b, o, spot⟩ : Addr).add (i * (rowsOf r).length)).add j = ⟨b, o + i * (rowsOf r).length + j, none⟩ := by
   intro i j hi
   have := hspot (by omega)
   subst this
   rw [add_plain, add_plain]
  obtain ⟨q, hq⟩ := choose_lt each
  refine ⟨.list (rowsOf r).length len (fun i => (q i).2), .slice (some ⟨b, o, spot⟩) len cap, hc, ⟨r, rfl, rfl, fun i hi j hj => (hq i hi).2.1 j hj⟩, ⟨some ⟨b, o, spot⟩, cap, b, o, rfl, by omega, fun h0 => ⟨by rw [hspot h0], trivial, ?_⟩, fun i hi j hj => ⟨(q i).1 j, ?_, ((hq i hi).2.2 j hj).2⟩⟩⟩
  ·
   have h3 := ((hq 0 h0).2.2 0 hpos).1
   rw [hadd 0 0 h0] at h3
   have := World.block_lt_of_cell? _ _ h3
   simpa using this
  ·
   have h3 := ((hq i hi).2.2 j hj).1
   rw [hadd i j hi] at h3
   exact h3
theorem open_string {H : Type} {enc : TypeId × Value → H} {W : World} {sp : Nat → Bool} (fuel : Nat) : Opens enc W sp 9 0 fuel := by
 intro cs x h
 obtain ⟨t, e, _, wt⟩ := DataW.trod_string Tryz.underlying9 h
 subst e
 refine ⟨fun _ => .str t, rfl, fun j hj => ?_, fun j hj => ?_⟩
 ·
  match j, hj with
  | 0, _ => exact rfl
 ·
  match j, hj with
  | 0, _ => exact ⟨rfl, wt⟩
theorem len2 {α : Type} {cs : List α} (h : cs.length = 2) : ∃ c0 c1, cs = [c0, c1] := by
 match cs, h with
 | [c0, c1], _ => exact ⟨c0, c1, rfl⟩
theorem len3 {α : Type} {cs : List α} (h : cs.length = 3) : ∃ c0 c1 c2, cs = [c0, c1, c2] := by
 match cs, h with
 | [c0, c1, c2], _ => exact ⟨c0, c1, c2, rfl⟩
theorem len4 {α : Type} {cs : List α} (h : cs.length = 4) : ∃ c0 c1 c2 c3, cs = [c0, c1, c2, c3] := by
 match cs, h with
 | [c0, c1, c2, c3], _ => exact ⟨c0, c1, c2, c3, rfl⟩
theorem len5 {α : Type} {cs : List α} (h : cs.length = 5) : ∃ c0 c1 c2 c3 c4, cs = [c0, c1, c2, c3, c4] := by
 match cs, h with
 | [c0, c1, c2, c3, c4], _ => exact ⟨c0, c1, c2, c3, c4, rfl⟩
set_option maxHeartbeats 2000000 in
theorem open_Value {H : Type} {enc : TypeId × Value → H} {W : World} {sp : Nat → Bool} (fuel : Nat) : Opens enc W sp 28 2 fuel := by
 induction fuel using Nat.strongRecOn with
 | ind fuel ih =>
  intro cs x h
  obtain ⟨xs, n, hn, _, hl, hlen, hf⟩ := DataW.trod_struct Tryz.underlying28 h
  have hl2 : cs.length = 4 := hl.trans (by kernel_rfl)
  clear hl
  obtain ⟨c0, c1, c2, c3, rfl⟩ := len4 hl2
  clear hl2
  obtain ⟨y0, y1, y2, y3, rfl⟩ := len4 hlen
  clear hlen
  have n0 : Tryz.prog.cellsOf 3 = 1 := by kernel_rfl
  have n1 : Tryz.prog.cellsOf 3 = 1 := by kernel_rfl
  have n2 : Tryz.prog.cellsOf 9 = 1 := by kernel_rfl
  have n3 : Tryz.prog.cellsOf 26 = 1 := by kernel_rfl
  have f0 := hf 0 _ rfl
  simp [n0] at f0
  obtain ⟨k0, e0, _, w0⟩ := DataW.trod_int Tryz.underlying3 f0
  simp at e0
  subst e0
  have f1 := hf 1 _ rfl
  simp [n1] at f1
  obtain ⟨k1, e1, _, w1⟩ := DataW.trod_int Tryz.underlying3 f1
  simp at e1
  subst e1
  have f2 := hf 2 _ rfl
  simp [n2] at f2
  obtain ⟨k2, e2, _, w2⟩ := DataW.trod_string Tryz.underlying9 f2
  simp at e2
  subst e2
  have f3 := hf 3 _ rfl
  simp [n3] at f3
  obtain ⟨d3, v3, e3, H3, h3⟩ := open_slice (E := 28) (r := 2) Tryz.underlying26 (by kernel_rfl) (by decide) (fun m hm => ih m (by omega)) f3
  simp at e3
  subst e3
  refine ⟨fun j => match j with | 0 => .int k0 | 1 => .int k1 | 2 => .str k2 | _ => d3, rfl, fun j hj => ?_, fun j hj => ?_⟩
  ·
   match j, hj with
   | 0, _ => exact rfl
   | 1, _ => exact rfl
   | 2, _ => exact rfl
   | 3, _ => exact H3
  ·
   match j, hj with
   | 0, _ => exact ⟨rfl, w0⟩
   | 1, _ => exact ⟨rfl, w1⟩
   | 2, _ => exact ⟨rfl, w2⟩
   | 3, _ => exact h3
set_option maxHeartbeats 2000000 in
theorem open_Prop {H : Type} {enc : TypeId × Value → H} {W : World} {sp : Nat → Bool} (fuel : Nat) : Opens enc W sp 155 3 fuel := by
 intro cs x h
 obtain ⟨xs, n, hn, _, hl, hlen, hf⟩ := DataW.trod_struct Tryz.underlying155 h
 have hl2 : cs.length = 5 := hl.trans (by kernel_rfl)
 clear hl
 obtain ⟨c0, c1, c2, c3, c4, rfl⟩ := len5 hl2
 clear hl2
 obtain ⟨y0, y1, rfl⟩ := len2 hlen
 clear hlen
 have n0 : Tryz.prog.cellsOf 9 = 1 := by kernel_rfl
 have n1 : Tryz.prog.cellsOf 28 = 4 := by kernel_rfl
 have f0 := hf 0 _ rfl
 simp [n0] at f0
 obtain ⟨k0, e0, _, w0⟩ := DataW.trod_string Tryz.underlying9 f0
 simp at e0
 subst e0
 have f1 := hf 1 _ rfl
 simp [n1] at f1
 obtain ⟨s1, _, S1, t1⟩ := open_Value _ _ _ f1
 refine ⟨fun j => match j with | 0 => .str k0 | 1 => s1 0 | 2 => s1 1 | 3 => s1 2 | _ => s1 3, rfl, fun j hj => ?_, fun j hj => ?_⟩
 ·
  match j, hj with
  | 0, _ => exact rfl
  | 1, _ => exact S1 0 (by decide)
  | 2, _ => exact S1 1 (by decide)
  | 3, _ => exact S1 2 (by decide)
  | 4, _ => exact S1 3 (by decide)
 ·
  match j, hj with
  | 0, _ => exact ⟨rfl, w0⟩
  | 1, _ => exact t1 0 (by decide)
  | 2, _ => exact t1 1 (by decide)
  | 3, _ => exact t1 2 (by decide)
  | 4, _ => exact t1 3 (by decide)
set_option maxHeartbeats 2000000 in
theorem open_Node {H : Type} {enc : TypeId × Value → H} {W : World} {sp : Nat → Bool} (fuel : Nat) : Opens enc W sp 75 4 fuel := by
 intro cs x h
 obtain ⟨xs, n, hn, _, hl, hlen, hf⟩ := DataW.trod_struct Tryz.underlying75 h
 have hl2 : cs.length = 3 := hl.trans (by kernel_rfl)
 clear hl
 obtain ⟨c0, c1, c2, rfl⟩ := len3 hl2
 clear hl2
 obtain ⟨y0, y1, y2, rfl⟩ := len3 hlen
 clear hlen
 have n0 : Tryz.prog.cellsOf 3 = 1 := by kernel_rfl
 have n1 : Tryz.prog.cellsOf 72 = 1 := by kernel_rfl
 have n2 : Tryz.prog.cellsOf 73 = 1 := by kernel_rfl
 have f0 := hf 0 _ rfl
 simp [n0] at f0
 obtain ⟨k0, e0, _, w0⟩ := DataW.trod_int Tryz.underlying3 f0
 simp at e0
 subst e0
 have f1 := hf 1 _ rfl
 simp [n1] at f1
 obtain ⟨d1, v1, e1, H1, h1⟩ := open_slice (E := 9) (r := 0) Tryz.underlying72 (by kernel_rfl) (by decide) (fun m _ => open_string m) f1
 simp at e1
 subst e1
 have f2 := hf 2 _ rfl
 simp [n2] at f2
 obtain ⟨d2, v2, e2, H2, h2⟩ := open_slice (E := 155) (r := 3) Tryz.underlying73 (by kernel_rfl) (by decide) (fun m _ => open_Prop m) f2
 simp at e2
 subst e2
 refine ⟨fun j => match j with | 0 => .int k0 | 1 => d1 | _ => d2, rfl, fun j hj => ?_, fun j hj => ?_⟩
 ·
  match j, hj with
  | 0, _ => exact rfl
  | 1, _ => exact H1
  | 2, _ => exact H2
 ·
  match j, hj with
  | 0, _ => exact ⟨rfl, w0⟩
  | 1, _ => exact h1
  | 2, _ => exact h2
set_option maxHeartbeats 2000000 in
theorem open_Edge {H : Type} {enc : TypeId × Value → H} {W : World} {sp : Nat → Bool} (fuel : Nat) : Opens enc W sp 78 5 fuel := by
 intro cs x h
 obtain ⟨xs, n, hn, _, hl, hlen, hf⟩ := DataW.trod_struct Tryz.underlying78 h
 have hl2 : cs.length = 5 := hl.trans (by kernel_rfl)
 clear hl
 obtain ⟨c0, c1, c2, c3, c4, rfl⟩ := len5 hl2
 clear hl2
 obtain ⟨y0, y1, y2, y3, y4, rfl⟩ := len5 hlen
 clear hlen
 have n0 : Tryz.prog.cellsOf 3 = 1 := by kernel_rfl
 have n1 : Tryz.prog.cellsOf 9 = 1 := by kernel_rfl
 have n2 : Tryz.prog.cellsOf 3 = 1 := by kernel_rfl
 have n3 : Tryz.prog.cellsOf 3 = 1 := by kernel_rfl
 have n4 : Tryz.prog.cellsOf 73 = 1 := by kernel_rfl
 have f0 := hf 0 _ rfl
 simp [n0] at f0
 obtain ⟨k0, e0, _, w0⟩ := DataW.trod_int Tryz.underlying3 f0
 simp at e0
 subst e0
 have f1 := hf 1 _ rfl
 simp [n1] at f1
 obtain ⟨k1, e1, _, w1⟩ := DataW.trod_string Tryz.underlying9 f1
 simp at e1
 subst e1
 have f2 := hf 2 _ rfl
 simp [n2] at f2
 obtain ⟨k2, e2, _, w2⟩ := DataW.trod_int Tryz.underlying3 f2
 simp at e2
 subst e2
 have f3 := hf 3 _ rfl
 simp [n3] at f3
 obtain ⟨k3, e3, _, w3⟩ := DataW.trod_int Tryz.underlying3 f3
 simp at e3
 subst e3
 have f4 := hf 4 _ rfl
 simp [n4] at f4
 obtain ⟨d4, v4, e4, H4, h4⟩ := open_slice (E := 155) (r := 3) Tryz.underlying73 (by kernel_rfl) (by decide) (fun m _ => open_Prop m) f4
 simp at e4
 subst e4
 refine ⟨fun j => match j with | 0 => .int k0 | 1 => .str k1 | 2 => .int k2 | 3 => .int k3 | _ => d4, rfl, fun j hj => ?_, fun j hj => ?_⟩
 ·
  match j, hj with
  | 0, _ => exact rfl
  | 1, _ => exact rfl
  | 2, _ => exact rfl
  | 3, _ => exact rfl
  | 4, _ => exact H4
 ·
  match j, hj with
  | 0, _ => exact ⟨rfl, w0⟩
  | 1, _ => exact ⟨rfl, w1⟩
  | 2, _ => exact ⟨rfl, w2⟩
  | 3, _ => exact ⟨rfl, w3⟩
  | 4, _ => exact h4
set_option maxHeartbeats 2000000 in
theorem open_Graph {H : Type} {enc : TypeId × Value → H} {W : World} {sp : Nat → Bool} (fuel : Nat) : Opens enc W sp 25 6 fuel := by
 intro cs x h
 obtain ⟨xs, n, hn, _, hl, hlen, hf⟩ := DataW.trod_struct Tryz.underlying25 h
 have hl2 : cs.length = 4 := hl.trans (by kernel_rfl)
 clear hl
 obtain ⟨c0, c1, c2, c3, rfl⟩ := len4 hl2
 clear hl2
 obtain ⟨y0, y1, y2, y3, rfl⟩ := len4 hlen
 clear hlen
 have n0 : Tryz.prog.cellsOf 22 = 1 := by kernel_rfl
 have n1 : Tryz.prog.cellsOf 23 = 1 := by kernel_rfl
 have n2 : Tryz.prog.cellsOf 3 = 1 := by kernel_rfl
 have n3 : Tryz.prog.cellsOf 3 = 1 := by kernel_rfl
 have f0 := hf 0 _ rfl
 simp [n0] at f0
 obtain ⟨d0, v0, e0, H0, h0⟩ := open_slice (E := 75) (r := 4) Tryz.underlying22 (by kernel_rfl) (by decide) (fun m _ => open_Node m) f0
 simp at e0
 subst e0
 have f1 := hf 1 _ rfl
 simp [n1] at f1
 obtain ⟨d1, v1, e1, H1, h1⟩ := open_slice (E := 78) (r := 5) Tryz.underlying23 (by kernel_rfl) (by decide) (fun m _ => open_Edge m) f1
 simp at e1
 subst e1
 have f2 := hf 2 _ rfl
 simp [n2] at f2
 obtain ⟨k2, e2, _, w2⟩ := DataW.trod_int Tryz.underlying3 f2
 simp at e2
 subst e2
 have f3 := hf 3 _ rfl
 simp [n3] at f3
 obtain ⟨k3, e3, _, w3⟩ := DataW.trod_int Tryz.underlying3 f3
 simp at e3
 subst e3
 refine ⟨fun j => match j with | 0 => d0 | 1 => d1 | 2 => .int k2 | _ => .int k3, rfl, fun j hj => ?_, fun j hj => ?_⟩
 ·
  match j, hj with
  | 0, _ => exact H0
  | 1, _ => exact H1
  | 2, _ => exact rfl
  | 3, _ => exact rfl
 ·
  match j, hj with
  | 0, _ => exact h0
  | 1, _ => exact h1
  | 2, _ => exact ⟨rfl, w2⟩
  | 3, _ => exact ⟨rfl, w3⟩
end Go.Proofs.YteijgejpenlgjaaGreat
