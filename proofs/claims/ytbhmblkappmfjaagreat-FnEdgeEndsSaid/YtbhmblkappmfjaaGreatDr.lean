/- The reader of a drawn code: what (*spec.l1Rd).pick answers. -/
import Derived.Test.YtbhmblkappmfjaaGreatBase
import Derived.Deep.RegionHeld3
import Derived.Deep.AppendLies
namespace Go.Proofs.YtbhmblkappmfjaaGreat
open Go.RowKit Go.Deep

/-- A reader lies in block R, at its place p; what it reads lies elsewhere. -/
structure RdAt (w : World) (R p : Nat) : Prop where
  lt : R < w.heap.size
  st : ∃ (a : Option Addr) (n cap b off : Nat) (c : Nat → Int), w.cell? ⟨R, 0, none⟩ = some (.slice a n cap) ∧ n ≤ 2000 ∧ (0 < n → a = some ⟨b, off, none⟩ ∧ b < R) ∧ ∀ i, i < n → w.cell? ⟨b, off + i, none⟩ = some (.int .u8 (c i)) ∧ 0 ≤ c i ∧ c i ≤ 255
  pos : w.cell? ⟨R, 1, none⟩ = some (.int .i64 p)
  free : w.frozen? ⟨R, 1, none⟩ = false

theorem RdAt.ext {w w' : World} {R p : Nat} (h : RdAt w R p) (e : Ext w w') : RdAt w' R p := by
  obtain ⟨lt, ⟨a, n, cap, b, off, c, h0, hn, ha, hc⟩, hp, hf⟩ := h
  refine ⟨Nat.lt_of_lt_of_le lt e.le, ⟨a, n, cap, b, off, c, ?_, hn, ha, fun i hi => ?_⟩, ?_, ?_⟩
  · rw [e.cell lt]; exact h0
  · have hb := (ha (by omega)).2
    rw [e.cell (by dsimp only; omega)]; exact hc i hi
  · rw [e.cell lt]; exact hp
  · rw [Below.frozen e (p := ⟨R, 1, none⟩) lt]; exact hf

theorem RdAt.step {w : World} {R p : Nat} (h : RdAt w R p) : RdAt (w.setCell ⟨R, 1, none⟩ (.int .i64 ((p + 1 : Nat) : Int))) R (p + 1) := by
  obtain ⟨lt, ⟨a, n, cap, b, off, c, h0, hn, ha, hc⟩, hp, hf⟩ := h
  refine ⟨by simpa using lt, ⟨a, n, cap, b, off, c, ?_, hn, ha, fun i hi => ?_⟩, ?_, ?_⟩
  · simp [go_sem, h0]
  · have hb := (ha (by omega)).2
    have := (hc i hi).1
    rw [World.cell?_setCell_far _ _ _ _ (by dsimp only; omega)]
    simp [this, (hc i hi).2.1, (hc i hi).2.2]
  · simp [go_sem, hp]
  · simp [go_sem, hf]

theorem xor_nonneg (x y : Int) (h0 : 0 ≤ x) (h1 : x < 4611686018427387904) (h2 : 0 ≤ y) (h3 : y < 4611686018427387904) : 0 ≤ bits BinOp.xor IntKind.i64 x y := by
  obtain ⟨a, rfl⟩ := Int.eq_ofNat_of_zero_le h0
  obtain ⟨b, rfl⟩ := Int.eq_ofNat_of_zero_le h2
  have ha : a < 2 ^ 62 := by omega
  have hb : b < 2 ^ 62 := by omega
  have hx := Nat.xor_lt_two_pow ha hb
  have e : (BitVec.ofInt 64 (a : Int) ^^^ BitVec.ofInt 64 (b : Int)).toNat = a ^^^ b := by
    rw [BitVec.toNat_xor, BitVec.ofInt_natCast, BitVec.ofInt_natCast, BitVec.toNat_ofNat, BitVec.toNat_ofNat, Nat.mod_eq_of_lt (by omega), Nat.mod_eq_of_lt (by omega)]
  show 0 ≤ IntKind.i64.wrap ((BitVec.ofInt 64 (a : Int) ^^^ BitVec.ofInt 64 (b : Int)).toNat : Int)
  rw [e]
  generalize a ^^^ b = c at hx
  have : IntKind.i64.wrap (c : Int) = (c : Int) := by
    simp [IntKind.wrap, IntKind.signed, IntKind.bits]
    omega
  rw [this]
  omega

set_option maxRecDepth 100000 in
set_option maxHeartbeats 4000000 in
theorem pick_any (R p n : Nat) (w : World) (h : RdAt w R p) (hp : p ≤ 1000000) (hn : 1 ≤ n) (hn2 : n ≤ 1000) :
    Calls Tryz.prog 19 #[.pointer (some ⟨R, 0, none⟩), .int .i64 n] w fun e w' => ∃ m : Nat, e = .returned (.int .i64 m) ∧ m < n ∧ RdAt w' R (p + 1) ∧ Only R (R + 1) w w' := by
  have hst := h.step
  have hon : Only R (R + 1) w (w.setCell ⟨R, 1, none⟩ (.int .i64 ((p + 1 : Nat) : Int))) := (Only.refl R (R + 1) w).setCell (p := ⟨R, 1, none⟩) (Nat.le_refl R) (Nat.lt_succ_self R) _
  obtain ⟨lt, ⟨a, ln, cap, b, off, c, h0, hln, ha, hc⟩, hpos, hf⟩ := h
  by_cases hz : ln = 0
  · subst hz
    clear hc ha
    go_enter Tryz.func19, Tryz.ntmps19
    go_wp2
    go_ret
    exact ⟨0, rfl, by omega, hst, hon⟩
  obtain ⟨rfl, hbR⟩ := ha (by omega)
  have hne : b ≠ R := by omega
  have hzb : ((ln : Int) == 0) = false := by simp; omega
  have hnb : decide ((n : Int) < 1) = false := decide_eq_false (by omega)
  by_cases hlt : p < ln
  · obtain ⟨g0, g1, g2⟩ := hc p hlt
    clear hc ha
    generalize c p = u at g0 g1 g2
    go_enter Tryz.func19, Tryz.ntmps19
    go_wp2
    go_ret
    have h1 := Int.emod_nonneg u (show (n : Int) ≠ 0 by omega)
    have h2 := Int.emod_lt_of_pos u (show (0 : Int) < (n : Int) by omega)
    exact ⟨(u % n).toNat, ret_int (Int.toNat_of_nonneg h1).symm, by omega, hst, hon⟩
  · have e1 : ((p : Int) % (ln : Int)) = ((p % ln : Nat) : Int) := (Int.natCast_emod p ln).symm
    have e2 : (((p : Int) * 7 + 3) % (ln : Int)) = (((p * 7 + 3) % ln : Nat) : Int) := by rw [Int.natCast_emod]; rfl
    have m1 : p % ln < ln := Nat.mod_lt _ (by omega)
    have m2 : (p * 7 + 3) % ln < ln := Nat.mod_lt _ (by omega)
    obtain ⟨g0, g1, g2⟩ := hc _ m1
    obtain ⟨i0, i1, i2⟩ := hc _ m2
    have e3 : ((p : Int) / (ln : Int)) = ((p / ln : Nat) : Int) := (Int.natCast_ediv p ln).symm
    have m3 : p / ln ≤ p := Nat.div_le_self _ _
    clear hc ha
    generalize c (p % ln) = u at g0 g1 g2
    generalize c ((p * 7 + 3) % ln) = v at i0 i1 i2
    generalize p % ln = j1 at e1 m1 g0
    generalize (p * 7 + 3) % ln = j2 at e2 m2 i0
    generalize p / ln = q at e3 m3
    go_enter Tryz.func19, Tryz.ntmps19
    go_wp2_with fail
    go_quiet (fail)
    go_wp2
    go_ret
    have hx := xor_nonneg (u * 131 + v * 1117 + p * 29 + q * 53) ((u * 131 + v * 1117 + p * 29 + q * 53) / 64) (by omega) (by omega) (by omega) (by omega)
    generalize bits BinOp.xor IntKind.i64 (u * 131 + v * 1117 + p * 29 + q * 53) ((u * 131 + v * 1117 + p * 29 + q * 53) / 64) = X at hx ⊢
    have h0 : X.tmod n = X % n := Int.tmod_eq_emod_of_nonneg hx
    have h1 := Int.emod_nonneg X (show (n : Int) ≠ 0 by omega)
    have h2 := Int.emod_lt_of_pos X (show (0 : Int) < (n : Int) by omega)
    exact ⟨(X % n).toNat, ret_int (h0.trans (Int.toNat_of_nonneg h1).symm), by omega, hst.ext (Ext.drewN (Ext.refl _) _), hon.trans (.of_ext (Ext.drewN (Ext.refl _) _))⟩
end Go.Proofs.YtbhmblkappmfjaaGreat

/- The reader of a drawn code: what spec.l1Open, (*spec.l1Rd).of, (*spec.l1Rd).one and spec.l1Many answer. -/
namespace Go.Proofs.YtbhmblkappmfjaaGreat
open Go.RowKit Go.Deep

/-- The slice v lies in w as bytes. -/
structure CodeIn (w : World) (a : Option Addr) (n cap : Nat) : Prop where
  len : n ≤ 1048576
  cap : n ≤ cap
  st : ∃ (b off : Nat) (c : Nat → Int), (0 < n → a = some ⟨b, off, none⟩ ∧ b < w.heap.size) ∧ ∀ i, i < n → w.cell? ⟨b, off + i, none⟩ = some (.int .u8 (c i)) ∧ 0 ≤ c i ∧ c i ≤ 255
theorem CodeIn.ext {w w' : World} {a : Option Addr} {n cap : Nat} (h : CodeIn w a n cap) (e : Ext w w') : CodeIn w' a n cap := by
  obtain ⟨h1, h2, b, off, c, ha, hc⟩ := h
  refine ⟨h1, h2, b, off, c, fun h0 => ⟨(ha h0).1, Nat.lt_of_lt_of_le (ha h0).2 e.le⟩, fun i hi => ?_⟩
  have hb := (ha (by omega)).2
  rw [e.cell (by dsimp only; omega)]; exact hc i hi

set_option maxRecDepth 100000 in
set_option maxHeartbeats 1000000 in
theorem l1Open_any (a : Option Addr) (n cap : Nat) (w : World) (h : CodeIn w a n cap) :
    Calls Tryz.prog 9 #[.slice a n cap] w fun e w' => e = .returned (.pointer (some ⟨w.heap.size, 0, none⟩)) ∧ RdAt w' w.heap.size 0 ∧ Ext w w' ∧ w'.heap.size = w.heap.size + 1 := by
  obtain ⟨hlen, hcap, b, off, c, ha, hc⟩ := h
  have key : ∀ (n' : Nat) (o : Obj), n' ≤ n → n' ≤ 2000 → o = .cells #[.slice a n' cap, .int .i64 0] 56 → RdAt (w.alloc o) w.heap.size 0 := by
    intro n' o h1 h2 ho
    subst ho
    refine ⟨by simp, ⟨a, n', cap, b, off, c, by simp, h2, fun h0 => ha (by omega), fun i hi => ?_⟩, by simp, by rw [frozen?_alloc_cells]; simp [World.frozen?]⟩
    have hb := (ha (by omega)).2
    rw [((Ext.refl w).alloc _).cell (by dsimp only; omega)]
    exact hc i (by omega)
  by_cases hbig : 2000 < n
  · obtain ⟨rfl, hb⟩ := ha (by omega)
    clear hc ha
    go_enter Tryz.func9, Tryz.ntmps9
    go_wp2
    go_ret
    exact ⟨rfl, key 2000 _ (by omega) (by omega) rfl, (Ext.refl _).alloc _, by simp⟩
  · clear hc ha
    go_enter Tryz.func9, Tryz.ntmps9
    go_wp2
    go_ret
    exact ⟨rfl, key n _ (by omega) (by omega) rfl, (Ext.refl _).alloc _, by simp⟩

set_option maxRecDepth 100000 in
set_option maxHeartbeats 1000000 in
theorem of_any (R p b off n cap : Nat) (f : Nat → ByteArray) (w : World) (h : RdAt w R p) (hp : p ≤ 1000000) (hn : 1 ≤ n) (hn2 : n ≤ 1000) (hb : b < w.heap.size) (hbR : b < R ∨ R + 1 ≤ b) (hc : ∀ i, i < n → w.cell? ⟨b, off + i, none⟩ = some (.string (f i))) :
    Calls Tryz.prog 39 #[.pointer (some ⟨R, 0, none⟩), .slice (some ⟨b, off, none⟩) n cap] w fun e w' => ∃ i, i < n ∧ e = .returned (.string (f i)) ∧ RdAt w' R (p + 1) ∧ Only R (R + 1) w w' := by
  have hcall := pick_any R p n w h hp hn hn2
  go_enter Tryz.func39, Tryz.ntmps39
  go_wp2_with fail
  refine hcall.mono ?_
  rintro e w' ⟨m, rfl, hm, hR, hO⟩
  have g : w'.cell? ⟨b, off + m, none⟩ = some (.string (f m)) := by rw [hO.cell hb hbR]; exact hc m hm
  clear hcall hc h
  go_wp2
  go_ret
  exact ⟨m, hm, rfl, hR, hO⟩

set_option maxRecDepth 100000 in
set_option maxHeartbeats 1000000 in
theorem one_any (R p b off n cap : Nat) (f : Nat → Int) (w : World) (h : RdAt w R p) (hp : p ≤ 1000000) (hn : 1 ≤ n) (hn2 : n ≤ 1000) (hb : b < w.heap.size) (hbR : b < R ∨ R + 1 ≤ b) (hc : ∀ i, i < n → w.cell? ⟨b, off + i, none⟩ = some (.int .i64 (f i))) :
    Calls Tryz.prog 20 #[.pointer (some ⟨R, 0, none⟩), .slice (some ⟨b, off, none⟩) n cap] w fun e w' => ∃ i, i < n ∧ e = .returned (.int .i64 (f i)) ∧ RdAt w' R (p + 1) ∧ Only R (R + 1) w w' := by
  have hcall := pick_any R p n w h hp hn hn2
  go_enter Tryz.func20, Tryz.ntmps20
  go_wp2_with fail
  refine hcall.mono ?_
  rintro e w' ⟨m, rfl, hm, hR, hO⟩
  have g : w'.cell? ⟨b, off + m, none⟩ = some (.int .i64 (f m)) := by rw [hO.cell hb hbR]; exact hc m hm
  clear hcall hc h
  go_wp2
  go_ret
  exact ⟨m, hm, rfl, hR, hO⟩

set_option maxRecDepth 100000 in
set_option maxHeartbeats 1000000 in
theorem l1Many_any (s : ByteArray) (n : Nat) (w : World) (hn : n ≤ 100) (hs : s.size = 1) :
    Calls Tryz.prog 56 #[.string s, .int .i64 n] w fun e w' => ∃ t : ByteArray, e = .returned (.string t) ∧ t.size ≤ 100 ∧ w' = w := by
  go_enter Tryz.func56, Tryz.ntmps56
  go_wp2
  go_loop [0, 1, 5] (fun sv nv o => ∃ (s t : ByteArray) (m : Nat), sv = .string s ∧ nv = .int .i64 m ∧ o = .string t ∧ m ≤ 100 ∧ t.size + s.size * m ≤ 100 ∧ s.size ≤ 200) (fun _ nv _ => (intOf nv).toNat)
  case atStart => exact ⟨s, _, n, rfl, rfl, rfl, hn, by rw [hs]; show 0 + 1 * n ≤ 100; omega, by omega⟩
  case round =>
    obtain ⟨s, t, m, rfl, rfl, rfl, hm, hk, hs2⟩ := hrel
    have HK : Hid (t.size + s.size * m ≤ 100) := hk
    clear hk
    by_cases h0 : 0 < m
    · have hsm : s.size ≤ 100 := by
        have := HK.out
        have : s.size * 1 ≤ s.size * m := Nat.mul_le_mul_left _ h0
        omega
      have htm : t.size ≤ 100 := by
        have := HK.out
        omega
      have hmm : Hid (s.size * m = s.size * (m % 2) + (s.size + s.size) * (m / 2)) := by
        show _ = _
        conv => lhs; rw [← Nat.mod_add_div m 2]
        rw [Nat.mul_add, ← Nat.mul_assoc, Nat.mul_two]
      by_cases ho : m % 2 = 1
      · have e1' : ((m : Int) % 2 == 1) = true := by simp; omega
        have HO : Hid (m % 2 = 1) := ho
        clear ho
        go_wp2
        go_round
        case rel =>
          have h1 := HK.out
          have h2 := hmm.out
          rw [HO.out] at h2
          exact ⟨s ++ s, t ++ s, m / 2, rfl, by first | rfl | go_num, rfl, by omega, by rw [ByteArray.size_append, ByteArray.size_append]; omega, by rw [ByteArray.size_append]; omega⟩
        case measure => simp [intOf]; omega
      · have e1' : ((m : Int) % 2 == 1) = false := by simp; omega
        have HO : Hid (m % 2 = 0) := by show _ = _; omega
        clear ho
        go_wp2
        go_round
        case rel =>
          have h1 := HK.out
          have h2 := hmm.out
          rw [HO.out] at h2
          exact ⟨s ++ s, t, m / 2, rfl, by first | rfl | go_num, rfl, by omega, by rw [ByteArray.size_append]; omega, by rw [ByteArray.size_append]; omega⟩
        case measure => simp [intOf]; omega
    · have htm : t.size ≤ 100 := by
        have := HK.out
        omega
      go_wp2
      go_ret
      exact ⟨t, rfl, htm, rfl⟩
end Go.Proofs.YtbhmblkappmfjaaGreat

/- The reader of a drawn code over a list that is written out: one of it. -/
namespace Go.Proofs.YtbhmblkappmfjaaGreat
open Go.RowKit Go.Deep

theorem cell_new_row (w : World) (cs : Array Value) (T : TypeId) (i : Nat) (u : Value) (h : cs.toList[i]? = some u) : (w.alloc (.cells cs T)).cell? ⟨w.heap.size, 0 + i, none⟩ = some u := by
  have := World.news_of_block (w := w.alloc (.cells cs T)) (B := w.heap.size) (cs := cs) (t := T) (fr := (0, 0)) (heap_alloc_new w _) i u h
  rw [Go.WideShapes.add_plain] at this
  exact this

theorem ofList_any (R p n : Nat) (l : List ByteArray) (cs : Array Value) (T : TypeId) (w : World) (h : RdAt w R p) (hp : p ≤ 1000000) (hcs : cs.toList = l.map Value.string) (hn : n = l.length) (h1 : 1 ≤ n) (h2 : n ≤ 1000) :
    Calls Tryz.prog 39 #[.pointer (some ⟨R, 0, none⟩), .slice (some ⟨w.heap.size, 0, none⟩) n n] (w.alloc (.cells cs T)) fun e w' => ∃ s, s ∈ l ∧ e = .returned (.string s) ∧ RdAt w' R (p + 1) ∧ Only R (R + 1) w w' := by
  have hlt := h.lt
  have hE : Ext w (w.alloc (.cells cs T)) := (Ext.refl _).alloc _
  refine (of_any R p w.heap.size 0 n n (fun i => l[i]?.getD ⟨#[]⟩) _ (h.ext hE) hp h1 h2 (by simp) (.inr hlt) (fun i hi => cell_new_row w cs T i _ ?_)).mono ?_
  · rw [hcs, List.getElem?_map, List.getElem?_eq_getElem (by omega)]; rfl
  · rintro e w' ⟨i, hi, rfl, hR, hO⟩
    refine ⟨l[i]?.getD ⟨#[]⟩, ?_, rfl, hR, (Only.of_ext hE).trans hO⟩
    rw [List.getElem?_eq_getElem (by omega)]
    exact List.getElem_mem _

theorem oneList_any (R p n : Nat) (l : List Int) (cs : Array Value) (T : TypeId) (w : World) (h : RdAt w R p) (hp : p ≤ 1000000) (hcs : cs.toList = l.map (Value.int .i64)) (hn : n = l.length) (h1 : 1 ≤ n) (h2 : n ≤ 1000) :
    Calls Tryz.prog 20 #[.pointer (some ⟨R, 0, none⟩), .slice (some ⟨w.heap.size, 0, none⟩) n n] (w.alloc (.cells cs T)) fun e w' => ∃ s, s ∈ l ∧ e = .returned (.int .i64 s) ∧ RdAt w' R (p + 1) ∧ Only R (R + 1) w w' := by
  have hlt := h.lt
  have hE : Ext w (w.alloc (.cells cs T)) := (Ext.refl _).alloc _
  refine (one_any R p w.heap.size 0 n n (fun i => l[i]?.getD 0) _ (h.ext hE) hp h1 h2 (by simp) (.inr hlt) (fun i hi => cell_new_row w cs T i _ ?_)).mono ?_
  · rw [hcs, List.getElem?_map, List.getElem?_eq_getElem (by omega)]; rfl
  · rintro e w' ⟨i, hi, rfl, hR, hO⟩
    refine ⟨l[i]?.getD 0, ?_, rfl, hR, (Only.of_ext hE).trans hO⟩
    rw [List.getElem?_eq_getElem (by omega)]
    exact List.getElem_mem _
end Go.Proofs.YtbhmblkappmfjaaGreat
