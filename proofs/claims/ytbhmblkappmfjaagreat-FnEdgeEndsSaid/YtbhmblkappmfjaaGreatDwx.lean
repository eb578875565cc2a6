/- Drawn values as data; rows that grow while a reader is read. -/
import Derived.Test.YtbhmblkappmfjaaGreatValS
import Derived.Test.YtbhmblkappmfjaaGreatDa
import Derived.Deep.AppendLies
import Derived.Test.YtbhmblkappmfjaaGreatDr
import Derived.Deep.SlicePairs
namespace Go.Proofs.YtbhmblkappmfjaaGreat
open Go.RowKit Go.Deep

theorem DIn.bnd {S : Nat → Prop} {w : World} : ∀ {d : D} {v : Value}, DIn S w d v → DIn (fun b => S b ∧ b < w.heap.size) w d v := by
  intro d
  induction d with
  | int n => exact fun h => h
  | bool b => exact fun h => h
  | str s => exact fun h => h
  | list n len f ih =>
    rintro v ⟨a, cap, b, off, hv, hm, ha, hc⟩
    refine ⟨a, cap, b, off, hv, hm, fun h0 => ⟨(ha h0).1, ⟨(ha h0).2.1, (ha h0).2.2⟩, (ha h0).2.2⟩, fun i hi j hj => ?_⟩
    obtain ⟨c, h1, h2⟩ := hc i hi j hj
    exact ⟨c, h1, ih i j h2⟩
/-- What was read still reads so where its blocks stand. -/
theorem DIn.turn {S S' : Nat → Prop} {w w' : World} (hs : w.heap.size ≤ w'.heap.size) (hS : ∀ b, S b → b < w.heap.size → S' b) (hb : ∀ b, S b → b < w.heap.size → w'.heap[b]? = w.heap[b]?) {d : D} {v : Value} (h : DIn S w d v) : DIn S' w' d v :=
  (h.bnd.carry hs (fun b h1 _ => hb b h1.1 h1.2)).mono (fun b h => hS b h.1 h.2)
theorem DIn.onlyR {S : Nat → Prop} {w w' : World} {lo hi : Nat} (e : Only lo hi w w') (hS : ∀ b, S b → b < lo ∨ hi ≤ b) {d : D} {v : Value} (h : DIn S w d v) : DIn S w' d v :=
  h.carry e.size (fun b h1 h2 => e.block b h2 (hS b h1))

/-- A value's four cells as data. -/
theorem ValS.data {S : Nat → Prop} {w : World} {x : V} {v : Value} (h : ValS S w x v) : ∃ f : Nat → D, HasRow 2 f ∧ (∀ j, j < 4 → SmallL (f j)) ∧ ∃ c : Nat → Value, v = .agg #[c 0, c 1, c 2, c 3] ∧ ∀ j, j < 4 → DIn S w (f j) (c j) := by
  induction h with
  | mk kind num text l a cap b off c0 c1 c2 c3 hk hn ht hl ha hc hv ih =>
    have hx : ∀ i, ∃ f : Nat → D, i < l.length → HasRow 2 f ∧ (∀ j, j < 4 → SmallL (f j)) ∧ DIn S w (f 0) (c0 i) ∧ DIn S w (f 1) (c1 i) ∧ DIn S w (f 2) (c2 i) ∧ DIn S w (f 3) (c3 i) := by
      intro i
      by_cases hi : i < l.length
      · obtain ⟨f, h1, h2, c, hce, h3⟩ := ih i hi
        have e : #[c0 i, c1 i, c2 i, c3 i] = #[c 0, c 1, c 2, c 3] := Value.agg.inj hce
        simp only [Array.mk.injEq, List.cons.injEq, and_true] at e
        obtain ⟨e0, e1, e2, e3⟩ := e
        exact ⟨f, fun _ => ⟨h1, h2, by rw [e0]; exact h3 0 (by decide), by rw [e1]; exact h3 1 (by decide), by rw [e2]; exact h3 2 (by decide), by rw [e3]; exact h3 3 (by decide)⟩⟩
      · exact ⟨fun _ => .int 0, fun h => absurd h hi⟩
    obtain ⟨F, hF⟩ := Classical.skolem.1 hx
    refine ⟨fun j => if j = 0 then .int kind else if j = 1 then .int num else if j = 2 then .str text else .list 4 l.length F, ?_, ?_, fun j => if j = 0 then .int .i64 kind else if j = 1 then .int .i64 num else if j = 2 then .string text else .slice a l.length cap, rfl, ?_⟩
    · intro j hj
      have hj' : j = 0 ∨ j = 1 ∨ j = 2 ∨ j = 3 := by change j < 4 at hj; omega
      rcases hj' with rfl | rfl | rfl | rfl
      · exact rfl
      · exact rfl
      · exact rfl
      · exact ⟨2, rfl, rfl, fun i hi => (hF i hi).1⟩
    · intro j hj
      have hj' : j = 0 ∨ j = 1 ∨ j = 2 ∨ j = 3 := by omega
      rcases hj' with rfl | rfl | rfl | rfl
      · trivial
      · trivial
      · trivial
      · exact ⟨by decide, hl, fun i hi j hj => (hF i hi).2.1 j hj⟩
    · intro j hj
      have hj' : j = 0 ∨ j = 1 ∨ j = 2 ∨ j = 3 := by omega
      rcases hj' with rfl | rfl | rfl | rfl
      · exact ⟨rfl, hk⟩
      · exact ⟨rfl, hn⟩
      · exact ⟨rfl, ht⟩
      · refine ⟨a, cap, b, off, rfl, by unfold maxLen; omega, fun h0 => ⟨(ha h0).1, (ha h0).2.1, (ha h0).2.2.1⟩, fun i hi j hj => ?_⟩
        obtain ⟨g0, g1, g2, g3⟩ := hc i hi
        obtain ⟨_, _, k0, k1, k2, k3⟩ := hF i hi
        have hj' : j = 0 ∨ j = 1 ∨ j = 2 ∨ j = 3 := by omega
        rcases hj' with rfl | rfl | rfl | rfl
        · exact ⟨_, g0, k0⟩
        · exact ⟨_, g1, k1⟩
        · exact ⟨_, g2, k2⟩
        · exact ⟨_, g3, k3⟩

/-- A slice owns a row of k elements of n cells each, which read as data of row r of the table; all in blocks from base on. -/
def WRow (base : Nat) (w : World) (T : TypeId) (n r k : Nat) (u : Value) (cs : List Value) : Prop :=
  w.ownsRow base T n u k cs ∧ ∃ f : Nat → Nat → D, (∀ i, i < k → HasRow r (f i)) ∧ ∀ i, i < k → ∀ j, j < n → ∃ c, cs[i * n + j]? = some c ∧ DIn (fun b => base ≤ b ∧ u.ownBlock ≠ some b) w (f i j) c ∧ SmallL (f i j)
theorem WRow.empty {base : Nat} {w : World} {T : TypeId} {n r : Nat} {u : Value} (h : w.ownsRow base T n u 0 []) : WRow base w T n r 0 u [] := ⟨h, fun _ _ => .int 0, fun i hi => by omega, fun i hi => by omega⟩
theorem WRow.carry {base : Nat} {w w' : World} {T : TypeId} {n r k : Nat} {u : Value} {cs : List Value} (h : WRow base w T n r k u cs) (hs : w.heap.size ≤ w'.heap.size) (hb : ∀ b, base ≤ b → b < w.heap.size → w'.heap[b]? = w.heap[b]?) : WRow base w' T n r k u cs := by
  obtain ⟨h1, f, h2, h3⟩ := h
  refine ⟨ownsRow_carry h1 hb, f, h2, fun i hi j hj => ?_⟩
  obtain ⟨c, h4, h5, h6⟩ := h3 i hi j hj
  exact ⟨c, h4, h5.carry hs (fun b h7 h8 => hb b h7.1 h8), h6⟩
theorem WRow.only {base lo hi : Nat} {w w' : World} {T : TypeId} {n r k : Nat} {u : Value} {cs : List Value} (h : WRow base w T n r k u cs) (e : Only lo hi w w') (ho : hi ≤ base) : WRow base w' T n r k u cs := h.carry e.size (fun b h1 h2 => e.block b h2 (.inr (Nat.le_trans ho h1)))
theorem WRow.ext {base : Nat} {w w' : World} {T : TypeId} {n r k : Nat} {u : Value} {cs : List Value} (h : WRow base w T n r k u cs) (e : Ext w w') : WRow base w' T n r k u cs := h.carry e.le (fun b _ h2 => Below.block e b h2)
theorem WRow.shape {base : Nat} {w : World} {T : TypeId} {n r k : Nat} {u : Value} {cs : List Value} (h : WRow base w T n r k u cs) : ∃ a cap, u = .slice a k cap := by
  rcases h.1.2 with ⟨rfl, rfl⟩ | ⟨g, cap, cur, rfl, _⟩
  · exact ⟨_, _, rfl⟩
  · exact ⟨_, _, rfl⟩
theorem WRow.push {base : Nat} {w w' : World} {T : TypeId} {n r k : Nat} {u v' : Value} {cs us : List Value} {d : Nat → D} (h : WRow base w T n r k u cs) (hd : HasRow r d) (hu : us.length = n) (hx : ∀ j, j < n → DIn (fun b => base ≤ b ∧ u.ownBlock ≠ some b) w (d j) (us.getD j undef) ∧ SmallL (d j))
    (hown : w'.ownsRow base T n v' (k + 1) (cs ++ us)) (hg : w.grownBy w' u.ownBlock) (hat : v'.ownBlock = u.ownBlock ∨ v'.ownBlock = some w.heap.size) : WRow base w' T n r (k + 1) v' (cs ++ us) := by
  obtain ⟨h1, f, h2, h3⟩ := h
  have hlen : cs.length = k * n := h1.1
  have key : ∀ (d : D) (c : Value), DIn (fun b => base ≤ b ∧ u.ownBlock ≠ some b) w d c → DIn (fun b => base ≤ b ∧ v'.ownBlock ≠ some b) w' d c := by
    intro d c hy
    refine hy.turn hg.size (fun b hb hlt => ⟨hb.1, ?_⟩) (fun b hb hlt => hg.block b hlt (fun e => hb.2 e.symm))
    rcases hat with e | e
    · rw [e]; exact hb.2
    · rw [e]; intro e2; cases e2; omega
  refine ⟨hown, fun i => if i < k then f i else d, fun i hi => ?_, fun i hi j hj => ?_⟩
  · dsimp only
    split
    · next h => exact h2 i h
    · exact hd
  · by_cases hik : i < k
    · obtain ⟨c, h4, h5, h6⟩ := h3 i hik j hj
      have hlt : i * n + j < k * n := by
        have : (i + 1) * n ≤ k * n := Nat.mul_le_mul_right n (by omega)
        rw [Nat.add_mul] at this
        omega
      dsimp only
      rw [if_pos hik]
      exact ⟨c, by rw [List.getElem?_append_left (by omega)]; exact h4, key _ _ h5, h6⟩
    · have hik' : i = k := by omega
      subst hik'
      obtain ⟨h5, h6⟩ := hx j hj
      dsimp only
      rw [if_neg hik]
      refine ⟨us.getD j undef, ?_, key _ _ h5, h6⟩
      rw [List.getElem?_append_right (by omega), show i * n + j - cs.length = j by omega, List.getD_eq_getElem?_getD, List.getElem?_eq_getElem (by omega)]
      rfl
theorem WRow.end {base : Nat} {w : World} {T : TypeId} {n r k : Nat} {u : Value} {cs : List Value} (h : WRow base w T n r k u cs) (hn : n = (rowsOf r).length) (hn2 : n ≤ 24) (hk : k ≤ 1048576) :
    ∃ d, Has d (.list r) ∧ DIn (fun b => base ≤ b) w d u ∧ SmallL d ∧ d.len! = k := by
  obtain ⟨hr, f, h2, h3⟩ := h
  refine ⟨.list n k f, ⟨r, rfl, hn, fun i hi j hj => h2 i hi j (by omega)⟩, ?_, ⟨hn2, hk, fun i hi j hj => ?_⟩, rfl⟩
  · rcases hr.2 with ⟨rfl, rfl⟩ | ⟨g, cap, cur, rfl, hb, hg, _⟩
    · exact ⟨none, 0, 0, 0, rfl, Nat.zero_le _, fun h => by omega, fun i hi => by omega⟩
    · have hglt : g < w.heap.size := lt_of_block hg
      have hcell : ∀ (o : Nat) (c : Value), cs[o]? = some c → w.cell? ⟨g, 0 + o, none⟩ = some c := by
        intro o c hc
        have := hr.cells (g := g) rfl o c hc
        rw [Go.WideShapes.add_plain] at this
        exact this
      refine ⟨_, cap, g, 0, rfl, by unfold maxLen; omega, fun _ => ⟨rfl, hb, hglt⟩, fun i hi j hj => ?_⟩
      obtain ⟨c, h4, h5, h6⟩ := h3 i hi j hj
      exact ⟨c, by rw [Nat.add_assoc]; exact hcell _ _ h4, h5.mono (fun x hx => hx.1)⟩
  · obtain ⟨c, h4, h5, h6⟩ := h3 i hi j hj
    exact h6
/-- An element is appended while a reader is read: the new element was built in a block of its own. -/
theorem WRow.add {base R q : Nat} {w W W' : World} {T : TypeId} {n r k : Nat} {u v' : Value} {cs us : List Value} {d : Nat → D} (o : Obj) (h : WRow base W T n r k u cs) (hR : RdAt W R q) (hO : Only R (R + 1) w W) (hRw : R < w.heap.size) (hwb : w.heap.size ≤ base) (hd : HasRow r d) (hu : us.length = n)
    (hx : ∀ j, j < n → DIn (fun b => base ≤ b ∧ u.ownBlock ≠ some b) W (d j) (us.getD j undef) ∧ SmallL (d j)) (hown : W'.ownsRow base T n v' (k + 1) (cs ++ us)) (hg : (W.alloc o).grownBy W' u.ownBlock) (hloc : v'.ownBlock = u.ownBlock ∨ v'.ownBlock = some (W.alloc o).heap.size) :
    WRow base W' T n r (k + 1) v' (cs ++ us) ∧ RdAt W' R q ∧ Only R (R + 1) w W' ∧ W.heap.size < W'.heap.size := by
  have hA : Ext W (W.alloc o) := (Ext.refl _).alloc _
  have hlt : ∀ x, u.ownBlock = some x → base ≤ x := fun x hx => (h.1.lt x hx).1
  exact ⟨(h.ext hA).push hd hu (fun j hj => ⟨(hx j hj).1.ext hA, (hx j hj).2⟩) hown hg hloc, (hR.ext hA).grown hg (fun x hx => by have := hlt x hx; omega), (hO.alloc _).grown hg (fun x hx => by have := hlt x hx; omega), by have := hg.size; simp at this; omega⟩
theorem row_str (s : ByteArray) : HasRow 0 (fun _ => D.str s) := fun j hj => by
  have : j = 0 := by change j < 1 at hj; omega
  subst this
  rfl
end Go.Proofs.YtbhmblkappmfjaaGreat

/- What spec.l11Labels and spec.l11AnyLabels draw: some texts. -/
namespace Go.Proofs.YtbhmblkappmfjaaGreat
open Go.RowKit Go.Deep

theorem Tryz.infoSd : (Tryz.prog.info? 9).map (fun i => (i.zero, i.size, i.bytes)) = some (some (.string ⟨#[]⟩), 1, 16) := by kernel_rfl
theorem one_new (W : World) (v : Value) (T : TypeId) : ∀ (j : Nat) (u : Value), [v][j]? = some u → (W.alloc (.cells #[v] T)).cell? (Addr.add ⟨W.heap.size, 0, none⟩ j) = some u := fun j u h => cell_one_new W v T j u h
theorem str_one {base : Nat} {u : Value} {W : World} (s : ByteArray) (hs : s.size ≤ 1000) : ∀ j, j < 1 → DIn (fun b => base ≤ b ∧ u.ownBlock ≠ some b) W (.str s) ([Value.string s].getD j undef) ∧ SmallL (.str s) := by
  intro j hj
  have : j = 0 := by omega
  subst this
  exact ⟨⟨rfl, by unfold maxLen; omega⟩, trivial⟩

set_option maxRecDepth 100000 in
set_option maxHeartbeats 4000000 in
theorem l11Labels_any (R p : Nat) (w : World) (h : RdAt w R p) (hp : p + 2 ≤ 1000000) :
    Calls Tryz.prog 36 #[.pointer (some ⟨R, 0, none⟩)] w fun e w' => ∃ u k cs, e = .returned u ∧ WRow w.heap.size w' 9 1 0 k u cs ∧ k ≤ 2 ∧ RdAt w' R (p + 2) ∧ Only R (R + 1) w w' := by
  obtain ⟨i0, hi, hz0, hz1, hz2⟩ := info_parts Tryz.infoSd
  have hRl := h.lt
  have hE1 : Ext w (w.alloc (.cells #[] 9)) := (Ext.refl _).alloc _
  have hO1 : Only R (R + 1) w (w.alloc (.cells #[] 9)) := (Only.refl _ _ _).alloc _
  have hrow : WRow w.heap.size (w.alloc (.cells #[] 9)) 9 1 0 0 (.slice (some ⟨w.heap.size, 0, none⟩) 0 0) [] := WRow.empty (World.ownsRow_made w #[] 0 (Nat.le_refl _) (Nat.zero_le _) (by simp))
  have hR1 := h.ext hE1
  have hz1' : w.heap.size < (w.alloc (.cells #[] 9)).heap.size := by simp
  go_enter Tryz.func36, Tryz.ntmps36
  go_wp2_with fail
  generalize hu0 : Value.slice (some ⟨w.heap.size, 0, none⟩) 0 0 = u0 at *
  clear hu0
  generalize w.alloc (.cells #[] 9) = w1 at *
  refine (pick_any R p 3 w1 hR1 (by omega) (by omega) (by omega)).mono ?_
  rintro e w2 ⟨m, rfl, hm, hR2, hO2⟩
  have hrow2 := hrow.only hO2 (by omega)
  have hOw2 := hO1.trans hO2
  have hz2' := hO2.size
  clear hrow hR1 hO1 hO2 hE1
  by_cases hm0 : 0 < (m : Int)
  · have hone := one_new w2 (.string ⟨#[80]⟩) 9
    go_wp2_with (first
      | (at_builtin; refine wpList_append_own_at _ rfl _ _ 31 rfl w.heap.size 9 i0 _ 1 16 Tryz.underlying31 hi hz0 hz1 hz2 rfl (by decide) _ _ _ rfl (hrow2.1.alloc _) ⟨_, 0, none⟩ 1 1 [.string ⟨#[80]⟩] rfl rfl (hone) (by simp [Value.oneCell']) (by unfold maxLen; omega) (by omega) (by simp; omega) ?_; intro v3 w3 hown3 hgrow3 hnil3 hloc3)
      | fail)
    obtain ⟨hrow3, hR3, hO3, hz3⟩ := WRow.add (.cells #[.string ⟨#[80]⟩] 9) hrow2 hR2 hOw2 hRl (Nat.le_refl _) (row_str ⟨#[80]⟩) rfl (str_one ⟨#[80]⟩ (by decide)) hown3 hgrow3 hloc3
    refine (pick_any R (p + 1) 3 w3 hR3 (by omega) (by omega) (by omega)).mono ?_
    rintro e w4 ⟨m2, rfl, hm2, hR4, hO4⟩
    have hrow4 := hrow3.only hO4 (by omega)
    have hOw4 := hO3.trans hO4
    have hz4' := hO4.size
    clear hrow3 hO3 hO4 hR3 hown3 hgrow3 hloc3 hnil3 hrow2 hOw2 hR2
    cases hq0 : ((m2 : Int) == 0)
    · go_wp2
      go_ret
      exact ⟨_, _, _, rfl, hrow4, by omega, hR4, hOw4⟩
    · have hone2 := one_new w4 (.string ⟨#[81]⟩) 9
      go_wp2_with (first
        | (at_builtin; refine wpList_append_own_at _ rfl _ _ 31 rfl w.heap.size 9 i0 _ 1 16 Tryz.underlying31 hi hz0 hz1 hz2 rfl (by decide) _ _ _ rfl (hrow4.1.alloc _) ⟨_, 0, none⟩ 1 1 [.string ⟨#[81]⟩] rfl rfl (hone2) (by simp [Value.oneCell']) (by unfold maxLen; omega) (by omega) (by simp; omega) ?_; intro v5 w5 hown5 hgrow5 hnil5 hloc5)
        | fail)
      obtain ⟨hrow5, hR5, hO5, hz5⟩ := WRow.add (.cells #[.string ⟨#[81]⟩] 9) hrow4 hR4 hOw4 hRl (Nat.le_refl _) (row_str ⟨#[81]⟩) rfl (str_one ⟨#[81]⟩ (by decide)) hown5 hgrow5 hloc5
      go_ret
      exact ⟨_, _, _, rfl, hrow5, by omega, hR5, hO5⟩
  · go_wp2_with fail
    refine (pick_any R (p + 1) 3 w2 hR2 (by omega) (by omega) (by omega)).mono ?_
    rintro e w4 ⟨m2, rfl, hm2, hR4, hO4⟩
    have hrow4 := hrow2.only hO4 (by omega)
    have hOw4 := hOw2.trans hO4
    have hz4' := hO4.size
    clear hO4 hrow2 hOw2 hR2
    cases hq0 : ((m2 : Int) == 0)
    · go_wp2
      go_ret
      exact ⟨_, _, _, rfl, hrow4, by omega, hR4, hOw4⟩
    · have hone2 := one_new w4 (.string ⟨#[81]⟩) 9
      go_wp2_with (first
        | (at_builtin; refine wpList_append_own_at _ rfl _ _ 31 rfl w.heap.size 9 i0 _ 1 16 Tryz.underlying31 hi hz0 hz1 hz2 rfl (by decide) _ _ _ rfl (hrow4.1.alloc _) ⟨_, 0, none⟩ 1 1 [.string ⟨#[81]⟩] rfl rfl (hone2) (by simp [Value.oneCell']) (by unfold maxLen; omega) (by omega) (by simp; omega) ?_; intro v5 w5 hown5 hgrow5 hnil5 hloc5)
        | fail)
      obtain ⟨hrow5, hR5, hO5, hz5⟩ := WRow.add (.cells #[.string ⟨#[81]⟩] 9) hrow4 hR4 hOw4 hRl (Nat.le_refl _) (row_str ⟨#[81]⟩) rfl (str_one ⟨#[81]⟩ (by decide)) hown5 hgrow5 hloc5
      go_ret
      exact ⟨_, _, _, rfl, hrow5, by omega, hR5, hO5⟩

set_option maxRecDepth 100000 in
set_option maxHeartbeats 4000000 in
theorem l11AnyLabels_any (R p : Nat) (w : World) (h : RdAt w R p) (hp : p + 4 ≤ 1000000) :
    Calls Tryz.prog 22 #[.pointer (some ⟨R, 0, none⟩)] w fun e w' => ∃ u k cs p', e = .returned u ∧ WRow w.heap.size w' 9 1 0 k u cs ∧ k ≤ 3 ∧ RdAt w' R p' ∧ p' ≤ p + 4 ∧ Only R (R + 1) w w' := by
  obtain ⟨i0, hi, hz0, hz1, hz2⟩ := info_parts Tryz.infoSd
  have hRl := h.lt
  go_enter Tryz.func22, Tryz.ntmps22
  go_wp2_with fail
  refine (l11Labels_any R p w h (by omega)).mono ?_
  rintro e w1 ⟨u1, k1, cs1, rfl, hrow1, hk1, hR1, hO1⟩
  go_wp2_with fail
  refine (pick_any R (p + 2) 12 w1 hR1 (by omega) (by omega) (by omega)).mono ?_
  rintro e w2 ⟨m, rfl, hm, hR2, hO2⟩
  have hrow2 := hrow1.only hO2 (by omega)
  have hOw2 := hO1.trans hO2
  have hz1' := hO1.size
  have hz2' := hO2.size
  clear hrow1 hR1 hO1 hO2
  cases hm0 : ((m : Int) == 0)
  · go_wp2
    go_ret
    exact ⟨_, _, _, _, rfl, hrow2, by omega, hR2, by omega, hOw2⟩
  · have hmem : ∀ s : ByteArray, s ∈ [⟨#[]⟩, ⟨#[65]⟩, ⟨#[82]⟩, (⟨#[77, 65, 84, 67, 72]⟩ : ByteArray)] → s.size ≤ 1000 := by
      intro s hs
      simp only [List.mem_cons, List.not_mem_nil, or_false] at hs
      rcases hs with rfl | rfl | rfl | rfl <;> decide
    go_wp2_with fail
    refine (ofList_any R (p + 3) 4 [⟨#[]⟩, ⟨#[65]⟩, ⟨#[82]⟩, ⟨#[77, 65, 84, 67, 72]⟩] #[.string ⟨#[]⟩, .string ⟨#[65]⟩, .string ⟨#[82]⟩, .string ⟨#[77, 65, 84, 67, 72]⟩] 9 w2 hR2 (by omega) rfl rfl (by omega) (by omega)).mono ?_
    rintro e w4 ⟨s, hs, rfl, hR4, hO4⟩
    have hss := hmem s hs
    have hrow4 := hrow2.only hO4 (by omega)
    have hOw4 := hOw2.trans hO4
    have hz4' := hO4.size
    clear hO4 hrow2 hOw2 hR2 hmem hs
    have hone := one_new w4 (.string s) 9
    go_wp2_with (first
      | (at_builtin; refine wpList_append_own_at _ rfl _ _ 31 rfl w.heap.size 9 i0 _ 1 16 Tryz.underlying31 hi hz0 hz1 hz2 rfl (by decide) _ _ _ rfl (hrow4.1.alloc _) ⟨_, 0, none⟩ 1 1 [.string s] rfl rfl (hone) (by simp [Value.oneCell']) (by unfold maxLen; omega) (by omega) (by simp; omega) ?_; intro v5 w5 hown5 hgrow5 hnil5 hloc5)
      | fail)
    obtain ⟨hrow5, hR5, hO5, hz5⟩ := WRow.add (.cells #[.string s] 9) hrow4 hR4 hOw4 hRl (Nat.le_refl _) (row_str s) rfl (str_one s hss) hown5 hgrow5 hloc5
    go_ret
    exact ⟨_, _, _, _, rfl, hrow5, by omega, hR5, by omega, hO5⟩
end Go.Proofs.YtbhmblkappmfjaaGreat
