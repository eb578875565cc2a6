/- At every expression the law FnExactExprOk answers true, and the expression reads afterwards as it did: impl.ExprOk answers as its model does, and writes into no argument. The listed table of signs is tied to the program's text, as the given card asks; there is no condition beyond those of the given row and card.
-/
import Derived.Test.YtjcbcfpdgdaffaaDoorTie
import Derived.Test.YtjcbcfpdgdaffaaDoorCards
import Derived.Test.YtjcbcfpdgdaffaaDoorELaw
import Derived.Test.YtjcbcfpdgdaffaaDoorDOpen
import Derived.WalkKit
import Derived.ProofKit
import Derived.OpenShut
import Derived.LaidMore
import Derived.Lay
import Derived.SevenTiedAt
import Derived.Stop.Joined
import Derived.FnData
namespace Go.Proofs.YtjcbcfpdgdaffaaDoor.fnExactExprOk
open Go.ChangeShapes Go.WideShapes Go.ChangeAt Go.RowKit Go.Deep
set_option linter.unusedVariables false

theorem own : ownKnob Tryd.prog.godebug = none := by kernel_rfl
theorem laidOut : laidOutB Tryd.prog = true := by kernel_rfl
theorem gN : Tryd.prog.globalNamed "loop.example/ashlar/impl.pairSigns" = some 0 := by kernel_rfl
theorem gT : (Tryd.prog.globals[0]?).map (·.type) = some 63 := by kernel_rfl
theorem cells9 : Tryd.prog.cellsOf 9 = 1 := by kernel_rfl
theorem cells13 : Tryd.prog.cellsOf 63 = 13 := by kernel_rfl

theorem str_eq {a : ByteArray} {l : List UInt8} (h : a.data.toList = l) : a = ⟨l.toArray⟩ := by
  subst h
  cases a
  simp

/-- What the listed table gives the walk. -/
theorem pairs_of_laid {W : World} (h : laidMetH Tryd.prog Rows.fnExactExprOkRow.laid W) : Pairs W := by
  rw [MakeChecks.laidMetH_plain _ _ _ (by kernel_rfl)] at h
  obtain ⟨ps, ⟨g0, t0, cs0, f0, p0, q0, hg0, ht0, hv0, hd0, _, _⟩, _, _⟩ := h
  obtain rfl := Option.some.inj (gN.symm.trans hg0)
  obtain rfl := Option.some.inj (gT.symm.trans ht0)
  obtain ⟨xs, m, _, ex, hlen, hl, hel⟩ := DataW.trod_array Tryd.underlying63 hd0
  have hcell : ∀ i, i < 13 → W.cell? ⟨0, i, none⟩ = some (.string (sigA i)) := by
    intro i hi
    have h1 := hel i hi
    rw [List.getElem?_eq_getElem (by omega), cells9, Nat.mul_one] at h1
    obtain ⟨s, e1, e2, _⟩ := DataW.trod_string Tryd.underlying9 h1
    have hx : (xs.map (·.1))[i]? = some (xs[i]'(by omega)).1 := by rw [List.getElem?_map, List.getElem?_eq_getElem (by omega)]; rfl
    have hxs : xs.map (·.1) = [.lit (.string []), .lit (.string []), .lit (.string []), .lit (.string []), .lit (.string []), .lit (.string [61]), .lit (.string [60]), .lit (.string [65, 78, 68]), .lit (.string [79, 82]), .lit (.string []), .lit (.string [43]), .lit (.string []), .lit (.string [73, 78])] := by
      have := congrArg Prod.fst ex
      exact (DataW.agg.inj this).symm
    rw [hxs] at hx
    have hs : s = sigA i := by
      have h3 : some (DataW.lit (.string s.data.toList)) = some (xs[i]'(by omega)).1 := by rw [e2]
      rw [← hx] at h3
      have hcase : i = 0 ∨ i = 1 ∨ i = 2 ∨ i = 3 ∨ i = 4 ∨ i = 5 ∨ i = 6 ∨ i = 7 ∨ i = 8 ∨ i = 9 ∨ i = 10 ∨ i = 11 ∨ i = 12 := by omega
      rcases hcase with rfl | rfl | rfl | rfl | rfl | rfl | rfl | rfl | rfl | rfl | rfl | rfl | rfl <;> (injection h3 with h3; injection h3 with h3; injection h3 with h3; exact str_eq h3)
    have h4 := World.var?_cell gN hv0 i
    have h5 : cs0[i]? = some (.string s) := by
      have e3 : (cs0.toList.drop i).take 1 = [.string s] := e1
      rw [← Array.getElem?_toList]
      have := congrArg (·[0]?) e3
      simpa [List.getElem?_take, List.getElem?_drop] using this
    rw [h4, h5, hs]
  refine ⟨?_, hcell⟩
  have := World.block_lt_of_cell? _ _ (hcell 0 (by omega))
  simpa using this

theorem var_of_block {P : Program} {w w' : World} {n : String} {g : Nat} (hg : P.globalNamed n = some g) (hb : w'.heap[g]? = w.heap[g]?) : w'.var? P n = w.var? P n := by
  simp only [World.var?, hg, Option.bind_some, hb]

set_option maxRecDepth 100000 in
theorem lifted (os : Os) (started : os.Started) (H : Type) (enc : TypeId × Value → H) :
    ReturnsInHanded {} Tryd.checked os 3 .any (fun w args => (Rows.fnExactExprOkSpec.pre enc Tryd.prog Tryd.f3 Rows.fnExactExprOkRow.domain false w args ∧ laidMetH Tryd.prog Rows.fnExactExprOkRow.laid w) ∧ sizedMet enc Tryd.prog Tryd.f3 (OpenSpec.ofChange Rows.fnExactExprOkSpec) false w args)
      (Rows.fnExactExprOkSpec.post enc Tryd.prog Tryd.f3 false true false false) := by
  refine returnsInHanded_of_change_and (C := Tryd.checked) (X := fun w _ => laidMetH Tryd.prog Rows.fnExactExprOkRow.laid w) (fun _ _ _ hh h => h.of_heap hh) own started (by kernel_rfl) Tryd.func3
    (ChangeSpec.witness_shaped (enc := enc) (C := Tryd.checked) (os := os) (X := fun w _ => laidMetH Tryd.prog Rows.fnExactExprOkRow.laid w) false (World.laidAll Tryd.prog os Rows.fnExactExprOkRow.laid) #[.agg #[.int .i64 0, .int .i64 0, .int .i64 0, .string ByteArray.empty, .slice none 0 0, .string ByteArray.empty, .string ByteArray.empty, .slice none 0 0]] 8 (World.laidAll_os _ _ _)
      (World.shaped_of_ZipB (by kernel_rfl) (by kernel_rfl)) (by kernel_rfl) (by kernel_rfl) (by kernel_rfl)
      (by rw [MakeChecks.laidMetH_plain _ _ _ (by kernel_rfl)]; exact laidMet_laidAll _ (by kernel_rfl) (by kernel_rfl))) ?_
  intro W base args ds gs before hval0 hW hcnd _ hL _
  have hval : ∀ (j : Nat) t v, Tryd.f3.params[j]? = some t → args[j]? = some v → Value.okWide Tryd.prog W .any base t v := hval0
  have hW' := hW
  obtain ⟨p, q, hA0, hV, rfl, hfz, hnd⟩ := hW
  have hA : DataW.TrodAll enc Tryd.prog W 0 (fun _ => true) true Tryd.f3.params.toList args.toList ds p := hA0
  rw [Tryd.params3] at hA hval
  obtain ⟨v0, d0, rfl, rfl, h0⟩ := trodAll_one hA
  have hV1 : DataW.TrodVars enc Tryd.prog W (fun _ => true) ["loop.example/ashlar/impl.pairSigns"] gs q := hV
  obtain ⟨g, t, cs1, fuel1, dv, pv, rfl, hg, ht, hvar, hdv, rfl⟩ := trodVars_one hV1
  have hlt : ∀ x ∈ p, x.block < W.heap.size := fun x hx => hW'.lt x (List.mem_append_left _ hx)
  obtain ⟨cs, rfl, _⟩ := okWide_struct Tryd.underlying27 (hval 0 27 v0 rfl rfl)
  obtain ⟨fuel, hf⟩ := id h0
  obtain ⟨d, hlen, HR, hd⟩ := open_Expr fuel _ _ hf
  obtain ⟨c0, c1, c2, c3, c4, c5, c6, c7, hcs⟩ := len8 hlen
  have hcs2 : cs = #[c0, c1, c2, c3, c4, c5, c6, c7] := by
    have : cs.toList = [c0, c1, c2, c3, c4, c5, c6, c7] := by simpa [Value.cells] using hcs
    exact Array.ext' this
  rw [hcs] at hd
  subst hcs2
  have k0 : DIn anyB W (d 0) c0 := hd 0 (by decide)
  have k1 : DIn anyB W (d 1) c1 := hd 1 (by decide)
  have k2 : DIn anyB W (d 2) c2 := hd 2 (by decide)
  have k3 : DIn anyB W (d 3) c3 := hd 3 (by decide)
  have k4 : DIn anyB W (d 4) c4 := hd 4 (by decide)
  have k5 : DIn anyB W (d 5) c5 := hd 5 (by decide)
  have k6 : DIn anyB W (d 6) c6 := hd 6 (by decide)
  have k7 : DIn anyB W (d 7) c7 := hd 7 (by decide)
  obtain ⟨x0, e0⟩ := (show Has (d 0) .int from HR 0 (by decide)).int
  obtain ⟨x1, e1⟩ := (show Has (d 1) .int from HR 1 (by decide)).int
  obtain ⟨x2, e2⟩ := (show Has (d 2) .int from HR 2 (by decide)).int
  obtain ⟨x3, e3⟩ := (show Has (d 3) .str from HR 3 (by decide)).str
  have H4 : Has (d 4) (.list 2) := HR 4 (by decide)
  obtain ⟨x5, e5⟩ := (show Has (d 5) .str from HR 5 (by decide)).str
  obtain ⟨x6, e6⟩ := (show Has (d 6) .str from HR 6 (by decide)).str
  have H7 : Has (d 7) (.list 8) := HR 7 (by decide)
  rw [e0] at k0
  rw [e1] at k1
  rw [e2] at k2
  rw [e3] at k3
  rw [e5] at k5
  rw [e6] at k6
  obtain ⟨rfl, z0⟩ := k0.int_eq
  obtain ⟨rfl, z1⟩ := k1.int_eq
  obtain ⟨rfl, z2⟩ := k2.int_eq
  obtain ⟨rfl, z3⟩ := k3.str_eq
  obtain ⟨rfl, z5⟩ := k5.str_eq
  obtain ⟨rfl, z6⟩ := k6.str_eq
  have hP := pairs_of_laid hL
  clear hA0 hval0
  refine (exprLaw x0 x1 x2 x3 (d 4) c4 x5 x6 (d 7) c7 W hP z0 z1 z2 z3 H4 k4 z5 z6 H7 k7).mono fun e W' ⟨he, hB⟩ => ?_
  subst he
  have hd' := Below.trod laidOut (by kernel_rfl) (of_decide_eq_true (by kernel_rfl)) h0 hB hlt
  obtain rfl := Option.some.inj (gN.symm.trans hg)
  obtain rfl := Option.some.inj (gT.symm.trans ht)
  have hvar' : W'.var? Tryd.prog "loop.example/ashlar/impl.pairSigns" = some cs1 := (var_of_block hg (Below.block hB _ hP.1)).trans hvar
  have hvt : DataW.Trod enc Tryd.prog W 0 (fun _ => true) true 63 (.agg cs1) dv pv := ⟨fuel1, hdv⟩
  have hltv : ∀ x ∈ pv, x.block < W.heap.size := fun x hx => hW'.lt x (List.mem_append_right _ (List.mem_append_right _ hx))
  obtain ⟨fuel2, hdv'⟩ := Below.trod laidOut (by kernel_rfl) (of_decide_eq_true (by kernel_rfl)) hvt hB hltv
  refine ⟨_, rfl, _, _, _, [], p, MemPlace.row ⟨0, 0, none⟩ cs1.size ++ pv, hW', ?_, ?_, ?_, Below.frame hB _, fun h => by cases h⟩
  · exact trodAll_mk1 (shut_bool Tryd.underlying4 _)
  · exact trodAll_mk1 hd'
  · exact trodVars_mk1 hg ht hvar' hdv'

theorem over : Rows.fnExactExprOkRow.holds Tryd.pinned (OpenSpec.ofChange Rows.fnExactExprOkSpec) :=
  OpenClaim.holds_of_wide 3 Tryd.f3 rfl rfl rfl rfl rfl rfl rfl ⟨rfl, rfl, rfl, rfl, rfl⟩ rfl rfl rfl rfl rfl (by kernel_rfl) Tryd.func3 (by kernel_rfl)
    (of_decide_eq_true (by kernel_rfl)) (by unfold Func.isWrapper; first | (rw [if_pos (by decide +kernel)]; kernel_rfl) | (rw [if_neg (by decide +kernel)]; exact ⟨rfl, rfl⟩))
    (fun os started H enc _ => lifted os started H enc)

theorem proved : Rows.FnExactExprOkCardSaid :=
  Claim7.holds_tied_plain_at .later [] [.data] true Rows.fnExactExprOkCard.stood.harness true over (fun _ h => by cases h) (by kernel_rfl) (fun _ h => by cases h) fnExactExprOk_row_tie rfl ⟨rfl, rfl⟩ (by kernel_rfl) rfl
    (fun f fn hf hfn => by
      obtain rfl : f = 3 := Option.some.inj ((show Tryd.prog.funcNamed Rows.fnExactExprOkRow.func = some 3 by kernel_rfl).symm.trans hf) |>.symm
      obtain rfl : fn = Tryd.f3 := (Option.some.inj (Tryd.func3.symm.trans hfn)).symm
      exact ⟨by kernel_rfl, fun j t ht => by
        rw [Tryd.params3] at ht
        have hm : t ∈ [27] := by simpa using Array.mem_of_getElem? ht
        have hall : ([27].all fun u => !Tryd.prog.wantsStandIn u) = true := by kernel_rfl
        exact (show Tryd.prog.wantsStandIn t = false by simpa using List.all_eq_true.1 hall t hm)⟩)
    (by kernel_rfl)
#print axioms proved
end Go.Proofs.YtjcbcfpdgdaffaaDoor.fnExactExprOk
