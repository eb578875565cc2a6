/- What impl.sameInAll answers. -/
import Derived.Test.YtkngihmfknmnaaaStackRow
import Derived.Test.YtkngihmfknmnaaaBoxes
import Derived.BigRegion
import Derived.Deep.RegionWith
import Derived.Deep.LoopGhost
import Derived.Deep.RegionLaw
import Derived.Deep.DeepCutAuto
namespace Go.Proofs.Ytkngihmfknmnaaa
open Go.RowKit Go.Deep

/-- What holds at the head of the loop, k being how much is still to be asked. -/
def Asking (w : World) (x y : V) (k : Nat) (u : Value) (wr : World) : Prop :=
  ∃ todo ks met cs, mu todo = k ∧ k ≤ 1 + cntV x ∧ Known x y todo met ∧ Ext w wr ∧ MetIn wr (w.heap.size + 2) ks ∧ MetOf w ks met ∧ RowP w (w.heap.size + 3) wr todo u cs

theorem two_alloc (w : World) (o1 o2 o3 o4 : Obj) : Ext w ((((w.alloc o1).alloc o2).alloc o3).alloc o4) := ((((Ext.refl _).alloc _).alloc _).alloc _).alloc _

theorem Try.infoP : (Try.prog.info? 56).map (fun i => (i.zero, i.size, i.bytes)) = some (some (.agg #[.int .i64 0, .int .i64 0, .string ⟨#[]⟩, .slice none 0 0, .int .i64 0, .int .i64 0, .string ⟨#[]⟩, .slice none 0 0]), 8, 112) := by kernel_rfl
theorem take_zip {l l' : List V} (h : l.length = l'.length) {j : Nat} (hj : j < l.length) : (l.zip l').take (j + 1) = (l.zip l').take j ++ [(l[j], l'[j]'(by omega))] := by
  rw [List.take_add_one, List.getElem?_eq_getElem (by simp; omega)]
  simp
theorem push_facts {w wr w6 : World} {o : Obj} {row : Option Nat} (hEi : Ext w wr) (hg : ((wr.alloc o).drew).grownBy w6 row) (hr : ∀ k, row = some k → w.heap.size ≤ k) :
    Ext w w6 ∧ wr.heap.size + 1 ≤ w6.heap.size ∧ ∀ b, b < wr.heap.size → row ≠ some b → w6.heap[b]? = wr.heap[b]? := by
  have hEa : Ext w (wr.alloc o).drew := (hEi.alloc o).drew
  have hsz : ((wr.alloc o).drew).heap.size = wr.heap.size + 1 := World.size_alloc _ _
  have hs := hg.size
  rw [hsz] at hs
  refine ⟨Below.grown hEa hg hEa.le hr, hs, fun b hb hne => ?_⟩
  rw [hg.block b (by rw [hsz]; omega) (fun e => hne e.symm)]
  exact Below.heap_alloc wr o b hb
/-- What holds at the head of the inner loop. -/
def Inner (w : World) (rest : List VV) (l1 l2 : List V) (ks5 : List Key3) (p q b1 o1 b2 o2 cap1 cap2 : Nat) (u6 i : Value) (wi : World) : Prop :=
  ∃ (j : Nat) (cs' : List Value), j ≤ l1.length ∧ i = .int .i64 j ∧ Ext w wi ∧ MetIn wi (w.heap.size + 2) ks5 ∧ RowP w (w.heap.size + 3) wi (rest ++ (l1.zip l2).take j) u6 cs' ∧
    wi.cell? ⟨p, 3, none⟩ = some (.slice (some ⟨b1, o1, none⟩) l1.length cap1) ∧ wi.cell? ⟨q, 3, none⟩ = some (.slice (some ⟨b2, o2, none⟩) l2.length cap2) ∧ (u6.ownBlock ≠ some p ∧ u6.ownBlock ≠ some q) ∧ p < wi.heap.size ∧ q < wi.heap.size
theorem Inner.step {w wr w6 : World} {rest : List VV} {l1 l2 : List V} {ks5 : List Key3} {met : List (List V × List V)} {p q b1 o1 b2 o2 cap1 cap2 j g cc : Nat} {u6 : Value} {cs' : List Value} {o : Obj} {d0 d1 d2 d3 d4 d5 d6 d7 i : Value}
    (hlen : l1.length = l2.length) (hj : j < l1.length) (hi : i = .int .i64 ((j + 1 : Nat) : Int)) (hEi : Ext w wr) (hMi : MetIn wr (w.heap.size + 2) ks5) (hMO : MetOf w ks5 met) (hRi : RowP w (w.heap.size + 3) wr (rest ++ (l1.zip l2).take j) u6 cs')
    (pi3 : wr.cell? ⟨p, 3, none⟩ = some (.slice (some ⟨b1, o1, none⟩) l1.length cap1)) (qi3 : wr.cell? ⟨q, 3, none⟩ = some (.slice (some ⟨b2, o2, none⟩) l2.length cap2)) (np : u6.ownBlock ≠ some p) (nq : u6.ownBlock ≠ some q) (pil : p < wr.heap.size) (qil : q < wr.heap.size)
    (hx : ValP w l1[j] (.agg #[d0, d1, d2, d3])) (hy : ValP w (l2[j]'(by omega)) (.agg #[d4, d5, d6, d7]))
    (ho : w6.ownsRow (w.heap.size + 3) 56 8 (.slice (some ⟨g, 0, none⟩) ((rest ++ (l1.zip l2).take j).length + 1) cc) ((rest ++ (l1.zip l2).take j).length + 1) (cs' ++ [d0, d1, d2, d3, d4, d5, d6, d7]))
    (hg : ((wr.alloc o).drew).grownBy w6 u6.ownBlock) (hat : u6.ownBlock = some g ∨ g = wr.heap.size + 1) :
    Inner w rest l1 l2 ks5 p q b1 o1 b2 o2 cap1 cap2 (.slice (some ⟨g, 0, none⟩) (rest.length + j + 1) cc) i w6 := by
  have hnl : (rest ++ (l1.zip l2).take j).length = rest.length + j := by simp; omega
  rw [← hnl]
  obtain ⟨hE6, hgs, hblk⟩ := push_facts hEi hg (fun k hk => by have := (hRi.1.lt k hk).1; omega)
  have hB := hMi.lt
  refine ⟨j + 1, cs' ++ [d0, d1, d2, d3, d4, d5, d6, d7], by omega, hi, hE6, hMi.along hMO hEi hE6 (hblk _ hB (fun e => by have := (hRi.1.lt _ e).1; omega)), ?_, ?_, ?_, ⟨?_, ?_⟩, by omega, by omega⟩
  · rw [take_zip hlen hj, ← List.append_assoc]
    exact hRi.push ho hx hy
  · rw [World.cell?_of_block (hblk p pil np)]; exact pi3
  · rw [World.cell?_of_block (hblk q qil nq)]; exact qi3
  · rcases hat with e | e
    · rw [e] at np; exact np
    · simp [Value.ownBlock]; omega
  · rcases hat with e | e
    · rw [e] at nq; exact nq
    · simp [Value.ownBlock]; omega
theorem map_block (w : World) (o1 o2 o : Obj) : (((w.alloc o1).alloc o2).alloc o).heap[w.heap.size + 2]? = some o := by
  have h := blk_alloc_new ((w.alloc o1).alloc o2) o
  rw [World.size_alloc, World.size_alloc] at h
  exact h
theorem two_boxes (w : World) (c0 c1 c2 c3 d0 d1 d2 d3 : Value) (T T' : TypeId) :
    Ext w ((w.alloc (.cells #[c0, c1, c2, c3] T)).alloc (.cells #[d0, d1, d2, d3] T')).drew ∧ BoxAt ((w.alloc (.cells #[c0, c1, c2, c3] T)).alloc (.cells #[d0, d1, d2, d3] T')).drew w.heap.size c0 c1 c2 c3 ∧
      BoxAt ((w.alloc (.cells #[c0, c1, c2, c3] T)).alloc (.cells #[d0, d1, d2, d3] T')).drew (w.heap.size + 1) d0 d1 d2 d3 := by
  refine ⟨(((Ext.refl _).alloc _).alloc _).drew, (BoxAt.new w c0 c1 c2 c3 T).ext ((Ext.refl _).alloc _).drew, ?_⟩
  have h := BoxAt.new (w.alloc (.cells #[c0, c1, c2, c3] T)) d0 d1 d2 d3 T'
  rw [World.size_alloc] at h
  exact h.ext (Ext.refl _).drew

set_option maxRecDepth 100000 in
set_option maxHeartbeats 4000000 in
theorem sameInAll_any (x y : V) (u v : Value) (w : World) (hx : ValP w x u) (hy : ValP w y v) (hcnt : cntV x ≤ 1048576) :
    Calls Try.prog 19 #[u, v] w fun e w' => e = .returned (.bool (sameV x y)) ∧ Ext w w' := by
  obtain ⟨kk, nn, tt, aa, ll, cc, hsh⟩ := hx.toIn.shape
  subst hsh
  obtain ⟨kk', nn', tt', aa', ll', cc', hsh⟩ := hy.toIn.shape
  subst hsh
  have hmm := @run_makeMap Try.prog
  have HC : Hid (cntV x ≤ 1048576) := hcnt
  clear hcnt
  go_enter Try.func19, Try.ntmps19
  go_wp2
  clear hmm
  go_loopg [6] (1 + cntV x) (fun k u6 wr => Asking w x y k u6 wr)
  case atStart =>
    refine ⟨[(x, y)], [], [], _, rfl, Nat.le_refl _, Known.start x y, two_alloc _ _ _ _ _, ⟨#[], 0, ?_, rfl, fun e he => absurd he List.not_mem_nil, fun k hk => absurd hk List.not_mem_nil⟩, fun k hk => absurd hk List.not_mem_nil, RowP.start ?_ ?_ hx hy⟩
    · rw [Below.heap_alloc _ _ _ (by simp)]
      exact map_block _ _ _ _
    · simp
    · simp
  case round =>
    obtain ⟨todo, ks, met, cs, hmu, hk, hK, hE, hM, hMO, hR⟩ := hrel
    rcases List.eq_nil_or_concat todo with rfl | ⟨rest, q, hcon⟩
    · have hfin : Hid (sameV x y = true) := hK.done
      obtain ⟨⟨_, ho⟩, _⟩ := hR
      rcases ho with ⟨rfl, _⟩ | ⟨g, cap, cur, rfl, _⟩
      all_goals
        clear hK hM hMO hx hy hmu hk
        go_wp2
        go_ret
        exact ⟨ret_bool hfin.out.symm, hE⟩
    · rw [List.concat_eq_append] at hcon
      subst hcon
      obtain ⟨g, cap, d0, d1, d2, d3, d4, d5, d6, d7, rfl, hcap1, hcap2, hbg, hg, ⟨c0, c1, c2, c3⟩, ⟨c4, c5, c6, c7⟩, hv1, hv2, hR2⟩ := hR.last
      rw [mu_append] at hmu
      have hlen := mu_len rest
      obtain ⟨qx, qy⟩ := q
      obtain ⟨k1, n1, t1, l1⟩ := qx
      obtain ⟨k2, n2, t2, l2⟩ := qy
      obtain ⟨a1, cap1, he1, wk1, wn1, wt1, hL1⟩ := hv1.open
      obtain ⟨a2, cap2, he2, wk2, wn2, wt2, hL2⟩ := hv2.open
      simp only [Value.agg.injEq, Array.mk.injEq, List.cons.injEq, and_true] at he1 he2
      obtain ⟨rfl, rfl, rfl, rfl⟩ := he1
      obtain ⟨rfl, rfl, rfl, rfl⟩ := he2
      have HH : Hid (mu rest + mu [(V.mk k1 n1 t1 l1, V.mk k2 n2 t2 l2)] = gk ∧ gk ≤ 1 + cntV x) := ⟨hmu, hk⟩
      have hr : rest.length ≤ 1048577 := by have := HC.out; omega
      have hwrap : IntKind.i64.wrap (((rest.length + 1 : Nat) : Int) - 1) = (rest.length : Int) := by
        simp [IntKind.wrap, IntKind.signed, IntKind.bits]
        omega
      have hwrap2 : IntKind.i64.wrap ((rest.length : Int) + 1 - 1) = (rest.length : Int) := by simpa using hwrap
      clear hmu hk hlen hx hy hR hv1 hv2
      generalize hr0 : rest.length = r at *
      have HR0 : Hid (rest.length = r) := hr0
      clear hr0
      go_upto_region 4 with fail
      go_cut [7, 8] (fun s7 s8 wc => ∃ p q, s7 = .pointer (some ⟨p, 0, none⟩) ∧ s8 = .pointer (some ⟨q, 0, none⟩) ∧ (wr.heap.size ≤ p ∧ wr.heap.size ≤ q) ∧ Ext wr wc ∧ BoxAt wc p (.int .i64 k1) (.int .i64 n1) (.string t1) (.slice a1 l1.length cap1) ∧ BoxAt wc q (.int .i64 k2) (.int .i64 n2) (.string t2) (.slice a2 l2.length cap2))
      case first =>
        clear hM hMO hK hL1 hL2 hR2 HC HH HR0
        go_region
        all_goals
          go_wp2_with fail
          go_meet
          first
            | exact ⟨_, _, rfl, rfl, ⟨by omega, by omega⟩, (two_boxes _ _ _ _ _ _ _ _ _ _ _).1, (two_boxes _ _ _ _ _ _ _ _ _ _ _).2.1, (two_boxes _ _ _ _ _ _ _ _ _ _ _).2.2⟩
            | exact ⟨_, _, rfl, rfl, ⟨by omega, by omega⟩, (two_boxes _ _ _ _ _ _ _ _ _ _ _).1, (two_boxes _ _ _ _ _ _ _ _ _ _ _).2.2, (two_boxes _ _ _ _ _ _ _ _ _ _ _).2.1⟩
      case rest =>
        obtain ⟨p, q, rfl, rfl, ⟨plo, qlo⟩, hE1, ⟨pl, p0, p1, p2, p3⟩, ⟨ql, q0, q1, q2, q3⟩⟩ := hcut
        have hE2 := hE.trans hE1
        clear c0 c1 c2 c3 c4 c5 c6 c7
        by_cases hkk : k1 = k2
        case neg =>
          have e0 : (k1 != k2) = true := by simp [hkk]
          have hfin : Hid (sameV x y = false) := hK.no (by unfold sameP sameV; simp [hkk])
          clear hkk hK hM hMO hL1 hL2 hR2 hE1
          go_wp2
          go_ret
          exact ⟨ret_bool hfin.out.symm, hE2⟩
        subst hkk
        by_cases hnn : n1 = n2
        case neg =>
          have e0 : (n1 != n2) = true := by simp [hnn]
          have hfin : Hid (sameV x y = false) := hK.no (by unfold sameP sameV; simp [hnn])
          clear hnn hK hM hMO hL1 hL2 hR2 hE1
          go_wp2
          go_ret
          exact ⟨ret_bool hfin.out.symm, hE2⟩
        subst hnn
        by_cases htt : (t1.toList == t2.toList) = true
        case neg =>
          have e0 : (t1.toList == t2.toList) = false := by simpa using htt
          have hfin : Hid (sameV x y = false) := hK.no (by unfold sameP sameV; simp only; rw [e0]; simp)
          clear htt hK hM hMO hL1 hL2 hR2 hE1
          go_wp2
          go_ret
          exact ⟨ret_bool hfin.out.symm, hE2⟩
        have hm1 := hL1.1
        have hm2 := hL2.1
        unfold maxLen at hm1 hm2
        by_cases hlen : l1.length = l2.length
        case neg =>
          have e0 : ((l1.length : Int) != (l2.length : Int)) = true := by simp; omega
          have hfin : Hid (sameV x y = false) := hK.no (by
            unfold sameP sameV
            cases h : sameVL l1 l2
            · simp
            · exact absurd (sameVL_length _ _ h) hlen)
          clear hK hM hMO hL1 hL2 hR2 hE1
          go_wp2
          go_ret
          exact ⟨ret_bool hfin.out.symm, hE2⟩
        have HSQ : Hid (sameP (V.mk k1 n1 t1 l1, V.mk k1 n1 t2 l2) = sameVL l1 l2) := same_mk k1 n1 t1 l1 t2 l2 htt
        have HK : Hid (Known x y (rest ++ [(V.mk k1 n1 t1 l1, V.mk k1 n1 t2 l2)]) met) := hK
        have HLEN : Hid (l1.length = l2.length) := hlen
        have hl2 : ((l1.length : Int) != (l2.length : Int)) = false := by simp; omega
        clear hK hlen
        by_cases h0 : l1.length = 0
        · have HKN : Hid (Known x y rest met) := HK.out.leaf (by rw [HSQ.out]; obtain rfl := List.eq_nil_of_length_eq_zero h0; obtain rfl := List.eq_nil_of_length_eq_zero (HLEN.out.symm.trans h0); unfold sameVL; rfl)
          have e0 : ((l1.length : Int) == 0) = true := by simp [h0]
          clear hL1 hL2
          go_wp2
          go_roundg (mu rest)
          case measure => have := HH.out.1; simp only [mu] at this; omega
          case rel => exact ⟨rest, ks, met, _, rfl, by have := HH.out; omega, HKN.out, hE2, hM.ext hE1, hMO, hR2.ext hE1⟩
        · have h0' : 0 < l1.length := by omega
          obtain ⟨b1, o1, ea1, _⟩ := hL1.2 h0'
          obtain ⟨b2, o2, ea2, _⟩ := hL2.2 (by have := HLEN.out; omega)
          subst ea1 ea2
          have e0 : ((l1.length : Int) == 0) = false := by rw [beq_eq_false_iff_ne]; omega
          have hl2p : 0 < l2.length := by have := HLEN.out; omega
          obtain ⟨wq, hwq⟩ : ∃ wq, wq = wc := ⟨_, rfl⟩
          subst hwq
          go_upto_region 9 with fail
          go_cut [9] (fun s9 wc2 => ∃ p9, s9 = .pointer (some ⟨p9, 0, none⟩) ∧ Ext wq wc2 ∧ wc2.cell? ⟨p9, 0, none⟩ = some (.pointer (some ⟨b1, o1, none⟩)) ∧ wc2.cell? ⟨p9, 1, none⟩ = some (.pointer (some ⟨b2, o2, none⟩)) ∧ wc2.cell? ⟨p9, 2, none⟩ = some (.int .i64 l1.length))
          case first =>
            clear hM hMO hL1 hL2 hR2 HC HH HR0 HSQ HK HLEN hE1 hE2 hE
            go_region
            all_goals
              go_wp2_with fail
              go_meet
              exact ⟨_, rfl, ((Ext.refl _).alloc _).drew, by simp, by simp, by simp⟩
          case rest =>
            obtain ⟨p9, rfl, hE3, g0, g1, g2⟩ := hcut
            have hE4 := hE2.trans hE3
            have hl1 := hL1.cool h0' hE4
            have hl2c := hL2.cool hl2p hE4
            have hcool : Cool3 wc (⟨b1, o1, none⟩, ⟨b2, o2, none⟩, l1.length) := ⟨hl1.1, hl2c.1⟩
            have hMc := (hM.ext hE1).ext hE3
            have hlook := look_met hMc hcool
            unfold kv at hlook
            dsimp only at hlook
            by_cases hin : ((⟨b1, o1, none⟩, ⟨b2, o2, none⟩, l1.length) : Key3) ∈ ks
            · have hlk := hlook.2 hin
              have HKN : Hid (Known x y rest met) := HK.out.again (MetOf.find hMO hin rfl HLEN.out.symm hL1 hL2) HSQ.out
              clear hlook hin hl1 hl2c hcool hL1 hL2 p0 p1 p2 p3 q0 q1 q2 q3
              go_wp2
              go_roundg (mu rest)
              case measure => have := HH.out.1; simp only [mu] at this; omega
              case rel => exact ⟨rest, ks, met, _, rfl, by have := HH.out; omega, HKN.out, hE4, hMc, hMO, (hR2.ext hE1).ext hE3⟩
            · have hlk := hlook.1 hin
              obtain ⟨w5, hput, hM5, hE5, hsz5, hblk5⟩ := put_met hMc hcool hin hE4 (by omega)
              unfold kv at hput
              dsimp only at hput
              have HKN : Hid (Known x y (rest ++ l1.zip l2) ((l1, l2) :: met)) := HK.out.push HLEN.out HSQ.out
              have hMO5 := MetOf.put hMO (k := (⟨b1, o1, none⟩, ⟨b2, o2, none⟩, l1.length)) rfl HLEN.out.symm hL1 hL2 hl1.2 hl2c.2
              have hp3 : w5.cell? ⟨p, 3, none⟩ = some (.slice (some ⟨b1, o1, none⟩) l1.length cap1) := by rw [World.cell?_of_block (hblk5 p (by have := hE.le; omega)), Ext.cell hE3 pl]; exact p3
              have hq3 : w5.cell? ⟨q, 3, none⟩ = some (.slice (some ⟨b2, o2, none⟩) l2.length cap2) := by rw [World.cell?_of_block (hblk5 q (by have := hE.le; omega)), Ext.cell hE3 ql]; exact q3
              have hR5 : RowP w (w.heap.size + 3) w5 rest (.slice (some ⟨g, 0, none⟩) r cap) (List.take (r * 8) cs) := ((hR2.ext hE1).ext hE3).blocks (fun b hb _ => hblk5 b (by omega))
              have hlt5 : p < w5.heap.size ∧ q < w5.heap.size := by have := hE3.le; omega
              clear hlook hin hl1 hl2c hcool p0 p1 p2 p3 q0 q1 q2 q3 hM hMc hblk5 hMO hR2
              have HM5 : Hid (MetOf w (ks ++ [(⟨b1, o1, none⟩, ⟨b2, o2, none⟩, l1.length)]) ((l1, l2) :: met)) := hMO5
              have hroom : rest.length + l1.length ≤ 1048577 := by
                have h1 := HH.out
                have h2 := HC.out
                have h3 := mu_len rest
                have h4 := cntL_len l1
                simp only [mu, cntV] at h1
                omega
              go_wp2
              obtain ⟨i0, hi, hz0, hz1, hz2⟩ := info_parts Try.infoP
              go_loopw [6, 89] (fun u6 i wi => Inner w rest l1 l2 (ks ++ [(⟨b1, o1, none⟩, ⟨b2, o2, none⟩, l1.length)]) p q b1 o1 b2 o2 cap1 cap2 u6 i wi) (fun _ i _ => l1.length - (intOf i).toNat)
              case atStart => exact ⟨0, _, Nat.zero_le _, rfl, hE5, hM5, by rw [List.take_zero, List.append_nil]; exact hR5, hp3, hq3, ⟨by simp [Value.ownBlock]; omega, by simp [Value.ownBlock]; omega⟩, hlt5⟩
              case round =>
                obtain ⟨j, cs', hj, rfl, hEi, hMi, hRi, pi3, qi3, ⟨np, nq⟩, pil, qil⟩ := hrel
                by_cases hlt : j < l1.length
                · have hlt2 : j < l2.length := by have := HLEN.out; omega
                  obtain ⟨b1', o1', ea1, hb1, _, hcs1⟩ := hL1.2 h0'
                  obtain ⟨b2', o2', ea2, hb2, _, hcs2⟩ := hL2.2 hl2p
                  simp only [Option.some.injEq, Addr.mk.injEq, and_true] at ea1 ea2
                  obtain ⟨rfl, rfl⟩ := ea1
                  obtain ⟨rfl, rfl⟩ := ea2
                  obtain ⟨x0, x1, x2, x3, s0, s1, s2, s3, hvx⟩ := hcs1 j hlt
                  obtain ⟨y0, y1, y2, y3, m0, m1, m2, m3, hvy⟩ := hcs2 j hlt2
                  clear hcs1 hcs2
                  rw [← hEi.cell hb1] at s0 s1 s2 s3
                  rw [← hEi.cell hb2] at m0 m1 m2 m3
                  have hnl : (rest ++ (l1.zip l2).take j).length = rest.length + j := by simp; omega
                  have hRd := hRi.ext (Ext.refl wr).drew
                  have hoc : x0.oneCell' = true ∧ x1.oneCell' = true ∧ x2.oneCell' = true ∧ x3.oneCell' = true := by obtain ⟨_, _, _, _, _, _, hsh⟩ := hvx.toIn.shape; simp only [Value.agg.injEq, Array.mk.injEq, List.cons.injEq, and_true] at hsh; obtain ⟨rfl, rfl, rfl, rfl⟩ := hsh; simp [Value.oneCell']
                  have hoc2 : y0.oneCell' = true ∧ y1.oneCell' = true ∧ y2.oneCell' = true ∧ y3.oneCell' = true := by obtain ⟨_, _, _, _, _, _, hsh⟩ := hvy.toIn.shape; simp only [Value.agg.injEq, Array.mk.injEq, List.cons.injEq, and_true] at hsh; obtain ⟨rfl, rfl, rfl, rfl⟩ := hsh; simp [Value.oneCell']
                  have hle := hEi.le
                  have HX : Hid (ValP w l1[j] (.agg #[x0, x1, x2, x3]) ∧ ValP w l2[j] (.agg #[y0, y1, y2, y3])) := ⟨hvx, hvy⟩
                  clear hvx hvy
                  go_wp2_with fail
                  go_region_law
                    (refine step_append_lies _ (by rfl) _ _ _ (by rfl) (w.heap.size + 3) 56 i0 _ 8 112 Try.underlying57 hi hz0 hz1 hz2 rfl (by omega) _ _ cs' (by rfl) (hRd.1.alloc _)
                       ⟨wr.heap.size, 0, none⟩ 1 1 [x0, x1, x2, x3, y0, y1, y2, y3] (by rfl) (by rfl) (World.news_of_block (cs := #[x0, x1, x2, x3, y0, y1, y2, y3]) (t := 56) (fr := (0, 0)) (heap_alloc_new wr.drew _)) (by simp [hoc, hoc2])
                       (by omega) (by unfold maxLen; omega) (by omega) (by have := hMi.lt; simp; omega) (wr.heap.size + 1) (by simp) ?_; intro gg cc2 w6 hown6 hgrow6 hat6 hlt6)
                  all_goals
                    go_wp2
                    go_roundw
                    case rel => exact Inner.step HLEN.out hlt (show Value.int .i64 ((j : Int) + 1) = _ by simp) hEi hMi HM5.out hRi pi3 qi3 np nq pil qil HX.out.1 HX.out.2 hown6 hgrow6 hat6
                    case measure => simp [intOf]; omega
                · have hjl : j = l1.length := by omega
                  have hz : (l1.zip l2).take j = l1.zip l2 := List.take_of_length_le (by simp; omega)
                  rw [hz] at hRi
                  clear hL1 hL2 hp3 hq3 hR5 hM5
                  go_wp2
                  go_roundg (mu rest + cntL l1)
                  case measure => have := HH.out.1; simp only [mu, cntV] at this; omega
                  case rel => exact ⟨rest ++ l1.zip l2, _, _, cs', by rw [mu_append, mu_zip _ _ HLEN.out], by have := HH.out; simp only [mu, cntV] at this; omega, HKN.out, hEi, hMi, HM5.out, hRi⟩
end Go.Proofs.Ytkngihmfknmnaaa
