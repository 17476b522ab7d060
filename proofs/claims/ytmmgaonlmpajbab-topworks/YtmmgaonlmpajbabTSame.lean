/-
  The whole's same, of two crowds whose nodes and letters are the same.
-/
import Derived.Test.YtmmgaonlmpajbabCAlive
import Derived.Test.YtmmgaonlmpajbabKSame
namespace Go.Proofs.Ytmmgaonlmpajbab
open Go.RowKit

theorem eq_letter (x : Nat × Wd) (W : World) : Sem.run Try.prog (Op.equalIn 10000 71 (.agg (leArr x)) (.agg (leArr x))) W = .ok true W := by
  have f0 : (wdArr x.2)[0]? = some (.int .i64 x.2.k) := rfl
  have f1 : (wdArr x.2)[1]? = some (.int .i64 x.2.f) := rfl
  have f2 : (wdArr x.2)[2]? = some (.int .i64 x.2.h) := rfl
  have f3 : (wdArr x.2)[3]? = some (.int .i64 x.2.r) := rfl
  have f4 : (wdArr x.2)[4]? = some (.int .i64 x.2.v) := rfl
  have f5 : (wdArr x.2)[5]? = some (.int .i64 x.2.x) := rfl
  have e0 : (leArr x)[0]? = some (.int .i64 (x.1 : Int)) := rfl
  have e1 : (leArr x).extract 1 7 = wdArr x.2 := rfl
  rw [run_equalIn_struct (P := Try.prog) W 9999 71 _ _ (by kernel_rfl) (by kernel_rfl)]
  simp [Program.fieldsOf, Try.underlying71, Op.eqFields, Sem.run_bind, e0, e1, f0, f1, f2, f3, f4, f5, go_sem, Try.underlying3, Try.underlying36]

set_option maxRecDepth 100000 in
set_option maxHeartbeats 8000000 in
theorem same_any {w : World} {g1 g2 : Nat} {c d : Cw} {q1 q2 : Nat → Value} {nt1 nt2 : Value} (H1 : CwAt w g1 93 c q1 nt1) (H2 : CwAt w g2 93 d q2 nt2)
    (hnd : ∀ i, i < 4 → d.nd i = c.nd i) (hnet : d.net = c.net) (hl : c.net.length ≤ 2000) (hql : ∀ i, i < 4 → (c.nd i).queue.length ≤ 6) :
    Calls Try.prog 35 #[.pointer (some ⟨g1, 0, none⟩), .pointer (some ⟨g2, 0, none⟩)] w fun e w' => e = .returned (.bool true) ∧ Below w.heap.size w w' := by
  have hA := net_any H1 hl
  have hB := fun W (hW : Below w.heap.size w W) => net_any (H2.keep hW) (by rw [hnet]; exact hl)
  rw [hnet] at hB
  have HB : Hid _ := hB
  have HN1 : Hid (∀ W, Below w.heap.size w W → CwAt W g1 93 c q1 nt1) := fun W hW => H1.keep hW
  have HN2 : Hid (∀ W, Below w.heap.size w W → CwAt W g2 93 d q2 nt2) := fun W hW => H2.keep hW
  have HD : Hid (∀ i, i < 4 → d.nd i = c.nd i) := hnd
  have hz := run_zeroN
  clear H1 H2 hB hnd hnet
  generalize c.net = net at hA HB hl
  go_enter Try.func35, Try.ntmps35
  go_upto_region 2 with (first
    | (go_at_call 24; refine hA.mono ?_; clear hA; rintro e w1 ⟨n1, rfl, own1, L1⟩; obtain ⟨a1, c1, hv1⟩ := own_shape own1; subst hv1)
    | (go_at_call 24; refine (HB.out w1 L1).mono ?_; rintro e w2 ⟨n2, rfl, own2, L2⟩; obtain ⟨a2, c2, hv2⟩ := own_shape own2; subst hv2))
  have L12 : Hid (Below w.heap.size w w2) := bel_trans L1 L2
  have O1 : Hid (∀ W, Below w2.heap.size w2 W → W.ownsRow w.heap.size 71 7 (.slice a1 net.length c1) net.length (lesCells net)) := fun W hW => own_below (own_below own1 L2) hW
  have O2 : Hid (∀ W, Below w2.heap.size w2 W → W.ownsRow w1.heap.size 71 7 (.slice a2 net.length c2) net.length (lesCells net)) := fun W hW => own_below own2 hW
  clear own1 own2 L1 L2 HB
  go_wp2
  go_loopw [23] (fun i W => ∃ j : Nat, j ≤ net.length ∧ i = .int .i64 (j : Int) ∧ Below w2.heap.size w2 W) (fun i _ => net.length - (intOf i).toNat)
  case atStart => exact ⟨0, by omega, rfl, Below.refl _ _⟩
  case round =>
    obtain ⟨j, hj, rfl, hB⟩ := hrel
    by_cases hlt : j < net.length
    · have hjI : (j : Int) < (net.length : Int) := by omega
      have hx : net[j]? = some net[j] := List.getElem?_eq_getElem hlt
      obtain ⟨b1, k1, hv, _⟩ := own_at (O1.out wr hB) (by omega)
      injection hv with hv1 hv2 hv3
      subst hv1 hv3
      obtain ⟨b2, k2, hv', _⟩ := own_at (O2.out wr hB) (by omega)
      injection hv' with hv1 hv2 hv3
      subst hv1 hv3
      have hr1 : ∀ V, Below w2.heap.size w2 V → V.rangeAt b1 (j * 7) (leArr net[j]).toList := fun V hV => le_range (O1.out V hV) hx
      have hr2 : ∀ V, Below w2.heap.size w2 V → V.rangeAt b2 (j * 7) (leArr net[j]).toList := fun V hV => le_range (O2.out V hV) hx
      clear hx
      generalize net[j] = x at hr1 hr2
      have heq := eq_letter x
      have hil := info_leArr x
      generalize leArr x = X at hr1 hr2 heq hil
      go_upto_region 7 with fail
      refine q_region (C := fun V => Below w2.heap.size w2 V) (by kernel_rfl) (by kernel_rfl) (below_drew' hB) ?_
      repeat (first
        | (refine q_skip (by rfl) ?_; simp only [Act.put, List.setIfInBounds_toArray, List.set_cons_zero, List.set_cons_succ])
        | (refine q_load (by rfl) 71 _ rfl b1 (j * 7) (by first | rfl | simp) X _ hr1 Try.underlying71 rfl hil ?_; simp only [Act.put, List.setIfInBounds_toArray, List.set_cons_zero, List.set_cons_succ])
        | (refine q_load (by rfl) 71 _ rfl b2 (j * 7) (by first | rfl | simp) X _ hr2 Try.underlying71 rfl hil ?_; simp only [Act.put, List.setIfInBounds_toArray, List.set_cons_zero, List.set_cons_succ])
        | (refine q_run_ex (by rfl) ?_
           apply Exists.intro
           refine ⟨fun w0 hC => ?_, ?_⟩
           · clear hC; go_simp; rfl
           simp only [Act.put, List.setIfInBounds_toArray, List.set_cons_zero, List.set_cons_succ]))
      refine q_nil ?_
      intro w4 hC4
      go_wp2
      go_roundw
      case rel => exact ⟨j + 1, by omega, by go_num, hC4⟩
      case measure => simp [intOf]; omega
    · go_wp2
      clear O1 O2
      go_loopw [36] (fun i W => ∃ k : Nat, k ≤ 4 ∧ i = .int .i64 (k : Int) ∧ Below w2.heap.size w2 W) (fun i _ => 4 - (intOf i).toNat)
      case atStart => exact ⟨0, by omega, rfl, hB⟩
      case round =>
        clear hB
        obtain ⟨i, hi, rfl, hB⟩ := hrel
        by_cases hi4' : i < 4
        · have hiI : (i : Int) < 4 := by omega
          have hqi := hql i hi4'
          have hn1 := node_any (HN1.out wr (bel_trans L12.out hB)) i hi4' hqi
          have hn2 := fun W (hW : Below w.heap.size w W) => node_any (HN2.out W hW) i hi4' (by rw [HD.out i hi4']; exact hqi)
          rw [HD.out i hi4'] at hn2
          have HQ2 : Hid _ := hn2
          clear hn2
          generalize c.nd i = nd at hn1 HQ2 hqi
          rename World => w3
          go_upto_region 14 with (first
            | (go_at_call 23; refine hn1.mono ?_; clear hn1; rintro e w4 ⟨q4, rfl, own4, L4⟩)
            | (go_at_call 23; refine (HQ2.out w4 (bel_trans (bel_trans L12.out hB) L4)).mono ?_; rintro e w5 ⟨q5, rfl, own5, L5⟩; have hi4n := infoN (nd.ni q4); have hi5n := infoN (nd.ni q5); have Za : Blk ((w5.alloc (.cells zN.cells 34)).alloc (.cells zN.cells 34)) w5.heap.size zN.cells 34 := (Blk.new w5 _ _).alloc _; have Zb : Blk ((w5.alloc (.cells zN.cells 34)).alloc (.cells zN.cells 34)) (w5.heap.size + 1) zN.cells 34 := Blk.new1 w5 _ _ _; have La : Below w5.heap.size w5 ((w5.alloc (.cells zN.cells 34)).alloc (.cells zN.cells 34)) := (by go_grown))
            | (refine wpList_store_blk rfl 34 _ _ rfl w5.heap.size zN.cells (nd.ni q4).cells 34 rfl rfl Za (by rw [ncells_size, ncells_size]) hi4n (one_cellN _ (own_one own4)) ?_; rintro w6 B6 K6; have Zb6 := K6.blk _ _ _ (by omega) Zb; have L6 := K6.bel _ _ (Nat.le_refl _) La)
            | (refine wpList_store_blk rfl 34 _ _ rfl (w5.heap.size + 1) zN.cells (nd.ni q5).cells 34 rfl rfl Zb6 (by rw [ncells_size, ncells_size]) hi5n (one_cellN _ (own_one own5)) ?_; rintro w7 B7 K7; have A7 := K7.blk _ _ _ (by omega) B6; have L7 := K7.bel _ _ (by omega) L6))
          have hB7 : Below w2.heap.size w2 w7 := bel_trans (bel_trans (bel_trans hB L4) L5) L7
          have hq1 : Ints w7 q4 nd.queue := own_ints (own_below (own_below own4 L5) L7)
          have hq2 : Ints w7 q5 nd.queue := own_ints (own_below own5 L7)
          have B7' : Blk w7 (w5.heap.size + 1) ((nd.ni q4).setQ q5).cells 34 := B7
          have hnq : (nd.ni q4).q = q4 := rfl
          clear hB own4 own5 L4 L5 K6 K7 Za Zb Zb6 La B6 L6 L7 B7 hi4n hi5n HQ2
          obtain ⟨qa, qc, hqv⟩ := hq1.len
          obtain ⟨pa, pc, hpv⟩ := hq2.len
          generalize nd.queue = l at *
          generalize nd.ni q4 = n at *
          rw [← hnq] at hq1 hqv
          clear hnq
          generalize w5.heap.size = p at *
          have c7 := ncells_q n
          have d7 : (n.setQ q5).cells[281]? = some (.slice pa l.length pc) := (ncells_q (n.setQ q5)).trans (congrArg some hpv)
          rw [hqv] at c7
          have HQ : Hid (n.q = .slice qa l.length qc) := hqv
          have HP : Hid (q5 = .slice pa l.length pc) := hpv
          clear hqv hpv
          have e7 := A7.cell 281
          rw [c7] at e7
          have f7 := B7'.cell 281
          rw [d7] at f7
          have HI1 : Hid (Ints w7 n.q l) := hq1
          have HI2 : Hid (Ints w7 q5 l) := hq2
          clear hq1 hq2
          go_wp2
          go_loopw [55] (fun i W => ∃ j : Nat, j ≤ l.length ∧ i = .int .i64 (j : Int) ∧ Below w7.heap.size w7 W) (fun i _ => l.length - (intOf i).toNat)
          case atStart => exact ⟨0, by omega, rfl, Below.refl _ _⟩
          case round =>
            clear e7 f7
            obtain ⟨j, hj, rfl, hB⟩ := hrel
            have B1 := A7.below hB
            have B2 := B7'.below hB
            by_cases hlt : j < l.length
            · have e7 := B1.cell 281
              rw [c7] at e7
              have f7 := B2.cell 281
              rw [d7] at f7
              obtain ⟨ad, cap, hv, hcell⟩ := (HI1.out.keep hB).lies hlt
              rw [HQ.out] at hv
              injection hv with hv1 hv2 hv3
              subst hv1 hv3
              obtain ⟨ad', cap', hv', hcell'⟩ := (HI2.out.keep hB).lies hlt
              rw [HP.out] at hv'
              injection hv' with hv1 hv2 hv3
              subst hv1 hv3
              clear B1 B2
              go_wp2
              go_quiet (fail)
              go_wp2
              go_roundw
              case rel => exact ⟨j + 1, by omega, by go_num, below_drewN2 hB _⟩
              case measure => simp [intOf]; omega
            · skip
              have hr1 := heardA_range B1
              have hr2 := heardA_range (n := n.setQ q5) B2
              rw [show heardA (n.setQ q5) = heardA n from rfl] at hr2
              have hi31 : (Try.prog.info? 31).map (·.size) = some (heardA n).size := by rw [heardA_size]; kernel_rfl
              have heq := eq_heard n
              have heq22 := eq_seen (n.seen 0) (n.seen 1) (n.seen 2) (n.seen 3) (n.seen 4) (n.seen 5)
              have heq26 := eq_four (n.settled 0) (n.settled 1) (n.settled 2) (n.settled 3)
              have c0 := B1.cell 0
              rw [show (n).cells[0]? = some (.int .i64 n.height) from ncells_num _ 0 (by omega)] at c0
              have c1 := B1.cell 1
              rw [show (n).cells[1]? = some (.int .i64 n.round) from ncells_num _ 1 (by omega)] at c1
              have c2 := B1.cell 2
              rw [show (n).cells[2]? = some (.int .i64 n.step) from ncells_num _ 2 (by omega)] at c2
              have c3 := B1.cell 3
              rw [show (n).cells[3]? = some (.int .i64 n.bound) from ncells_num _ 3 (by omega)] at c3
              have c4 := B1.cell 4
              rw [show (n).cells[4]? = some (.int .i64 n.boundIn) from ncells_num _ 4 (by omega)] at c4
              have c5 := B1.cell 5
              rw [show (n).cells[5]? = some (.int .i64 n.valid) from ncells_num _ 5 (by omega)] at c5
              have c6 := B1.cell 6
              rw [show (n).cells[6]? = some (.int .i64 n.validIn) from ncells_num _ 6 (by omega)] at c6
              have cs0 := B1.cell 7
              rw [show (n).cells[7]? = some (.bool (n.seen 0)) from ncells_seen _ 0 (by omega)] at cs0
              have cs1 := B1.cell 8
              rw [show (n).cells[8]? = some (.bool (n.seen 1)) from ncells_seen _ 1 (by omega)] at cs1
              have cs2 := B1.cell 9
              rw [show (n).cells[9]? = some (.bool (n.seen 2)) from ncells_seen _ 2 (by omega)] at cs2
              have cs3 := B1.cell 10
              rw [show (n).cells[10]? = some (.bool (n.seen 3)) from ncells_seen _ 3 (by omega)] at cs3
              have cs4 := B1.cell 11
              rw [show (n).cells[11]? = some (.bool (n.seen 4)) from ncells_seen _ 4 (by omega)] at cs4
              have cs5 := B1.cell 12
              rw [show (n).cells[12]? = some (.bool (n.seen 5)) from ncells_seen _ 5 (by omega)] at cs5
              have ct0 := B1.cell 277
              rw [show (n).cells[277]? = some (.int .i64 (n.settled 0)) from ncells_settled _ 0 (by omega)] at ct0
              have ct1 := B1.cell 278
              rw [show (n).cells[278]? = some (.int .i64 (n.settled 1)) from ncells_settled _ 1 (by omega)] at ct1
              have ct2 := B1.cell 279
              rw [show (n).cells[279]? = some (.int .i64 (n.settled 2)) from ncells_settled _ 2 (by omega)] at ct2
              have ct3 := B1.cell 280
              rw [show (n).cells[280]? = some (.int .i64 (n.settled 3)) from ncells_settled _ 3 (by omega)] at ct3
              have d0 := B2.cell 0
              rw [show (n.setQ q5).cells[0]? = some (.int .i64 n.height) from ncells_num _ 0 (by omega)] at d0
              have d1 := B2.cell 1
              rw [show (n.setQ q5).cells[1]? = some (.int .i64 n.round) from ncells_num _ 1 (by omega)] at d1
              have d2 := B2.cell 2
              rw [show (n.setQ q5).cells[2]? = some (.int .i64 n.step) from ncells_num _ 2 (by omega)] at d2
              have d3 := B2.cell 3
              rw [show (n.setQ q5).cells[3]? = some (.int .i64 n.bound) from ncells_num _ 3 (by omega)] at d3
              have d4 := B2.cell 4
              rw [show (n.setQ q5).cells[4]? = some (.int .i64 n.boundIn) from ncells_num _ 4 (by omega)] at d4
              have d5 := B2.cell 5
              rw [show (n.setQ q5).cells[5]? = some (.int .i64 n.valid) from ncells_num _ 5 (by omega)] at d5
              have d6 := B2.cell 6
              rw [show (n.setQ q5).cells[6]? = some (.int .i64 n.validIn) from ncells_num _ 6 (by omega)] at d6
              have ds0 := B2.cell 7
              rw [show (n.setQ q5).cells[7]? = some (.bool (n.seen 0)) from ncells_seen _ 0 (by omega)] at ds0
              have ds1 := B2.cell 8
              rw [show (n.setQ q5).cells[8]? = some (.bool (n.seen 1)) from ncells_seen _ 1 (by omega)] at ds1
              have ds2 := B2.cell 9
              rw [show (n.setQ q5).cells[9]? = some (.bool (n.seen 2)) from ncells_seen _ 2 (by omega)] at ds2
              have ds3 := B2.cell 10
              rw [show (n.setQ q5).cells[10]? = some (.bool (n.seen 3)) from ncells_seen _ 3 (by omega)] at ds3
              have ds4 := B2.cell 11
              rw [show (n.setQ q5).cells[11]? = some (.bool (n.seen 4)) from ncells_seen _ 4 (by omega)] at ds4
              have ds5 := B2.cell 12
              rw [show (n.setQ q5).cells[12]? = some (.bool (n.seen 5)) from ncells_seen _ 5 (by omega)] at ds5
              have dt0 := B2.cell 277
              rw [show (n.setQ q5).cells[277]? = some (.int .i64 (n.settled 0)) from ncells_settled _ 0 (by omega)] at dt0
              have dt1 := B2.cell 278
              rw [show (n.setQ q5).cells[278]? = some (.int .i64 (n.settled 1)) from ncells_settled _ 1 (by omega)] at dt1
              have dt2 := B2.cell 279
              rw [show (n.setQ q5).cells[279]? = some (.int .i64 (n.settled 2)) from ncells_settled _ 2 (by omega)] at dt2
              have dt3 := B2.cell 280
              rw [show (n.setQ q5).cells[280]? = some (.int .i64 (n.settled 3)) from ncells_settled _ 3 (by omega)] at dt3
              have HB9 : Hid (Below w7.heap.size w7 wr) := hB
              clear hB
              go_wp2_with (first | (refine wpList_load_part (by rfl) 31 _ rfl p 13 rfl (heardA n) _ hr1 Try.underlying31 rfl hi31 ?_) | (refine wpList_load_part (by rfl) 31 _ rfl (p + 1) 13 rfl (heardA n) _ hr2 Try.underlying31 rfl hi31 ?_))
              go_roundw
              case rel => exact ⟨i + 1, by omega, by go_num, bel_trans hB7 HB9.out⟩
              case measure => simp [intOf]; omega
        · go_wp2
          go_ret
          exact ⟨rfl, bel_trans L12.out hB⟩
end Go.Proofs.Ytmmgaonlmpajbab
