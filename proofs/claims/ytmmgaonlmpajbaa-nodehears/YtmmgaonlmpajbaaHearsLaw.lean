/-
  The statement NodeHears.
-/
import Derived.Test.YtmmgaonlmpajbaaDoc9
namespace Go.Proofs.Ytmmgaonlmpajbaa
open Go.RowKit

set_option maxRecDepth 100000 in
set_option maxHeartbeats 8000000 in
theorem nodeHears_any (n : NI) (l : List Int) (who : Int) (v : Wd) (w : World) (hq : Ints w n.q l) (hl : l.length * 8 ≤ 140737488355328) :
    Calls Try.prog 11 #[.agg n.cells, .int .i64 who, .agg #[.int .i64 v.k, .int .i64 v.f, .int .i64 v.h, .int .i64 v.r, .int .i64 v.v, .int .i64 v.x]] w fun e w' => e = .returned (.bool true) ∧ Below w.heap.size w w' := by
  obtain ⟨m, l', ws, code, hb, hA, hD⟩ := hear_both n l who v hl
  have hz := run_zeroN
  have hiN := infoN n
  have hi6 : (Try.prog.info? 23).map (·.size) = some (#[.int .i64 v.k, .int .i64 v.f, .int .i64 v.h, .int .i64 v.r, .int .i64 v.v, .int .i64 v.x] : Array Value).size := by show _ = some 6; kernel_rfl
  have B0 : Blk ((w.alloc (.cells n.cells 61)).alloc (.cells #[.int .i64 v.k, .int .i64 v.f, .int .i64 v.h, .int .i64 v.r, .int .i64 v.v, .int .i64 v.x] 23)) w.heap.size n.cells 61 := (Blk.new w _ _).alloc _
  have Bw : Blk ((w.alloc (.cells n.cells 61)).alloc (.cells #[.int .i64 v.k, .int .i64 v.f, .int .i64 v.h, .int .i64 v.r, .int .i64 v.v, .int .i64 v.x] 23)) (w.heap.size + 1) #[.int .i64 v.k, .int .i64 v.f, .int .i64 v.h, .int .i64 v.r, .int .i64 v.v, .int .i64 v.x] 23 := Blk.new1 w _ _ _
  have L0 : Below w.heap.size w ((w.alloc (.cells n.cells 61)).alloc (.cells #[.int .i64 v.k, .int .i64 v.f, .int .i64 v.h, .int .i64 v.r, .int .i64 v.v, .int .i64 v.x] 23)) := by go_grown
  go_enter Try.func11, Try.ntmps11
  go_upto_region 1 with fail
  generalize ((w.alloc (.cells n.cells 61)).alloc (.cells #[.int .i64 v.k, .int .i64 v.f, .int .i64 v.h, .int .i64 v.r, .int .i64 v.v, .int .i64 v.x] 23)) = w0 at B0 Bw L0 ⊢
  have hcp := copyNode_any n l w0 (hq.keep L0) hl
  go_upto_region 2 with (first
    | (refine wpList_load_blk rfl 61 _ rfl w.heap.size rfl 61 n.cells _ B0 Try.underlying61 rfl hiN ?_)
    | (go_at_call 40; refine hcp.mono ?_; rintro e w1 ⟨q1, rfl, hown1, L1⟩; have hi1 := infoN (n.setQ q1); have Z1 : Blk (w1.alloc (.cells zN.cells 61)) w1.heap.size zN.cells 61 := Blk.new w1 _ _; have La1 : Below w1.heap.size w1 (w1.alloc (.cells zN.cells 61)) := (by go_grown); clear hcp)
    | (refine wpList_store_blk rfl 61 _ _ rfl w1.heap.size zN.cells (n.setQ q1).cells 61 rfl rfl Z1 (by rw [ncells_size, ncells_size]) hi1 (one_cellN _ (own_one hown1)) ?_; rintro w2 C1 K2; have L2 := K2.bel _ _ (Nat.le_refl _) La1; clear Z1 La1))
  have B2 := (B0.below L1).below L2
  have Bw2 := (Bw.below L1).below L2
  have I2 := own_ints (own_below hown1 L2)
  have hc := hA q1 w2 I2
  clear B0 Bw hA
  go_upto_region 3 with (first
    | (refine wpList_load_blk rfl 61 _ rfl w1.heap.size rfl 61 (n.setQ q1).cells _ C1 Try.underlying61 rfl hi1 ?_)
    | (refine wpList_load_blk rfl 23 _ rfl (w.heap.size + 1) rfl 23 _ _ Bw2 Try.underlying23 rfl hi6 ?_)
    | (go_at_call 41; refine hc.mono ?_; rintro e w3 ⟨qa, sa, sc, rfl, hown3, hsaid3, L3⟩; have hia := infoN (m.setQ qa); have Z3 : Blk (w3.alloc (.cells zN.cells 61)) w3.heap.size zN.cells 61 := Blk.new w3 _ _; have La3 : Below w3.heap.size w3 (w3.alloc (.cells zN.cells 61)) := (by go_grown); clear hc)
    | (refine wpList_store_blk rfl 61 _ _ rfl w3.heap.size zN.cells (m.setQ qa).cells 61 rfl rfl Z3 (by rw [ncells_size, ncells_size]) hia (one_cellN _ (own_one hown3)) ?_; rintro w4 C2 K4; have L4 := K4.bel _ _ (Nat.le_refl _) La3; clear Z3 La3))
  have B4 := (B2.below L3).below L4
  have Bw4 := (Bw2.below L3).below L4
  have Iq4 := (((hq.keep L0).keep (bel_trans L1 L2)).keep L3).keep L4
  have hd := hD w4 Iq4
  clear B2 Bw2 hD
  go_upto_region 4 with (first
    | (refine wpList_load_blk rfl 61 _ rfl w.heap.size rfl 61 n.cells _ B4 Try.underlying61 rfl hiN ?_)
    | (refine wpList_load_blk rfl 23 _ rfl (w.heap.size + 1) rfl 23 _ _ Bw4 Try.underlying23 rfl hi6 ?_)
    | (go_at_call 42; refine hd.mono ?_; rintro e w5 ⟨qb, sb, sd, rfl, Ib5, hsaid5, L5⟩; have hib := infoN (m.setQ qb); have Z5 : Blk (w5.alloc (.cells zN.cells 61)) w5.heap.size zN.cells 61 := Blk.new w5 _ _; have La5 : Below w5.heap.size w5 (w5.alloc (.cells zN.cells 61)) := (by go_grown); clear hd)
    | (refine wpList_store_blk rfl 61 _ _ rfl w5.heap.size zN.cells (m.setQ qb).cells 61 rfl rfl Z5 (by rw [ncells_size, ncells_size]) hib (one_cellN _ (ints_one Ib5)) ?_; rintro w6 C3 K6; have L6 := K6.bel _ _ (Nat.le_refl _) La5; clear Z5 La5))
  have L46 := bel_trans L5 L6
  have F0 := B4.below L46
  have F1 := (C1.below (bel_trans L3 L4)).below L46
  have F2 := C2.below L46
  have F3 := C3
  have Iq := Iq4.keep L46
  have I1 := (I2.keep (bel_trans L3 L4)).keep L46
  have Ia := own_ints (own_below hown3 (bel_trans L4 L46))
  have Ib := Ib5.keep L6
  have Wa := own_words (own_below hsaid3 (bel_trans L4 L46))
  have Wb := own_words (own_below hsaid5 L6)
  have L06 : Below w.heap.size w w6 := bel_trans (bel_trans (bel_trans L0 (bel_trans L1 L2)) (bel_trans L3 L4)) L46
  have hl2 : l.length < 4611686018427387904 := by omega
  have hbq := hb.queue
  have hbw := hb.words
  clear B4 Bw4 C1 C2 C3 Iq4 I2 hown1 hown3 hsaid3 hsaid5 Ib5 L0 L1 L2 L3 L4 L5 L6 L46 K2 K4 K6 hb hq
  have hs1 : ∀ W, Below w6.heap.size w6 W → Calls Try.prog 43 #[.agg (m.setQ qa).cells, .agg (m.setQ qb).cells] W fun e w' => e = .returned (.bool true) ∧ Below w6.heap.size w6 w' := fun W hC => (sameNode_alike (m.setQ qa) qb l' W (Ia.keep hC) (Ib.keep hC) hbq).mono fun e w' ⟨he, hb⟩ => ⟨he, bel_trans hC hb⟩
  have hs2 : ∀ W, Below w6.heap.size w6 W → Calls Try.prog 44 #[.slice sa ws.length sc, .slice sb ws.length sd] W fun e w' => e = .returned (.bool true) ∧ Below w6.heap.size w6 w' := fun W hC => (sameWords_alike _ _ ws W (Wa.keep hC) (Wb.keep hC) hbw).mono fun e w' ⟨he, hb⟩ => ⟨he, bel_trans hC hb⟩
  have hs5 : ∀ W, Below w6.heap.size w6 W → Calls Try.prog 43 #[.agg (n.setQ q1).cells, .agg n.cells] W fun e w' => e = .returned (.bool true) ∧ Below w6.heap.size w6 w' := fun W hC => (sameNode_alike (n.setQ q1) n.q l W (I1.keep hC) (Iq.keep hC) hl2).mono fun e w' ⟨he, hb⟩ => ⟨he, bel_trans hC hb⟩
  have hs6 : ∀ W, Below w6.heap.size w6 W → Calls Try.prog 47 #[] W fun e w' => e = .returned (.bool true) ∧ Below w6.heap.size w6 w' := fun W hC => (lnodes_any W).mono fun e w' ⟨he, hb⟩ => ⟨he, bel_trans hC hb⟩
  obtain ⟨gd, hgd⟩ : ∃ gd, goodN n l = gd := ⟨_, rfl⟩
  have hs3 : ∀ W, Below w6.heap.size w6 W → Calls Try.prog 45 #[.agg (n.setQ q1).cells] W fun e w' => e = .returned (.bool gd) ∧ Below w6.heap.size w6 w' := fun W hC => (ngood_any (n.setQ q1) l W (I1.keep hC) hl2).mono fun e w' ⟨he, hb⟩ => ⟨he.trans (by show Ending.returned (.bool (goodN n l)) = _; rw [hgd]), bel_trans hC hb⟩
  have hs4 : ∀ W, Below w6.heap.size w6 W → Calls Try.prog 46 #[.agg n.cells] W fun e w' => e = .returned (.bool gd) ∧ Below w6.heap.size w6 w' := fun W hC => (isNode_any n l W (Iq.keep hC) hl2).mono fun e w' ⟨he, hb⟩ => ⟨he.trans (by rw [hgd]), bel_trans hC hb⟩
  clear hgd Ia Ib Wa Wb Iq I1 hbq hbw hl2
  generalize (m.setQ qa).cells = MA at F2 hs1 hia ⊢
  generalize (m.setQ qb).cells = MB at F3 hs1 hib ⊢
  generalize (n.setQ q1).cells = N1 at F1 hs3 hs5 hi1 ⊢
  generalize n.cells = N0 at F0 hs4 hs5 hiN ⊢
  generalize w1.heap.size = p1 at F1 ⊢
  generalize w3.heap.size = p2 at F2 ⊢
  generalize w5.heap.size = p3 at F3 ⊢
  cases gd
  · refine q_region (C := fun W => Below w6.heap.size w6 W) (by kernel_rfl) (by kernel_rfl) (below_drew' (Below.refl _ _)) ?_
    iterate 3 (first
      | (refine q_skip (by rfl) ?_; simp only [Act.put, List.setIfInBounds_toArray, List.set_cons_zero, List.set_cons_succ])
      | (refine q_load (by rfl) 61 _ rfl p2 0 rfl MA _ (fun W hC => (Blk.below F2 hC).range) Try.underlying61 rfl hia ?_; simp only [Act.put, List.setIfInBounds_toArray, List.set_cons_zero, List.set_cons_succ])
      | (refine q_load (by rfl) 61 _ rfl p3 0 rfl MB _ (fun W hC => (Blk.below F3 hC).range) Try.underlying61 rfl hib ?_; simp only [Act.put, List.setIfInBounds_toArray, List.set_cons_zero, List.set_cons_succ])
      | (refine q_load (by rfl) 61 _ rfl p1 0 rfl N1 _ (fun W hC => (Blk.below F1 hC).range) Try.underlying61 rfl hi1 ?_; simp only [Act.put, List.setIfInBounds_toArray, List.set_cons_zero, List.set_cons_succ])
      | (refine q_load (by rfl) 61 _ rfl w.heap.size 0 rfl N0 _ (fun W hC => (Blk.below F0 hC).range) Try.underlying61 rfl hiN ?_; simp only [Act.put, List.setIfInBounds_toArray, List.set_cons_zero, List.set_cons_succ])
      | (refine q_run_ex (by rfl) ?_
         apply Exists.intro
         refine ⟨fun w0 hC => ?_, ?_⟩
         · clear hC; go_simp; rfl
         simp only [Act.put, List.setIfInBounds_toArray, List.set_cons_zero, List.set_cons_succ])
      | (refine q_call_ex (by rfl) ?_
         apply Exists.intro
         apply Exists.intro
         apply Exists.intro
         refine ⟨fun w0 hC => ?_, fun w0 hC => ?_, ?_⟩
         · clear hC; go_simp; exact ⟨rfl, rfl⟩
         · exact hs1 w0 hC
         simp only [Act.put, List.setIfInBounds_toArray, List.set_cons_zero, List.set_cons_succ]))
    iterate 4 (first
      | (refine q_skip (by rfl) ?_; simp only [Act.put, List.setIfInBounds_toArray, List.set_cons_zero, List.set_cons_succ])
      | (refine q_load (by rfl) 61 _ rfl p2 0 rfl MA _ (fun W hC => (Blk.below F2 hC).range) Try.underlying61 rfl hia ?_; simp only [Act.put, List.setIfInBounds_toArray, List.set_cons_zero, List.set_cons_succ])
      | (refine q_load (by rfl) 61 _ rfl p3 0 rfl MB _ (fun W hC => (Blk.below F3 hC).range) Try.underlying61 rfl hib ?_; simp only [Act.put, List.setIfInBounds_toArray, List.set_cons_zero, List.set_cons_succ])
      | (refine q_load (by rfl) 61 _ rfl p1 0 rfl N1 _ (fun W hC => (Blk.below F1 hC).range) Try.underlying61 rfl hi1 ?_; simp only [Act.put, List.setIfInBounds_toArray, List.set_cons_zero, List.set_cons_succ])
      | (refine q_load (by rfl) 61 _ rfl w.heap.size 0 rfl N0 _ (fun W hC => (Blk.below F0 hC).range) Try.underlying61 rfl hiN ?_; simp only [Act.put, List.setIfInBounds_toArray, List.set_cons_zero, List.set_cons_succ])
      | (refine q_run_ex (by rfl) ?_
         apply Exists.intro
         refine ⟨fun w0 hC => ?_, ?_⟩
         · clear hC; go_simp; rfl
         simp only [Act.put, List.setIfInBounds_toArray, List.set_cons_zero, List.set_cons_succ])
      | (refine q_call_ex (by rfl) ?_
         apply Exists.intro
         apply Exists.intro
         apply Exists.intro
         refine ⟨fun w0 hC => ?_, fun w0 hC => ?_, ?_⟩
         · clear hC; go_simp; exact ⟨rfl, rfl⟩
         · exact hs2 w0 hC
         simp only [Act.put, List.setIfInBounds_toArray, List.set_cons_zero, List.set_cons_succ]))
    iterate 9 (first
      | (refine q_skip (by rfl) ?_; simp only [Act.put, List.setIfInBounds_toArray, List.set_cons_zero, List.set_cons_succ])
      | (refine q_load (by rfl) 61 _ rfl p2 0 rfl MA _ (fun W hC => (Blk.below F2 hC).range) Try.underlying61 rfl hia ?_; simp only [Act.put, List.setIfInBounds_toArray, List.set_cons_zero, List.set_cons_succ])
      | (refine q_load (by rfl) 61 _ rfl p3 0 rfl MB _ (fun W hC => (Blk.below F3 hC).range) Try.underlying61 rfl hib ?_; simp only [Act.put, List.setIfInBounds_toArray, List.set_cons_zero, List.set_cons_succ])
      | (refine q_load (by rfl) 61 _ rfl p1 0 rfl N1 _ (fun W hC => (Blk.below F1 hC).range) Try.underlying61 rfl hi1 ?_; simp only [Act.put, List.setIfInBounds_toArray, List.set_cons_zero, List.set_cons_succ])
      | (refine q_load (by rfl) 61 _ rfl w.heap.size 0 rfl N0 _ (fun W hC => (Blk.below F0 hC).range) Try.underlying61 rfl hiN ?_; simp only [Act.put, List.setIfInBounds_toArray, List.set_cons_zero, List.set_cons_succ])
      | (refine q_run_ex (by rfl) ?_
         apply Exists.intro
         refine ⟨fun w0 hC => ?_, ?_⟩
         · clear hC; go_simp; rfl
         simp only [Act.put, List.setIfInBounds_toArray, List.set_cons_zero, List.set_cons_succ])
      | (refine q_call_ex (by rfl) ?_
         apply Exists.intro
         apply Exists.intro
         apply Exists.intro
         refine ⟨fun w0 hC => ?_, fun w0 hC => ?_, ?_⟩
         · clear hC; go_simp; exact ⟨rfl, rfl⟩
         · exact hs3 w0 hC
         simp only [Act.put, List.setIfInBounds_toArray, List.set_cons_zero, List.set_cons_succ]))
    iterate 2 (first
      | (refine q_skip (by rfl) ?_; simp only [Act.put, List.setIfInBounds_toArray, List.set_cons_zero, List.set_cons_succ])
      | (refine q_load (by rfl) 61 _ rfl p2 0 rfl MA _ (fun W hC => (Blk.below F2 hC).range) Try.underlying61 rfl hia ?_; simp only [Act.put, List.setIfInBounds_toArray, List.set_cons_zero, List.set_cons_succ])
      | (refine q_load (by rfl) 61 _ rfl p3 0 rfl MB _ (fun W hC => (Blk.below F3 hC).range) Try.underlying61 rfl hib ?_; simp only [Act.put, List.setIfInBounds_toArray, List.set_cons_zero, List.set_cons_succ])
      | (refine q_load (by rfl) 61 _ rfl p1 0 rfl N1 _ (fun W hC => (Blk.below F1 hC).range) Try.underlying61 rfl hi1 ?_; simp only [Act.put, List.setIfInBounds_toArray, List.set_cons_zero, List.set_cons_succ])
      | (refine q_load (by rfl) 61 _ rfl w.heap.size 0 rfl N0 _ (fun W hC => (Blk.below F0 hC).range) Try.underlying61 rfl hiN ?_; simp only [Act.put, List.setIfInBounds_toArray, List.set_cons_zero, List.set_cons_succ])
      | (refine q_run_ex (by rfl) ?_
         apply Exists.intro
         refine ⟨fun w0 hC => ?_, ?_⟩
         · clear hC; go_simp; rfl
         simp only [Act.put, List.setIfInBounds_toArray, List.set_cons_zero, List.set_cons_succ])
      | (refine q_call_ex (by rfl) ?_
         apply Exists.intro
         apply Exists.intro
         apply Exists.intro
         refine ⟨fun w0 hC => ?_, fun w0 hC => ?_, ?_⟩
         · clear hC; go_simp; exact ⟨rfl, rfl⟩
         · exact hs4 w0 hC
         simp only [Act.put, List.setIfInBounds_toArray, List.set_cons_zero, List.set_cons_succ]))
    iterate 6 (first
      | (refine q_skip (by rfl) ?_; simp only [Act.put, List.setIfInBounds_toArray, List.set_cons_zero, List.set_cons_succ])
      | (refine q_load (by rfl) 61 _ rfl p2 0 rfl MA _ (fun W hC => (Blk.below F2 hC).range) Try.underlying61 rfl hia ?_; simp only [Act.put, List.setIfInBounds_toArray, List.set_cons_zero, List.set_cons_succ])
      | (refine q_load (by rfl) 61 _ rfl p3 0 rfl MB _ (fun W hC => (Blk.below F3 hC).range) Try.underlying61 rfl hib ?_; simp only [Act.put, List.setIfInBounds_toArray, List.set_cons_zero, List.set_cons_succ])
      | (refine q_load (by rfl) 61 _ rfl p1 0 rfl N1 _ (fun W hC => (Blk.below F1 hC).range) Try.underlying61 rfl hi1 ?_; simp only [Act.put, List.setIfInBounds_toArray, List.set_cons_zero, List.set_cons_succ])
      | (refine q_load (by rfl) 61 _ rfl w.heap.size 0 rfl N0 _ (fun W hC => (Blk.below F0 hC).range) Try.underlying61 rfl hiN ?_; simp only [Act.put, List.setIfInBounds_toArray, List.set_cons_zero, List.set_cons_succ])
      | (refine q_run_ex (by rfl) ?_
         apply Exists.intro
         refine ⟨fun w0 hC => ?_, ?_⟩
         · clear hC; go_simp; rfl
         simp only [Act.put, List.setIfInBounds_toArray, List.set_cons_zero, List.set_cons_succ])
      | (refine q_call_ex (by rfl) ?_
         apply Exists.intro
         apply Exists.intro
         apply Exists.intro
         refine ⟨fun w0 hC => ?_, fun w0 hC => ?_, ?_⟩
         · clear hC; go_simp; exact ⟨rfl, rfl⟩
         · exact hs5 w0 hC
         simp only [Act.put, List.setIfInBounds_toArray, List.set_cons_zero, List.set_cons_succ]))
    iterate 5 (first
      | (refine q_skip (by rfl) ?_; simp only [Act.put, List.setIfInBounds_toArray, List.set_cons_zero, List.set_cons_succ])
      | (refine q_load (by rfl) 61 _ rfl p2 0 rfl MA _ (fun W hC => (Blk.below F2 hC).range) Try.underlying61 rfl hia ?_; simp only [Act.put, List.setIfInBounds_toArray, List.set_cons_zero, List.set_cons_succ])
      | (refine q_load (by rfl) 61 _ rfl p3 0 rfl MB _ (fun W hC => (Blk.below F3 hC).range) Try.underlying61 rfl hib ?_; simp only [Act.put, List.setIfInBounds_toArray, List.set_cons_zero, List.set_cons_succ])
      | (refine q_load (by rfl) 61 _ rfl p1 0 rfl N1 _ (fun W hC => (Blk.below F1 hC).range) Try.underlying61 rfl hi1 ?_; simp only [Act.put, List.setIfInBounds_toArray, List.set_cons_zero, List.set_cons_succ])
      | (refine q_load (by rfl) 61 _ rfl w.heap.size 0 rfl N0 _ (fun W hC => (Blk.below F0 hC).range) Try.underlying61 rfl hiN ?_; simp only [Act.put, List.setIfInBounds_toArray, List.set_cons_zero, List.set_cons_succ])
      | (refine q_run_ex (by rfl) ?_
         apply Exists.intro
         refine ⟨fun w0 hC => ?_, ?_⟩
         · clear hC; go_simp; rfl
         simp only [Act.put, List.setIfInBounds_toArray, List.set_cons_zero, List.set_cons_succ])
      | (refine q_call_ex (by rfl) ?_
         apply Exists.intro
         apply Exists.intro
         apply Exists.intro
         refine ⟨fun w0 hC => ?_, fun w0 hC => ?_, ?_⟩
         · clear hC; go_simp; exact ⟨rfl, rfl⟩
         · exact hs6 w0 hC
         simp only [Act.put, List.setIfInBounds_toArray, List.set_cons_zero, List.set_cons_succ]))
    refine q_nil ?_
    intro w7 hC
    go_wp2
    go_ret
    exact ⟨rfl, bel_trans L06 hC⟩
  · refine q_region (C := fun W => Below w6.heap.size w6 W) (by kernel_rfl) (by kernel_rfl) (below_drew' (Below.refl _ _)) ?_
    iterate 3 (first
      | (refine q_skip (by rfl) ?_; simp only [Act.put, List.setIfInBounds_toArray, List.set_cons_zero, List.set_cons_succ])
      | (refine q_load (by rfl) 61 _ rfl p2 0 rfl MA _ (fun W hC => (Blk.below F2 hC).range) Try.underlying61 rfl hia ?_; simp only [Act.put, List.setIfInBounds_toArray, List.set_cons_zero, List.set_cons_succ])
      | (refine q_load (by rfl) 61 _ rfl p3 0 rfl MB _ (fun W hC => (Blk.below F3 hC).range) Try.underlying61 rfl hib ?_; simp only [Act.put, List.setIfInBounds_toArray, List.set_cons_zero, List.set_cons_succ])
      | (refine q_load (by rfl) 61 _ rfl p1 0 rfl N1 _ (fun W hC => (Blk.below F1 hC).range) Try.underlying61 rfl hi1 ?_; simp only [Act.put, List.setIfInBounds_toArray, List.set_cons_zero, List.set_cons_succ])
      | (refine q_load (by rfl) 61 _ rfl w.heap.size 0 rfl N0 _ (fun W hC => (Blk.below F0 hC).range) Try.underlying61 rfl hiN ?_; simp only [Act.put, List.setIfInBounds_toArray, List.set_cons_zero, List.set_cons_succ])
      | (refine q_run_ex (by rfl) ?_
         apply Exists.intro
         refine ⟨fun w0 hC => ?_, ?_⟩
         · clear hC; go_simp; rfl
         simp only [Act.put, List.setIfInBounds_toArray, List.set_cons_zero, List.set_cons_succ])
      | (refine q_call_ex (by rfl) ?_
         apply Exists.intro
         apply Exists.intro
         apply Exists.intro
         refine ⟨fun w0 hC => ?_, fun w0 hC => ?_, ?_⟩
         · clear hC; go_simp; exact ⟨rfl, rfl⟩
         · exact hs1 w0 hC
         simp only [Act.put, List.setIfInBounds_toArray, List.set_cons_zero, List.set_cons_succ]))
    iterate 4 (first
      | (refine q_skip (by rfl) ?_; simp only [Act.put, List.setIfInBounds_toArray, List.set_cons_zero, List.set_cons_succ])
      | (refine q_load (by rfl) 61 _ rfl p2 0 rfl MA _ (fun W hC => (Blk.below F2 hC).range) Try.underlying61 rfl hia ?_; simp only [Act.put, List.setIfInBounds_toArray, List.set_cons_zero, List.set_cons_succ])
      | (refine q_load (by rfl) 61 _ rfl p3 0 rfl MB _ (fun W hC => (Blk.below F3 hC).range) Try.underlying61 rfl hib ?_; simp only [Act.put, List.setIfInBounds_toArray, List.set_cons_zero, List.set_cons_succ])
      | (refine q_load (by rfl) 61 _ rfl p1 0 rfl N1 _ (fun W hC => (Blk.below F1 hC).range) Try.underlying61 rfl hi1 ?_; simp only [Act.put, List.setIfInBounds_toArray, List.set_cons_zero, List.set_cons_succ])
      | (refine q_load (by rfl) 61 _ rfl w.heap.size 0 rfl N0 _ (fun W hC => (Blk.below F0 hC).range) Try.underlying61 rfl hiN ?_; simp only [Act.put, List.setIfInBounds_toArray, List.set_cons_zero, List.set_cons_succ])
      | (refine q_run_ex (by rfl) ?_
         apply Exists.intro
         refine ⟨fun w0 hC => ?_, ?_⟩
         · clear hC; go_simp; rfl
         simp only [Act.put, List.setIfInBounds_toArray, List.set_cons_zero, List.set_cons_succ])
      | (refine q_call_ex (by rfl) ?_
         apply Exists.intro
         apply Exists.intro
         apply Exists.intro
         refine ⟨fun w0 hC => ?_, fun w0 hC => ?_, ?_⟩
         · clear hC; go_simp; exact ⟨rfl, rfl⟩
         · exact hs2 w0 hC
         simp only [Act.put, List.setIfInBounds_toArray, List.set_cons_zero, List.set_cons_succ]))
    iterate 9 (first
      | (refine q_skip (by rfl) ?_; simp only [Act.put, List.setIfInBounds_toArray, List.set_cons_zero, List.set_cons_succ])
      | (refine q_load (by rfl) 61 _ rfl p2 0 rfl MA _ (fun W hC => (Blk.below F2 hC).range) Try.underlying61 rfl hia ?_; simp only [Act.put, List.setIfInBounds_toArray, List.set_cons_zero, List.set_cons_succ])
      | (refine q_load (by rfl) 61 _ rfl p3 0 rfl MB _ (fun W hC => (Blk.below F3 hC).range) Try.underlying61 rfl hib ?_; simp only [Act.put, List.setIfInBounds_toArray, List.set_cons_zero, List.set_cons_succ])
      | (refine q_load (by rfl) 61 _ rfl p1 0 rfl N1 _ (fun W hC => (Blk.below F1 hC).range) Try.underlying61 rfl hi1 ?_; simp only [Act.put, List.setIfInBounds_toArray, List.set_cons_zero, List.set_cons_succ])
      | (refine q_load (by rfl) 61 _ rfl w.heap.size 0 rfl N0 _ (fun W hC => (Blk.below F0 hC).range) Try.underlying61 rfl hiN ?_; simp only [Act.put, List.setIfInBounds_toArray, List.set_cons_zero, List.set_cons_succ])
      | (refine q_run_ex (by rfl) ?_
         apply Exists.intro
         refine ⟨fun w0 hC => ?_, ?_⟩
         · clear hC; go_simp; rfl
         simp only [Act.put, List.setIfInBounds_toArray, List.set_cons_zero, List.set_cons_succ])
      | (refine q_call_ex (by rfl) ?_
         apply Exists.intro
         apply Exists.intro
         apply Exists.intro
         refine ⟨fun w0 hC => ?_, fun w0 hC => ?_, ?_⟩
         · clear hC; go_simp; exact ⟨rfl, rfl⟩
         · exact hs3 w0 hC
         simp only [Act.put, List.setIfInBounds_toArray, List.set_cons_zero, List.set_cons_succ]))
    iterate 2 (first
      | (refine q_skip (by rfl) ?_; simp only [Act.put, List.setIfInBounds_toArray, List.set_cons_zero, List.set_cons_succ])
      | (refine q_load (by rfl) 61 _ rfl p2 0 rfl MA _ (fun W hC => (Blk.below F2 hC).range) Try.underlying61 rfl hia ?_; simp only [Act.put, List.setIfInBounds_toArray, List.set_cons_zero, List.set_cons_succ])
      | (refine q_load (by rfl) 61 _ rfl p3 0 rfl MB _ (fun W hC => (Blk.below F3 hC).range) Try.underlying61 rfl hib ?_; simp only [Act.put, List.setIfInBounds_toArray, List.set_cons_zero, List.set_cons_succ])
      | (refine q_load (by rfl) 61 _ rfl p1 0 rfl N1 _ (fun W hC => (Blk.below F1 hC).range) Try.underlying61 rfl hi1 ?_; simp only [Act.put, List.setIfInBounds_toArray, List.set_cons_zero, List.set_cons_succ])
      | (refine q_load (by rfl) 61 _ rfl w.heap.size 0 rfl N0 _ (fun W hC => (Blk.below F0 hC).range) Try.underlying61 rfl hiN ?_; simp only [Act.put, List.setIfInBounds_toArray, List.set_cons_zero, List.set_cons_succ])
      | (refine q_run_ex (by rfl) ?_
         apply Exists.intro
         refine ⟨fun w0 hC => ?_, ?_⟩
         · clear hC; go_simp; rfl
         simp only [Act.put, List.setIfInBounds_toArray, List.set_cons_zero, List.set_cons_succ])
      | (refine q_call_ex (by rfl) ?_
         apply Exists.intro
         apply Exists.intro
         apply Exists.intro
         refine ⟨fun w0 hC => ?_, fun w0 hC => ?_, ?_⟩
         · clear hC; go_simp; exact ⟨rfl, rfl⟩
         · exact hs4 w0 hC
         simp only [Act.put, List.setIfInBounds_toArray, List.set_cons_zero, List.set_cons_succ]))
    iterate 6 (first
      | (refine q_skip (by rfl) ?_; simp only [Act.put, List.setIfInBounds_toArray, List.set_cons_zero, List.set_cons_succ])
      | (refine q_load (by rfl) 61 _ rfl p2 0 rfl MA _ (fun W hC => (Blk.below F2 hC).range) Try.underlying61 rfl hia ?_; simp only [Act.put, List.setIfInBounds_toArray, List.set_cons_zero, List.set_cons_succ])
      | (refine q_load (by rfl) 61 _ rfl p3 0 rfl MB _ (fun W hC => (Blk.below F3 hC).range) Try.underlying61 rfl hib ?_; simp only [Act.put, List.setIfInBounds_toArray, List.set_cons_zero, List.set_cons_succ])
      | (refine q_load (by rfl) 61 _ rfl p1 0 rfl N1 _ (fun W hC => (Blk.below F1 hC).range) Try.underlying61 rfl hi1 ?_; simp only [Act.put, List.setIfInBounds_toArray, List.set_cons_zero, List.set_cons_succ])
      | (refine q_load (by rfl) 61 _ rfl w.heap.size 0 rfl N0 _ (fun W hC => (Blk.below F0 hC).range) Try.underlying61 rfl hiN ?_; simp only [Act.put, List.setIfInBounds_toArray, List.set_cons_zero, List.set_cons_succ])
      | (refine q_run_ex (by rfl) ?_
         apply Exists.intro
         refine ⟨fun w0 hC => ?_, ?_⟩
         · clear hC; go_simp; rfl
         simp only [Act.put, List.setIfInBounds_toArray, List.set_cons_zero, List.set_cons_succ])
      | (refine q_call_ex (by rfl) ?_
         apply Exists.intro
         apply Exists.intro
         apply Exists.intro
         refine ⟨fun w0 hC => ?_, fun w0 hC => ?_, ?_⟩
         · clear hC; go_simp; exact ⟨rfl, rfl⟩
         · exact hs5 w0 hC
         simp only [Act.put, List.setIfInBounds_toArray, List.set_cons_zero, List.set_cons_succ]))
    iterate 5 (first
      | (refine q_skip (by rfl) ?_; simp only [Act.put, List.setIfInBounds_toArray, List.set_cons_zero, List.set_cons_succ])
      | (refine q_load (by rfl) 61 _ rfl p2 0 rfl MA _ (fun W hC => (Blk.below F2 hC).range) Try.underlying61 rfl hia ?_; simp only [Act.put, List.setIfInBounds_toArray, List.set_cons_zero, List.set_cons_succ])
      | (refine q_load (by rfl) 61 _ rfl p3 0 rfl MB _ (fun W hC => (Blk.below F3 hC).range) Try.underlying61 rfl hib ?_; simp only [Act.put, List.setIfInBounds_toArray, List.set_cons_zero, List.set_cons_succ])
      | (refine q_load (by rfl) 61 _ rfl p1 0 rfl N1 _ (fun W hC => (Blk.below F1 hC).range) Try.underlying61 rfl hi1 ?_; simp only [Act.put, List.setIfInBounds_toArray, List.set_cons_zero, List.set_cons_succ])
      | (refine q_load (by rfl) 61 _ rfl w.heap.size 0 rfl N0 _ (fun W hC => (Blk.below F0 hC).range) Try.underlying61 rfl hiN ?_; simp only [Act.put, List.setIfInBounds_toArray, List.set_cons_zero, List.set_cons_succ])
      | (refine q_run_ex (by rfl) ?_
         apply Exists.intro
         refine ⟨fun w0 hC => ?_, ?_⟩
         · clear hC; go_simp; rfl
         simp only [Act.put, List.setIfInBounds_toArray, List.set_cons_zero, List.set_cons_succ])
      | (refine q_call_ex (by rfl) ?_
         apply Exists.intro
         apply Exists.intro
         apply Exists.intro
         refine ⟨fun w0 hC => ?_, fun w0 hC => ?_, ?_⟩
         · clear hC; go_simp; exact ⟨rfl, rfl⟩
         · exact hs6 w0 hC
         simp only [Act.put, List.setIfInBounds_toArray, List.set_cons_zero, List.set_cons_succ]))
    refine q_nil ?_
    intro w7 hC
    go_wp2
    go_ret
    exact ⟨rfl, bel_trans L06 hC⟩
end Go.Proofs.Ytmmgaonlmpajbaa
