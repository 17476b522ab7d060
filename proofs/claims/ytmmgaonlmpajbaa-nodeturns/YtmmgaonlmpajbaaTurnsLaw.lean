/-
  The statement NodeTurns.
-/
import Derived.Test.YtmmgaonlmpajbaaDoc9
namespace Go.Proofs.Ytmmgaonlmpajbaa
open Go.RowKit

set_option maxRecDepth 100000 in
set_option maxHeartbeats 8000000 in
theorem nodeTurns_any (n : NI) (l : List Int) (who y : Int) (w : World) (hq : Ints w n.q l) (hl : l.length * 8 ≤ 140737488355328) :
    Calls Try.prog 12 #[.agg n.cells, .int .i64 who, .int .i64 y] w fun e w' => e = .returned (.bool true) ∧ Below w.heap.size w w' := by
  obtain ⟨m, l', ws, code, hb, hA, hD⟩ := sub_both n l who y hl
  obtain ⟨k, l'', ws', code', hb2, hA2, hD2⟩ := time_both n l who hl
  have hz := run_zeroN
  have hiN := infoN n
  have B0 : Blk (w.alloc (.cells n.cells 61)) w.heap.size n.cells 61 := Blk.new w _ _
  have L0 : Below w.heap.size w (w.alloc (.cells n.cells 61)) := by go_grown
  go_enter Try.func12, Try.ntmps12
  go_upto_region 1 with fail
  generalize (w.alloc (.cells n.cells 61)) = w0 at B0 L0 ⊢
  have hcp := copyNode_any n l w0 (hq.keep L0) hl
  go_upto_region 2 with (first
    | (refine wpList_load_blk rfl 61 _ rfl w.heap.size rfl 61 n.cells _ B0 Try.underlying61 rfl hiN ?_)
    | (go_at_call 40; refine hcp.mono ?_; rintro e w1 ⟨q1, rfl, hown1, L1⟩; have hi1 := infoN (n.setQ q1); have Z1 : Blk (w1.alloc (.cells zN.cells 61)) w1.heap.size zN.cells 61 := Blk.new w1 _ _; have La1 : Below w1.heap.size w1 (w1.alloc (.cells zN.cells 61)) := (by go_grown); clear hcp)
    | (refine wpList_store_blk rfl 61 _ _ rfl w1.heap.size zN.cells (n.setQ q1).cells 61 rfl rfl Z1 (by rw [ncells_size, ncells_size]) hi1 (one_cellN _ (own_one hown1)) ?_; rintro w2 C1 K2; have L2 := K2.bel _ _ (Nat.le_refl _) La1; clear Z1 La1))
  have B2 := (B0.below L1).below L2
  have I2 := own_ints (own_below hown1 L2)
  have hc := hA q1 w2 I2
  clear B0 hA
  go_upto_region 3 with (first
    | (refine wpList_load_blk rfl 61 _ rfl w1.heap.size rfl 61 (n.setQ q1).cells _ C1 Try.underlying61 rfl hi1 ?_)
    | (go_at_call 48; refine hc.mono ?_; rintro e w3 ⟨qa, sa, sc, rfl, hown3, hsaid3, L3⟩; have hia := infoN (m.setQ qa); have Z3 : Blk (w3.alloc (.cells zN.cells 61)) w3.heap.size zN.cells 61 := Blk.new w3 _ _; have La3 : Below w3.heap.size w3 (w3.alloc (.cells zN.cells 61)) := (by go_grown); clear hc)
    | (refine wpList_store_blk rfl 61 _ _ rfl w3.heap.size zN.cells (m.setQ qa).cells 61 rfl rfl Z3 (by rw [ncells_size, ncells_size]) hia (one_cellN _ (own_one hown3)) ?_; rintro w4 C2 K4; have L4 := K4.bel _ _ (Nat.le_refl _) La3; clear Z3 La3))
  have L24 := bel_trans L3 L4
  have B4 := B2.below L24
  have C14 := C1.below L24
  have I4 := I2.keep L24
  have Iq4 := ((hq.keep L0).keep (bel_trans L1 L2)).keep L24
  have Ia4 := own_ints (own_below hown3 L4)
  have Wa4 := own_words (own_below hsaid3 L4)
  have L04 := bel_trans (bel_trans L0 (bel_trans L1 L2)) L24
  have hd := hD w4 Iq4
  clear B2 C1 I2 hD hown3 hsaid3 hown1 K2 K4 L0 L1 L2 L3 L4 L24 hq
  go_upto_region 4 with (first
    | (refine wpList_load_blk rfl 61 _ rfl w.heap.size rfl 61 n.cells _ B4 Try.underlying61 rfl hiN ?_)
    | (go_at_call 49; refine hd.mono ?_; rintro e w5 ⟨qb, sb, sd, rfl, Ib5, hsaid5, L5⟩; have hib := infoN (m.setQ qb); have Z5 : Blk (w5.alloc (.cells zN.cells 61)) w5.heap.size zN.cells 61 := Blk.new w5 _ _; have La5 : Below w5.heap.size w5 (w5.alloc (.cells zN.cells 61)) := (by go_grown); clear hd)
    | (refine wpList_store_blk rfl 61 _ _ rfl w5.heap.size zN.cells (m.setQ qb).cells 61 rfl rfl Z5 (by rw [ncells_size, ncells_size]) hib (one_cellN _ (ints_one Ib5)) ?_; rintro w6 C3 K6; have L6 := K6.bel _ _ (Nat.le_refl _) La5; clear Z5 La5))
  have L46 := bel_trans L5 L6
  have B6 := B4.below L46
  have C16 := C14.below L46
  have C26 := C2.below L46
  have I6 := I4.keep L46
  have Iq6 := Iq4.keep L46
  have Ia6 := Ia4.keep L46
  have Ib6 := Ib5.keep L6
  have Wa6 := Wa4.keep L46
  have Wb6 := own_words (own_below hsaid5 L6)
  have L06 := bel_trans L04 L46
  have hc := hA2 q1 w6 I6
  clear B4 C14 C2 I4 Iq4 Ia4 Ib5 Wa4 hsaid5 hA2 K6 L5 L6 L46 L04
  go_upto_region 5 with (first
    | (refine wpList_load_blk rfl 61 _ rfl w1.heap.size rfl 61 (n.setQ q1).cells _ C16 Try.underlying61 rfl hi1 ?_)
    | (go_at_call 50; refine hc.mono ?_; rintro e w7 ⟨qc, sa', sc', rfl, hown7, hsaid7, L7⟩; have hic := infoN (k.setQ qc); have Z7 : Blk (w7.alloc (.cells zN.cells 61)) w7.heap.size zN.cells 61 := Blk.new w7 _ _; have La7 : Below w7.heap.size w7 (w7.alloc (.cells zN.cells 61)) := (by go_grown); clear hc)
    | (refine wpList_store_blk rfl 61 _ _ rfl w7.heap.size zN.cells (k.setQ qc).cells 61 rfl rfl Z7 (by rw [ncells_size, ncells_size]) hic (one_cellN _ (own_one hown7)) ?_; rintro w8 C4 K8; have L8 := K8.bel _ _ (Nat.le_refl _) La7; clear Z7 La7))
  have L68 := bel_trans L7 L8
  have B8 := B6.below L68
  have C18 := C16.below L68
  have C28 := C26.below L68
  have C38 := C3.below L68
  have I8 := I6.keep L68
  have Iq8 := Iq6.keep L68
  have Ia8 := Ia6.keep L68
  have Ib8 := Ib6.keep L68
  have Ic8 := own_ints (own_below hown7 L8)
  have Wa8 := Wa6.keep L68
  have Wb8 := Wb6.keep L68
  have Wc8 := own_words (own_below hsaid7 L8)
  have L08 := bel_trans L06 L68
  have hd := hD2 w8 Iq8
  clear B6 C16 C26 C3 I6 Iq6 Ia6 Ib6 Wa6 Wb6 hown7 hsaid7 hD2 K8 L7 L8 L68 L06
  go_upto_region 6 with (first
    | (refine wpList_load_blk rfl 61 _ rfl w.heap.size rfl 61 n.cells _ B8 Try.underlying61 rfl hiN ?_)
    | (go_at_call 51; refine hd.mono ?_; rintro e w9 ⟨qd, sb', sd', rfl, Id9, hsaid9, L9⟩; have hid := infoN (k.setQ qd); have Z9 : Blk (w9.alloc (.cells zN.cells 61)) w9.heap.size zN.cells 61 := Blk.new w9 _ _; have La9 : Below w9.heap.size w9 (w9.alloc (.cells zN.cells 61)) := (by go_grown); clear hd)
    | (refine wpList_store_blk rfl 61 _ _ rfl w9.heap.size zN.cells (k.setQ qd).cells 61 rfl rfl Z9 (by rw [ncells_size, ncells_size]) hid (one_cellN _ (ints_one Id9)) ?_; rintro w10 C5 K10; have L10 := K10.bel _ _ (Nat.le_refl _) La9; clear Z9 La9))
  have Lx := bel_trans L9 L10
  have F0 := B8.below Lx
  have F1 := C18.below Lx
  have F2 := C28.below Lx
  have F3 := C38.below Lx
  have F4 := C4.below Lx
  have F5 := C5
  have I1 := I8.keep Lx
  have Iq := Iq8.keep Lx
  have Ia := Ia8.keep Lx
  have Ib := Ib8.keep Lx
  have Ic := Ic8.keep Lx
  have Id := Id9.keep L10
  have Wa := Wa8.keep Lx
  have Wb := Wb8.keep Lx
  have Wc := Wc8.keep Lx
  have Wd := own_words (own_below hsaid9 L10)
  have L0x := bel_trans L08 Lx
  have hl2 : l.length < 4611686018427387904 := by omega
  clear B8 C18 C28 C38 C4 C5 I8 Iq8 Ia8 Ib8 Ic8 Id9 Wa8 Wb8 Wc8 hsaid9 K10 L9 L10 Lx L08
  have hs1 : ∀ W, Below w10.heap.size w10 W → Calls Try.prog 43 #[.agg (m.setQ qa).cells, .agg (m.setQ qb).cells] W fun e w' => e = .returned (.bool true) ∧ Below w10.heap.size w10 w' := fun W hC => (sameNode_alike (m.setQ qa) qb l' W (Ia.keep hC) (Ib.keep hC) hb.queue).mono fun e w' ⟨he, hb⟩ => ⟨he, bel_trans hC hb⟩
  have hs2 : ∀ W, Below w10.heap.size w10 W → Calls Try.prog 44 #[.slice sa ws.length sc, .slice sb ws.length sd] W fun e w' => e = .returned (.bool true) ∧ Below w10.heap.size w10 w' := fun W hC => (sameWords_alike _ _ ws W (Wa.keep hC) (Wb.keep hC) hb.words).mono fun e w' ⟨he, hb⟩ => ⟨he, bel_trans hC hb⟩
  have hs3 : ∀ W, Below w10.heap.size w10 W → Calls Try.prog 43 #[.agg (k.setQ qc).cells, .agg (k.setQ qd).cells] W fun e w' => e = .returned (.bool true) ∧ Below w10.heap.size w10 w' := fun W hC => (sameNode_alike (k.setQ qc) qd l'' W (Ic.keep hC) (Id.keep hC) hb2.queue).mono fun e w' ⟨he, hb⟩ => ⟨he, bel_trans hC hb⟩
  have hs4 : ∀ W, Below w10.heap.size w10 W → Calls Try.prog 44 #[.slice sa' ws'.length sc', .slice sb' ws'.length sd'] W fun e w' => e = .returned (.bool true) ∧ Below w10.heap.size w10 w' := fun W hC => (sameWords_alike _ _ ws' W (Wc.keep hC) (Wd.keep hC) hb2.words).mono fun e w' ⟨he, hb⟩ => ⟨he, bel_trans hC hb⟩
  have hs5 : ∀ W, Below w10.heap.size w10 W → Calls Try.prog 43 #[.agg (n.setQ q1).cells, .agg n.cells] W fun e w' => e = .returned (.bool true) ∧ Below w10.heap.size w10 w' := fun W hC => (sameNode_alike (n.setQ q1) n.q l W (I1.keep hC) (Iq.keep hC) hl2).mono fun e w' ⟨he, hb⟩ => ⟨he, bel_trans hC hb⟩
  have hs6 : ∀ W, Below w10.heap.size w10 W → Calls Try.prog 47 #[] W fun e w' => e = .returned (.bool true) ∧ Below w10.heap.size w10 w' := fun W hC => (lnodes_any W).mono fun e w' ⟨he, hb⟩ => ⟨he, bel_trans hC hb⟩
  clear Ia Ib Ic Id Wa Wb Wc Wd I1 Iq hl2 hb hb2
  generalize (m.setQ qa).cells = MA at F2 hs1 hia ⊢
  generalize (m.setQ qb).cells = MB at F3 hs1 hib ⊢
  generalize (k.setQ qc).cells = KC at F4 hs3 hic ⊢
  generalize (k.setQ qd).cells = KD at F5 hs3 hid ⊢
  generalize (n.setQ q1).cells = N1 at F1 hs5 hi1 ⊢
  generalize n.cells = N0 at F0 hs5 hiN ⊢
  generalize w1.heap.size = p1 at F1 ⊢
  generalize w3.heap.size = p2 at F2 ⊢
  generalize w5.heap.size = p3 at F3 ⊢
  generalize w7.heap.size = p4 at F4 ⊢
  generalize w9.heap.size = p5 at F5 ⊢
  refine wp_region_lit (WL.out (WC.out (C := fun W => Below w10.heap.size w10 W) ?_ _ (Below.refl _ _)))
  iterate 3 (first
    | (refine c_skip (by rfl) ?_; simp only [Act.put, List.setIfInBounds_toArray, List.set_cons_zero, List.set_cons_succ])
    | (refine c_load (by rfl) 61 _ rfl p2 0 rfl MA _ (fun W hC => (Blk.below F2 hC).range) Try.underlying61 rfl hia ?_; simp only [Act.put, List.setIfInBounds_toArray, List.set_cons_zero, List.set_cons_succ])
    | (refine c_load (by rfl) 61 _ rfl p3 0 rfl MB _ (fun W hC => (Blk.below F3 hC).range) Try.underlying61 rfl hib ?_; simp only [Act.put, List.setIfInBounds_toArray, List.set_cons_zero, List.set_cons_succ])
    | (refine c_load (by rfl) 61 _ rfl p4 0 rfl KC _ (fun W hC => (Blk.below F4 hC).range) Try.underlying61 rfl hic ?_; simp only [Act.put, List.setIfInBounds_toArray, List.set_cons_zero, List.set_cons_succ])
    | (refine c_load (by rfl) 61 _ rfl p5 0 rfl KD _ (fun W hC => (Blk.below F5 hC).range) Try.underlying61 rfl hid ?_; simp only [Act.put, List.setIfInBounds_toArray, List.set_cons_zero, List.set_cons_succ])
    | (refine c_load (by rfl) 61 _ rfl p1 0 rfl N1 _ (fun W hC => (Blk.below F1 hC).range) Try.underlying61 rfl hi1 ?_; simp only [Act.put, List.setIfInBounds_toArray, List.set_cons_zero, List.set_cons_succ])
    | (refine c_load (by rfl) 61 _ rfl w.heap.size 0 rfl N0 _ (fun W hC => (Blk.below F0 hC).range) Try.underlying61 rfl hiN ?_; simp only [Act.put, List.setIfInBounds_toArray, List.set_cons_zero, List.set_cons_succ])
    | (refine c_run_ex (by rfl) ?_
       apply Exists.intro
       refine ⟨fun w0 hC => ?_, ?_⟩
       · clear hC; go_simp; rfl
       simp only [Act.put, List.setIfInBounds_toArray, List.set_cons_zero, List.set_cons_succ])
    | (refine c_call_ex (by rfl) ?_
       apply Exists.intro
       apply Exists.intro
       apply Exists.intro
       refine ⟨fun w0 hC => ?_, fun w0 hC => ?_, ?_⟩
       · clear hC; go_simp; exact ⟨rfl, rfl⟩
       · exact hs1 w0 hC
       simp only [Act.put, List.setIfInBounds_toArray, List.set_cons_zero, List.set_cons_succ]))
  iterate 4 (first
    | (refine c_skip (by rfl) ?_; simp only [Act.put, List.setIfInBounds_toArray, List.set_cons_zero, List.set_cons_succ])
    | (refine c_load (by rfl) 61 _ rfl p2 0 rfl MA _ (fun W hC => (Blk.below F2 hC).range) Try.underlying61 rfl hia ?_; simp only [Act.put, List.setIfInBounds_toArray, List.set_cons_zero, List.set_cons_succ])
    | (refine c_load (by rfl) 61 _ rfl p3 0 rfl MB _ (fun W hC => (Blk.below F3 hC).range) Try.underlying61 rfl hib ?_; simp only [Act.put, List.setIfInBounds_toArray, List.set_cons_zero, List.set_cons_succ])
    | (refine c_load (by rfl) 61 _ rfl p4 0 rfl KC _ (fun W hC => (Blk.below F4 hC).range) Try.underlying61 rfl hic ?_; simp only [Act.put, List.setIfInBounds_toArray, List.set_cons_zero, List.set_cons_succ])
    | (refine c_load (by rfl) 61 _ rfl p5 0 rfl KD _ (fun W hC => (Blk.below F5 hC).range) Try.underlying61 rfl hid ?_; simp only [Act.put, List.setIfInBounds_toArray, List.set_cons_zero, List.set_cons_succ])
    | (refine c_load (by rfl) 61 _ rfl p1 0 rfl N1 _ (fun W hC => (Blk.below F1 hC).range) Try.underlying61 rfl hi1 ?_; simp only [Act.put, List.setIfInBounds_toArray, List.set_cons_zero, List.set_cons_succ])
    | (refine c_load (by rfl) 61 _ rfl w.heap.size 0 rfl N0 _ (fun W hC => (Blk.below F0 hC).range) Try.underlying61 rfl hiN ?_; simp only [Act.put, List.setIfInBounds_toArray, List.set_cons_zero, List.set_cons_succ])
    | (refine c_run_ex (by rfl) ?_
       apply Exists.intro
       refine ⟨fun w0 hC => ?_, ?_⟩
       · clear hC; go_simp; rfl
       simp only [Act.put, List.setIfInBounds_toArray, List.set_cons_zero, List.set_cons_succ])
    | (refine c_call_ex (by rfl) ?_
       apply Exists.intro
       apply Exists.intro
       apply Exists.intro
       refine ⟨fun w0 hC => ?_, fun w0 hC => ?_, ?_⟩
       · clear hC; go_simp; exact ⟨rfl, rfl⟩
       · exact hs2 w0 hC
       simp only [Act.put, List.setIfInBounds_toArray, List.set_cons_zero, List.set_cons_succ]))
  iterate 10 (first
    | (refine c_skip (by rfl) ?_; simp only [Act.put, List.setIfInBounds_toArray, List.set_cons_zero, List.set_cons_succ])
    | (refine c_load (by rfl) 61 _ rfl p2 0 rfl MA _ (fun W hC => (Blk.below F2 hC).range) Try.underlying61 rfl hia ?_; simp only [Act.put, List.setIfInBounds_toArray, List.set_cons_zero, List.set_cons_succ])
    | (refine c_load (by rfl) 61 _ rfl p3 0 rfl MB _ (fun W hC => (Blk.below F3 hC).range) Try.underlying61 rfl hib ?_; simp only [Act.put, List.setIfInBounds_toArray, List.set_cons_zero, List.set_cons_succ])
    | (refine c_load (by rfl) 61 _ rfl p4 0 rfl KC _ (fun W hC => (Blk.below F4 hC).range) Try.underlying61 rfl hic ?_; simp only [Act.put, List.setIfInBounds_toArray, List.set_cons_zero, List.set_cons_succ])
    | (refine c_load (by rfl) 61 _ rfl p5 0 rfl KD _ (fun W hC => (Blk.below F5 hC).range) Try.underlying61 rfl hid ?_; simp only [Act.put, List.setIfInBounds_toArray, List.set_cons_zero, List.set_cons_succ])
    | (refine c_load (by rfl) 61 _ rfl p1 0 rfl N1 _ (fun W hC => (Blk.below F1 hC).range) Try.underlying61 rfl hi1 ?_; simp only [Act.put, List.setIfInBounds_toArray, List.set_cons_zero, List.set_cons_succ])
    | (refine c_load (by rfl) 61 _ rfl w.heap.size 0 rfl N0 _ (fun W hC => (Blk.below F0 hC).range) Try.underlying61 rfl hiN ?_; simp only [Act.put, List.setIfInBounds_toArray, List.set_cons_zero, List.set_cons_succ])
    | (refine c_run_ex (by rfl) ?_
       apply Exists.intro
       refine ⟨fun w0 hC => ?_, ?_⟩
       · clear hC; go_simp; rfl
       simp only [Act.put, List.setIfInBounds_toArray, List.set_cons_zero, List.set_cons_succ])
    | (refine c_call_ex (by rfl) ?_
       apply Exists.intro
       apply Exists.intro
       apply Exists.intro
       refine ⟨fun w0 hC => ?_, fun w0 hC => ?_, ?_⟩
       · clear hC; go_simp; exact ⟨rfl, rfl⟩
       · exact hs3 w0 hC
       simp only [Act.put, List.setIfInBounds_toArray, List.set_cons_zero, List.set_cons_succ]))
  iterate 5 (first
    | (refine c_skip (by rfl) ?_; simp only [Act.put, List.setIfInBounds_toArray, List.set_cons_zero, List.set_cons_succ])
    | (refine c_load (by rfl) 61 _ rfl p2 0 rfl MA _ (fun W hC => (Blk.below F2 hC).range) Try.underlying61 rfl hia ?_; simp only [Act.put, List.setIfInBounds_toArray, List.set_cons_zero, List.set_cons_succ])
    | (refine c_load (by rfl) 61 _ rfl p3 0 rfl MB _ (fun W hC => (Blk.below F3 hC).range) Try.underlying61 rfl hib ?_; simp only [Act.put, List.setIfInBounds_toArray, List.set_cons_zero, List.set_cons_succ])
    | (refine c_load (by rfl) 61 _ rfl p4 0 rfl KC _ (fun W hC => (Blk.below F4 hC).range) Try.underlying61 rfl hic ?_; simp only [Act.put, List.setIfInBounds_toArray, List.set_cons_zero, List.set_cons_succ])
    | (refine c_load (by rfl) 61 _ rfl p5 0 rfl KD _ (fun W hC => (Blk.below F5 hC).range) Try.underlying61 rfl hid ?_; simp only [Act.put, List.setIfInBounds_toArray, List.set_cons_zero, List.set_cons_succ])
    | (refine c_load (by rfl) 61 _ rfl p1 0 rfl N1 _ (fun W hC => (Blk.below F1 hC).range) Try.underlying61 rfl hi1 ?_; simp only [Act.put, List.setIfInBounds_toArray, List.set_cons_zero, List.set_cons_succ])
    | (refine c_load (by rfl) 61 _ rfl w.heap.size 0 rfl N0 _ (fun W hC => (Blk.below F0 hC).range) Try.underlying61 rfl hiN ?_; simp only [Act.put, List.setIfInBounds_toArray, List.set_cons_zero, List.set_cons_succ])
    | (refine c_run_ex (by rfl) ?_
       apply Exists.intro
       refine ⟨fun w0 hC => ?_, ?_⟩
       · clear hC; go_simp; rfl
       simp only [Act.put, List.setIfInBounds_toArray, List.set_cons_zero, List.set_cons_succ])
    | (refine c_call_ex (by rfl) ?_
       apply Exists.intro
       apply Exists.intro
       apply Exists.intro
       refine ⟨fun w0 hC => ?_, fun w0 hC => ?_, ?_⟩
       · clear hC; go_simp; exact ⟨rfl, rfl⟩
       · exact hs4 w0 hC
       simp only [Act.put, List.setIfInBounds_toArray, List.set_cons_zero, List.set_cons_succ]))
  iterate 10 (first
    | (refine c_skip (by rfl) ?_; simp only [Act.put, List.setIfInBounds_toArray, List.set_cons_zero, List.set_cons_succ])
    | (refine c_load (by rfl) 61 _ rfl p2 0 rfl MA _ (fun W hC => (Blk.below F2 hC).range) Try.underlying61 rfl hia ?_; simp only [Act.put, List.setIfInBounds_toArray, List.set_cons_zero, List.set_cons_succ])
    | (refine c_load (by rfl) 61 _ rfl p3 0 rfl MB _ (fun W hC => (Blk.below F3 hC).range) Try.underlying61 rfl hib ?_; simp only [Act.put, List.setIfInBounds_toArray, List.set_cons_zero, List.set_cons_succ])
    | (refine c_load (by rfl) 61 _ rfl p4 0 rfl KC _ (fun W hC => (Blk.below F4 hC).range) Try.underlying61 rfl hic ?_; simp only [Act.put, List.setIfInBounds_toArray, List.set_cons_zero, List.set_cons_succ])
    | (refine c_load (by rfl) 61 _ rfl p5 0 rfl KD _ (fun W hC => (Blk.below F5 hC).range) Try.underlying61 rfl hid ?_; simp only [Act.put, List.setIfInBounds_toArray, List.set_cons_zero, List.set_cons_succ])
    | (refine c_load (by rfl) 61 _ rfl p1 0 rfl N1 _ (fun W hC => (Blk.below F1 hC).range) Try.underlying61 rfl hi1 ?_; simp only [Act.put, List.setIfInBounds_toArray, List.set_cons_zero, List.set_cons_succ])
    | (refine c_load (by rfl) 61 _ rfl w.heap.size 0 rfl N0 _ (fun W hC => (Blk.below F0 hC).range) Try.underlying61 rfl hiN ?_; simp only [Act.put, List.setIfInBounds_toArray, List.set_cons_zero, List.set_cons_succ])
    | (refine c_run_ex (by rfl) ?_
       apply Exists.intro
       refine ⟨fun w0 hC => ?_, ?_⟩
       · clear hC; go_simp; rfl
       simp only [Act.put, List.setIfInBounds_toArray, List.set_cons_zero, List.set_cons_succ])
    | (refine c_call_ex (by rfl) ?_
       apply Exists.intro
       apply Exists.intro
       apply Exists.intro
       refine ⟨fun w0 hC => ?_, fun w0 hC => ?_, ?_⟩
       · clear hC; go_simp; exact ⟨rfl, rfl⟩
       · exact hs5 w0 hC
       simp only [Act.put, List.setIfInBounds_toArray, List.set_cons_zero, List.set_cons_succ]))
  iterate 5 (first
    | (refine c_skip (by rfl) ?_; simp only [Act.put, List.setIfInBounds_toArray, List.set_cons_zero, List.set_cons_succ])
    | (refine c_load (by rfl) 61 _ rfl p2 0 rfl MA _ (fun W hC => (Blk.below F2 hC).range) Try.underlying61 rfl hia ?_; simp only [Act.put, List.setIfInBounds_toArray, List.set_cons_zero, List.set_cons_succ])
    | (refine c_load (by rfl) 61 _ rfl p3 0 rfl MB _ (fun W hC => (Blk.below F3 hC).range) Try.underlying61 rfl hib ?_; simp only [Act.put, List.setIfInBounds_toArray, List.set_cons_zero, List.set_cons_succ])
    | (refine c_load (by rfl) 61 _ rfl p4 0 rfl KC _ (fun W hC => (Blk.below F4 hC).range) Try.underlying61 rfl hic ?_; simp only [Act.put, List.setIfInBounds_toArray, List.set_cons_zero, List.set_cons_succ])
    | (refine c_load (by rfl) 61 _ rfl p5 0 rfl KD _ (fun W hC => (Blk.below F5 hC).range) Try.underlying61 rfl hid ?_; simp only [Act.put, List.setIfInBounds_toArray, List.set_cons_zero, List.set_cons_succ])
    | (refine c_load (by rfl) 61 _ rfl p1 0 rfl N1 _ (fun W hC => (Blk.below F1 hC).range) Try.underlying61 rfl hi1 ?_; simp only [Act.put, List.setIfInBounds_toArray, List.set_cons_zero, List.set_cons_succ])
    | (refine c_load (by rfl) 61 _ rfl w.heap.size 0 rfl N0 _ (fun W hC => (Blk.below F0 hC).range) Try.underlying61 rfl hiN ?_; simp only [Act.put, List.setIfInBounds_toArray, List.set_cons_zero, List.set_cons_succ])
    | (refine c_run_ex (by rfl) ?_
       apply Exists.intro
       refine ⟨fun w0 hC => ?_, ?_⟩
       · clear hC; go_simp; rfl
       simp only [Act.put, List.setIfInBounds_toArray, List.set_cons_zero, List.set_cons_succ])
    | (refine c_call_ex (by rfl) ?_
       apply Exists.intro
       apply Exists.intro
       apply Exists.intro
       refine ⟨fun w0 hC => ?_, fun w0 hC => ?_, ?_⟩
       · clear hC; go_simp; exact ⟨rfl, rfl⟩
       · exact hs6 w0 hC
       simp only [Act.put, List.setIfInBounds_toArray, List.set_cons_zero, List.set_cons_succ]))
  refine c_nil ?_
  intro w11 hC
  go_wp2
  go_ret
  exact ⟨rfl, bel_trans L0x hC⟩
end Go.Proofs.Ytmmgaonlmpajbaa
