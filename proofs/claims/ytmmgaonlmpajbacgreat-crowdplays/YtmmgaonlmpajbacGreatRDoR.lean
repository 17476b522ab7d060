/-
  The document's crowd: Do, a client that reads.
-/
import Derived.Test.YtmmgaonlmpajbacGreatRCrowd
import Derived.Test.YtmmgaonlmpajbacGreatTakesLaw
namespace Go.Proofs.YtmmgaonlmpajbacGreat
open Go.RowKit

set_option maxRecDepth 100000 in
set_option maxHeartbeats 8000000 in
theorem rdo_read {w : World} {g : Nat} {c : Cw} {q : Nat → Value} {nt : Value} (H : CwAt w g 54 c q nt) (a : Ac) (h6 : c.acts < 600) {d : Cw} (hd : c.more = d) (hk : a.kind = 6) (hlr : -1 ≤ d.liar ∧ d.liar ≤ 3) :
    Calls Tryz.prog 8 #[.pointer (some ⟨g, 0, none⟩), .agg (acArr a)] w (DidR w g nt d (rcells 0 0 (takeV (toldC d (a.n != 0) a.tell)))) := by
  obtain ⟨TT, hTT⟩ : ∃ TT, toldC d (a.n != 0) a.tell = TT := ⟨_, rfl⟩
  rw [hTT]
  have HTT : Hid (toldC d (a.n != 0) a.tell = TT) := hTT
  clear hTT
  have hi := info_rep 0 0 (takeV (TT))
  have ho := one_rep 0 0 (takeV (TT))
  have hi4 : ∀ f : Nat → Int, (Tryz.prog.info? 31).map (·.size) = some (four f).size := fun f => by show _ = some 4; kernel_rfl
  have hl16 : ∀ l : Nat → Nat → Int, (Tryz.prog.info? 80).map (·.size) = some (lcells l).size := fun l => by rw [lcells_size]; kernel_rfl
  have hz16 : (lcells fun _ _ => 0) = #[.int .i64 0, .int .i64 0, .int .i64 0, .int .i64 0, .int .i64 0, .int .i64 0, .int .i64 0, .int .i64 0, .int .i64 0, .int .i64 0, .int .i64 0, .int .i64 0, .int .i64 0, .int .i64 0, .int .i64 0, .int .i64 0] := by kernel_rfl
  have hz := run_zeroN
  have A : Blk ((w.alloc (.cells (acArr a) 38)).alloc (.cells zR 33)) w.heap.size (acArr a) 38 := (Blk.new w _ _).alloc _
  have Z : Blk ((w.alloc (.cells (acArr a) 38)).alloc (.cells zR 33)) (w.heap.size + 1) zR 33 := Blk.new1 w _ _ _
  have L0 : Below w.heap.size w ((w.alloc (.cells (acArr a) 38)).alloc (.cells zR 33)) := by go_grown
  have H0 := H.keep L0
  have hgw := H.blk.lt
  have hacts : ((c.acts : Int) == 600) = false := beq_eq_false_iff_ne.2 (by omega)
  have hactI : (c.acts : Int) < 600 := by omega
  clear H
  go_enter Tryz.func8, Tryz.ntmps8
  go_upto_region 1 with fail
  generalize ((w.alloc (.cells (acArr a) 38)).alloc (.cells zR 33)) = w0 at A Z L0 H0 ⊢
  have c0 := H0.acts
  have f0 := H0.blk.free 1130
  go_upto_region 5 with fail
  obtain ⟨w1, hw1⟩ : ∃ w1, w1 = w0.setCell ⟨g, 1130, none⟩ (.int .i64 ((c.acts : Int) + 1)) := ⟨_, rfl⟩
  have H1 : CwAt w1 g 54 d q nt := by rw [hw1, ← hd]; exact H0.more (by decide) (by decide)
  have T1 : Touch g nt w w1 := by rw [hw1]; exact (Touch.below L0).trans (Touch.grownB (grown_setCell w0 g 1130 _)) (Next.refl _ _)
  have A1 : Blk w1 w.heap.size (acArr a) 38 := by rw [hw1]; exact A.setCell_other _ _ (by show w.heap.size ≠ g; omega)
  have Z1 : Blk w1 (w.heap.size + 1) zR 33 := by rw [hw1]; exact Z.setCell_other _ _ (by show w.heap.size + 1 ≠ g; omega)
  rw [← hw1]
  clear hw1 c0 f0 H0 A Z L0 hacts hactI h6 hd
  have a1 := A1.cell 1
  rw [show (acArr a)[1]? = some (.int .i64 a.node) from rfl] at a1
  have N2 : Blk (w1.alloc (.cells zN.cells 50)) w1.heap.size zN.cells 50 := Blk.new w1 _ _
  have L2 : Below w1.heap.size w1 (w1.alloc (.cells zN.cells 50)) := by go_grown
  have hp0 := Z1.lt
  go_upto_region 9 with fail
  generalize (w1.alloc (.cells zN.cells 50)) = w2 at N2 L2 ⊢
  have H2 := H1.keep L2
  have A2 := A1.below L2
  have Z2 := Z1.below L2
  have T2 : Touch g nt w w2 := T1.trans (Touch.below L2) (Next.refl _ _)
  have hp2 := N2.lt
  clear H1 A1 Z1 T1 L2 a1
  generalize w1.heap.size = ps at N2 hp0 hp2 ⊢
  have a0 := A2.cell 0
  rw [show (acArr a)[0]? = some (.int .i64 a.kind) from rfl] at a0
  have k1 : (a.kind == 1) = false := by rw [hk]; rfl
  have k2 : (a.kind == 2) = false := by rw [hk]; rfl
  have k3 : (a.kind == 3) = false := by rw [hk]; rfl
  have k4 : (a.kind == 4) = false := by rw [hk]; rfl
  have k5 : (a.kind == 5) = false := by rw [hk]; rfl
  have k6 : (a.kind == 6) = true := by rw [hk]; rfl
  clear hk
  have E0 : Blk (w2.alloc (.cells #[.int .i64 0, .int .i64 0, .int .i64 0, .int .i64 0, .int .i64 0, .int .i64 0, .int .i64 0, .int .i64 0, .int .i64 0, .int .i64 0, .int .i64 0, .int .i64 0, .int .i64 0, .int .i64 0, .int .i64 0, .int .i64 0] 80)) w2.heap.size (lcells fun _ _ => 0) 80 := by rw [hz16]; exact Blk.new w2 _ _
  have L3 : Below w2.heap.size w2 (w2.alloc (.cells #[.int .i64 0, .int .i64 0, .int .i64 0, .int .i64 0, .int .i64 0, .int .i64 0, .int .i64 0, .int .i64 0, .int .i64 0, .int .i64 0, .int .i64 0, .int .i64 0, .int .i64 0, .int .i64 0, .int .i64 0, .int .i64 0] 80)) := by go_grown
  clear hz16 N2
  go_upto_region 40 with fail
  generalize (w2.alloc (.cells #[.int .i64 0, .int .i64 0, .int .i64 0, .int .i64 0, .int .i64 0, .int .i64 0, .int .i64 0, .int .i64 0, .int .i64 0, .int .i64 0, .int .i64 0, .int .i64 0, .int .i64 0, .int .i64 0, .int .i64 0, .int .i64 0] 80)) = w3 at E0 L3 ⊢
  clear a0
  go_wp2
  go_loopw [180] (fun i W => ∃ k : Nat, k ≤ 4 ∧ i = .int .i64 (k : Int) ∧ Blk W w2.heap.size (lcells fun i h => if i < k then (d.nd i).settled h else 0) 80 ∧ Below w2.heap.size w2 W) (fun i _ => 4 - (intOf i).toNat)
  case atStart => exact ⟨0, by omega, rfl, E0, L3⟩
  case round =>
    clear E0 L3
    obtain ⟨k, hk, rfl, E1, hB⟩ := hrel
    have H3 := H2.keep hB
    by_cases hlt : k < 4
    · have hr := settled_range H3.blk k hlt
      have hkI : (k : Int) < 4 := by omega
      go_wp2_with (first
        | (refine wpList_load_part (by rfl) 31 _ rfl g (k * 282 + 277) (by first | rfl | simp) (four (d.nd k).settled) _ hr Tryz.underlying31 rfl (hi4 _) ?_)
        | (refine wpList_store_row rfl 31 _ _ rfl w2.heap.size k _ (d.nd k).settled 80 (by first | rfl | simp) rfl hlt E1 (hi4 _) ?_; rintro w4 E4 K4))
      go_roundw
      case measure => simp [intOf]; omega
      case rel =>
        have e : (lcells fun i h => if i = k then (d.nd k).settled h else if i < k then (d.nd i).settled h else 0) = lcells fun i h => if i < k + 1 then (d.nd i).settled h else 0 := lcells_congr (fun i h _ _ => by
          by_cases c1 : i = k
          · rw [if_pos c1, if_pos (by omega), c1]
          · rw [if_neg c1]
            by_cases c2 : i < k
            · rw [if_pos c2, if_pos (by omega)]
            · rw [if_neg c2, if_neg (by omega)])
        rw [e] at E4
        exact ⟨k + 1, by omega, by go_num, E4, K4.bel _ _ (Nat.le_refl _) hB⟩
    · have e : (lcells fun i h => if i < k then (d.nd i).settled h else 0) = lcells fun i h => (d.nd i).settled h := lcells_congr (fun i h _ _ => by rw [if_pos (by omega)])
      rw [e] at E1
      clear e
      have A3 := A2.below hB
      have e1 := A3.cell 2
      rw [show (acArr a)[2]? = some (.int .i64 a.n) from rfl] at e1
      have e2 := H3.liar
      have hB2 := hB.size
      by_cases hl : 0 ≤ d.liar ∧ a.n ≠ 0
      · obtain ⟨j, hj⟩ : ∃ j : Nat, d.liar = (j : Int) := ⟨d.liar.toNat, by omega⟩
        have hj4 : j < 4 := by omega
        have hjI : (j : Int) < 4 := by omega
        have hj0 : (j : Int) ≥ 0 := by omega
        have hne : (a.n != 0) = true := bne_iff_ne.2 hl.2
        have e3 : Hid ((lcells fun i h => if i = j then a.tell h else (d.nd i).settled h) = lcells (TT)) := show _ = _ from HTT.out ▸ lcells_congr (fun i h _ _ => by
          unfold toldC
          by_cases ci : i = j
          · rw [if_pos ci, if_pos ⟨hne, by omega⟩]
          · rw [if_neg ci, if_neg (fun hh => ci (by have := hh.2; omega))])
        have HJ : Hid (d.liar = (j : Int)) := hj
        rw [hj] at e2
        have hi4t := hi4 a.tell
        clear hl hj hlr
        go_upto_region 46 with fail
        rename World => w4
        refine held_region (fun W => W.cell? ⟨g, 1129, none⟩ = some (.int .i64 (j : Int)) ∧ Blk W w.heap.size (acArr a) 38) [] [(0, 0), (1, 0), (2, 0), (3, 1), (4, 0), (5, 1), (6, 0), (7, 2)] (by kernel_rfl) (by kernel_rfl) (by kernel_rfl) rfl (fun _ _ d _ _ h => by cases d <;> exact h) ⟨e2, A3.drew⟩ ?_
        repeat (first
          | (refine ord_run0_ex rfl (by rfl) ?_
             apply Exists.intro
             refine ⟨fun w0 => ?_, ?_⟩
             · go_simp; rfl
             simp only [Act.put, List.setIfInBounds_toArray, List.set_cons_zero, List.set_cons_succ])
          | (refine ord_load rfl (by rfl) 31 _ rfl w.heap.size 10 (by first | rfl | simp) (four a.tell) _ (fun W H => act_tell H.2) Tryz.underlying31 rfl hi4t ?_; simp only [Act.put, List.setIfInBounds_toArray, List.set_cons_zero, List.set_cons_succ])
          | (refine ord_run1_ex rfl (by rfl) ?_
             apply Exists.intro
             refine ⟨fun w0 hC => ?_, ?_⟩
             · have e0 := hC.1; clear hC; go_simp; rfl
             simp only [Act.put, List.setIfInBounds_toArray, List.set_cons_zero, List.set_cons_succ]))
        refine ord_do rfl ?_
        refine wpList_store_row rfl 31 _ _ rfl w2.heap.size j _ a.tell 80 (by first | rfl | simp) rfl hj4 E1.drew hi4t ?_
        rintro w6 E6 K6
        have hB6 : Below w2.heap.size w2 w6 := K6.bel _ _ (Nat.le_refl _) (below_drew' hB)
        have H7 := H2.keep hB6
        have A7 := A2.below hB6
        have Z7 := Z2.below hB6
        have T7 := T2.more hB6 (by omega)
        have hs7 := hB6.size
        refine ⟨fun _ => ⟨by rw [H7.liar, HJ.out], A7⟩, ?_⟩
        rw [e3.out] at E6
        show wpOrd _ _ _ _ _ [] _ _ _
        unfold wpOrd
        clear E1 K6 hB6 A7 A3 H3 e1 e2
        go_wp2_with (first
          | (refine wpList_load_part (by rfl) 80 _ rfl w2.heap.size 0 rfl (lcells (TT)) _ E6.range Tryz.underlying80 rfl (hl16 _) ?_)
          | (go_at_call 29; refine (takenOf_any (TT) _).mono ?_; rintro e w8 ⟨rfl, L8⟩; have Z8 := Z7.below L8)
          | (refine wpList_build_eq rfl 33 _ rfl (rcells 0 0 (takeV (TT))) (by simp only [List.map_toArray, List.map_cons, List.map_nil]; exact build_read _ _) ?_; simp only [Act.put, List.setIfInBounds_toArray, List.set_cons_zero, List.set_cons_succ])
          | (refine wpList_store_blk rfl 33 _ _ rfl (w.heap.size + 1) zR (rcells 0 0 (takeV (TT))) 33 rfl rfl Z8 rfl hi ho ?_; rintro w9 B9 K9))
        exact bodyPost_ret (result_rep rfl _ _ (w.heap.size + 1) _ _ _ rfl B9) rfl ⟨rfl, q, nt, (H7.keep L8).kept K9 Z8 (by decide) (by decide) (by decide), (T7.more L8 (by omega)).more (K9.bel _ _ (Nat.le_refl _) (Below.refl _ _)) (by omega), Next.refl _ _⟩
      · have e3 : Hid (lcells (fun i h => (d.nd i).settled h) = lcells (TT)) := show _ = _ from HTT.out ▸ lcells_congr (fun i h _ _ => by
          unfold toldC
          rw [if_neg (fun hh => hl ⟨by omega, bne_iff_ne.1 hh.1⟩)])
        rw [e3.out] at E1
        have H7 := H3
        have Z7 := Z2.below hB
        have T7 := T2.more hB (by omega)
        clear H3 A3
        by_cases h0 : 0 ≤ d.liar
        · have hge : d.liar ≥ 0 := h0
          have hn0 : (a.n != 0) = false := by
            cases h : a.n != 0
            · rfl
            · exact absurd ⟨h0, bne_iff_ne.1 h⟩ hl
          clear hl
          go_wp2_with (first
            | (refine wpList_load_part (by rfl) 80 _ rfl w2.heap.size 0 rfl (lcells (TT)) _ E1.range Tryz.underlying80 rfl (hl16 _) ?_)
            | (go_at_call 29; refine (takenOf_any (TT) _).mono ?_; rintro e w8 ⟨rfl, L8⟩; have Z8 := Z7.below L8)
            | (refine wpList_build_eq rfl 33 _ rfl (rcells 0 0 (takeV (TT))) (by simp only [List.map_toArray, List.map_cons, List.map_nil]; exact build_read _ _) ?_; simp only [Act.put, List.setIfInBounds_toArray, List.set_cons_zero, List.set_cons_succ])
            | (refine wpList_store_blk rfl 33 _ _ rfl (w.heap.size + 1) zR (rcells 0 0 (takeV (TT))) 33 rfl rfl Z8 rfl hi ho ?_; rintro w9 B9 K9))
          exact bodyPost_ret (result_rep rfl _ _ (w.heap.size + 1) _ _ _ rfl B9) rfl ⟨rfl, q, nt, (H7.keep L8).kept K9 Z8 (by decide) (by decide) (by decide), (T7.more L8 (by omega)).more (K9.bel _ _ (Nat.le_refl _) (Below.refl _ _)) (by omega), Next.refl _ _⟩
        · have hge : ¬ d.liar ≥ 0 := h0
          clear hl
          go_wp2_with (first
            | (refine wpList_load_part (by rfl) 80 _ rfl w2.heap.size 0 rfl (lcells (TT)) _ E1.range Tryz.underlying80 rfl (hl16 _) ?_)
            | (go_at_call 29; refine (takenOf_any (TT) _).mono ?_; rintro e w8 ⟨rfl, L8⟩; have Z8 := Z7.below L8)
            | (refine wpList_build_eq rfl 33 _ rfl (rcells 0 0 (takeV (TT))) (by simp only [List.map_toArray, List.map_cons, List.map_nil]; exact build_read _ _) ?_; simp only [Act.put, List.setIfInBounds_toArray, List.set_cons_zero, List.set_cons_succ])
            | (refine wpList_store_blk rfl 33 _ _ rfl (w.heap.size + 1) zR (rcells 0 0 (takeV (TT))) 33 rfl rfl Z8 rfl hi ho ?_; rintro w9 B9 K9))
          exact bodyPost_ret (result_rep rfl _ _ (w.heap.size + 1) _ _ _ rfl B9) rfl ⟨rfl, q, nt, (H7.keep L8).kept K9 Z8 (by decide) (by decide) (by decide), (T7.more L8 (by omega)).more (K9.bel _ _ (Nat.le_refl _) (Below.refl _ _)) (by omega), Next.refl _ _⟩
end Go.Proofs.YtmmgaonlmpajbacGreat
