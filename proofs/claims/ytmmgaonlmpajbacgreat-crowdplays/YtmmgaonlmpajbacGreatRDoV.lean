/-
  The document's crowd: Do, a letter that comes.
-/
import Derived.Test.YtmmgaonlmpajbacGreatRDoT
namespace Go.Proofs.YtmmgaonlmpajbacGreat
open Go.RowKit

set_option maxRecDepth 100000 in
set_option maxHeartbeats 8000000 in
theorem rdo_deliver_yes {w : World} {g : Nat} {c : Cw} {q : Nat → Value} {nt : Value} (H : CwAt w g 54 c q nt) (a : Ac) (h6 : c.acts < 600) {d : Cw} (hd : c.more = d) (hk : a.kind = 2) (who : Nat) (hw : who < 4) (b : At) (hlen : b.words.length ≤ 1000) (hnet : d.net.length ≤ 2000) (x : Nat) (lv : Wd) (hx : d.net[x]? = some (who, lv)) (hax : (x : Int) = a.n)
    (hcon : ∀ W q, g ≤ W.heap.size → W.ownsRow g 3 1 q (d.nd who).queue.length ((d.nd who).queue.map (Value.int .i64)) → Calls Tryz.prog 28 #[.agg ((d.nd who).ni q).cells, .int .i64 (who : Int), .agg (wdArr lv)] W (ResG g W b)) :
    Calls Tryz.prog 8 #[.pointer (some ⟨g, 0, none⟩), .agg (acArr a)] w (DidR w g nt (d.did who b) (rcells 0 (((sendAll who b.words d.net).length : Int) - (d.net.length : Int)) fun _ => 0)) := by
  have hi6 : (Tryz.prog.info? 36).map (·.size) = some (wdArr lv).size := by show _ = some 6; kernel_rfl
  have hwin : win (who : Int) 0 3 = true := win_iff.2 ⟨by omega, by omega⟩
  have hwI : (who : Int) < 4 := by omega
  have HC : Hid _ := hcon
  clear hcon
  have hxl : x < d.net.length := by
    by_cases hlt : x < d.net.length
    · exact hlt
    · rw [List.getElem?_eq_none (by omega)] at hx; cases hx
  have hwx : win (x : Int) 0 ((d.net.length : Int) - 1) = true := win_iff.2 ⟨by omega, by omega⟩
  have hxI : (x : Int) < (d.net.length : Int) := by omega
  have hx2 : (acArr a)[2]? = some (.int .i64 (x : Int)) := by rw [hax]; rfl
  clear hax
  have hz := run_zeroN
  have A : Blk ((w.alloc (.cells (acArr a) 38)).alloc (.cells zR 33)) w.heap.size (acArr a) 38 := (Blk.new w _ _).alloc _
  have Z : Blk ((w.alloc (.cells (acArr a) 38)).alloc (.cells zR 33)) (w.heap.size + 1) zR 33 := Blk.new1 w _ _ _
  have L0 : Below w.heap.size w ((w.alloc (.cells (acArr a) 38)).alloc (.cells zR 33)) := by go_grown
  have H0 := H.keep L0
  have hgw := H.blk.lt
  have hacts : ((c.acts : Int) == 600) = false := beq_eq_false_iff_ne.2 (by omega)
  have hactI : (c.acts : Int) < 600 := by omega
  clear H
  go_enter Tryz.func8, Tryz.ntmps8
  go_upto_region 1 with fail
  generalize ((w.alloc (.cells (acArr a) 38)).alloc (.cells zR 33)) = w0 at A Z L0 H0 ⊢
  have c0 := H0.acts
  have f0 := H0.blk.free 1130
  go_upto_region 5 with fail
  obtain ⟨w1, hw1⟩ : ∃ w1, w1 = w0.setCell ⟨g, 1130, none⟩ (.int .i64 ((c.acts : Int) + 1)) := ⟨_, rfl⟩
  have H1 : CwAt w1 g 54 d q nt := by rw [hw1, ← hd]; exact H0.more (by decide) (by decide)
  have T1 : Touch g nt w w1 := by rw [hw1]; exact (Touch.below L0).trans (Touch.grownB (grown_setCell w0 g 1130 _)) (Next.refl _ _)
  have A1 : Blk w1 w.heap.size (acArr a) 38 := by rw [hw1]; exact A.setCell_other _ _ (by show w.heap.size ≠ g; omega)
  have Z1 : Blk w1 (w.heap.size + 1) zR 33 := by rw [hw1]; exact Z.setCell_other _ _ (by show w.heap.size + 1 ≠ g; omega)
  rw [← hw1]
  clear hw1 c0 f0 H0 A Z L0 hacts hactI h6 hd
  have a1 := A1.cell 1
  rw [show (acArr a)[1]? = some (.int .i64 a.node) from rfl] at a1
  have N2 : Blk (w1.alloc (.cells zN.cells 50)) w1.heap.size zN.cells 50 := Blk.new w1 _ _
  have L2 : Below w1.heap.size w1 (w1.alloc (.cells zN.cells 50)) := by go_grown
  have hp0 := Z1.lt
  go_upto_region 9 with fail
  generalize (w1.alloc (.cells zN.cells 50)) = w2 at N2 L2 ⊢
  have H2 := H1.keep L2
  have A2 := A1.below L2
  have Z2 := Z1.below L2
  have T2 : Touch g nt w w2 := T1.trans (Touch.below L2) (Next.refl _ _)
  have hp2 := N2.lt
  clear H1 A1 Z1 T1 L2 a1
  generalize w1.heap.size = ps at N2 hp0 hp2 ⊢
  have a0 := A2.cell 0
  rw [show (acArr a)[0]? = some (.int .i64 a.kind) from rfl] at a0
  have k1 : (a.kind == 1) = false := by rw [hk]; rfl
  have k2 : (a.kind == 2) = true := by rw [hk]; rfl
  have k3 : (a.kind == 3) = false := by rw [hk]; rfl
  have k4 : (a.kind == 4) = false := by rw [hk]; rfl
  have k5 : (a.kind == 5) = false := by rw [hk]; rfl
  clear hk
  obtain ⟨na, nc, hnv⟩ := own_shape H2.net
  have e1 := A2.cell 2
  rw [show (acArr a)[2]? = some (.int .i64 (x : Int)) from hx2] at e1
  have e2 := H2.slice
  rw [hnv] at e2
  have HV : Hid (nt = .slice na d.net.length nc) := hnv
  clear hnv
  have hwr : IntKind.i64.wrap ((d.net.length : Int) - 1) = (d.net.length : Int) - 1 := IntWalk.i64_in _ (by omega)
  go_upto_region 30 with fail
  refine q_region (C := fun W => W.cell? ⟨w.heap.size, 2, none⟩ = some (.int .i64 (x : Int)) ∧ W.cell? ⟨g, 1128, none⟩ = some (.slice na d.net.length nc) ∧ Below w2.heap.size w2 W) (by kernel_rfl) (by kernel_rfl) ⟨e1, e2, below_drew' (Below.refl _ _)⟩ ?_
  repeat (first
    | (refine q_run_ex (by rfl) ?_
       apply Exists.intro
       refine ⟨fun w0 hC => ?_, ?_⟩
       · have z1 := hC.1; have z2 := hC.2.1; clear hC; go_simp; rfl
       simp only [Act.put, List.setIfInBounds_toArray, List.set_cons_zero, List.set_cons_succ])
    | (refine q_call_ex (by rfl) ?_
       apply Exists.intro
       apply Exists.intro
       apply Exists.intro
       refine ⟨fun w0 hC => ?_, fun w0 hC => ?_, ?_⟩
       · clear hC; go_simp; exact ⟨rfl, rfl⟩
       · refine (rwithin_any _ _ _ _).mono ?_
         rintro e w' ⟨rfl, hw'⟩
         rw [hwx, hw']
         exact ⟨rfl, hC⟩
       simp only [Act.put, List.setIfInBounds_toArray, List.set_cons_zero, List.set_cons_succ]))
  refine q_nil ?_
  intro w3 hC3
  have L3 := hC3.2.2
  have hs23 := L3.size
  clear e1 e2 hC3
  have Z3 := Z2.below L3
  have H3 := H2.keep L3
  have A3 := A2.below L3
  have N3 := N2.below L3
  have T3 := T2.more L3 (by omega)
  obtain ⟨nb, nc', hnv', hnb⟩ := own_at H3.net (by omega)
  have hv : (.slice na d.net.length nc : Value) = .slice (some ⟨nb, 0, none⟩) d.net.length nc' := HV.out.symm.trans hnv'
  injection hv with hv1 hv2 hv3
  subst hv1 hv3
  clear hnv'
  have HK : Hid (∀ W, CwAt W g 54 d q nt → W.cell? ⟨g, 1128, none⟩ = some (.slice (some ⟨nb, 0, none⟩) d.net.length nc) ∧ W.rangeAt nb (x * 7) (leArr (who, lv)).toList) := fun W hW => ⟨by rw [hW.slice, HV.out], le_range (by have h := hW.net; rw [HV.out] at h; exact h) hx⟩
  obtain ⟨s3, hr3⟩ := HK.out w3 H3
  have hi7 := info_leArr (who, lv)
  have ho7 := one_leArr (who, lv)
  have hp3 := L3.size
  clear A2 H2 Z2 T2 N2 L3
  go_upto_region 32 with fail
  refine held_region (fun W => Blk W w.heap.size (acArr a) 38 ∧ W.cell? ⟨g, 1128, none⟩ = some (.slice (some ⟨nb, 0, none⟩) d.net.length nc) ∧ W.rangeAt nb (x * 7) (leArr (who, lv)).toList) [] [(0, 0), (1, 0), (2, 0), (3, 1), (4, 0), (5, 1), (6, 0), (7, 1), (8, 2), (9, 2)] (by kernel_rfl) (by kernel_rfl) (by kernel_rfl) rfl (fun _ _ d _ _ h => by cases d <;> exact h) ⟨A3.drew, s3, hr3⟩ ?_
  repeat (first
    | (refine ord_run0_ex rfl (by rfl) ?_
       apply Exists.intro
       refine ⟨fun w0 => ?_, ?_⟩
       · go_simp; rfl
       simp only [Act.put, List.setIfInBounds_toArray, List.set_cons_zero, List.set_cons_succ])
    | (refine ord_load rfl (by rfl) 79 _ rfl nb (x * 7) (by first | rfl | simp) (leArr (who, lv)) _ (fun W H => H.2.2) Tryz.underlying79 rfl hi7 ?_; simp only [Act.put, List.setIfInBounds_toArray, List.set_cons_zero, List.set_cons_succ])
    | (refine ord_run1_ex rfl (by rfl) ?_
       apply Exists.intro
       refine ⟨fun w0 hC => ?_, ?_⟩
       · have z1 := hC.1.cell 2; rw [hx2] at z1; have z2 := hC.2.1; clear hC; go_simp; rfl
       simp only [Act.put, List.setIfInBounds_toArray, List.set_cons_zero, List.set_cons_succ]))
  refine ord_do rfl ?_
  go_wp2_with fail
  obtain ⟨w4, hw4⟩ : ∃ w4, w4 = (w3.alloc (.cells #[.int .i64 0, .int .i64 0, .int .i64 0, .int .i64 0, .int .i64 0, .int .i64 0, .int .i64 0] 79)).drew := ⟨_, rfl⟩
  have L4 : Below w3.heap.size w3 w4 := by rw [hw4]; exact below_drew' (by go_grown)
  have Y4 : Blk w4 w3.heap.size #[.int .i64 0, .int .i64 0, .int .i64 0, .int .i64 0, .int .i64 0, .int .i64 0, .int .i64 0] 79 := by rw [hw4]; exact (Blk.new w3 _ _).drew
  have A4 := A3.below L4
  have H4 := H3.keep L4
  have Z4 := Z3.below L4
  have N4 := N3.below L4
  have T4 := T3.more L4 (by omega)
  have hp4 := N3.lt
  rw [← hw4]
  have L30 : Hid (∀ W, Below w3.heap.size w3 W → CwAt W g 54 d q nt ∧ Blk W w.heap.size (acArr a) 38 ∧ Blk W (w.heap.size + 1) zR 33 ∧ Blk W ps zN.cells 50 ∧ Touch g nt w W) := fun W hW => ⟨H3.keep hW, A3.below hW, Z3.below hW, N3.below hW, T3.more hW (by omega)⟩
  clear hw4 A3 H3 Z3 N3 T3 hr3 s3
  refine ⟨fun _ => ⟨A4, HK.out _ H4⟩, ?_⟩
  try simp only [Act.put, List.setIfInBounds_toArray, List.set_cons_zero, List.set_cons_succ]
  refine ord_do rfl ?_
  refine wpList_store_blk rfl 79 _ _ rfl w3.heap.size #[.int .i64 0, .int .i64 0, .int .i64 0, .int .i64 0, .int .i64 0, .int .i64 0, .int .i64 0] (leArr (who, lv)) 79 rfl rfl Y4 rfl hi7 ho7 ?_
  rintro w6 X6 K6
  have L6 : Below w3.heap.size w4 w6 := K6.bel _ _ (Nat.le_refl _) (Below.refl _ _)
  have L36 : Below w3.heap.size w3 w6 := bel_seq L4 L6
  obtain ⟨H6, A6, Z6, N6, T6⟩ := L30.out w6 L36
  refine ⟨fun _ => ⟨A6, HK.out _ H6⟩, ?_⟩
  try simp only [Act.put]
  show wpOrd _ _ _ _ _ [] _ _ _
  unfold wpOrd
  have a0 := A6.cell 0
  rw [show (acArr a)[0]? = some (.int .i64 a.kind) from rfl] at a0
  have l0 := X6.cell 0
  rw [show (leArr (who, lv))[0]? = some (.int .i64 (who : Int)) from rfl] at l0
  have hs6 := L36.size
  have hpl := Y4.lt
  clear A4 H4 Z4 N4 T4 Y4 K6 L6 L36 L4 L30 A6 HK HV
  generalize w3.heap.size = pl at X6 hp4 hp3 hs6 l0 hpl ⊢
  go_upto_region 37 with fail
  clear a0 l0
  have hiN := infoN ((d.nd who).ni (q who))
  have hgb := H6.blk.lt
  have hcall := HC.out w6.drew (q who) (Nat.le_of_lt hgb) (H6.drew.que who hw)
  clear HC
  refine held_region (fun W => W.rangeAt g (who * 282) ((d.nd who).ni (q who)).cells.toList ∧ Blk W pl (leArr (who, lv)) 79) [] [(0, 0), (1, 0), (2, 0), (3, 0), (4, 0), (5, 1), (6, 0), (7, 0), (8, 1), (9, 2), (10, 0), (11, 0), (12, 0), (13, 0), (14, 2), (15, 0), (16, 0)] (by kernel_rfl) (by kernel_rfl) (by kernel_rfl) rfl (fun _ _ d _ _ h => by cases d <;> exact h) ⟨H6.drew.node who hw, X6.drew⟩ ?_
  repeat (first
    | (refine ord_load rfl (by rfl) 50 _ rfl g (who * 282) (by first | rfl | simp) ((d.nd who).ni (q who)).cells _ (fun W H => H.1) Tryz.underlying50 rfl hiN ?_; simp only [Act.put, List.setIfInBounds_toArray, List.set_cons_zero, List.set_cons_succ])
    | (refine ord_run0_ex rfl (by rfl) ?_
       apply Exists.intro
       refine ⟨fun w0 => ?_, ?_⟩
       · go_simp; rfl
       simp only [Act.put, List.setIfInBounds_toArray, List.set_cons_zero, List.set_cons_succ])
    | (refine ord_load rfl (by rfl) 36 _ rfl pl 1 (by first | rfl | simp) (wdArr lv) _ (fun W H => letter_word (x := (who, lv)) H.2) Tryz.underlying36 rfl hi6 ?_; simp only [Act.put, List.setIfInBounds_toArray, List.set_cons_zero, List.set_cons_succ]))
  refine ord_call_ex rfl (by rfl) ⟨28, #[.agg ((d.nd who).ni (q who)).cells, .int .i64 (who : Int), .agg (wdArr lv)], by go_simp, hcall.mono ?_⟩
  clear hcall
  rintro e w3 ⟨q', sa, sc, rfl, hown, hsaid, L3'⟩
  have L3 : Below w6.heap.size w6 w3 := bel_seq (below_drew' (Below.refl _ w6)) L3'
  have N3 := N6.below L3
  have H3 := H6.keep L3
  have Z3 := Z6.below L3
  have T3 := T6.more L3 (by omega)
  have X3 := X6.below L3
  refine ⟨_, rfl, fun _ => ⟨H3.node who hw, X3⟩, ?_⟩
  try simp only [Act.put, List.setIfInBounds_toArray, List.set_cons_zero, List.set_cons_succ]
  repeat (first
    | (refine ord_run0_ex rfl (by rfl) ?_
       apply Exists.intro
       refine ⟨fun w0 => ?_, ?_⟩
       · go_simp; rfl
       simp only [Act.put, List.setIfInBounds_toArray, List.set_cons_zero, List.set_cons_succ]))
  refine ord_do rfl ?_
  have hi5 := infoN (b.n.ni q')
  refine wpList_store_blk rfl 50 _ _ rfl ps zN.cells (b.n.ni q').cells 50 rfl rfl N3 (by rw [ncells_size, ncells_size]) hi5 (one_cellN _ (own_one hown)) ?_
  rintro w4 B4 K4
  have H4 := H3.kept K4 N3 (by decide) (by decide) (by decide)
  have hown4 := own_keptT hown K4 N3 (by decide)
  have hsaid4 := own_keptT hsaid K4 N3 (by decide)
  have Z4 := K4.blk _ _ _ (by omega) Z3
  have T4 := T3.more (K4.bel _ _ (Nat.le_refl _) (Below.refl _ _)) (by omega)
  refine ⟨fun _ => ⟨H4.node who hw, K4.blk _ _ _ (by omega) X3⟩, ?_⟩
  try simp only [Act.put]
  repeat (first
    | (refine ord_run0_ex rfl (by rfl) ?_
       apply Exists.intro
       refine ⟨fun w0 => ?_, ?_⟩
       · go_simp; rfl
       simp only [Act.put, List.setIfInBounds_toArray, List.set_cons_zero, List.set_cons_succ]))
  show wpOrd _ _ _ _ _ [] _ _ _
  unfold wpOrd
  have hs4 := K4.size
  have hs3 := L3.size
  clear hown hsaid N3 N6 K4 hiN H3 H6 Z3 Z6 T3 T6 L3 L3' X3 X6 hi5
  have hi5 := infoN (b.n.ni q')
  go_upto_region 50 with fail
  refine held_region (fun W => Blk W ps (b.n.ni q').cells 50) [] [(0, 0), (1, 0), (2, 1), (3, 0), (4, 0), (5, 0), (6, 2)] (by kernel_rfl) (by kernel_rfl) (by kernel_rfl) rfl (fun _ _ d _ _ h => by cases d <;> exact h) B4.drew ?_
  repeat (first
    | (refine ord_load rfl (by rfl) 50 _ rfl ps 0 rfl (b.n.ni q').cells _ (fun W H => H.range) Tryz.underlying50 rfl hi5 ?_; simp only [Act.put, List.setIfInBounds_toArray, List.set_cons_zero, List.set_cons_succ])
    | (refine ord_run0_ex rfl (by rfl) ?_
       apply Exists.intro
       refine ⟨fun w0 => ?_, ?_⟩
       · go_simp; rfl
       simp only [Act.put, List.setIfInBounds_toArray, List.set_cons_zero, List.set_cons_succ]))
  refine ord_do rfl ?_
  refine wpList_store_node rfl 50 _ _ rfl g who (fun i => (d.nd i).ni (q i)) nt d.liar (d.acts : Int) (b.n.ni q') 54 (by first | rfl | simp) rfl hw H4.blk.drew hi5 (one_cellN _ (own_one hown4)) ?_
  rintro w5 B5 G5 hs5
  refine ⟨fun _ => B4.drew.grown G5 (by omega), ?_⟩
  simp only [Act.put]
  show wpOrd _ _ _ _ _ [] _ _ _
  unfold wpOrd
  have T45 : Touch g nt w4 w5 := ⟨G5.os, G5.tape, G5.output, G5.size, fun k hk hg _ => G5.block k hk (fun e => hg (Option.some.inj e))⟩
  have C5 := CwAt.put H4.drew G5 who g b.n q' B5 hown4 (Nat.le_refl _) (by decide) (by decide)
  have S5 := T45.own H4.blk H4.net hsaid4 (by decide) (by decide)
  have Z5 := T45.blk H4.blk H4.net Z4 (by decide) (by decide)
  have T5 : Touch g nt w w5 := T4.trans T45 (Next.refl _ _)
  have hs54 := T45.size
  clear B5 G5 hs5 hown4 hsaid4 Z4 H4 B4 T4 T45 hi5
  obtain ⟨d5, hd5⟩ : ∃ d5 : Cw, d5 = { d with nd := fun k => if k = who then b.n else d.nd k } := ⟨_, rfl⟩
  obtain ⟨q5, hq5⟩ : ∃ q5 : Nat → Value, q5 = fun k => if k = who then q' else q k := ⟨_, rfl⟩
  replace C5 : CwAt w5 g 54 d5 q5 nt := by rw [hd5, hq5]; exact C5
  have HD : Hid (d.did who b = { d5 with net := sendAll who b.words d5.net }) := show _ = _ by rw [hd5]; rfl
  have hn5 : d5.net = d.net := by rw [hd5]
  rw [← hn5] at hnet
  have HN5 : Hid (d5.net = d.net) := hn5
  clear hn5 hd5 hq5
  have R5 : Blk (w5.alloc (.cells zR 33)) w5.heap.size zR 33 := Blk.new w5 _ _
  have L5 : Below w5.heap.size w5 (w5.alloc (.cells zR 33)) := by go_grown
  have hiz := info_rep 0 0 fun _ => 0
  have hoz := one_rep 0 0 fun _ => 0
  have hbR : ∀ W, Sem.run Tryz.prog (Instr.build 33 #[]) W = .ok (.agg zR) W := fun W => by show _ = _; kernel_rfl
  go_upto_region 52 with (first
    | (refine wpList_build_eq rfl 33 _ rfl zR (by simp only [List.map_toArray, List.map_nil]; exact hbR _) ?_; simp only [Act.put, List.setIfInBounds_toArray, List.set_cons_zero, List.set_cons_succ])
    | (refine wpList_store_blk rfl 33 _ _ rfl w5.heap.size zR zR 33 rfl rfl R5 rfl hiz hoz ?_; rintro w6 R6 K6))
  have L6 := K6.bel _ _ (Nat.le_refl _) L5
  have C6 := C5.keep L6
  have S6 := own_mono (own_below S5 L6) (Nat.zero_le _)
  have Z6 := Z5.below L6
  have T6 : Touch g nt w w6 := T5.trans (Touch.below L6) (Next.refl _ _)
  have hrr := R6.lt
  have hpr : w.heap.size + 1 < w5.heap.size := Z5.lt
  have hgr : g < w5.heap.size := C5.blk.lt
  clear C5 S5 Z5 T5 R5 L5 K6 hbR hiz hoz L6
  generalize w5.heap.size = rr at R6 hrr hpr hgr ⊢
  have Q6 : SendR w g d5 q5 nt (w.heap.size + 1) rr sa sc b.words (sendAll who (b.words.take 0) d5.net) w6 := ⟨nt, by rw [List.take_zero]; exact C6, T6, Next.refl _ _, S6, Z6, by rw [List.take_zero]; show Blk w6 rr (rcells 0 ((d5.net.length : Int) - (d5.net.length : Int)) fun _ => 0) _; rw [Int.sub_self]; exact R6⟩
  clear C6 S6 Z6 T6 R6
  generalize hbw : b.words = ws at Q6 HD hlen ⊢
  have HBW : Hid (b.words = ws) := hbw
  clear hbw
  go_wp2
  go_loopw [227] (fun i W => ∃ k : Nat, k ≤ ws.length ∧ i = .int .i64 (k : Int) ∧ SendR w g d5 q5 nt (w.heap.size + 1) rr sa sc ws (sendAll who (ws.take k) d5.net) W) (fun i _ => ws.length - (intOf i).toNat)
  case atStart => exact ⟨0, by omega, rfl, Q6⟩
  case round =>
    clear Q6
    rename World => w7
    obtain ⟨k, hk, rfl, H7⟩ := hrel
    have hl1 := sendAll_len who (ws.take k) d5.net hnet
    have HL : Hid (∀ x, ws[k]? = some x → sendAll who (ws.take (k + 1)) d5.net = sendTo who x (sendAll who (ws.take k) d5.net) 4) := fun x hx => sendAll_succ who ws d5.net k x hx
    by_cases hlt : k < ws.length
    · have hx : ws[k]? = some ws[k] := List.getElem?_eq_getElem hlt
      replace HL : Hid (sendAll who (ws.take (k + 1)) d5.net = sendTo who ws[k] (sendAll who (ws.take k) d5.net) 4) := HL.out _ hx
      generalize sendAll who (ws.take k) d5.net = m at H7 hl1 HL
      obtain ⟨b', o', cap', hv, a0, a1, a2, a3, a4, a5⟩ := (own_words H7.choose_spec.2.2.2.1).lies hx
      injection hv with hv1 hv2 hv3
      subst hv1 hv3
      generalize ws[k] = x at a0 a1 a2 a3 a4 a5 HL
      clear hx
      go_wp2
      go_loopw [231] (fun j W => ∃ i : Nat, i ≤ 4 ∧ j = .int .i64 (i : Int) ∧ SendR w g d5 q5 nt (w.heap.size + 1) rr (some ⟨b', o', none⟩) sc ws (sendTo who x m i) W ∧ Blk W w7.heap.size #[.int .i64 x.k, .int .i64 x.f, .int .i64 x.h, .int .i64 x.r, .int .i64 x.v, .int .i64 x.x] 36 ∧ rr < w7.heap.size) (fun j _ => 4 - (intOf j).toNat)
      case atStart => exact ⟨0, by omega, rfl, H7.keep (by go_grown), Blk.new w7 _ _, H7.choose_spec.2.2.2.2.2.lt⟩
      case round =>
        clear H7 a0 a1 a2 a3 a4 a5
        obtain ⟨i, hi, rfl, H8, D8, hr7⟩ := hrel
        have hl2 := sendTo_len who x m hl1.2 i
        by_cases hi4 : i < 4
        · obtain ⟨nt', C8, T8, N8, O8, Z8, R8⟩ := H8
          obtain ⟨na', nc', hn'⟩ := own_shape C8.net
          subst hn'
          have c1 := C8.slice
          have HS : Hid (sendTo who x m (i + 1) = if i ≠ who ∧ (sendTo who x m i).length < 2000 then sendTo who x m i ++ [(i, x)] else sendTo who x m i) := rfl
          generalize sendTo who x m i = net at *
          simp only at c1
          by_cases hfr : i = who
          · have hne : ((i : Int) != (who : Int)) = false := by simp; omega
            have HF : Hid (i = who) := hfr
            clear hfr
            go_wp2
            go_roundw
            case rel => exact ⟨i + 1, by omega, by go_num, by rw [HS.out, if_neg (fun h => h.1 HF.out)]; exact ⟨_, C8, T8, N8, O8, Z8, R8⟩, D8, hr7⟩
            case measure => simp [intOf]; omega
          · have hne : ((i : Int) != (who : Int)) = true := by simp; omega
            have HF : Hid (¬ i = who) := hfr
            clear hfr
            by_cases hroom : net.length < 2000
            · have hroom' : (net.length : Int) < 2000 := by omega
              obtain ⟨i0, hi0, hz0, hz1, hz2⟩ := info_le
              have hw6 := info_word
              have B8 := C8.blk
              go_upto_region 59 with fail
              rename World => w8
              refine held_region (fun W => Blk W g (ccells (fun i => (d5.nd i).ni (q5 i)) (.slice na' net.length nc') d5.liar (d5.acts : Int)) 54 ∧ Blk W w7.heap.size #[.int .i64 x.k, .int .i64 x.f, .int .i64 x.h, .int .i64 x.r, .int .i64 x.v, .int .i64 x.x] 36) [12] [(0, 0), (1, 0), (2, 0), (3, 0), (4, 1), (5, 0), (6, 1), (7, 0), (8, 2), (9, 2), (10, 0), (11, 0), (12, 2)] (by kernel_rfl) (by kernel_rfl) (by kernel_rfl) rfl (fun _ _ d _ _ h => by cases d <;> exact h) ⟨B8.drew, D8.drew⟩ ?_
              repeat (first
                | (refine ord_run0_ex rfl (by rfl) ?_
                   apply Exists.intro
                   refine ⟨fun w0 => ?_, ?_⟩
                   · go_simp; rfl
                   simp only [Act.put, List.setIfInBounds_toArray, List.set_cons_zero, List.set_cons_succ])
                | (refine ord_load rfl (by rfl) 36 _ rfl w7.heap.size 0 rfl #[.int .i64 x.k, .int .i64 x.f, .int .i64 x.h, .int .i64 x.r, .int .i64 x.v, .int .i64 x.x] _ (fun W H => H.2.range) Tryz.underlying36 rfl hw6 ?_; simp only [Act.put, List.setIfInBounds_toArray, List.set_cons_zero, List.set_cons_succ])
                | (refine ord_run1_ex rfl (by rfl) ?_
                   apply Exists.intro
                   refine ⟨fun w0 hC => ?_, ?_⟩
                   · have e0 := hC.1.cell 1128; rw [ccells_nt] at e0; clear hC; go_simp; rfl
                   simp only [Act.put, List.setIfInBounds_toArray, List.set_cons_zero, List.set_cons_succ]))
              refine ord_do rfl ?_
              go_wp2_with fail
              refine ⟨fun _ => ⟨(B8.alloc _).drew, (D8.alloc _).drew⟩, ?_⟩
              obtain ⟨W3, hW3⟩ : ∃ W3, W3 = (w8.alloc (.cells #[.int .i64 (i : Int), .int .i64 x.k, .int .i64 x.f, .int .i64 x.h, .int .i64 x.r, .int .i64 x.v, .int .i64 x.x] 79)).drew := ⟨_, rfl⟩
              have L3 : Below w8.heap.size w8 W3 := by rw [hW3]; exact below_drew' (by go_grown)
              have N3 : Blk W3 w8.heap.size #[.int .i64 (i : Int), .int .i64 x.k, .int .i64 x.f, .int .i64 x.h, .int .i64 x.r, .int .i64 x.v, .int .i64 x.x] 79 := by rw [hW3]; exact (Blk.new w8 _ _).drew
              have C3 := C8.keep L3
              have D3 := D8.below L3
              have O3 := own_below O8 L3
              have Z3 := Z8.below L3
              have R3 := R8.below L3
              have hnews : ∀ (j : Nat) (u : Value), (leCells (i, x))[j]? = some u → W3.cell? ((⟨w8.heap.size, 0, none⟩ : Addr).add j) = some u := fun j u hu => by
                rw [Addr.add_mid, Nat.zero_add, N3.cell j]
                simpa [leCells, wdCells] using hu
              have hone : ∀ u : Value, u ∈ leCells (i, x) → u.oneCell' = true := fun u hu => by
                simp only [leCells, wdCells, List.mem_cons, List.not_mem_nil, or_false] at hu
                rcases hu with rfl | rfl | rfl | rfl | rfl | rfl | rfl <;> rfl
              have h63 : net.length + 1 ≤ maxLen := by unfold maxLen; omega
              rw [← hW3]
              clear hW3 N3 D8 Z8 R8 B8
              refine ord_do rfl ?_
              refine wpList_append_next rfl _ _ 52 rfl 0 79 i0 _ 7 56 Tryz.underlying52 hi0 hz0 hz1 hz2 rfl (by decide) (.slice na' net.length nc') net.length (lesCells net) rfl C3.net ⟨w8.heap.size, 0, none⟩ 1 1 (leCells (i, x)) rfl rfl hnews hone h63 (by omega) (by omega) ?_
              intro v' w9 hown hgrow N5
              obtain ⟨sb, sc', hv⟩ := own_shape hown
              subst hv
              have T4 : Touch g (.slice na' net.length nc') W3 w9 := Touch.grownN hgrow
              have B4 : Blk w9 g (ccells (fun i => (d5.nd i).ni (q5 i)) (.slice na' net.length nc') d5.liar (d5.acts : Int)) 54 := blk_grown C3.blk hgrow (fun h => own_not C3.blk C3.net (by decide) h.symm)
              have D4 := T4.blk C3.blk C3.net D3 (by decide) (by decide)
              refine ⟨fun _ => ⟨B4, D4⟩, ?_⟩
              try simp only [Act.put, List.setIfInBounds_toArray, List.set_cons_zero, List.set_cons_succ]
              repeat (first
                | (refine ord_run0_ex rfl (by rfl) ?_
                   apply Exists.intro
                   refine ⟨fun w0 => ?_, ?_⟩
                   · go_simp; rfl
                   simp only [Act.put, List.setIfInBounds_toArray, List.set_cons_zero, List.set_cons_succ]))
              have e4 := B4.cell 1128
              have f4 := B4.free 1128
              rw [ccells_nt] at e4
              refine ord_do rfl ?_
              go_wp2_with fail
              refine ⟨fun hc => absurd hc (by decide), ?_⟩
              show wpOrd _ _ _ _ _ [] _ _ _
              unfold wpOrd
              obtain ⟨wa, hwa⟩ : ∃ wa, wa = w9.setCell ⟨g, 1128, none⟩ (.slice sb (net.length + 1) sc') := ⟨_, rfl⟩
              have B5 : Blk wa g (ccells (fun i => (d5.nd i).ni (q5 i)) (.slice sb (net.length + 1) sc') d5.liar (d5.acts : Int)) 54 := by
                have h := B4.setCell 1128 (.slice sb (net.length + 1) sc')
                rw [ccells_set_nt] at h
                rw [hwa]; exact h
              have T5 : Touch g (.slice na' net.length nc') W3 wa := by rw [hwa]; exact T4.trans (Touch.grownB (grown_setCell w9 g 1128 _)) (Next.refl _ _)
              have hn5 : wa.ownsRow 0 79 7 (.slice sb (net.length + 1) sc') (net.length + 1) (lesCells net ++ leCells (i, x)) := by rw [hwa]; exact hown.kept (grown_setCell w9 g 1128 _) (Or.inr (own_not B4 hown (by decide)))
              have D5 := T5.blk C3.blk C3.net D3 (by decide) (by decide)
              have Z5 := T5.blk C3.blk C3.net Z3 (by decide) (by decide)
              have R5 := T5.blk C3.blk C3.net R3 (by decide) (by decide)
              have O5 := T5.own C3.blk C3.net O3 (by decide) (by decide)
              have hw : lesCells (net ++ [(i, x)]) = lesCells net ++ leCells (i, x) := by simp [lesCells]
              have C9 : CwAt wa g 54 { d5 with net := net ++ [(i, x)] } q5 (.slice sb (net.length + 1) sc') := by
                refine ⟨B5, fun j hj => T5.own C3.blk C3.net (C3.que j hj) (by decide) (by decide), ?_⟩
                show World.ownsRow _ _ _ _ _ (net ++ [(i, x)]).length (lesCells (net ++ [(i, x)]))
                rw [hw, List.length_append]
                exact hn5
              have T9 : Touch g nt w wa := (T8.trans (Touch.below L3) N8).trans T5 N8
              have N9 : Next nt (.slice sb (net.length + 1) sc') w := N8.trans N5 (Nat.le_trans T8.size L3.size)
              rw [← hwa]
              have er := R5.cell 1
              rw [show (rcells 0 ((net.length : Int) - (d5.net.length : Int)) fun _ => 0)[1]? = some (.int .i64 ((net.length : Int) - (d5.net.length : Int))) from rfl] at er
              have fr := R5.free 1
              have hbig : 0 ≤ (net.length : Int) - (d5.net.length : Int) := by omega
              have hbig2 : (net.length : Int) - (d5.net.length : Int) ≤ 2000 := by omega
              have HX : Hid ((net.length : Int) - (d5.net.length : Int) + 1 = ((net ++ [(i, x)]).length : Int) - (d5.net.length : Int)) := show _ = _ by rw [List.length_append]; simp; omega
              clear hwa B4 D4 T4 T5 hn5 B5 hw e4 f4 hown hgrow C3 D3 O3 Z3 R3 L3 hnews hone hl1 hl2 T8 N8 O8 C8
              generalize (net.length : Int) - (d5.net.length : Int) = X at er R5 hbig hbig2 HX
              go_wp2
              go_roundw
              case measure => simp [intOf]; omega
              case rel =>
                have R9 : Blk (wa.setCell ⟨rr, 1, none⟩ (.int .i64 (X + 1))) rr (rcells 0 (((net ++ [(i, x)]).length : Int) - (d5.net.length : Int)) fun _ => 0) 33 := by
                  have h := R5.setCell 1 (.int .i64 (X + 1))
                  rw [show (rcells 0 X fun _ => 0).setIfInBounds 1 (.int .i64 (X + 1)) = rcells 0 (X + 1) fun _ => 0 from rfl] at h
                  rw [← HX.out]; exact h
                have K9 := kept_setCell rr 1 (.int .i64 (X + 1)) wa
                refine ⟨i + 1, by omega, by go_num, ?_, K9.blk _ _ _ (by omega) D5, hr7⟩
                rw [HS.out, if_pos ⟨HF.out, hroom⟩]
                exact ⟨_, C9.kept K9 R5 (by decide) (by decide) (by decide), T9.more (K9.bel _ _ (Nat.le_refl _) (Below.refl _ _)) (by omega), N9, own_keptT O5 K9 R5 (by decide), K9.blk _ _ _ (by omega) Z5, R9⟩
            · have hroom' : ¬ (net.length : Int) < 2000 := by omega
              go_wp2
              go_roundw
              case rel => exact ⟨i + 1, by omega, by go_num, by rw [HS.out, if_neg (fun h => hroom h.2)]; exact ⟨_, C8, T8, N8, O8, Z8, R8⟩, D8, hr7⟩
              case measure => simp [intOf]; omega
        · have hi5 : Hid (i = 4) := show i = 4 by omega
          go_wp2
          go_roundw
          case rel => exact ⟨k + 1, by omega, by go_num, by rw [HL.out, ← hi5.out]; exact H8⟩
          case measure => simp [intOf]; omega
    · have HK : Hid (sendAll who (ws.take k) d5.net = sendAll who ws d5.net) := show _ = _ by rw [List.take_of_length_le (by omega)]
      clear HL
      obtain ⟨nt', C8, T8, N8, O8, Z8, R8⟩ := H7
      rw [HK.out] at C8 R8
      have hiX := info_rep 0 (((sendAll who ws d5.net).length : Int) - (d5.net.length : Int)) fun _ => 0
      have hoX := one_rep 0 (((sendAll who ws d5.net).length : Int) - (d5.net.length : Int)) fun _ => 0
      have HX : Hid (((sendAll who ws d5.net).length : Int) - (d5.net.length : Int) = ((sendAll who ws d.net).length : Int) - (d.net.length : Int)) := show _ = _ by rw [HN5.out]
      generalize ((sendAll who ws d5.net).length : Int) - (d5.net.length : Int) = X at R8 hiX hoX HX
      go_wp2_with (first
        | (refine wpList_load_part (by rfl) 33 _ rfl rr 0 rfl (rcells 0 X fun _ => 0) _ R8.range Tryz.underlying33 rfl hiX ?_)
        | (refine wpList_store_blk rfl 33 _ _ rfl (w.heap.size + 1) zR (rcells 0 X fun _ => 0) 33 rfl rfl Z8 rfl hiX hoX ?_; rintro w9 B9 K9))
      refine bodyPost_ret (result_rep rfl _ _ (w.heap.size + 1) _ _ _ rfl B9) rfl ⟨by rw [HX.out, HBW.out], q5, nt', ?_, T8.more (K9.bel _ _ (Nat.le_refl _) (Below.refl _ _)) (by omega), N8⟩
      rw [HD.out]
      exact C8.kept K9 Z8 (by decide) (by decide) (by decide)

set_option maxRecDepth 100000 in
set_option maxHeartbeats 8000000 in
theorem rdo_deliver_no {w : World} {g : Nat} {c : Cw} {q : Nat → Value} {nt : Value} (H : CwAt w g 54 c q nt) (a : Ac) (h6 : c.acts < 600) {d : Cw} (hd : c.more = d) (hk : a.kind = 2) (who : Nat) (hw : who < 4) (hnet : d.net.length ≤ 2000) (code : Int) (hne : code ≠ 0) (x : Nat) (lv : Wd) (hx : d.net[x]? = some (who, lv)) (hax : (x : Int) = a.n)
    (hcon : ∀ W q, g ≤ W.heap.size → W.ownsRow g 3 1 q (d.nd who).queue.length ((d.nd who).queue.map (Value.int .i64)) → Calls Tryz.prog 28 #[.agg ((d.nd who).ni q).cells, .int .i64 (who : Int), .agg (wdArr lv)] W (RefD W ((d.nd who).ni q) code)) :
    Calls Tryz.prog 8 #[.pointer (some ⟨g, 0, none⟩), .agg (acArr a)] w (DidR w g nt d (refused code)) := by
  have hi := info_rep (code) 0 fun _ => 0
  have ho := one_rep (code) 0 fun _ => 0
  have hc2 : (code != 0) = true := by simpa using hne
  clear hne
  have hi6 : (Tryz.prog.info? 36).map (·.size) = some (wdArr lv).size := by show _ = some 6; kernel_rfl
  have hwin : win (who : Int) 0 3 = true := win_iff.2 ⟨by omega, by omega⟩
  have hwI : (who : Int) < 4 := by omega
  have HC : Hid _ := hcon
  clear hcon
  have hxl : x < d.net.length := by
    by_cases hlt : x < d.net.length
    · exact hlt
    · rw [List.getElem?_eq_none (by omega)] at hx; cases hx
  have hwx : win (x : Int) 0 ((d.net.length : Int) - 1) = true := win_iff.2 ⟨by omega, by omega⟩
  have hxI : (x : Int) < (d.net.length : Int) := by omega
  have hx2 : (acArr a)[2]? = some (.int .i64 (x : Int)) := by rw [hax]; rfl
  clear hax
  have hz := run_zeroN
  have A : Blk ((w.alloc (.cells (acArr a) 38)).alloc (.cells zR 33)) w.heap.size (acArr a) 38 := (Blk.new w _ _).alloc _
  have Z : Blk ((w.alloc (.cells (acArr a) 38)).alloc (.cells zR 33)) (w.heap.size + 1) zR 33 := Blk.new1 w _ _ _
  have L0 : Below w.heap.size w ((w.alloc (.cells (acArr a) 38)).alloc (.cells zR 33)) := by go_grown
  have H0 := H.keep L0
  have hgw := H.blk.lt
  have hacts : ((c.acts : Int) == 600) = false := beq_eq_false_iff_ne.2 (by omega)
  have hactI : (c.acts : Int) < 600 := by omega
  clear H
  go_enter Tryz.func8, Tryz.ntmps8
  go_upto_region 1 with fail
  generalize ((w.alloc (.cells (acArr a) 38)).alloc (.cells zR 33)) = w0 at A Z L0 H0 ⊢
  have c0 := H0.acts
  have f0 := H0.blk.free 1130
  go_upto_region 5 with fail
  obtain ⟨w1, hw1⟩ : ∃ w1, w1 = w0.setCell ⟨g, 1130, none⟩ (.int .i64 ((c.acts : Int) + 1)) := ⟨_, rfl⟩
  have H1 : CwAt w1 g 54 d q nt := by rw [hw1, ← hd]; exact H0.more (by decide) (by decide)
  have T1 : Touch g nt w w1 := by rw [hw1]; exact (Touch.below L0).trans (Touch.grownB (grown_setCell w0 g 1130 _)) (Next.refl _ _)
  have A1 : Blk w1 w.heap.size (acArr a) 38 := by rw [hw1]; exact A.setCell_other _ _ (by show w.heap.size ≠ g; omega)
  have Z1 : Blk w1 (w.heap.size + 1) zR 33 := by rw [hw1]; exact Z.setCell_other _ _ (by show w.heap.size + 1 ≠ g; omega)
  rw [← hw1]
  clear hw1 c0 f0 H0 A Z L0 hacts hactI h6 hd
  have a1 := A1.cell 1
  rw [show (acArr a)[1]? = some (.int .i64 a.node) from rfl] at a1
  have N2 : Blk (w1.alloc (.cells zN.cells 50)) w1.heap.size zN.cells 50 := Blk.new w1 _ _
  have L2 : Below w1.heap.size w1 (w1.alloc (.cells zN.cells 50)) := by go_grown
  have hp0 := Z1.lt
  go_upto_region 9 with fail
  generalize (w1.alloc (.cells zN.cells 50)) = w2 at N2 L2 ⊢
  have H2 := H1.keep L2
  have A2 := A1.below L2
  have Z2 := Z1.below L2
  have T2 : Touch g nt w w2 := T1.trans (Touch.below L2) (Next.refl _ _)
  have hp2 := N2.lt
  clear H1 A1 Z1 T1 L2 a1
  generalize w1.heap.size = ps at N2 hp0 hp2 ⊢
  have a0 := A2.cell 0
  rw [show (acArr a)[0]? = some (.int .i64 a.kind) from rfl] at a0
  have k1 : (a.kind == 1) = false := by rw [hk]; rfl
  have k2 : (a.kind == 2) = true := by rw [hk]; rfl
  have k3 : (a.kind == 3) = false := by rw [hk]; rfl
  have k4 : (a.kind == 4) = false := by rw [hk]; rfl
  have k5 : (a.kind == 5) = false := by rw [hk]; rfl
  clear hk
  obtain ⟨na, nc, hnv⟩ := own_shape H2.net
  have e1 := A2.cell 2
  rw [show (acArr a)[2]? = some (.int .i64 (x : Int)) from hx2] at e1
  have e2 := H2.slice
  rw [hnv] at e2
  have HV : Hid (nt = .slice na d.net.length nc) := hnv
  clear hnv
  have hwr : IntKind.i64.wrap ((d.net.length : Int) - 1) = (d.net.length : Int) - 1 := IntWalk.i64_in _ (by omega)
  go_upto_region 30 with fail
  refine q_region (C := fun W => W.cell? ⟨w.heap.size, 2, none⟩ = some (.int .i64 (x : Int)) ∧ W.cell? ⟨g, 1128, none⟩ = some (.slice na d.net.length nc) ∧ Below w2.heap.size w2 W) (by kernel_rfl) (by kernel_rfl) ⟨e1, e2, below_drew' (Below.refl _ _)⟩ ?_
  repeat (first
    | (refine q_run_ex (by rfl) ?_
       apply Exists.intro
       refine ⟨fun w0 hC => ?_, ?_⟩
       · have z1 := hC.1; have z2 := hC.2.1; clear hC; go_simp; rfl
       simp only [Act.put, List.setIfInBounds_toArray, List.set_cons_zero, List.set_cons_succ])
    | (refine q_call_ex (by rfl) ?_
       apply Exists.intro
       apply Exists.intro
       apply Exists.intro
       refine ⟨fun w0 hC => ?_, fun w0 hC => ?_, ?_⟩
       · clear hC; go_simp; exact ⟨rfl, rfl⟩
       · refine (rwithin_any _ _ _ _).mono ?_
         rintro e w' ⟨rfl, hw'⟩
         rw [hwx, hw']
         exact ⟨rfl, hC⟩
       simp only [Act.put, List.setIfInBounds_toArray, List.set_cons_zero, List.set_cons_succ]))
  refine q_nil ?_
  intro w3 hC3
  have L3 := hC3.2.2
  have hs23 := L3.size
  clear e1 e2 hC3
  have Z3 := Z2.below L3
  have H3 := H2.keep L3
  have A3 := A2.below L3
  have N3 := N2.below L3
  have T3 := T2.more L3 (by omega)
  obtain ⟨nb, nc', hnv', hnb⟩ := own_at H3.net (by omega)
  have hv : (.slice na d.net.length nc : Value) = .slice (some ⟨nb, 0, none⟩) d.net.length nc' := HV.out.symm.trans hnv'
  injection hv with hv1 hv2 hv3
  subst hv1 hv3
  clear hnv'
  have HK : Hid (∀ W, CwAt W g 54 d q nt → W.cell? ⟨g, 1128, none⟩ = some (.slice (some ⟨nb, 0, none⟩) d.net.length nc) ∧ W.rangeAt nb (x * 7) (leArr (who, lv)).toList) := fun W hW => ⟨by rw [hW.slice, HV.out], le_range (by have h := hW.net; rw [HV.out] at h; exact h) hx⟩
  obtain ⟨s3, hr3⟩ := HK.out w3 H3
  have hi7 := info_leArr (who, lv)
  have ho7 := one_leArr (who, lv)
  have hp3 := L3.size
  clear A2 H2 Z2 T2 N2 L3
  go_upto_region 32 with fail
  refine held_region (fun W => Blk W w.heap.size (acArr a) 38 ∧ W.cell? ⟨g, 1128, none⟩ = some (.slice (some ⟨nb, 0, none⟩) d.net.length nc) ∧ W.rangeAt nb (x * 7) (leArr (who, lv)).toList) [] [(0, 0), (1, 0), (2, 0), (3, 1), (4, 0), (5, 1), (6, 0), (7, 1), (8, 2), (9, 2)] (by kernel_rfl) (by kernel_rfl) (by kernel_rfl) rfl (fun _ _ d _ _ h => by cases d <;> exact h) ⟨A3.drew, s3, hr3⟩ ?_
  repeat (first
    | (refine ord_run0_ex rfl (by rfl) ?_
       apply Exists.intro
       refine ⟨fun w0 => ?_, ?_⟩
       · go_simp; rfl
       simp only [Act.put, List.setIfInBounds_toArray, List.set_cons_zero, List.set_cons_succ])
    | (refine ord_load rfl (by rfl) 79 _ rfl nb (x * 7) (by first | rfl | simp) (leArr (who, lv)) _ (fun W H => H.2.2) Tryz.underlying79 rfl hi7 ?_; simp only [Act.put, List.setIfInBounds_toArray, List.set_cons_zero, List.set_cons_succ])
    | (refine ord_run1_ex rfl (by rfl) ?_
       apply Exists.intro
       refine ⟨fun w0 hC => ?_, ?_⟩
       · have z1 := hC.1.cell 2; rw [hx2] at z1; have z2 := hC.2.1; clear hC; go_simp; rfl
       simp only [Act.put, List.setIfInBounds_toArray, List.set_cons_zero, List.set_cons_succ]))
  refine ord_do rfl ?_
  go_wp2_with fail
  obtain ⟨w4, hw4⟩ : ∃ w4, w4 = (w3.alloc (.cells #[.int .i64 0, .int .i64 0, .int .i64 0, .int .i64 0, .int .i64 0, .int .i64 0, .int .i64 0] 79)).drew := ⟨_, rfl⟩
  have L4 : Below w3.heap.size w3 w4 := by rw [hw4]; exact below_drew' (by go_grown)
  have Y4 : Blk w4 w3.heap.size #[.int .i64 0, .int .i64 0, .int .i64 0, .int .i64 0, .int .i64 0, .int .i64 0, .int .i64 0] 79 := by rw [hw4]; exact (Blk.new w3 _ _).drew
  have A4 := A3.below L4
  have H4 := H3.keep L4
  have Z4 := Z3.below L4
  have N4 := N3.below L4
  have T4 := T3.more L4 (by omega)
  have hp4 := N3.lt
  rw [← hw4]
  have L30 : Hid (∀ W, Below w3.heap.size w3 W → CwAt W g 54 d q nt ∧ Blk W w.heap.size (acArr a) 38 ∧ Blk W (w.heap.size + 1) zR 33 ∧ Blk W ps zN.cells 50 ∧ Touch g nt w W) := fun W hW => ⟨H3.keep hW, A3.below hW, Z3.below hW, N3.below hW, T3.more hW (by omega)⟩
  clear hw4 A3 H3 Z3 N3 T3 hr3 s3
  refine ⟨fun _ => ⟨A4, HK.out _ H4⟩, ?_⟩
  try simp only [Act.put, List.setIfInBounds_toArray, List.set_cons_zero, List.set_cons_succ]
  refine ord_do rfl ?_
  refine wpList_store_blk rfl 79 _ _ rfl w3.heap.size #[.int .i64 0, .int .i64 0, .int .i64 0, .int .i64 0, .int .i64 0, .int .i64 0, .int .i64 0] (leArr (who, lv)) 79 rfl rfl Y4 rfl hi7 ho7 ?_
  rintro w6 X6 K6
  have L6 : Below w3.heap.size w4 w6 := K6.bel _ _ (Nat.le_refl _) (Below.refl _ _)
  have L36 : Below w3.heap.size w3 w6 := bel_seq L4 L6
  obtain ⟨H6, A6, Z6, N6, T6⟩ := L30.out w6 L36
  refine ⟨fun _ => ⟨A6, HK.out _ H6⟩, ?_⟩
  try simp only [Act.put]
  show wpOrd _ _ _ _ _ [] _ _ _
  unfold wpOrd
  have a0 := A6.cell 0
  rw [show (acArr a)[0]? = some (.int .i64 a.kind) from rfl] at a0
  have l0 := X6.cell 0
  rw [show (leArr (who, lv))[0]? = some (.int .i64 (who : Int)) from rfl] at l0
  have hs6 := L36.size
  have hpl := Y4.lt
  clear A4 H4 Z4 N4 T4 Y4 K6 L6 L36 L4 L30 A6 HK HV
  generalize w3.heap.size = pl at X6 hp4 hp3 hs6 l0 hpl ⊢
  go_upto_region 37 with fail
  clear a0 l0
  have hiN := infoN ((d.nd who).ni (q who))
  have hgb := H6.blk.lt
  have hcall := HC.out w6.drew (q who) (Nat.le_of_lt hgb) (H6.drew.que who hw)
  clear HC
  refine held_region (fun W => W.rangeAt g (who * 282) ((d.nd who).ni (q who)).cells.toList ∧ Blk W pl (leArr (who, lv)) 79) [] [(0, 0), (1, 0), (2, 0), (3, 0), (4, 0), (5, 1), (6, 0), (7, 0), (8, 1), (9, 2), (10, 0), (11, 0), (12, 0), (13, 0), (14, 2), (15, 0), (16, 0)] (by kernel_rfl) (by kernel_rfl) (by kernel_rfl) rfl (fun _ _ d _ _ h => by cases d <;> exact h) ⟨H6.drew.node who hw, X6.drew⟩ ?_
  repeat (first
    | (refine ord_load rfl (by rfl) 50 _ rfl g (who * 282) (by first | rfl | simp) ((d.nd who).ni (q who)).cells _ (fun W H => H.1) Tryz.underlying50 rfl hiN ?_; simp only [Act.put, List.setIfInBounds_toArray, List.set_cons_zero, List.set_cons_succ])
    | (refine ord_run0_ex rfl (by rfl) ?_
       apply Exists.intro
       refine ⟨fun w0 => ?_, ?_⟩
       · go_simp; rfl
       simp only [Act.put, List.setIfInBounds_toArray, List.set_cons_zero, List.set_cons_succ])
    | (refine ord_load rfl (by rfl) 36 _ rfl pl 1 (by first | rfl | simp) (wdArr lv) _ (fun W H => letter_word (x := (who, lv)) H.2) Tryz.underlying36 rfl hi6 ?_; simp only [Act.put, List.setIfInBounds_toArray, List.set_cons_zero, List.set_cons_succ]))
  refine ord_call_ex rfl (by rfl) ⟨28, #[.agg ((d.nd who).ni (q who)).cells, .int .i64 (who : Int), .agg (wdArr lv)], by go_simp, hcall.mono ?_⟩
  clear hcall
  rintro e w3 ⟨rfl, L3'⟩
  have L3 : Below w6.heap.size w6 w3 := bel_seq (below_drew' (Below.refl _ w6)) L3'
  have N3 := N6.below L3
  have H3 := H6.keep L3
  have Z3 := Z6.below L3
  have T3 := T6.more L3 (by omega)
  have X3 := X6.below L3
  refine ⟨_, rfl, fun _ => ⟨H3.node who hw, X3⟩, ?_⟩
  try simp only [Act.put, List.setIfInBounds_toArray, List.set_cons_zero, List.set_cons_succ]
  repeat (first
    | (refine ord_run0_ex rfl (by rfl) ?_
       apply Exists.intro
       refine ⟨fun w0 => ?_, ?_⟩
       · go_simp; rfl
       simp only [Act.put, List.setIfInBounds_toArray, List.set_cons_zero, List.set_cons_succ]))
  refine ord_do rfl ?_
  refine wpList_store_blk rfl 50 _ _ rfl ps zN.cells ((d.nd who).ni (q who)).cells 50 rfl rfl N3 (by rw [ncells_size, ncells_size]) hiN (one_cellN _ (own_one (H3.que who hw))) ?_
  rintro w4 B4 K4
  have H4 := H3.kept K4 N3 (by decide) (by decide) (by decide)
  have Z4 := K4.blk _ _ _ (by omega) Z3
  have T4 := T3.more (K4.bel _ _ (Nat.le_refl _) (Below.refl _ _)) (by omega)
  refine ⟨fun _ => ⟨H4.node who hw, K4.blk _ _ _ (by omega) X3⟩, ?_⟩
  try simp only [Act.put]
  repeat (first
    | (refine ord_run0_ex rfl (by rfl) ?_
       apply Exists.intro
       refine ⟨fun w0 => ?_, ?_⟩
       · go_simp; rfl
       simp only [Act.put, List.setIfInBounds_toArray, List.set_cons_zero, List.set_cons_succ]))
  show wpOrd _ _ _ _ _ [] _ _ _
  unfold wpOrd
  have hs4 := K4.size
  have hs3 := L3.size
  clear N3 N6 K4 hiN H3 H6 Z3 Z6 T3 T6 L3 L3' X3 X6
  clear B4
  go_wp2_with (first
    | (go_at_call 24; refine (no_any code _).mono ?_; rintro e w8 ⟨rfl, L8⟩; have Z8 := Z4.below L8)
    | (refine wpList_store_blk rfl 33 _ _ rfl (w.heap.size + 1) zR (refused code) 33 rfl rfl Z8 rfl hi ho ?_; rintro w9 B9 K9))
  exact bodyPost_ret (result_rep rfl _ _ (w.heap.size + 1) _ _ _ rfl B9) rfl ⟨rfl, q, nt, (H4.keep L8).kept K9 Z8 (by decide) (by decide) (by decide), (T4.more L8 (by omega)).more (K9.bel _ _ (Nat.le_refl _) (Below.refl _ _)) (by omega), Next.refl _ _⟩

end Go.Proofs.YtmmgaonlmpajbacGreat
