/-
  The document's node: SubmitValue.
-/
import Derived.Test.YtmmgaonlmpajbacGreatDoc6
import Derived.Test.YtmmgaonlmpajbacGreatDoc2
import Derived.Test.YtmmgaonlmpajbacGreatTurnF
namespace Go.Proofs.YtmmgaonlmpajbacGreat
open Go.RowKit

theorem ap_of {W : World} {base g : Nat} {e t : TypeId} {size : Nat} {v : Value} {k : Nat} {xs : List Value} {C : Array Value} (h : W.ownsRow base e size v k xs) (B : Blk W g C t) (hne : e ≠ t) : v.ownBlock ≠ some g := fun hk => by
  obtain ⟨_, _, cur, hc⟩ := own_block h g hk
  have hB : W.heap[g]? = some (.cells C t) := B
  rw [hc] at hB
  injection hB with hB
  injection hB with h1 h2
  exact hne h2

set_option maxRecDepth 100000 in
set_option maxHeartbeats 4000000 in
theorem rsub_begin (n : NI) (l : List Int) (who : Int) (y : Int) (w : World) (hq : Ints w n.q l) (hl : l.length * 8 ≤ 140737488355328) (code : Int) (hcode : Hid (code = if goodN n l then (if win who 0 3 then 0 else 2) else 1)) (hne : code ≠ 0) :
    Calls Tryz.prog 26 #[.agg n.cells, .int .i64 who, .int .i64 y] w (RefD w n code) := by
  have hz := run_zeroN
  have hiN := infoN n
  have B0 : Blk ((w.alloc (.cells n.cells 50)).alloc (.cells zN.cells 50)) w.heap.size n.cells 50 := (Blk.new w _ _).alloc _
  have Bz : Blk ((w.alloc (.cells n.cells 50)).alloc (.cells zN.cells 50)) (w.heap.size + 1) zN.cells 50 := Blk.new1 w _ _ _
  have L0 : Below w.heap.size w ((w.alloc (.cells n.cells 50)).alloc (.cells zN.cells 50)) := by go_grown
  have hsz : ((w.alloc (.cells n.cells 50)).alloc (.cells zN.cells 50)).heap.size = w.heap.size + 2 := by simp
  have hc1 : (code == 0) = false := by simpa using hne
  have hc2 : (code != 0) = true := by simpa using hne
  have ho1 := ints_one hq
  go_enter Tryz.func26, Tryz.ntmps26
  go_upto_region 1 with fail
  generalize ((w.alloc (.cells n.cells 50)).alloc (.cells zN.cells 50)) = w0 at B0 Bz L0 hsz ⊢
  have hbeg := ropened_bad n l who w0 (hq.keep L0) hl code hcode hne
  clear hq hz
  go_wp2_with (first
    | (refine wpList_load_blk rfl 50 _ rfl w.heap.size rfl 50 n.cells _ B0 Tryz.underlying50 rfl hiN ?_)
    | (go_at_call 46; refine hbeg.mono ?_; rintro e w1 ⟨rfl, L1⟩; have Bz1 := Bz.below L1; have B1 := B0.below L1; clear hbeg B0)
    | (refine wpList_load_blk rfl 50 _ rfl w.heap.size rfl 50 n.cells _ B1 Tryz.underlying50 rfl hiN ?_)
    | (refine wpList_store_blk rfl 50 _ _ rfl (w.heap.size + 1) zN.cells n.cells 50 rfl rfl Bz1 (by rw [ncells_size, ncells_size]) hiN (one_cellN _ ho1) ?_; rintro w6 B6 K6))
  refine bodyPost_ret (results_three rfl _ _ (w.heap.size + 1) n.cells _ _ rfl rfl rfl (load_node B6)) rfl ?_
  exact ⟨rfl, K6.bel _ _ (by omega) (bel_trans L0 L1)⟩

set_option maxRecDepth 100000 in
set_option maxHeartbeats 4000000 in
theorem rsub_value (n : NI) (l : List Int) (who : Int) (y : Int) (w : World) (hq : Ints w n.q l) (hl : l.length * 8 ≤ 140737488355328) (hgn : goodN n l = true) (whon : Nat) (hwn : who = (whon : Int)) (hw4 : whon < 4) (hy : win y 1 9 = false) :
    Calls Tryz.prog 26 #[.agg n.cells, .int .i64 who, .int .i64 y] w (RefD w n 2) := by
  have hz := run_zeroN
  have hiN := infoN n
  have B0 : Blk ((w.alloc (.cells n.cells 50)).alloc (.cells zN.cells 50)) w.heap.size n.cells 50 := (Blk.new w _ _).alloc _
  have Bz : Blk ((w.alloc (.cells n.cells 50)).alloc (.cells zN.cells 50)) (w.heap.size + 1) zN.cells 50 := Blk.new1 w _ _ _
  have L0 : Below w.heap.size w ((w.alloc (.cells n.cells 50)).alloc (.cells zN.cells 50)) := by go_grown
  have hsz : ((w.alloc (.cells n.cells 50)).alloc (.cells zN.cells 50)).heap.size = w.heap.size + 2 := by simp
  have hval : ∀ W, Calls Tryz.prog 15 #[.int .i64 y, .int .i64 1, .int .i64 9] W fun e w' => e = .returned (.bool false) ∧ w' = W := fun W => by have := rwithin_any y 1 9 W; rwa [hy] at this
  clear hy
  have hwin : win who 0 3 = true := by simp [win]; omega
  obtain ⟨qa, qc, hqv⟩ := hq.len
  have HQ : Hid (n.q = .slice qa l.length qc) := hqv
  clear hqv
  have ho1 := ints_one hq
  go_enter Tryz.func26, Tryz.ntmps26
  go_upto_region 1 with fail
  generalize ((w.alloc (.cells n.cells 50)).alloc (.cells zN.cells 50)) = w0 at B0 Bz L0 hsz ⊢
  have hbeg := ropened_any n l who w0 (hq.keep L0) hl hgn hwin
  clear hgn hwin hwn
  clear hq hz
  go_wp2_with (first
    | (refine wpList_load_blk rfl 50 _ rfl w.heap.size rfl 50 n.cells _ B0 Tryz.underlying50 rfl hiN ?_)
    | (go_at_call 46; refine hbeg.mono ?_; rintro e w1 ⟨g, q', rfl, hg, T1, hown, hap, L1⟩; have Bz1 := Bz.below L1; have B1 := B0.below L1; clear hbeg B0; have c7 := B1.cell 281; rw [ncells_q, HQ.out] at c7)
    | (go_at_call 15; refine (hval _).mono ?_; rintro e w' ⟨rfl, hw'⟩; obtain rfl := hw'.symm)
    | (refine wpList_load_blk rfl 50 _ rfl w.heap.size rfl 50 n.cells _ B1 Tryz.underlying50 rfl hiN ?_)
    | (refine wpList_store_blk rfl 50 _ _ rfl (w.heap.size + 1) zN.cells n.cells 50 rfl rfl Bz1 (by rw [ncells_size, ncells_size]) hiN (one_cellN _ ho1) ?_; rintro w6 B6 K6))
  refine bodyPost_ret (results_three rfl _ _ (w.heap.size + 1) n.cells _ _ rfl rfl rfl (load_node B6)) rfl ?_
  exact ⟨rfl, K6.bel _ _ (by omega) (bel_trans L0 L1)⟩

set_option maxRecDepth 100000 in
set_option maxHeartbeats 4000000 in
theorem rsub_full (n : NI) (l : List Int) (who : Int) (y : Int) (w : World) (hq : Ints w n.q l) (hl : l.length * 8 ≤ 140737488355328) (hgn : goodN n l = true) (whon : Nat) (hwn : who = (whon : Int)) (hw4 : whon < 4) (hy : win y 1 9 = true) (h6 : l.length = 6) :
    Calls Tryz.prog 26 #[.agg n.cells, .int .i64 who, .int .i64 y] w (RefD w n 5) := by
  have hz := run_zeroN
  have hiN := infoN n
  have B0 : Blk ((w.alloc (.cells n.cells 50)).alloc (.cells zN.cells 50)) w.heap.size n.cells 50 := (Blk.new w _ _).alloc _
  have Bz : Blk ((w.alloc (.cells n.cells 50)).alloc (.cells zN.cells 50)) (w.heap.size + 1) zN.cells 50 := Blk.new1 w _ _ _
  have L0 : Below w.heap.size w ((w.alloc (.cells n.cells 50)).alloc (.cells zN.cells 50)) := by go_grown
  have hsz : ((w.alloc (.cells n.cells 50)).alloc (.cells zN.cells 50)).heap.size = w.heap.size + 2 := by simp
  have hval : ∀ W, Calls Tryz.prog 15 #[.int .i64 y, .int .i64 1, .int .i64 9] W fun e w' => e = .returned (.bool true) ∧ w' = W := fun W => by have := rwithin_any y 1 9 W; rwa [hy] at this
  clear hy
  have hwin : win who 0 3 = true := by simp [win]; omega
  obtain ⟨qa, qc, hqv⟩ := hq.len
  have HQ : Hid (n.q = .slice qa l.length qc) := hqv
  clear hqv
  have h6b : ((l.length : Int) == 6) = true := by rw [h6]; rfl
  clear h6
  have ho1 := ints_one hq
  go_enter Tryz.func26, Tryz.ntmps26
  go_upto_region 1 with fail
  generalize ((w.alloc (.cells n.cells 50)).alloc (.cells zN.cells 50)) = w0 at B0 Bz L0 hsz ⊢
  have hbeg := ropened_any n l who w0 (hq.keep L0) hl hgn hwin
  clear hgn hwin hwn
  clear hq hz
  go_wp2_with (first
    | (refine wpList_load_blk rfl 50 _ rfl w.heap.size rfl 50 n.cells _ B0 Tryz.underlying50 rfl hiN ?_)
    | (go_at_call 46; refine hbeg.mono ?_; rintro e w1 ⟨g, q', rfl, hg, T1, hown, hap, L1⟩; have Bz1 := Bz.below L1; have B1 := B0.below L1; clear hbeg B0; have c7 := B1.cell 281; rw [ncells_q, HQ.out] at c7)
    | (go_at_call 15; refine (hval _).mono ?_; rintro e w' ⟨rfl, hw'⟩; obtain rfl := hw'.symm)
    | (refine wpList_load_blk rfl 50 _ rfl w.heap.size rfl 50 n.cells _ B1 Tryz.underlying50 rfl hiN ?_)
    | (refine wpList_store_blk rfl 50 _ _ rfl (w.heap.size + 1) zN.cells n.cells 50 rfl rfl Bz1 (by rw [ncells_size, ncells_size]) hiN (one_cellN _ ho1) ?_; rintro w6 B6 K6))
  refine bodyPost_ret (results_three rfl _ _ (w.heap.size + 1) n.cells _ _ rfl rfl rfl (load_node B6)) rfl ?_
  exact ⟨rfl, K6.bel _ _ (by omega) (bel_trans L0 L1)⟩

set_option maxRecDepth 100000 in
set_option maxHeartbeats 8000000 in
theorem rsub_step (n : NI) (l : List Int) (who : Int) (y : Int) (w : World) (hq : Ints w n.q l) (hl : l.length * 8 ≤ 140737488355328) (hgn : goodN n l = true) (whon : Nat) (hwn : who = (whon : Int)) (hw4 : whon < 4) (hy : win y 1 9 = true) (h6 : l.length < 6) (hs : (n.nd l).step ≠ 0) (h4 : (n.nd l).height < 4) :
    Calls Tryz.prog 26 #[.agg n.cells, .int .i64 who, .int .i64 y] w (Done w ⟨(n.nd l).push y, []⟩) := by
  have hz := run_zeroN
  have hiN := infoN n
  have B0 : Blk ((w.alloc (.cells n.cells 50)).alloc (.cells zN.cells 50)) w.heap.size n.cells 50 := (Blk.new w _ _).alloc _
  have Bz : Blk ((w.alloc (.cells n.cells 50)).alloc (.cells zN.cells 50)) (w.heap.size + 1) zN.cells 50 := Blk.new1 w _ _ _
  have L0 : Below w.heap.size w ((w.alloc (.cells n.cells 50)).alloc (.cells zN.cells 50)) := by go_grown
  have hsz : ((w.alloc (.cells n.cells 50)).alloc (.cells zN.cells 50)).heap.size = w.heap.size + 2 := by simp
  have hval : ∀ W, Calls Tryz.prog 15 #[.int .i64 y, .int .i64 1, .int .i64 9] W fun e w' => e = .returned (.bool true) ∧ w' = W := fun W => by have := rwithin_any y 1 9 W; rwa [hy] at this
  clear hy
  have hwin : win who 0 3 = true := by simp [win]; omega
  obtain ⟨qa, qc, hqv⟩ := hq.len
  have HQ : Hid (n.q = .slice qa l.length qc) := hqv
  clear hqv
  have hsb : (((n.nd l).step : Int) == 0) = false := by simp; omega
  have hh4 : ((n.nd l).height : Int) < 4 := by omega
  have HG : Hid (goodN n l = true) := hgn
  have HW : Hid (who = (whon : Int)) := hwn
  have hgn1 := (gn_of hgn).1
  obtain ⟨i0, hi, hz0, hz1, hz2⟩ := info_int
  have hone : ∀ u : Value, u ∈ ([.int .i64 y] : List Value) → u.oneCell' = true := fun u hu => by obtain rfl := List.mem_singleton.1 hu; rfl
  have hlb : ((l.length : Int) == 6) = false := by simp; omega
  go_enter Tryz.func26, Tryz.ntmps26
  go_upto_region 1 with fail
  generalize ((w.alloc (.cells n.cells 50)).alloc (.cells zN.cells 50)) = w0 at B0 Bz L0 hsz ⊢
  have hbeg := ropened_any n l who w0 (hq.keep L0) hl hgn hwin
  clear hgn hwin hwn
  clear hq hz
  go_upto_region 9 with (first
    | (refine wpList_load_blk rfl 50 _ rfl w.heap.size rfl 50 n.cells _ B0 Tryz.underlying50 rfl hiN ?_)
    | (go_at_call 46; refine hbeg.mono ?_; rintro e w1 ⟨g, q', rfl, hg, T1, hown, hap, L1⟩; have Bz1 := Bz.below L1; have B1 := B0.below L1; clear hbeg B0; have c7s := B1.cell 281; rw [ncells_q, HQ.out] at c7s; obtain ⟨qa', qc', hq'⟩ := own_shape hown; subst hq'; rw [HW.out] at T1; have S1 := sr_opened HG.out T1 hown (by omega) hap; obtain ⟨c0, c1, c2, c3, c4, c5, c6, c7, c8⟩ := S1.blk.tnums; have hnews : ∀ (j : Nat) (u : Value), ([.int .i64 y] : List Value)[j]? = some u → (w1.alloc (.cells #[.int .i64 y] 3)).cell? ((⟨w1.heap.size, 0, none⟩ : Addr).add j) = some u := (fun j u hu => by rw [Addr.add_mid, Nat.zero_add, (Blk.new w1 #[.int .i64 y] 3).cell j]; simpa using hu); have La : Below w1.heap.size w1 (w1.alloc (.cells #[.int .i64 y] 3)) := (by go_grown); have Oa := own_below hown La; have Sa := S1.below La; have Bza := Bz1.below La)
    | (go_at_call 15; refine (hval _).mono ?_; rintro e w' ⟨rfl, hw'⟩; obtain rfl := hw'.symm)
    | (at_builtin; refine wpList_append_own _ rfl _ _ 48 rfl w0.heap.size 3 i0 (.int .i64 0) 1 8 Tryz.underlying48 hi hz0 hz1 hz2 rfl (by decide) (.slice qa' l.length qc') l.length (l.map (Value.int .i64)) rfl Oa ⟨w1.heap.size, 0, none⟩ 1 1 [.int .i64 y] rfl rfl hnews hone (by unfold maxLen; omega) (by omega) (by have := Sa.lt; omega) ?_; intro v2 w2 hown2 hgrow2 hnil2; obtain ⟨qa2, qc2, hq2⟩ := own_shape hown2; subst hq2; have B2 := blk_grown Sa.blk hgrow2 (fun h => hap h.symm); have Bz2 := blk_grown Bza hgrow2 (fun h => by have := (own_block Oa _ h.symm).1; omega); have d7 := B2.cell 281; have f7 := B2.free 281; rw [tcells_q] at d7; simp only [Nd.ni] at d7))
  have ap2 := ap_of hown2 B2 (by decide)
  have B3 := B2.setCell 281 (.slice qa2 (l.length + 1) qc2)
  rw [tcells_set (set_q _ _) (by omega)] at B3
  have S3 : Sr w0.heap.size (w2.setCell ⟨g, 281, none⟩ (.slice qa2 (l.length + 1) qc2)) g 98 whon ⟨(n.nd l).push y, []⟩ (.slice qa2 (l.length + 1) qc2) (.slice none 0 0) := by
    refine ⟨B3, ?_, World.ownsRow_nil _ _ _ _, S1.le, ap2⟩
    have h5 := own_grown2 hown2 (grown_setCell w2 g 281 (.slice qa2 (l.length + 1) qc2)) ap2
    show World.ownsRow _ _ _ _ _ (l ++ [y]).length ((l ++ [y]).map (Value.int .i64))
    rw [List.length_append, List.map_append]
    exact h5
  have Bz3 := Bz2.setCell_other ⟨g, 281, none⟩ (.slice qa2 (l.length + 1) qc2) (by show w.heap.size + 1 ≠ g; omega)
  have L3 : Below w.heap.size w (w2.setCell ⟨g, 281, none⟩ (.slice qa2 (l.length + 1) qc2)) := (bel_seq (bel_trans (bel_trans L0 L1) La) (below_own Oa hgrow2 (by omega) (by have := L1.size; have := La.size; omega))).setCell (by show w.heap.size ≤ g; omega) _
  clear B2 B3 Bz2 d7 f7 hgrow2 hown2 Oa Sa Bza La hnews c0 c1 c2 c3 c4 c5 c6 c7 c8 T1 S1 c7s B1 ap2 hap
  generalize w2.setCell ⟨g, 281, none⟩ (.slice qa2 (l.length + 1) qc2) = w3 at S3 Bz3 L3 ⊢
  obtain ⟨c0, c1, c2, c3, c4, c5, c6, c7, c8⟩ := S3.blk.tnums
  have c0' : w3.cell? ⟨g, 0, none⟩ = some (.int .i64 ((n.nd l).height : Int)) := c0
  have c2' : w3.cell? ⟨g, 2, none⟩ = some (.int .i64 ((n.nd l).step : Int)) := c2
  clear c2 c0
  go_upto_region 12 with fail
  have B4 := S3.blk
  have hi5 := infoN (((n.nd l).push y).ni (.slice qa2 (l.length + 1) qc2))
  have hone5 := one_cellN (((n.nd l).push y).ni (.slice qa2 (l.length + 1) qc2)) (own_one S3.own)
  have hs3 := S3.lt
  refine held_region (fun W => Blk W g (tcells (((n.nd l).push y).ni (.slice qa2 (l.length + 1) qc2)) whon (.slice none 0 0)) 98) [] [(0, 0), (1, 0), (2, 0), (3, 1), (4, 0), (5, 0), (6, 0), (7, 1), (8, 2), (9, 0), (10, 0)] (by kernel_rfl) (by kernel_rfl) (by kernel_rfl) rfl (fun _ _ d _ _ h => by cases d <;> exact h) B4.drew ?_
  repeat (first
    | (refine ord_load rfl (by rfl) 50 _ rfl g 0 rfl ((((n.nd l).push y).ni (.slice qa2 (l.length + 1) qc2))).cells _ (fun W H => node_range H) Tryz.underlying50 rfl hi5 ?_; simp only [Act.put, List.setIfInBounds_toArray, List.set_cons_zero, List.set_cons_succ])
    | (refine ord_run0_ex rfl (by rfl) ?_
       apply Exists.intro
       refine ⟨fun w0 => ?_, ?_⟩
       · go_simp; rfl
       simp only [Act.put, List.setIfInBounds_toArray, List.set_cons_zero, List.set_cons_succ])
    | (refine ord_run1_ex rfl (by rfl) ?_
       apply Exists.intro
       refine ⟨fun w0 hC => ?_, ?_⟩
       · have e0 := hC.cell 283; rw [tcells_sd] at e0; clear hC; go_simp; rfl
       simp only [Act.put, List.setIfInBounds_toArray, List.set_cons_zero, List.set_cons_succ]))
  refine ord_do rfl ?_
  refine wpList_store_blk rfl 50 _ _ rfl (w.heap.size + 1) zN.cells ((((n.nd l).push y).ni (.slice qa2 (l.length + 1) qc2))).cells 50 rfl rfl Bz3.drew (by rw [ncells_size, ncells_size]) hi5 hone5 ?_
  rintro w6 B6 K6
  refine ⟨fun _ => K6.blk _ _ _ (by omega) B4.drew, ?_⟩
  simp only [Act.put]
  repeat (first
    | (refine ord_run0_ex rfl (by rfl) ?_
       apply Exists.intro
       refine ⟨fun w0 => ?_, ?_⟩
       · go_simp; rfl
       simp only [Act.put, List.setIfInBounds_toArray, List.set_cons_zero, List.set_cons_succ]))
  show wpOrd _ _ _ _ _ [] _ _ _
  unfold wpOrd
  go_wp2
  refine bodyPost_ret (results_three rfl _ _ (w.heap.size + 1) ((((n.nd l).push y).ni (.slice qa2 (l.length + 1) qc2))).cells (.slice none 0 0) (.int .i64 0) rfl rfl rfl (load_node B6)) rfl ?_
  exact ⟨(.slice qa2 (l.length + 1) qc2), .slice none 0 0, rfl, own_mono (own_kept (W := w3.drew) S3.own K6 (by omega)) (by omega), World.ownsRow_nil _ _ _ _, K6.bel _ _ (by omega) (below_drew' L3)⟩

set_option maxRecDepth 100000 in
set_option maxHeartbeats 8000000 in
theorem rsub_end (n : NI) (l : List Int) (who : Int) (y : Int) (w : World) (hq : Ints w n.q l) (hl : l.length * 8 ≤ 140737488355328) (hgn : goodN n l = true) (whon : Nat) (hwn : who = (whon : Int)) (hw4 : whon < 4) (hy : win y 1 9 = true) (h6 : l.length < 6) (h4 : (n.nd l).height = 4) :
    Calls Tryz.prog 26 #[.agg n.cells, .int .i64 who, .int .i64 y] w (Done w ⟨(n.nd l).push y, []⟩) := by
  have hz := run_zeroN
  have hiN := infoN n
  have B0 : Blk ((w.alloc (.cells n.cells 50)).alloc (.cells zN.cells 50)) w.heap.size n.cells 50 := (Blk.new w _ _).alloc _
  have Bz : Blk ((w.alloc (.cells n.cells 50)).alloc (.cells zN.cells 50)) (w.heap.size + 1) zN.cells 50 := Blk.new1 w _ _ _
  have L0 : Below w.heap.size w ((w.alloc (.cells n.cells 50)).alloc (.cells zN.cells 50)) := by go_grown
  have hsz : ((w.alloc (.cells n.cells 50)).alloc (.cells zN.cells 50)).heap.size = w.heap.size + 2 := by simp
  have hval : ∀ W, Calls Tryz.prog 15 #[.int .i64 y, .int .i64 1, .int .i64 9] W fun e w' => e = .returned (.bool true) ∧ w' = W := fun W => by have := rwithin_any y 1 9 W; rwa [hy] at this
  clear hy
  have hwin : win who 0 3 = true := by simp [win]; omega
  obtain ⟨qa, qc, hqv⟩ := hq.len
  have HQ : Hid (n.q = .slice qa l.length qc) := hqv
  clear hqv
  have hh4 : ¬ ((n.nd l).height : Int) < 4 := by omega
  clear h4
  have HG : Hid (goodN n l = true) := hgn
  have HW : Hid (who = (whon : Int)) := hwn
  have hgn1 := (gn_of hgn).1
  obtain ⟨i0, hi, hz0, hz1, hz2⟩ := info_int
  have hone : ∀ u : Value, u ∈ ([.int .i64 y] : List Value) → u.oneCell' = true := fun u hu => by obtain rfl := List.mem_singleton.1 hu; rfl
  have hlb : ((l.length : Int) == 6) = false := by simp; omega
  go_enter Tryz.func26, Tryz.ntmps26
  go_upto_region 1 with fail
  generalize ((w.alloc (.cells n.cells 50)).alloc (.cells zN.cells 50)) = w0 at B0 Bz L0 hsz ⊢
  have hbeg := ropened_any n l who w0 (hq.keep L0) hl hgn hwin
  clear hgn hwin hwn
  clear hq hz
  go_upto_region 9 with (first
    | (refine wpList_load_blk rfl 50 _ rfl w.heap.size rfl 50 n.cells _ B0 Tryz.underlying50 rfl hiN ?_)
    | (go_at_call 46; refine hbeg.mono ?_; rintro e w1 ⟨g, q', rfl, hg, T1, hown, hap, L1⟩; have Bz1 := Bz.below L1; have B1 := B0.below L1; clear hbeg B0; have c7s := B1.cell 281; rw [ncells_q, HQ.out] at c7s; obtain ⟨qa', qc', hq'⟩ := own_shape hown; subst hq'; rw [HW.out] at T1; have S1 := sr_opened HG.out T1 hown (by omega) hap; obtain ⟨c0, c1, c2, c3, c4, c5, c6, c7, c8⟩ := S1.blk.tnums; have hnews : ∀ (j : Nat) (u : Value), ([.int .i64 y] : List Value)[j]? = some u → (w1.alloc (.cells #[.int .i64 y] 3)).cell? ((⟨w1.heap.size, 0, none⟩ : Addr).add j) = some u := (fun j u hu => by rw [Addr.add_mid, Nat.zero_add, (Blk.new w1 #[.int .i64 y] 3).cell j]; simpa using hu); have La : Below w1.heap.size w1 (w1.alloc (.cells #[.int .i64 y] 3)) := (by go_grown); have Oa := own_below hown La; have Sa := S1.below La; have Bza := Bz1.below La)
    | (go_at_call 15; refine (hval _).mono ?_; rintro e w' ⟨rfl, hw'⟩; obtain rfl := hw'.symm)
    | (at_builtin; refine wpList_append_own _ rfl _ _ 48 rfl w0.heap.size 3 i0 (.int .i64 0) 1 8 Tryz.underlying48 hi hz0 hz1 hz2 rfl (by decide) (.slice qa' l.length qc') l.length (l.map (Value.int .i64)) rfl Oa ⟨w1.heap.size, 0, none⟩ 1 1 [.int .i64 y] rfl rfl hnews hone (by unfold maxLen; omega) (by omega) (by have := Sa.lt; omega) ?_; intro v2 w2 hown2 hgrow2 hnil2; obtain ⟨qa2, qc2, hq2⟩ := own_shape hown2; subst hq2; have B2 := blk_grown Sa.blk hgrow2 (fun h => hap h.symm); have Bz2 := blk_grown Bza hgrow2 (fun h => by have := (own_block Oa _ h.symm).1; omega); have d7 := B2.cell 281; have f7 := B2.free 281; rw [tcells_q] at d7; simp only [Nd.ni] at d7))
  have ap2 := ap_of hown2 B2 (by decide)
  have B3 := B2.setCell 281 (.slice qa2 (l.length + 1) qc2)
  rw [tcells_set (set_q _ _) (by omega)] at B3
  have S3 : Sr w0.heap.size (w2.setCell ⟨g, 281, none⟩ (.slice qa2 (l.length + 1) qc2)) g 98 whon ⟨(n.nd l).push y, []⟩ (.slice qa2 (l.length + 1) qc2) (.slice none 0 0) := by
    refine ⟨B3, ?_, World.ownsRow_nil _ _ _ _, S1.le, ap2⟩
    have h5 := own_grown2 hown2 (grown_setCell w2 g 281 (.slice qa2 (l.length + 1) qc2)) ap2
    show World.ownsRow _ _ _ _ _ (l ++ [y]).length ((l ++ [y]).map (Value.int .i64))
    rw [List.length_append, List.map_append]
    exact h5
  have Bz3 := Bz2.setCell_other ⟨g, 281, none⟩ (.slice qa2 (l.length + 1) qc2) (by show w.heap.size + 1 ≠ g; omega)
  have L3 : Below w.heap.size w (w2.setCell ⟨g, 281, none⟩ (.slice qa2 (l.length + 1) qc2)) := (bel_seq (bel_trans (bel_trans L0 L1) La) (below_own Oa hgrow2 (by omega) (by have := L1.size; have := La.size; omega))).setCell (by show w.heap.size ≤ g; omega) _
  clear B2 B3 Bz2 d7 f7 hgrow2 hown2 Oa Sa Bza La hnews c0 c1 c2 c3 c4 c5 c6 c7 c8 T1 S1 c7s B1 ap2 hap
  generalize w2.setCell ⟨g, 281, none⟩ (.slice qa2 (l.length + 1) qc2) = w3 at S3 Bz3 L3 ⊢
  obtain ⟨c0, c1, c2, c3, c4, c5, c6, c7, c8⟩ := S3.blk.tnums
  have c0' : w3.cell? ⟨g, 0, none⟩ = some (.int .i64 ((n.nd l).height : Int)) := c0
  have c2' : w3.cell? ⟨g, 2, none⟩ = some (.int .i64 ((n.nd l).step : Int)) := c2
  clear c2 c0
  go_upto_region 12 with fail
  have B4 := S3.blk
  have hi5 := infoN (((n.nd l).push y).ni (.slice qa2 (l.length + 1) qc2))
  have hone5 := one_cellN (((n.nd l).push y).ni (.slice qa2 (l.length + 1) qc2)) (own_one S3.own)
  have hs3 := S3.lt
  refine held_region (fun W => Blk W g (tcells (((n.nd l).push y).ni (.slice qa2 (l.length + 1) qc2)) whon (.slice none 0 0)) 98) [] [(0, 0), (1, 0), (2, 0), (3, 1), (4, 0), (5, 0), (6, 0), (7, 1), (8, 2), (9, 0), (10, 0)] (by kernel_rfl) (by kernel_rfl) (by kernel_rfl) rfl (fun _ _ d _ _ h => by cases d <;> exact h) B4.drew ?_
  repeat (first
    | (refine ord_load rfl (by rfl) 50 _ rfl g 0 rfl ((((n.nd l).push y).ni (.slice qa2 (l.length + 1) qc2))).cells _ (fun W H => node_range H) Tryz.underlying50 rfl hi5 ?_; simp only [Act.put, List.setIfInBounds_toArray, List.set_cons_zero, List.set_cons_succ])
    | (refine ord_run0_ex rfl (by rfl) ?_
       apply Exists.intro
       refine ⟨fun w0 => ?_, ?_⟩
       · go_simp; rfl
       simp only [Act.put, List.setIfInBounds_toArray, List.set_cons_zero, List.set_cons_succ])
    | (refine ord_run1_ex rfl (by rfl) ?_
       apply Exists.intro
       refine ⟨fun w0 hC => ?_, ?_⟩
       · have e0 := hC.cell 283; rw [tcells_sd] at e0; clear hC; go_simp; rfl
       simp only [Act.put, List.setIfInBounds_toArray, List.set_cons_zero, List.set_cons_succ]))
  refine ord_do rfl ?_
  refine wpList_store_blk rfl 50 _ _ rfl (w.heap.size + 1) zN.cells ((((n.nd l).push y).ni (.slice qa2 (l.length + 1) qc2))).cells 50 rfl rfl Bz3.drew (by rw [ncells_size, ncells_size]) hi5 hone5 ?_
  rintro w6 B6 K6
  refine ⟨fun _ => K6.blk _ _ _ (by omega) B4.drew, ?_⟩
  simp only [Act.put]
  repeat (first
    | (refine ord_run0_ex rfl (by rfl) ?_
       apply Exists.intro
       refine ⟨fun w0 => ?_, ?_⟩
       · go_simp; rfl
       simp only [Act.put, List.setIfInBounds_toArray, List.set_cons_zero, List.set_cons_succ]))
  show wpOrd _ _ _ _ _ [] _ _ _
  unfold wpOrd
  go_wp2
  refine bodyPost_ret (results_three rfl _ _ (w.heap.size + 1) ((((n.nd l).push y).ni (.slice qa2 (l.length + 1) qc2))).cells (.slice none 0 0) (.int .i64 0) rfl rfl rfl (load_node B6)) rfl ?_
  exact ⟨(.slice qa2 (l.length + 1) qc2), .slice none 0 0, rfl, own_mono (own_kept (W := w3.drew) S3.own K6 (by omega)) (by omega), World.ownsRow_nil _ _ _ _, K6.bel _ _ (by omega) (below_drew' L3)⟩

set_option maxRecDepth 100000 in
set_option maxHeartbeats 8000000 in
theorem rsub_good (RA : RAll) (n : NI) (l : List Int) (who : Int) (y : Int) (w : World) (hq : Ints w n.q l) (hl : l.length * 8 ≤ 140737488355328) (hgn : goodN n l = true) (whon : Nat) (hwn : who = (whon : Int)) (hw4 : whon < 4) (hy : win y 1 9 = true) (hyy : win y 1 9 = true) (h6 : l.length < 6) (hs : (n.nd l).step = 0) (h4 : (n.nd l).height < 4) :
    Calls Tryz.prog 26 #[.agg n.cells, .int .i64 who, .int .i64 y] w (Done w (follow whon (enter whon ⟨(n.nd l).push y, []⟩ (n.nd l).round))) := by
  have hz := run_zeroN
  have hiN := infoN n
  have B0 : Blk ((w.alloc (.cells n.cells 50)).alloc (.cells zN.cells 50)) w.heap.size n.cells 50 := (Blk.new w _ _).alloc _
  have Bz : Blk ((w.alloc (.cells n.cells 50)).alloc (.cells zN.cells 50)) (w.heap.size + 1) zN.cells 50 := Blk.new1 w _ _ _
  have L0 : Below w.heap.size w ((w.alloc (.cells n.cells 50)).alloc (.cells zN.cells 50)) := by go_grown
  have hsz : ((w.alloc (.cells n.cells 50)).alloc (.cells zN.cells 50)).heap.size = w.heap.size + 2 := by simp
  have hval : ∀ W, Calls Tryz.prog 15 #[.int .i64 y, .int .i64 1, .int .i64 9] W fun e w' => e = .returned (.bool true) ∧ w' = W := fun W => by have := rwithin_any y 1 9 W; rwa [hy] at this
  clear hy
  have hwin : win who 0 3 = true := by simp [win]; omega
  obtain ⟨qa, qc, hqv⟩ := hq.len
  have HQ : Hid (n.q = .slice qa l.length qc) := hqv
  clear hqv
  have hh4 : ((n.nd l).height : Int) < 4 := by omega
  have HY : Hid (1 ≤ y ∧ y ≤ 9) := win_iff.1 hyy
  clear hyy
  obtain ⟨a7, ha7⟩ : ∃ a7, Hid ((follow whon (enter whon ⟨(n.nd l).push y, []⟩ (n.nd l).round)) = a7) := ⟨_, rfl⟩
  rw [ha7.out]
  have HG : Hid (goodN n l = true) := hgn
  have HW : Hid (who = (whon : Int)) := hwn
  have hgn1 := (gn_of hgn).1
  obtain ⟨i0, hi, hz0, hz1, hz2⟩ := info_int
  have hone : ∀ u : Value, u ∈ ([.int .i64 y] : List Value) → u.oneCell' = true := fun u hu => by obtain rfl := List.mem_singleton.1 hu; rfl
  have hlb : ((l.length : Int) == 6) = false := by simp; omega
  go_enter Tryz.func26, Tryz.ntmps26
  go_upto_region 1 with fail
  generalize ((w.alloc (.cells n.cells 50)).alloc (.cells zN.cells 50)) = w0 at B0 Bz L0 hsz ⊢
  have hbeg := ropened_any n l who w0 (hq.keep L0) hl hgn hwin
  clear hgn hwin hwn
  clear hq hz
  go_upto_region 9 with (first
    | (refine wpList_load_blk rfl 50 _ rfl w.heap.size rfl 50 n.cells _ B0 Tryz.underlying50 rfl hiN ?_)
    | (go_at_call 46; refine hbeg.mono ?_; rintro e w1 ⟨g, q', rfl, hg, T1, hown, hap, L1⟩; have Bz1 := Bz.below L1; have B1 := B0.below L1; clear hbeg B0; have c7s := B1.cell 281; rw [ncells_q, HQ.out] at c7s; obtain ⟨qa', qc', hq'⟩ := own_shape hown; subst hq'; rw [HW.out] at T1; have S1 := sr_opened HG.out T1 hown (by omega) hap; obtain ⟨c0, c1, c2, c3, c4, c5, c6, c7, c8⟩ := S1.blk.tnums; have hnews : ∀ (j : Nat) (u : Value), ([.int .i64 y] : List Value)[j]? = some u → (w1.alloc (.cells #[.int .i64 y] 3)).cell? ((⟨w1.heap.size, 0, none⟩ : Addr).add j) = some u := (fun j u hu => by rw [Addr.add_mid, Nat.zero_add, (Blk.new w1 #[.int .i64 y] 3).cell j]; simpa using hu); have La : Below w1.heap.size w1 (w1.alloc (.cells #[.int .i64 y] 3)) := (by go_grown); have Oa := own_below hown La; have Sa := S1.below La; have Bza := Bz1.below La)
    | (go_at_call 15; refine (hval _).mono ?_; rintro e w' ⟨rfl, hw'⟩; obtain rfl := hw'.symm)
    | (at_builtin; refine wpList_append_own _ rfl _ _ 48 rfl w0.heap.size 3 i0 (.int .i64 0) 1 8 Tryz.underlying48 hi hz0 hz1 hz2 rfl (by decide) (.slice qa' l.length qc') l.length (l.map (Value.int .i64)) rfl Oa ⟨w1.heap.size, 0, none⟩ 1 1 [.int .i64 y] rfl rfl hnews hone (by unfold maxLen; omega) (by omega) (by have := Sa.lt; omega) ?_; intro v2 w2 hown2 hgrow2 hnil2; obtain ⟨qa2, qc2, hq2⟩ := own_shape hown2; subst hq2; have B2 := blk_grown Sa.blk hgrow2 (fun h => hap h.symm); have Bz2 := blk_grown Bza hgrow2 (fun h => by have := (own_block Oa _ h.symm).1; omega); have d7 := B2.cell 281; have f7 := B2.free 281; rw [tcells_q] at d7; simp only [Nd.ni] at d7))
  have ap2 := ap_of hown2 B2 (by decide)
  have B3 := B2.setCell 281 (.slice qa2 (l.length + 1) qc2)
  rw [tcells_set (set_q _ _) (by omega)] at B3
  have S3 : Sr w0.heap.size (w2.setCell ⟨g, 281, none⟩ (.slice qa2 (l.length + 1) qc2)) g 98 whon ⟨(n.nd l).push y, []⟩ (.slice qa2 (l.length + 1) qc2) (.slice none 0 0) := by
    refine ⟨B3, ?_, World.ownsRow_nil _ _ _ _, S1.le, ap2⟩
    have h5 := own_grown2 hown2 (grown_setCell w2 g 281 (.slice qa2 (l.length + 1) qc2)) ap2
    show World.ownsRow _ _ _ _ _ (l ++ [y]).length ((l ++ [y]).map (Value.int .i64))
    rw [List.length_append, List.map_append]
    exact h5
  have Bz3 := Bz2.setCell_other ⟨g, 281, none⟩ (.slice qa2 (l.length + 1) qc2) (by show w.heap.size + 1 ≠ g; omega)
  have L3 : Below w.heap.size w (w2.setCell ⟨g, 281, none⟩ (.slice qa2 (l.length + 1) qc2)) := (bel_seq (bel_trans (bel_trans L0 L1) La) (below_own Oa hgrow2 (by omega) (by have := L1.size; have := La.size; omega))).setCell (by show w.heap.size ≤ g; omega) _
  clear B2 B3 Bz2 d7 f7 hgrow2 hown2 Oa Sa Bza La hnews c0 c1 c2 c3 c4 c5 c6 c7 c8 T1 S1 c7s B1 ap2 hap
  generalize w2.setCell ⟨g, 281, none⟩ (.slice qa2 (l.length + 1) qc2) = w3 at S3 Bz3 L3 ⊢
  obtain ⟨c0, c1, c2, c3, c4, c5, c6, c7, c8⟩ := S3.blk.tnums
  have c0' : w3.cell? ⟨g, 0, none⟩ = some (.int .i64 ((n.nd l).height : Int)) := c0
  have c2' : w3.cell? ⟨g, 2, none⟩ = some (.int .i64 0) := c2.trans (by show some (Value.int .i64 ((n.nd l).step : Int)) = _; rw [hs]; rfl)
  have c1' : w3.cell? ⟨g, 1, none⟩ = some (.int .i64 ((n.nd l).round : Int)) := c1
  clear c2 c0 c1 hs
  have hP : GN ((n.nd l).push y) := hgn1.push HY.out h6
  have hcon := renter_any S3 (Nat.le_of_lt h4) (n.nd l).round hgn1.round (by simp) hP.vi
  go_upto_region 12 with (first
    | (go_at_call 47; refine hcon.mono ?_; rintro e w4 ⟨rfl, sd4, S4, L4⟩; have hall := RA _ w4 g whon _ _ sd4 S4 (FI.enter0 hP); rw [ha7.out] at hall; clear hcon)
    | (go_at_call 48; refine hall.mono ?_; rintro e w7 ⟨rfl, q7, sd7, S7, L7⟩; obtain ⟨sa, sc, hsd⟩ := own_shape S7.said; subst hsd; clear hall))
  have Bz7 : Blk w7 (w.heap.size + 1) zN.cells 50 := by unfold Blk; rw [L7.block _ (by omega), L4.block _ (by omega)]; exact Bz3
  have B4 := S7.blk
  have hi5 := infoN (a7.n.ni q7)
  have hone5 := one_cellN (a7.n.ni q7) (own_one S7.own)
  have hs7 := S7.lt
  refine held_region (fun W => Blk W g (tcells (a7.n.ni q7) whon (.slice sa a7.words.length sc)) 98) [] [(0, 0), (1, 0), (2, 0), (3, 1), (4, 0), (5, 0), (6, 0), (7, 1), (8, 2), (9, 0), (10, 0)] (by kernel_rfl) (by kernel_rfl) (by kernel_rfl) rfl (fun _ _ d _ _ h => by cases d <;> exact h) B4.drew ?_
  repeat (first
    | (refine ord_load rfl (by rfl) 50 _ rfl g 0 rfl ((a7.n.ni q7)).cells _ (fun W H => node_range H) Tryz.underlying50 rfl hi5 ?_; simp only [Act.put, List.setIfInBounds_toArray, List.set_cons_zero, List.set_cons_succ])
    | (refine ord_run0_ex rfl (by rfl) ?_
       apply Exists.intro
       refine ⟨fun w0 => ?_, ?_⟩
       · go_simp; rfl
       simp only [Act.put, List.setIfInBounds_toArray, List.set_cons_zero, List.set_cons_succ])
    | (refine ord_run1_ex rfl (by rfl) ?_
       apply Exists.intro
       refine ⟨fun w0 hC => ?_, ?_⟩
       · have e0 := hC.cell 283; rw [tcells_sd] at e0; clear hC; go_simp; rfl
       simp only [Act.put, List.setIfInBounds_toArray, List.set_cons_zero, List.set_cons_succ]))
  refine ord_do rfl ?_
  refine wpList_store_blk rfl 50 _ _ rfl (w.heap.size + 1) zN.cells ((a7.n.ni q7)).cells 50 rfl rfl Bz7.drew (by rw [ncells_size, ncells_size]) hi5 hone5 ?_
  rintro w6 B6 K6
  refine ⟨fun _ => K6.blk _ _ _ (by omega) B4.drew, ?_⟩
  simp only [Act.put]
  repeat (first
    | (refine ord_run0_ex rfl (by rfl) ?_
       apply Exists.intro
       refine ⟨fun w0 => ?_, ?_⟩
       · go_simp; rfl
       simp only [Act.put, List.setIfInBounds_toArray, List.set_cons_zero, List.set_cons_succ]))
  show wpOrd _ _ _ _ _ [] _ _ _
  unfold wpOrd
  go_wp2
  refine bodyPost_ret (results_three rfl _ _ (w.heap.size + 1) ((a7.n.ni q7)).cells (.slice sa a7.words.length sc) (.int .i64 0) rfl rfl rfl (load_node B6)) rfl ?_
  exact ⟨q7, .slice sa a7.words.length sc, rfl, own_mono (own_kept (W := w7.drew) S7.own K6 (by omega)) (by omega), own_mono (own_kept (W := w7.drew) S7.said K6 (by omega)) (by omega), K6.bel _ _ (by omega) (below_drew' (bel_seq (bel_seq L3 (L4.mono (by omega))) (L7.mono (by omega))))⟩
end Go.Proofs.YtmmgaonlmpajbacGreat
