/-
  The document's node: TimeOver.
-/
import Derived.Test.YtmmgaonlmpajbacGreatDoc7
import Derived.Test.YtmmgaonlmpajbacGreatDoc3
import Derived.Test.YtmmgaonlmpajbacGreatTurnE
namespace Go.Proofs.YtmmgaonlmpajbacGreat
open Go.RowKit

set_option maxRecDepth 100000 in
set_option maxHeartbeats 4000000 in
theorem rtime_begin (n : NI) (l : List Int) (who : Int) (w : World) (hq : Ints w n.q l) (hl : l.length * 8 ≤ 140737488355328) (code : Int) (hcode : Hid (code = if goodN n l then (if win who 0 3 then 0 else 2) else 1)) (hne : code ≠ 0) :
    Calls Tryz.prog 27 #[.agg n.cells, .int .i64 who] w (RefD w n code) := by
  have hz := run_zeroN
  have hiN := infoN n
  have B0 : Blk ((w.alloc (.cells n.cells 50)).alloc (.cells zN.cells 50)) w.heap.size n.cells 50 := (Blk.new w _ _).alloc _
  have Bz : Blk ((w.alloc (.cells n.cells 50)).alloc (.cells zN.cells 50)) (w.heap.size + 1) zN.cells 50 := Blk.new1 w _ _ _
  have L0 : Below w.heap.size w ((w.alloc (.cells n.cells 50)).alloc (.cells zN.cells 50)) := by go_grown
  have hsz : ((w.alloc (.cells n.cells 50)).alloc (.cells zN.cells 50)).heap.size = w.heap.size + 2 := by simp
  have hc1 : (code == 0) = false := by simpa using hne
  have hc2 : (code != 0) = true := by simpa using hne
  have ho1 := ints_one hq
  go_enter Tryz.func27, Tryz.ntmps27
  go_upto_region 1 with fail
  generalize ((w.alloc (.cells n.cells 50)).alloc (.cells zN.cells 50)) = w0 at B0 Bz L0 hsz ⊢
  have hbeg := ropened_bad n l who w0 (hq.keep L0) hl code hcode hne
  clear hq hz
  go_wp2_with (first
    | (refine wpList_load_blk rfl 50 _ rfl w.heap.size rfl 50 n.cells _ B0 Tryz.underlying50 rfl hiN ?_)
    | (go_at_call 46; refine hbeg.mono ?_; rintro e w1 ⟨rfl, L1⟩; have Bz1 := Bz.below L1; have B1 := B0.below L1; clear hbeg B0)
    | (refine wpList_load_blk rfl 50 _ rfl w.heap.size rfl 50 n.cells _ B1 Tryz.underlying50 rfl hiN ?_)
    | (refine wpList_store_blk rfl 50 _ _ rfl (w.heap.size + 1) zN.cells n.cells 50 rfl rfl Bz1 (by rw [ncells_size, ncells_size]) hiN (one_cellN _ ho1) ?_; rintro w6 B6 K6))
  refine bodyPost_ret (results_three rfl _ _ (w.heap.size + 1) n.cells _ _ rfl rfl rfl (load_node B6)) rfl ?_
  exact ⟨rfl, K6.bel _ _ (by omega) (bel_trans L0 L1)⟩

set_option maxRecDepth 100000 in
set_option maxHeartbeats 4000000 in
theorem rtime_end (n : NI) (l : List Int) (who : Int) (w : World) (hq : Ints w n.q l) (hl : l.length * 8 ≤ 140737488355328) (hgn : goodN n l = true) (whon : Nat) (hwn : who = (whon : Int)) (hw4 : whon < 4) (h4 : (n.nd l).height = 4) :
    Calls Tryz.prog 27 #[.agg n.cells, .int .i64 who] w (RefD w n 0) := by
  have hz := run_zeroN
  have hiN := infoN n
  have B0 : Blk ((w.alloc (.cells n.cells 50)).alloc (.cells zN.cells 50)) w.heap.size n.cells 50 := (Blk.new w _ _).alloc _
  have Bz : Blk ((w.alloc (.cells n.cells 50)).alloc (.cells zN.cells 50)) (w.heap.size + 1) zN.cells 50 := Blk.new1 w _ _ _
  have L0 : Below w.heap.size w ((w.alloc (.cells n.cells 50)).alloc (.cells zN.cells 50)) := by go_grown
  have hsz : ((w.alloc (.cells n.cells 50)).alloc (.cells zN.cells 50)).heap.size = w.heap.size + 2 := by simp
  have hwin : win who 0 3 = true := by simp [win]; omega
  have HG : Hid (goodN n l = true) := hgn
  have HW : Hid (who = (whon : Int)) := hwn
  have hh4 : (((n.nd l).height : Int) == 4) = true := by simp; omega
  clear h4
  have ho1 := ints_one hq
  go_enter Tryz.func27, Tryz.ntmps27
  go_upto_region 1 with fail
  generalize ((w.alloc (.cells n.cells 50)).alloc (.cells zN.cells 50)) = w0 at B0 Bz L0 hsz ⊢
  have hbeg := ropened_any n l who w0 (hq.keep L0) hl hgn hwin
  clear hgn hwin hwn
  clear hq hz
  go_wp2_with (first
    | (refine wpList_load_blk rfl 50 _ rfl w.heap.size rfl 50 n.cells _ B0 Tryz.underlying50 rfl hiN ?_)
    | (go_at_call 46; refine hbeg.mono ?_; rintro e w1 ⟨g, q', rfl, hg, T1, hown, hap, L1⟩; have Bz1 := Bz.below L1; have B1 := B0.below L1; clear hbeg B0; rw [HW.out] at T1; have S1 := sr_opened HG.out T1 hown (by omega) hap; obtain ⟨c0, c1, c2, c3, c4, c5, c6, c7, c8⟩ := S1.blk.tnums)
    | (refine wpList_load_blk rfl 50 _ rfl w.heap.size rfl 50 n.cells _ B1 Tryz.underlying50 rfl hiN ?_)
    | (refine wpList_store_blk rfl 50 _ _ rfl (w.heap.size + 1) zN.cells n.cells 50 rfl rfl Bz1 (by rw [ncells_size, ncells_size]) hiN (one_cellN _ ho1) ?_; rintro w6 B6 K6))
  refine bodyPost_ret (results_three rfl _ _ (w.heap.size + 1) n.cells _ _ rfl rfl rfl (load_node B6)) rfl ?_
  exact ⟨rfl, K6.bel _ _ (by omega) (bel_trans L0 L1)⟩

theorem gave_0 {who : Nat} {a : At} (h : a.n.step = 0) : gaveUp who a = tell who ⟨{ a.n with step := 1 }, a.words⟩ 2 0 0 := by unfold gaveUp; rw [if_pos h]
theorem gave_1y {who : Nat} {a : At} (h : a.n.step = 1) (h3 : 3 ≤ allV ((a.n.heard a.n.height).wi a.n.round)) : gaveUp who a = tell who ⟨{ a.n with step := 2 }, a.words⟩ 3 0 0 := by unfold gaveUp; rw [if_neg (by omega), if_pos h, if_pos h3]
theorem gave_1n {who : Nat} {a : At} (h : a.n.step = 1) (h3 : ¬ 3 ≤ allV ((a.n.heard a.n.height).wi a.n.round)) : gaveUp who a = a := by unfold gaveUp; rw [if_neg (by omega), if_pos h, if_neg h3]
theorem gave_2y {who : Nat} {a : At} (h : a.n.step = 2) (h3 : 3 ≤ allV ((a.n.heard a.n.height).pr a.n.round)) (h5 : a.n.round < 5) : gaveUp who a = enter who a (a.n.round + 1) := by unfold gaveUp; rw [if_neg (by omega), if_neg (by omega), if_pos ⟨h3, by omega⟩]
theorem gave_2n {who : Nat} {a : At} (h : a.n.step = 2) (h3 : ¬ (3 ≤ allV ((a.n.heard a.n.height).pr a.n.round) ∧ a.n.round < 5)) : gaveUp who a = a := by unfold gaveUp; rw [if_neg (by omega), if_neg (by omega), if_neg (fun h => h3 ⟨h.1, by omega⟩)]

set_option maxRecDepth 100000 in
set_option maxHeartbeats 8000000 in
theorem rtime_0 (RA : RAll) (n : NI) (l : List Int) (who : Int) (w : World) (hq : Ints w n.q l) (hl : l.length * 8 ≤ 140737488355328) (hgn : goodN n l = true) (whon : Nat) (hwn : who = (whon : Int)) (hw4 : whon < 4) (h4 : (n.nd l).height < 4) (hs : (n.nd l).step = 0) :
    Calls Tryz.prog 27 #[.agg n.cells, .int .i64 who] w (Done w (follow whon (gaveUp whon ⟨(n.nd l), []⟩))) := by
  have hg0 := (gn_of hgn).1
  have hfi := FI.gave (who := whon) hg0 h4
  have heq : gaveUp whon ⟨(n.nd l), []⟩ = (tell whon ⟨{ (n.nd l) with step := 1 }, []⟩ 2 0 0) := gave_0 (a := ⟨n.nd l, []⟩) hs
  rw [heq] at hfi ⊢
  clear heq
  obtain ⟨a7, ha7⟩ : ∃ a7, Hid (follow whon (tell whon ⟨{ (n.nd l) with step := 1 }, []⟩ 2 0 0) = a7) := ⟨_, rfl⟩
  rw [ha7.out]
  have hz := run_zeroN
  have hiN := infoN n
  have B0 : Blk ((w.alloc (.cells n.cells 50)).alloc (.cells zN.cells 50)) w.heap.size n.cells 50 := (Blk.new w _ _).alloc _
  have Bz : Blk ((w.alloc (.cells n.cells 50)).alloc (.cells zN.cells 50)) (w.heap.size + 1) zN.cells 50 := Blk.new1 w _ _ _
  have L0 : Below w.heap.size w ((w.alloc (.cells n.cells 50)).alloc (.cells zN.cells 50)) := by go_grown
  have hsz : ((w.alloc (.cells n.cells 50)).alloc (.cells zN.cells 50)).heap.size = w.heap.size + 2 := by simp
  have hwin : win who 0 3 = true := by simp [win]; omega
  have HG : Hid (goodN n l = true) := hgn
  have HW : Hid (who = (whon : Int)) := hwn
  have HF : Hid (FI (tell whon ⟨{ (n.nd l) with step := 1 }, []⟩ 2 0 0)) := hfi
  have hh4 : (((n.nd l).height : Int) == 4) = false := by simp; omega
  have hrd : (n.nd l).round < 6 := hg0.round
  have hrI : ((n.nd l).round : Int) < 6 := by omega
  have hvi := hg0.vi
  have HV : Hid (VBd (((n.nd l).heard (n.nd l).height).pr (n.nd l).round)) := (hg0.votes _ hrd).2
  have hstep : Hid (((n.nd l).step : Int) = 0) := show _ = _ by omega
  have hzS := run_zero
  have hiS := infoS ((n.nd l).heard (n.nd l).height)
  have honeS : ((n.nd l).heard (n.nd l).height).cells.all (·.oneCell') = true := one_cell _
  clear hfi hg0 hs
  go_enter Tryz.func27, Tryz.ntmps27
  go_upto_region 1 with fail
  generalize ((w.alloc (.cells n.cells 50)).alloc (.cells zN.cells 50)) = w0 at B0 Bz L0 hsz ⊢
  have hbeg := ropened_any n l who w0 (hq.keep L0) hl hgn hwin
  clear hgn hwin hwn
  clear hq hz
  go_upto_region 7 with (first
    | (refine wpList_load_blk rfl 50 _ rfl w.heap.size rfl 50 n.cells _ B0 Tryz.underlying50 rfl hiN ?_)
    | (go_at_call 46; refine hbeg.mono ?_; rintro e w1 ⟨g, q', rfl, hg, T1, hown, hap, L1⟩; have Bz1 := Bz.below L1; have B1 := B0.below L1; clear hbeg B0; rw [HW.out] at T1; have S1 := sr_opened HG.out T1 hown (by omega) hap; obtain ⟨c0, c1, c2, c3, c4, c5, c6, c7, c8⟩ := S1.blk.tnums)
    | (go_at_call 49; refine (rsheet_any S1.blk h4).mono ?_; rintro e w2 ⟨rfl, L2⟩; have Z2 : Blk (w2.alloc (.cells zS.cells 46)) w2.heap.size zS.cells 46 := Blk.new w2 _ _; have La : Below w2.heap.size w2 (w2.alloc (.cells zS.cells 46)) := (by go_grown))
    | (refine wpList_store_blk rfl 46 _ _ rfl w2.heap.size zS.cells ((n.nd l).heard (n.nd l).height).cells 46 rfl rfl Z2 (sizes _ _) hiS honeS ?_; rintro w3 P3 K3))
  have L3 := K3.bel _ _ (Nat.le_refl _) La
  have S3 := (S1.below L2).below L3
  have Bz3 := (Bz1.below L2).below L3
  have hs1 := S1.lt
  have L3' := bel_trans (bel_trans (bel_trans L0 L1) L2) L3
  have hpg : g < w2.heap.size := Nat.lt_of_lt_of_le hs1 L2.size
  clear K3 La Z2 S1 Bz1 L0 L1 L2 L3 c0 c1 c2 c3 c4 c5 c6 c7 c8 T1 hown hzS honeS B1
  generalize w2.heap.size = p at P3 hpg ⊢
  obtain ⟨c0, c1, c2, c3, c4, c5, c6, c7, c8⟩ := S3.blk.tnums
  have c1' : w3.cell? ⟨g, 1, none⟩ = some (.int .i64 ((n.nd l).round : Int)) := c1
  have c2' : w3.cell? ⟨g, 2, none⟩ = some (.int .i64 0) := c2.trans (by show some (Value.int .i64 ((n.nd l).step : Int)) = _; rw [hstep.out])
  clear c1 c2
  have f2 := S3.blk.free 2
  go_upto_region 12 with fail
  have S5 : Sr w0.heap.size (w3.setCell ⟨g, 2, none⟩ (.int .i64 1)) g 98 whon ⟨{ (n.nd l) with step := 1 }, []⟩ q' (.slice none 0 0) := S3.put (j := 2) (v := .int .i64 1) { (n.nd l) with step := 1 } (by omega) (set_step _ _) rfl
  have Bz5 := Bz3.setCell_other ⟨g, 2, none⟩ (.int .i64 1) (by show w.heap.size + 1 ≠ g; omega)
  have L5 : Below w.heap.size w (w3.setCell ⟨g, 2, none⟩ (.int .i64 1)) := L3'.setCell (by show w.heap.size ≤ g; omega) _
  generalize w3.setCell ⟨g, 2, none⟩ (.int .i64 1) = w5 at S5 Bz5 L5 ⊢
  have htell := rtell_any S5 h4 (by simp) 2 0 0
  go_upto_region 18 with (first
    | (go_at_call 50; refine htell.mono ?_; rintro e w6 ⟨rfl, sd6, S6, L6⟩; have hall := RA _ w6 g whon _ _ sd6 S6 HF.out; rw [ha7.out] at hall; clear htell)
    | (go_at_call 48; refine hall.mono ?_; rintro e w7 ⟨rfl, q7, sd7, S7, L7⟩; obtain ⟨sa, sc, hsd⟩ := own_shape S7.said; subst hsd; clear hall))
  have Bz7 : Blk w7 (w.heap.size + 1) zN.cells 50 := by unfold Blk; rw [L7.block _ (by omega), L6.block _ (by omega)]; exact Bz5
  have B4 := S7.blk
  have hi5 := infoN (a7.n.ni q7)
  have hone5 := one_cellN (a7.n.ni q7) (own_one S7.own)
  have hs7 := S7.lt
  refine held_region (fun W => Blk W g (tcells (a7.n.ni q7) whon (.slice sa a7.words.length sc)) 98) [] [(0, 0), (1, 0), (2, 0), (3, 1), (4, 0), (5, 0), (6, 0), (7, 1), (8, 2), (9, 0), (10, 0)] (by kernel_rfl) (by kernel_rfl) (by kernel_rfl) rfl (fun _ _ d _ _ h => by cases d <;> exact h) B4.drew ?_
  repeat (first
    | (refine ord_load rfl (by rfl) 50 _ rfl g 0 rfl ((a7.n.ni q7)).cells _ (fun W H => node_range H) Tryz.underlying50 rfl hi5 ?_; simp only [Act.put, List.setIfInBounds_toArray, List.set_cons_zero, List.set_cons_succ])
    | (refine ord_run0_ex rfl (by rfl) ?_
       apply Exists.intro
       refine ⟨fun w0 => ?_, ?_⟩
       · go_simp; rfl
       simp only [Act.put, List.setIfInBounds_toArray, List.set_cons_zero, List.set_cons_succ])
    | (refine ord_run1_ex rfl (by rfl) ?_
       apply Exists.intro
       refine ⟨fun w0 hC => ?_, ?_⟩
       · have e0 := hC.cell 283; rw [tcells_sd] at e0; clear hC; go_simp; rfl
       simp only [Act.put, List.setIfInBounds_toArray, List.set_cons_zero, List.set_cons_succ]))
  refine ord_do rfl ?_
  refine wpList_store_blk rfl 50 _ _ rfl (w.heap.size + 1) zN.cells ((a7.n.ni q7)).cells 50 rfl rfl Bz7.drew (by rw [ncells_size, ncells_size]) hi5 hone5 ?_
  rintro w9 B6 K6
  refine ⟨fun _ => K6.blk _ _ _ (by omega) B4.drew, ?_⟩
  simp only [Act.put]
  repeat (first
    | (refine ord_run0_ex rfl (by rfl) ?_
       apply Exists.intro
       refine ⟨fun w0 => ?_, ?_⟩
       · go_simp; rfl
       simp only [Act.put, List.setIfInBounds_toArray, List.set_cons_zero, List.set_cons_succ]))
  show wpOrd _ _ _ _ _ [] _ _ _
  unfold wpOrd
  go_wp2
  refine bodyPost_ret (results_three rfl _ _ (w.heap.size + 1) ((a7.n.ni q7)).cells (.slice sa a7.words.length sc) (.int .i64 0) rfl rfl rfl (load_node B6)) rfl ?_
  exact ⟨q7, .slice sa a7.words.length sc, rfl, own_mono (own_kept (W := w7.drew) S7.own K6 (by omega)) (by omega), own_mono (own_kept (W := w7.drew) S7.said K6 (by omega)) (by omega), K6.bel _ _ (by omega) (below_drew' (bel_seq (bel_seq L5 (L6.mono (by omega))) (L7.mono (by omega))))⟩

set_option maxRecDepth 100000 in
set_option maxHeartbeats 8000000 in
theorem rtime_1y (RA : RAll) (n : NI) (l : List Int) (who : Int) (w : World) (hq : Ints w n.q l) (hl : l.length * 8 ≤ 140737488355328) (hgn : goodN n l = true) (whon : Nat) (hwn : who = (whon : Int)) (hw4 : whon < 4) (h4 : (n.nd l).height < 4) (hs : (n.nd l).step = 1) (h3 : 3 ≤ allV (((n.nd l).heard (n.nd l).height).wi (n.nd l).round)) :
    Calls Tryz.prog 27 #[.agg n.cells, .int .i64 who] w (Done w (follow whon (gaveUp whon ⟨(n.nd l), []⟩))) := by
  have hg0 := (gn_of hgn).1
  have hfi := FI.gave (who := whon) hg0 h4
  have heq : gaveUp whon ⟨(n.nd l), []⟩ = (tell whon ⟨{ (n.nd l) with step := 2 }, []⟩ 3 0 0) := gave_1y (a := ⟨n.nd l, []⟩) hs h3
  rw [heq] at hfi ⊢
  clear heq
  obtain ⟨a7, ha7⟩ : ∃ a7, Hid (follow whon (tell whon ⟨{ (n.nd l) with step := 2 }, []⟩ 3 0 0) = a7) := ⟨_, rfl⟩
  rw [ha7.out]
  have hz := run_zeroN
  have hiN := infoN n
  have B0 : Blk ((w.alloc (.cells n.cells 50)).alloc (.cells zN.cells 50)) w.heap.size n.cells 50 := (Blk.new w _ _).alloc _
  have Bz : Blk ((w.alloc (.cells n.cells 50)).alloc (.cells zN.cells 50)) (w.heap.size + 1) zN.cells 50 := Blk.new1 w _ _ _
  have L0 : Below w.heap.size w ((w.alloc (.cells n.cells 50)).alloc (.cells zN.cells 50)) := by go_grown
  have hsz : ((w.alloc (.cells n.cells 50)).alloc (.cells zN.cells 50)).heap.size = w.heap.size + 2 := by simp
  have hwin : win who 0 3 = true := by simp [win]; omega
  have HG : Hid (goodN n l = true) := hgn
  have HW : Hid (who = (whon : Int)) := hwn
  have HF : Hid (FI (tell whon ⟨{ (n.nd l) with step := 2 }, []⟩ 3 0 0)) := hfi
  have hh4 : (((n.nd l).height : Int) == 4) = false := by simp; omega
  have hrd : (n.nd l).round < 6 := hg0.round
  have hrI : ((n.nd l).round : Int) < 6 := by omega
  have hvi := hg0.vi
  have HV : Hid (VBd (((n.nd l).heard (n.nd l).height).wi (n.nd l).round)) := (hg0.votes _ hrd).1
  have hstep : Hid (((n.nd l).step : Int) = 1) := show _ = _ by omega
  have hzS := run_zero
  have hiS := infoS ((n.nd l).heard (n.nd l).height)
  have honeS : ((n.nd l).heard (n.nd l).height).cells.all (·.oneCell') = true := one_cell _
  clear hfi hg0 hs
  obtain ⟨cn, hcn⟩ : ∃ cn, Hid (allV (((n.nd l).heard (n.nd l).height).wi (n.nd l).round) = cn) := ⟨_, rfl⟩
  rw [hcn.out] at h3
  have hcb : (3 : Int) ≤ (cn : Int) := by omega
  clear h3
  go_enter Tryz.func27, Tryz.ntmps27
  go_upto_region 1 with fail
  generalize ((w.alloc (.cells n.cells 50)).alloc (.cells zN.cells 50)) = w0 at B0 Bz L0 hsz ⊢
  have hbeg := ropened_any n l who w0 (hq.keep L0) hl hgn hwin
  clear hgn hwin hwn
  clear hq hz
  go_upto_region 7 with (first
    | (refine wpList_load_blk rfl 50 _ rfl w.heap.size rfl 50 n.cells _ B0 Tryz.underlying50 rfl hiN ?_)
    | (go_at_call 46; refine hbeg.mono ?_; rintro e w1 ⟨g, q', rfl, hg, T1, hown, hap, L1⟩; have Bz1 := Bz.below L1; have B1 := B0.below L1; clear hbeg B0; rw [HW.out] at T1; have S1 := sr_opened HG.out T1 hown (by omega) hap; obtain ⟨c0, c1, c2, c3, c4, c5, c6, c7, c8⟩ := S1.blk.tnums)
    | (go_at_call 49; refine (rsheet_any S1.blk h4).mono ?_; rintro e w2 ⟨rfl, L2⟩; have Z2 : Blk (w2.alloc (.cells zS.cells 46)) w2.heap.size zS.cells 46 := Blk.new w2 _ _; have La : Below w2.heap.size w2 (w2.alloc (.cells zS.cells 46)) := (by go_grown))
    | (refine wpList_store_blk rfl 46 _ _ rfl w2.heap.size zS.cells ((n.nd l).heard (n.nd l).height).cells 46 rfl rfl Z2 (sizes _ _) hiS honeS ?_; rintro w3 P3 K3))
  have L3 := K3.bel _ _ (Nat.le_refl _) La
  have S3 := (S1.below L2).below L3
  have Bz3 := (Bz1.below L2).below L3
  have hs1 := S1.lt
  have L3' := bel_trans (bel_trans (bel_trans L0 L1) L2) L3
  have hpg : g < w2.heap.size := Nat.lt_of_lt_of_le hs1 L2.size
  clear K3 La Z2 S1 Bz1 L0 L1 L2 L3 c0 c1 c2 c3 c4 c5 c6 c7 c8 T1 hown hzS honeS B1
  generalize w2.heap.size = p at P3 hpg ⊢
  obtain ⟨c0, c1, c2, c3, c4, c5, c6, c7, c8⟩ := S3.blk.tnums
  have c1' : w3.cell? ⟨g, 1, none⟩ = some (.int .i64 ((n.nd l).round : Int)) := c1
  have c2' : w3.cell? ⟨g, 2, none⟩ = some (.int .i64 1) := c2.trans (by show some (Value.int .i64 ((n.nd l).step : Int)) = _; rw [hstep.out])
  clear c1 c2
  have hwr := sh_wi P3 hrd
  have hiv := infoV (((n.nd l).heard (n.nd l).height).wi (n.nd l).round)
  have hall3 := allOf_any _ HV.out w3
  rw [hcn.out] at hall3
  go_upto_region 15 with (first
    | (refine wpList_load_part (by rfl) 43 _ rfl p (18 + (n.nd l).round * 4) (by first | rfl | simp) (vcells (((n.nd l).heard (n.nd l).height).wi (n.nd l).round)) _ hwr Tryz.underlying43 rfl hiv ?_)
    | (go_at_call 51; refine hall3.mono ?_; rintro e w4 ⟨rfl, L4⟩; have S4 := S3.below L4; have Bz4 := Bz3.below L4; have L4' := bel_trans L3' L4; obtain ⟨e0, e1, e2, e3, e4, e5, e6, e7, e8⟩ := S4.blk.tnums))
  have f2 := S4.blk.free 2
  go_upto_region 16 with fail
  have S5 : Sr w0.heap.size (w4.setCell ⟨g, 2, none⟩ (.int .i64 2)) g 98 whon ⟨{ (n.nd l) with step := 2 }, []⟩ q' (.slice none 0 0) := S4.put (j := 2) (v := .int .i64 2) { (n.nd l) with step := 2 } (by omega) (set_step _ _) rfl
  have Bz5 := Bz4.setCell_other ⟨g, 2, none⟩ (.int .i64 2) (by show w.heap.size + 1 ≠ g; omega)
  have L5 : Below w.heap.size w (w4.setCell ⟨g, 2, none⟩ (.int .i64 2)) := L4'.setCell (by show w.heap.size ≤ g; omega) _
  generalize w4.setCell ⟨g, 2, none⟩ (.int .i64 2) = w5 at S5 Bz5 L5 ⊢
  have htell := rtell_any S5 h4 (by simp) 3 0 0
  go_upto_region 18 with (first
    | (go_at_call 50; refine htell.mono ?_; rintro e w6 ⟨rfl, sd6, S6, L6⟩; have hall := RA _ w6 g whon _ _ sd6 S6 HF.out; rw [ha7.out] at hall; clear htell)
    | (go_at_call 48; refine hall.mono ?_; rintro e w7 ⟨rfl, q7, sd7, S7, L7⟩; obtain ⟨sa, sc, hsd⟩ := own_shape S7.said; subst hsd; clear hall))
  have Bz7 : Blk w7 (w.heap.size + 1) zN.cells 50 := by unfold Blk; rw [L7.block _ (by omega), L6.block _ (by omega)]; exact Bz5
  have B4 := S7.blk
  have hi5 := infoN (a7.n.ni q7)
  have hone5 := one_cellN (a7.n.ni q7) (own_one S7.own)
  have hs7 := S7.lt
  refine held_region (fun W => Blk W g (tcells (a7.n.ni q7) whon (.slice sa a7.words.length sc)) 98) [] [(0, 0), (1, 0), (2, 0), (3, 1), (4, 0), (5, 0), (6, 0), (7, 1), (8, 2), (9, 0), (10, 0)] (by kernel_rfl) (by kernel_rfl) (by kernel_rfl) rfl (fun _ _ d _ _ h => by cases d <;> exact h) B4.drew ?_
  repeat (first
    | (refine ord_load rfl (by rfl) 50 _ rfl g 0 rfl ((a7.n.ni q7)).cells _ (fun W H => node_range H) Tryz.underlying50 rfl hi5 ?_; simp only [Act.put, List.setIfInBounds_toArray, List.set_cons_zero, List.set_cons_succ])
    | (refine ord_run0_ex rfl (by rfl) ?_
       apply Exists.intro
       refine ⟨fun w0 => ?_, ?_⟩
       · go_simp; rfl
       simp only [Act.put, List.setIfInBounds_toArray, List.set_cons_zero, List.set_cons_succ])
    | (refine ord_run1_ex rfl (by rfl) ?_
       apply Exists.intro
       refine ⟨fun w0 hC => ?_, ?_⟩
       · have e0 := hC.cell 283; rw [tcells_sd] at e0; clear hC; go_simp; rfl
       simp only [Act.put, List.setIfInBounds_toArray, List.set_cons_zero, List.set_cons_succ]))
  refine ord_do rfl ?_
  refine wpList_store_blk rfl 50 _ _ rfl (w.heap.size + 1) zN.cells ((a7.n.ni q7)).cells 50 rfl rfl Bz7.drew (by rw [ncells_size, ncells_size]) hi5 hone5 ?_
  rintro w9 B6 K6
  refine ⟨fun _ => K6.blk _ _ _ (by omega) B4.drew, ?_⟩
  simp only [Act.put]
  repeat (first
    | (refine ord_run0_ex rfl (by rfl) ?_
       apply Exists.intro
       refine ⟨fun w0 => ?_, ?_⟩
       · go_simp; rfl
       simp only [Act.put, List.setIfInBounds_toArray, List.set_cons_zero, List.set_cons_succ]))
  show wpOrd _ _ _ _ _ [] _ _ _
  unfold wpOrd
  go_wp2
  refine bodyPost_ret (results_three rfl _ _ (w.heap.size + 1) ((a7.n.ni q7)).cells (.slice sa a7.words.length sc) (.int .i64 0) rfl rfl rfl (load_node B6)) rfl ?_
  exact ⟨q7, .slice sa a7.words.length sc, rfl, own_mono (own_kept (W := w7.drew) S7.own K6 (by omega)) (by omega), own_mono (own_kept (W := w7.drew) S7.said K6 (by omega)) (by omega), K6.bel _ _ (by omega) (below_drew' (bel_seq (bel_seq L5 (L6.mono (by omega))) (L7.mono (by omega))))⟩

set_option maxRecDepth 100000 in
set_option maxHeartbeats 8000000 in
theorem rtime_1n (RA : RAll) (n : NI) (l : List Int) (who : Int) (w : World) (hq : Ints w n.q l) (hl : l.length * 8 ≤ 140737488355328) (hgn : goodN n l = true) (whon : Nat) (hwn : who = (whon : Int)) (hw4 : whon < 4) (h4 : (n.nd l).height < 4) (hs : (n.nd l).step = 1) (h3 : ¬ 3 ≤ allV (((n.nd l).heard (n.nd l).height).wi (n.nd l).round)) :
    Calls Tryz.prog 27 #[.agg n.cells, .int .i64 who] w (Done w (follow whon (gaveUp whon ⟨(n.nd l), []⟩))) := by
  have hg0 := (gn_of hgn).1
  have hfi := FI.gave (who := whon) hg0 h4
  have heq : gaveUp whon ⟨(n.nd l), []⟩ = ⟨(n.nd l), []⟩ := gave_1n (a := ⟨n.nd l, []⟩) hs h3
  rw [heq] at hfi ⊢
  clear heq
  obtain ⟨a7, ha7⟩ : ∃ a7, Hid (follow whon ⟨(n.nd l), []⟩ = a7) := ⟨_, rfl⟩
  rw [ha7.out]
  have hz := run_zeroN
  have hiN := infoN n
  have B0 : Blk ((w.alloc (.cells n.cells 50)).alloc (.cells zN.cells 50)) w.heap.size n.cells 50 := (Blk.new w _ _).alloc _
  have Bz : Blk ((w.alloc (.cells n.cells 50)).alloc (.cells zN.cells 50)) (w.heap.size + 1) zN.cells 50 := Blk.new1 w _ _ _
  have L0 : Below w.heap.size w ((w.alloc (.cells n.cells 50)).alloc (.cells zN.cells 50)) := by go_grown
  have hsz : ((w.alloc (.cells n.cells 50)).alloc (.cells zN.cells 50)).heap.size = w.heap.size + 2 := by simp
  have hwin : win who 0 3 = true := by simp [win]; omega
  have HG : Hid (goodN n l = true) := hgn
  have HW : Hid (who = (whon : Int)) := hwn
  have HF : Hid (FI ⟨(n.nd l), []⟩) := hfi
  have hh4 : (((n.nd l).height : Int) == 4) = false := by simp; omega
  have hrd : (n.nd l).round < 6 := hg0.round
  have hrI : ((n.nd l).round : Int) < 6 := by omega
  have hvi := hg0.vi
  have HV : Hid (VBd (((n.nd l).heard (n.nd l).height).wi (n.nd l).round)) := (hg0.votes _ hrd).1
  have hstep : Hid (((n.nd l).step : Int) = 1) := show _ = _ by omega
  have hzS := run_zero
  have hiS := infoS ((n.nd l).heard (n.nd l).height)
  have honeS : ((n.nd l).heard (n.nd l).height).cells.all (·.oneCell') = true := one_cell _
  clear hfi hg0 hs
  obtain ⟨cn, hcn⟩ : ∃ cn, Hid (allV (((n.nd l).heard (n.nd l).height).wi (n.nd l).round) = cn) := ⟨_, rfl⟩
  rw [hcn.out] at h3
  have hcb : ¬ (3 : Int) ≤ (cn : Int) := by omega
  clear h3
  go_enter Tryz.func27, Tryz.ntmps27
  go_upto_region 1 with fail
  generalize ((w.alloc (.cells n.cells 50)).alloc (.cells zN.cells 50)) = w0 at B0 Bz L0 hsz ⊢
  have hbeg := ropened_any n l who w0 (hq.keep L0) hl hgn hwin
  clear hgn hwin hwn
  clear hq hz
  go_upto_region 7 with (first
    | (refine wpList_load_blk rfl 50 _ rfl w.heap.size rfl 50 n.cells _ B0 Tryz.underlying50 rfl hiN ?_)
    | (go_at_call 46; refine hbeg.mono ?_; rintro e w1 ⟨g, q', rfl, hg, T1, hown, hap, L1⟩; have Bz1 := Bz.below L1; have B1 := B0.below L1; clear hbeg B0; rw [HW.out] at T1; have S1 := sr_opened HG.out T1 hown (by omega) hap; obtain ⟨c0, c1, c2, c3, c4, c5, c6, c7, c8⟩ := S1.blk.tnums)
    | (go_at_call 49; refine (rsheet_any S1.blk h4).mono ?_; rintro e w2 ⟨rfl, L2⟩; have Z2 : Blk (w2.alloc (.cells zS.cells 46)) w2.heap.size zS.cells 46 := Blk.new w2 _ _; have La : Below w2.heap.size w2 (w2.alloc (.cells zS.cells 46)) := (by go_grown))
    | (refine wpList_store_blk rfl 46 _ _ rfl w2.heap.size zS.cells ((n.nd l).heard (n.nd l).height).cells 46 rfl rfl Z2 (sizes _ _) hiS honeS ?_; rintro w3 P3 K3))
  have L3 := K3.bel _ _ (Nat.le_refl _) La
  have S3 := (S1.below L2).below L3
  have Bz3 := (Bz1.below L2).below L3
  have hs1 := S1.lt
  have L3' := bel_trans (bel_trans (bel_trans L0 L1) L2) L3
  have hpg : g < w2.heap.size := Nat.lt_of_lt_of_le hs1 L2.size
  clear K3 La Z2 S1 Bz1 L0 L1 L2 L3 c0 c1 c2 c3 c4 c5 c6 c7 c8 T1 hown hzS honeS B1
  generalize w2.heap.size = p at P3 hpg ⊢
  obtain ⟨c0, c1, c2, c3, c4, c5, c6, c7, c8⟩ := S3.blk.tnums
  have c1' : w3.cell? ⟨g, 1, none⟩ = some (.int .i64 ((n.nd l).round : Int)) := c1
  have c2' : w3.cell? ⟨g, 2, none⟩ = some (.int .i64 1) := c2.trans (by show some (Value.int .i64 ((n.nd l).step : Int)) = _; rw [hstep.out])
  clear c1 c2
  have hwr := sh_wi P3 hrd
  have hiv := infoV (((n.nd l).heard (n.nd l).height).wi (n.nd l).round)
  have hall3 := allOf_any _ HV.out w3
  rw [hcn.out] at hall3
  go_upto_region 17 with (first
    | (refine wpList_load_part (by rfl) 43 _ rfl p (18 + (n.nd l).round * 4) (by first | rfl | simp) (vcells (((n.nd l).heard (n.nd l).height).wi (n.nd l).round)) _ hwr Tryz.underlying43 rfl hiv ?_)
    | (go_at_call 51; refine hall3.mono ?_; rintro e w4 ⟨rfl, L4⟩; have S4 := S3.below L4; have Bz4 := Bz3.below L4; have L4' := bel_trans L3' L4; obtain ⟨e0, e1, e2, e3, e4, e5, e6, e7, e8⟩ := S4.blk.tnums; have e1' : w4.cell? ⟨g, 1, none⟩ = some (.int .i64 ((n.nd l).round : Int)) := e1))
  have hall := RA _ w4 g whon _ _ _ S4 HF.out
  rw [ha7.out] at hall
  go_upto_region 18 with (first
    | (go_at_call 48; refine hall.mono ?_; rintro e w7 ⟨rfl, q7, sd7, S7, L7⟩; obtain ⟨sa, sc, hsd⟩ := own_shape S7.said; subst hsd; clear hall))
  have Bz7 : Blk w7 (w.heap.size + 1) zN.cells 50 := by unfold Blk; rw [L7.block _ (by omega)]; exact Bz4
  have B4 := S7.blk
  have hi5 := infoN (a7.n.ni q7)
  have hone5 := one_cellN (a7.n.ni q7) (own_one S7.own)
  have hs7 := S7.lt
  refine held_region (fun W => Blk W g (tcells (a7.n.ni q7) whon (.slice sa a7.words.length sc)) 98) [] [(0, 0), (1, 0), (2, 0), (3, 1), (4, 0), (5, 0), (6, 0), (7, 1), (8, 2), (9, 0), (10, 0)] (by kernel_rfl) (by kernel_rfl) (by kernel_rfl) rfl (fun _ _ d _ _ h => by cases d <;> exact h) B4.drew ?_
  repeat (first
    | (refine ord_load rfl (by rfl) 50 _ rfl g 0 rfl ((a7.n.ni q7)).cells _ (fun W H => node_range H) Tryz.underlying50 rfl hi5 ?_; simp only [Act.put, List.setIfInBounds_toArray, List.set_cons_zero, List.set_cons_succ])
    | (refine ord_run0_ex rfl (by rfl) ?_
       apply Exists.intro
       refine ⟨fun w0 => ?_, ?_⟩
       · go_simp; rfl
       simp only [Act.put, List.setIfInBounds_toArray, List.set_cons_zero, List.set_cons_succ])
    | (refine ord_run1_ex rfl (by rfl) ?_
       apply Exists.intro
       refine ⟨fun w0 hC => ?_, ?_⟩
       · have e0 := hC.cell 283; rw [tcells_sd] at e0; clear hC; go_simp; rfl
       simp only [Act.put, List.setIfInBounds_toArray, List.set_cons_zero, List.set_cons_succ]))
  refine ord_do rfl ?_
  refine wpList_store_blk rfl 50 _ _ rfl (w.heap.size + 1) zN.cells ((a7.n.ni q7)).cells 50 rfl rfl Bz7.drew (by rw [ncells_size, ncells_size]) hi5 hone5 ?_
  rintro w9 B6 K6
  refine ⟨fun _ => K6.blk _ _ _ (by omega) B4.drew, ?_⟩
  simp only [Act.put]
  repeat (first
    | (refine ord_run0_ex rfl (by rfl) ?_
       apply Exists.intro
       refine ⟨fun w0 => ?_, ?_⟩
       · go_simp; rfl
       simp only [Act.put, List.setIfInBounds_toArray, List.set_cons_zero, List.set_cons_succ]))
  show wpOrd _ _ _ _ _ [] _ _ _
  unfold wpOrd
  go_wp2
  refine bodyPost_ret (results_three rfl _ _ (w.heap.size + 1) ((a7.n.ni q7)).cells (.slice sa a7.words.length sc) (.int .i64 0) rfl rfl rfl (load_node B6)) rfl ?_
  exact ⟨q7, .slice sa a7.words.length sc, rfl, own_mono (own_kept (W := w7.drew) S7.own K6 (by omega)) (by omega), own_mono (own_kept (W := w7.drew) S7.said K6 (by omega)) (by omega), K6.bel _ _ (by omega) (below_drew' (bel_seq L4' (L7.mono (by omega))))⟩

set_option maxRecDepth 100000 in
set_option maxHeartbeats 8000000 in
theorem rtime_2y (RA : RAll) (n : NI) (l : List Int) (who : Int) (w : World) (hq : Ints w n.q l) (hl : l.length * 8 ≤ 140737488355328) (hgn : goodN n l = true) (whon : Nat) (hwn : who = (whon : Int)) (hw4 : whon < 4) (h4 : (n.nd l).height < 4) (hs : (n.nd l).step = 2) (h3 : 3 ≤ allV (((n.nd l).heard (n.nd l).height).pr (n.nd l).round)) (h5 : (n.nd l).round < 5) :
    Calls Tryz.prog 27 #[.agg n.cells, .int .i64 who] w (Done w (follow whon (gaveUp whon ⟨(n.nd l), []⟩))) := by
  have hg0 := (gn_of hgn).1
  have hfi := FI.gave (who := whon) hg0 h4
  have heq : gaveUp whon ⟨(n.nd l), []⟩ = (enter whon ⟨(n.nd l), []⟩ ((n.nd l).round + 1)) := gave_2y (a := ⟨n.nd l, []⟩) hs h3 h5
  rw [heq] at hfi ⊢
  clear heq
  obtain ⟨a7, ha7⟩ : ∃ a7, Hid (follow whon (enter whon ⟨(n.nd l), []⟩ ((n.nd l).round + 1)) = a7) := ⟨_, rfl⟩
  rw [ha7.out]
  have hz := run_zeroN
  have hiN := infoN n
  have B0 : Blk ((w.alloc (.cells n.cells 50)).alloc (.cells zN.cells 50)) w.heap.size n.cells 50 := (Blk.new w _ _).alloc _
  have Bz : Blk ((w.alloc (.cells n.cells 50)).alloc (.cells zN.cells 50)) (w.heap.size + 1) zN.cells 50 := Blk.new1 w _ _ _
  have L0 : Below w.heap.size w ((w.alloc (.cells n.cells 50)).alloc (.cells zN.cells 50)) := by go_grown
  have hsz : ((w.alloc (.cells n.cells 50)).alloc (.cells zN.cells 50)).heap.size = w.heap.size + 2 := by simp
  have hwin : win who 0 3 = true := by simp [win]; omega
  have HG : Hid (goodN n l = true) := hgn
  have HW : Hid (who = (whon : Int)) := hwn
  have HF : Hid (FI (enter whon ⟨(n.nd l), []⟩ ((n.nd l).round + 1))) := hfi
  have hh4 : (((n.nd l).height : Int) == 4) = false := by simp; omega
  have hrd : (n.nd l).round < 6 := hg0.round
  have hrI : ((n.nd l).round : Int) < 6 := by omega
  have hvi := hg0.vi
  have HV : Hid (VBd (((n.nd l).heard (n.nd l).height).pr (n.nd l).round)) := (hg0.votes _ hrd).2
  have hstep : Hid (((n.nd l).step : Int) = 2) := show _ = _ by omega
  have hzS := run_zero
  have hiS := infoS ((n.nd l).heard (n.nd l).height)
  have honeS : ((n.nd l).heard (n.nd l).height).cells.all (·.oneCell') = true := one_cell _
  clear hfi hg0 hs
  obtain ⟨cn, hcn⟩ : ∃ cn, Hid (allV (((n.nd l).heard (n.nd l).height).pr (n.nd l).round) = cn) := ⟨_, rfl⟩
  rw [hcn.out] at h3
  have hcb : (3 : Int) ≤ (cn : Int) := by omega
  have hrb : ((n.nd l).round : Int) < 5 := by omega
  clear h3
  go_enter Tryz.func27, Tryz.ntmps27
  go_upto_region 1 with fail
  generalize ((w.alloc (.cells n.cells 50)).alloc (.cells zN.cells 50)) = w0 at B0 Bz L0 hsz ⊢
  have hbeg := ropened_any n l who w0 (hq.keep L0) hl hgn hwin
  clear hgn hwin hwn
  clear hq hz
  go_upto_region 7 with (first
    | (refine wpList_load_blk rfl 50 _ rfl w.heap.size rfl 50 n.cells _ B0 Tryz.underlying50 rfl hiN ?_)
    | (go_at_call 46; refine hbeg.mono ?_; rintro e w1 ⟨g, q', rfl, hg, T1, hown, hap, L1⟩; have Bz1 := Bz.below L1; have B1 := B0.below L1; clear hbeg B0; rw [HW.out] at T1; have S1 := sr_opened HG.out T1 hown (by omega) hap; obtain ⟨c0, c1, c2, c3, c4, c5, c6, c7, c8⟩ := S1.blk.tnums)
    | (go_at_call 49; refine (rsheet_any S1.blk h4).mono ?_; rintro e w2 ⟨rfl, L2⟩; have Z2 : Blk (w2.alloc (.cells zS.cells 46)) w2.heap.size zS.cells 46 := Blk.new w2 _ _; have La : Below w2.heap.size w2 (w2.alloc (.cells zS.cells 46)) := (by go_grown))
    | (refine wpList_store_blk rfl 46 _ _ rfl w2.heap.size zS.cells ((n.nd l).heard (n.nd l).height).cells 46 rfl rfl Z2 (sizes _ _) hiS honeS ?_; rintro w3 P3 K3))
  have L3 := K3.bel _ _ (Nat.le_refl _) La
  have S3 := (S1.below L2).below L3
  have Bz3 := (Bz1.below L2).below L3
  have hs1 := S1.lt
  have L3' := bel_trans (bel_trans (bel_trans L0 L1) L2) L3
  have hpg : g < w2.heap.size := Nat.lt_of_lt_of_le hs1 L2.size
  clear K3 La Z2 S1 Bz1 L0 L1 L2 L3 c0 c1 c2 c3 c4 c5 c6 c7 c8 T1 hown hzS honeS B1
  generalize w2.heap.size = p at P3 hpg ⊢
  obtain ⟨c0, c1, c2, c3, c4, c5, c6, c7, c8⟩ := S3.blk.tnums
  have c1' : w3.cell? ⟨g, 1, none⟩ = some (.int .i64 ((n.nd l).round : Int)) := c1
  have c2' : w3.cell? ⟨g, 2, none⟩ = some (.int .i64 2) := c2.trans (by show some (Value.int .i64 ((n.nd l).step : Int)) = _; rw [hstep.out])
  clear c1 c2
  have hwr := sh_pr P3 hrd
  have hiv := infoV (((n.nd l).heard (n.nd l).height).pr (n.nd l).round)
  have hall3 := allOf_any _ HV.out w3
  rw [hcn.out] at hall3
  go_upto_region 9 with (first
    | (refine wpList_load_part (by rfl) 43 _ rfl p (42 + (n.nd l).round * 4) (by first | rfl | simp) (vcells (((n.nd l).heard (n.nd l).height).pr (n.nd l).round)) _ hwr Tryz.underlying43 rfl hiv ?_)
    | (go_at_call 51; refine hall3.mono ?_; rintro e w4 ⟨rfl, L4⟩; have S4 := S3.below L4; have Bz4 := Bz3.below L4; have L4' := bel_trans L3' L4; obtain ⟨e0, e1, e2, e3, e4, e5, e6, e7, e8⟩ := S4.blk.tnums))
  have e1' : w4.cell? ⟨g, 1, none⟩ = some (.int .i64 ((n.nd l).round : Int)) := e1
  have hent := renter_any S4 (Nat.le_of_lt h4) ((n.nd l).round + 1) (by omega) (by simp) hvi
  go_upto_region 18 with (first
    | (go_at_call 47; refine hent.mono ?_; rintro e w6 ⟨rfl, sd6, S6, L6⟩; have hall := RA _ w6 g whon _ _ sd6 S6 HF.out; rw [ha7.out] at hall; clear hent)
    | (go_at_call 48; refine hall.mono ?_; rintro e w7 ⟨rfl, q7, sd7, S7, L7⟩; obtain ⟨sa, sc, hsd⟩ := own_shape S7.said; subst hsd; clear hall))
  have Bz7 : Blk w7 (w.heap.size + 1) zN.cells 50 := by unfold Blk; rw [L7.block _ (by omega), L6.block _ (by omega)]; exact Bz4
  have B4 := S7.blk
  have hi5 := infoN (a7.n.ni q7)
  have hone5 := one_cellN (a7.n.ni q7) (own_one S7.own)
  have hs7 := S7.lt
  refine held_region (fun W => Blk W g (tcells (a7.n.ni q7) whon (.slice sa a7.words.length sc)) 98) [] [(0, 0), (1, 0), (2, 0), (3, 1), (4, 0), (5, 0), (6, 0), (7, 1), (8, 2), (9, 0), (10, 0)] (by kernel_rfl) (by kernel_rfl) (by kernel_rfl) rfl (fun _ _ d _ _ h => by cases d <;> exact h) B4.drew ?_
  repeat (first
    | (refine ord_load rfl (by rfl) 50 _ rfl g 0 rfl ((a7.n.ni q7)).cells _ (fun W H => node_range H) Tryz.underlying50 rfl hi5 ?_; simp only [Act.put, List.setIfInBounds_toArray, List.set_cons_zero, List.set_cons_succ])
    | (refine ord_run0_ex rfl (by rfl) ?_
       apply Exists.intro
       refine ⟨fun w0 => ?_, ?_⟩
       · go_simp; rfl
       simp only [Act.put, List.setIfInBounds_toArray, List.set_cons_zero, List.set_cons_succ])
    | (refine ord_run1_ex rfl (by rfl) ?_
       apply Exists.intro
       refine ⟨fun w0 hC => ?_, ?_⟩
       · have e0 := hC.cell 283; rw [tcells_sd] at e0; clear hC; go_simp; rfl
       simp only [Act.put, List.setIfInBounds_toArray, List.set_cons_zero, List.set_cons_succ]))
  refine ord_do rfl ?_
  refine wpList_store_blk rfl 50 _ _ rfl (w.heap.size + 1) zN.cells ((a7.n.ni q7)).cells 50 rfl rfl Bz7.drew (by rw [ncells_size, ncells_size]) hi5 hone5 ?_
  rintro w9 B6 K6
  refine ⟨fun _ => K6.blk _ _ _ (by omega) B4.drew, ?_⟩
  simp only [Act.put]
  repeat (first
    | (refine ord_run0_ex rfl (by rfl) ?_
       apply Exists.intro
       refine ⟨fun w0 => ?_, ?_⟩
       · go_simp; rfl
       simp only [Act.put, List.setIfInBounds_toArray, List.set_cons_zero, List.set_cons_succ]))
  show wpOrd _ _ _ _ _ [] _ _ _
  unfold wpOrd
  go_wp2
  refine bodyPost_ret (results_three rfl _ _ (w.heap.size + 1) ((a7.n.ni q7)).cells (.slice sa a7.words.length sc) (.int .i64 0) rfl rfl rfl (load_node B6)) rfl ?_
  exact ⟨q7, .slice sa a7.words.length sc, rfl, own_mono (own_kept (W := w7.drew) S7.own K6 (by omega)) (by omega), own_mono (own_kept (W := w7.drew) S7.said K6 (by omega)) (by omega), K6.bel _ _ (by omega) (below_drew' (bel_seq (bel_seq L4' (L6.mono (by omega))) (L7.mono (by omega))))⟩

set_option maxRecDepth 100000 in
set_option maxHeartbeats 8000000 in
theorem rtime_2n (RA : RAll) (n : NI) (l : List Int) (who : Int) (w : World) (hq : Ints w n.q l) (hl : l.length * 8 ≤ 140737488355328) (hgn : goodN n l = true) (whon : Nat) (hwn : who = (whon : Int)) (hw4 : whon < 4) (h4 : (n.nd l).height < 4) (hs : (n.nd l).step = 2) (h3 : ¬ 3 ≤ allV (((n.nd l).heard (n.nd l).height).pr (n.nd l).round)) :
    Calls Tryz.prog 27 #[.agg n.cells, .int .i64 who] w (Done w (follow whon (gaveUp whon ⟨(n.nd l), []⟩))) := by
  have hg0 := (gn_of hgn).1
  have hfi := FI.gave (who := whon) hg0 h4
  have heq : gaveUp whon ⟨(n.nd l), []⟩ = ⟨(n.nd l), []⟩ := gave_2n (a := ⟨n.nd l, []⟩) hs (fun h => h3 h.1)
  rw [heq] at hfi ⊢
  clear heq
  obtain ⟨a7, ha7⟩ : ∃ a7, Hid (follow whon ⟨(n.nd l), []⟩ = a7) := ⟨_, rfl⟩
  rw [ha7.out]
  have hz := run_zeroN
  have hiN := infoN n
  have B0 : Blk ((w.alloc (.cells n.cells 50)).alloc (.cells zN.cells 50)) w.heap.size n.cells 50 := (Blk.new w _ _).alloc _
  have Bz : Blk ((w.alloc (.cells n.cells 50)).alloc (.cells zN.cells 50)) (w.heap.size + 1) zN.cells 50 := Blk.new1 w _ _ _
  have L0 : Below w.heap.size w ((w.alloc (.cells n.cells 50)).alloc (.cells zN.cells 50)) := by go_grown
  have hsz : ((w.alloc (.cells n.cells 50)).alloc (.cells zN.cells 50)).heap.size = w.heap.size + 2 := by simp
  have hwin : win who 0 3 = true := by simp [win]; omega
  have HG : Hid (goodN n l = true) := hgn
  have HW : Hid (who = (whon : Int)) := hwn
  have HF : Hid (FI ⟨(n.nd l), []⟩) := hfi
  have hh4 : (((n.nd l).height : Int) == 4) = false := by simp; omega
  have hrd : (n.nd l).round < 6 := hg0.round
  have hrI : ((n.nd l).round : Int) < 6 := by omega
  have hvi := hg0.vi
  have HV : Hid (VBd (((n.nd l).heard (n.nd l).height).pr (n.nd l).round)) := (hg0.votes _ hrd).2
  have hstep : Hid (((n.nd l).step : Int) = 2) := show _ = _ by omega
  have hzS := run_zero
  have hiS := infoS ((n.nd l).heard (n.nd l).height)
  have honeS : ((n.nd l).heard (n.nd l).height).cells.all (·.oneCell') = true := one_cell _
  clear hfi hg0 hs
  obtain ⟨cn, hcn⟩ : ∃ cn, Hid (allV (((n.nd l).heard (n.nd l).height).pr (n.nd l).round) = cn) := ⟨_, rfl⟩
  rw [hcn.out] at h3
  have hcb : ¬ (3 : Int) ≤ (cn : Int) := by omega
  clear h3
  go_enter Tryz.func27, Tryz.ntmps27
  go_upto_region 1 with fail
  generalize ((w.alloc (.cells n.cells 50)).alloc (.cells zN.cells 50)) = w0 at B0 Bz L0 hsz ⊢
  have hbeg := ropened_any n l who w0 (hq.keep L0) hl hgn hwin
  clear hgn hwin hwn
  clear hq hz
  go_upto_region 7 with (first
    | (refine wpList_load_blk rfl 50 _ rfl w.heap.size rfl 50 n.cells _ B0 Tryz.underlying50 rfl hiN ?_)
    | (go_at_call 46; refine hbeg.mono ?_; rintro e w1 ⟨g, q', rfl, hg, T1, hown, hap, L1⟩; have Bz1 := Bz.below L1; have B1 := B0.below L1; clear hbeg B0; rw [HW.out] at T1; have S1 := sr_opened HG.out T1 hown (by omega) hap; obtain ⟨c0, c1, c2, c3, c4, c5, c6, c7, c8⟩ := S1.blk.tnums)
    | (go_at_call 49; refine (rsheet_any S1.blk h4).mono ?_; rintro e w2 ⟨rfl, L2⟩; have Z2 : Blk (w2.alloc (.cells zS.cells 46)) w2.heap.size zS.cells 46 := Blk.new w2 _ _; have La : Below w2.heap.size w2 (w2.alloc (.cells zS.cells 46)) := (by go_grown))
    | (refine wpList_store_blk rfl 46 _ _ rfl w2.heap.size zS.cells ((n.nd l).heard (n.nd l).height).cells 46 rfl rfl Z2 (sizes _ _) hiS honeS ?_; rintro w3 P3 K3))
  have L3 := K3.bel _ _ (Nat.le_refl _) La
  have S3 := (S1.below L2).below L3
  have Bz3 := (Bz1.below L2).below L3
  have hs1 := S1.lt
  have L3' := bel_trans (bel_trans (bel_trans L0 L1) L2) L3
  have hpg : g < w2.heap.size := Nat.lt_of_lt_of_le hs1 L2.size
  clear K3 La Z2 S1 Bz1 L0 L1 L2 L3 c0 c1 c2 c3 c4 c5 c6 c7 c8 T1 hown hzS honeS B1
  generalize w2.heap.size = p at P3 hpg ⊢
  obtain ⟨c0, c1, c2, c3, c4, c5, c6, c7, c8⟩ := S3.blk.tnums
  have c1' : w3.cell? ⟨g, 1, none⟩ = some (.int .i64 ((n.nd l).round : Int)) := c1
  have c2' : w3.cell? ⟨g, 2, none⟩ = some (.int .i64 2) := c2.trans (by show some (Value.int .i64 ((n.nd l).step : Int)) = _; rw [hstep.out])
  clear c1 c2
  have hwr := sh_pr P3 hrd
  have hiv := infoV (((n.nd l).heard (n.nd l).height).pr (n.nd l).round)
  have hall3 := allOf_any _ HV.out w3
  rw [hcn.out] at hall3
  go_upto_region 17 with (first
    | (refine wpList_load_part (by rfl) 43 _ rfl p (42 + (n.nd l).round * 4) (by first | rfl | simp) (vcells (((n.nd l).heard (n.nd l).height).pr (n.nd l).round)) _ hwr Tryz.underlying43 rfl hiv ?_)
    | (go_at_call 51; refine hall3.mono ?_; rintro e w4 ⟨rfl, L4⟩; have S4 := S3.below L4; have Bz4 := Bz3.below L4; have L4' := bel_trans L3' L4; obtain ⟨e0, e1, e2, e3, e4, e5, e6, e7, e8⟩ := S4.blk.tnums; have e1' : w4.cell? ⟨g, 1, none⟩ = some (.int .i64 ((n.nd l).round : Int)) := e1))
  have hall := RA _ w4 g whon _ _ _ S4 HF.out
  rw [ha7.out] at hall
  go_upto_region 18 with (first
    | (go_at_call 48; refine hall.mono ?_; rintro e w7 ⟨rfl, q7, sd7, S7, L7⟩; obtain ⟨sa, sc, hsd⟩ := own_shape S7.said; subst hsd; clear hall))
  have Bz7 : Blk w7 (w.heap.size + 1) zN.cells 50 := by unfold Blk; rw [L7.block _ (by omega)]; exact Bz4
  have B4 := S7.blk
  have hi5 := infoN (a7.n.ni q7)
  have hone5 := one_cellN (a7.n.ni q7) (own_one S7.own)
  have hs7 := S7.lt
  refine held_region (fun W => Blk W g (tcells (a7.n.ni q7) whon (.slice sa a7.words.length sc)) 98) [] [(0, 0), (1, 0), (2, 0), (3, 1), (4, 0), (5, 0), (6, 0), (7, 1), (8, 2), (9, 0), (10, 0)] (by kernel_rfl) (by kernel_rfl) (by kernel_rfl) rfl (fun _ _ d _ _ h => by cases d <;> exact h) B4.drew ?_
  repeat (first
    | (refine ord_load rfl (by rfl) 50 _ rfl g 0 rfl ((a7.n.ni q7)).cells _ (fun W H => node_range H) Tryz.underlying50 rfl hi5 ?_; simp only [Act.put, List.setIfInBounds_toArray, List.set_cons_zero, List.set_cons_succ])
    | (refine ord_run0_ex rfl (by rfl) ?_
       apply Exists.intro
       refine ⟨fun w0 => ?_, ?_⟩
       · go_simp; rfl
       simp only [Act.put, List.setIfInBounds_toArray, List.set_cons_zero, List.set_cons_succ])
    | (refine ord_run1_ex rfl (by rfl) ?_
       apply Exists.intro
       refine ⟨fun w0 hC => ?_, ?_⟩
       · have e0 := hC.cell 283; rw [tcells_sd] at e0; clear hC; go_simp; rfl
       simp only [Act.put, List.setIfInBounds_toArray, List.set_cons_zero, List.set_cons_succ]))
  refine ord_do rfl ?_
  refine wpList_store_blk rfl 50 _ _ rfl (w.heap.size + 1) zN.cells ((a7.n.ni q7)).cells 50 rfl rfl Bz7.drew (by rw [ncells_size, ncells_size]) hi5 hone5 ?_
  rintro w9 B6 K6
  refine ⟨fun _ => K6.blk _ _ _ (by omega) B4.drew, ?_⟩
  simp only [Act.put]
  repeat (first
    | (refine ord_run0_ex rfl (by rfl) ?_
       apply Exists.intro
       refine ⟨fun w0 => ?_, ?_⟩
       · go_simp; rfl
       simp only [Act.put, List.setIfInBounds_toArray, List.set_cons_zero, List.set_cons_succ]))
  show wpOrd _ _ _ _ _ [] _ _ _
  unfold wpOrd
  go_wp2
  refine bodyPost_ret (results_three rfl _ _ (w.heap.size + 1) ((a7.n.ni q7)).cells (.slice sa a7.words.length sc) (.int .i64 0) rfl rfl rfl (load_node B6)) rfl ?_
  exact ⟨q7, .slice sa a7.words.length sc, rfl, own_mono (own_kept (W := w7.drew) S7.own K6 (by omega)) (by omega), own_mono (own_kept (W := w7.drew) S7.said K6 (by omega)) (by omega), K6.bel _ _ (by omega) (below_drew' (bel_seq L4' (L7.mono (by omega))))⟩

set_option maxRecDepth 100000 in
set_option maxHeartbeats 8000000 in
theorem rtime_2r (RA : RAll) (n : NI) (l : List Int) (who : Int) (w : World) (hq : Ints w n.q l) (hl : l.length * 8 ≤ 140737488355328) (hgn : goodN n l = true) (whon : Nat) (hwn : who = (whon : Int)) (hw4 : whon < 4) (h4 : (n.nd l).height < 4) (hs : (n.nd l).step = 2) (h3 : 3 ≤ allV (((n.nd l).heard (n.nd l).height).pr (n.nd l).round)) (h5 : ¬ (n.nd l).round < 5) :
    Calls Tryz.prog 27 #[.agg n.cells, .int .i64 who] w (Done w (follow whon (gaveUp whon ⟨(n.nd l), []⟩))) := by
  have hg0 := (gn_of hgn).1
  have hfi := FI.gave (who := whon) hg0 h4
  have heq : gaveUp whon ⟨(n.nd l), []⟩ = ⟨(n.nd l), []⟩ := gave_2n (a := ⟨n.nd l, []⟩) hs (fun h => h5 h.2)
  rw [heq] at hfi ⊢
  clear heq
  obtain ⟨a7, ha7⟩ : ∃ a7, Hid (follow whon ⟨(n.nd l), []⟩ = a7) := ⟨_, rfl⟩
  rw [ha7.out]
  have hz := run_zeroN
  have hiN := infoN n
  have B0 : Blk ((w.alloc (.cells n.cells 50)).alloc (.cells zN.cells 50)) w.heap.size n.cells 50 := (Blk.new w _ _).alloc _
  have Bz : Blk ((w.alloc (.cells n.cells 50)).alloc (.cells zN.cells 50)) (w.heap.size + 1) zN.cells 50 := Blk.new1 w _ _ _
  have L0 : Below w.heap.size w ((w.alloc (.cells n.cells 50)).alloc (.cells zN.cells 50)) := by go_grown
  have hsz : ((w.alloc (.cells n.cells 50)).alloc (.cells zN.cells 50)).heap.size = w.heap.size + 2 := by simp
  have hwin : win who 0 3 = true := by simp [win]; omega
  have HG : Hid (goodN n l = true) := hgn
  have HW : Hid (who = (whon : Int)) := hwn
  have HF : Hid (FI ⟨(n.nd l), []⟩) := hfi
  have hh4 : (((n.nd l).height : Int) == 4) = false := by simp; omega
  have hrd : (n.nd l).round < 6 := hg0.round
  have hrI : ((n.nd l).round : Int) < 6 := by omega
  have hvi := hg0.vi
  have HV : Hid (VBd (((n.nd l).heard (n.nd l).height).pr (n.nd l).round)) := (hg0.votes _ hrd).2
  have hstep : Hid (((n.nd l).step : Int) = 2) := show _ = _ by omega
  have hzS := run_zero
  have hiS := infoS ((n.nd l).heard (n.nd l).height)
  have honeS : ((n.nd l).heard (n.nd l).height).cells.all (·.oneCell') = true := one_cell _
  clear hfi hg0 hs
  obtain ⟨cn, hcn⟩ : ∃ cn, Hid (allV (((n.nd l).heard (n.nd l).height).pr (n.nd l).round) = cn) := ⟨_, rfl⟩
  rw [hcn.out] at h3
  have hcb : (3 : Int) ≤ (cn : Int) := by omega
  have hrb : ¬ ((n.nd l).round : Int) < 5 := by omega
  clear h3
  go_enter Tryz.func27, Tryz.ntmps27
  go_upto_region 1 with fail
  generalize ((w.alloc (.cells n.cells 50)).alloc (.cells zN.cells 50)) = w0 at B0 Bz L0 hsz ⊢
  have hbeg := ropened_any n l who w0 (hq.keep L0) hl hgn hwin
  clear hgn hwin hwn
  clear hq hz
  go_upto_region 7 with (first
    | (refine wpList_load_blk rfl 50 _ rfl w.heap.size rfl 50 n.cells _ B0 Tryz.underlying50 rfl hiN ?_)
    | (go_at_call 46; refine hbeg.mono ?_; rintro e w1 ⟨g, q', rfl, hg, T1, hown, hap, L1⟩; have Bz1 := Bz.below L1; have B1 := B0.below L1; clear hbeg B0; rw [HW.out] at T1; have S1 := sr_opened HG.out T1 hown (by omega) hap; obtain ⟨c0, c1, c2, c3, c4, c5, c6, c7, c8⟩ := S1.blk.tnums)
    | (go_at_call 49; refine (rsheet_any S1.blk h4).mono ?_; rintro e w2 ⟨rfl, L2⟩; have Z2 : Blk (w2.alloc (.cells zS.cells 46)) w2.heap.size zS.cells 46 := Blk.new w2 _ _; have La : Below w2.heap.size w2 (w2.alloc (.cells zS.cells 46)) := (by go_grown))
    | (refine wpList_store_blk rfl 46 _ _ rfl w2.heap.size zS.cells ((n.nd l).heard (n.nd l).height).cells 46 rfl rfl Z2 (sizes _ _) hiS honeS ?_; rintro w3 P3 K3))
  have L3 := K3.bel _ _ (Nat.le_refl _) La
  have S3 := (S1.below L2).below L3
  have Bz3 := (Bz1.below L2).below L3
  have hs1 := S1.lt
  have L3' := bel_trans (bel_trans (bel_trans L0 L1) L2) L3
  have hpg : g < w2.heap.size := Nat.lt_of_lt_of_le hs1 L2.size
  clear K3 La Z2 S1 Bz1 L0 L1 L2 L3 c0 c1 c2 c3 c4 c5 c6 c7 c8 T1 hown hzS honeS B1
  generalize w2.heap.size = p at P3 hpg ⊢
  obtain ⟨c0, c1, c2, c3, c4, c5, c6, c7, c8⟩ := S3.blk.tnums
  have c1' : w3.cell? ⟨g, 1, none⟩ = some (.int .i64 ((n.nd l).round : Int)) := c1
  have c2' : w3.cell? ⟨g, 2, none⟩ = some (.int .i64 2) := c2.trans (by show some (Value.int .i64 ((n.nd l).step : Int)) = _; rw [hstep.out])
  clear c1 c2
  have hwr := sh_pr P3 hrd
  have hiv := infoV (((n.nd l).heard (n.nd l).height).pr (n.nd l).round)
  have hall3 := allOf_any _ HV.out w3
  rw [hcn.out] at hall3
  go_upto_region 17 with (first
    | (refine wpList_load_part (by rfl) 43 _ rfl p (42 + (n.nd l).round * 4) (by first | rfl | simp) (vcells (((n.nd l).heard (n.nd l).height).pr (n.nd l).round)) _ hwr Tryz.underlying43 rfl hiv ?_)
    | (go_at_call 51; refine hall3.mono ?_; rintro e w4 ⟨rfl, L4⟩; have S4 := S3.below L4; have Bz4 := Bz3.below L4; have L4' := bel_trans L3' L4; obtain ⟨e0, e1, e2, e3, e4, e5, e6, e7, e8⟩ := S4.blk.tnums; have e1' : w4.cell? ⟨g, 1, none⟩ = some (.int .i64 ((n.nd l).round : Int)) := e1))
  have hall := RA _ w4 g whon _ _ _ S4 HF.out
  rw [ha7.out] at hall
  go_upto_region 18 with (first
    | (go_at_call 48; refine hall.mono ?_; rintro e w7 ⟨rfl, q7, sd7, S7, L7⟩; obtain ⟨sa, sc, hsd⟩ := own_shape S7.said; subst hsd; clear hall))
  have Bz7 : Blk w7 (w.heap.size + 1) zN.cells 50 := by unfold Blk; rw [L7.block _ (by omega)]; exact Bz4
  have B4 := S7.blk
  have hi5 := infoN (a7.n.ni q7)
  have hone5 := one_cellN (a7.n.ni q7) (own_one S7.own)
  have hs7 := S7.lt
  refine held_region (fun W => Blk W g (tcells (a7.n.ni q7) whon (.slice sa a7.words.length sc)) 98) [] [(0, 0), (1, 0), (2, 0), (3, 1), (4, 0), (5, 0), (6, 0), (7, 1), (8, 2), (9, 0), (10, 0)] (by kernel_rfl) (by kernel_rfl) (by kernel_rfl) rfl (fun _ _ d _ _ h => by cases d <;> exact h) B4.drew ?_
  repeat (first
    | (refine ord_load rfl (by rfl) 50 _ rfl g 0 rfl ((a7.n.ni q7)).cells _ (fun W H => node_range H) Tryz.underlying50 rfl hi5 ?_; simp only [Act.put, List.setIfInBounds_toArray, List.set_cons_zero, List.set_cons_succ])
    | (refine ord_run0_ex rfl (by rfl) ?_
       apply Exists.intro
       refine ⟨fun w0 => ?_, ?_⟩
       · go_simp; rfl
       simp only [Act.put, List.setIfInBounds_toArray, List.set_cons_zero, List.set_cons_succ])
    | (refine ord_run1_ex rfl (by rfl) ?_
       apply Exists.intro
       refine ⟨fun w0 hC => ?_, ?_⟩
       · have e0 := hC.cell 283; rw [tcells_sd] at e0; clear hC; go_simp; rfl
       simp only [Act.put, List.setIfInBounds_toArray, List.set_cons_zero, List.set_cons_succ]))
  refine ord_do rfl ?_
  refine wpList_store_blk rfl 50 _ _ rfl (w.heap.size + 1) zN.cells ((a7.n.ni q7)).cells 50 rfl rfl Bz7.drew (by rw [ncells_size, ncells_size]) hi5 hone5 ?_
  rintro w9 B6 K6
  refine ⟨fun _ => K6.blk _ _ _ (by omega) B4.drew, ?_⟩
  simp only [Act.put]
  repeat (first
    | (refine ord_run0_ex rfl (by rfl) ?_
       apply Exists.intro
       refine ⟨fun w0 => ?_, ?_⟩
       · go_simp; rfl
       simp only [Act.put, List.setIfInBounds_toArray, List.set_cons_zero, List.set_cons_succ]))
  show wpOrd _ _ _ _ _ [] _ _ _
  unfold wpOrd
  go_wp2
  refine bodyPost_ret (results_three rfl _ _ (w.heap.size + 1) ((a7.n.ni q7)).cells (.slice sa a7.words.length sc) (.int .i64 0) rfl rfl rfl (load_node B6)) rfl ?_
  exact ⟨q7, .slice sa a7.words.length sc, rfl, own_mono (own_kept (W := w7.drew) S7.own K6 (by omega)) (by omega), own_mono (own_kept (W := w7.drew) S7.said K6 (by omega)) (by omega), K6.bel _ _ (by omega) (below_drew' (bel_seq L4' (L7.mono (by omega))))⟩
end Go.Proofs.YtmmgaonlmpajbacGreat
