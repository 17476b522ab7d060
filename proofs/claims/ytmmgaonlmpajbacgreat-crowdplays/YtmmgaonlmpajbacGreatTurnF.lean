/-
  The landed package node: Submit.
  The landed package node: New; and that the package answers at all (nodes).
-/
import Derived.Test.YtmmgaonlmpajbacGreatTurnE
namespace Go.Proofs.YtmmgaonlmpajbacGreat
open Go.RowKit

/-- A value is put to the queue. -/
def Nd.push (n : Nd) (y : Int) : Nd := { n with queue := n.queue ++ [y] }
theorem GN.push {n : Nd} (h : GN n) {y : Int} (h1 : 1 ≤ y ∧ y ≤ 9) (h6 : n.queue.length < 6) : GN (n.push y) := by
  refine ⟨h.height, h.round, h.step, h.bd, h.vd, h.sheets, h.low, h.high, fun v hv => ?_, by show (n.queue ++ [y]).length ≤ 6; simp; omega⟩
  have hv' : v ∈ n.queue ++ [y] := hv
  rcases List.mem_append.1 hv' with h' | h'
  · exact h.queue v h'
  · obtain rfl := List.mem_singleton.1 h'; exact h1
theorem FI.enter0 {who : Nat} {n : Nd} (h : GN n) : FI (enter who ⟨n, []⟩ n.round) := by
  have hg : GN (enter who ⟨n, []⟩ n.round).n := GN.enter (a := ⟨n, []⟩) h _ (Nat.le_refl _) h.round
  refine ⟨hg, ?_⟩
  have h1 := enter_len who ⟨n, []⟩ n.round
  have h2 := mu_le hg.ng
  simp at h1
  omega

set_option maxRecDepth 100000 in
set_option maxHeartbeats 4000000 in
theorem nsub_begin (n : NI) (l : List Int) (who : Int) (y : Int) (w : World) (hq : Ints w n.q l) (hl : l.length * 8 ≤ 140737488355328) (code : Int) (hcode : Hid (code = if goodN n l then (if win who 0 3 then 0 else 2) else 1)) (hne : code ≠ 0) :
    Calls Tryz.prog 35 #[.agg n.cells, .int .i64 who, .int .i64 y] w (Refused w n l code) := by
  have hz := run_zeroN
  have hiN := infoN n
  have B0 : Blk ((w.alloc (.cells n.cells 50)).alloc (.cells zN.cells 50)) w.heap.size n.cells 50 := (Blk.new w _ _).alloc _
  have Bz : Blk ((w.alloc (.cells n.cells 50)).alloc (.cells zN.cells 50)) (w.heap.size + 1) zN.cells 50 := Blk.new1 w _ _ _
  have L0 : Below w.heap.size w ((w.alloc (.cells n.cells 50)).alloc (.cells zN.cells 50)) := by go_grown
  have hsz : ((w.alloc (.cells n.cells 50)).alloc (.cells zN.cells 50)).heap.size = w.heap.size + 2 := by simp
  have hc2 : (code != 0) = true := by simpa using hne
  go_enter Tryz.func35, Tryz.ntmps35
  go_upto_region 1 with fail
  generalize ((w.alloc (.cells n.cells 50)).alloc (.cells zN.cells 50)) = w0 at B0 Bz L0 hsz ⊢
  have hbeg := tbegin_any n l who w0 (hq.keep L0) hl code hcode
  clear hq hz
  go_wp2_with (first
    | (refine wpList_load_blk rfl 50 _ rfl w.heap.size rfl 50 n.cells _ B0 Tryz.underlying50 rfl hiN ?_)
    | (go_at_call 39; refine hbeg.mono ?_; rintro e w1 ⟨g, q', rfl, hg, T1, hown, L1⟩; have Bz1 := Bz.below L1; clear hbeg B0)
    | (go_at_call 40; refine (refuse_any T1 (own_one hown) code).mono ?_; rintro e w5 ⟨rfl, L5⟩; have Bz5 := Bz1.below L5; have hi5 := infoN (n.setQ q'))
    | (refine wpList_store_blk rfl 50 _ _ rfl (w.heap.size + 1) zN.cells (n.setQ q').cells 50 rfl rfl Bz5 (by rw [ncells_size, ncells_size]) hi5 (one_cellN _ (own_one hown)) ?_; rintro w6 B6 K6))
  refine bodyPost_ret (results_three rfl _ _ (w.heap.size + 1) (n.setQ q').cells _ _ rfl rfl rfl (load_node B6)) rfl ?_
  exact ⟨q', rfl, own_mono (own_kept (own_below hown L5) K6 (by omega)) (by omega), K6.bel _ _ (by omega) (bel_trans (bel_trans L0 L1) L5)⟩

set_option maxRecDepth 100000 in
set_option maxHeartbeats 4000000 in
theorem nsub_value (n : NI) (l : List Int) (who : Int) (y : Int) (w : World) (hq : Ints w n.q l) (hl : l.length * 8 ≤ 140737488355328) (hgn : goodN n l = true) (whon : Nat) (hwn : who = (whon : Int)) (hw4 : whon < 4) (hy : win y 1 9 = false) :
    Calls Tryz.prog 35 #[.agg n.cells, .int .i64 who, .int .i64 y] w (Refused w n l 2) := by
  have hz := run_zeroN
  have hiN := infoN n
  have B0 : Blk ((w.alloc (.cells n.cells 50)).alloc (.cells zN.cells 50)) w.heap.size n.cells 50 := (Blk.new w _ _).alloc _
  have Bz : Blk ((w.alloc (.cells n.cells 50)).alloc (.cells zN.cells 50)) (w.heap.size + 1) zN.cells 50 := Blk.new1 w _ _ _
  have L0 : Below w.heap.size w ((w.alloc (.cells n.cells 50)).alloc (.cells zN.cells 50)) := by go_grown
  have hsz : ((w.alloc (.cells n.cells 50)).alloc (.cells zN.cells 50)).heap.size = w.heap.size + 2 := by simp
  have hcode : Hid ((0 : Int) = if goodN n l then (if win who 0 3 then 0 else 2) else 1) := by show _ = _; rw [hgn, show win who 0 3 = true by simp [win]; omega]; rfl
  have HG : Hid (goodN n l = true) := hgn
  have HW : Hid (who = (whon : Int)) := hwn
  have hgn1 := (gn_of hgn).1
  clear hgn hwn
  have hval : ∀ W, Calls Tryz.prog 53 #[.int .i64 y] W fun e w' => e = .returned (.bool false) ∧ w' = W := fun W => by have := bvalue_any y W; rwa [hy] at this
  clear hy
  go_enter Tryz.func35, Tryz.ntmps35
  go_upto_region 1 with fail
  generalize ((w.alloc (.cells n.cells 50)).alloc (.cells zN.cells 50)) = w0 at B0 Bz L0 hsz ⊢
  have hbeg := tbegin_any n l who w0 (hq.keep L0) hl 0 hcode
  clear hq hz
  go_wp2_with (first
    | (refine wpList_load_blk rfl 50 _ rfl w.heap.size rfl 50 n.cells _ B0 Tryz.underlying50 rfl hiN ?_)
    | (go_at_call 39; refine hbeg.mono ?_; rintro e w1 ⟨g, q', rfl, hg, T1, hown, L1⟩; have Bz1 := Bz.below L1; clear hbeg B0)
    | (go_at_call 53; refine (hval _).mono ?_; rintro e w' ⟨rfl, hw'⟩; obtain rfl := hw'.symm)
    | (go_at_call 40; refine (refuse_any T1 (own_one hown) 2).mono ?_; rintro e w5 ⟨rfl, L5⟩; have Bz5 := Bz1.below L5; have hi5 := infoN (n.setQ q'))
    | (refine wpList_store_blk rfl 50 _ _ rfl (w.heap.size + 1) zN.cells (n.setQ q').cells 50 rfl rfl Bz5 (by rw [ncells_size, ncells_size]) hi5 (one_cellN _ (own_one hown)) ?_; rintro w6 B6 K6))
  refine bodyPost_ret (results_three rfl _ _ (w.heap.size + 1) (n.setQ q').cells _ _ rfl rfl rfl (load_node B6)) rfl ?_
  exact ⟨q', rfl, own_mono (own_kept (own_below hown L5) K6 (by omega)) (by omega), K6.bel _ _ (by omega) (bel_trans (bel_trans L0 L1) L5)⟩

set_option maxRecDepth 100000 in
set_option maxHeartbeats 4000000 in
theorem nsub_full (n : NI) (l : List Int) (who : Int) (y : Int) (w : World) (hq : Ints w n.q l) (hl : l.length * 8 ≤ 140737488355328) (hgn : goodN n l = true) (whon : Nat) (hwn : who = (whon : Int)) (hw4 : whon < 4) (hy : win y 1 9 = true) (h6 : l.length = 6) :
    Calls Tryz.prog 35 #[.agg n.cells, .int .i64 who, .int .i64 y] w (Refused w n l 5) := by
  have hz := run_zeroN
  have hiN := infoN n
  have B0 : Blk ((w.alloc (.cells n.cells 50)).alloc (.cells zN.cells 50)) w.heap.size n.cells 50 := (Blk.new w _ _).alloc _
  have Bz : Blk ((w.alloc (.cells n.cells 50)).alloc (.cells zN.cells 50)) (w.heap.size + 1) zN.cells 50 := Blk.new1 w _ _ _
  have L0 : Below w.heap.size w ((w.alloc (.cells n.cells 50)).alloc (.cells zN.cells 50)) := by go_grown
  have hsz : ((w.alloc (.cells n.cells 50)).alloc (.cells zN.cells 50)).heap.size = w.heap.size + 2 := by simp
  have hcode : Hid ((0 : Int) = if goodN n l then (if win who 0 3 then 0 else 2) else 1) := by show _ = _; rw [hgn, show win who 0 3 = true by simp [win]; omega]; rfl
  have HG : Hid (goodN n l = true) := hgn
  have HW : Hid (who = (whon : Int)) := hwn
  have hgn1 := (gn_of hgn).1
  clear hgn hwn
  have hval : ∀ W, Calls Tryz.prog 53 #[.int .i64 y] W fun e w' => e = .returned (.bool true) ∧ w' = W := fun W => by have := bvalue_any y W; rwa [hy] at this
  clear hy
  have h6b : ((l.length : Int) == 6) = true := by rw [h6]; rfl
  clear h6
  go_enter Tryz.func35, Tryz.ntmps35
  go_upto_region 1 with fail
  generalize ((w.alloc (.cells n.cells 50)).alloc (.cells zN.cells 50)) = w0 at B0 Bz L0 hsz ⊢
  have hbeg := tbegin_any n l who w0 (hq.keep L0) hl 0 hcode
  clear hq hz
  go_wp2_with (first
    | (refine wpList_load_blk rfl 50 _ rfl w.heap.size rfl 50 n.cells _ B0 Tryz.underlying50 rfl hiN ?_)
    | (go_at_call 39; refine hbeg.mono ?_; rintro e w1 ⟨g, q', rfl, hg, T1, hown, L1⟩; have Bz1 := Bz.below L1; clear hbeg B0; obtain ⟨qa', qc', hq'⟩ := own_shape hown; subst hq'; have c7 := T1.cell 281; rw [tcells_q] at c7; simp only [NI.setQ] at c7)
    | (go_at_call 53; refine (hval _).mono ?_; rintro e w' ⟨rfl, hw'⟩; obtain rfl := hw'.symm)
    | (go_at_call 40; refine (refuse_any T1 (own_one hown) 5).mono ?_; rintro e w5 ⟨rfl, L5⟩; have Bz5 := Bz1.below L5; have hi5 := infoN (n.setQ (.slice qa' l.length qc')))
    | (refine wpList_store_blk rfl 50 _ _ rfl (w.heap.size + 1) zN.cells (n.setQ (.slice qa' l.length qc')).cells 50 rfl rfl Bz5 (by rw [ncells_size, ncells_size]) hi5 (one_cellN _ (own_one hown)) ?_; rintro w6 B6 K6))
  refine bodyPost_ret (results_three rfl _ _ (w.heap.size + 1) (n.setQ (.slice qa' l.length qc')).cells _ _ rfl rfl rfl (load_node B6)) rfl ?_
  exact ⟨_, rfl, own_mono (own_kept (own_below hown L5) K6 (by omega)) (by omega), K6.bel _ _ (by omega) (bel_trans (bel_trans L0 L1) L5)⟩

set_option maxRecDepth 100000 in
set_option maxHeartbeats 4000000 in
theorem nsub_step (n : NI) (l : List Int) (who : Int) (y : Int) (w : World) (hq : Ints w n.q l) (hl : l.length * 8 ≤ 140737488355328) (hgn : goodN n l = true) (whon : Nat) (hwn : who = (whon : Int)) (hw4 : whon < 4) (hy : win y 1 9 = true) (h6 : l.length < 6) (hs : (n.nd l).step ≠ 0) :
    Calls Tryz.prog 35 #[.agg n.cells, .int .i64 who, .int .i64 y] w (Done w ⟨(n.nd l).push y, []⟩) := by
  have hz := run_zeroN
  have hiN := infoN n
  have B0 : Blk ((w.alloc (.cells n.cells 50)).alloc (.cells zN.cells 50)) w.heap.size n.cells 50 := (Blk.new w _ _).alloc _
  have Bz : Blk ((w.alloc (.cells n.cells 50)).alloc (.cells zN.cells 50)) (w.heap.size + 1) zN.cells 50 := Blk.new1 w _ _ _
  have L0 : Below w.heap.size w ((w.alloc (.cells n.cells 50)).alloc (.cells zN.cells 50)) := by go_grown
  have hsz : ((w.alloc (.cells n.cells 50)).alloc (.cells zN.cells 50)).heap.size = w.heap.size + 2 := by simp
  have hcode : Hid ((0 : Int) = if goodN n l then (if win who 0 3 then 0 else 2) else 1) := by show _ = _; rw [hgn, show win who 0 3 = true by simp [win]; omega]; rfl
  have HG : Hid (goodN n l = true) := hgn
  have HW : Hid (who = (whon : Int)) := hwn
  have hgn1 := (gn_of hgn).1
  clear hgn hwn
  have hval : ∀ W, Calls Tryz.prog 53 #[.int .i64 y] W fun e w' => e = .returned (.bool true) ∧ w' = W := fun W => by have := bvalue_any y W; rwa [hy] at this
  clear hy
  obtain ⟨i0, hi, hz0, hz1, hz2⟩ := info_int
  have hone : ∀ u : Value, u ∈ ([.int .i64 y] : List Value) → u.oneCell' = true := fun u hu => by obtain rfl := List.mem_singleton.1 hu; rfl
  have hlb : ((l.length : Int) == 6) = false := by simp; omega
  have hsb : (((n.nd l).step : Int) == 0) = false := by simp; omega

  go_enter Tryz.func35, Tryz.ntmps35
  go_upto_region 1 with fail
  generalize ((w.alloc (.cells n.cells 50)).alloc (.cells zN.cells 50)) = w0 at B0 Bz L0 hsz ⊢
  have hbeg := tbegin_any n l who w0 (hq.keep L0) hl 0 hcode
  clear hq hz
  go_upto_region 9 with (first
    | (refine wpList_load_blk rfl 50 _ rfl w.heap.size rfl 50 n.cells _ B0 Tryz.underlying50 rfl hiN ?_)
    | (go_at_call 39; refine hbeg.mono ?_; rintro e w1 ⟨g, q', rfl, hg, T1, hown, L1⟩; have Bz1 := Bz.below L1; clear hbeg B0; obtain ⟨qa', qc', hq'⟩ := own_shape hown; subst hq'; rw [HW.out] at T1; have S1 := st_begun HG.out T1 hown; obtain ⟨c0, c1, c2, c3, c4, c5, c6, c7, c8⟩ := S1.blk.tnums; have hnews : ∀ (j : Nat) (u : Value), ([.int .i64 y] : List Value)[j]? = some u → (w1.alloc (.cells #[.int .i64 y] 3)).cell? ((⟨w1.heap.size, 0, none⟩ : Addr).add j) = some u := (fun j u hu => by rw [Addr.add_mid, Nat.zero_add, (Blk.new w1 #[.int .i64 y] 3).cell j]; simpa using hu); have La : Below w1.heap.size w1 (w1.alloc (.cells #[.int .i64 y] 3)) := (by go_grown); have Oa := own_below hown La; have Sa := S1.below La; have Bza := Bz1.below La)
    | (go_at_call 53; refine (hval _).mono ?_; rintro e w' ⟨rfl, hw'⟩; obtain rfl := hw'.symm)
    | (at_builtin; refine wpList_append_own _ rfl _ _ 48 rfl (g + 1) 3 i0 (.int .i64 0) 1 8 Tryz.underlying48 hi hz0 hz1 hz2 rfl (by decide) (.slice qa' l.length qc') l.length (l.map (Value.int .i64)) rfl Oa ⟨w1.heap.size, 0, none⟩ 1 1 [.int .i64 y] rfl rfl hnews hone (by unfold maxLen; omega) (by omega) (by have := Sa.lt; omega) ?_; intro v2 w2 hown2 hgrow2 hnil2; obtain ⟨qa2, qc2, hq2⟩ := own_shape hown2; subst hq2; have B2 := blk_grown Sa.blk hgrow2 (fun h => by have := (own_block Oa g h.symm).1; omega); have Bz2 := blk_grown Bza hgrow2 (fun h => by have := (own_block Oa _ h.symm).1; omega); have d7 := B2.cell 281; have f7 := B2.free 281; rw [tcells_q] at d7; simp only [Nd.ni] at d7))
  have B3 := B2.setCell 281 (.slice qa2 (l.length + 1) qc2)
  rw [tcells_set (set_q _ _) (by omega)] at B3
  have L2 : Below w1.heap.size w1 w1 := Below.refl _ _
  have S3 : St (w2.setCell ⟨g, 281, none⟩ (.slice qa2 (l.length + 1) qc2)) g 92 whon ⟨(n.nd l).push y, []⟩ (.slice qa2 (l.length + 1) qc2) (.slice none 0 0) := by
    refine ⟨B3, ?_, World.ownsRow_nil _ _ _ _⟩
    have h5 := own_grown hown2 (grown_setCell w2 g 281 (.slice qa2 (l.length + 1) qc2)) (by omega)
    show World.ownsRow _ _ _ _ _ (l ++ [y]).length ((l ++ [y]).map (Value.int .i64))
    rw [List.length_append, List.map_append]
    exact h5
  have Bz3 := Bz2.setCell_other ⟨g, 281, none⟩ (.slice qa2 (l.length + 1) qc2) (by show w.heap.size + 1 ≠ g; omega)
  have L3 : Below w.heap.size w (w2.setCell ⟨g, 281, none⟩ (.slice qa2 (l.length + 1) qc2)) := (bel_seq (bel_trans (bel_trans L0 L1) La) (below_own Oa hgrow2 (by omega) (by have := L1.size; have := La.size; omega))).setCell (by show w.heap.size ≤ g; omega) _
  clear B2 B3 Bz2 d7 f7 hgrow2 hown2 Oa Sa Bza La hnews c0 c1 c2 c3 c4 c5 c6 c7 c8 T1 S1
  generalize w2.setCell ⟨g, 281, none⟩ (.slice qa2 (l.length + 1) qc2) = w3 at S3 Bz3 L3 ⊢
  obtain ⟨c0, c1, c2, c3, c4, c5, c6, c7, c8⟩ := S3.blk.tnums
  have c2' : w3.cell? ⟨g, 2, none⟩ = some (.int .i64 ((n.nd l).step : Int)) := c2
  clear c2
  go_wp2_with (first
    | (go_at_call 43; refine (answer_any S3.blk (own_one S3.own)).mono ?_; rintro e w5 ⟨rfl, L5⟩; have Bz5 := Bz3.below L5; have hi5 := infoN ((⟨(n.nd l).push y, []⟩ : At).n.ni (.slice qa2 (l.length + 1) qc2)))
    | (refine wpList_store_blk rfl 50 _ _ rfl (w.heap.size + 1) zN.cells ((⟨(n.nd l).push y, []⟩ : At).n.ni (.slice qa2 (l.length + 1) qc2)).cells 50 rfl rfl Bz5 (by rw [ncells_size, ncells_size]) hi5 (one_cellN _ (own_one S3.own)) ?_; rintro w6 B6 K6))
  refine bodyPost_ret (results_three rfl _ _ (w.heap.size + 1) _ _ _ rfl rfl rfl (load_node B6)) rfl ?_
  exact ⟨_, _, rfl, own_mono (own_kept (own_below S3.own L5) K6 (by omega)) (by omega), own_mono (own_kept (own_below S3.said L5) K6 (by omega)) (by omega), K6.bel _ _ (by omega) (bel_trans L3 L5)⟩

set_option maxRecDepth 100000 in
set_option maxHeartbeats 4000000 in
theorem nsub_end (n : NI) (l : List Int) (who : Int) (y : Int) (w : World) (hq : Ints w n.q l) (hl : l.length * 8 ≤ 140737488355328) (hgn : goodN n l = true) (whon : Nat) (hwn : who = (whon : Int)) (hw4 : whon < 4) (hy : win y 1 9 = true) (h6 : l.length < 6) (hs : (n.nd l).step = 0) (h4 : (n.nd l).height = 4) :
    Calls Tryz.prog 35 #[.agg n.cells, .int .i64 who, .int .i64 y] w (Done w ⟨(n.nd l).push y, []⟩) := by
  have hz := run_zeroN
  have hiN := infoN n
  have B0 : Blk ((w.alloc (.cells n.cells 50)).alloc (.cells zN.cells 50)) w.heap.size n.cells 50 := (Blk.new w _ _).alloc _
  have Bz : Blk ((w.alloc (.cells n.cells 50)).alloc (.cells zN.cells 50)) (w.heap.size + 1) zN.cells 50 := Blk.new1 w _ _ _
  have L0 : Below w.heap.size w ((w.alloc (.cells n.cells 50)).alloc (.cells zN.cells 50)) := by go_grown
  have hsz : ((w.alloc (.cells n.cells 50)).alloc (.cells zN.cells 50)).heap.size = w.heap.size + 2 := by simp
  have hcode : Hid ((0 : Int) = if goodN n l then (if win who 0 3 then 0 else 2) else 1) := by show _ = _; rw [hgn, show win who 0 3 = true by simp [win]; omega]; rfl
  have HG : Hid (goodN n l = true) := hgn
  have HW : Hid (who = (whon : Int)) := hwn
  have hgn1 := (gn_of hgn).1
  clear hgn hwn
  have hval : ∀ W, Calls Tryz.prog 53 #[.int .i64 y] W fun e w' => e = .returned (.bool true) ∧ w' = W := fun W => by have := bvalue_any y W; rwa [hy] at this
  clear hy
  obtain ⟨i0, hi, hz0, hz1, hz2⟩ := info_int
  have hone : ∀ u : Value, u ∈ ([.int .i64 y] : List Value) → u.oneCell' = true := fun u hu => by obtain rfl := List.mem_singleton.1 hu; rfl
  have hlb : ((l.length : Int) == 6) = false := by simp; omega
  have hh : ¬ ((n.nd l).height : Int) < 4 := by omega

  go_enter Tryz.func35, Tryz.ntmps35
  go_upto_region 1 with fail
  generalize ((w.alloc (.cells n.cells 50)).alloc (.cells zN.cells 50)) = w0 at B0 Bz L0 hsz ⊢
  have hbeg := tbegin_any n l who w0 (hq.keep L0) hl 0 hcode
  clear hq hz
  go_upto_region 9 with (first
    | (refine wpList_load_blk rfl 50 _ rfl w.heap.size rfl 50 n.cells _ B0 Tryz.underlying50 rfl hiN ?_)
    | (go_at_call 39; refine hbeg.mono ?_; rintro e w1 ⟨g, q', rfl, hg, T1, hown, L1⟩; have Bz1 := Bz.below L1; clear hbeg B0; obtain ⟨qa', qc', hq'⟩ := own_shape hown; subst hq'; rw [HW.out] at T1; have S1 := st_begun HG.out T1 hown; obtain ⟨c0, c1, c2, c3, c4, c5, c6, c7, c8⟩ := S1.blk.tnums; have hnews : ∀ (j : Nat) (u : Value), ([.int .i64 y] : List Value)[j]? = some u → (w1.alloc (.cells #[.int .i64 y] 3)).cell? ((⟨w1.heap.size, 0, none⟩ : Addr).add j) = some u := (fun j u hu => by rw [Addr.add_mid, Nat.zero_add, (Blk.new w1 #[.int .i64 y] 3).cell j]; simpa using hu); have La : Below w1.heap.size w1 (w1.alloc (.cells #[.int .i64 y] 3)) := (by go_grown); have Oa := own_below hown La; have Sa := S1.below La; have Bza := Bz1.below La)
    | (go_at_call 53; refine (hval _).mono ?_; rintro e w' ⟨rfl, hw'⟩; obtain rfl := hw'.symm)
    | (at_builtin; refine wpList_append_own _ rfl _ _ 48 rfl (g + 1) 3 i0 (.int .i64 0) 1 8 Tryz.underlying48 hi hz0 hz1 hz2 rfl (by decide) (.slice qa' l.length qc') l.length (l.map (Value.int .i64)) rfl Oa ⟨w1.heap.size, 0, none⟩ 1 1 [.int .i64 y] rfl rfl hnews hone (by unfold maxLen; omega) (by omega) (by have := Sa.lt; omega) ?_; intro v2 w2 hown2 hgrow2 hnil2; obtain ⟨qa2, qc2, hq2⟩ := own_shape hown2; subst hq2; have B2 := blk_grown Sa.blk hgrow2 (fun h => by have := (own_block Oa g h.symm).1; omega); have Bz2 := blk_grown Bza hgrow2 (fun h => by have := (own_block Oa _ h.symm).1; omega); have d7 := B2.cell 281; have f7 := B2.free 281; rw [tcells_q] at d7; simp only [Nd.ni] at d7))
  have B3 := B2.setCell 281 (.slice qa2 (l.length + 1) qc2)
  rw [tcells_set (set_q _ _) (by omega)] at B3
  have L2 : Below w1.heap.size w1 w1 := Below.refl _ _
  have S3 : St (w2.setCell ⟨g, 281, none⟩ (.slice qa2 (l.length + 1) qc2)) g 92 whon ⟨(n.nd l).push y, []⟩ (.slice qa2 (l.length + 1) qc2) (.slice none 0 0) := by
    refine ⟨B3, ?_, World.ownsRow_nil _ _ _ _⟩
    have h5 := own_grown hown2 (grown_setCell w2 g 281 (.slice qa2 (l.length + 1) qc2)) (by omega)
    show World.ownsRow _ _ _ _ _ (l ++ [y]).length ((l ++ [y]).map (Value.int .i64))
    rw [List.length_append, List.map_append]
    exact h5
  have Bz3 := Bz2.setCell_other ⟨g, 281, none⟩ (.slice qa2 (l.length + 1) qc2) (by show w.heap.size + 1 ≠ g; omega)
  have L3 : Below w.heap.size w (w2.setCell ⟨g, 281, none⟩ (.slice qa2 (l.length + 1) qc2)) := (bel_seq (bel_trans (bel_trans L0 L1) La) (below_own Oa hgrow2 (by omega) (by have := L1.size; have := La.size; omega))).setCell (by show w.heap.size ≤ g; omega) _
  clear B2 B3 Bz2 d7 f7 hgrow2 hown2 Oa Sa Bza La hnews c0 c1 c2 c3 c4 c5 c6 c7 c8 T1 S1
  generalize w2.setCell ⟨g, 281, none⟩ (.slice qa2 (l.length + 1) qc2) = w3 at S3 Bz3 L3 ⊢
  obtain ⟨c0, c1, c2, c3, c4, c5, c6, c7, c8⟩ := S3.blk.tnums
  have c2' : w3.cell? ⟨g, 2, none⟩ = some (.int .i64 0) := c2.trans (by show some (Value.int .i64 ((n.nd l).step : Int)) = _; rw [hs]; rfl)
  have c0' : w3.cell? ⟨g, 0, none⟩ = some (.int .i64 ((n.nd l).height : Int)) := c0
  clear c2 c0 hs h4
  go_wp2_with (first
    | (go_at_call 43; refine (answer_any S3.blk (own_one S3.own)).mono ?_; rintro e w5 ⟨rfl, L5⟩; have Bz5 := Bz3.below L5; have hi5 := infoN ((⟨(n.nd l).push y, []⟩ : At).n.ni (.slice qa2 (l.length + 1) qc2)))
    | (refine wpList_store_blk rfl 50 _ _ rfl (w.heap.size + 1) zN.cells ((⟨(n.nd l).push y, []⟩ : At).n.ni (.slice qa2 (l.length + 1) qc2)).cells 50 rfl rfl Bz5 (by rw [ncells_size, ncells_size]) hi5 (one_cellN _ (own_one S3.own)) ?_; rintro w6 B6 K6))
  refine bodyPost_ret (results_three rfl _ _ (w.heap.size + 1) _ _ _ rfl rfl rfl (load_node B6)) rfl ?_
  exact ⟨_, _, rfl, own_mono (own_kept (own_below S3.own L5) K6 (by omega)) (by omega), own_mono (own_kept (own_below S3.said L5) K6 (by omega)) (by omega), K6.bel _ _ (by omega) (bel_trans L3 L5)⟩

set_option maxRecDepth 100000 in
set_option maxHeartbeats 4000000 in
theorem nsub_good (n : NI) (l : List Int) (who : Int) (y : Int) (w : World) (hq : Ints w n.q l) (hl : l.length * 8 ≤ 140737488355328) (hgn : goodN n l = true) (whon : Nat) (hwn : who = (whon : Int)) (hw4 : whon < 4) (hy : win y 1 9 = true) (hyy : win y 1 9 = true) (h6 : l.length < 6) (hs : (n.nd l).step = 0) (h4 : (n.nd l).height < 4) :
    Calls Tryz.prog 35 #[.agg n.cells, .int .i64 who, .int .i64 y] w (Done w (follow whon (enter whon ⟨(n.nd l).push y, []⟩ (n.nd l).round))) := by
  have hz := run_zeroN
  have hiN := infoN n
  have B0 : Blk ((w.alloc (.cells n.cells 50)).alloc (.cells zN.cells 50)) w.heap.size n.cells 50 := (Blk.new w _ _).alloc _
  have Bz : Blk ((w.alloc (.cells n.cells 50)).alloc (.cells zN.cells 50)) (w.heap.size + 1) zN.cells 50 := Blk.new1 w _ _ _
  have L0 : Below w.heap.size w ((w.alloc (.cells n.cells 50)).alloc (.cells zN.cells 50)) := by go_grown
  have hsz : ((w.alloc (.cells n.cells 50)).alloc (.cells zN.cells 50)).heap.size = w.heap.size + 2 := by simp
  have hcode : Hid ((0 : Int) = if goodN n l then (if win who 0 3 then 0 else 2) else 1) := by show _ = _; rw [hgn, show win who 0 3 = true by simp [win]; omega]; rfl
  have HG : Hid (goodN n l = true) := hgn
  have HW : Hid (who = (whon : Int)) := hwn
  have hgn1 := (gn_of hgn).1
  clear hgn hwn
  have hval : ∀ W, Calls Tryz.prog 53 #[.int .i64 y] W fun e w' => e = .returned (.bool true) ∧ w' = W := fun W => by have := bvalue_any y W; rwa [hy] at this
  clear hy
  obtain ⟨i0, hi, hz0, hz1, hz2⟩ := info_int
  have hone : ∀ u : Value, u ∈ ([.int .i64 y] : List Value) → u.oneCell' = true := fun u hu => by obtain rfl := List.mem_singleton.1 hu; rfl
  have hlb : ((l.length : Int) == 6) = false := by simp; omega
  have hh : ((n.nd l).height : Int) < 4 := by omega
  have HY : Hid (1 ≤ y ∧ y ≤ 9) := win_iff.1 hyy
  clear hyy

  go_enter Tryz.func35, Tryz.ntmps35
  go_upto_region 1 with fail
  generalize ((w.alloc (.cells n.cells 50)).alloc (.cells zN.cells 50)) = w0 at B0 Bz L0 hsz ⊢
  have hbeg := tbegin_any n l who w0 (hq.keep L0) hl 0 hcode
  clear hq hz
  go_upto_region 9 with (first
    | (refine wpList_load_blk rfl 50 _ rfl w.heap.size rfl 50 n.cells _ B0 Tryz.underlying50 rfl hiN ?_)
    | (go_at_call 39; refine hbeg.mono ?_; rintro e w1 ⟨g, q', rfl, hg, T1, hown, L1⟩; have Bz1 := Bz.below L1; clear hbeg B0; obtain ⟨qa', qc', hq'⟩ := own_shape hown; subst hq'; rw [HW.out] at T1; have S1 := st_begun HG.out T1 hown; obtain ⟨c0, c1, c2, c3, c4, c5, c6, c7, c8⟩ := S1.blk.tnums; have hnews : ∀ (j : Nat) (u : Value), ([.int .i64 y] : List Value)[j]? = some u → (w1.alloc (.cells #[.int .i64 y] 3)).cell? ((⟨w1.heap.size, 0, none⟩ : Addr).add j) = some u := (fun j u hu => by rw [Addr.add_mid, Nat.zero_add, (Blk.new w1 #[.int .i64 y] 3).cell j]; simpa using hu); have La : Below w1.heap.size w1 (w1.alloc (.cells #[.int .i64 y] 3)) := (by go_grown); have Oa := own_below hown La; have Sa := S1.below La; have Bza := Bz1.below La)
    | (go_at_call 53; refine (hval _).mono ?_; rintro e w' ⟨rfl, hw'⟩; obtain rfl := hw'.symm)
    | (at_builtin; refine wpList_append_own _ rfl _ _ 48 rfl (g + 1) 3 i0 (.int .i64 0) 1 8 Tryz.underlying48 hi hz0 hz1 hz2 rfl (by decide) (.slice qa' l.length qc') l.length (l.map (Value.int .i64)) rfl Oa ⟨w1.heap.size, 0, none⟩ 1 1 [.int .i64 y] rfl rfl hnews hone (by unfold maxLen; omega) (by omega) (by have := Sa.lt; omega) ?_; intro v2 w2 hown2 hgrow2 hnil2; obtain ⟨qa2, qc2, hq2⟩ := own_shape hown2; subst hq2; have B2 := blk_grown Sa.blk hgrow2 (fun h => by have := (own_block Oa g h.symm).1; omega); have Bz2 := blk_grown Bza hgrow2 (fun h => by have := (own_block Oa _ h.symm).1; omega); have d7 := B2.cell 281; have f7 := B2.free 281; rw [tcells_q] at d7; simp only [Nd.ni] at d7))
  have B3 := B2.setCell 281 (.slice qa2 (l.length + 1) qc2)
  rw [tcells_set (set_q _ _) (by omega)] at B3
  have L2 : Below w1.heap.size w1 w1 := Below.refl _ _
  have S3 : St (w2.setCell ⟨g, 281, none⟩ (.slice qa2 (l.length + 1) qc2)) g 92 whon ⟨(n.nd l).push y, []⟩ (.slice qa2 (l.length + 1) qc2) (.slice none 0 0) := by
    refine ⟨B3, ?_, World.ownsRow_nil _ _ _ _⟩
    have h5 := own_grown hown2 (grown_setCell w2 g 281 (.slice qa2 (l.length + 1) qc2)) (by omega)
    show World.ownsRow _ _ _ _ _ (l ++ [y]).length ((l ++ [y]).map (Value.int .i64))
    rw [List.length_append, List.map_append]
    exact h5
  have Bz3 := Bz2.setCell_other ⟨g, 281, none⟩ (.slice qa2 (l.length + 1) qc2) (by show w.heap.size + 1 ≠ g; omega)
  have L3 : Below w.heap.size w (w2.setCell ⟨g, 281, none⟩ (.slice qa2 (l.length + 1) qc2)) := (bel_seq (bel_trans (bel_trans L0 L1) La) (below_own Oa hgrow2 (by omega) (by have := L1.size; have := La.size; omega))).setCell (by show w.heap.size ≤ g; omega) _
  clear B2 B3 Bz2 d7 f7 hgrow2 hown2 Oa Sa Bza La hnews c0 c1 c2 c3 c4 c5 c6 c7 c8 T1 S1
  generalize w2.setCell ⟨g, 281, none⟩ (.slice qa2 (l.length + 1) qc2) = w3 at S3 Bz3 L3 ⊢
  obtain ⟨c0, c1, c2, c3, c4, c5, c6, c7, c8⟩ := S3.blk.tnums
  have c2' : w3.cell? ⟨g, 2, none⟩ = some (.int .i64 0) := c2.trans (by show some (Value.int .i64 ((n.nd l).step : Int)) = _; rw [hs]; rfl)
  have c0' : w3.cell? ⟨g, 0, none⟩ = some (.int .i64 ((n.nd l).height : Int)) := c0
  have c1' : w3.cell? ⟨g, 1, none⟩ = some (.int .i64 ((n.nd l).round : Int)) := c1
  clear c2 c0 c1 hs
  have hP : GN ((n.nd l).push y) := hgn1.push HY.out h6
  have hcon := tenter_any S3 h4 (n.nd l).round hgn1.round (by simp) hP.vi
  go_wp2_with (first
    | (go_at_call 54; refine hcon.mono ?_; rintro e w4 ⟨rfl, sd4, S4, L4⟩; have Bz4 : Blk w4 (w.heap.size + 1) zN.cells 50 := (by unfold Blk; rw [L4.block _ (by omega)]; exact Bz3))
    | (go_at_call 42; refine (tfollow_any S4 (FI.enter0 hP)).mono ?_; rintro e w7 ⟨rfl, q7, sd7, S7⟩; have Bz7 : Blk w7 (w.heap.size + 1) zN.cells 50 := (by unfold Blk; rw [S7.2.block _ (by omega)]; exact Bz4); obtain ⟨sa, sc, hsd⟩ := own_shape S7.1.said; subst hsd)
    | (go_at_call 43; refine (answer_any S7.1.blk (own_one S7.1.own)).mono ?_; rintro e w5 ⟨rfl, L5⟩; have Bz5 := Bz7.below L5; have hi5 := infoN ((follow whon (enter whon ⟨(n.nd l).push y, []⟩ (n.nd l).round)).n.ni q7))
    | (refine wpList_store_blk rfl 50 _ _ rfl (w.heap.size + 1) zN.cells ((follow whon (enter whon ⟨(n.nd l).push y, []⟩ (n.nd l).round)).n.ni q7).cells 50 rfl rfl Bz5 (by rw [ncells_size, ncells_size]) hi5 (one_cellN _ (own_one S7.1.own)) ?_; rintro w6 B6 K6))
  refine bodyPost_ret (results_three rfl _ _ (w.heap.size + 1) _ _ _ rfl rfl rfl (load_node B6)) rfl ?_
  exact ⟨q7, _, rfl, own_mono (own_kept (own_below S7.1.own L5) K6 (by omega)) (by omega), own_mono (own_kept (own_below S7.1.said L5) K6 (by omega)) (by omega), K6.bel _ _ (by omega) (bel_trans (bel_seq (bel_seq L3 (L4.mono (by omega))) (S7.2.mono (by omega))) L5)⟩
end Go.Proofs.YtmmgaonlmpajbacGreat
namespace Go.Proofs.YtmmgaonlmpajbacGreat
open Go.RowKit

/-- The node that has heard nothing. -/
def newN : NI := { zN with boundIn := -1, validIn := -1 }
theorem build_new (W : World) : Sem.run Tryz.prog (Instr.build 50 #[(4, .int .i64 (-1)), (6, .int .i64 (-1))]) W = .ok (.agg newN.cells) W := by
  show _ = _; kernel_rfl

set_option maxRecDepth 100000 in
set_option maxHeartbeats 2000000 in
theorem nnew_any (w : World) : Calls Tryz.prog 14 #[] w fun e w' => e = .returned (.agg newN.cells) ∧ Below w.heap.size w w' := by
  have hz := run_zeroN
  have Z1 : Blk (w.alloc (.cells zN.cells 50)) w.heap.size zN.cells 50 := Blk.new w _ _
  have L1 : Below w.heap.size w (w.alloc (.cells zN.cells 50)) := by go_grown
  have hi := infoN newN
  go_enter Tryz.func14, Tryz.ntmps14
  go_upto_region 1 with fail
  refine wp_region_lit ?_
  refine wpList_build_eq rfl 50 _ rfl newN.cells (by simp only [List.map_toArray, List.map_cons, List.map_nil]; exact build_new _) ?_
  simp only [Act.put, List.setIfInBounds_toArray, List.set_cons_zero, List.set_cons_succ]
  refine wpList_store_blk rfl 50 _ _ rfl w.heap.size zN.cells newN.cells 50 rfl rfl Z1 (by rw [ncells_size, ncells_size]) hi (one_cellN _ rfl) ?_
  rintro w2 B3 K2
  simp only [Act.put]
  go_wp2
  exact bodyPost_ret (v := .agg newN.cells) (result_node rfl _ _ w.heap.size _ rfl B3) rfl ⟨rfl, K2.bel _ _ (Nat.le_refl _) L1⟩

/-- What the first of four does with its first value. -/
def firstA : At := follow 0 (enter 0 ⟨(newN.nd []).push 7, []⟩ (newN.nd []).round)
theorem firstA_words : firstA.words = [⟨1, 0, 0, 0, 7, -1⟩, ⟨2, 0, 0, 0, 7, 0⟩] := by show _ = _; kernel_rfl
theorem firstA_step : firstA.n.step = 1 := by show _ = _; kernel_rfl
theorem newN_good : goodN newN [] = true := by show _ = _; kernel_rfl

end Go.Proofs.YtmmgaonlmpajbacGreat
