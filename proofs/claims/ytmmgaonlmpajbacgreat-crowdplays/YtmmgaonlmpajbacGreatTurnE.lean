/-
  The landed package node: Hear.
  The landed package node: Time.
-/
import Derived.Test.YtmmgaonlmpajbacGreatTurnD
import Derived.Test.YtmmgaonlmpajbacGreatTurnB
namespace Go.Proofs.YtmmgaonlmpajbacGreat
open Go.RowKit

/-- A call is refused: the node as it was, no words, the error. -/
def Refused (w : World) (n : NI) (l : List Int) (code : Int) (e : Ending) (w' : World) : Prop :=
  ∃ q', e = .returned (.tuple #[.agg (n.setQ q').cells, .slice none 0 0, .int .i64 code]) ∧ w'.ownsRow w.heap.size 3 1 q' l.length (l.map (Value.int .i64)) ∧ Below w.heap.size w w'
/-- A call is answered: the node behind it, its words. -/
def Done (w : World) (a : At) (e : Ending) (w' : World) : Prop :=
  ∃ q' sd', e = .returned (.tuple #[.agg (a.n.ni q').cells, sd', .int .i64 0]) ∧ w'.ownsRow w.heap.size 3 1 q' a.n.queue.length (a.n.queue.map (Value.int .i64)) ∧ w'.ownsRow w.heap.size 36 6 sd' a.words.length (wdsCells a.words) ∧ Below w.heap.size w w'

theorem st_begun {W : World} {g who : Nat} {n : NI} {l : List Int} {q : Value} (hg : goodN n l = true) (T : Blk W g (tcells (n.setQ q) (who : Int) (.slice none 0 0)) 92) (ho : W.ownsRow (g + 1) 3 1 q l.length (l.map (Value.int .i64))) : St W g 92 who ⟨n.nd l, []⟩ q (.slice none 0 0) := by
  obtain ⟨_, e1, e2, e3⟩ := gn_of hg
  refine ⟨?_, ho, World.ownsRow_nil _ _ _ _⟩
  have := cells_nd e1 e2 e3 q
  show Blk W g (tcells ((n.nd l).ni q) who _) _
  unfold tcells at T ⊢
  rw [this]
  exact T

set_option maxRecDepth 100000 in
set_option maxHeartbeats 4000000 in
theorem nhear_begin (n : NI) (l : List Int) (who : Int) (v : Wd) (w : World) (hq : Ints w n.q l) (hl : l.length * 8 ≤ 140737488355328) (code : Int) (hcode : Hid (code = if goodN n l then (if win who 0 3 then 0 else 2) else 1)) (hne : code ≠ 0) :
    Calls Tryz.prog 56 #[.agg n.cells, .int .i64 who, .agg #[.int .i64 v.k, .int .i64 v.f, .int .i64 v.h, .int .i64 v.r, .int .i64 v.v, .int .i64 v.x]] w (Refused w n l code) := by
  have hz := run_zeroN
  have hiN := infoN n
  have hi6 : (Tryz.prog.info? 36).map (·.size) = some (#[.int .i64 v.k, .int .i64 v.f, .int .i64 v.h, .int .i64 v.r, .int .i64 v.v, .int .i64 v.x] : Array Value).size := by show _ = some 6; kernel_rfl
  have B0 : Blk (((w.alloc (.cells n.cells 50)).alloc (.cells #[.int .i64 v.k, .int .i64 v.f, .int .i64 v.h, .int .i64 v.r, .int .i64 v.v, .int .i64 v.x] 36)).alloc (.cells zN.cells 50)) w.heap.size n.cells 50 := ((Blk.new w _ _).alloc _).alloc _
  have Bw : Blk (((w.alloc (.cells n.cells 50)).alloc (.cells #[.int .i64 v.k, .int .i64 v.f, .int .i64 v.h, .int .i64 v.r, .int .i64 v.v, .int .i64 v.x] 36)).alloc (.cells zN.cells 50)) (w.heap.size + 1) #[.int .i64 v.k, .int .i64 v.f, .int .i64 v.h, .int .i64 v.r, .int .i64 v.v, .int .i64 v.x] 36 := (Blk.new1 w _ _ _).alloc _
  have Bz : Blk (((w.alloc (.cells n.cells 50)).alloc (.cells #[.int .i64 v.k, .int .i64 v.f, .int .i64 v.h, .int .i64 v.r, .int .i64 v.v, .int .i64 v.x] 36)).alloc (.cells zN.cells 50)) (w.heap.size + 1 + 1) zN.cells 50 := Blk.new2 w _ _ _ _
  have L0 : Below w.heap.size w (((w.alloc (.cells n.cells 50)).alloc (.cells #[.int .i64 v.k, .int .i64 v.f, .int .i64 v.h, .int .i64 v.r, .int .i64 v.v, .int .i64 v.x] 36)).alloc (.cells zN.cells 50)) := by go_grown
  have hsz : (((w.alloc (.cells n.cells 50)).alloc (.cells #[.int .i64 v.k, .int .i64 v.f, .int .i64 v.h, .int .i64 v.r, .int .i64 v.v, .int .i64 v.x] 36)).alloc (.cells zN.cells 50)).heap.size = w.heap.size + 3 := by simp
  have hc1 : (code == 0) = false := by simpa using hne
  have hc2 : (code != 0) = true := by simpa using hne
  go_enter Tryz.func56, Tryz.ntmps56
  go_upto_region 1 with fail
  generalize (((w.alloc (.cells n.cells 50)).alloc (.cells #[.int .i64 v.k, .int .i64 v.f, .int .i64 v.h, .int .i64 v.r, .int .i64 v.v, .int .i64 v.x] 36)).alloc (.cells zN.cells 50)) = w0 at B0 Bw Bz L0 hsz ⊢
  have hbeg := tbegin_any n l who w0 (hq.keep L0) hl code hcode
  clear hq hz
  go_wp2_with (first
    | (refine wpList_load_blk rfl 50 _ rfl w.heap.size rfl 50 n.cells _ B0 Tryz.underlying50 rfl hiN ?_)
    | (go_at_call 39; refine hbeg.mono ?_; rintro e w1 ⟨g, q', rfl, hg, T1, hown, L1⟩; have Bw1 := Bw.below L1; have Bz1 := Bz.below L1; clear hbeg B0 Bw)
    | (go_at_call 40; refine (refuse_any T1 (own_one hown) code).mono ?_; rintro e w5 ⟨rfl, L5⟩; have Bz5 := (Bz1).below L5; have hi5 := infoN (n.setQ q'))
    | (refine wpList_store_blk rfl 50 _ _ rfl (w.heap.size + 1 + 1) zN.cells (n.setQ q').cells 50 rfl rfl Bz5 (by rw [ncells_size, ncells_size]) hi5 (one_cellN _ (own_one hown)) ?_; rintro w6 B6 K6))
  refine bodyPost_ret (results_three rfl _ _ (w.heap.size + 1 + 1) (n.setQ q').cells _ _ rfl rfl rfl (load_node B6)) rfl ?_
  exact ⟨q', rfl, own_mono (own_kept (own_below hown L5) K6 (by omega)) (by omega), K6.bel _ _ (by omega) (bel_trans (bel_trans L0 L1) L5)⟩

set_option maxRecDepth 100000 in
set_option maxHeartbeats 4000000 in
theorem nhear_word (n : NI) (l : List Int) (who : Int) (v : Wd) (w : World) (hq : Ints w n.q l) (hl : l.length * 8 ≤ 140737488355328) (hgn : goodN n l = true) (hw : win who 0 3 = true) (c : Int) (hc : goodC v.k v.f v.h v.r v.v v.x = c) (hne : c ≠ 0) :
    Calls Tryz.prog 56 #[.agg n.cells, .int .i64 who, .agg #[.int .i64 v.k, .int .i64 v.f, .int .i64 v.h, .int .i64 v.r, .int .i64 v.v, .int .i64 v.x]] w (Refused w n l c) := by
  have hz := run_zeroN
  have hiN := infoN n
  have hi6 : (Tryz.prog.info? 36).map (·.size) = some (#[.int .i64 v.k, .int .i64 v.f, .int .i64 v.h, .int .i64 v.r, .int .i64 v.v, .int .i64 v.x] : Array Value).size := by show _ = some 6; kernel_rfl
  have B0 : Blk (((w.alloc (.cells n.cells 50)).alloc (.cells #[.int .i64 v.k, .int .i64 v.f, .int .i64 v.h, .int .i64 v.r, .int .i64 v.v, .int .i64 v.x] 36)).alloc (.cells zN.cells 50)) w.heap.size n.cells 50 := ((Blk.new w _ _).alloc _).alloc _
  have Bw : Blk (((w.alloc (.cells n.cells 50)).alloc (.cells #[.int .i64 v.k, .int .i64 v.f, .int .i64 v.h, .int .i64 v.r, .int .i64 v.v, .int .i64 v.x] 36)).alloc (.cells zN.cells 50)) (w.heap.size + 1) #[.int .i64 v.k, .int .i64 v.f, .int .i64 v.h, .int .i64 v.r, .int .i64 v.v, .int .i64 v.x] 36 := (Blk.new1 w _ _ _).alloc _
  have Bz : Blk (((w.alloc (.cells n.cells 50)).alloc (.cells #[.int .i64 v.k, .int .i64 v.f, .int .i64 v.h, .int .i64 v.r, .int .i64 v.v, .int .i64 v.x] 36)).alloc (.cells zN.cells 50)) (w.heap.size + 1 + 1) zN.cells 50 := Blk.new2 w _ _ _ _
  have L0 : Below w.heap.size w (((w.alloc (.cells n.cells 50)).alloc (.cells #[.int .i64 v.k, .int .i64 v.f, .int .i64 v.h, .int .i64 v.r, .int .i64 v.v, .int .i64 v.x] 36)).alloc (.cells zN.cells 50)) := by go_grown
  have hsz : (((w.alloc (.cells n.cells 50)).alloc (.cells #[.int .i64 v.k, .int .i64 v.f, .int .i64 v.h, .int .i64 v.r, .int .i64 v.v, .int .i64 v.x] 36)).alloc (.cells zN.cells 50)).heap.size = w.heap.size + 3 := by simp
  have hcode : Hid ((0 : Int) = if goodN n l then (if win who 0 3 then 0 else 2) else 1) := by show _ = _; rw [hgn, hw]; rfl
  have hwg : ∀ W, Calls Tryz.prog 44 #[.agg #[.int .i64 v.k, .int .i64 v.f, .int .i64 v.h, .int .i64 v.r, .int .i64 v.v, .int .i64 v.x]] W fun e w' => e = .returned (.int .i64 c) ∧ Below W.heap.size W w' := fun W => by have := good_any v.k v.f v.h v.r v.v v.x W; rwa [hc] at this
  have hc1 : (c == 0) = false := by simpa using hne
  have hc2 : (c != 0) = true := by simpa using hne
  clear hc hgn hw
  go_enter Tryz.func56, Tryz.ntmps56
  go_upto_region 1 with fail
  generalize (((w.alloc (.cells n.cells 50)).alloc (.cells #[.int .i64 v.k, .int .i64 v.f, .int .i64 v.h, .int .i64 v.r, .int .i64 v.v, .int .i64 v.x] 36)).alloc (.cells zN.cells 50)) = w0 at B0 Bw Bz L0 hsz ⊢
  have hbeg := tbegin_any n l who w0 (hq.keep L0) hl 0 hcode
  clear hq hz
  go_wp2_with (first
    | (refine wpList_load_blk rfl 50 _ rfl w.heap.size rfl 50 n.cells _ B0 Tryz.underlying50 rfl hiN ?_)
    | (go_at_call 39; refine hbeg.mono ?_; rintro e w1 ⟨g, q', rfl, hg, T1, hown, L1⟩; have Bw1 := Bw.below L1; have Bz1 := Bz.below L1; clear hbeg B0 Bw)
    | (refine wpList_load_blk rfl 36 _ rfl (w.heap.size + 1) rfl 36 _ _ Bw1 Tryz.underlying36 rfl hi6 ?_)
    | (go_at_call 44; refine (hwg _).mono ?_; rintro e w2 ⟨rfl, L2⟩; replace Bw1 := Bw1.below L2; have Bz2 := Bz1.below L2; have T2 := T1.below L2; have hown2 := own_below hown L2)
    | (go_at_call 40; refine (refuse_any T2 (own_one hown) c).mono ?_; rintro e w5 ⟨rfl, L5⟩; have Bz5 := (Bz2).below L5; have hi5 := infoN (n.setQ q'))
    | (refine wpList_store_blk rfl 50 _ _ rfl (w.heap.size + 1 + 1) zN.cells (n.setQ q').cells 50 rfl rfl Bz5 (by rw [ncells_size, ncells_size]) hi5 (one_cellN _ (own_one hown)) ?_; rintro w6 B6 K6))
  refine bodyPost_ret (results_three rfl _ _ (w.heap.size + 1 + 1) (n.setQ q').cells _ _ rfl rfl rfl (load_node B6)) rfl ?_
  exact ⟨q', rfl, own_mono (own_kept (own_below hown2 L5) K6 (by omega)) (by omega), K6.bel _ _ (by omega) (bel_trans (bel_trans (bel_trans L0 L1) L2) L5)⟩

set_option maxRecDepth 100000 in
set_option maxHeartbeats 4000000 in
theorem nhear_good (n : NI) (l : List Int) (who : Int) (v : Wd) (w : World) (hq : Ints w n.q l) (hl : l.length * 8 ≤ 140737488355328) (hgn : goodN n l = true) (whon : Nat) (hwn : who = (whon : Int)) (hw4 : whon < 4) (h : Nat) (hvh : v.h = (h : Int)) (hgc : goodC v.k v.f v.h v.r v.v v.x = 0) :
    Calls Tryz.prog 56 #[.agg n.cells, .int .i64 who, .agg #[.int .i64 v.k, .int .i64 v.f, .int .i64 v.h, .int .i64 v.r, .int .i64 v.v, .int .i64 v.x]] w (Done w (follow whon ⟨(n.nd l).setSheet h (hearW ((n.nd l).heard h) v), []⟩)) := by
  have hz := run_zeroN
  have hiN := infoN n
  have hi6 : (Tryz.prog.info? 36).map (·.size) = some (#[.int .i64 v.k, .int .i64 v.f, .int .i64 v.h, .int .i64 v.r, .int .i64 v.v, .int .i64 v.x] : Array Value).size := by show _ = some 6; kernel_rfl
  have B0 : Blk (((w.alloc (.cells n.cells 50)).alloc (.cells #[.int .i64 v.k, .int .i64 v.f, .int .i64 v.h, .int .i64 v.r, .int .i64 v.v, .int .i64 v.x] 36)).alloc (.cells zN.cells 50)) w.heap.size n.cells 50 := ((Blk.new w _ _).alloc _).alloc _
  have Bw : Blk (((w.alloc (.cells n.cells 50)).alloc (.cells #[.int .i64 v.k, .int .i64 v.f, .int .i64 v.h, .int .i64 v.r, .int .i64 v.v, .int .i64 v.x] 36)).alloc (.cells zN.cells 50)) (w.heap.size + 1) #[.int .i64 v.k, .int .i64 v.f, .int .i64 v.h, .int .i64 v.r, .int .i64 v.v, .int .i64 v.x] 36 := (Blk.new1 w _ _ _).alloc _
  have Bz : Blk (((w.alloc (.cells n.cells 50)).alloc (.cells #[.int .i64 v.k, .int .i64 v.f, .int .i64 v.h, .int .i64 v.r, .int .i64 v.v, .int .i64 v.x] 36)).alloc (.cells zN.cells 50)) (w.heap.size + 1 + 1) zN.cells 50 := Blk.new2 w _ _ _ _
  have L0 : Below w.heap.size w (((w.alloc (.cells n.cells 50)).alloc (.cells #[.int .i64 v.k, .int .i64 v.f, .int .i64 v.h, .int .i64 v.r, .int .i64 v.v, .int .i64 v.x] 36)).alloc (.cells zN.cells 50)) := by go_grown
  have hsz : (((w.alloc (.cells n.cells 50)).alloc (.cells #[.int .i64 v.k, .int .i64 v.f, .int .i64 v.h, .int .i64 v.r, .int .i64 v.v, .int .i64 v.x] 36)).alloc (.cells zN.cells 50)).heap.size = w.heap.size + 3 := by simp
  have hcode : Hid ((0 : Int) = if goodN n l then (if win who 0 3 then 0 else 2) else 1) := by show _ = _; rw [hgn, show win who 0 3 = true by simp [win]; omega]; rfl
  have hwg : ∀ W, Calls Tryz.prog 44 #[.agg #[.int .i64 v.k, .int .i64 v.f, .int .i64 v.h, .int .i64 v.r, .int .i64 v.v, .int .i64 v.x]] W fun e w' => e = .returned (.int .i64 0) ∧ Below W.heap.size W w' := fun W => by have := good_any v.k v.f v.h v.r v.v v.x W; rwa [hgc] at this
  have hh4 : h < 4 := by have := goodC_bds hgc; omega
  have HG : Hid (goodN n l = true) := hgn
  have HV : Hid (v.h = (h : Int)) := hvh
  have HW : Hid (who = (whon : Int)) := hwn
  clear hgn hgc hvh hwn
  go_enter Tryz.func56, Tryz.ntmps56
  go_upto_region 1 with fail
  generalize (((w.alloc (.cells n.cells 50)).alloc (.cells #[.int .i64 v.k, .int .i64 v.f, .int .i64 v.h, .int .i64 v.r, .int .i64 v.v, .int .i64 v.x] 36)).alloc (.cells zN.cells 50)) = w0 at B0 Bw Bz L0 hsz ⊢
  have hbeg := tbegin_any n l who w0 (hq.keep L0) hl 0 hcode
  clear hq hz
  go_wp2_with (first
    | (refine wpList_load_blk rfl 50 _ rfl w.heap.size rfl 50 n.cells _ B0 Tryz.underlying50 rfl hiN ?_)
    | (go_at_call 39; refine hbeg.mono ?_; rintro e w1 ⟨g, q', rfl, hg, T1, hown, L1⟩; have Bw1 := Bw.below L1; have Bz1 := Bz.below L1; clear hbeg B0 Bw)
    | (refine wpList_load_blk rfl 36 _ rfl (w.heap.size + 1) rfl 36 _ _ Bw1 Tryz.underlying36 rfl hi6 ?_)
    | (go_at_call 44; refine (hwg _).mono ?_; rintro e w2 ⟨rfl, L2⟩; replace Bw1 := Bw1.below L2; have Bz2 := Bz1.below L2; have T2 := T1.below L2; have hown2 := own_below hown L2)
    | (go_at_call 77; rw [HW.out] at T2; have S2 := st_begun HG.out T2 hown2; have hcon := thear_any S2.blk v h HV.out hh4; rw [← HV.out] at hcon; refine hcon.mono ?_; rintro e w3 ⟨rfl, B3, G3⟩; have S3 : St w3 g 92 whon ⟨(n.nd l).setSheet h (hearW ((n.nd l).heard h) v), []⟩ q' (.slice none 0 0) := ⟨B3, own_grown S2.own G3 (by omega), own_grown S2.said G3 (by omega)⟩; have Bz3 := Bz2.grown G3 (by omega); clear hcon)
    | (go_at_call 42; refine (tfollow_any S3 (FI.start ((gn_of HG.out).1.hear h v))).mono ?_; rintro e w4 ⟨rfl, q4, sd4, S4⟩; have Bz4 : Blk w4 (w.heap.size + 1 + 1) zN.cells 50 := (by unfold Blk; rw [S4.2.block _ (by omega)]; exact Bz3); obtain ⟨sa, sc, hsd⟩ := own_shape S4.1.said; subst hsd)
    | (go_at_call 43; refine (answer_any S4.1.blk (own_one S4.1.own)).mono ?_; rintro e w5 ⟨rfl, L5⟩; have Bz5 := Bz4.below L5; have hi5 := infoN ((follow whon ⟨(n.nd l).setSheet h (hearW ((n.nd l).heard h) v), []⟩).n.ni q4))
    | (refine wpList_store_blk rfl 50 _ _ rfl (w.heap.size + 1 + 1) zN.cells ((follow whon ⟨(n.nd l).setSheet h (hearW ((n.nd l).heard h) v), []⟩).n.ni q4).cells 50 rfl rfl Bz5 (by rw [ncells_size, ncells_size]) hi5 (one_cellN _ (own_one S4.1.own)) ?_; rintro w6 B6 K6))
  refine bodyPost_ret (results_three rfl _ _ (w.heap.size + 1 + 1) _ _ _ rfl rfl rfl (load_node B6)) rfl ?_
  exact ⟨q4, _, rfl, own_mono (own_kept (own_below S4.1.own L5) K6 (by omega)) (by omega), own_mono (own_kept (own_below S4.1.said L5) K6 (by omega)) (by omega), K6.bel _ _ (by omega) (bel_trans (bel_seq (bel_seq (bel_trans (bel_trans L0 L1) L2) (below_of_grown G3 (by omega) (by have := L1.size; have := L2.size; omega))) (S4.2.mono (by omega))) L5)⟩
end Go.Proofs.YtmmgaonlmpajbacGreat
namespace Go.Proofs.YtmmgaonlmpajbacGreat
open Go.RowKit

theorem GN.gave {who : Nat} {a : At} (h : GN a.n) (_hh : a.n.height < 4) : GN (gaveUp who a).n := by
  unfold gaveUp
  split
  · exact GN.tell (a := ⟨{ a.n with step := 1 }, a.words⟩) ⟨h.height, h.round, by show 1 ≤ 2; omega, h.bd, h.vd, h.sheets, h.low, h.high, h.queue, h.qlen⟩ _ _ _
  · split
    · split
      · exact GN.tell (a := ⟨{ a.n with step := 2 }, a.words⟩) ⟨h.height, h.round, by show 2 ≤ 2; omega, h.bd, h.vd, h.sheets, h.low, h.high, h.queue, h.qlen⟩ _ _ _
      · exact h
    · split
      · rename_i c
        exact h.enter _ (by omega) c.2
      · exact h
theorem gave_len (who : Nat) (a : At) : (gaveUp who a).words.length ≤ a.words.length + 1 := by
  unfold gaveUp
  split
  · simp [tell]
  · split
    · split
      · simp [tell]
      · simp
    · split
      · exact enter_len _ _ _
      · simp
theorem FI.gave {who : Nat} {n : Nd} (h : GN n) (hh : n.height < 4) : FI (gaveUp who ⟨n, []⟩) := by
  have hg : GN (gaveUp who ⟨n, []⟩).n := GN.gave (a := ⟨n, []⟩) h hh
  refine ⟨hg, ?_⟩
  have h1 := gave_len who ⟨n, []⟩
  have h2 := mu_le hg.ng
  simp at h1
  omega

set_option maxRecDepth 100000 in
set_option maxHeartbeats 4000000 in
theorem ntime_begin (n : NI) (l : List Int) (who : Int) (w : World) (hq : Ints w n.q l) (hl : l.length * 8 ≤ 140737488355328) (code : Int) (hcode : Hid (code = if goodN n l then (if win who 0 3 then 0 else 2) else 1)) (hne : code ≠ 0) :
    Calls Tryz.prog 21 #[.agg n.cells, .int .i64 who] w (Refused w n l code) := by
  have hz := run_zeroN
  have hiN := infoN n
  have B0 : Blk ((w.alloc (.cells n.cells 50)).alloc (.cells zN.cells 50)) w.heap.size n.cells 50 := (Blk.new w _ _).alloc _
  have Bz : Blk ((w.alloc (.cells n.cells 50)).alloc (.cells zN.cells 50)) (w.heap.size + 1) zN.cells 50 := Blk.new1 w _ _ _
  have L0 : Below w.heap.size w ((w.alloc (.cells n.cells 50)).alloc (.cells zN.cells 50)) := by go_grown
  have hsz : ((w.alloc (.cells n.cells 50)).alloc (.cells zN.cells 50)).heap.size = w.heap.size + 2 := by simp
  have hc2 : (code != 0) = true := by simpa using hne
  go_enter Tryz.func21, Tryz.ntmps21
  go_upto_region 1 with fail
  generalize ((w.alloc (.cells n.cells 50)).alloc (.cells zN.cells 50)) = w0 at B0 Bz L0 hsz ⊢
  have hbeg := tbegin_any n l who w0 (hq.keep L0) hl code hcode
  clear hq hz
  go_wp2_with (first
    | (refine wpList_load_blk rfl 50 _ rfl w.heap.size rfl 50 n.cells _ B0 Tryz.underlying50 rfl hiN ?_)
    | (go_at_call 39; refine hbeg.mono ?_; rintro e w1 ⟨g, q', rfl, hg, T1, hown, L1⟩; have Bz1 := Bz.below L1; clear hbeg B0)
    | (go_at_call 40; refine (refuse_any T1 (own_one hown) code).mono ?_; rintro e w5 ⟨rfl, L5⟩; have Bz5 := Bz1.below L5; have hi5 := infoN (n.setQ q'))
    | (refine wpList_store_blk rfl 50 _ _ rfl (w.heap.size + 1) zN.cells (n.setQ q').cells 50 rfl rfl Bz5 (by rw [ncells_size, ncells_size]) hi5 (one_cellN _ (own_one hown)) ?_; rintro w6 B6 K6))
  refine bodyPost_ret (results_three rfl _ _ (w.heap.size + 1) (n.setQ q').cells _ _ rfl rfl rfl (load_node B6)) rfl ?_
  exact ⟨q', rfl, own_mono (own_kept (own_below hown L5) K6 (by omega)) (by omega), K6.bel _ _ (by omega) (bel_trans (bel_trans L0 L1) L5)⟩

set_option maxRecDepth 100000 in
set_option maxHeartbeats 4000000 in
theorem ntime_end (n : NI) (l : List Int) (who : Int) (w : World) (hq : Ints w n.q l) (hl : l.length * 8 ≤ 140737488355328) (hgn : goodN n l = true) (whon : Nat) (hwn : who = (whon : Int)) (hw4 : whon < 4) (h4 : (n.nd l).height = 4) :
    Calls Tryz.prog 21 #[.agg n.cells, .int .i64 who] w (Done w ⟨n.nd l, []⟩) := by
  have hz := run_zeroN
  have hiN := infoN n
  have B0 : Blk ((w.alloc (.cells n.cells 50)).alloc (.cells zN.cells 50)) w.heap.size n.cells 50 := (Blk.new w _ _).alloc _
  have Bz : Blk ((w.alloc (.cells n.cells 50)).alloc (.cells zN.cells 50)) (w.heap.size + 1) zN.cells 50 := Blk.new1 w _ _ _
  have L0 : Below w.heap.size w ((w.alloc (.cells n.cells 50)).alloc (.cells zN.cells 50)) := by go_grown
  have hsz : ((w.alloc (.cells n.cells 50)).alloc (.cells zN.cells 50)).heap.size = w.heap.size + 2 := by simp
  have hcode : Hid ((0 : Int) = if goodN n l then (if win who 0 3 then 0 else 2) else 1) := by show _ = _; rw [hgn, show win who 0 3 = true by simp [win]; omega]; rfl
  have HG : Hid (goodN n l = true) := hgn
  have HW : Hid (who = (whon : Int)) := hwn
  have hgn1 := (gn_of hgn).1
  clear hgn hwn
  have hh : ¬ ((n.nd l).height : Int) < 4 := by omega
  clear h4
  go_enter Tryz.func21, Tryz.ntmps21
  go_upto_region 1 with fail
  generalize ((w.alloc (.cells n.cells 50)).alloc (.cells zN.cells 50)) = w0 at B0 Bz L0 hsz ⊢
  have hbeg := tbegin_any n l who w0 (hq.keep L0) hl 0 hcode
  clear hq hz
  go_wp2_with (first
    | (refine wpList_load_blk rfl 50 _ rfl w.heap.size rfl 50 n.cells _ B0 Tryz.underlying50 rfl hiN ?_)
    | (go_at_call 39; refine hbeg.mono ?_; rintro e w1 ⟨g, q', rfl, hg, T1, hown, L1⟩; have Bz1 := Bz.below L1; clear hbeg B0; rw [HW.out] at T1; have S1 := st_begun HG.out T1 hown; obtain ⟨c0, c1, c2, c3, c4, c5, c6, c7, c8⟩ := S1.blk.tnums)
    | (go_at_call 43; refine (answer_any S1.blk (own_one S1.own)).mono ?_; rintro e w5 ⟨rfl, L5⟩; have Bz5 := Bz1.below L5; have hi5 := infoN ((⟨n.nd l, []⟩ : At).n.ni q'))
    | (refine wpList_store_blk rfl 50 _ _ rfl (w.heap.size + 1) zN.cells ((⟨n.nd l, []⟩ : At).n.ni q').cells 50 rfl rfl Bz5 (by rw [ncells_size, ncells_size]) hi5 (one_cellN _ (own_one S1.own)) ?_; rintro w6 B6 K6))
  refine bodyPost_ret (results_three rfl _ _ (w.heap.size + 1) _ _ _ rfl rfl rfl (load_node B6)) rfl ?_
  exact ⟨q', _, rfl, own_mono (own_kept (own_below S1.own L5) K6 (by omega)) (by omega), own_mono (own_kept (own_below S1.said L5) K6 (by omega)) (by omega), K6.bel _ _ (by omega) (bel_trans (bel_trans L0 L1) L5)⟩

set_option maxRecDepth 100000 in
set_option maxHeartbeats 4000000 in
theorem ntime_good (n : NI) (l : List Int) (who : Int) (w : World) (hq : Ints w n.q l) (hl : l.length * 8 ≤ 140737488355328) (hgn : goodN n l = true) (whon : Nat) (hwn : who = (whon : Int)) (hw4 : whon < 4) (h4 : (n.nd l).height < 4) :
    Calls Tryz.prog 21 #[.agg n.cells, .int .i64 who] w (Done w (follow whon (gaveUp whon ⟨n.nd l, []⟩))) := by
  have hz := run_zeroN
  have hiN := infoN n
  have B0 : Blk ((w.alloc (.cells n.cells 50)).alloc (.cells zN.cells 50)) w.heap.size n.cells 50 := (Blk.new w _ _).alloc _
  have Bz : Blk ((w.alloc (.cells n.cells 50)).alloc (.cells zN.cells 50)) (w.heap.size + 1) zN.cells 50 := Blk.new1 w _ _ _
  have L0 : Below w.heap.size w ((w.alloc (.cells n.cells 50)).alloc (.cells zN.cells 50)) := by go_grown
  have hsz : ((w.alloc (.cells n.cells 50)).alloc (.cells zN.cells 50)).heap.size = w.heap.size + 2 := by simp
  have hcode : Hid ((0 : Int) = if goodN n l then (if win who 0 3 then 0 else 2) else 1) := by show _ = _; rw [hgn, show win who 0 3 = true by simp [win]; omega]; rfl
  have HG : Hid (goodN n l = true) := hgn
  have HW : Hid (who = (whon : Int)) := hwn
  have hgn1 := (gn_of hgn).1
  clear hgn hwn
  have hh : ((n.nd l).height : Int) < 4 := by omega
  go_enter Tryz.func21, Tryz.ntmps21
  go_upto_region 1 with fail
  generalize ((w.alloc (.cells n.cells 50)).alloc (.cells zN.cells 50)) = w0 at B0 Bz L0 hsz ⊢
  have hbeg := tbegin_any n l who w0 (hq.keep L0) hl 0 hcode
  clear hq hz
  go_wp2_with (first
    | (refine wpList_load_blk rfl 50 _ rfl w.heap.size rfl 50 n.cells _ B0 Tryz.underlying50 rfl hiN ?_)
    | (go_at_call 39; refine hbeg.mono ?_; rintro e w1 ⟨g, q', rfl, hg, T1, hown, L1⟩; have Bz1 := Bz.below L1; clear hbeg B0; rw [HW.out] at T1; have S1 := st_begun HG.out T1 hown; obtain ⟨c0, c1, c2, c3, c4, c5, c6, c7, c8⟩ := S1.blk.tnums)
    | (go_at_call 41; refine (tgive_any S1 h4 hgn1.round (by simp) hgn1.vi hgn1.step).mono ?_; rintro e w3 ⟨rfl, sd3, S3⟩; have Bz3 : Blk w3 (w.heap.size + 1) zN.cells 50 := (by unfold Blk; rw [S3.2.block _ (by omega)]; exact Bz1))
    | (go_at_call 42; refine (tfollow_any S3.1 (FI.gave hgn1 h4)).mono ?_; rintro e w4 ⟨rfl, q4, sd4, S4⟩; have Bz4 : Blk w4 (w.heap.size + 1) zN.cells 50 := (by unfold Blk; rw [S4.2.block _ (by omega)]; exact Bz3); obtain ⟨sa, sc, hsd⟩ := own_shape S4.1.said; subst hsd)
    | (go_at_call 43; refine (answer_any S4.1.blk (own_one S4.1.own)).mono ?_; rintro e w5 ⟨rfl, L5⟩; have Bz5 := Bz4.below L5; have hi5 := infoN ((follow whon (gaveUp whon ⟨n.nd l, []⟩)).n.ni q4))
    | (refine wpList_store_blk rfl 50 _ _ rfl (w.heap.size + 1) zN.cells ((follow whon (gaveUp whon ⟨n.nd l, []⟩)).n.ni q4).cells 50 rfl rfl Bz5 (by rw [ncells_size, ncells_size]) hi5 (one_cellN _ (own_one S4.1.own)) ?_; rintro w6 B6 K6))
  refine bodyPost_ret (results_three rfl _ _ (w.heap.size + 1) _ _ _ rfl rfl rfl (load_node B6)) rfl ?_
  exact ⟨q4, _, rfl, own_mono (own_kept (own_below S4.1.own L5) K6 (by omega)) (by omega), own_mono (own_kept (own_below S4.1.said L5) K6 (by omega)) (by omega), K6.bel _ _ (by omega) (bel_trans (bel_seq (bel_seq (bel_trans L0 L1) (S3.2.mono (by omega))) (S4.2.mono (by omega))) L5)⟩
end Go.Proofs.YtmmgaonlmpajbacGreat
