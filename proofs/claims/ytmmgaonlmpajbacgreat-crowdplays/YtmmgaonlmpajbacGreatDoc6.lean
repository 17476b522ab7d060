/-
  The document's node: HearWord.
-/
import Derived.Test.YtmmgaonlmpajbacGreatDoc5
import Derived.Test.YtmmgaonlmpajbacGreatTurnE
import Derived.Test.YtmmgaonlmpajbacGreatBase
namespace Go.Proofs.YtmmgaonlmpajbacGreat
open Go.RowKit

/-- A call is refused: the node as it was, no words, the error. -/
def RefD (w : World) (n : NI) (code : Int) (e : Ending) (w' : World) : Prop := e = .returned (.tuple #[.agg n.cells, .slice none 0 0, .int .i64 code]) ∧ Below w.heap.size w w'
/-- What follows, to its end, of a node at work. -/
def RAll : Prop := ∀ (bb : Nat) (w : World) (g who : Nat) (a : At) (q sd : Value), Sr bb w g 98 who a q sd → FI a → Calls Tryz.prog 48 #[.pointer (some ⟨g, 0, none⟩)] w fun e w' => e = .returned (.tuple #[]) ∧ ∃ q' sd', Sr bb w' g 98 who (follow who a) q' sd' ∧ Below g w w'
theorem sr_opened {b : Nat} {W : World} {g who : Nat} {n : NI} {l : List Int} {q : Value} (hg : goodN n l = true) (T : Blk W g (tcells (n.setQ q) (who : Int) (.slice none 0 0)) 98) (ho : W.ownsRow b 3 1 q l.length (l.map (Value.int .i64))) (hb : b ≤ g) (ha : q.ownBlock ≠ some g) : Sr b W g 98 who ⟨n.nd l, []⟩ q (.slice none 0 0) := by
  obtain ⟨_, e1, e2, e3⟩ := gn_of hg
  refine ⟨?_, ho, World.ownsRow_nil _ _ _ _, hb, ha⟩
  have := cells_nd e1 e2 e3 q
  show Blk W g (tcells ((n.nd l).ni q) who _) _
  unfold tcells at T ⊢
  rw [this]
  exact T
theorem ints_one {W : World} {q : Value} {l : List Int} (h : Ints W q l) : q.oneCell' = true := by
  obtain ⟨a, c, rfl⟩ := h.len; rfl

set_option maxRecDepth 100000 in
set_option maxHeartbeats 4000000 in
theorem rhear_begin (n : NI) (l : List Int) (who : Int) (v : Wd) (w : World) (hq : Ints w n.q l) (hl : l.length * 8 ≤ 140737488355328) (code : Int) (hcode : Hid (code = if goodN n l then (if win who 0 3 then 0 else 2) else 1)) (hne : code ≠ 0) :
    Calls Tryz.prog 28 #[.agg n.cells, .int .i64 who, .agg #[.int .i64 v.k, .int .i64 v.f, .int .i64 v.h, .int .i64 v.r, .int .i64 v.v, .int .i64 v.x]] w (RefD w n code) := by
  have hz := run_zeroN
  have hiN := infoN n
  have hi6 : (Tryz.prog.info? 36).map (·.size) = some (#[.int .i64 v.k, .int .i64 v.f, .int .i64 v.h, .int .i64 v.r, .int .i64 v.v, .int .i64 v.x] : Array Value).size := by show _ = some 6; kernel_rfl
  have B0 : Blk (((w.alloc (.cells n.cells 50)).alloc (.cells #[.int .i64 v.k, .int .i64 v.f, .int .i64 v.h, .int .i64 v.r, .int .i64 v.v, .int .i64 v.x] 36)).alloc (.cells zN.cells 50)) w.heap.size n.cells 50 := ((Blk.new w _ _).alloc _).alloc _
  have Bw : Blk (((w.alloc (.cells n.cells 50)).alloc (.cells #[.int .i64 v.k, .int .i64 v.f, .int .i64 v.h, .int .i64 v.r, .int .i64 v.v, .int .i64 v.x] 36)).alloc (.cells zN.cells 50)) (w.heap.size + 1) #[.int .i64 v.k, .int .i64 v.f, .int .i64 v.h, .int .i64 v.r, .int .i64 v.v, .int .i64 v.x] 36 := (Blk.new1 w _ _ _).alloc _
  have Bz : Blk (((w.alloc (.cells n.cells 50)).alloc (.cells #[.int .i64 v.k, .int .i64 v.f, .int .i64 v.h, .int .i64 v.r, .int .i64 v.v, .int .i64 v.x] 36)).alloc (.cells zN.cells 50)) (w.heap.size + 1 + 1) zN.cells 50 := Blk.new2 w _ _ _ _
  have L0 : Below w.heap.size w (((w.alloc (.cells n.cells 50)).alloc (.cells #[.int .i64 v.k, .int .i64 v.f, .int .i64 v.h, .int .i64 v.r, .int .i64 v.v, .int .i64 v.x] 36)).alloc (.cells zN.cells 50)) := by go_grown
  have hsz : (((w.alloc (.cells n.cells 50)).alloc (.cells #[.int .i64 v.k, .int .i64 v.f, .int .i64 v.h, .int .i64 v.r, .int .i64 v.v, .int .i64 v.x] 36)).alloc (.cells zN.cells 50)).heap.size = w.heap.size + 3 := by simp
  have hc1 : (code == 0) = false := by simpa using hne
  have hc2 : (code != 0) = true := by simpa using hne
  have ho1 := ints_one hq
  go_enter Tryz.func28, Tryz.ntmps28
  go_upto_region 1 with fail
  generalize (((w.alloc (.cells n.cells 50)).alloc (.cells #[.int .i64 v.k, .int .i64 v.f, .int .i64 v.h, .int .i64 v.r, .int .i64 v.v, .int .i64 v.x] 36)).alloc (.cells zN.cells 50)) = w0 at B0 Bw Bz L0 hsz ⊢
  have hbeg := ropened_bad n l who w0 (hq.keep L0) hl code hcode hne
  clear hq hz
  go_wp2_with (first
    | (refine wpList_load_blk rfl 50 _ rfl w.heap.size rfl 50 n.cells _ B0 Tryz.underlying50 rfl hiN ?_)
    | (go_at_call 46; refine hbeg.mono ?_; rintro e w1 ⟨rfl, L1⟩; have Bz1 := Bz.below L1; have B1 := B0.below L1; clear hbeg B0)
    | (refine wpList_load_blk rfl 50 _ rfl w.heap.size rfl 50 n.cells _ B1 Tryz.underlying50 rfl hiN ?_)
    | (refine wpList_store_blk rfl 50 _ _ rfl (w.heap.size + 1 + 1) zN.cells n.cells 50 rfl rfl Bz1 (by rw [ncells_size, ncells_size]) hiN (one_cellN _ ho1) ?_; rintro w6 B6 K6))
  refine bodyPost_ret (results_three rfl _ _ (w.heap.size + 1 + 1) n.cells _ _ rfl rfl rfl (load_node B6)) rfl ?_
  exact ⟨rfl, K6.bel _ _ (by omega) (bel_trans L0 L1)⟩

set_option maxRecDepth 100000 in
set_option maxHeartbeats 4000000 in
theorem rhear_word (n : NI) (l : List Int) (who : Int) (v : Wd) (w : World) (hq : Ints w n.q l) (hl : l.length * 8 ≤ 140737488355328) (hgn : goodN n l = true) (hw : win who 0 3 = true) (c : Int) (hc : goodC v.k v.f v.h v.r v.v v.x = c) (hne : c ≠ 0) :
    Calls Tryz.prog 28 #[.agg n.cells, .int .i64 who, .agg #[.int .i64 v.k, .int .i64 v.f, .int .i64 v.h, .int .i64 v.r, .int .i64 v.v, .int .i64 v.x]] w (RefD w n c) := by
  have hz := run_zeroN
  have hiN := infoN n
  have hi6 : (Tryz.prog.info? 36).map (·.size) = some (#[.int .i64 v.k, .int .i64 v.f, .int .i64 v.h, .int .i64 v.r, .int .i64 v.v, .int .i64 v.x] : Array Value).size := by show _ = some 6; kernel_rfl
  have B0 : Blk (((w.alloc (.cells n.cells 50)).alloc (.cells #[.int .i64 v.k, .int .i64 v.f, .int .i64 v.h, .int .i64 v.r, .int .i64 v.v, .int .i64 v.x] 36)).alloc (.cells zN.cells 50)) w.heap.size n.cells 50 := ((Blk.new w _ _).alloc _).alloc _
  have Bw : Blk (((w.alloc (.cells n.cells 50)).alloc (.cells #[.int .i64 v.k, .int .i64 v.f, .int .i64 v.h, .int .i64 v.r, .int .i64 v.v, .int .i64 v.x] 36)).alloc (.cells zN.cells 50)) (w.heap.size + 1) #[.int .i64 v.k, .int .i64 v.f, .int .i64 v.h, .int .i64 v.r, .int .i64 v.v, .int .i64 v.x] 36 := (Blk.new1 w _ _ _).alloc _
  have Bz : Blk (((w.alloc (.cells n.cells 50)).alloc (.cells #[.int .i64 v.k, .int .i64 v.f, .int .i64 v.h, .int .i64 v.r, .int .i64 v.v, .int .i64 v.x] 36)).alloc (.cells zN.cells 50)) (w.heap.size + 1 + 1) zN.cells 50 := Blk.new2 w _ _ _ _
  have L0 : Below w.heap.size w (((w.alloc (.cells n.cells 50)).alloc (.cells #[.int .i64 v.k, .int .i64 v.f, .int .i64 v.h, .int .i64 v.r, .int .i64 v.v, .int .i64 v.x] 36)).alloc (.cells zN.cells 50)) := by go_grown
  have hsz : (((w.alloc (.cells n.cells 50)).alloc (.cells #[.int .i64 v.k, .int .i64 v.f, .int .i64 v.h, .int .i64 v.r, .int .i64 v.v, .int .i64 v.x] 36)).alloc (.cells zN.cells 50)).heap.size = w.heap.size + 3 := by simp
  have hwg : ∀ W, Calls Tryz.prog 25 #[.agg #[.int .i64 v.k, .int .i64 v.f, .int .i64 v.h, .int .i64 v.r, .int .i64 v.v, .int .i64 v.x]] W fun e w' => e = .returned (.int .i64 c) ∧ Below W.heap.size W w' := fun W => by have := wordError_any v.k v.f v.h v.r v.v v.x W; rwa [hc] at this
  have hc1 : (c == 0) = false := by simpa using hne
  have hc2 : (c != 0) = true := by simpa using hne
  have ho1 := ints_one hq
  clear hc
  go_enter Tryz.func28, Tryz.ntmps28
  go_upto_region 1 with fail
  generalize (((w.alloc (.cells n.cells 50)).alloc (.cells #[.int .i64 v.k, .int .i64 v.f, .int .i64 v.h, .int .i64 v.r, .int .i64 v.v, .int .i64 v.x] 36)).alloc (.cells zN.cells 50)) = w0 at B0 Bw Bz L0 hsz ⊢
  have hbeg := ropened_any n l who w0 (hq.keep L0) hl hgn hw
  clear hq hz hgn hw
  go_wp2_with (first
    | (refine wpList_load_blk rfl 50 _ rfl w.heap.size rfl 50 n.cells _ B0 Tryz.underlying50 rfl hiN ?_)
    | (go_at_call 46; refine hbeg.mono ?_; rintro e w1 ⟨g, q', rfl, hg, T1, hown, hap, L1⟩; have Bw1 := Bw.below L1; have Bz1 := Bz.below L1; have B1 := B0.below L1; clear hbeg B0 Bw)
    | (refine wpList_load_blk rfl 36 _ rfl (w.heap.size + 1) rfl 36 _ _ Bw1 Tryz.underlying36 rfl hi6 ?_)
    | (go_at_call 25; refine (hwg _).mono ?_; rintro e w2 ⟨rfl, L2⟩; have Bz2 := Bz1.below L2; have B2 := B1.below L2)
    | (refine wpList_load_blk rfl 50 _ rfl w.heap.size rfl 50 n.cells _ B2 Tryz.underlying50 rfl hiN ?_)
    | (refine wpList_store_blk rfl 50 _ _ rfl (w.heap.size + 1 + 1) zN.cells n.cells 50 rfl rfl Bz2 (by rw [ncells_size, ncells_size]) hiN (one_cellN _ ho1) ?_; rintro w6 B6 K6))
  refine bodyPost_ret (results_three rfl _ _ (w.heap.size + 1 + 1) n.cells _ _ rfl rfl rfl (load_node B6)) rfl ?_
  exact ⟨rfl, K6.bel _ _ (by omega) (bel_trans (bel_trans L0 L1) L2)⟩

set_option maxRecDepth 100000 in
set_option maxHeartbeats 8000000 in
theorem rhear_good (RA : RAll) (n : NI) (l : List Int) (who : Int) (v : Wd) (w : World) (hq : Ints w n.q l) (hl : l.length * 8 ≤ 140737488355328) (hgn : goodN n l = true) (whon : Nat) (hwn : who = (whon : Int)) (hw4 : whon < 4) (h : Nat) (hvh : v.h = (h : Int)) (hgc : goodC v.k v.f v.h v.r v.v v.x = 0) :
    Calls Tryz.prog 28 #[.agg n.cells, .int .i64 who, .agg #[.int .i64 v.k, .int .i64 v.f, .int .i64 v.h, .int .i64 v.r, .int .i64 v.v, .int .i64 v.x]] w (Done w (follow whon ⟨(n.nd l).setSheet h (hearW ((n.nd l).heard h) v), []⟩)) := by
  obtain ⟨k, f, h', r, y, x⟩ := v
  obtain rfl : h' = (h : Int) := hvh
  show Calls Tryz.prog 28 #[.agg n.cells, .int .i64 who, .agg #[.int .i64 k, .int .i64 f, .int .i64 (h : Int), .int .i64 r, .int .i64 y, .int .i64 x]] w (Done w (follow whon ⟨(n.nd l).setSheet h (hearW ((n.nd l).heard h) ⟨k, f, h, r, y, x⟩), []⟩))
  replace hgc : goodC k f h r y x = 0 := hgc
  obtain ⟨a7, ha7⟩ : ∃ a7, Hid ((follow whon ⟨(n.nd l).setSheet h (hearW ((n.nd l).heard h) ⟨k, f, h, r, y, x⟩), []⟩) = a7) := ⟨_, rfl⟩
  rw [ha7.out]
  have hz := run_zeroN
  have hiN := infoN n
  have hi6 : (Tryz.prog.info? 36).map (·.size) = some (#[.int .i64 k, .int .i64 f, .int .i64 (h : Int), .int .i64 r, .int .i64 y, .int .i64 x] : Array Value).size := by show _ = some 6; kernel_rfl
  have B0 : Blk (((w.alloc (.cells n.cells 50)).alloc (.cells #[.int .i64 k, .int .i64 f, .int .i64 (h : Int), .int .i64 r, .int .i64 y, .int .i64 x] 36)).alloc (.cells zN.cells 50)) w.heap.size n.cells 50 := ((Blk.new w _ _).alloc _).alloc _
  have Bw : Blk (((w.alloc (.cells n.cells 50)).alloc (.cells #[.int .i64 k, .int .i64 f, .int .i64 (h : Int), .int .i64 r, .int .i64 y, .int .i64 x] 36)).alloc (.cells zN.cells 50)) (w.heap.size + 1) #[.int .i64 k, .int .i64 f, .int .i64 (h : Int), .int .i64 r, .int .i64 y, .int .i64 x] 36 := (Blk.new1 w _ _ _).alloc _
  have Bz : Blk (((w.alloc (.cells n.cells 50)).alloc (.cells #[.int .i64 k, .int .i64 f, .int .i64 (h : Int), .int .i64 r, .int .i64 y, .int .i64 x] 36)).alloc (.cells zN.cells 50)) (w.heap.size + 1 + 1) zN.cells 50 := Blk.new2 w _ _ _ _
  have L0 : Below w.heap.size w (((w.alloc (.cells n.cells 50)).alloc (.cells #[.int .i64 k, .int .i64 f, .int .i64 (h : Int), .int .i64 r, .int .i64 y, .int .i64 x] 36)).alloc (.cells zN.cells 50)) := by go_grown
  have hsz : (((w.alloc (.cells n.cells 50)).alloc (.cells #[.int .i64 k, .int .i64 f, .int .i64 (h : Int), .int .i64 r, .int .i64 y, .int .i64 x] 36)).alloc (.cells zN.cells 50)).heap.size = w.heap.size + 3 := by simp
  have hwg : ∀ W, Calls Tryz.prog 25 #[.agg #[.int .i64 k, .int .i64 f, .int .i64 (h : Int), .int .i64 r, .int .i64 y, .int .i64 x]] W fun e w' => e = .returned (.int .i64 0) ∧ Below W.heap.size W w' := fun W => by have := wordError_any k f h r y x W; rwa [hgc] at this
  have hh4 : h < 4 := by have := goodC_bds hgc; omega
  have hhi : (h : Int) < 4 := by omega
  have hwin : win who 0 3 = true := by simp [win]; omega
  have HG : Hid (goodN n l = true) := hgn
  have HW : Hid (who = (whon : Int)) := hwn
  have hiS := infoS ((n.nd l).heard h)
  have hi2 := infoS (hearS ((n.nd l).heard h) k f h r y x)
  have hone2 : (hearS ((n.nd l).heard h) k f h r y x).cells.all (·.oneCell') = true := one_cell _
  clear hgc
  go_enter Tryz.func28, Tryz.ntmps28
  go_upto_region 1 with fail
  generalize (((w.alloc (.cells n.cells 50)).alloc (.cells #[.int .i64 k, .int .i64 f, .int .i64 (h : Int), .int .i64 r, .int .i64 y, .int .i64 x] 36)).alloc (.cells zN.cells 50)) = w0 at B0 Bw Bz L0 hsz ⊢
  have hbeg := ropened_any n l who w0 (hq.keep L0) hl hgn hwin
  clear hq hz hgn hwin hwn
  go_upto_region 6 with (first
    | (refine wpList_load_blk rfl 50 _ rfl w.heap.size rfl 50 n.cells _ B0 Tryz.underlying50 rfl hiN ?_)
    | (go_at_call 46; refine hbeg.mono ?_; rintro e w1 ⟨g, q', rfl, hg, T1, hown, hap, L1⟩; have Bw1 := Bw.below L1; have Bz1 := Bz.below L1; clear hbeg B0 Bw)
    | (refine wpList_load_blk rfl 36 _ rfl (w.heap.size + 1) rfl 36 _ _ Bw1 Tryz.underlying36 rfl hi6 ?_)
    | (go_at_call 25; refine (hwg _).mono ?_; rintro e w2 ⟨rfl, L2⟩; have Bw2 := Bw1.below L2; have Bz2 := Bz1.below L2; have T2 := T1.below L2; have hown2 := own_below hown L2; rw [HW.out] at T2; have S2 := sr_opened HG.out T2 hown2 (by omega) hap; clear T1 Bw1 Bz1 hown T2 hown2))
  have T2 := S2.blk
  have L2' := bel_trans (bel_trans L0 L1) L2
  have hs2 := S2.lt
  clear hwg L0 L1 L2
  refine held_region (fun W => Blk W g (tcells ((n.nd l).ni q') whon (.slice none 0 0)) 98 ∧ Blk W (w.heap.size + 1) #[.int .i64 k, .int .i64 f, .int .i64 (h : Int), .int .i64 r, .int .i64 y, .int .i64 x] 36) [17] [(0, 0), (1, 0), (2, 1), (3, 0), (4, 0), (5, 1), (6, 0), (7, 0), (8, 0), (9, 0), (10, 1), (11, 1), (13, 0), (14, 0), (15, 0), (12, 2), (16, 0), (17, 2)] (by kernel_rfl) (by kernel_rfl) (by kernel_rfl) rfl (fun _ _ d _ _ h => by cases d <;> exact h) ⟨T2.drew, Bw2.drew⟩ ?_
  repeat (first
    | (refine ord_load rfl (by rfl) 46 _ rfl g (13 + h * 66) rfl ((n.nd l).heard h).cells _ (fun W H => heard_range H.1 ((n.nd l).heard h) (fun j hj => tcells_heard _ _ _ h j hh4 hj)) Tryz.underlying46 rfl hiS ?_; simp only [Act.put, List.setIfInBounds_toArray, List.set_cons_zero, List.set_cons_succ])
    | (refine ord_load rfl (by rfl) 36 _ rfl (w.heap.size + 1) 0 rfl #[.int .i64 k, .int .i64 f, .int .i64 (h : Int), .int .i64 r, .int .i64 y, .int .i64 x] _ (fun W H => H.2.range) Tryz.underlying36 rfl hi6 ?_; simp only [Act.put, List.setIfInBounds_toArray, List.set_cons_zero, List.set_cons_succ])
    | (refine ord_run0_ex rfl (by rfl) ?_
       apply Exists.intro
       refine ⟨fun w0 => ?_, ?_⟩
       · go_simp; first | rfl | (rw [if_pos hhi])
       simp only [Act.put, List.setIfInBounds_toArray, List.set_cons_zero, List.set_cons_succ])
    | (refine ord_run1_ex rfl (by rfl) ?_
       apply Exists.intro
       refine ⟨fun w0 hC => ?_, ?_⟩
       · have e2 := hC.2.cell 2; simp only [List.getElem?_toArray, List.getElem?_cons_succ, List.getElem?_cons_zero] at e2; clear hC; go_simp; rfl
       simp only [Act.put, List.setIfInBounds_toArray, List.set_cons_zero, List.set_cons_succ]))
  refine ord_call_ex rfl (by rfl) ?_
  apply Exists.intro
  apply Exists.intro
  refine ⟨?_, ?_⟩
  · go_simp; exact ⟨rfl, rfl⟩
  refine (hearSheet_any ((n.nd l).heard h) k f h r y x _).mono ?_
  rintro e w3 ⟨rfl, hb3⟩
  have T3 := T2.drew.below hb3
  have Bw3 := Bw2.drew.below hb3
  have Bz3 := Bz2.drew.below hb3
  refine ⟨_, rfl, fun _ => ⟨T3, Bw3⟩, ?_⟩
  simp only [Act.put, List.setIfInBounds_toArray, List.set_cons_zero, List.set_cons_succ]
  refine ord_run0_ex rfl (by rfl) ?_
  apply Exists.intro
  refine ⟨fun w0 => ?_, ?_⟩
  · go_simp; first | rfl | (rw [if_pos hhi])
  simp only [Act.put, List.setIfInBounds_toArray, List.set_cons_zero, List.set_cons_succ]
  refine ord_step rfl (by rfl) ?_
  refine wp_store_mid _ _ _ rfl g (13 + h * 66) (hearS ((n.nd l).heard h) k f h r y x).cells rfl rfl (T3.there_mid _ _ (by rw [tcells_size, cells_size]; omega)) hi2 hone2 ?_
  refine ⟨fun hc => absurd hc (by decide), ?_⟩
  have B7 := T3.setSheet h hh4 (hearS ((n.nd l).heard h) k f h r y x)
  have G7 := grown_setCells w3 g (13 + h * 66) (hearS ((n.nd l).heard h) k f h r y x).cells.toList
  have hs3 : w2.heap.size ≤ w3.heap.size := hb3.size
  have S7 : Sr w0.heap.size (w3.setCells g (13 + h * 66) (hearS ((n.nd l).heard h) k f h r y x).cells.toList) g 98 whon ⟨(n.nd l).setSheet h (hearW ((n.nd l).heard h) ⟨k, f, h, r, y, x⟩), []⟩ q' (.slice none 0 0) := ⟨B7, own_grown2 (own_below (W := w2.drew) S2.own hb3) G7 S2.ap, World.ownsRow_nil _ _ _ _, S2.le, S2.ap⟩
  have L7 : Below w.heap.size w (w3.setCells g (13 + h * 66) (hearS ((n.nd l).heard h) k f h r y x).cells.toList) := bel_seq (bel_trans (b := w2.drew) (below_drew' L2') hb3) (below_of_grown G7 (by omega) (by omega))
  have Bz7 := Bz3.grown G7 (by omega)
  generalize (w3.setCells g (13 + h * 66) (hearS ((n.nd l).heard h) k f h r y x).cells.toList) = w7 at S7 L7 Bz7 ⊢
  show wpOrd _ _ _ _ _ [] _ _ _
  unfold wpOrd
  clear T2 Bw2 Bz2 T3 Bw3 Bz3 B7 G7 S2 L2' hb3 hiS hi2 hone2 hi6
  have hall := RA w0.heap.size w7 g whon _ q' (.slice none 0 0) S7 (FI.start ((gn_of HG.out).1.hear h ⟨k, f, h, r, y, x⟩))
  rw [ha7.out] at hall
  clear ha7
  go_upto_region 8 with (first
    | (go_at_call 48; refine hall.mono ?_; rintro e w4 ⟨rfl, q4, sd4, S4, L4⟩; obtain ⟨sa, sc, hsd⟩ := own_shape S4.said; subst hsd; clear hall S7))
  have B4 := S4.blk
  have Bz4 : Blk w4 (w.heap.size + 1 + 1) zN.cells 50 := by unfold Blk; rw [L4.block _ (by omega)]; exact Bz7
  have hi5 := infoN (a7.n.ni q4)
  have hone5 := one_cellN (a7.n.ni q4) (own_one S4.own)
  refine held_region (fun W => Blk W g (tcells (a7.n.ni q4) whon (.slice sa a7.words.length sc)) 98) [] [(0, 0), (1, 0), (2, 0), (3, 1), (4, 0), (5, 0), (6, 0), (7, 1), (8, 2), (9, 0), (10, 0)] (by kernel_rfl) (by kernel_rfl) (by kernel_rfl) rfl (fun _ _ d _ _ h => by cases d <;> exact h) B4.drew ?_
  repeat (first
    | (refine ord_load rfl (by rfl) 50 _ rfl g 0 rfl ((a7.n.ni q4)).cells _ (fun W H => node_range H) Tryz.underlying50 rfl hi5 ?_; simp only [Act.put, List.setIfInBounds_toArray, List.set_cons_zero, List.set_cons_succ])
    | (refine ord_run0_ex rfl (by rfl) ?_
       apply Exists.intro
       refine ⟨fun w0 => ?_, ?_⟩
       · go_simp; rfl
       simp only [Act.put, List.setIfInBounds_toArray, List.set_cons_zero, List.set_cons_succ])
    | (refine ord_run1_ex rfl (by rfl) ?_
       apply Exists.intro
       refine ⟨fun w0 hC => ?_, ?_⟩
       · have e0 := hC.cell 283; rw [tcells_sd] at e0; clear hC; go_simp; rfl
       simp only [Act.put, List.setIfInBounds_toArray, List.set_cons_zero, List.set_cons_succ]))
  refine ord_do rfl ?_
  refine wpList_store_blk rfl 50 _ _ rfl (w.heap.size + 1 + 1) zN.cells ((a7.n.ni q4)).cells 50 rfl rfl Bz4.drew (by rw [ncells_size, ncells_size]) hi5 hone5 ?_
  rintro w6 B6 K6
  refine ⟨fun _ => K6.blk _ _ _ (by omega) B4.drew, ?_⟩
  simp only [Act.put]
  repeat (first
    | (refine ord_run0_ex rfl (by rfl) ?_
       apply Exists.intro
       refine ⟨fun w0 => ?_, ?_⟩
       · go_simp; rfl
       simp only [Act.put, List.setIfInBounds_toArray, List.set_cons_zero, List.set_cons_succ]))
  show wpOrd _ _ _ _ _ [] _ _ _
  unfold wpOrd
  go_wp2
  refine bodyPost_ret (results_three rfl _ _ (w.heap.size + 1 + 1) (a7.n.ni q4).cells (.slice sa a7.words.length sc) (.int .i64 0) rfl rfl rfl (load_node B6)) rfl ?_
  have hs4 := S4.lt
  exact ⟨q4, .slice sa a7.words.length sc, rfl, own_mono (own_kept (W := w4.drew) S4.own K6 (by omega)) (by omega), own_mono (own_kept (W := w4.drew) S4.said K6 (by omega)) (by omega), K6.bel _ _ (by omega) (below_drew' (bel_seq L7 (L4.mono (by omega))))⟩
end Go.Proofs.YtmmgaonlmpajbacGreat
