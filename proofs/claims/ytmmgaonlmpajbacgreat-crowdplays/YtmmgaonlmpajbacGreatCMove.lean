/-
  The landed package crowd: the functions that are handed to turn.
-/
import Derived.Test.YtmmgaonlmpajbacGreatCSend
import Derived.Test.YtmmgaonlmpajbacGreatCNode
namespace Go.Proofs.YtmmgaonlmpajbacGreat
open Go.RowKit

set_option maxHeartbeats 1000000 in
theorem submits_any (y : Int) (w : World) : Calls Tryz.prog 18 #[.int .i64 y] w fun e w' => e = .returned (.func (.func 34) #[] #[.pointer (some ⟨w.heap.size, 0, none⟩)]) ∧ w' = w.alloc (.cells #[.int .i64 y] 3) := by
  go_enter Tryz.func18, Tryz.ntmps18
  go_wp2
  go_ret
  exact ⟨rfl, rfl⟩
set_option maxHeartbeats 1000000 in
theorem hears_any (v : Wd) (w : World) : Calls Tryz.prog 37 #[.agg (wdArr v)] w fun e w' => e = .returned (.func (.func 55) #[] #[.pointer (some ⟨w.heap.size, 0, none⟩)]) ∧ w' = w.alloc (.cells (wdArr v) 36) := by
  go_enter Tryz.func37, Tryz.ntmps37
  go_wp2
  go_ret
  exact ⟨rfl, rfl⟩

set_option maxRecDepth 100000 in
set_option maxHeartbeats 4000000 in
theorem submits1_any (n : NI) (l : List Int) (who y : Int) (m : NI) (l' : List Int) (ws : List Wd) (code : Int)
    (hcon : ∀ W, Ints W n.q l → Calls Tryz.prog 35 #[.agg n.cells, .int .i64 who, .int .i64 y] W (Res W m l' ws code)) (w : World) (hq : Ints w n.q l) (b : Nat) (hb : w.cell? ⟨b, 0, none⟩ = some (.int .i64 y)) :
    Calls Tryz.prog 34 #[.agg n.cells, .int .i64 who, .pointer (some ⟨b, 0, none⟩)] w (Res w m l' ws code) := by
  have hz := run_zeroN
  have hiN := infoN n
  have B0 : Blk ((w.alloc (.cells n.cells 50)).alloc (.cells zN.cells 50)) w.heap.size n.cells 50 := (Blk.new w _ _).alloc _
  have Bz : Blk ((w.alloc (.cells n.cells 50)).alloc (.cells zN.cells 50)) (w.heap.size + 1) zN.cells 50 := Blk.new1 w _ _ _
  have L0 : Below w.heap.size w ((w.alloc (.cells n.cells 50)).alloc (.cells zN.cells 50)) := by go_grown
  have hsz : ((w.alloc (.cells n.cells 50)).alloc (.cells zN.cells 50)).heap.size = w.heap.size + 2 := by simp
  have hb0 := cell_on hb L0
  go_enter Tryz.func34, Tryz.ntmps34
  go_upto_region 1 with fail
  generalize ((w.alloc (.cells n.cells 50)).alloc (.cells zN.cells 50)) = w0 at B0 Bz L0 hsz hb0 ⊢
  have hc := hcon w0 (hq.keep L0)
  clear hcon hq hz hb
  go_wp2_with (first
    | (refine wpList_load_blk rfl 50 _ rfl w.heap.size rfl 50 n.cells _ B0 Tryz.underlying50 rfl hiN ?_)
    | (go_at_call 35; refine hc.mono ?_; rintro e w5 ⟨q', sa, sc, rfl, hown, hsaid, L5⟩; have Bz5 := Bz.below L5; have hi5 := infoN (m.setQ q'); clear hc B0)
    | (refine wpList_store_blk rfl 50 _ _ rfl (w.heap.size + 1) zN.cells (m.setQ q').cells 50 rfl rfl Bz5 (by rw [ncells_size, ncells_size]) hi5 (one_cellN _ (own_one hown)) ?_; rintro w6 B6 K6))
  refine bodyPost_ret (results_three rfl _ _ (w.heap.size + 1) (m.setQ q').cells _ _ rfl rfl rfl (load_node B6)) rfl ?_
  exact ⟨q', sa, sc, rfl, own_mono (own_kept hown K6 (by omega)) (by omega), own_mono (own_kept hsaid K6 (by omega)) (by omega), K6.bel _ _ (by omega) (bel_trans L0 L5)⟩

set_option maxRecDepth 100000 in
set_option maxHeartbeats 4000000 in
theorem hears1_any (n : NI) (l : List Int) (who : Int) (v : Wd) (m : NI) (l' : List Int) (ws : List Wd) (code : Int)
    (hcon : ∀ W, Ints W n.q l → Calls Tryz.prog 56 #[.agg n.cells, .int .i64 who, .agg (wdArr v)] W (Res W m l' ws code)) (w : World) (hq : Ints w n.q l) (b : Nat) (hb : Blk w b (wdArr v) 36) :
    Calls Tryz.prog 55 #[.agg n.cells, .int .i64 who, .pointer (some ⟨b, 0, none⟩)] w (Res w m l' ws code) := by
  have hz := run_zeroN
  have hiN := infoN n
  have hi6 : (Tryz.prog.info? 36).map (·.size) = some (wdArr v).size := by show _ = some 6; kernel_rfl
  have B0 : Blk ((w.alloc (.cells n.cells 50)).alloc (.cells zN.cells 50)) w.heap.size n.cells 50 := (Blk.new w _ _).alloc _
  have Bz : Blk ((w.alloc (.cells n.cells 50)).alloc (.cells zN.cells 50)) (w.heap.size + 1) zN.cells 50 := Blk.new1 w _ _ _
  have L0 : Below w.heap.size w ((w.alloc (.cells n.cells 50)).alloc (.cells zN.cells 50)) := by go_grown
  have hsz : ((w.alloc (.cells n.cells 50)).alloc (.cells zN.cells 50)).heap.size = w.heap.size + 2 := by simp
  have Bw := hb.below L0
  go_enter Tryz.func55, Tryz.ntmps55
  go_upto_region 1 with fail
  generalize ((w.alloc (.cells n.cells 50)).alloc (.cells zN.cells 50)) = w0 at B0 Bz L0 hsz Bw ⊢
  have hc := hcon w0 (hq.keep L0)
  clear hcon hq hz hb
  go_wp2_with (first
    | (refine wpList_load_blk rfl 50 _ rfl w.heap.size rfl 50 n.cells _ B0 Tryz.underlying50 rfl hiN ?_)
    | (refine wpList_load_blk rfl 36 _ rfl b rfl 36 (wdArr v) _ Bw Tryz.underlying36 rfl hi6 ?_)
    | (go_at_call 56; refine hc.mono ?_; rintro e w5 ⟨q', sa, sc, rfl, hown, hsaid, L5⟩; have Bz5 := Bz.below L5; have hi5 := infoN (m.setQ q'); clear hc B0 Bw)
    | (refine wpList_store_blk rfl 50 _ _ rfl (w.heap.size + 1) zN.cells (m.setQ q').cells 50 rfl rfl Bz5 (by rw [ncells_size, ncells_size]) hi5 (one_cellN _ (own_one hown)) ?_; rintro w6 B6 K6))
  refine bodyPost_ret (results_three rfl _ _ (w.heap.size + 1) (m.setQ q').cells _ _ rfl rfl rfl (load_node B6)) rfl ?_
  exact ⟨q', sa, sc, rfl, own_mono (own_kept hown K6 (by omega)) (by omega), own_mono (own_kept hsaid K6 (by omega)) (by omega), K6.bel _ _ (by omega) (bel_trans L0 L5)⟩
end Go.Proofs.YtmmgaonlmpajbacGreat
