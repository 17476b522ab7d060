/-
  The landed package crowd: the functions that are handed to turn.
-/
import Derived.Test.YtmmgaonlmpajbacCSend
import Derived.Test.YtmmgaonlmpajbacCNode
namespace Go.Proofs.Ytmmgaonlmpajbac
open Go.RowKit

set_option maxHeartbeats 1000000 in
theorem submits_any (y : Int) (w : World) : Calls Try.prog 24 #[.int .i64 y] w fun e w' => e = .returned (.func (.func 42) #[] #[.pointer (some ⟨w.heap.size, 0, none⟩)]) ∧ w' = w.alloc (.cells #[.int .i64 y] 3) := by
  go_enter Try.func24, Try.ntmps24
  go_wp2
  go_ret
  exact ⟨rfl, rfl⟩
set_option maxHeartbeats 1000000 in
theorem hears_any (v : Wd) (w : World) : Calls Try.prog 45 #[.agg (wdArr v)] w fun e w' => e = .returned (.func (.func 64) #[] #[.pointer (some ⟨w.heap.size, 0, none⟩)]) ∧ w' = w.alloc (.cells (wdArr v) 24) := by
  go_enter Try.func45, Try.ntmps45
  go_wp2
  go_ret
  exact ⟨rfl, rfl⟩

set_option maxRecDepth 100000 in
set_option maxHeartbeats 4000000 in
theorem submits1_any (n : NI) (l : List Int) (who y : Int) (m : NI) (l' : List Int) (ws : List Wd) (code : Int)
    (hcon : ∀ W, Ints W n.q l → Calls Try.prog 43 #[.agg n.cells, .int .i64 who, .int .i64 y] W (Res W m l' ws code)) (w : World) (hq : Ints w n.q l) (b : Nat) (hb : w.cell? ⟨b, 0, none⟩ = some (.int .i64 y)) :
    Calls Try.prog 42 #[.agg n.cells, .int .i64 who, .pointer (some ⟨b, 0, none⟩)] w (Res w m l' ws code) := by
  have hz := run_zeroN
  have hiN := infoN n
  have B0 : Blk ((w.alloc (.cells n.cells 61)).alloc (.cells zN.cells 61)) w.heap.size n.cells 61 := (Blk.new w _ _).alloc _
  have Bz : Blk ((w.alloc (.cells n.cells 61)).alloc (.cells zN.cells 61)) (w.heap.size + 1) zN.cells 61 := Blk.new1 w _ _ _
  have L0 : Below w.heap.size w ((w.alloc (.cells n.cells 61)).alloc (.cells zN.cells 61)) := by go_grown
  have hsz : ((w.alloc (.cells n.cells 61)).alloc (.cells zN.cells 61)).heap.size = w.heap.size + 2 := by simp
  have hb0 := cell_on hb L0
  go_enter Try.func42, Try.ntmps42
  go_upto_region 1 with fail
  generalize ((w.alloc (.cells n.cells 61)).alloc (.cells zN.cells 61)) = w0 at B0 Bz L0 hsz hb0 ⊢
  have hc := hcon w0 (hq.keep L0)
  clear hcon hq hz hb
  go_wp2_with (first
    | (refine wpList_load_blk rfl 61 _ rfl w.heap.size rfl 61 n.cells _ B0 Try.underlying61 rfl hiN ?_)
    | (go_at_call 43; refine hc.mono ?_; rintro e w5 ⟨q', sa, sc, rfl, hown, hsaid, L5⟩; have Bz5 := Bz.below L5; have hi5 := infoN (m.setQ q'); clear hc B0)
    | (refine wpList_store_blk rfl 61 _ _ rfl (w.heap.size + 1) zN.cells (m.setQ q').cells 61 rfl rfl Bz5 (by rw [ncells_size, ncells_size]) hi5 (one_cellN _ (own_one hown)) ?_; rintro w6 B6 K6))
  refine bodyPost_ret (results_three rfl _ _ (w.heap.size + 1) (m.setQ q').cells _ _ rfl rfl rfl (load_node B6)) rfl ?_
  exact ⟨q', sa, sc, rfl, own_mono (own_kept hown K6 (by omega)) (by omega), own_mono (own_kept hsaid K6 (by omega)) (by omega), K6.bel _ _ (by omega) (bel_trans L0 L5)⟩

set_option maxRecDepth 100000 in
set_option maxHeartbeats 4000000 in
theorem hears1_any (n : NI) (l : List Int) (who : Int) (v : Wd) (m : NI) (l' : List Int) (ws : List Wd) (code : Int)
    (hcon : ∀ W, Ints W n.q l → Calls Try.prog 65 #[.agg n.cells, .int .i64 who, .agg (wdArr v)] W (Res W m l' ws code)) (w : World) (hq : Ints w n.q l) (b : Nat) (hb : Blk w b (wdArr v) 24) :
    Calls Try.prog 64 #[.agg n.cells, .int .i64 who, .pointer (some ⟨b, 0, none⟩)] w (Res w m l' ws code) := by
  have hz := run_zeroN
  have hiN := infoN n
  have hi6 : (Try.prog.info? 24).map (·.size) = some (wdArr v).size := by show _ = some 6; kernel_rfl
  have B0 : Blk ((w.alloc (.cells n.cells 61)).alloc (.cells zN.cells 61)) w.heap.size n.cells 61 := (Blk.new w _ _).alloc _
  have Bz : Blk ((w.alloc (.cells n.cells 61)).alloc (.cells zN.cells 61)) (w.heap.size + 1) zN.cells 61 := Blk.new1 w _ _ _
  have L0 : Below w.heap.size w ((w.alloc (.cells n.cells 61)).alloc (.cells zN.cells 61)) := by go_grown
  have hsz : ((w.alloc (.cells n.cells 61)).alloc (.cells zN.cells 61)).heap.size = w.heap.size + 2 := by simp
  have Bw := hb.below L0
  go_enter Try.func64, Try.ntmps64
  go_upto_region 1 with fail
  generalize ((w.alloc (.cells n.cells 61)).alloc (.cells zN.cells 61)) = w0 at B0 Bz L0 hsz Bw ⊢
  have hc := hcon w0 (hq.keep L0)
  clear hcon hq hz hb
  go_wp2_with (first
    | (refine wpList_load_blk rfl 61 _ rfl w.heap.size rfl 61 n.cells _ B0 Try.underlying61 rfl hiN ?_)
    | (refine wpList_load_blk rfl 24 _ rfl b rfl 24 (wdArr v) _ Bw Try.underlying24 rfl hi6 ?_)
    | (go_at_call 65; refine hc.mono ?_; rintro e w5 ⟨q', sa, sc, rfl, hown, hsaid, L5⟩; have Bz5 := Bz.below L5; have hi5 := infoN (m.setQ q'); clear hc B0 Bw)
    | (refine wpList_store_blk rfl 61 _ _ rfl (w.heap.size + 1) zN.cells (m.setQ q').cells 61 rfl rfl Bz5 (by rw [ncells_size, ncells_size]) hi5 (one_cellN _ (own_one hown)) ?_; rintro w6 B6 K6))
  refine bodyPost_ret (results_three rfl _ _ (w.heap.size + 1) (m.setQ q').cells _ _ rfl rfl rfl (load_node B6)) rfl ?_
  exact ⟨q', sa, sc, rfl, own_mono (own_kept hown K6 (by omega)) (by omega), own_mono (own_kept hsaid K6 (by omega)) (by omega), K6.bel _ _ (by omega) (bel_trans L0 L5)⟩
end Go.Proofs.Ytmmgaonlmpajbac
