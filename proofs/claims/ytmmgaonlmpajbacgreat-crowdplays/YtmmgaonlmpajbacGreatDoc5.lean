/-
  The document's node: opened.
-/
import Derived.Test.YtmmgaonlmpajbacGreatDoc0
import Derived.Test.YtmmgaonlmpajbacGreatNodeB
import Derived.Test.YtmmgaonlmpajbacGreatTurnD
namespace Go.Proofs.YtmmgaonlmpajbacGreat
open Go.RowKit

theorem build_at (n : NI) (who : Int) (W : World) : Sem.run Tryz.prog (Instr.build 98 #[(0, .agg n.cells), (1, .int .i64 who)]) W = .ok (.agg (tcells n who (.slice none 0 0))) W := by
  show _ = _; kernel_rfl
/-- A node is opened: it lies in a block of its own, its queue in a row of its own. -/
def Opened (w : World) (n : NI) (l : List Int) (who : Int) (e : Ending) (w' : World) : Prop :=
  ∃ g q', e = .returned (.tuple #[.pointer (some ⟨g, 0, none⟩), .int .i64 0]) ∧ w.heap.size ≤ g ∧ Blk w' g (tcells (n.setQ q') who (.slice none 0 0)) 98 ∧ w'.ownsRow w.heap.size 3 1 q' l.length (l.map (Value.int .i64)) ∧ q'.ownBlock ≠ some g ∧ Below w.heap.size w w'

set_option maxHeartbeats 2000000 in
set_option maxRecDepth 100000 in
theorem ropened_bad (n : NI) (l : List Int) (who : Int) (w : World) (hq : Ints w n.q l) (hl : l.length * 8 ≤ 140737488355328) (code : Int) (hcode : Hid (code = if goodN n l then (if win who 0 3 then 0 else 2) else 1)) (hne : code ≠ 0) :
    Calls Tryz.prog 46 #[.agg n.cells, .int .i64 who] w fun e w' => e = .returned (.tuple #[.pointer none, .int .i64 code]) ∧ Below w.heap.size w w' := by
  have B0 : Blk (w.alloc (.cells n.cells 50)) w.heap.size n.cells 50 := Blk.new w _ _
  have L0 : Below w.heap.size w (w.alloc (.cells n.cells 50)) := by go_grown
  have hiN := infoN n
  have hgood := isNode_any n l _ (hq.keep L0) (by omega)
  have hwi := fun W => rwithin_any who 0 3 W
  go_enter Tryz.func46, Tryz.ntmps46
  cases hg : goodN n l
  · rw [hg] at hgood
    go_wp2_with (first
      | (refine wpList_load_blk rfl 50 _ rfl w.heap.size rfl 50 n.cells _ B0 Tryz.underlying50 rfl hiN ?_)
      | (go_at_call 69; refine hgood.mono ?_; rintro e w4 ⟨rfl, hb4⟩))
    go_ret2
    rw [show code = 1 from hcode.out.trans (by rw [hg]; rfl)]
    exact ⟨rfl, bel_trans L0 hb4⟩
  · rw [hg] at hgood
    cases hw : win who 0 3
    · rw [hw] at hwi
      go_wp2_with (first
        | (refine wpList_load_blk rfl 50 _ rfl w.heap.size rfl 50 n.cells _ B0 Tryz.underlying50 rfl hiN ?_)
        | (go_at_call 69; refine hgood.mono ?_; rintro e w4 ⟨rfl, hb4⟩)
        | (go_at_call 15; refine (hwi _).mono ?_; rintro e w' ⟨rfl, rfl⟩))
      go_ret2
      rw [show code = 2 from hcode.out.trans (by rw [hg, hw]; rfl)]
      exact ⟨rfl, bel_trans L0 hb4⟩
    · exact absurd (hcode.out.trans (by rw [hg, hw]; rfl)) hne

set_option maxHeartbeats 2000000 in
set_option maxRecDepth 100000 in
theorem ropened_any (n : NI) (l : List Int) (who : Int) (w : World) (hq : Ints w n.q l) (hl : l.length * 8 ≤ 140737488355328) (hg : goodN n l = true) (hw : win who 0 3 = true) :
    Calls Tryz.prog 46 #[.agg n.cells, .int .i64 who] w (Opened w n l who) := by
  have B0 : Blk (w.alloc (.cells n.cells 50)) w.heap.size n.cells 50 := Blk.new w _ _
  have L0 : Below w.heap.size w (w.alloc (.cells n.cells 50)) := by go_grown
  have hs0 : (w.alloc (.cells n.cells 50)).heap.size = w.heap.size + 1 := by simp
  have hiN := infoN n
  have hgood := isNode_any n l _ (hq.keep L0) (by omega)
  have hwi := fun W => rwithin_any who 0 3 W
  rw [hg] at hgood
  rw [hw] at hwi
  go_enter Tryz.func46, Tryz.ntmps46
  go_upto_region 5 with (first
    | (refine wpList_load_blk rfl 50 _ rfl w.heap.size rfl 50 n.cells _ B0 Tryz.underlying50 rfl hiN ?_)
    | (go_at_call 69; refine hgood.mono ?_; rintro e w4 ⟨rfl, hb4⟩)
    | (go_at_call 15; refine (hwi _).mono ?_; rintro e w' ⟨rfl, rfl⟩))
  have B4 := B0.below hb4
  have L4 := bel_trans L0 hb4
  have hs4 := hb4.size
  rw [hs0] at hs4
  refine wp_region_lit ?_
  refine wpList_load_blk rfl 50 _ rfl w.heap.size rfl 50 n.cells _ B4 Tryz.underlying50 rfl hiN ?_
  simp only [Act.put, List.setIfInBounds_toArray, List.set_cons_zero, List.set_cons_succ]
  go_wp2_with fail
  refine (copyNode_any n l _ (hq.keep L4) hl).mono ?_
  rintro e w5 ⟨q', rfl, hown, hb5⟩
  rename_i ak
  refine ak _ _ ?_
  clear ak
  refine wpList_val rfl (.int .i64 who) (by rw [BigFrame.run_move (.tmp 1) rfl]; rfl) ?_
  simp only [Act.put, List.setIfInBounds_toArray, List.set_cons_zero, List.set_cons_succ]
  refine wpList_build_eq rfl 98 _ rfl (tcells (n.setQ q') who (.slice none 0 0)) (by simp only [List.map_toArray, List.map_cons, List.map_nil]; exact build_at (n.setQ q') who _) ?_
  simp only [Act.put, List.setIfInBounds_toArray, List.set_cons_zero, List.set_cons_succ]
  obtain ⟨D, hD⟩ : ∃ D, Hid (D = tcells (n.setQ q') who (.slice none 0 0)) := ⟨_, rfl⟩
  have hD' : tcells (n.setQ q') who (.slice none 0 0) = D := hD.out.symm
  rw [hD']
  clear hD'
  go_wp2_with fail
  go_ret2
  have T1 : Blk (w5.alloc (.cells D 98)) w5.heap.size D 98 := Blk.new w5 _ _
  have L5 : Below w5.heap.size w5 (w5.alloc (.cells D 98)) := by go_grown
  have hs5 := hb5.size
  rw [hD.out] at T1 L5 ⊢
  exact ⟨w5.heap.size, q', rfl, by omega, T1, own_mono (own_below hown L5) (by omega), fun h => by have := (own_block hown _ h).2.1; omega, bel_trans (bel_trans L4 hb5) L5⟩
end Go.Proofs.YtmmgaonlmpajbacGreat
