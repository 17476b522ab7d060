/-
  What the document's own answer says: HearSheet, of a wish.
  What the document's own answer says: HearSheet, of every word.
  What package votes answers: say, propose, Hear.
-/
import Derived.Test.YtmmgaonlmpajbacGreatNodeB
import Derived.Deep.DeepCutAuto
namespace Go.Proofs.YtmmgaonlmpajbacGreat
open Go.RowKit

def Sh.setW (S : Sh) (r i : Nat) (n : Int) : Sh := { S with wi := fun r' i' => if r' = r ∧ i' = i then n else S.wi r' i' }
def Sh.setP (S : Sh) (r i : Nat) (n : Int) : Sh := { S with pr := fun r' i' => if r' = r ∧ i' = i then n else S.pr r' i' }
def Sh.setC (S : Sh) (r : Nat) (v x : Int) : Sh := { S with is := fun r' => if r' = r then true else S.is r', val := fun r' => if r' = r then v else S.val r', vld := fun r' => if r' = r then x else S.vld r' }

theorem cells_set (S T : Sh) (p : Nat) (v : Value) (hp : p < 66) (he : cellAt T p = v) (ho : ∀ j, j < 66 → j ≠ p → cellAt T j = cellAt S j) : S.cells.setIfInBounds p v = T.cells := by
  apply Array.ext_getElem?
  intro j
  rw [Array.getElem?_setIfInBounds]
  by_cases hj : j < 66
  · by_cases hjp : p = j
    · subst hjp
      rw [if_pos rfl, if_pos (by rw [cells_size]; exact hp), cells_at T p hp, he]
    · rw [if_neg hjp, cells_at S j hj, cells_at T j hj, ho j hj (fun e => hjp e.symm)]
  · have h1 : S.cells[j]? = none := Array.getElem?_eq_none (by rw [cells_size]; omega)
    have h2 : T.cells[j]? = none := Array.getElem?_eq_none (by rw [cells_size]; omega)
    rw [h1, h2, if_neg (by omega)]

theorem set_wi (S : Sh) (r i : Nat) (n : Int) (hr : r < 6) (hi : i < 4) : S.cells.setIfInBounds (18 + r * 4 + i) (.int .i64 n) = (S.setW r i n).cells := by
  refine cells_set S _ _ _ (by omega) ?_ ?_
  · rw [cellAt_wi _ r i hr hi]; simp [Sh.setW]
  · intro j hj hne
    unfold cellAt
    by_cases h1 : j < 18
    · simp only [h1, if_true, Sh.setW]
    · simp only [h1, if_false]
      by_cases h2 : j < 42
      · simp only [h2, if_true, Sh.setW]
        rw [if_neg (by omega)]
      · simp only [h2, if_false, Sh.setW]
theorem set_pr (S : Sh) (r i : Nat) (n : Int) (hr : r < 6) (hi : i < 4) : S.cells.setIfInBounds (42 + r * 4 + i) (.int .i64 n) = (S.setP r i n).cells := by
  refine cells_set S _ _ _ (by omega) ?_ ?_
  · rw [cellAt_pr _ r i hr hi]; simp [Sh.setP]
  · intro j hj hne
    unfold cellAt
    by_cases h1 : j < 18
    · simp only [h1, if_true, Sh.setP]
    · simp only [h1, if_false]
      by_cases h2 : j < 42
      · simp only [h2, if_true, Sh.setP]
      · simp only [h2, if_false, Sh.setP]
        rw [if_neg (by omega)]

theorem set_call (S : Sh) (r : Nat) (v x : Int) (hr : r < 6) :
    ((S.cells.setIfInBounds (r * 3) (.bool true)).setIfInBounds (r * 3 + 1) (.int .i64 v)).setIfInBounds (r * 3 + 2) (.int .i64 x) = (S.setC r v x).cells := by
  have e0 : S.cells.setIfInBounds (r * 3) (.bool true) = ({ S with is := fun r' => if r' = r then true else S.is r' } : Sh).cells := by
    refine cells_set S _ _ _ (by omega) ?_ ?_
    · rw [cellAt_is _ r hr]; simp
    · intro j hj hne
      unfold cellAt
      by_cases h1 : j < 18
      · simp only [h1, if_true]
        by_cases h3 : j % 3 = 0
        · simp only [h3, if_true]; rw [if_neg (by omega)]
        · simp only [h3, if_false]
      · simp only [h1, if_false]
  rw [e0]
  generalize hT : ({ S with is := fun r' => if r' = r then true else S.is r' } : Sh) = T
  have e1 : T.cells.setIfInBounds (r * 3 + 1) (.int .i64 v) = ({ T with val := fun r' => if r' = r then v else T.val r' } : Sh).cells := by
    refine cells_set T _ _ _ (by omega) ?_ ?_
    · rw [cellAt_val _ r hr]; simp
    · intro j hj hne
      unfold cellAt
      by_cases h1 : j < 18
      · simp only [h1, if_true]
        by_cases h3 : j % 3 = 0
        · simp only [h3, if_true]
        · simp only [h3, if_false]
          by_cases h4 : j % 3 = 1
          · simp only [h4, if_true]; rw [if_neg (by omega)]
          · simp only [h4, if_false]
      · simp only [h1, if_false]
  rw [e1]
  generalize hU : ({ T with val := fun r' => if r' = r then v else T.val r' } : Sh) = U
  have e2 : U.cells.setIfInBounds (r * 3 + 2) (.int .i64 x) = ({ U with vld := fun r' => if r' = r then x else U.vld r' } : Sh).cells := by
    refine cells_set U _ _ _ (by omega) ?_ ?_
    · rw [cellAt_vld _ r hr]; simp
    · intro j hj hne
      unfold cellAt
      by_cases h1 : j < 18
      · simp only [h1, if_true]
        by_cases h3 : j % 3 = 0
        · simp only [h3, if_true]
        · simp only [h3, if_false]
          by_cases h4 : j % 3 = 1
          · simp only [h4, if_true]
          · simp only [h4, if_false]; rw [if_neg (by omega)]
      · simp only [h1, if_false]
  rw [e2, ← hU, ← hT]
  rfl

set_option maxRecDepth 100000 in
set_option maxHeartbeats 1000000 in
theorem hearSheet_wish (S : Sh) (fn rn : Nat) (h v x : Int) (w : World) (hf : fn < 4) (hr : rn < 6) (_v0 : 0 ≤ v) (_v1 : v ≤ 9) (hg : goodC 2 fn h rn v x = 0) (h0 : S.wi rn fn = 0) :
    Calls Tryz.prog 52 #[.agg S.cells, .agg #[.int .i64 2, .int .i64 fn, .int .i64 h, .int .i64 rn, .int .i64 v, .int .i64 x]] w fun e w' => e = .returned (.agg (S.setW rn fn (1 + v)).cells) ∧ Below w.heap.size w w' := by
  have hz := run_zero
  go_enter Tryz.func52, Tryz.ntmps52
  go_wp2_with fail
  refine (wordError_any _ _ _ _ _ _ _).mono ?_
  rintro e w1 ⟨rfl, hb1⟩
  have B0 : Blk w1 w.heap.size S.cells 46 := (((Blk.new w S.cells 46).alloc _).alloc _).below hb1
  have B1 : Blk w1 (w.heap.size + 1) #[.int .i64 2, .int .i64 fn, .int .i64 h, .int .i64 rn, .int .i64 v, .int .i64 x] 36 := ((Blk.new1 w _ #[.int .i64 2, .int .i64 fn, .int .i64 h, .int .i64 rn, .int .i64 v, .int .i64 x] 36).alloc _).below hb1
  have B2 : Blk w1 (w.heap.size + 1 + 1) zS.cells 46 := (Blk.new2 w _ _ zS.cells 46).below hb1
  have hbb := below_past (below_past (below_past hb1))
  clear hb1
  have d0 := B1.cell 0
  have d1 := B1.cell 1
  have d2 := B1.cell 2
  have d3 := B1.cell 3
  have d4 := B1.cell 4
  have d5 := B1.cell 5
  simp only [List.getElem?_toArray, List.getElem?_cons_zero, List.getElem?_cons_succ] at d0 d1 d2 d3 d4 d5
  have cw := B0.cell (18 + rn * 4 + fn)
  have cf := B0.free (18 + rn * 4 + fn)
  rw [cells_wi S rn fn hr hf, h0] at cw
  go_wp2_with fail
  go_quiet (fail)
  go_wp2_with fail
  go_quiet (fail)
  go_wp2_with fail
  go_region
  clear cw cf
  have B0' : ∀ m, Blk ((w1.drewN m).setCell ⟨w.heap.size, 18 + rn * 4 + fn, none⟩ (.int .i64 (1 + v))) w.heap.size (S.setW rn fn (1 + v)).cells 46 := fun m => by
    rw [← set_wi S rn fn (1 + v) hr hf]; exact (B0.drewN m).setCell _ _
  have B2' : ∀ m, Blk ((w1.drewN m).setCell ⟨w.heap.size, 18 + rn * 4 + fn, none⟩ (.int .i64 (1 + v))) (w.heap.size + 1 + 1) zS.cells 46 := fun m => (B2.drewN m).setCell_other _ _ (by simp; omega)
  have hb' : ∀ m, Below w.heap.size w ((w1.drewN m).setCell ⟨w.heap.size, 18 + rn * 4 + fn, none⟩ (.int .i64 (1 + v))) := fun m => (below_drewN' hbb m).setCell (Nat.le_refl _) _
  clear B0 B1 B2 d0 d1 d2 d3 d4 d5 hbb
  have hi37 := info37 (S.setW rn fn (1 + v))
  go_wp2_with (first | (refine wpList_load_blk rfl 46 _ rfl w.heap.size rfl 46 (S.setW rn fn (1 + v)).cells _ (B0' _) Tryz.underlying46 rfl hi37 ?_) | (refine wpList_store_blk rfl 46 _ _ rfl (w.heap.size + 1 + 1) zS.cells (S.setW rn fn (1 + v)).cells 46 rfl rfl (B2' _) (sizes zS (S.setW rn fn (1 + v))) hi37 (one_cell (S.setW rn fn (1 + v))) ?_; rintro w2 B3 K2))
  exact bodyPost_ret (v := .agg (S.setW rn fn (1 + v)).cells) (result_sheet rfl _ _ (w.heap.size + 1 + 1) (S.setW rn fn (1 + v)) rfl B3) rfl ⟨rfl, K2.bel _ _ (by omega) (hb' _)⟩

set_option maxRecDepth 100000 in
set_option maxHeartbeats 1000000 in
theorem hearSheet_wish_no (S : Sh) (fn rn : Nat) (h v x : Int) (w : World) (hf : fn < 4) (hr : rn < 6) (_v0 : 0 ≤ v) (_v1 : v ≤ 9) (hg : goodC 2 fn h rn v x = 0) (h0 : ¬ S.wi rn fn = 0) :
    Calls Tryz.prog 52 #[.agg S.cells, .agg #[.int .i64 2, .int .i64 fn, .int .i64 h, .int .i64 rn, .int .i64 v, .int .i64 x]] w fun e w' => e = .returned (.agg S.cells) ∧ Below w.heap.size w w' := by
  have hz := run_zero
  go_enter Tryz.func52, Tryz.ntmps52
  go_wp2_with fail
  refine (wordError_any _ _ _ _ _ _ _).mono ?_
  rintro e w1 ⟨rfl, hb1⟩
  have B0 : Blk w1 w.heap.size S.cells 46 := (((Blk.new w S.cells 46).alloc _).alloc _).below hb1
  have B1 : Blk w1 (w.heap.size + 1) #[.int .i64 2, .int .i64 fn, .int .i64 h, .int .i64 rn, .int .i64 v, .int .i64 x] 36 := ((Blk.new1 w _ #[.int .i64 2, .int .i64 fn, .int .i64 h, .int .i64 rn, .int .i64 v, .int .i64 x] 36).alloc _).below hb1
  have B2 : Blk w1 (w.heap.size + 1 + 1) zS.cells 46 := (Blk.new2 w _ _ zS.cells 46).below hb1
  have hbb := below_past (below_past (below_past hb1))
  clear hb1
  have d0 := B1.cell 0
  have d1 := B1.cell 1
  have d2 := B1.cell 2
  have d3 := B1.cell 3
  have d4 := B1.cell 4
  have d5 := B1.cell 5
  simp only [List.getElem?_toArray, List.getElem?_cons_zero, List.getElem?_cons_succ] at d0 d1 d2 d3 d4 d5
  have cw := B0.cell (18 + rn * 4 + fn)
  rw [cells_wi S rn fn hr hf] at cw
  have hn : (S.wi rn fn == 0) = false := by simp [h0]
  clear h0
  go_wp2_with fail
  go_quiet (fail)
  go_wp2_with fail
  go_quiet (fail)
  go_wp2_with fail
  go_quiet (fail)
  clear cw
  have B0' : ∀ a b c, Blk (((w1.drewN a).drewN b).drewN c) w.heap.size S.cells 46 := fun a b c => ((B0.drewN a).drewN b).drewN c
  have B2' : ∀ a b c, Blk (((w1.drewN a).drewN b).drewN c) (w.heap.size + 1 + 1) zS.cells 46 := fun a b c => ((B2.drewN a).drewN b).drewN c
  have hb' : ∀ a b c, Below w.heap.size w (((w1.drewN a).drewN b).drewN c) := fun a b c => below_drewN' (below_drewN' (below_drewN' hbb a) b) c
  clear B0 B1 B2 d0 d1 d2 d3 d4 d5 hbb
  have hi37 := info37 S
  go_wp2_with (first | (refine wpList_load_blk rfl 46 _ rfl w.heap.size rfl 46 S.cells _ (B0' _ _ _) Tryz.underlying46 rfl hi37 ?_) | (refine wpList_store_blk rfl 46 _ _ rfl (w.heap.size + 1 + 1) zS.cells S.cells 46 rfl rfl (B2' _ _ _) (sizes zS S) hi37 (one_cell S) ?_; rintro w2 B3 K2))
  exact bodyPost_ret (v := .agg S.cells) (result_sheet rfl _ _ (w.heap.size + 1 + 1) S rfl B3) rfl ⟨rfl, K2.bel _ _ (by omega) (hb' _ _ _)⟩

set_option maxRecDepth 100000 in
set_option maxHeartbeats 1000000 in
theorem hearSheet_promise (S : Sh) (fn rn : Nat) (h v x : Int) (w : World) (hf : fn < 4) (hr : rn < 6) (_v0 : 0 ≤ v) (_v1 : v ≤ 9) (hg : goodC 3 fn h rn v x = 0) (h0 : S.pr rn fn = 0) :
    Calls Tryz.prog 52 #[.agg S.cells, .agg #[.int .i64 3, .int .i64 fn, .int .i64 h, .int .i64 rn, .int .i64 v, .int .i64 x]] w fun e w' => e = .returned (.agg (S.setP rn fn (1 + v)).cells) ∧ Below w.heap.size w w' := by
  have hz := run_zero
  go_enter Tryz.func52, Tryz.ntmps52
  go_wp2_with fail
  refine (wordError_any _ _ _ _ _ _ _).mono ?_
  rintro e w1 ⟨rfl, hb1⟩
  have B0 : Blk w1 w.heap.size S.cells 46 := (((Blk.new w S.cells 46).alloc _).alloc _).below hb1
  have B1 : Blk w1 (w.heap.size + 1) #[.int .i64 3, .int .i64 fn, .int .i64 h, .int .i64 rn, .int .i64 v, .int .i64 x] 36 := ((Blk.new1 w _ #[.int .i64 3, .int .i64 fn, .int .i64 h, .int .i64 rn, .int .i64 v, .int .i64 x] 36).alloc _).below hb1
  have B2 : Blk w1 (w.heap.size + 1 + 1) zS.cells 46 := (Blk.new2 w _ _ zS.cells 46).below hb1
  have hbb := below_past (below_past (below_past hb1))
  clear hb1
  have d0 := B1.cell 0
  have d1 := B1.cell 1
  have d2 := B1.cell 2
  have d3 := B1.cell 3
  have d4 := B1.cell 4
  have d5 := B1.cell 5
  simp only [List.getElem?_toArray, List.getElem?_cons_zero, List.getElem?_cons_succ] at d0 d1 d2 d3 d4 d5
  have cw := B0.cell (42 + rn * 4 + fn)
  have cf := B0.free (42 + rn * 4 + fn)
  rw [cells_pr S rn fn hr hf, h0] at cw
  go_wp2_with fail
  go_quiet (fail)
  go_wp2_with fail
  go_quiet (fail)
  go_wp2_with fail
  go_quiet (fail)
  go_wp2_with fail
  go_region
  clear cw cf
  have B0' : ∀ m, Blk ((w1.drewN m).setCell ⟨w.heap.size, 42 + rn * 4 + fn, none⟩ (.int .i64 (1 + v))) w.heap.size (S.setP rn fn (1 + v)).cells 46 := fun m => by
    rw [← set_pr S rn fn (1 + v) hr hf]; exact (B0.drewN m).setCell _ _
  have B2' : ∀ m, Blk ((w1.drewN m).setCell ⟨w.heap.size, 42 + rn * 4 + fn, none⟩ (.int .i64 (1 + v))) (w.heap.size + 1 + 1) zS.cells 46 := fun m => (B2.drewN m).setCell_other _ _ (by simp; omega)
  have hb' : ∀ m, Below w.heap.size w ((w1.drewN m).setCell ⟨w.heap.size, 42 + rn * 4 + fn, none⟩ (.int .i64 (1 + v))) := fun m => (below_drewN' hbb m).setCell (Nat.le_refl _) _
  clear B0 B1 B2 d0 d1 d2 d3 d4 d5 hbb
  have hi37 := info37 (S.setP rn fn (1 + v))
  go_wp2_with (first | (refine wpList_load_blk rfl 46 _ rfl w.heap.size rfl 46 (S.setP rn fn (1 + v)).cells _ (B0' _) Tryz.underlying46 rfl hi37 ?_) | (refine wpList_store_blk rfl 46 _ _ rfl (w.heap.size + 1 + 1) zS.cells (S.setP rn fn (1 + v)).cells 46 rfl rfl (B2' _) (sizes zS (S.setP rn fn (1 + v))) hi37 (one_cell (S.setP rn fn (1 + v))) ?_; rintro w2 B3 K2))
  exact bodyPost_ret (v := .agg (S.setP rn fn (1 + v)).cells) (result_sheet rfl _ _ (w.heap.size + 1 + 1) (S.setP rn fn (1 + v)) rfl B3) rfl ⟨rfl, K2.bel _ _ (by omega) (hb' _)⟩

set_option maxRecDepth 100000 in
set_option maxHeartbeats 1000000 in
theorem hearSheet_promise_no (S : Sh) (fn rn : Nat) (h v x : Int) (w : World) (hf : fn < 4) (hr : rn < 6) (_v0 : 0 ≤ v) (_v1 : v ≤ 9) (hg : goodC 3 fn h rn v x = 0) (h0 : ¬ S.pr rn fn = 0) :
    Calls Tryz.prog 52 #[.agg S.cells, .agg #[.int .i64 3, .int .i64 fn, .int .i64 h, .int .i64 rn, .int .i64 v, .int .i64 x]] w fun e w' => e = .returned (.agg S.cells) ∧ Below w.heap.size w w' := by
  have hz := run_zero
  go_enter Tryz.func52, Tryz.ntmps52
  go_wp2_with fail
  refine (wordError_any _ _ _ _ _ _ _).mono ?_
  rintro e w1 ⟨rfl, hb1⟩
  have B0 : Blk w1 w.heap.size S.cells 46 := (((Blk.new w S.cells 46).alloc _).alloc _).below hb1
  have B1 : Blk w1 (w.heap.size + 1) #[.int .i64 3, .int .i64 fn, .int .i64 h, .int .i64 rn, .int .i64 v, .int .i64 x] 36 := ((Blk.new1 w _ #[.int .i64 3, .int .i64 fn, .int .i64 h, .int .i64 rn, .int .i64 v, .int .i64 x] 36).alloc _).below hb1
  have B2 : Blk w1 (w.heap.size + 1 + 1) zS.cells 46 := (Blk.new2 w _ _ zS.cells 46).below hb1
  have hbb := below_past (below_past (below_past hb1))
  clear hb1
  have d0 := B1.cell 0
  have d1 := B1.cell 1
  have d2 := B1.cell 2
  have d3 := B1.cell 3
  have d4 := B1.cell 4
  have d5 := B1.cell 5
  simp only [List.getElem?_toArray, List.getElem?_cons_zero, List.getElem?_cons_succ] at d0 d1 d2 d3 d4 d5
  have cw := B0.cell (42 + rn * 4 + fn)
  rw [cells_pr S rn fn hr hf] at cw
  have hn : (S.pr rn fn == 0) = false := by simp [h0]
  clear h0
  go_wp2_with fail
  go_quiet (fail)
  go_wp2_with fail
  go_quiet (fail)
  go_wp2_with fail
  go_quiet (fail)
  clear cw
  have B0' : ∀ a b c, Blk (((w1.drewN a).drewN b).drewN c) w.heap.size S.cells 46 := fun a b c => ((B0.drewN a).drewN b).drewN c
  have B2' : ∀ a b c, Blk (((w1.drewN a).drewN b).drewN c) (w.heap.size + 1 + 1) zS.cells 46 := fun a b c => ((B2.drewN a).drewN b).drewN c
  have hb' : ∀ a b c, Below w.heap.size w (((w1.drewN a).drewN b).drewN c) := fun a b c => below_drewN' (below_drewN' (below_drewN' hbb a) b) c
  clear B0 B1 B2 d0 d1 d2 d3 d4 d5 hbb
  have hi37 := info37 S
  go_wp2_with (first | (refine wpList_load_blk rfl 46 _ rfl w.heap.size rfl 46 S.cells _ (B0' _ _ _) Tryz.underlying46 rfl hi37 ?_) | (refine wpList_store_blk rfl 46 _ _ rfl (w.heap.size + 1 + 1) zS.cells S.cells 46 rfl rfl (B2' _ _ _) (sizes zS S) hi37 (one_cell S) ?_; rintro w2 B3 K2))
  exact bodyPost_ret (v := .agg S.cells) (result_sheet rfl _ _ (w.heap.size + 1 + 1) S rfl B3) rfl ⟨rfl, K2.bel _ _ (by omega) (hb' _ _ _)⟩

set_option maxRecDepth 100000 in
set_option maxHeartbeats 1000000 in
theorem hearSheet_call (S : Sh) (fn rn : Nat) (h v x : Int) (w : World) (_hf : fn < 4) (hr : rn < 6) (_v0 : 0 ≤ v) (_v1 : v ≤ 9) (hg : goodC 1 fn h rn v x = 0) (hl : (fn : Int) = lead h rn) (hi : S.is rn = false) :
    Calls Tryz.prog 52 #[.agg S.cells, .agg #[.int .i64 1, .int .i64 fn, .int .i64 h, .int .i64 rn, .int .i64 v, .int .i64 x]] w fun e w' => e = .returned (.agg (S.setC rn v x).cells) ∧ Below w.heap.size w w' := by
  have hz := run_zero
  have hq : ((fn : Int) == lead h rn) = true := by simp [hl]
  have HL : Hid ((fn : Int) = lead h rn) := hl
  clear hl
  go_enter Tryz.func52, Tryz.ntmps52
  go_wp2_with fail
  refine (wordError_any _ _ _ _ _ _ _).mono ?_
  rintro e w1 ⟨rfl, hb1⟩
  have B0 : Blk w1 w.heap.size S.cells 46 := (((Blk.new w S.cells 46).alloc _).alloc _).below hb1
  have B1 : Blk w1 (w.heap.size + 1) #[.int .i64 1, .int .i64 fn, .int .i64 h, .int .i64 rn, .int .i64 v, .int .i64 x] 36 := ((Blk.new1 w _ #[.int .i64 1, .int .i64 fn, .int .i64 h, .int .i64 rn, .int .i64 v, .int .i64 x] 36).alloc _).below hb1
  have B2 : Blk w1 (w.heap.size + 1 + 1) zS.cells 46 := (Blk.new2 w _ _ zS.cells 46).below hb1
  have hbb := below_past (below_past (below_past hb1))
  clear hb1
  have d0 := B1.cell 0
  have d1 := B1.cell 1
  have d2 := B1.cell 2
  have d3 := B1.cell 3
  have d4 := B1.cell 4
  have d5 := B1.cell 5
  simp only [List.getElem?_toArray, List.getElem?_cons_zero, List.getElem?_cons_succ] at d0 d1 d2 d3 d4 d5
  have c0 := B0.cell (rn * 3)
  have c1 := B0.cell (rn * 3 + 1)
  have c2 := B0.cell (rn * 3 + 2)
  have f0 := B0.free (rn * 3)
  have f1 := B0.free (rn * 3 + 1)
  have f2 := B0.free (rn * 3 + 2)
  rw [cells_is S rn hr, hi] at c0
  rw [cells_val S rn hr] at c1
  rw [cells_vld S rn hr] at c2
  go_wp2_with fail
  go_quiet ((go_at_call 71; exact Calls.quiet_of_same (leaderOf_any _ _ _)))
  go_upto_region 9 with fail
  clear c0 c1 c2 f0 f1 f2
  have B0' : ∀ m, Blk ((((w1.drewN m).setCell ⟨w.heap.size, rn * 3, none⟩ (.bool true)).setCell ⟨w.heap.size, rn * 3 + 1, none⟩ (.int .i64 v)).setCell ⟨w.heap.size, rn * 3 + 2, none⟩ (.int .i64 x)) w.heap.size (S.setC rn v x).cells 46 := fun m => by
    rw [← set_call S rn v x hr]; exact (((B0.drewN m).setCell _ _).setCell _ _).setCell _ _
  have B2' : ∀ m, Blk ((((w1.drewN m).setCell ⟨w.heap.size, rn * 3, none⟩ (.bool true)).setCell ⟨w.heap.size, rn * 3 + 1, none⟩ (.int .i64 v)).setCell ⟨w.heap.size, rn * 3 + 2, none⟩ (.int .i64 x)) (w.heap.size + 1 + 1) zS.cells 46 := fun m => (((B2.drewN m).setCell_other _ _ (by simp; omega)).setCell_other _ _ (by simp; omega)).setCell_other _ _ (by simp; omega)
  have hb' : ∀ m, Below w.heap.size w ((((w1.drewN m).setCell ⟨w.heap.size, rn * 3, none⟩ (.bool true)).setCell ⟨w.heap.size, rn * 3 + 1, none⟩ (.int .i64 v)).setCell ⟨w.heap.size, rn * 3 + 2, none⟩ (.int .i64 x)) := fun m => (((below_drewN' hbb m).setCell (Nat.le_refl _) _).setCell (Nat.le_refl _) _).setCell (Nat.le_refl _) _
  clear B0 B1 B2 d0 d1 d2 d3 d4 d5 hbb
  have hi37 := info37 (S.setC rn v x)
  go_wp2_with (first | (refine wpList_load_blk rfl 46 _ rfl w.heap.size rfl 46 (S.setC rn v x).cells _ (B0' _) Tryz.underlying46 rfl hi37 ?_) | (refine wpList_store_blk rfl 46 _ _ rfl (w.heap.size + 1 + 1) zS.cells (S.setC rn v x).cells 46 rfl rfl (B2' _) (sizes zS (S.setC rn v x)) hi37 (one_cell (S.setC rn v x)) ?_; rintro w2 B3 K2))
  exact bodyPost_ret (v := .agg (S.setC rn v x).cells) (result_sheet rfl _ _ (w.heap.size + 1 + 1) (S.setC rn v x) rfl B3) rfl ⟨rfl, K2.bel _ _ (by omega) (hb' _)⟩

set_option maxRecDepth 100000 in
set_option maxHeartbeats 1000000 in
theorem hearSheet_call_no (S : Sh) (fn rn : Nat) (h v x : Int) (w : World) (_hf : fn < 4) (_hr : rn < 6) (_v0 : 0 ≤ v) (_v1 : v ≤ 9) (hg : goodC 1 fn h rn v x = 0) (hl : ¬ (fn : Int) = lead h rn) :
    Calls Tryz.prog 52 #[.agg S.cells, .agg #[.int .i64 1, .int .i64 fn, .int .i64 h, .int .i64 rn, .int .i64 v, .int .i64 x]] w fun e w' => e = .returned (.agg S.cells) ∧ Below w.heap.size w w' := by
  have hz := run_zero
  have hq : ((fn : Int) == lead h rn) = false := by simp [hl]
  clear hl
  go_enter Tryz.func52, Tryz.ntmps52
  go_wp2_with fail
  refine (wordError_any _ _ _ _ _ _ _).mono ?_
  rintro e w1 ⟨rfl, hb1⟩
  have B0 : Blk w1 w.heap.size S.cells 46 := (((Blk.new w S.cells 46).alloc _).alloc _).below hb1
  have B1 : Blk w1 (w.heap.size + 1) #[.int .i64 1, .int .i64 fn, .int .i64 h, .int .i64 rn, .int .i64 v, .int .i64 x] 36 := ((Blk.new1 w _ #[.int .i64 1, .int .i64 fn, .int .i64 h, .int .i64 rn, .int .i64 v, .int .i64 x] 36).alloc _).below hb1
  have B2 : Blk w1 (w.heap.size + 1 + 1) zS.cells 46 := (Blk.new2 w _ _ zS.cells 46).below hb1
  have hbb := below_past (below_past (below_past hb1))
  clear hb1
  have d0 := B1.cell 0
  have d1 := B1.cell 1
  have d2 := B1.cell 2
  have d3 := B1.cell 3
  have d4 := B1.cell 4
  have d5 := B1.cell 5
  simp only [List.getElem?_toArray, List.getElem?_cons_zero, List.getElem?_cons_succ] at d0 d1 d2 d3 d4 d5

  go_wp2_with fail
  go_quiet ((go_at_call 71; exact Calls.quiet_of_same (leaderOf_any _ _ _)))
  go_wp2_with fail
  go_quiet (fail)
  go_wp2_with fail
  go_quiet (fail)
  have B0' : ∀ a b c, Blk (((w1.drewN a).drewN b).drewN c) w.heap.size S.cells 46 := fun a b c => ((B0.drewN a).drewN b).drewN c
  have B2' : ∀ a b c, Blk (((w1.drewN a).drewN b).drewN c) (w.heap.size + 1 + 1) zS.cells 46 := fun a b c => ((B2.drewN a).drewN b).drewN c
  have hb' : ∀ a b c, Below w.heap.size w (((w1.drewN a).drewN b).drewN c) := fun a b c => below_drewN' (below_drewN' (below_drewN' hbb a) b) c
  clear B0 B1 B2 d0 d1 d2 d3 d4 d5 hbb
  have hi37 := info37 S
  go_wp2_with (first | (refine wpList_load_blk rfl 46 _ rfl w.heap.size rfl 46 S.cells _ (B0' _ _ _) Tryz.underlying46 rfl hi37 ?_) | (refine wpList_store_blk rfl 46 _ _ rfl (w.heap.size + 1 + 1) zS.cells S.cells 46 rfl rfl (B2' _ _ _) (sizes zS S) hi37 (one_cell S) ?_; rintro w2 B3 K2))
  exact bodyPost_ret (v := .agg S.cells) (result_sheet rfl _ _ (w.heap.size + 1 + 1) S rfl B3) rfl ⟨rfl, K2.bel _ _ (by omega) (hb' _ _ _)⟩

set_option maxRecDepth 100000 in
set_option maxHeartbeats 1000000 in
theorem hearSheet_call_is (S : Sh) (fn rn : Nat) (h v x : Int) (w : World) (_hf : fn < 4) (hr : rn < 6) (_v0 : 0 ≤ v) (_v1 : v ≤ 9) (hg : goodC 1 fn h rn v x = 0) (hl : (fn : Int) = lead h rn) (hi : S.is rn = true) :
    Calls Tryz.prog 52 #[.agg S.cells, .agg #[.int .i64 1, .int .i64 fn, .int .i64 h, .int .i64 rn, .int .i64 v, .int .i64 x]] w fun e w' => e = .returned (.agg S.cells) ∧ Below w.heap.size w w' := by
  have hz := run_zero
  have hq : ((fn : Int) == lead h rn) = true := by simp [hl]
  have HL : Hid ((fn : Int) = lead h rn) := hl
  clear hl
  go_enter Tryz.func52, Tryz.ntmps52
  go_wp2_with fail
  refine (wordError_any _ _ _ _ _ _ _).mono ?_
  rintro e w1 ⟨rfl, hb1⟩
  have B0 : Blk w1 w.heap.size S.cells 46 := (((Blk.new w S.cells 46).alloc _).alloc _).below hb1
  have B1 : Blk w1 (w.heap.size + 1) #[.int .i64 1, .int .i64 fn, .int .i64 h, .int .i64 rn, .int .i64 v, .int .i64 x] 36 := ((Blk.new1 w _ #[.int .i64 1, .int .i64 fn, .int .i64 h, .int .i64 rn, .int .i64 v, .int .i64 x] 36).alloc _).below hb1
  have B2 : Blk w1 (w.heap.size + 1 + 1) zS.cells 46 := (Blk.new2 w _ _ zS.cells 46).below hb1
  have hbb := below_past (below_past (below_past hb1))
  clear hb1
  have d0 := B1.cell 0
  have d1 := B1.cell 1
  have d2 := B1.cell 2
  have d3 := B1.cell 3
  have d4 := B1.cell 4
  have d5 := B1.cell 5
  simp only [List.getElem?_toArray, List.getElem?_cons_zero, List.getElem?_cons_succ] at d0 d1 d2 d3 d4 d5
  have c0 := B0.cell (rn * 3)
  rw [cells_is S rn hr, hi] at c0
  go_wp2_with fail
  go_quiet ((go_at_call 71; exact Calls.quiet_of_same (leaderOf_any _ _ _)))
  go_wp2_with fail
  go_quiet (fail)
  go_wp2_with fail
  go_quiet (fail)
  clear c0
  have B0' : ∀ a b c, Blk (((w1.drewN a).drewN b).drewN c) w.heap.size S.cells 46 := fun a b c => ((B0.drewN a).drewN b).drewN c
  have B2' : ∀ a b c, Blk (((w1.drewN a).drewN b).drewN c) (w.heap.size + 1 + 1) zS.cells 46 := fun a b c => ((B2.drewN a).drewN b).drewN c
  have hb' : ∀ a b c, Below w.heap.size w (((w1.drewN a).drewN b).drewN c) := fun a b c => below_drewN' (below_drewN' (below_drewN' hbb a) b) c
  clear B0 B1 B2 d0 d1 d2 d3 d4 d5 hbb
  have hi37 := info37 S
  go_wp2_with (first | (refine wpList_load_blk rfl 46 _ rfl w.heap.size rfl 46 S.cells _ (B0' _ _ _) Tryz.underlying46 rfl hi37 ?_) | (refine wpList_store_blk rfl 46 _ _ rfl (w.heap.size + 1 + 1) zS.cells S.cells 46 rfl rfl (B2' _ _ _) (sizes zS S) hi37 (one_cell S) ?_; rintro w2 B3 K2))
  exact bodyPost_ret (v := .agg S.cells) (result_sheet rfl _ _ (w.heap.size + 1 + 1) S rfl B3) rfl ⟨rfl, K2.bel _ _ (by omega) (hb' _ _ _)⟩

end Go.Proofs.YtmmgaonlmpajbacGreat
namespace Go.Proofs.YtmmgaonlmpajbacGreat
open Go.RowKit

/-- A sheet behind a word. -/
def hearS (S : Sh) (k f h r v x : Int) : Sh :=
  if goodC k f h r v x = 0 then
    (if k = 1 then (if f = lead h r ∧ S.is r.toNat = false then S.setC r.toNat v x else S)
    else if k = 2 then (if S.wi r.toNat f.toNat = 0 then S.setW r.toNat f.toNat (1 + v) else S)
    else (if S.pr r.toNat f.toNat = 0 then S.setP r.toNat f.toNat (1 + v) else S))
  else S

theorem goodC_bds {k f h r v x : Int} (hg : goodC k f h r v x = 0) :
    1 ≤ k ∧ k ≤ 3 ∧ 0 ≤ f ∧ f ≤ 3 ∧ 0 ≤ h ∧ h ≤ 3 ∧ 0 ≤ r ∧ r ≤ 5 ∧ 0 ≤ v ∧ v ≤ 9 ∧ -1 ≤ x ∧ x ≤ 4 := by
  unfold goodC at hg
  split at hg
  · omega
  · split at hg
    · omega
    · split at hg
      · omega
      · rename_i h1 h2 h3
        simp [win, inb] at h1 h2
        by_cases hk : k = 1
        · simp [hk] at h2 ⊢; omega
        · simp [hk] at h2 h3 ⊢; omega

theorem hearSheet_any (S : Sh) (k f h r v x : Int) (w : World) :
    Calls Tryz.prog 52 #[.agg S.cells, .agg #[.int .i64 k, .int .i64 f, .int .i64 h, .int .i64 r, .int .i64 v, .int .i64 x]] w fun e w' => e = .returned (.agg (hearS S k f h r v x).cells) ∧ Below w.heap.size w w' := by
  by_cases hg : goodC k f h r v x = 0
  · obtain ⟨b1, b2, b3, b4, b5, b6, b7, b8, b9, b10, b11, b12⟩ := goodC_bds hg
    obtain ⟨fn, rfl⟩ := Int.eq_ofNat_of_zero_le b3
    obtain ⟨rn, rfl⟩ := Int.eq_ofNat_of_zero_le b7
    have hf : fn < 4 := by omega
    have hr : rn < 6 := by omega
    unfold hearS
    rw [if_pos hg]
    simp only [Int.toNat_natCast]
    have hk : k = 1 ∨ k = 2 ∨ k = 3 := by omega
    rcases hk with rfl | rfl | rfl
    · rw [if_pos rfl]
      by_cases hl : (fn : Int) = lead h rn
      · cases hi : S.is rn
        · rw [if_pos ⟨hl, rfl⟩]
          exact hearSheet_call S fn rn h v x w hf hr b9 b10 hg hl hi
        · rw [if_neg (fun hh => Bool.noConfusion hh.2)]
          exact hearSheet_call_is S fn rn h v x w hf hr b9 b10 hg hl hi
      · rw [if_neg (fun hh => hl hh.1)]
        exact hearSheet_call_no S fn rn h v x w hf hr b9 b10 hg hl
    · rw [if_neg (by decide), if_pos rfl]
      by_cases h0 : S.wi rn fn = 0
      · rw [if_pos h0]
        exact hearSheet_wish S fn rn h v x w hf hr b9 b10 hg h0
      · rw [if_neg h0]
        exact hearSheet_wish_no S fn rn h v x w hf hr b9 b10 hg h0
    · rw [if_neg (by decide), if_neg (by decide)]
      by_cases h0 : S.pr rn fn = 0
      · rw [if_pos h0]
        exact hearSheet_promise S fn rn h v x w hf hr b9 b10 hg h0
      · rw [if_neg h0]
        exact hearSheet_promise_no S fn rn h v x w hf hr b9 b10 hg h0
  · have := hearSheet_bad S k f h r v x w (by rw [bne_iff_ne]; exact hg)
    unfold hearS
    rw [if_neg hg]
    exact this
end Go.Proofs.YtmmgaonlmpajbacGreat
namespace Go.Proofs.YtmmgaonlmpajbacGreat
open Go.RowKit

set_option maxHeartbeats 400000 in
theorem say_zero (g j : Nat) (value : Int) (w : World) (h0 : 0 ≤ value) (h9 : value ≤ 9) (hc : w.cell? ⟨g, j, none⟩ = some (.int .i64 0)) (hf : w.frozen? ⟨g, j, none⟩ = false) :
    Calls Tryz.prog 101 #[.pointer (some ⟨g, j, none⟩), .int .i64 value] w fun e w' => e = .returned (.tuple #[]) ∧ w' = w.setCell ⟨g, j, none⟩ (.int .i64 (1 + value)) := by
  go_enter Tryz.func101, Tryz.ntmps101
  go_wp2
  refine bodyPost_end (results_none rfl _ _ _) rfl ?_
  refine ⟨rfl, ?_⟩
  rw [Int.add_comm]

set_option maxHeartbeats 400000 in
theorem say_not (g j : Nat) (value n : Int) (w : World) (hn : (n == 0) = false) (hc : w.cell? ⟨g, j, none⟩ = some (.int .i64 n)) :
    Calls Tryz.prog 101 #[.pointer (some ⟨g, j, none⟩), .int .i64 value] w fun e w' => e = .returned (.tuple #[]) ∧ w' = w := by
  go_enter Tryz.func101, Tryz.ntmps101
  go_wp2
  refine bodyPost_end (results_none rfl _ _ _) rfl ?_
  exact ⟨rfl, rfl⟩

set_option maxHeartbeats 400000 in
theorem propose_is (g j : Nat) (k f h r v x : Int) (w : World) (hc : w.cell? ⟨g, j, none⟩ = some (.bool true)) :
    Calls Tryz.prog 100 #[.pointer (some ⟨g, j, none⟩), .agg #[.int .i64 k, .int .i64 f, .int .i64 h, .int .i64 r, .int .i64 v, .int .i64 x]] w fun e w' => e = .returned (.tuple #[]) ∧ w' = w.alloc (.cells #[.int .i64 k, .int .i64 f, .int .i64 h, .int .i64 r, .int .i64 v, .int .i64 x] 36) := by
  have hg : g < w.heap.size := World.block_lt_of_cell? w _ hc
  go_enter Tryz.func100, Tryz.ntmps100
  go_wp2
  refine bodyPost_end (results_none rfl _ _ _) rfl ?_
  exact ⟨rfl, rfl⟩

set_option maxHeartbeats 400000 in
theorem propose_new (g j : Nat) (k f h r v x : Int) (a b : Value) (w : World) (hc : w.cell? ⟨g, j, none⟩ = some (.bool false)) (hc1 : w.cell? ⟨g, j + 1, none⟩ = some a) (hc2 : w.cell? ⟨g, j + 2, none⟩ = some b)
    (hf : w.frozen? ⟨g, j, none⟩ = false) (hf1 : w.frozen? ⟨g, j + 1, none⟩ = false) (hf2 : w.frozen? ⟨g, j + 2, none⟩ = false) :
    Calls Tryz.prog 100 #[.pointer (some ⟨g, j, none⟩), .agg #[.int .i64 k, .int .i64 f, .int .i64 h, .int .i64 r, .int .i64 v, .int .i64 x]] w fun e w' => e = .returned (.tuple #[]) ∧ w' = (((w.setCell ⟨g, j, none⟩ (.bool true)).setCell ⟨g, j + 1, none⟩ (.int .i64 v)).setCell ⟨g, j + 2, none⟩ (.int .i64 x)).alloc (.cells #[.int .i64 k, .int .i64 f, .int .i64 h, .int .i64 r, .int .i64 v, .int .i64 x] 36) := by
  have hg : g < w.heap.size := World.block_lt_of_cell? w _ hc
  go_enter Tryz.func100, Tryz.ntmps100
  go_wp2
  refine bodyPost_end (results_none rfl _ _ _) rfl ?_
  exact ⟨rfl, rfl⟩

theorem far1 {W : World} {g j o : Nat} {u v : Value} (h : W.cell? ⟨g + 1, o, none⟩ = some u) : (W.setCell ⟨g, j, none⟩ v).cell? ⟨g + 1, o, none⟩ = some u := by
  rw [World.cell?_setCell_far _ _ _ _ (by simp)]; exact h

theorem below_drew' {B : Nat} {a W : World} (h : Below B a W) : Below B a W.drew := ⟨h.os, h.tape, h.output, h.size, h.block⟩

theorem alloc1 {W : World} {g o : Nat} {u : Value} {ob : Obj} (h : W.cell? ⟨g, o, none⟩ = some u) : (W.alloc ob).cell? ⟨g, o, none⟩ = some u := by
  rw [World.cell?_alloc_lt _ _ _ (World.block_lt_of_cell? W _ h)]; exact h

set_option maxRecDepth 100000 in
set_option maxHeartbeats 1000000 in
theorem vhear_bad (S : Sh) (k f h r v x : Int) (w : World) (hg : (goodC k f h r v x != 0) = true) :
    Calls Tryz.prog 92 #[.agg S.cells, .agg #[.int .i64 k, .int .i64 f, .int .i64 h, .int .i64 r, .int .i64 v, .int .i64 x]] w fun e w' => e = .returned (.agg S.cells) ∧ Below w.heap.size w w' := by
  have hz := run_zero
  go_enter Tryz.func92, Tryz.ntmps92
  go_wp2_with fail
  refine (good_any _ _ _ _ _ _ _).mono ?_
  rintro e w1 ⟨rfl, hb1⟩
  have B0 : Blk w1 w.heap.size S.cells 46 := (((Blk.new w S.cells 46).alloc _).alloc _).below hb1
  have B2 : Blk w1 (w.heap.size + 1 + 1) zS.cells 46 := (Blk.new2 w _ _ zS.cells 46).below hb1
  have hbb := below_past (below_past (below_past hb1))
  clear hb1
  have hi37 := info37 S
  go_wp2_with (first | (refine wpList_load_blk rfl 46 _ rfl w.heap.size rfl 46 S.cells _ B0 Tryz.underlying46 rfl hi37 ?_) | (refine wpList_store_blk rfl 46 _ _ rfl (w.heap.size + 1 + 1) zS.cells S.cells 46 rfl rfl B2 (sizes zS S) hi37 (one_cell S) ?_; rintro w2 B3 K2))
  exact bodyPost_ret (v := .agg S.cells) (result_sheet rfl _ _ (w.heap.size + 1 + 1) S rfl B3) rfl ⟨rfl, K2.bel _ _ (by omega) hbb⟩

set_option maxRecDepth 100000 in
set_option maxHeartbeats 1000000 in
theorem vhear_wish (S : Sh) (fn rn : Nat) (h v x : Int) (w : World) (hf : fn < 4) (hr : rn < 6) (v0 : 0 ≤ v) (v1 : v ≤ 9) (hg : goodC 2 fn h rn v x = 0) (h0 : S.wi rn fn = 0) :
    Calls Tryz.prog 92 #[.agg S.cells, .agg #[.int .i64 2, .int .i64 fn, .int .i64 h, .int .i64 rn, .int .i64 v, .int .i64 x]] w fun e w' => e = .returned (.agg (S.setW rn fn (1 + v)).cells) ∧ Below w.heap.size w w' := by
  have hz := run_zero
  go_enter Tryz.func92, Tryz.ntmps92
  go_wp2_with fail
  refine (good_any _ _ _ _ _ _ _).mono ?_
  rintro e w1 ⟨rfl, hb1⟩
  have B0 : Blk w1 w.heap.size S.cells 46 := (((Blk.new w S.cells 46).alloc _).alloc _).below hb1
  have B1 : Blk w1 (w.heap.size + 1) #[.int .i64 2, .int .i64 fn, .int .i64 h, .int .i64 rn, .int .i64 v, .int .i64 x] 36 := ((Blk.new1 w _ #[.int .i64 2, .int .i64 fn, .int .i64 h, .int .i64 rn, .int .i64 v, .int .i64 x] 36).alloc _).below hb1
  have B2 : Blk w1 (w.heap.size + 1 + 1) zS.cells 46 := (Blk.new2 w _ _ zS.cells 46).below hb1
  have hbb := below_past (below_past (below_past hb1))
  clear hb1
  have d0 := B1.cell 0
  have d1 := B1.cell 1
  have d2 := B1.cell 2
  have d3 := B1.cell 3
  have d4 := B1.cell 4
  have d5 := B1.cell 5
  simp only [List.getElem?_toArray, List.getElem?_cons_zero, List.getElem?_cons_succ] at d0 d1 d2 d3 d4 d5
  have cw := B0.cell (18 + rn * 4 + fn)
  have cf := B0.free (18 + rn * 4 + fn)
  rw [cells_wi S rn fn hr hf, h0] at cw
  go_wp2_with fail
  go_region_held (fun W => W.cell? ⟨w.heap.size + 1, 1, none⟩ = some (.int .i64 (fn : Int)) ∧ W.cell? ⟨w.heap.size + 1, 3, none⟩ = some (.int .i64 (rn : Int)) ∧ W.cell? ⟨w.heap.size + 1, 4, none⟩ = some (.int .i64 v)) (first | exact ⟨d1, d3, d4⟩ | exact ⟨far1 d1, far1 d3, far1 d4⟩) ((first | (go_at_call 101; refine (say_zero w.heap.size (18 + rn * 4 + fn) v w1.drew v0 v1 cw cf).mono ?_; rintro e w' ⟨rfl, rfl⟩)))
  clear cw cf
  have B0' : Blk (w1.drew.setCell ⟨w.heap.size, 18 + rn * 4 + fn, none⟩ (.int .i64 (1 + v))) w.heap.size (S.setW rn fn (1 + v)).cells 46 := by
    rw [← set_wi S rn fn (1 + v) hr hf]; exact B0.drew.setCell _ _
  have B2' : Blk (w1.drew.setCell ⟨w.heap.size, 18 + rn * 4 + fn, none⟩ (.int .i64 (1 + v))) (w.heap.size + 1 + 1) zS.cells 46 := B2.drew.setCell_other _ _ (by simp; omega)
  have hb' : Below w.heap.size w (w1.drew.setCell ⟨w.heap.size, 18 + rn * 4 + fn, none⟩ (.int .i64 (1 + v))) := (below_drew' hbb).setCell (Nat.le_refl _) _
  clear B0 B1 B2 d0 d1 d2 d3 d4 d5 hbb
  have hi37 := info37 (S.setW rn fn (1 + v))
  go_wp2_with (first | (refine wpList_load_blk rfl 46 _ rfl w.heap.size rfl 46 (S.setW rn fn (1 + v)).cells _ B0' Tryz.underlying46 rfl hi37 ?_) | (refine wpList_store_blk rfl 46 _ _ rfl (w.heap.size + 1 + 1) zS.cells (S.setW rn fn (1 + v)).cells 46 rfl rfl B2' (sizes zS (S.setW rn fn (1 + v))) hi37 (one_cell (S.setW rn fn (1 + v))) ?_; rintro w2 B3 K2))
  exact bodyPost_ret (v := .agg (S.setW rn fn (1 + v)).cells) (result_sheet rfl _ _ (w.heap.size + 1 + 1) (S.setW rn fn (1 + v)) rfl B3) rfl ⟨rfl, K2.bel _ _ (by omega) hb'⟩

set_option maxRecDepth 100000 in
set_option maxHeartbeats 1000000 in
theorem vhear_wish_no (S : Sh) (fn rn : Nat) (h v x : Int) (w : World) (hf : fn < 4) (hr : rn < 6) (_v0 : 0 ≤ v) (_v1 : v ≤ 9) (hg : goodC 2 fn h rn v x = 0) (h0 : ¬ S.wi rn fn = 0) :
    Calls Tryz.prog 92 #[.agg S.cells, .agg #[.int .i64 2, .int .i64 fn, .int .i64 h, .int .i64 rn, .int .i64 v, .int .i64 x]] w fun e w' => e = .returned (.agg S.cells) ∧ Below w.heap.size w w' := by
  have hz := run_zero
  go_enter Tryz.func92, Tryz.ntmps92
  go_wp2_with fail
  refine (good_any _ _ _ _ _ _ _).mono ?_
  rintro e w1 ⟨rfl, hb1⟩
  have B0 : Blk w1 w.heap.size S.cells 46 := (((Blk.new w S.cells 46).alloc _).alloc _).below hb1
  have B1 : Blk w1 (w.heap.size + 1) #[.int .i64 2, .int .i64 fn, .int .i64 h, .int .i64 rn, .int .i64 v, .int .i64 x] 36 := ((Blk.new1 w _ #[.int .i64 2, .int .i64 fn, .int .i64 h, .int .i64 rn, .int .i64 v, .int .i64 x] 36).alloc _).below hb1
  have B2 : Blk w1 (w.heap.size + 1 + 1) zS.cells 46 := (Blk.new2 w _ _ zS.cells 46).below hb1
  have hbb := below_past (below_past (below_past hb1))
  clear hb1
  have d0 := B1.cell 0
  have d1 := B1.cell 1
  have d2 := B1.cell 2
  have d3 := B1.cell 3
  have d4 := B1.cell 4
  have d5 := B1.cell 5
  simp only [List.getElem?_toArray, List.getElem?_cons_zero, List.getElem?_cons_succ] at d0 d1 d2 d3 d4 d5
  have cw := B0.cell (18 + rn * 4 + fn)
  rw [cells_wi S rn fn hr hf] at cw
  have hn : (S.wi rn fn == 0) = false := by simp [h0]
  clear h0
  go_wp2_with fail
  go_region_held (fun W => W.cell? ⟨w.heap.size + 1, 1, none⟩ = some (.int .i64 (fn : Int)) ∧ W.cell? ⟨w.heap.size + 1, 3, none⟩ = some (.int .i64 (rn : Int)) ∧ W.cell? ⟨w.heap.size + 1, 4, none⟩ = some (.int .i64 v)) (first | exact ⟨d1, d3, d4⟩) ((first | (go_at_call 101; refine (say_not w.heap.size (18 + rn * 4 + fn) v (S.wi rn fn) w1.drew hn cw).mono ?_; rintro e w' ⟨rfl, rfl⟩)))
  clear cw hn
  have B0' : Blk w1.drew w.heap.size S.cells 46 := B0.drew
  have B2' : Blk w1.drew (w.heap.size + 1 + 1) zS.cells 46 := B2.drew
  have hb' : Below w.heap.size w w1.drew := below_drew' hbb
  clear B0 B1 B2 d0 d1 d2 d3 d4 d5 hbb
  have hi37 := info37 S
  go_wp2_with (first | (refine wpList_load_blk rfl 46 _ rfl w.heap.size rfl 46 S.cells _ B0' Tryz.underlying46 rfl hi37 ?_) | (refine wpList_store_blk rfl 46 _ _ rfl (w.heap.size + 1 + 1) zS.cells S.cells 46 rfl rfl B2' (sizes zS S) hi37 (one_cell S) ?_; rintro w2 B3 K2))
  exact bodyPost_ret (v := .agg S.cells) (result_sheet rfl _ _ (w.heap.size + 1 + 1) S rfl B3) rfl ⟨rfl, K2.bel _ _ (by omega) hb'⟩

set_option maxRecDepth 100000 in
set_option maxHeartbeats 1000000 in
theorem vhear_promise (S : Sh) (fn rn : Nat) (h v x : Int) (w : World) (hf : fn < 4) (hr : rn < 6) (v0 : 0 ≤ v) (v1 : v ≤ 9) (hg : goodC 3 fn h rn v x = 0) (h0 : S.pr rn fn = 0) :
    Calls Tryz.prog 92 #[.agg S.cells, .agg #[.int .i64 3, .int .i64 fn, .int .i64 h, .int .i64 rn, .int .i64 v, .int .i64 x]] w fun e w' => e = .returned (.agg (S.setP rn fn (1 + v)).cells) ∧ Below w.heap.size w w' := by
  have hz := run_zero
  go_enter Tryz.func92, Tryz.ntmps92
  go_wp2_with fail
  refine (good_any _ _ _ _ _ _ _).mono ?_
  rintro e w1 ⟨rfl, hb1⟩
  have B0 : Blk w1 w.heap.size S.cells 46 := (((Blk.new w S.cells 46).alloc _).alloc _).below hb1
  have B1 : Blk w1 (w.heap.size + 1) #[.int .i64 3, .int .i64 fn, .int .i64 h, .int .i64 rn, .int .i64 v, .int .i64 x] 36 := ((Blk.new1 w _ #[.int .i64 3, .int .i64 fn, .int .i64 h, .int .i64 rn, .int .i64 v, .int .i64 x] 36).alloc _).below hb1
  have B2 : Blk w1 (w.heap.size + 1 + 1) zS.cells 46 := (Blk.new2 w _ _ zS.cells 46).below hb1
  have hbb := below_past (below_past (below_past hb1))
  clear hb1
  have d0 := B1.cell 0
  have d1 := B1.cell 1
  have d2 := B1.cell 2
  have d3 := B1.cell 3
  have d4 := B1.cell 4
  have d5 := B1.cell 5
  simp only [List.getElem?_toArray, List.getElem?_cons_zero, List.getElem?_cons_succ] at d0 d1 d2 d3 d4 d5
  have cw := B0.cell (42 + rn * 4 + fn)
  have cf := B0.free (42 + rn * 4 + fn)
  rw [cells_pr S rn fn hr hf, h0] at cw
  go_wp2_with fail
  go_region_held (fun W => W.cell? ⟨w.heap.size + 1, 1, none⟩ = some (.int .i64 (fn : Int)) ∧ W.cell? ⟨w.heap.size + 1, 3, none⟩ = some (.int .i64 (rn : Int)) ∧ W.cell? ⟨w.heap.size + 1, 4, none⟩ = some (.int .i64 v)) (first | exact ⟨d1, d3, d4⟩ | exact ⟨far1 d1, far1 d3, far1 d4⟩) ((first | (go_at_call 101; refine (say_zero w.heap.size (42 + rn * 4 + fn) v w1.drew v0 v1 cw cf).mono ?_; rintro e w' ⟨rfl, rfl⟩)))
  clear cw cf
  have B0' : Blk (w1.drew.setCell ⟨w.heap.size, 42 + rn * 4 + fn, none⟩ (.int .i64 (1 + v))) w.heap.size (S.setP rn fn (1 + v)).cells 46 := by
    rw [← set_pr S rn fn (1 + v) hr hf]; exact B0.drew.setCell _ _
  have B2' : Blk (w1.drew.setCell ⟨w.heap.size, 42 + rn * 4 + fn, none⟩ (.int .i64 (1 + v))) (w.heap.size + 1 + 1) zS.cells 46 := B2.drew.setCell_other _ _ (by simp; omega)
  have hb' : Below w.heap.size w (w1.drew.setCell ⟨w.heap.size, 42 + rn * 4 + fn, none⟩ (.int .i64 (1 + v))) := (below_drew' hbb).setCell (Nat.le_refl _) _
  clear B0 B1 B2 d0 d1 d2 d3 d4 d5 hbb
  have hi37 := info37 (S.setP rn fn (1 + v))
  go_wp2_with (first | (refine wpList_load_blk rfl 46 _ rfl w.heap.size rfl 46 (S.setP rn fn (1 + v)).cells _ B0' Tryz.underlying46 rfl hi37 ?_) | (refine wpList_store_blk rfl 46 _ _ rfl (w.heap.size + 1 + 1) zS.cells (S.setP rn fn (1 + v)).cells 46 rfl rfl B2' (sizes zS (S.setP rn fn (1 + v))) hi37 (one_cell (S.setP rn fn (1 + v))) ?_; rintro w2 B3 K2))
  exact bodyPost_ret (v := .agg (S.setP rn fn (1 + v)).cells) (result_sheet rfl _ _ (w.heap.size + 1 + 1) (S.setP rn fn (1 + v)) rfl B3) rfl ⟨rfl, K2.bel _ _ (by omega) hb'⟩

set_option maxRecDepth 100000 in
set_option maxHeartbeats 1000000 in
theorem vhear_promise_no (S : Sh) (fn rn : Nat) (h v x : Int) (w : World) (hf : fn < 4) (hr : rn < 6) (_v0 : 0 ≤ v) (_v1 : v ≤ 9) (hg : goodC 3 fn h rn v x = 0) (h0 : ¬ S.pr rn fn = 0) :
    Calls Tryz.prog 92 #[.agg S.cells, .agg #[.int .i64 3, .int .i64 fn, .int .i64 h, .int .i64 rn, .int .i64 v, .int .i64 x]] w fun e w' => e = .returned (.agg S.cells) ∧ Below w.heap.size w w' := by
  have hz := run_zero
  go_enter Tryz.func92, Tryz.ntmps92
  go_wp2_with fail
  refine (good_any _ _ _ _ _ _ _).mono ?_
  rintro e w1 ⟨rfl, hb1⟩
  have B0 : Blk w1 w.heap.size S.cells 46 := (((Blk.new w S.cells 46).alloc _).alloc _).below hb1
  have B1 : Blk w1 (w.heap.size + 1) #[.int .i64 3, .int .i64 fn, .int .i64 h, .int .i64 rn, .int .i64 v, .int .i64 x] 36 := ((Blk.new1 w _ #[.int .i64 3, .int .i64 fn, .int .i64 h, .int .i64 rn, .int .i64 v, .int .i64 x] 36).alloc _).below hb1
  have B2 : Blk w1 (w.heap.size + 1 + 1) zS.cells 46 := (Blk.new2 w _ _ zS.cells 46).below hb1
  have hbb := below_past (below_past (below_past hb1))
  clear hb1
  have d0 := B1.cell 0
  have d1 := B1.cell 1
  have d2 := B1.cell 2
  have d3 := B1.cell 3
  have d4 := B1.cell 4
  have d5 := B1.cell 5
  simp only [List.getElem?_toArray, List.getElem?_cons_zero, List.getElem?_cons_succ] at d0 d1 d2 d3 d4 d5
  have cw := B0.cell (42 + rn * 4 + fn)
  rw [cells_pr S rn fn hr hf] at cw
  have hn : (S.pr rn fn == 0) = false := by simp [h0]
  clear h0
  go_wp2_with fail
  go_region_held (fun W => W.cell? ⟨w.heap.size + 1, 1, none⟩ = some (.int .i64 (fn : Int)) ∧ W.cell? ⟨w.heap.size + 1, 3, none⟩ = some (.int .i64 (rn : Int)) ∧ W.cell? ⟨w.heap.size + 1, 4, none⟩ = some (.int .i64 v)) (first | exact ⟨d1, d3, d4⟩) ((first | (go_at_call 101; refine (say_not w.heap.size (42 + rn * 4 + fn) v (S.pr rn fn) w1.drew hn cw).mono ?_; rintro e w' ⟨rfl, rfl⟩)))
  clear cw hn
  have B0' : Blk w1.drew w.heap.size S.cells 46 := B0.drew
  have B2' : Blk w1.drew (w.heap.size + 1 + 1) zS.cells 46 := B2.drew
  have hb' : Below w.heap.size w w1.drew := below_drew' hbb
  clear B0 B1 B2 d0 d1 d2 d3 d4 d5 hbb
  have hi37 := info37 S
  go_wp2_with (first | (refine wpList_load_blk rfl 46 _ rfl w.heap.size rfl 46 S.cells _ B0' Tryz.underlying46 rfl hi37 ?_) | (refine wpList_store_blk rfl 46 _ _ rfl (w.heap.size + 1 + 1) zS.cells S.cells 46 rfl rfl B2' (sizes zS S) hi37 (one_cell S) ?_; rintro w2 B3 K2))
  exact bodyPost_ret (v := .agg S.cells) (result_sheet rfl _ _ (w.heap.size + 1 + 1) S rfl B3) rfl ⟨rfl, K2.bel _ _ (by omega) hb'⟩

set_option maxRecDepth 100000 in
set_option maxHeartbeats 1000000 in
theorem vhear_call (S : Sh) (fn rn : Nat) (h v x : Int) (w : World) (_hf : fn < 4) (hr : rn < 6) (_v0 : 0 ≤ v) (_v1 : v ≤ 9) (hg : goodC 1 fn h rn v x = 0) (hl : (fn : Int) = lead h rn) (hi : S.is rn = false) :
    Calls Tryz.prog 92 #[.agg S.cells, .agg #[.int .i64 1, .int .i64 fn, .int .i64 h, .int .i64 rn, .int .i64 v, .int .i64 x]] w fun e w' => e = .returned (.agg (S.setC rn v x).cells) ∧ Below w.heap.size w w' := by
  have hz := run_zero
  have hq : ((fn : Int) == lead h rn) = true := by simp [hl]
  have HL : Hid ((fn : Int) = lead h rn) := hl
  clear hl
  go_enter Tryz.func92, Tryz.ntmps92
  go_wp2_with fail
  refine (good_any _ _ _ _ _ _ _).mono ?_
  rintro e w1 ⟨rfl, hb1⟩
  have B0 : Blk w1 w.heap.size S.cells 46 := (((Blk.new w S.cells 46).alloc _).alloc _).below hb1
  have B1 : Blk w1 (w.heap.size + 1) #[.int .i64 1, .int .i64 fn, .int .i64 h, .int .i64 rn, .int .i64 v, .int .i64 x] 36 := ((Blk.new1 w _ #[.int .i64 1, .int .i64 fn, .int .i64 h, .int .i64 rn, .int .i64 v, .int .i64 x] 36).alloc _).below hb1
  have B2 : Blk w1 (w.heap.size + 1 + 1) zS.cells 46 := (Blk.new2 w _ _ zS.cells 46).below hb1
  have hbb := below_past (below_past (below_past hb1))
  clear hb1
  have d0 := B1.cell 0
  have d1 := B1.cell 1
  have d2 := B1.cell 2
  have d3 := B1.cell 3
  have d4 := B1.cell 4
  have d5 := B1.cell 5
  simp only [List.getElem?_toArray, List.getElem?_cons_zero, List.getElem?_cons_succ] at d0 d1 d2 d3 d4 d5
  have c0 := B0.cell (rn * 3)
  have c1 := B0.cell (rn * 3 + 1)
  have c2 := B0.cell (rn * 3 + 2)
  have f0 := B0.free (rn * 3)
  have f1 := B0.free (rn * 3 + 1)
  have f2 := B0.free (rn * 3 + 2)
  rw [cells_is S rn hr, hi] at c0
  rw [cells_val S rn hr] at c1
  rw [cells_vld S rn hr] at c2
  go_wp2_with fail
  go_quiet ((go_at_call 75; exact Calls.quiet_of_same (leader_any _ _ _)))
  go_wp2_with fail
  go_region_held (fun W => W.cell? ⟨w.heap.size + 1, 0, none⟩ = some (.int .i64 1) ∧ W.cell? ⟨w.heap.size + 1, 1, none⟩ = some (.int .i64 (fn : Int)) ∧ W.cell? ⟨w.heap.size + 1, 2, none⟩ = some (.int .i64 h) ∧ W.cell? ⟨w.heap.size + 1, 3, none⟩ = some (.int .i64 (rn : Int)) ∧ W.cell? ⟨w.heap.size + 1, 4, none⟩ = some (.int .i64 v) ∧ W.cell? ⟨w.heap.size + 1, 5, none⟩ = some (.int .i64 x)) (first | exact ⟨d0, d1, d2, d3, d4, d5⟩ | exact ⟨alloc1 (far1 (far1 (far1 d0))), alloc1 (far1 (far1 (far1 d1))), alloc1 (far1 (far1 (far1 d2))), alloc1 (far1 (far1 (far1 d3))), alloc1 (far1 (far1 (far1 d4))), alloc1 (far1 (far1 (far1 d5)))⟩) ((first | (go_at_call 100; refine (propose_new w.heap.size (rn * 3) 1 fn h rn v x _ _ (w1.drewN nq).drew c0 c1 c2 f0 f1 f2).mono ?_; rintro e w' ⟨rfl, rfl⟩)))
  clear c0 c1 c2 f0 f1 f2
  have B0' : Blk (((((w1.drewN nq).drew.setCell ⟨w.heap.size, rn * 3, none⟩ (.bool true)).setCell ⟨w.heap.size, rn * 3 + 1, none⟩ (.int .i64 v)).setCell ⟨w.heap.size, rn * 3 + 2, none⟩ (.int .i64 x)).alloc (.cells #[.int .i64 1, .int .i64 fn, .int .i64 h, .int .i64 rn, .int .i64 v, .int .i64 x] 36)) w.heap.size (S.setC rn v x).cells 46 := by
    rw [← set_call S rn v x hr]; exact ((((B0.drewN nq).drew.setCell _ _).setCell _ _).setCell _ _).alloc _
  have B2' : Blk (((((w1.drewN nq).drew.setCell ⟨w.heap.size, rn * 3, none⟩ (.bool true)).setCell ⟨w.heap.size, rn * 3 + 1, none⟩ (.int .i64 v)).setCell ⟨w.heap.size, rn * 3 + 2, none⟩ (.int .i64 x)).alloc (.cells #[.int .i64 1, .int .i64 fn, .int .i64 h, .int .i64 rn, .int .i64 v, .int .i64 x] 36)) (w.heap.size + 1 + 1) zS.cells 46 := ((((B2.drewN nq).drew.setCell_other _ _ (by simp; omega)).setCell_other _ _ (by simp; omega)).setCell_other _ _ (by simp; omega)).alloc _
  have hb' : Below w.heap.size w (((((w1.drewN nq).drew.setCell ⟨w.heap.size, rn * 3, none⟩ (.bool true)).setCell ⟨w.heap.size, rn * 3 + 1, none⟩ (.int .i64 v)).setCell ⟨w.heap.size, rn * 3 + 2, none⟩ (.int .i64 x)).alloc (.cells #[.int .i64 1, .int .i64 fn, .int .i64 h, .int .i64 rn, .int .i64 v, .int .i64 x] 36)) := ((((below_drew' (below_drewN' hbb nq)).setCell (Nat.le_refl _) _).setCell (Nat.le_refl _) _).setCell (Nat.le_refl _) _).alloc (by simpa using hbb.size) _
  clear B0 B1 B2 d0 d1 d2 d3 d4 d5 hbb
  have hi37 := info37 (S.setC rn v x)
  go_wp2_with (first | (refine wpList_load_blk rfl 46 _ rfl w.heap.size rfl 46 (S.setC rn v x).cells _ B0' Tryz.underlying46 rfl hi37 ?_) | (refine wpList_store_blk rfl 46 _ _ rfl (w.heap.size + 1 + 1) zS.cells (S.setC rn v x).cells 46 rfl rfl B2' (sizes zS (S.setC rn v x)) hi37 (one_cell (S.setC rn v x)) ?_; rintro w2 B3 K2))
  exact bodyPost_ret (v := .agg (S.setC rn v x).cells) (result_sheet rfl _ _ (w.heap.size + 1 + 1) (S.setC rn v x) rfl B3) rfl ⟨rfl, K2.bel _ _ (by omega) hb'⟩

set_option maxRecDepth 100000 in
set_option maxHeartbeats 1000000 in
theorem vhear_call_is (S : Sh) (fn rn : Nat) (h v x : Int) (w : World) (_hf : fn < 4) (hr : rn < 6) (_v0 : 0 ≤ v) (_v1 : v ≤ 9) (hg : goodC 1 fn h rn v x = 0) (hl : (fn : Int) = lead h rn) (hi : S.is rn = true) :
    Calls Tryz.prog 92 #[.agg S.cells, .agg #[.int .i64 1, .int .i64 fn, .int .i64 h, .int .i64 rn, .int .i64 v, .int .i64 x]] w fun e w' => e = .returned (.agg S.cells) ∧ Below w.heap.size w w' := by
  have hz := run_zero
  have hq : ((fn : Int) == lead h rn) = true := by simp [hl]
  have HL : Hid ((fn : Int) = lead h rn) := hl
  clear hl
  go_enter Tryz.func92, Tryz.ntmps92
  go_wp2_with fail
  refine (good_any _ _ _ _ _ _ _).mono ?_
  rintro e w1 ⟨rfl, hb1⟩
  have B0 : Blk w1 w.heap.size S.cells 46 := (((Blk.new w S.cells 46).alloc _).alloc _).below hb1
  have B1 : Blk w1 (w.heap.size + 1) #[.int .i64 1, .int .i64 fn, .int .i64 h, .int .i64 rn, .int .i64 v, .int .i64 x] 36 := ((Blk.new1 w _ #[.int .i64 1, .int .i64 fn, .int .i64 h, .int .i64 rn, .int .i64 v, .int .i64 x] 36).alloc _).below hb1
  have B2 : Blk w1 (w.heap.size + 1 + 1) zS.cells 46 := (Blk.new2 w _ _ zS.cells 46).below hb1
  have hbb := below_past (below_past (below_past hb1))
  clear hb1
  have d0 := B1.cell 0
  have d1 := B1.cell 1
  have d2 := B1.cell 2
  have d3 := B1.cell 3
  have d4 := B1.cell 4
  have d5 := B1.cell 5
  simp only [List.getElem?_toArray, List.getElem?_cons_zero, List.getElem?_cons_succ] at d0 d1 d2 d3 d4 d5
  have c0 := B0.cell (rn * 3)
  rw [cells_is S rn hr, hi] at c0
  go_wp2_with fail
  go_quiet ((go_at_call 75; exact Calls.quiet_of_same (leader_any _ _ _)))
  go_wp2_with fail
  go_region_held (fun W => W.cell? ⟨w.heap.size + 1, 0, none⟩ = some (.int .i64 1) ∧ W.cell? ⟨w.heap.size + 1, 1, none⟩ = some (.int .i64 (fn : Int)) ∧ W.cell? ⟨w.heap.size + 1, 2, none⟩ = some (.int .i64 h) ∧ W.cell? ⟨w.heap.size + 1, 3, none⟩ = some (.int .i64 (rn : Int)) ∧ W.cell? ⟨w.heap.size + 1, 4, none⟩ = some (.int .i64 v) ∧ W.cell? ⟨w.heap.size + 1, 5, none⟩ = some (.int .i64 x)) (first | exact ⟨d0, d1, d2, d3, d4, d5⟩ | exact ⟨alloc1 d0, alloc1 d1, alloc1 d2, alloc1 d3, alloc1 d4, alloc1 d5⟩) ((first | (go_at_call 100; refine (propose_is w.heap.size (rn * 3) 1 fn h rn v x (w1.drewN nq).drew c0).mono ?_; rintro e w' ⟨rfl, rfl⟩)))
  clear c0
  have B0' : Blk ((w1.drewN nq).drew.alloc (.cells #[.int .i64 1, .int .i64 fn, .int .i64 h, .int .i64 rn, .int .i64 v, .int .i64 x] 36)) w.heap.size S.cells 46 := (B0.drewN nq).drew.alloc _
  have B2' : Blk ((w1.drewN nq).drew.alloc (.cells #[.int .i64 1, .int .i64 fn, .int .i64 h, .int .i64 rn, .int .i64 v, .int .i64 x] 36)) (w.heap.size + 1 + 1) zS.cells 46 := (B2.drewN nq).drew.alloc _
  have hb' : Below w.heap.size w ((w1.drewN nq).drew.alloc (.cells #[.int .i64 1, .int .i64 fn, .int .i64 h, .int .i64 rn, .int .i64 v, .int .i64 x] 36)) := (below_drew' (below_drewN' hbb nq)).alloc (by simpa using hbb.size) _
  clear B0 B1 B2 d0 d1 d2 d3 d4 d5 hbb
  have hi37 := info37 S
  go_wp2_with (first | (refine wpList_load_blk rfl 46 _ rfl w.heap.size rfl 46 S.cells _ B0' Tryz.underlying46 rfl hi37 ?_) | (refine wpList_store_blk rfl 46 _ _ rfl (w.heap.size + 1 + 1) zS.cells S.cells 46 rfl rfl B2' (sizes zS S) hi37 (one_cell S) ?_; rintro w2 B3 K2))
  exact bodyPost_ret (v := .agg S.cells) (result_sheet rfl _ _ (w.heap.size + 1 + 1) S rfl B3) rfl ⟨rfl, K2.bel _ _ (by omega) hb'⟩

set_option maxRecDepth 100000 in
set_option maxHeartbeats 1000000 in
theorem vhear_call_no (S : Sh) (fn rn : Nat) (h v x : Int) (w : World) (_hf : fn < 4) (_hr : rn < 6) (_v0 : 0 ≤ v) (_v1 : v ≤ 9) (hg : goodC 1 fn h rn v x = 0) (hl : ¬ (fn : Int) = lead h rn) :
    Calls Tryz.prog 92 #[.agg S.cells, .agg #[.int .i64 1, .int .i64 fn, .int .i64 h, .int .i64 rn, .int .i64 v, .int .i64 x]] w fun e w' => e = .returned (.agg S.cells) ∧ Below w.heap.size w w' := by
  have hz := run_zero
  have hq : ((fn : Int) == lead h rn) = false := by simp [hl]
  clear hl
  go_enter Tryz.func92, Tryz.ntmps92
  go_wp2_with fail
  refine (good_any _ _ _ _ _ _ _).mono ?_
  rintro e w1 ⟨rfl, hb1⟩
  have B0 : Blk w1 w.heap.size S.cells 46 := (((Blk.new w S.cells 46).alloc _).alloc _).below hb1
  have B1 : Blk w1 (w.heap.size + 1) #[.int .i64 1, .int .i64 fn, .int .i64 h, .int .i64 rn, .int .i64 v, .int .i64 x] 36 := ((Blk.new1 w _ #[.int .i64 1, .int .i64 fn, .int .i64 h, .int .i64 rn, .int .i64 v, .int .i64 x] 36).alloc _).below hb1
  have B2 : Blk w1 (w.heap.size + 1 + 1) zS.cells 46 := (Blk.new2 w _ _ zS.cells 46).below hb1
  have hbb := below_past (below_past (below_past hb1))
  clear hb1
  have d0 := B1.cell 0
  have d1 := B1.cell 1
  have d2 := B1.cell 2
  have d3 := B1.cell 3
  have d4 := B1.cell 4
  have d5 := B1.cell 5
  simp only [List.getElem?_toArray, List.getElem?_cons_zero, List.getElem?_cons_succ] at d0 d1 d2 d3 d4 d5
  go_wp2_with fail
  go_quiet ((go_at_call 75; exact Calls.quiet_of_same (leader_any _ _ _)))
  have B0' : Blk (w1.drewN nq) w.heap.size S.cells 46 := B0.drewN nq
  have B2' : Blk (w1.drewN nq) (w.heap.size + 1 + 1) zS.cells 46 := B2.drewN nq
  have hb' : Below w.heap.size w (w1.drewN nq) := below_drewN' hbb nq
  clear B0 B1 B2 d0 d1 d2 d3 d4 d5 hbb
  have hi37 := info37 S
  go_wp2_with (first | (refine wpList_load_blk rfl 46 _ rfl w.heap.size rfl 46 S.cells _ B0' Tryz.underlying46 rfl hi37 ?_) | (refine wpList_store_blk rfl 46 _ _ rfl (w.heap.size + 1 + 1) zS.cells S.cells 46 rfl rfl B2' (sizes zS S) hi37 (one_cell S) ?_; rintro w2 B3 K2))
  exact bodyPost_ret (v := .agg S.cells) (result_sheet rfl _ _ (w.heap.size + 1 + 1) S rfl B3) rfl ⟨rfl, K2.bel _ _ (by omega) hb'⟩

theorem vhear_any (S : Sh) (k f h r v x : Int) (w : World) :
    Calls Tryz.prog 92 #[.agg S.cells, .agg #[.int .i64 k, .int .i64 f, .int .i64 h, .int .i64 r, .int .i64 v, .int .i64 x]] w fun e w' => e = .returned (.agg (hearS S k f h r v x).cells) ∧ Below w.heap.size w w' := by
  by_cases hg : goodC k f h r v x = 0
  · obtain ⟨b1, b2, b3, b4, b5, b6, b7, b8, b9, b10, b11, b12⟩ := goodC_bds hg
    obtain ⟨fn, rfl⟩ := Int.eq_ofNat_of_zero_le b3
    obtain ⟨rn, rfl⟩ := Int.eq_ofNat_of_zero_le b7
    have hf : fn < 4 := by omega
    have hr : rn < 6 := by omega
    unfold hearS
    rw [if_pos hg]
    simp only [Int.toNat_natCast]
    have hk : k = 1 ∨ k = 2 ∨ k = 3 := by omega
    rcases hk with rfl | rfl | rfl
    · rw [if_pos rfl]
      by_cases hl : (fn : Int) = lead h rn
      · cases hi : S.is rn
        · rw [if_pos ⟨hl, rfl⟩]
          exact vhear_call S fn rn h v x w hf hr b9 b10 hg hl hi
        · rw [if_neg (fun hh => Bool.noConfusion hh.2)]
          exact vhear_call_is S fn rn h v x w hf hr b9 b10 hg hl hi
      · rw [if_neg (fun hh => hl hh.1)]
        exact vhear_call_no S fn rn h v x w hf hr b9 b10 hg hl
    · rw [if_neg (by decide), if_pos rfl]
      by_cases h0 : S.wi rn fn = 0
      · rw [if_pos h0]
        exact vhear_wish S fn rn h v x w hf hr b9 b10 hg h0
      · rw [if_neg h0]
        exact vhear_wish_no S fn rn h v x w hf hr b9 b10 hg h0
    · rw [if_neg (by decide), if_neg (by decide)]
      by_cases h0 : S.pr rn fn = 0
      · rw [if_pos h0]
        exact vhear_promise S fn rn h v x w hf hr b9 b10 hg h0
      · rw [if_neg h0]
        exact vhear_promise_no S fn rn h v x w hf hr b9 b10 hg h0
  · have := vhear_bad S k f h r v x w (by rw [bne_iff_ne]; exact hg)
    unfold hearS
    rw [if_neg hg]
    exact this
end Go.Proofs.YtmmgaonlmpajbacGreat
