/-
  What the document's own answer says: HearSheet.
-/
import Derived.Test.YtcdagfiinneabaaRefSheet
import Derived.Test.YtcdagfiinneabaaBlk
import Derived.Deep.RegionHeld
import Derived.Deep.QuietTactic
import Derived.BigQuiet
import Derived.Deep.DeepMust
namespace Go.Proofs.Ytcdagfiinneabaa
open Go.RowKit

/-- The sheet of which nothing has been heard. -/
def zS : Sh := ⟨fun _ => false, fun _ => 0, fun _ => 0, fun _ _ => 0, fun _ _ => 0⟩
theorem run_zero (W : World) : Sem.run Try.prog (zeroValue 49) W = .ok (.agg zS.cells) W := by
  show _ = _; kernel_rfl
theorem one_cell (S : Sh) : S.cells.all (·.oneCell') = true := by
  rw [Array.all_eq_true]
  intro j hj
  have hj' : j < 66 := by simpa [cells_size] using hj
  have := cells_at S j hj'
  rw [Array.getElem?_eq_getElem hj] at this
  rw [Option.some.inj this]
  unfold cellAt
  split
  · split
    · rfl
    · split <;> rfl
  · split <;> rfl

theorem info37 (S : Sh) : (Try.prog.info? 49).map (·.size) = some S.cells.size := by rw [cells_size]; kernel_rfl
theorem sizes (S T : Sh) : S.cells.size = T.cells.size := by rw [cells_size, cells_size]

theorem result_sheet {fn : Func} {p : Tmp} (h : fn.results = #[.cell p 49]) (tmps : Array Value) (W : World) (g : Nat) (S : Sh) (hp : tmps.getD p undef = .pointer (some ⟨g, 0, none⟩)) (hg : Blk W g S.cells 49) :
    (results fn tmps).run Try.prog W = .ok (.agg S.cells) W :=
  results_cell_row h tmps W g 49 S.cells (0, 0) _ hp hg Try.underlying49 rfl (by rw [cells_size]; kernel_rfl)

set_option maxRecDepth 100000 in
set_option maxHeartbeats 1000000 in
theorem hearSheet_bad (S : Sh) (k f h r v x : Int) (w : World) (hg : (goodC k f h r v x != 0) = true) :
    Calls Try.prog 30 #[.agg S.cells, .agg #[.int .i64 k, .int .i64 f, .int .i64 h, .int .i64 r, .int .i64 v, .int .i64 x]] w fun e w' => e = .returned (.agg S.cells) ∧ Below w.heap.size w w' := by
  have hz := run_zero
  go_enter Try.func30, Try.ntmps30
  go_wp2_with fail
  refine (wordError_any _ _ _ _ _ _ _).mono ?_
  rintro e w1 ⟨rfl, hb1⟩
  have B0 : Blk w1 w.heap.size S.cells 49 := (((Blk.new w S.cells 49).alloc _).alloc _).below hb1
  have B2 : Blk w1 (w.heap.size + 1 + 1) zS.cells 49 := (show Blk _ _ _ _ from by have := Blk.new ((w.alloc (.cells S.cells 49)).alloc (.cells #[.int .i64 k, .int .i64 f, .int .i64 h, .int .i64 r, .int .i64 v, .int .i64 x] 23)) zS.cells 49; simpa using this).below hb1
  have hbb := below_past (below_past (below_past hb1))
  clear hb1
  have hi37 : (Try.prog.info? 49).map (·.size) = some S.cells.size := info37 S
  go_wp2_with (first | (refine wpList_load_blk rfl 49 _ rfl w.heap.size rfl 49 S.cells _ B0 Try.underlying49 rfl hi37 ?_) | (refine wpList_store_blk rfl 49 _ _ rfl (w.heap.size + 1 + 1) zS.cells S.cells 49 rfl rfl B2 (sizes zS S) hi37 (one_cell S) ?_; rintro w2 B3 K2))
  exact bodyPost_ret (v := .agg S.cells) (result_sheet rfl _ _ (w.heap.size + 1 + 1) S rfl B3) rfl ⟨rfl, K2.bel _ _ (by omega) hbb⟩
end Go.Proofs.Ytcdagfiinneabaa
