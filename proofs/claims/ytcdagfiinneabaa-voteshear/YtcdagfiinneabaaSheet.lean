/-
  A sheet as plain numbers, and its 66 cells.
-/
import Derived.Test.YtcdagfiinneabaaLead
import Derived.Deep.MidRow
namespace Go.Proofs.Ytcdagfiinneabaa
open Go.RowKit

/-- What a sheet holds: calls, wishes and promises, by round and node. -/
structure Sh where
  is : Nat → Bool
  val : Nat → Int
  vld : Nat → Int
  wi : Nat → Nat → Int
  pr : Nat → Nat → Int

/-- The cell at place j. -/
def cellAt (S : Sh) (j : Nat) : Value :=
  if j < 18 then (if j % 3 = 0 then .bool (S.is (j / 3)) else if j % 3 = 1 then .int .i64 (S.val (j / 3)) else .int .i64 (S.vld (j / 3)))
  else if j < 42 then .int .i64 (S.wi ((j - 18) / 4) ((j - 18) % 4)) else .int .i64 (S.pr ((j - 42) / 4) ((j - 42) % 4))

def Sh.cells (S : Sh) : Array Value := ((List.range 66).map (cellAt S)).toArray

theorem cells_size (S : Sh) : S.cells.size = 66 := by simp [Sh.cells]
theorem cells_at (S : Sh) (j : Nat) (hj : j < 66) : S.cells[j]? = some (cellAt S j) := by simp [Sh.cells, hj]

theorem cellAt_is (S : Sh) (r : Nat) (h : r < 6) : cellAt S (r * 3) = .bool (S.is r) := by
  unfold cellAt; rw [if_pos (by omega), if_pos (by omega), show r * 3 / 3 = r by omega]
theorem cellAt_val (S : Sh) (r : Nat) (h : r < 6) : cellAt S (r * 3 + 1) = .int .i64 (S.val r) := by
  unfold cellAt; rw [if_pos (by omega), if_neg (by omega), if_pos (by omega), show (r * 3 + 1) / 3 = r by omega]
theorem cellAt_vld (S : Sh) (r : Nat) (h : r < 6) : cellAt S (r * 3 + 2) = .int .i64 (S.vld r) := by
  unfold cellAt; rw [if_pos (by omega), if_neg (by omega), if_neg (by omega), show (r * 3 + 2) / 3 = r by omega]
theorem cellAt_wi (S : Sh) (r i : Nat) (h : r < 6) (hi : i < 4) : cellAt S (18 + r * 4 + i) = .int .i64 (S.wi r i) := by
  unfold cellAt; rw [if_neg (by omega), if_pos (by omega), show (18 + r * 4 + i - 18) / 4 = r by omega, show (18 + r * 4 + i - 18) % 4 = i by omega]
theorem cellAt_pr (S : Sh) (r i : Nat) (h : r < 6) (hi : i < 4) : cellAt S (42 + r * 4 + i) = .int .i64 (S.pr r i) := by
  unfold cellAt; rw [if_neg (by omega), if_neg (by omega), show (42 + r * 4 + i - 42) / 4 = r by omega, show (42 + r * 4 + i - 42) % 4 = i by omega]

/-- The block b holds the sheet S. -/
def SheetAt (W : World) (b : Nat) (S : Sh) : Prop := W.heap[b]? = some (.cells S.cells 49)

theorem SheetAt.cell {W : World} {b : Nat} {S : Sh} (h : SheetAt W b S) (j : Nat) (hj : j < 66) : W.cell? ⟨b, j, none⟩ = some (cellAt S j) := by
  rw [cell_of_row W b j S.cells 49 (0, 0) h, cells_at S j hj]
theorem SheetAt.wi {W : World} {b : Nat} {S : Sh} (h : SheetAt W b S) (r i : Nat) (hr : r < 6) (hi : i < 4) : W.cell? ⟨b, 18 + r * 4 + i, none⟩ = some (.int .i64 (S.wi r i)) := by
  rw [h.cell _ (by omega), cellAt_wi S r i hr hi]
theorem SheetAt.pr {W : World} {b : Nat} {S : Sh} (h : SheetAt W b S) (r i : Nat) (hr : r < 6) (hi : i < 4) : W.cell? ⟨b, 42 + r * 4 + i, none⟩ = some (.int .i64 (S.pr r i)) := by
  rw [h.cell _ (by omega), cellAt_pr S r i hr hi]
theorem sheet_new (w : World) (S : Sh) : SheetAt (w.alloc (.cells S.cells 49)) w.heap.size S := heap_alloc_new w _
theorem sheet_below {W W' : World} {b : Nat} {S : Sh} (h : SheetAt W b S) (hb : Below W.heap.size W W') : SheetAt W' b S := by
  have hlt : b < W.heap.size := by
    by_cases hlt : b < W.heap.size
    · exact hlt
    · unfold SheetAt at h; rw [Array.getElem?_eq_none (by omega)] at h; cases h
  unfold SheetAt; rw [hb.block b hlt]; exact h

theorem cells_wi (S : Sh) (r i : Nat) (hr : r < 6) (hi : i < 4) : S.cells[18 + r * 4 + i]? = some (.int .i64 (S.wi r i)) := by
  rw [cells_at S _ (by omega), cellAt_wi S r i hr hi]
theorem cells_pr (S : Sh) (r i : Nat) (hr : r < 6) (hi : i < 4) : S.cells[42 + r * 4 + i]? = some (.int .i64 (S.pr r i)) := by
  rw [cells_at S _ (by omega), cellAt_pr S r i hr hi]
theorem cells_is (S : Sh) (r : Nat) (hr : r < 6) : S.cells[r * 3]? = some (.bool (S.is r)) := by
  rw [cells_at S _ (by omega), cellAt_is S r hr]
theorem cells_val (S : Sh) (r : Nat) (hr : r < 6) : S.cells[r * 3 + 1]? = some (.int .i64 (S.val r)) := by
  rw [cells_at S _ (by omega), cellAt_val S r hr]
theorem cells_vld (S : Sh) (r : Nat) (hr : r < 6) : S.cells[r * 3 + 2]? = some (.int .i64 (S.vld r)) := by
  rw [cells_at S _ (by omega), cellAt_vld S r hr]
end Go.Proofs.Ytcdagfiinneabaa
