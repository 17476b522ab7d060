/-
  A sheet is equal to itself.
-/
import Derived.Test.YtcdagfiinneabaaRefHear
import Derived.ChangeKeysEq
namespace Go.Proofs.Ytcdagfiinneabaa
open Go.RowKit

theorem info_of {t : TypeId} {n : Nat} (h : (Try.prog.info? t).map (·.size) = some n) : ∃ i, Try.prog.info? t = some i ∧ i.size = n := by
  cases hq : Try.prog.info? t with
  | none => simp [hq] at h
  | some i => exact ⟨i, rfl, by simpa [hq] using h⟩

theorem eq_votes (d : Nat) (a b c e : Int) (W : World) :
    Sem.run Try.prog (Op.equalIn (d + 2) 36 (.agg #[.int .i64 a, .int .i64 b, .int .i64 c, .int .i64 e]) (.agg #[.int .i64 a, .int .i64 b, .int .i64 c, .int .i64 e])) W = .ok true W := by
  obtain ⟨i, hi, _⟩ := info_of (t := 3) (n := 1) (by kernel_rfl)
  rw [run_equalIn_array W (d + 1) _ _ Try.underlying36 hi]
  simp [Op.eqItems, List.range, List.range.loop, go_sem, Try.underlying3, show Try.prog.cellsOf 3 = 1 by kernel_rfl]

theorem eq_call (d : Nat) (p : Bool) (a b : Int) (W : World) :
    Sem.run Try.prog (Op.equalIn (d + 2) 45 (.agg #[.bool p, .int .i64 a, .int .i64 b]) (.agg #[.bool p, .int .i64 a, .int .i64 b])) W = .ok true W := by
  rw [run_equalIn_struct (P := Try.prog) W (d + 1) 45 _ _ (by kernel_rfl) (by kernel_rfl)]
  simp [Program.fieldsOf, Try.underlying45, Op.eqFields, go_sem, Try.underlying3, Try.underlying4]

theorem eqItems_refl (d : Nat) (e : TypeId) (c : Nat) (xs : Array Value) (W : World) : ∀ (is : List Nat), (∀ i ∈ is, ∃ a, (part e xs (i * c)).run Try.prog W = .ok a W ∧ (Op.equalIn d e a a).run Try.prog W = .ok true W) →
    (Op.eqItems d e c xs xs is).run Try.prog W = .ok true W
  | [], _ => by simp [Op.eqItems]
  | i :: is, h => by
    obtain ⟨a, h1, h2⟩ := h i (List.mem_cons_self ..)
    have h3 := eqItems_refl d e c xs W is (fun j hj => h j (List.mem_cons_of_mem _ hj))
    simp [Op.eqItems, Sem.run_bind, h1, h2, h3]

/-- The cells of the calls; of the wishes or the promises. -/
def callsA (S : Sh) : Array Value := #[.bool (S.is 0), .int .i64 (S.val 0), .int .i64 (S.vld 0), .bool (S.is 1), .int .i64 (S.val 1), .int .i64 (S.vld 1), .bool (S.is 2), .int .i64 (S.val 2), .int .i64 (S.vld 2), .bool (S.is 3), .int .i64 (S.val 3), .int .i64 (S.vld 3), .bool (S.is 4), .int .i64 (S.val 4), .int .i64 (S.vld 4), .bool (S.is 5), .int .i64 (S.val 5), .int .i64 (S.vld 5)]
def rowsA (V : Nat → Nat → Int) : Array Value := #[.int .i64 (V 0 0), .int .i64 (V 0 1), .int .i64 (V 0 2), .int .i64 (V 0 3), .int .i64 (V 1 0), .int .i64 (V 1 1), .int .i64 (V 1 2), .int .i64 (V 1 3), .int .i64 (V 2 0), .int .i64 (V 2 1), .int .i64 (V 2 2), .int .i64 (V 2 3), .int .i64 (V 3 0), .int .i64 (V 3 1), .int .i64 (V 3 2), .int .i64 (V 3 3), .int .i64 (V 4 0), .int .i64 (V 4 1), .int .i64 (V 4 2), .int .i64 (V 4 3), .int .i64 (V 5 0), .int .i64 (V 5 1), .int .i64 (V 5 2), .int .i64 (V 5 3)]

theorem part_calls (S : Sh) (W : World) : (part 46 S.cells 0).run Try.prog W = .ok (.agg (callsA S)) W := by show _ = _; kernel_rfl
theorem part_wi (S : Sh) (W : World) : (part 47 S.cells 18).run Try.prog W = .ok (.agg (rowsA S.wi)) W := by show _ = _; kernel_rfl
theorem part_pr (S : Sh) (W : World) : (part 47 S.cells 42).run Try.prog W = .ok (.agg (rowsA S.pr)) W := by show _ = _; kernel_rfl

theorem eq_calls (d : Nat) (S : Sh) (W : World) : Sem.run Try.prog (Op.equalIn (d + 3) 46 (.agg (callsA S)) (.agg (callsA S))) W = .ok true W := by
  obtain ⟨i, hi, _⟩ := info_of (t := 45) (n := 3) (by kernel_rfl)
  rw [run_equalIn_array W (d + 2) _ _ Try.underlying46 hi, show Try.prog.cellsOf 45 = 3 by kernel_rfl]
  refine eqItems_refl _ _ _ _ _ _ ?_
  intro j hj
  have hj' : j = 0 ∨ j = 1 ∨ j = 2 ∨ j = 3 ∨ j = 4 ∨ j = 5 := by simp at hj; omega
  rcases hj' with rfl | rfl | rfl | rfl | rfl | rfl
  · exact ⟨.agg #[.bool (S.is 0), .int .i64 (S.val 0), .int .i64 (S.vld 0)], (by show _ = _; kernel_rfl), eq_call d _ _ _ W⟩
  · exact ⟨.agg #[.bool (S.is 1), .int .i64 (S.val 1), .int .i64 (S.vld 1)], (by show _ = _; kernel_rfl), eq_call d _ _ _ W⟩
  · exact ⟨.agg #[.bool (S.is 2), .int .i64 (S.val 2), .int .i64 (S.vld 2)], (by show _ = _; kernel_rfl), eq_call d _ _ _ W⟩
  · exact ⟨.agg #[.bool (S.is 3), .int .i64 (S.val 3), .int .i64 (S.vld 3)], (by show _ = _; kernel_rfl), eq_call d _ _ _ W⟩
  · exact ⟨.agg #[.bool (S.is 4), .int .i64 (S.val 4), .int .i64 (S.vld 4)], (by show _ = _; kernel_rfl), eq_call d _ _ _ W⟩
  · exact ⟨.agg #[.bool (S.is 5), .int .i64 (S.val 5), .int .i64 (S.vld 5)], (by show _ = _; kernel_rfl), eq_call d _ _ _ W⟩

theorem eq_rows (d : Nat) (V : Nat → Nat → Int) (W : World) : Sem.run Try.prog (Op.equalIn (d + 3) 47 (.agg (rowsA V)) (.agg (rowsA V))) W = .ok true W := by
  obtain ⟨i, hi, _⟩ := info_of (t := 36) (n := 4) (by kernel_rfl)
  rw [run_equalIn_array W (d + 2) _ _ Try.underlying47 hi, show Try.prog.cellsOf 36 = 4 by kernel_rfl]
  refine eqItems_refl _ _ _ _ _ _ ?_
  intro j hj
  have hj' : j = 0 ∨ j = 1 ∨ j = 2 ∨ j = 3 ∨ j = 4 ∨ j = 5 := by simp at hj; omega
  rcases hj' with rfl | rfl | rfl | rfl | rfl | rfl
  · exact ⟨.agg #[.int .i64 (V 0 0), .int .i64 (V 0 1), .int .i64 (V 0 2), .int .i64 (V 0 3)], (by show _ = _; kernel_rfl), eq_votes d _ _ _ _ W⟩
  · exact ⟨.agg #[.int .i64 (V 1 0), .int .i64 (V 1 1), .int .i64 (V 1 2), .int .i64 (V 1 3)], (by show _ = _; kernel_rfl), eq_votes d _ _ _ _ W⟩
  · exact ⟨.agg #[.int .i64 (V 2 0), .int .i64 (V 2 1), .int .i64 (V 2 2), .int .i64 (V 2 3)], (by show _ = _; kernel_rfl), eq_votes d _ _ _ _ W⟩
  · exact ⟨.agg #[.int .i64 (V 3 0), .int .i64 (V 3 1), .int .i64 (V 3 2), .int .i64 (V 3 3)], (by show _ = _; kernel_rfl), eq_votes d _ _ _ _ W⟩
  · exact ⟨.agg #[.int .i64 (V 4 0), .int .i64 (V 4 1), .int .i64 (V 4 2), .int .i64 (V 4 3)], (by show _ = _; kernel_rfl), eq_votes d _ _ _ _ W⟩
  · exact ⟨.agg #[.int .i64 (V 5 0), .int .i64 (V 5 1), .int .i64 (V 5 2), .int .i64 (V 5 3)], (by show _ = _; kernel_rfl), eq_votes d _ _ _ _ W⟩

/-- Sheets that are alike are equal. -/
theorem eq_sheet (S : Sh) (W : World) : Sem.run Try.prog (Op.equalIn 10000 49 (.agg S.cells) (.agg S.cells)) W = .ok true W := by
  have h1 := eq_calls 9996 S W
  have h2 := eq_rows 9996 S.wi W
  have h3 := eq_rows 9996 S.pr W
  rw [run_equalIn_struct (P := Try.prog) W 9999 49 _ _ (by kernel_rfl) (by kernel_rfl)]
  simp [Program.fieldsOf, Try.underlying49, Op.eqFields, Sem.run_bind, part_calls, part_wi, part_pr, h1, h2, h3]
end Go.Proofs.Ytcdagfiinneabaa
