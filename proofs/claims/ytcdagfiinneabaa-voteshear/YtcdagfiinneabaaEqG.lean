/-
  What == says of two sheets, of two calls.
-/
import Derived.Test.YtcdagfiinneabaaEq
namespace Go.Proofs.Ytcdagfiinneabaa
open Go.RowKit

theorem eq_votes_gen (d : Nat) (a b c e a' b' c' e' : Int) (W : World) :
    Sem.run Try.prog (Op.equalIn (d + 2) 36 (.agg #[.int .i64 a, .int .i64 b, .int .i64 c, .int .i64 e]) (.agg #[.int .i64 a', .int .i64 b', .int .i64 c', .int .i64 e'])) W = .ok (a == a' && (b == b' && (c == c' && e == e'))) W := by
  obtain ⟨i, hi, _⟩ := info_of (t := 3) (n := 1) (by kernel_rfl)
  rw [run_equalIn_array W (d + 1) _ _ Try.underlying36 hi]
  have h3 : Try.prog.cellsOf 3 = 1 := by kernel_rfl
  by_cases h0 : a = a'
  · by_cases h1 : b = b'
    · by_cases h2 : c = c'
      · by_cases h4 : e = e'
        · simp [Op.eqItems, List.range, List.range.loop, go_sem, Try.underlying3, h3, h0, h1, h2, h4]
        · simp [Op.eqItems, List.range, List.range.loop, go_sem, Try.underlying3, h3, h0, h1, h2, h4]
      · simp [Op.eqItems, List.range, List.range.loop, go_sem, Try.underlying3, h3, h0, h1, h2]
    · simp [Op.eqItems, List.range, List.range.loop, go_sem, Try.underlying3, h3, h0, h1]
  · simp [Op.eqItems, List.range, List.range.loop, go_sem, Try.underlying3, h3, h0]

theorem eq_call_gen (d : Nat) (p p' : Bool) (a b a' b' : Int) (W : World) :
    Sem.run Try.prog (Op.equalIn (d + 2) 45 (.agg #[.bool p, .int .i64 a, .int .i64 b]) (.agg #[.bool p', .int .i64 a', .int .i64 b'])) W = .ok (p == p' && (a == a' && b == b')) W := by
  rw [run_equalIn_struct (P := Try.prog) W (d + 1) 45 _ _ (by kernel_rfl) (by kernel_rfl)]
  by_cases h0 : p = p'
  · by_cases h1 : a = a'
    · by_cases h2 : b = b'
      · simp [Program.fieldsOf, Try.underlying45, Op.eqFields, go_sem, Try.underlying3, Try.underlying4, h0, h1, h2]
      · simp [Program.fieldsOf, Try.underlying45, Op.eqFields, go_sem, Try.underlying3, Try.underlying4, h0, h1, h2]
    · simp [Program.fieldsOf, Try.underlying45, Op.eqFields, go_sem, Try.underlying3, Try.underlying4, h0, h1]
  · simp [Program.fieldsOf, Try.underlying45, Op.eqFields, go_sem, Try.underlying3, Try.underlying4, h0]

theorem eqItems_gen (d : Nat) (e : TypeId) (c : Nat) (xs ys : Array Value) (f : Nat → Bool) (W : World) : ∀ (is : List Nat), (∀ i ∈ is, ∃ a b, (part e xs (i * c)).run Try.prog W = .ok a W ∧ (part e ys (i * c)).run Try.prog W = .ok b W ∧ (Op.equalIn d e a b).run Try.prog W = .ok (f i) W) →
    (Op.eqItems d e c xs ys is).run Try.prog W = .ok (is.all f) W
  | [], _ => by simp [Op.eqItems]
  | i :: is, h => by
    obtain ⟨a, b, h1, h1', h2⟩ := h i (List.mem_cons_self ..)
    have h3 := eqItems_gen d e c xs ys f W is (fun j hj => h j (List.mem_cons_of_mem _ hj))
    cases hf : f i
    · simp [Op.eqItems, Sem.run_bind, h1, h1', h2, hf]
    · simp [Op.eqItems, Sem.run_bind, h1, h1', h2, h3, hf]

def eqC (S T : Sh) : Bool := (List.range 6).all fun r => S.is r == T.is r && (S.val r == T.val r && S.vld r == T.vld r)
def eqR (V U : Nat → Nat → Int) : Bool := (List.range 6).all fun r => V r 0 == U r 0 && (V r 1 == U r 1 && (V r 2 == U r 2 && V r 3 == U r 3))
/-- Are two sheets alike? -/
def eqS (S T : Sh) : Bool := eqC S T && (eqR S.wi T.wi && eqR S.pr T.pr)

theorem eq_calls_gen (d : Nat) (S T : Sh) (W : World) : Sem.run Try.prog (Op.equalIn (d + 3) 46 (.agg (callsA S)) (.agg (callsA T))) W = .ok (eqC S T) W := by
  obtain ⟨i, hi, _⟩ := info_of (t := 45) (n := 3) (by kernel_rfl)
  rw [run_equalIn_array W (d + 2) _ _ Try.underlying46 hi, show Try.prog.cellsOf 45 = 3 by kernel_rfl]
  refine eqItems_gen _ _ _ _ _ _ _ _ ?_
  intro j hj
  have hj' : j = 0 ∨ j = 1 ∨ j = 2 ∨ j = 3 ∨ j = 4 ∨ j = 5 := by simp at hj; omega
  rcases hj' with rfl | rfl | rfl | rfl | rfl | rfl
  · exact ⟨.agg #[.bool (S.is 0), .int .i64 (S.val 0), .int .i64 (S.vld 0)], .agg #[.bool (T.is 0), .int .i64 (T.val 0), .int .i64 (T.vld 0)], (by show _ = _; kernel_rfl), (by show _ = _; kernel_rfl), eq_call_gen d _ _ _ _ _ _ W⟩
  · exact ⟨.agg #[.bool (S.is 1), .int .i64 (S.val 1), .int .i64 (S.vld 1)], .agg #[.bool (T.is 1), .int .i64 (T.val 1), .int .i64 (T.vld 1)], (by show _ = _; kernel_rfl), (by show _ = _; kernel_rfl), eq_call_gen d _ _ _ _ _ _ W⟩
  · exact ⟨.agg #[.bool (S.is 2), .int .i64 (S.val 2), .int .i64 (S.vld 2)], .agg #[.bool (T.is 2), .int .i64 (T.val 2), .int .i64 (T.vld 2)], (by show _ = _; kernel_rfl), (by show _ = _; kernel_rfl), eq_call_gen d _ _ _ _ _ _ W⟩
  · exact ⟨.agg #[.bool (S.is 3), .int .i64 (S.val 3), .int .i64 (S.vld 3)], .agg #[.bool (T.is 3), .int .i64 (T.val 3), .int .i64 (T.vld 3)], (by show _ = _; kernel_rfl), (by show _ = _; kernel_rfl), eq_call_gen d _ _ _ _ _ _ W⟩
  · exact ⟨.agg #[.bool (S.is 4), .int .i64 (S.val 4), .int .i64 (S.vld 4)], .agg #[.bool (T.is 4), .int .i64 (T.val 4), .int .i64 (T.vld 4)], (by show _ = _; kernel_rfl), (by show _ = _; kernel_rfl), eq_call_gen d _ _ _ _ _ _ W⟩
  · exact ⟨.agg #[.bool (S.is 5), .int .i64 (S.val 5), .int .i64 (S.vld 5)], .agg #[.bool (T.is 5), .int .i64 (T.val 5), .int .i64 (T.vld 5)], (by show _ = _; kernel_rfl), (by show _ = _; kernel_rfl), eq_call_gen d _ _ _ _ _ _ W⟩

theorem part_row (V : Nat → Nat → Int) (j : Nat) (hj : j < 6) (W : World) : (part 36 (rowsA V) (j * 4)).run Try.prog W = .ok (.agg #[.int .i64 (V j 0), .int .i64 (V j 1), .int .i64 (V j 2), .int .i64 (V j 3)]) W := by
  have hj' : j = 0 ∨ j = 1 ∨ j = 2 ∨ j = 3 ∨ j = 4 ∨ j = 5 := by omega
  rcases hj' with rfl | rfl | rfl | rfl | rfl | rfl
  · show _ = _; kernel_rfl
  · show _ = _; kernel_rfl
  · show _ = _; kernel_rfl
  · show _ = _; kernel_rfl
  · show _ = _; kernel_rfl
  · show _ = _; kernel_rfl

theorem eq_rows_gen (d : Nat) (V U : Nat → Nat → Int) (W : World) : Sem.run Try.prog (Op.equalIn (d + 3) 47 (.agg (rowsA V)) (.agg (rowsA U))) W = .ok (eqR V U) W := by
  obtain ⟨i, hi, _⟩ := info_of (t := 36) (n := 4) (by kernel_rfl)
  rw [run_equalIn_array W (d + 2) _ _ Try.underlying47 hi, show Try.prog.cellsOf 36 = 4 by kernel_rfl]
  refine eqItems_gen _ _ _ _ _ _ _ _ ?_
  intro j hj
  have hj' : j < 6 := by simpa using hj
  exact ⟨_, _, part_row V j hj' W, part_row U j hj' W, eq_votes_gen d _ _ _ _ _ _ _ _ W⟩

theorem eq_sheet_gen (S T : Sh) (W : World) : Sem.run Try.prog (Op.equalIn 10000 49 (.agg S.cells) (.agg T.cells)) W = .ok (eqS S T) W := by
  have h1 := eq_calls_gen 9996 S T W
  have h2 := eq_rows_gen 9996 S.wi T.wi W
  have h3 := eq_rows_gen 9996 S.pr T.pr W
  rw [run_equalIn_struct (P := Try.prog) W 9999 49 _ _ (by kernel_rfl) (by kernel_rfl)]
  unfold eqS
  cases e1 : eqC S T
  · simp [Program.fieldsOf, Try.underlying49, Op.eqFields, Sem.run_bind, part_calls, h1, e1]
  · cases e2 : eqR S.wi T.wi
    · simp [Program.fieldsOf, Try.underlying49, Op.eqFields, Sem.run_bind, part_calls, part_wi, h1, h2, e1, e2]
    · cases e3 : eqR S.pr T.pr
      · simp [Program.fieldsOf, Try.underlying49, Op.eqFields, Sem.run_bind, part_calls, part_wi, part_pr, h1, h2, h3, e1, e2, e3]
      · simp [Program.fieldsOf, Try.underlying49, Op.eqFields, Sem.run_bind, part_calls, part_wi, part_pr, h1, h2, h3, e1, e2, e3]

theorem eqS_zero (S : Sh) (h : eqS S zS = true) : ∀ r, r < 6 → S.is r = false ∧ S.val r = 0 ∧ S.vld r = 0 ∧ ∀ i, i < 4 → S.wi r i = 0 ∧ S.pr r i = 0 := by
  intro r hr
  unfold eqS eqC eqR at h
  simp only [Bool.and_eq_true, List.all_eq_true, List.mem_range, beq_iff_eq] at h
  obtain ⟨h1, h2, h3⟩ := h
  obtain ⟨a, b, c⟩ := h1 r hr
  obtain ⟨w0, w1, w2, w3⟩ := h2 r hr
  obtain ⟨p0, p1, p2, p3⟩ := h3 r hr
  refine ⟨a, b, c, fun i hi => ?_⟩
  have hi' : i = 0 ∨ i = 1 ∨ i = 2 ∨ i = 3 := by omega
  rcases hi' with rfl | rfl | rfl | rfl
  · exact ⟨w0, p0⟩
  · exact ⟨w1, p1⟩
  · exact ⟨w2, p2⟩
  · exact ⟨w3, p3⟩
end Go.Proofs.Ytcdagfiinneabaa
