/-
  What the document's own answer says of words: within, WordError, LeaderOf.
-/
import Derived.Test.YtcdagfiinneabaaLead
namespace Go.Proofs.Ytcdagfiinneabaa
open Go.RowKit

set_option maxHeartbeats 400000 in
theorem rwithin_any (n a b : Int) (w : World) :
    Calls Try.prog 41 #[.int .i64 n, .int .i64 a, .int .i64 b] w fun e w' => e = .returned (.bool (win n a b)) ∧ w' = w := by
  by_cases h1 : a ≤ n
  · go_enter Try.func41, Try.ntmps41
    go_wp2
    go_ret
    refine ⟨?_, rfl⟩
    simp [win, h1]
  · go_enter Try.func41, Try.ntmps41
    go_wp2
    go_ret
    refine ⟨?_, rfl⟩
    simp [win]; omega

set_option maxHeartbeats 2000000 in
theorem wordError_any (k f h r v x : Int) (w : World) :
    Calls Try.prog 16 #[.agg #[.int .i64 k, .int .i64 f, .int .i64 h, .int .i64 r, .int .i64 v, .int .i64 x]] w fun e w' => e = .returned (.int .i64 (goodC k f h r v x)) ∧ Below w.heap.size w w' := by
  by_cases hr5 : r ≤ 5
  all_goals go_enter Try.func16, Try.ntmps16
  all_goals go_wp2
  all_goals (go_ret; refine ⟨ret_int ?_, by go_grown⟩)
  all_goals (simp_all [goodC, inb, win] <;> omega)

theorem tmod4 (n : Int) : n.tmod 4 = if 0 ≤ n then n % 4 else -((-n) % 4) := by
  by_cases h : 0 ≤ n
  · rw [if_pos h]; exact Int.tmod_eq_emod_of_nonneg h
  · rw [if_neg h]
    have h1 := Int.neg_tmod (-n) 4
    rw [Int.neg_neg] at h1
    rw [h1, Int.tmod_eq_emod_of_nonneg (by omega)]

theorem low_eq (n : Int) : (wrap64 (n.tmod 4 + 4)).tmod 4 = n % 4 := by
  have hb : -3 ≤ n.tmod 4 ∧ n.tmod 4 ≤ 3 := by rw [tmod4]; split <;> omega
  rw [IntWalk.wrap64_in _ (by omega), tmod4, if_pos (by omega), tmod4]
  split <;> omega

set_option maxHeartbeats 400000 in
theorem low_any (n : Int) (w : World) :
    Calls Try.prog 42 #[.int .i64 n] w fun e w' => e = .returned (.int .i64 (n % 4)) ∧ w' = w := by
  go_enter Try.func42, Try.ntmps42
  go_wp2
  go_ret
  exact ⟨ret_int (low_eq n), rfl⟩

set_option maxHeartbeats 400000 in
theorem leaderOf_any (h r : Int) (w : World) :
    Calls Try.prog 18 #[.int .i64 h, .int .i64 r] w fun e w' => e = .returned (.int .i64 (lead h r)) ∧ w' = w := by
  go_enter Try.func18, Try.ntmps18
  go_wp2_with (first | (go_at_call 42; refine (low_any _ _).mono ?_; rintro e w' ⟨rfl, rfl⟩))
  go_ret
  exact ⟨ret_int (by unfold lead; omega), rfl⟩
end Go.Proofs.Ytcdagfiinneabaa
