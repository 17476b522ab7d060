/-
  What the document's own answer says of words: within, WordError, sign, EncodeWord, DecodeWord, LeaderOf.
-/
import Derived.Test.YtmmgaonlmpajbaaBack
import Derived.Deep.RegionHeld
import Derived.Deep.QuietTactic
import Derived.BigQuiet
namespace Go.Proofs.Ytmmgaonlmpajbaa
open Go.RowKit

set_option maxHeartbeats 400000 in
theorem rwithin_any (n a b : Int) (w : World) :
    Calls Try.prog 60 #[.int .i64 n, .int .i64 a, .int .i64 b] w fun e w' => e = .returned (.bool (win n a b)) ∧ w' = w := by
  by_cases h1 : a ≤ n
  · go_enter Try.func60, Try.ntmps60
    go_wp2
    go_ret
    refine ⟨?_, rfl⟩
    simp [win, h1]
  · go_enter Try.func60, Try.ntmps60
    go_wp2
    go_ret
    refine ⟨?_, rfl⟩
    simp [win]; omega

set_option maxHeartbeats 2000000 in
theorem wordError_any (k f h r v x : Int) (w : World) :
    Calls Try.prog 20 #[.agg #[.int .i64 k, .int .i64 f, .int .i64 h, .int .i64 r, .int .i64 v, .int .i64 x]] w fun e w' => e = .returned (.int .i64 (goodC k f h r v x)) ∧ Below w.heap.size w w' := by
  by_cases hr5 : r ≤ 5
  all_goals go_enter Try.func20, Try.ntmps20
  all_goals go_wp2
  all_goals (go_ret; refine ⟨ret_int ?_, by go_grown⟩)
  all_goals (simp_all [goodC, inb, win] <;> omega)

theorem tmod4 (n : Int) : n.tmod 4 = if 0 ≤ n then n % 4 else -((-n) % 4) := by
  by_cases h : 0 ≤ n
  · rw [if_pos h]; exact Int.tmod_eq_emod_of_nonneg h
  · rw [if_neg h]
    have h1 := Int.neg_tmod (-n) 4
    rw [Int.neg_neg] at h1
    rw [h1, Int.tmod_eq_emod_of_nonneg (by omega)]

theorem low_eq (n : Int) : (wrap64 (n.tmod 4 + 4)).tmod 4 = n % 4 := by
  have hb : -3 ≤ n.tmod 4 ∧ n.tmod 4 ≤ 3 := by rw [tmod4]; split <;> omega
  rw [IntWalk.wrap64_in _ (by omega), tmod4, if_pos (by omega), tmod4]
  split <;> omega

set_option maxHeartbeats 400000 in
theorem low_any (n : Int) (w : World) :
    Calls Try.prog 61 #[.int .i64 n] w fun e w' => e = .returned (.int .i64 (n % 4)) ∧ w' = w := by
  go_enter Try.func61, Try.ntmps61
  go_wp2
  go_ret
  exact ⟨ret_int (low_eq n), rfl⟩

set_option maxHeartbeats 400000 in
theorem leaderOf_any (h r : Int) (w : World) :
    Calls Try.prog 22 #[.int .i64 h, .int .i64 r] w fun e w' => e = .returned (.int .i64 (lead h r)) ∧ w' = w := by
  go_enter Try.func22, Try.ntmps22
  go_wp2_with (first | (go_at_call 61; refine (low_any _ _).mono ?_; rintro e w' ⟨rfl, rfl⟩))
  go_ret
  exact ⟨ret_int (by unfold lead; omega), rfl⟩

set_option maxHeartbeats 400000 in
theorem num_any (c : UInt8) (w : World) :
    Calls Try.prog 57 #[.int .u8 (c.toNat : Int)] w fun e w' => e = .returned (.int .i64 (if c.toNat = 45 then -1 else (c.toNat : Int) - 48)) ∧ w' = w := by
  have hc : c.toNat < 256 := c.toNat_lt
  by_cases h : c.toNat = 45
  · go_enter Try.func57, Try.ntmps57
    go_wp2
    go_ret
    exact ⟨ret_int rfl, rfl⟩
  · go_enter Try.func57, Try.ntmps57
    go_wp2
    go_ret
    exact ⟨ret_int rfl, rfl⟩

theorem sgn_num (n : Int) (h0 : 0 ≤ n) (h1 : n ≤ 9) : (48 + n : Int) = ((sgn n).toNat : Int) := by
  have hc : n = 0 ∨ n = 1 ∨ n = 2 ∨ n = 3 ∨ n = 4 ∨ n = 5 ∨ n = 6 ∨ n = 7 ∨ n = 8 ∨ n = 9 := by omega
  rcases hc with rfl | rfl | rfl | rfl | rfl | rfl | rfl | rfl | rfl | rfl <;> decide

theorem conv1 (a : UInt8) (B : Nat) (W : World) (h0 : W.cell? ⟨B, 0, none⟩ = some (.int .u8 a.toNat)) :
    (convert 75 9 (.slice (some ⟨B, 0, none⟩) 1 1)).run Try.prog W = .ok (.string ⟨#[a]⟩) W := by
  refine run_convert_bytes_back W 75 9 5 ⟨B, 0, none⟩ 1 [a] Try.underlying75 Try.underlying5 Try.underlying9 ?_
  intro j hj
  have hj' : j = 0 := by simp at hj; omega
  subst hj'
  exact h0

set_option maxHeartbeats 400000 in
theorem sign_any (n : Int) (w : World) (h0 : -1 ≤ n) (h1 : n ≤ 9) :
    Calls Try.prog 55 #[.int .i64 n] w fun e w' => e = .returned (.string ⟨#[sgn n]⟩) ∧ Below w.heap.size w w' := by
  by_cases h : n < 0
  · go_enter Try.func55, Try.ntmps55
    go_wp2
    go_ret
    refine ⟨?_, by go_grown⟩
    simp [sgn, h]
  · have e1 : (48 + n : Int) = ((sgn n).toNat : Int) := sgn_num n (by omega) h1
    have cv := conv1 (sgn n) w.heap.size (w.alloc (.cells #[.int .u8 (48 + n)] 5)) (by rw [e1]; simp [go_sem])
    clear e1
    go_enter Try.func55, Try.ntmps55
    go_wp2
    go_ret
    exact ⟨rfl, by go_grown⟩
end Go.Proofs.Ytmmgaonlmpajbaa
