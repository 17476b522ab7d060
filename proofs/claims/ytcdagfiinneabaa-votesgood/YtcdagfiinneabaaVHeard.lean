/-
  What package votes answers: Heard.
-/
import Derived.Test.YtcdagfiinneabaaRefHeard
import Derived.Deep.QuietTactic
import Derived.BigQuiet
namespace Go.Proofs.Ytcdagfiinneabaa
open Go.RowKit

set_option maxHeartbeats 400000 in
theorem hsaid_any (x : Int) (w : World) : Calls Try.prog 44 #[.int .i64 x] w fun e w' => e = .returned (.bool (decide (0 < x))) ∧ w' = w := by
  go_enter Try.func44, Try.ntmps44
  go_wp2
  go_ret
  exact ⟨rfl, rfl⟩

set_option maxHeartbeats 1000000 in
theorem heard_in (S : Sh) (r : Nat) (hr : r < 6) (w : World) :
    Calls Try.prog 31 #[.agg S.cells, .int .i64 (r : Int)] w fun e w' => e = .returned (.int .i64 (heardTo S r 4)) ∧ Below w.heap.size w w' := by
  have hw : win (r : Int) 0 5 = true := by simp [win]; omega
  go_enter Try.func31, Try.ntmps31
  go_wp2_with (first | (go_at_call 48; refine (bround_any _ _).mono ?_; rintro e w' ⟨rfl, rfl⟩))
  go_quiet (fail)
  go_wp2
  go_loop [7, 18] (fun n i => ∃ k : Nat, k ≤ 4 ∧ i = .int .i64 (k : Int) ∧ n = .int .i64 (heardTo S r k)) (fun _ i => 4 - (intOf i).toNat)
  case atStart => exact ⟨0, by omega, rfl, rfl⟩
  case round =>
    obtain ⟨k, hk, rfl, rfl⟩ := hrel
    have hd := heardTo_le S r k
    by_cases hlt : k < 4
    · have c0 := cells_wi S r k hr hlt
      have d0 := cells_pr S r k hr hlt
      have HS : Hid (heardTo S r (k + 1) = heardTo S r k + cnt S r k) := rfl
      by_cases h1 : 0 < S.wi r k
      · have h1' : decide (0 < S.wi r k) = true := by simp [h1]
        go_wp2_with (first | (go_at_call 44; refine (hsaid_any _ _).mono ?_; rintro e w' ⟨rfl, rfl⟩; rw [h1']))
        go_round
        case rel => exact ⟨k + 1, by omega, by go_num, by rw [HS.out]; simp only [cnt]; rw [if_pos (by omega)]⟩
        case measure => simp [intOf]; omega
      · have h1' : decide (0 < S.wi r k) = false := by simp [h1]
        by_cases h2 : 0 < S.pr r k
        · have h2' : decide (0 < S.pr r k) = true := by simp [h2]
          go_wp2_with (first | (go_at_call 44; refine (hsaid_any _ _).mono ?_; rintro e w' ⟨rfl, rfl⟩; first | rw [h1'] | rw [h2']))
          go_round
          case rel => exact ⟨k + 1, by omega, by go_num, by rw [HS.out]; simp only [cnt]; rw [if_pos (by omega)]⟩
          case measure => simp [intOf]; omega
        · have h2' : decide (0 < S.pr r k) = false := by simp [h2]
          go_wp2_with (first | (go_at_call 44; refine (hsaid_any _ _).mono ?_; rintro e w' ⟨rfl, rfl⟩; first | rw [h1'] | rw [h2']))
          go_round
          case rel => exact ⟨k + 1, by omega, by go_num, by rw [HS.out]; simp only [cnt]; rw [if_neg (by omega)]; go_num⟩
          case measure => simp [intOf]; omega
    · go_wp2
      go_ret
      have hgr : Below w.heap.size w (w.alloc (.cells S.cells 49)) := by go_grown
      exact ⟨ret_int (by rw [show k = 4 by omega]), ⟨hgr.os, hgr.tape, hgr.output, hgr.size, hgr.block⟩⟩

set_option maxHeartbeats 1000000 in
theorem heard_out (S : Sh) (r : Int) (hr : ¬ (0 ≤ r ∧ r ≤ 5)) (w : World) :
    Calls Try.prog 31 #[.agg S.cells, .int .i64 r] w fun e w' => e = .returned (.int .i64 0) ∧ Below w.heap.size w w' := by
  have hw : win r 0 5 = false := by simp only [win, hr, decide_false]
  clear hr
  go_enter Try.func31, Try.ntmps31
  go_wp2_with (first | (go_at_call 48; refine (bround_any _ _).mono ?_; rintro e w' ⟨rfl, rfl⟩))
  go_ret
  exact ⟨rfl, by go_grown⟩

theorem heard_any (S : Sh) (r : Int) (w : World) :
    Calls Try.prog 31 #[.agg S.cells, .int .i64 r] w fun e w' => e = .returned (.int .i64 (heardN S r)) ∧ Below w.heap.size w w' := by
  by_cases hr : 0 ≤ r ∧ r ≤ 5
  · obtain ⟨n, rfl⟩ := Int.eq_ofNat_of_zero_le hr.1
    have := heard_in S n (by omega) w
    simpa [heardN, hr] using this
  · have := heard_out S r hr w
    simpa [heardN, hr] using this
end Go.Proofs.Ytcdagfiinneabaa
