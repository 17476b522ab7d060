/-
  What the document's own answer says: HeardIn.
-/
import Derived.Test.YtcdagfiinneabaaSheet
namespace Go.Proofs.Ytcdagfiinneabaa
open Go.RowKit

/-- Has the node i a wish or a promise in round r? -/
def cnt (S : Sh) (r i : Nat) : Int := if 0 < S.wi r i ∨ 0 < S.pr r i then 1 else 0
def heardTo (S : Sh) (r : Nat) : Nat → Int
  | 0 => 0
  | n + 1 => heardTo S r n + cnt S r n
/-- How many have a wish or a promise in a round. -/
def heardN (S : Sh) (r : Int) : Int := if 0 ≤ r ∧ r ≤ 5 then heardTo S r.toNat 4 else 0

theorem heardTo_le (S : Sh) (r n : Nat) : 0 ≤ heardTo S r n ∧ heardTo S r n ≤ n := by
  induction n with
  | zero => simp [heardTo]
  | succ n ih => simp only [heardTo, cnt]; split <;> omega

set_option maxHeartbeats 1000000 in
theorem heardIn_in (S : Sh) (r : Nat) (hr : r < 6) (w : World) :
    Calls Try.prog 32 #[.agg S.cells, .int .i64 (r : Int)] w fun e w' => e = .returned (.int .i64 (heardTo S r 4)) ∧ Below w.heap.size w w' := by
  go_enter Try.func32, Try.ntmps32
  go_wp2
  go_loop [5, 6] (fun n i => ∃ k : Nat, k ≤ 4 ∧ i = .int .i64 (k : Int) ∧ n = .int .i64 (heardTo S r k)) (fun _ i => 4 - (intOf i).toNat)
  case atStart => exact ⟨0, by omega, rfl, rfl⟩
  case round =>
    obtain ⟨k, hk, rfl, rfl⟩ := hrel
    have hd := heardTo_le S r k
    by_cases hlt : k < 4
    · have c0 := cells_wi S r k hr hlt
      have d0 := cells_pr S r k hr hlt
      have HS : Hid (heardTo S r (k + 1) = heardTo S r k + cnt S r k) := rfl
      go_wp2
      all_goals
        go_round
        case rel => exact ⟨k + 1, by omega, by go_num, by rw [HS.out]; simp only [cnt]; first | rw [if_pos (by omega)] | (rw [if_neg (by omega)]; go_num)⟩
        case measure => simp [intOf]; omega
    · go_wp2
      go_ret
      exact ⟨ret_int (by rw [show k = 4 by omega]), by go_grown⟩

set_option maxHeartbeats 1000000 in
theorem heardIn_out (S : Sh) (r : Int) (hr : r < 0 ∨ 5 < r) (w : World) :
    Calls Try.prog 32 #[.agg S.cells, .int .i64 r] w fun e w' => e = .returned (.int .i64 0) ∧ Below w.heap.size w w' := by
  rcases hr with hr | hr
  all_goals
    go_enter Try.func32, Try.ntmps32
    go_wp2
    refine wp_loop_rounds 1 ?_
    rw [rounds_succ]
    go_wp2
    go_ret
    exact ⟨rfl, by go_grown⟩

theorem heardIn_any (S : Sh) (r : Int) (w : World) :
    Calls Try.prog 32 #[.agg S.cells, .int .i64 r] w fun e w' => e = .returned (.int .i64 (heardN S r)) ∧ Below w.heap.size w w' := by
  by_cases hr : 0 ≤ r ∧ r ≤ 5
  · obtain ⟨n, rfl⟩ := Int.eq_ofNat_of_zero_le hr.1
    have := heardIn_in S n (by omega) w
    simpa [heardN, hr] using this
  · have := heardIn_out S r (by omega) w
    simpa [heardN, hr] using this
end Go.Proofs.Ytcdagfiinneabaa
