/-
  For every height and round the statement WireLeads' function returns true.
-/
import Derived.Test.YtmmgaonlmpajbaaEnc
import Derived.ProofKit
import Derived.OpenShut
import Derived.ShutString
namespace Go.Proofs.Ytmmgaonlmpajbaa
open Go.RowKit

set_option maxHeartbeats 1000000 in
theorem wires_any (w : World) :
    Calls Try.prog 24 #[] w fun e w' => e = .returned (.bool true) ∧ Below w.heap.size w w' := by
  have hg : goodC 1 1 1 0 7 (-1) = 0 := by decide
  have he : encB 1 1 1 0 7 (-1) = ⟨#[49, 49, 49, 48, 55, 45]⟩ := by decide
  have hl : lead 1 2 = 3 := by decide
  go_enter Try.func24, Try.ntmps24
  go_wp2_with (first | (go_at_call 15; refine (encode_good _ _ _ _ _ _ _ hg).mono ?_; rintro e w1 ⟨rfl, hb⟩) | (go_at_call 21; refine (leader_any _ _ _).mono ?_; rintro e w' ⟨rfl, rfl⟩))
  go_ret
  exact ⟨rfl, hb⟩

theorem leads4 (h r : Int) (c : Int) (hc : (h + r) % 4 = c) : lead h r = c ∧ lead h (r + 1) = (c + 1) % 4 ∧ lead h (r + 2) = (c + 2) % 4 ∧ lead h (r + 3) = (c + 3) % 4 := by
  unfold lead; omega

set_option maxHeartbeats 1000000 in
theorem leads_big (h r : Int) (w : World) (hr : 4611686018427387904 < r) :
    Calls Try.prog 5 #[.int .i64 h, .int .i64 r] w fun e w' => e = .returned (.bool true) ∧ Below w.heap.size w w' := by
  go_enter Try.func5, Try.ntmps5
  go_wp2_with (first | (go_at_call 24; refine (wires_any _).mono ?_; rintro e w1 ⟨rfl, hb⟩))
  go_ret
  exact ⟨rfl, hb⟩

set_option maxHeartbeats 4000000 in
theorem leads_small (h r : Int) (w : World) (hr : r ≤ 4611686018427387904) (hlo : -9223372036854775808 ≤ r) :
    Calls Try.prog 5 #[.int .i64 h, .int .i64 r] w fun e w' => e = .returned (.bool true) ∧ Below w.heap.size w w' := by
  have hcs : (h + r) % 4 = 0 ∨ (h + r) % 4 = 1 ∨ (h + r) % 4 = 2 ∨ (h + r) % 4 = 3 := by omega
  have heq : ∀ W : World, Sem.run Try.prog (Op.equalIn 10000 34 (.agg #[.int .i64 1, .int .i64 1, .int .i64 1, .int .i64 1]) (.agg #[.int .i64 1, .int .i64 1, .int .i64 1, .int .i64 1])) W = .ok true W := fun _ => by kernel_rfl
  rcases hcs with hc | hc | hc | hc
  all_goals
    obtain ⟨h0, h1, h2, h3⟩ := leads4 h r _ hc
    clear hc
    simp only [Int.reduceAdd, Int.reduceMod] at h1 h2 h3
    go_enter Try.func5, Try.ntmps5
    go_wp2
    refine wp_loop_rounds 5 ?_
    rw [rounds_succ]
    go_wp2_with (first | (go_at_call 21; refine (leader_any _ _ _).mono ?_; rintro e w' ⟨rfl, rfl⟩))
    rw [rounds_succ]
    go_wp2_with (first | (go_at_call 21; refine (leader_any _ _ _).mono ?_; rintro e w' ⟨rfl, rfl⟩))
    rw [rounds_succ]
    go_wp2_with (first | (go_at_call 21; refine (leader_any _ _ _).mono ?_; rintro e w' ⟨rfl, rfl⟩))
    rw [rounds_succ]
    go_wp2_with (first | (go_at_call 21; refine (leader_any _ _ _).mono ?_; rintro e w' ⟨rfl, rfl⟩))
    rw [rounds_succ]
    go_wp2_with (first | (go_at_call 24; refine (wires_any _).mono ?_; rintro e w1 ⟨rfl, hb⟩))
    go_ret
    exact ⟨rfl, below_past hb⟩
end Go.Proofs.Ytmmgaonlmpajbaa
