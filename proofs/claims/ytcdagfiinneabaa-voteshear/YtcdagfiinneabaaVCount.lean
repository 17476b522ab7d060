/-
  What package votes answers: said, Count, All, Most.
-/
import Derived.Test.YtcdagfiinneabaaRefCount
namespace Go.Proofs.Ytcdagfiinneabaa
open Go.RowKit

theorem vindex (V : Nat → Int) (k : Nat) (h : k < 4) (W : World) : Sem.run Try.prog (Instr.index 36 (.agg (vcells V)) (.int .i64 (k : Int))) W = .ok (.int .i64 (V k)) W := by
  have hk : k = 0 ∨ k = 1 ∨ k = 2 ∨ k = 3 := by omega
  rcases hk with rfl | rfl | rfl | rfl
  · show _ = _; kernel_rfl
  · show _ = _; kernel_rfl
  · show _ = _; kernel_rfl
  · show _ = _; kernel_rfl

set_option maxHeartbeats 400000 in
theorem vsaid_any (x : Int) (w : World) : Calls Try.prog 44 #[.int .i64 x] w fun e w' => e = .returned (.bool (decide (0 < x))) ∧ w' = w := by
  go_enter Try.func44, Try.ntmps44
  go_wp2
  go_ret
  exact ⟨rfl, rfl⟩

set_option maxHeartbeats 1000000 in
theorem count_any (V : Nat → Int) (hV : VBd V) (value : Int) (w : World) :
    Calls Try.prog 23 #[.agg (vcells V), .int .i64 value] w fun e w' => e = .returned (.int .i64 (cntV V value)) ∧ Below w.heap.size w w' := by
  go_enter Try.func23, Try.ntmps23
  go_wp2_with (first | (refine wpList_load_row rfl 36 _ rfl w.heap.size rfl 36 (vcells V) (0, 0) _ (heap_alloc_new w _) Try.underlying36 rfl (by kernel_rfl) ?_))
  go_loop [5, 9] (fun n i => ∃ k : Nat, k ≤ 4 ∧ i = .int .i64 (k : Int) ∧ n = .int .i64 (cntTo V (fun x => x == value) k)) (fun _ i => 4 - (intOf i).toNat)
  case atStart => exact ⟨0, by omega, rfl, rfl⟩
  case round =>
    obtain ⟨k, hk, rfl, rfl⟩ := hrel
    have hd := cntTo_le V (fun x => x == value) k
    by_cases hlt : k < 4
    · have c0 := vindex V k hlt
      obtain ⟨hlo, hhi⟩ := hV k hlt
      have HS : Hid (cntTo V (fun x => x == value) (k + 1) = cntTo V (fun x => x == value) k + if 1 ≤ V k ∧ (fun x : Int => x == value) (V k - 1) = true then 1 else 0) := rfl
      clear hV
      by_cases h1 : 0 < V k
      · have h1' : decide (0 < V k) = true := by simp [h1]
        by_cases h2 : V k - 1 = value
        · have h2' : (V k - 1 == value) = true := by simp [h2]
          have HV : Hid (V k - 1 = value) := h2
          clear h2
          go_wp2_with (first | (go_at_call 44; refine (vsaid_any _ _).mono ?_; rintro e w' ⟨rfl, rfl⟩; rw [h1']))
          go_round
          case rel => exact ⟨k + 1, by omega, by go_num, by rw [HS.out, if_pos ⟨h1, h2'⟩]⟩
          case measure => simp [intOf]; omega
        · have h2' : (V k - 1 == value) = false := by simp [h2]
          clear h2
          go_wp2_with (first | (go_at_call 44; refine (vsaid_any _ _).mono ?_; rintro e w' ⟨rfl, rfl⟩; rw [h1']))
          go_round
          case rel => exact ⟨k + 1, by omega, by go_num, by rw [HS.out, if_neg (fun hh => by rw [h2'] at hh; exact Bool.false_ne_true hh.2)]; go_num⟩
          case measure => simp [intOf]; omega
      · have h1' : decide (0 < V k) = false := by simp [h1]
        go_wp2_with (first | (go_at_call 44; refine (vsaid_any _ _).mono ?_; rintro e w' ⟨rfl, rfl⟩; rw [h1']))
        go_round
        case rel => exact ⟨k + 1, by omega, by go_num, by rw [HS.out, if_neg (fun hh => by have := hh.1; omega)]; go_num⟩
        case measure => simp [intOf]; omega
    · go_wp2
      go_ret
      exact ⟨ret_int (by rw [show k = 4 by omega]; rfl), by go_grown⟩

set_option maxHeartbeats 1000000 in
theorem all_any (V : Nat → Int) (w : World) :
    Calls Try.prog 26 #[.agg (vcells V)] w fun e w' => e = .returned (.int .i64 (allV V)) ∧ Below w.heap.size w w' := by
  go_enter Try.func26, Try.ntmps26
  go_wp2_with (first | (refine wpList_load_row rfl 36 _ rfl w.heap.size rfl 36 (vcells V) (0, 0) _ (heap_alloc_new w _) Try.underlying36 rfl (by kernel_rfl) ?_))
  go_loop [3, 7] (fun n i => ∃ k : Nat, k ≤ 4 ∧ i = .int .i64 (k : Int) ∧ n = .int .i64 (cntTo V (fun _ => true) k)) (fun _ i => 4 - (intOf i).toNat)
  case atStart => exact ⟨0, by omega, rfl, rfl⟩
  case round =>
    obtain ⟨k, hk, rfl, rfl⟩ := hrel
    have hd := cntTo_le V (fun _ => true) k
    by_cases hlt : k < 4
    · have c0 := vindex V k hlt
      have HS : Hid (cntTo V (fun _ => true) (k + 1) = cntTo V (fun _ => true) k + if 1 ≤ V k ∧ (fun _ : Int => true) (V k - 1) = true then 1 else 0) := rfl
      by_cases h1 : 0 < V k
      · have h1' : decide (0 < V k) = true := by simp [h1]
        go_wp2_with (first | (go_at_call 44; refine (vsaid_any _ _).mono ?_; rintro e w' ⟨rfl, rfl⟩; rw [h1']))
        go_round
        case rel => exact ⟨k + 1, by omega, by go_num, by rw [HS.out, if_pos (by simp; omega)]⟩
        case measure => simp [intOf]; omega
      · have h1' : decide (0 < V k) = false := by simp [h1]
        go_wp2_with (first | (go_at_call 44; refine (vsaid_any _ _).mono ?_; rintro e w' ⟨rfl, rfl⟩; rw [h1']))
        go_round
        case rel => exact ⟨k + 1, by omega, by go_num, by rw [HS.out, if_neg (fun hh => by have := hh.1; omega)]; go_num⟩
        case measure => simp [intOf]; omega
    · go_wp2
      go_ret
      exact ⟨ret_int (by rw [show k = 4 by omega]; rfl), by go_grown⟩
end Go.Proofs.Ytcdagfiinneabaa
