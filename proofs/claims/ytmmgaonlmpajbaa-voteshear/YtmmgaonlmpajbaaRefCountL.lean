/-
  What the document's own answer says of votes: CountOf, with the statement VotesCount's own test.
-/
import Derived.Test.YtmmgaonlmpajbaaBase
namespace Go.Proofs.Ytmmgaonlmpajbaa
open Go.RowKit

set_option maxHeartbeats 400000 in
theorem is_any12 (x value : Int) (b : Nat) (w : World) (hp : w.cell? ⟨b, 0, none⟩ = some (.int .i64 value)) : Calls Try.prog 29 #[.int .i64 x, .pointer (some ⟨b, 0, none⟩)] w fun e w' => e = .returned (.bool (x == value)) ∧ w' = w := by
  go_enter Try.func29, Try.ntmps29
  go_wp2
  go_ret
  exact ⟨rfl, rfl⟩

set_option maxHeartbeats 1000000 in
theorem countOf_is12 (V : Nat → Int) (hV : VBd V) (value : Int) (b : Nat) (w : World) (hp : w.cell? ⟨b, 0, none⟩ = some (.int .i64 value)) :
    Calls Try.prog 28 #[.agg (vcells V), .func (.func 29) #[] #[.pointer (some ⟨b, 0, none⟩)]] w fun e w' => e = .returned (.int .i64 (cntTo V (fun x => x == value) 4)) ∧ Below w.heap.size w w' := by
  have hb : b < w.heap.size := World.block_lt_of_cell? w _ hp
  have hp1 : (w.alloc (.cells (vcells V) 36)).cell? ⟨b, 0, none⟩ = some (.int .i64 value) := by rw [World.cell?_alloc_lt _ _ _ hb]; exact hp
  clear hp
  go_enter Try.func28, Try.ntmps28
  go_wp2
  go_loop [5, 7] (fun n i => ∃ k : Nat, k ≤ 4 ∧ i = .int .i64 (k : Int) ∧ n = .int .i64 (cntTo V (fun x => x == value) k)) (fun _ i => 4 - (intOf i).toNat)
  case atStart => exact ⟨0, by omega, rfl, rfl⟩
  case round =>
    obtain ⟨k, hk, rfl, rfl⟩ := hrel
    have hd := cntTo_le V (fun x => x == value) k
    by_cases hlt : k < 4
    · have c0 := vcells_at V k hlt
      obtain ⟨hlo, hhi⟩ := hV k hlt
      have HS : Hid (cntTo V (fun x => x == value) (k + 1) = cntTo V (fun x => x == value) k + if 1 ≤ V k ∧ (fun x : Int => x == value) (V k - 1) = true then 1 else 0) := rfl
      clear hV
      by_cases h1 : 1 ≤ V k
      · by_cases h2 : V k - 1 = value
        · have h2' : (V k - 1 == value) = true := by simp [h2]
          have HV : Hid (V k - 1 = value) := h2
          clear h2
          go_wp2_with (first | (go_at_call 29; refine (is_any12 _ _ _ _ hp1).mono ?_; rintro e w' ⟨rfl, rfl⟩))
          go_round
          case rel => exact ⟨k + 1, by omega, by go_num, by rw [HS.out, if_pos ⟨h1, h2'⟩]⟩
          case measure => simp [intOf]; omega
        · have h2' : (V k - 1 == value) = false := by simp [h2]
          clear h2
          go_wp2_with (first | (go_at_call 29; refine (is_any12 _ _ _ _ hp1).mono ?_; rintro e w' ⟨rfl, rfl⟩))
          go_round
          case rel => exact ⟨k + 1, by omega, by go_num, by rw [HS.out, if_neg (fun hh => by rw [h2'] at hh; exact Bool.false_ne_true hh.2)]; go_num⟩
          case measure => simp [intOf]; omega
      · go_wp2
        go_round
        case rel => exact ⟨k + 1, by omega, by go_num, by rw [HS.out, if_neg (fun hh => h1 hh.1)]; go_num⟩
        case measure => simp [intOf]; omega
    · go_wp2
      go_ret
      exact ⟨ret_int (by rw [show k = 4 by omega]), by go_grown⟩
end Go.Proofs.Ytmmgaonlmpajbaa
