/-
  The statement VotesMeet.
-/
import Derived.Test.YtmmgaonlmpajbaaVLaw
import Derived.Test.YtmmgaonlmpajbaaBase
namespace Go.Proofs.Ytmmgaonlmpajbaa
open Go.RowKit

set_option maxHeartbeats 1000000 in
theorem kcounts_any (w : World) :
    Calls Try.prog 39 #[] w fun e w' => e = .returned (.bool true) ∧ Below w.heap.size w w' := by
  go_enter Try.func39, Try.ntmps39
  go_wp2_with (first | (go_at_call 25; refine (most_v3 _).mono ?_; rintro e w1 ⟨rfl, hb1⟩) | (go_at_call 30; refine (all_v3 _).mono ?_; rintro e w2 ⟨rfl, hb2⟩))
  go_ret
  exact ⟨rfl, bel_trans hb1 hb2⟩

theorem gtr_t {x : Int} (h : 0 < x) : decide (0 < x) = true := by simp [h]
theorem gtr_f {x : Int} (h : ¬ 0 < x) : decide (0 < x) = false := by simp only [h, decide_false]
theorem neq_t {x y : Int} (h : ¬ x = y) : (x != y) = true := by rw [bne_iff_ne]; exact h
theorem neq_f {x y : Int} (h : x = y) : (x != y) = false := by rw [h]; simp

theorem meet_end (a b : Nat → Int) (liar : Int) (h : ∀ i : Nat, i < 4 → (i : Int) ≠ liar → 0 < a i → 0 < b i → a i = b i) :
    (mostV a).2 = false ∨ ((mostV a).2 = true ∧ (mostV b).2 = false) ∨ ((mostV a).2 = true ∧ (mostV b).2 = true ∧ ((mostV a).1 == (mostV b).1) = true) := by
  cases ha : (mostV a).2
  · exact Or.inl rfl
  · cases hb : (mostV b).2
    · exact Or.inr (Or.inl ⟨rfl, rfl⟩)
    · exact Or.inr (Or.inr ⟨rfl, rfl, by rw [meet ha hb h]; simp⟩)

set_option maxHeartbeats 2000000 in
theorem votesMeet_any (a b : Nat → Int) (ha : VBd a) (hb : VBd b) (liar : Int) (w : World) :
    Calls Try.prog 8 #[.agg (vcells a), .agg (vcells b), .int .i64 liar] w fun e w' => e = .returned (.bool true) ∧ Below w.heap.size w w' := by
  have HA : Hid (VBd a) := ha
  have HB : Hid (VBd b) := hb
  clear ha hb
  go_enter Try.func8, Try.ntmps8
  go_wp2
  go_loopw [12] (fun i W => ∃ k : Nat, k ≤ 4 ∧ i = .int .i64 (k : Int) ∧ Hid (∀ j : Nat, j < k → (j : Int) ≠ liar → 0 < a j → 0 < b j → a j = b j) ∧ Blk W w.heap.size (vcells a) 36 ∧ Blk W (w.heap.size + 1) (vcells b) 36 ∧ Below w.heap.size w W) (fun i _ => 4 - (intOf i).toNat)
  case atStart => exact ⟨0, by omega, rfl, fun j hj => by omega, (Blk.new w _ _).alloc _, Blk.new1 w _ _ _, by go_grown⟩
  case round =>
    rename_i W
    obtain ⟨k, hk, rfl, HN, BA, BB, hB⟩ := hrel
    by_cases hlt : k < 4
    · have c0 := BA.cell k
      have d0 := BB.cell k
      rw [vcells_at a k hlt] at c0
      rw [vcells_at b k hlt] at d0
      have more : ¬ ((k : Int) ≠ liar ∧ 0 < a k ∧ 0 < b k ∧ a k ≠ b k) → Hid (∀ j : Nat, j < k + 1 → (j : Int) ≠ liar → 0 < a j → 0 < b j → a j = b j) := fun hn j hj h1 h2 h3 => by
        by_cases hjk : j < k
        · exact HN.out j hjk h1 h2 h3
        · obtain rfl : j = k := by omega
          by_cases he : a j = b j
          · exact he
          · exact absurd ⟨h1, h2, h3, he⟩ hn
      have more : Hid (¬ ((k : Int) ≠ liar ∧ 0 < a k ∧ 0 < b k ∧ a k ≠ b k) → Hid (∀ j : Nat, j < k + 1 → (j : Int) ≠ liar → 0 < a j → 0 < b j → a j = b j)) := more
      by_cases h1 : (k : Int) = liar
      · have e1 := neq_f h1
        have H1 : Hid ((k : Int) = liar) := h1
        clear h1
        go_wp2
        go_quiet (fail)
        go_wp2
        go_roundw
        case rel => exact ⟨k + 1, by omega, by go_num, more.out (fun hh => hh.1 H1.out), BA.drewN _, BB.drewN _, below_drewN' hB _⟩
        case measure => simp [intOf]; omega
      · have e1 := neq_t h1
        clear h1
        by_cases h2 : 0 < a k
        · have e2 := gtr_t h2
          by_cases h3 : 0 < b k
          · have e3 := gtr_t h3
            by_cases h4 : a k = b k
            · have e4 := neq_f h4
              have H4 : Hid (a k = b k) := h4
              clear h4
              go_wp2
              go_quiet (fail)
              go_wp2
              go_roundw
              case rel => exact ⟨k + 1, by omega, by go_num, more.out (fun hh => hh.2.2.2 H4.out), BA.drewN _, BB.drewN _, below_drewN' hB _⟩
              case measure => simp [intOf]; omega
            · have e4 := neq_t h4
              clear h4
              go_wp2
              go_quiet (fail)
              go_wp2_with (first | (go_at_call 39; refine (kcounts_any _).mono ?_; rintro e w5 ⟨rfl, hb5⟩))
              go_ret
              exact ⟨rfl, bel_trans (below_drewN' hB _) hb5⟩
          · have e3 := gtr_f h3
            go_wp2
            go_quiet (fail)
            go_wp2
            go_roundw
            case rel => exact ⟨k + 1, by omega, by go_num, more.out (fun hh => by have := hh.2.2.1; omega), BA.drewN _, BB.drewN _, below_drewN' hB _⟩
            case measure => simp [intOf]; omega
        · have e2 := gtr_f h2
          go_wp2
          go_quiet (fail)
          go_wp2
          go_roundw
          case rel => exact ⟨k + 1, by omega, by go_num, more.out (fun hh => by have := hh.2.1; omega), BA.drewN _, BB.drewN _, below_drewN' hB _⟩
          case measure => simp [intOf]; omega
    · obtain rfl : k = 4 := by omega
      have hE := meet_end a b liar HN.out
      have a0 := BA.cell 0
      have a1 := BA.cell 1
      have a2 := BA.cell 2
      have a3 := BA.cell 3
      have b0 := BB.cell 0
      have b1 := BB.cell 1
      have b2 := BB.cell 2
      have b3 := BB.cell 3
      rw [vcells_at a _ (by omega)] at a0 a1 a2 a3
      rw [vcells_at b _ (by omega)] at b0 b1 b2 b3
      rcases hE with h1 | ⟨h1, h2⟩ | ⟨h1, h2, h3⟩
      all_goals
        go_wp2_with fail
        refine (most_lit a HA.out _).mono ?_
        rintro e w1 ⟨rfl, hb1⟩
        have B0 := cell_keep b0 hb1
        have B1 := cell_keep b1 hb1
        have B2 := cell_keep b2 hb1
        have B3 := cell_keep b3 hb1
        go_wp2_with fail
        refine (most_lit b HB.out _).mono ?_
        rintro e w2 ⟨rfl, hb2⟩
        go_wp2_with (first | (go_at_call 39; refine (kcounts_any _).mono ?_; rintro e w5 ⟨rfl, hb5⟩))
        go_ret
        exact ⟨rfl, bel_trans (bel_trans (bel_trans hB hb1) hb2) hb5⟩
end Go.Proofs.Ytmmgaonlmpajbaa
