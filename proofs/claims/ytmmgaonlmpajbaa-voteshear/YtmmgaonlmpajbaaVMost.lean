/-
  What package votes answers: Most.
-/
import Derived.Test.YtmmgaonlmpajbaaBase
namespace Go.Proofs.Ytmmgaonlmpajbaa
open Go.RowKit

set_option maxHeartbeats 1000000 in
theorem most_any (V : Nat → Int) (hV : VBd V) (w : World) :
    Calls Try.prog 25 #[.agg (vcells V)] w fun e w' => e = .returned (.tuple #[.int .i64 (mostV V).1, .bool (mostV V).2]) ∧ Below w.heap.size w w' := by
  have hR : ∀ W' : World, Below (w.alloc (.cells (vcells V) 36)).heap.size (w.alloc (.cells (vcells V) 36)) W' → W'.heap[w.heap.size]? = some (.cells (vcells V) 36) := fun W' hb => by
    rw [hb.block _ (by simp)]; exact heap_alloc_new w _
  go_enter Try.func25, Try.ntmps25
  go_wp2
  go_loopw [5] (fun i W => ∃ k : Nat, k ≤ 10 ∧ i = .int .i64 (k : Int) ∧ (∀ j : Nat, j < k → cntV V j < 3) ∧ Below (w.alloc (.cells (vcells V) 36)).heap.size (w.alloc (.cells (vcells V) 36)) W) (fun i _ => 10 - (intOf i).toNat)
  case atStart => exact ⟨0, by omega, rfl, fun j hj => by omega, Below.refl _ _⟩
  case round =>
    obtain ⟨k, hk, rfl, HN0, hB⟩ := hrel
    have HN : Hid (∀ j : Nat, j < k → cntV V j < 3) := HN0
    clear HN0
    by_cases hlt : k < 10
    · by_cases h3 : 3 ≤ cntV V k
      · go_wp2_with (first | (refine wpList_load_row rfl 36 _ rfl w.heap.size rfl 36 (vcells V) (0, 0) _ (hR _ hB) Try.underlying36 rfl (by kernel_rfl) ?_) | (go_at_call 27; refine (count_any V hV _ _).mono ?_; rintro e w1 ⟨rfl, hb⟩))
        go_ret2
        rw [most_found (by omega) (by omega) h3]
        exact ⟨rfl, below_past (bel_trans hB hb)⟩
      · go_wp2_with (first | (refine wpList_load_row rfl 36 _ rfl w.heap.size rfl 36 (vcells V) (0, 0) _ (hR _ hB) Try.underlying36 rfl (by kernel_rfl) ?_) | (go_at_call 27; refine (count_any V hV _ _).mono ?_; rintro e w1 ⟨rfl, hb⟩))
        go_roundw
        case rel => exact ⟨k + 1, by omega, by go_num, fun j hj => by
          by_cases hjk : j < k
          · exact HN.out j hjk
          · rw [show j = k by omega]; omega, bel_trans hB hb⟩
        case measure => simp [intOf]; omega
    · go_wp2
      go_ret2
      rw [most_none (fun j hj => HN.out j (by omega))]
      exact ⟨rfl, below_past hB⟩
end Go.Proofs.Ytmmgaonlmpajbaa
