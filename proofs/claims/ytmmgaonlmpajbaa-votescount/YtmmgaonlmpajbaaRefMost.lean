/-
  What the document's own answer says of votes: MostOf.
-/
import Derived.Test.YtmmgaonlmpajbaaBase
namespace Go.Proofs.Ytmmgaonlmpajbaa
open Go.RowKit

set_option maxHeartbeats 2000000 in
theorem mostOf_any (V : Nat → Int) (hV : VBd V) (w : World) :
    Calls Try.prog 26 #[.agg (vcells V)] w fun e w' => e = .returned (.tuple #[.int .i64 (mostV V).1, .bool (mostV V).2]) ∧ Below w.heap.size w w' := by
  have c0 := vcells_at V 0 (by omega)
  have c1 := vcells_at V 1 (by omega)
  have c2 := vcells_at V 2 (by omega)
  have c3 := vcells_at V 3 (by omega)
  obtain ⟨l0, u0⟩ := hV 0 (by omega)
  obtain ⟨l1, u1⟩ := hV 1 (by omega)
  have e0 := win_less (V 0) l0 u0
  have e1 := win_less (V 1) l1 u1
  have HV : Hid (VBd V) := hV
  have W0 : Hid (win (V 0) 1 10 = true → wrap64 (V 0 - 1) = V 0 - 1) := wrap_of_win l0 u0
  have W1 : Hid (win (V 1) 1 10 = true → wrap64 (V 1 - 1) = V 1 - 1) := wrap_of_win l1 u1
  clear hV l0 u0 l1 u1
  go_enter Try.func26, Try.ntmps26
  go_wp2
  refine wp_loop_rounds 3 ?_
  rw [rounds_succ]
  go_wp2_with (first | (go_at_call 60; refine (rwithin_any _ _ _ _).mono ?_; rintro e w' ⟨rfl, rfl⟩) | (go_at_call 62; refine (said_lit V HV.out _ _).mono ?_; rintro e w1 ⟨rfl, hb1⟩; obtain ⟨hc1, hf1⟩ := bcell hb1))
  all_goals try (rw [rounds_succ]; go_wp2_with (first | (go_at_call 60; refine (rwithin_any _ _ _ _).mono ?_; rintro e w' ⟨rfl, rfl⟩) | (go_at_call 62; refine (said_lit V HV.out _ _).mono ?_; rintro e w2 ⟨rfl, hb2⟩; obtain ⟨hc2, hf2⟩ := bcell hb2)))
  all_goals try (rw [rounds_succ]; go_wp2)
  all_goals go_ret2
  all_goals first
    | (rw [most_a W0.out ‹_› ‹_›])
    | (rw [most_b W0.out W1.out (Or.inr ‹_›) ‹_› ‹_›])
    | (rw [most_b W0.out W1.out (Or.inl ‹_›) ‹_› ‹_›])
    | (rw [most_c W0.out W1.out (Or.inr ‹_›) (Or.inr ‹_›)])
    | (rw [most_c W0.out W1.out (Or.inr ‹_›) (Or.inl ‹_›)])
    | (rw [most_c W0.out W1.out (Or.inl ‹_›) (Or.inr ‹_›)])
    | (rw [most_c W0.out W1.out (Or.inl ‹_›) (Or.inl ‹_›)])
  all_goals refine ⟨rfl, ?_⟩
  all_goals first | exact bel_trans (below_past hb1) hb2 | exact below_past hb1 | exact below_past hb2 | go_grown
end Go.Proofs.Ytmmgaonlmpajbaa
