/-
  The document's node at work: all; opened.
-/
import Derived.Test.YtmmgaonlmpajbaaDoc3a
import Derived.Test.YtmmgaonlmpajbaaDoc3b
import Derived.Test.YtmmgaonlmpajbaaNodeB
import Derived.Test.YtmmgaonlmpajbaaTurnD
import Derived.Deep.LoopGhost
namespace Go.Proofs.Ytmmgaonlmpajbaa
open Go.RowKit

theorem rone_any {bb : Nat} {w : World} {g who : Nat} {a : At} {q sd : Value} (H : Sr bb w g 100 who a q sd) (F : FI a) : Calls Try.prog 97 #[.pointer (some ⟨g, 0, none⟩)] w (ROne bb who a w g) := by
  by_cases h : a.n.step = 0
  · exact rone_w0 H F h
  · exact rone_w1 H F h

set_option maxRecDepth 100000 in
set_option maxHeartbeats 8000000 in
theorem rall_any {bb : Nat} {w : World} {g who : Nat} {a : At} {q sd : Value} (H : Sr bb w g 100 who a q sd) (F : FI a) :
    Calls Try.prog 76 #[.pointer (some ⟨g, 0, none⟩)] w fun e w' => e = .returned (.tuple #[]) ∧ ∃ q' sd', InR bb w g who (follow who a) q' sd' w' := by
  go_enter Try.func76, Try.ntmps76
  go_wp2
  go_loopg [2] 1000 (fun gg _ wr => ∃ b q' sd', b.n.mu ≤ gg ∧ Hid (FI b ∧ follow who a = follow who b) ∧ InR bb w g who b q' sd' wr)
  case atStart => exact ⟨a, q, sd, by have := F.few; omega, ⟨F, rfl⟩, H, Below.refl _ _⟩
  case round =>
    obtain ⟨b, q', sd', hmu, hF, hC⟩ := hrel
    have FB := hF.out.1
    have hone := rone_any hC.1 FB
    cases ho : one who b with
    | some c =>
      have hb2 := FB.one ho
      have hone2 : Calls Try.prog 97 #[.pointer (some ⟨g, 0, none⟩)] wr fun e w' => e = .returned (.bool true) ∧ ∃ q2 sd2, InR bb w g who c q2 sd2 w' := by
        refine hone.mono ?_
        rintro e w' (⟨h1, _⟩ | ⟨c', h1, rfl, q2, sd2, h2⟩)
        · rw [ho] at h1; cases h1
        · rw [ho] at h1
          obtain rfl := Option.some.inj h1
          exact ⟨rfl, q2, sd2, h2.1, bel_seq hC.2 h2.2⟩
      have HN : Hid (FI c ∧ follow who a = follow who c) := ⟨hb2.1, hF.out.2.trans (follow_some FB ho)⟩
      have hmu2 := hb2.2
      clear hone ho hb2 hF FB
      go_wp2_with (first | (go_at_call 97; refine hone2.mono ?_; rintro e w1 ⟨rfl, q2, sd2, hC2⟩))
      go_roundg c.n.mu
      case measure => omega
      case rel => exact ⟨_, q2, sd2, Nat.le_refl _, HN, hC2⟩
    | none =>
      have hone0 : Calls Try.prog 97 #[.pointer (some ⟨g, 0, none⟩)] wr fun e w' => e = .returned (.bool false) ∧ ∃ q2 sd2, InR bb w g who b q2 sd2 w' := by
        refine hone.mono ?_
        rintro e w' (⟨_, rfl, q2, sd2, h2⟩ | ⟨c', h1, _⟩)
        · exact ⟨rfl, q2, sd2, h2.1, bel_seq hC.2 h2.2⟩
        · rw [ho] at h1; cases h1
      have hE : Hid (follow who a = b) := hF.out.2.trans (follow_none ho)
      clear hone ho hF FB
      go_wp2_with (first | (go_at_call 97; refine hone0.mono ?_; rintro e w1 ⟨rfl, q2, sd2, hC2⟩))
      go_end0
      rw [hE.out]
      exact ⟨rfl, q2, sd2, hC2⟩
end Go.Proofs.Ytmmgaonlmpajbaa
