/-
  The statement NodeQuiet.
-/
import Derived.Test.YtmmgaonlmpajbacGreatKAfter
import Derived.Test.YtmmgaonlmpajbacGreatKSame
import Derived.Test.YtmmgaonlmpajbacGreatPlain4
namespace Go.Proofs.YtmmgaonlmpajbacGreat
open Go.RowKit

theorem pair_of {v i : Int} {r : Nat} (h : OkPair v i r) : okPair v i r = true := by
  simp only [okPair, Bool.or_eq_true, Bool.and_eq_true, beq_iff_eq, win_iff]
  rcases h with h | ⟨h1, h2, h3, h4⟩
  · exact Or.inl h
  · exact Or.inr ⟨⟨h1, h2⟩, h3, h4⟩
theorem goodN_of {n : Nd} (G : GN n) (q : Value) : goodN (n.ni q) n.queue = true := by
  have h1 := G.height
  have h2 := G.round
  have h3 := G.step
  have h4 := G.qlen
  have a1 : okHead (n.ni q) n.queue = true := by
    simp only [okHead, Bool.and_eq_true, win_iff, decide_eq_true_eq]
    refine ⟨⟨⟨⟨?_, ?_⟩, ?_, ?_⟩, ?_, ?_⟩, ?_⟩
    · show (0 : Int) ≤ (n.height : Int); omega
    · show (n.height : Int) ≤ 4; omega
    · show (0 : Int) ≤ (n.round : Int); omega
    · show (n.round : Int) ≤ 5; omega
    · show (0 : Int) ≤ (n.step : Int); omega
    · show (n.step : Int) ≤ 2; omega
    · omega
  have a2 : okPair (n.ni q).bound (n.ni q).boundIn (n.ni q).round = true := pair_of G.bd
  have a3 : okPair (n.ni q).valid (n.ni q).validIn (n.ni q).round = true := pair_of G.vd
  have a4 : okHeights (n.ni q) 4 = true := (heights_iff _ 4).2 fun h hh => ⟨G.sheets h, by
    unfold okSettled
    by_cases c : (h : Int) < (n.ni q).height
    · rw [if_pos c, win_iff]
      have c' : (h : Int) < (n.height : Int) := c
      exact G.low h (by omega)
    · rw [if_neg c]
      have c' : ¬ (h : Int) < (n.height : Int) := c
      have := G.high h (by omega) hh
      show (n.settled h == 0) = true
      rw [this]; rfl⟩
  have a5 : okQueue n.queue n.queue.length = true := (okQueue_iff _ _).2 fun j hj => by
    rw [win_iff, List.getD_eq_getElem?_getD, List.getElem?_eq_getElem hj]
    exact G.queue _ (List.getElem_mem hj)
  unfold goodN
  rw [a1, a2, a3, a4, a5]; rfl
theorem nd_ni {a : At} (h : Beyond noSh a) (q : Value) : (a.n.ni q).nd a.n.queue = a.n := by
  have e : (fun g => if g < 4 then a.n.heard g else noSh) = a.n.heard := by
    funext g
    by_cases c : g < 4
    · rw [if_pos c]
    · rw [if_neg c, h.2 g (by omega)]
  unfold NI.nd Nd.ni
  simp only [e, Int.toNat_natCast]


end Go.Proofs.YtmmgaonlmpajbacGreat
