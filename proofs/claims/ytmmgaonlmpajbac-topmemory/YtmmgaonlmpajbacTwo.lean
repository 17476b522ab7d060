/-
  Two crowds that lie apart.
-/
import Derived.Test.YtmmgaonlmpajbacTSame
import Derived.Test.YtmmgaonlmpajbacTPlay
namespace Go.Proofs.Ytmmgaonlmpajbac
open Go.RowKit

/-- Two crowds lie apart. -/
structure Two (W : World) (g : Nat) (c : Cw) (q : Nat → Value) (nt : Value) (g' : Nat) (d : Cw) (q' : Nat → Value) (nt' : Value) : Prop where
  one : CwAt W g 70 c q nt
  other : CwAt W g' 70 d q' nt'
  ne : g ≠ g'
  apart : ∀ k, nt.ownBlock = some k → nt'.ownBlock ≠ some k
theorem Two.swap {W : World} {g g' : Nat} {c d : Cw} {q q' : Nat → Value} {nt nt' : Value} (h : Two W g c q nt g' d q' nt') : Two W g' d q' nt' g c q nt :=
  ⟨h.other, h.one, h.ne.symm, fun k hk hk' => h.apart k hk' hk⟩
theorem Two.keep {W W' : World} {g g' : Nat} {c d : Cw} {q q' : Nat → Value} {nt nt' : Value} (h : Two W g c q nt g' d q' nt') (b : Below W.heap.size W W') : Two W' g c q nt g' d q' nt' :=
  ⟨h.one.keep b, h.other.keep b, h.ne, h.apart⟩
/-- Something is done to the one: the other one is as it was. -/
theorem Two.did {W W' : World} {g g' : Nat} {c c' d : Cw} {q q' p : Nat → Value} {nt nt' mt : Value} (h : Two W g c q nt g' d q' nt') (H : CwAt W' g 70 c' p mt) (T : Touch g nt W W') (N : Next nt mt W) : Two W' g c' p mt g' d q' nt' := by
  have hg' := h.other.blk.lt
  have hnet : ∀ k, nt'.ownBlock = some k → W'.heap[k]? = W.heap[k]? := fun k hk => by
    obtain ⟨_, hlt, cur, hc⟩ := own_block h.other.net k hk
    refine T.block k hlt (fun e => ?_) (fun e => h.apart k e hk)
    subst e
    have := h.one.blk
    unfold Blk at this
    rw [hc] at this
    injection this with this; injection this with _ this
    exact absurd this (by decide)
  refine ⟨H, ⟨?_, fun i hi => T.own h.one.blk h.one.net (h.other.que i hi) (by decide) (by decide), ?_⟩, h.ne, fun k hk hk' => ?_⟩
  · have hb := h.other.blk
    unfold Blk at hb ⊢
    rw [T.block g' hg' h.ne.symm (own_not h.other.blk h.one.net (by decide))]
    exact hb
  · refine ⟨h.other.net.1, ?_⟩
    rcases h.other.net.2 with o | ⟨k, cap, cur, hv, hb, hh, h3⟩
    · exact Or.inl o
    · refine Or.inr ⟨k, cap, cur, hv, hb, ?_, h3⟩
      rw [hnet k (by rw [hv]; rfl)]
      exact hh
  · obtain ⟨_, hlt, _⟩ := own_block h.other.net k hk'
    rcases N with n | n
    · exact h.apart k (n.symm.trans hk) hk'
    · have := n k hk; omega
/-- A second crowd is played with behind the first one. -/
theorem two_of {W W' : World} {g g' : Nat} {c d : Cw} {q q' : Nat → Value} {nt nt' : Value} (h : CwAt W g 70 c q nt) (H : CwAt W' g' 70 d q' nt') (b : Below W.heap.size W W') (hg : W.heap.size ≤ g') (hn : ∀ k, nt'.ownBlock = some k → W.heap.size ≤ k) : Two W' g c q nt g' d q' nt' := by
  refine ⟨h.keep b, H, fun e => ?_, fun k hk hk' => ?_⟩
  · have := h.blk.lt; omega
  · obtain ⟨_, hlt, _⟩ := own_block h.net k hk
    have := hn k hk'; omega
end Go.Proofs.Ytmmgaonlmpajbac
