/-
  The document's node at work: one.
-/
import Derived.Test.YtmmgaonlmpajbacGreatDoc2
import Derived.Test.YtmmgaonlmpajbacGreatTurnQ
import Derived.Test.YtmmgaonlmpajbacGreatPlainN
namespace Go.Proofs.YtmmgaonlmpajbacGreat
open Go.RowKit

/-- What one thing that follows leaves. -/
def ROne (bb who : Nat) (a : At) (w : World) (g : Nat) (e : Ending) (w' : World) : Prop :=
  (one who a = none ∧ e = .returned (.bool false) ∧ ∃ q' sd', InR bb w g who a q' sd' w') ∨ ∃ b, one who a = some b ∧ e = .returned (.bool true) ∧ ∃ q' sd', InR bb w g who b q' sd' w'

theorem rn_one_four {who : Nat} {a : At} (h : a.n.height = 4) : one who a = none := by unfold one; rw [if_pos h]
theorem rn_one_first {who : Nat} {a : At} (h : a.n.height < 4) {r : Nat} (e : firstSettled a.n.sheet = some r) : one who a = some (settleAt who a r) := by
  unfold one; rw [if_neg (by omega), e]
theorem rn_one_far {who : Nat} {a : At} (h : a.n.height < 4) {r : Nat} (e : firstSettled a.n.sheet = none) (f : farRound a.n.sheet a.n.round = some r) : one who a = some (enter who a r) := by
  unfold one; rw [if_neg (by omega), e]; simp only; rw [f]
theorem rn_one_wish {who : Nat} {a : At} (h : a.n.height < 4) (e : firstSettled a.n.sheet = none) (f : farRound a.n.sheet a.n.round = none) (s : a.n.step = 0) : one who a = wishes who a := by
  unfold one; rw [if_neg (by omega), e]; simp only; rw [f]; simp only; rw [if_pos s]
theorem rn_one_prom {who : Nat} {a : At} (h : a.n.height < 4) (e : firstSettled a.n.sheet = none) (f : farRound a.n.sheet a.n.round = none) (s : a.n.step ≠ 0) : one who a = promises who a := by
  unfold one; rw [if_neg (by omega), e]; simp only; rw [f]; simp only; rw [if_neg s]

theorem wish_no {who : Nat} {a : At} {S : Sh} (hS : a.n.sheet = S) (h : S.is a.n.round = false ∨ (0 ≤ S.vld a.n.round ∧ cntV (S.wi (S.vld a.n.round).toNat) (S.val a.n.round) < 3)) : wishes who a = none := by
  unfold wishes; simp only; rw [hS]; exact if_pos h
theorem wish_yes {who : Nat} {a : At} {S : Sh} (hS : a.n.sheet = S) (h : ¬ (S.is a.n.round = false ∨ (0 ≤ S.vld a.n.round ∧ cntV (S.wi (S.vld a.n.round).toNat) (S.val a.n.round) < 3))) {v : Int} (hv : (if a.n.boundIn ≤ S.vld a.n.round ∨ a.n.bound = S.val a.n.round then S.val a.n.round else 0) = v) : wishes who a = some (tell who ⟨{ a.n with step := 1 }, a.words⟩ 2 v 0) := by
  unfold wishes; simp only; rw [hS, if_neg h, hv]
theorem prom_zero {who : Nat} {a : At} {S : Sh} (hS : a.n.sheet = S) (h : a.n.step = 1 ∧ 3 ≤ cntV (S.wi a.n.round) 0) : promises who a = some (tell who ⟨{ a.n with step := 2 }, a.words⟩ 3 0 0) := by
  unfold promises; simp only; rw [hS, if_pos h]
theorem prom_no {who : Nat} {a : At} {S : Sh} (hS : a.n.sheet = S) (h : ¬ (a.n.step = 1 ∧ 3 ≤ cntV (S.wi a.n.round) 0)) (h2 : ¬ (S.is a.n.round = true ∧ a.n.seen a.n.round = false ∧ 3 ≤ cntV (S.wi a.n.round) (S.val a.n.round))) : promises who a = none := by
  unfold promises; simp only; rw [hS, if_neg h, if_neg h2]
/-- It keeps in mind what a quorum wishes for. -/
def seenN (n : Nd) (y : Int) : Nd := { n with seen := fun q => if q = n.round then true else n.seen q, valid := y, validIn := n.round }
theorem prom_mind {who : Nat} {a : At} {S : Sh} (hS : a.n.sheet = S) (h : ¬ (a.n.step = 1 ∧ 3 ≤ cntV (S.wi a.n.round) 0)) (h2 : S.is a.n.round = true ∧ a.n.seen a.n.round = false ∧ 3 ≤ cntV (S.wi a.n.round) (S.val a.n.round)) (h3 : a.n.step ≠ 1) : promises who a = some ⟨seenN a.n (S.val a.n.round), a.words⟩ := by
  unfold promises; simp only; rw [hS, if_neg h, if_pos h2, if_neg h3]; rfl
theorem prom_say {who : Nat} {a : At} {S : Sh} (hS : a.n.sheet = S) (h : ¬ (a.n.step = 1 ∧ 3 ≤ cntV (S.wi a.n.round) 0)) (h2 : S.is a.n.round = true ∧ a.n.seen a.n.round = false ∧ 3 ≤ cntV (S.wi a.n.round) (S.val a.n.round)) (h3 : a.n.step = 1) : promises who a = some (tell who ⟨{ seenN a.n (S.val a.n.round) with bound := S.val a.n.round, boundIn := a.n.round, step := 2 }, a.words⟩ 3 (S.val a.n.round) 0) := by
  unfold promises; simp only; rw [hS, if_neg h, if_pos h2, if_pos h3]; rfl
/-- The last later round in which some are heard, among those below j. -/
def FarTo (S : Sh) (rd f j : Nat) : Prop := (f = rd ∨ (rd < f ∧ f < j ∧ 1 < heardN S (f : Int))) ∧ rd ≤ f ∧ ∀ i : Nat, f < i → i < j → ¬ (1 < heardN S (i : Int))
theorem no_next {S : Sh} {r : Nat} (h : ∀ i, i < r → settles S i = false) (h1 : settles S r = false) : ∀ i, i < r + 1 → settles S i = false := fun i hi => by
  by_cases e : i = r
  · rw [e]; exact h1
  · exact h i (by omega)
theorem wq_let {P : Program} {ops : Array Oper} {C : World → Prop} {Q : Act → Prop} {l : List Oper} {t : Array Value} {d : List Deferred} (h : ∀ T, Hid (T = t) → WQ P ops C Q l ⟨T, d⟩) : WQ P ops C Q l ⟨t, d⟩ := h t rfl
theorem sh_call {W : World} {p r : Nat} {S : Sh} {t : TypeId} (B : Blk W p S.cells t) (hr : r < 6) : W.rangeAt p (r * 3) (callV S r).toList := by
  intro j u hu
  have hj : j = 0 ∨ j = 1 ∨ j = 2 ∨ 3 ≤ j := by omega
  rcases hj with rfl | rfl | rfl | hj
  · rw [B.cell, cells_at S _ (by omega), show r * 3 + 0 = r * 3 by omega, cellAt_is _ _ hr]; simpa [callV] using hu
  · rw [B.cell, cells_at S _ (by omega), cellAt_val _ _ hr]; simpa [callV] using hu
  · rw [B.cell, cells_at S _ (by omega), cellAt_vld _ _ hr]; simpa [callV] using hu
  · rw [List.getElem?_eq_none (by show 3 ≤ j; omega)] at hu; cases hu
theorem sh_wi {W : World} {p r : Nat} {S : Sh} {t : TypeId} (B : Blk W p S.cells t) (hr : r < 6) : W.rangeAt p (18 + r * 4) (vcells (S.wi r)).toList := by
  intro j u hu
  have hj : j < 4 := by
    by_cases hlt : j < 4
    · exact hlt
    · rw [List.getElem?_eq_none (by simp [vcells]; omega)] at hu; cases hu
  rw [B.cell, cells_wi _ _ _ hr hj]
  rw [Array.getElem?_toList, vcells_at _ _ hj] at hu
  exact hu
theorem sh_pr {W : World} {p r : Nat} {S : Sh} {t : TypeId} (B : Blk W p S.cells t) (hr : r < 6) : W.rangeAt p (42 + r * 4) (vcells (S.pr r)).toList := by
  intro j u hu
  have hj : j < 4 := by
    by_cases hlt : j < 4
    · exact hlt
    · rw [List.getElem?_eq_none (by simp [vcells]; omega)] at hu; cases hu
  rw [B.cell, cells_pr _ _ _ hr hj]
  rw [Array.getElem?_toList, vcells_at _ _ hj] at hu
  exact hu
/-- The worlds in which the node is looked at: the node, its sheet's copy, a call's copy. -/
def InL (bb : Nat) (w : World) (g who : Nat) (a : At) (q sd : Value) (p : Nat) (S : Sh) (pc : Nat) (D : Array Value) (W : World) : Prop := InR bb w g who a q sd W ∧ Blk W p S.cells 46 ∧ Blk W pc D 41
theorem InL.keep {bb : Nat} {w W W' : World} {g who : Nat} {a : At} {q sd : Value} {p : Nat} {S : Sh} {pc : Nat} {D : Array Value} (h : InL bb w g who a q sd p S pc D W) (hb : Below W.heap.size W W') : InL bb w g who a q sd p S pc D W' := ⟨h.1.keep hb, h.2.1.below hb, h.2.2.below hb⟩
theorem InL.put {bb : Nat} {w W : World} {g who : Nat} {a : At} {q sd : Value} {p : Nat} {S : Sh} {pc : Nat} {D : Array Value} (h : InL bb w g who a q sd p S pc D W) (hp : p ≠ g) (hpc : pc ≠ g) {j : Nat} {v : Value} (n' : Nd) (hj : j < 282) (hc : (a.n.ni q).cells.setIfInBounds j v = (n'.ni q).cells) (hq : n'.queue = a.n.queue) : InL bb w g who ⟨n', a.words⟩ q sd p S pc D (W.setCell ⟨g, j, none⟩ v) :=
  ⟨⟨h.1.1.put n' hj hc hq, bel_put h.1.2 _ _⟩, h.2.1.setCell_other _ _ hp, h.2.2.setCell_other _ _ hpc⟩
theorem InL.drew {bb : Nat} {w W : World} {g who : Nat} {a : At} {q sd : Value} {p : Nat} {S : Sh} {pc : Nat} {D : Array Value} (h : InL bb w g who a q sd p S pc D W) : InL bb w g who a q sd p S pc D W.drew := ⟨h.1.drew, h.2.1.drew, h.2.2.drew⟩
end Go.Proofs.YtmmgaonlmpajbacGreat
