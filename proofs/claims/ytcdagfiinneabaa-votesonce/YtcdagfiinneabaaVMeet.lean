/-
  Plain facts on votes: two quorums meet.
-/
import Derived.Test.YtcdagfiinneabaaRefCount
namespace Go.Proofs.Ytcdagfiinneabaa

theorem cnt3 {V : Nat → Int} {x : Int} (h : 3 ≤ cntV V x) : ∀ i j, i < 4 → j < 4 → i ≠ j → V i = x + 1 ∨ V j = x + 1 := by
  have key : ∀ i j, i < 4 → j < 4 → i < j → V i = x + 1 ∨ V j = x + 1 := by
    intro i j hi hj hij
    by_cases hVi : V i = x + 1
    · exact Or.inl hVi
    · by_cases hVj : V j = x + 1
      · exact Or.inr hVj
      · exfalso
        have one : ∀ k, (if 1 ≤ V k ∧ (V k - 1 == x) = true then (1 : Int) else 0) ≤ 1 ∧ ((V k ≠ x + 1) → (if 1 ≤ V k ∧ (V k - 1 == x) = true then (1 : Int) else 0) = 0) := by
          intro k
          constructor
          · split <;> omega
          · intro hne
            rw [if_neg]
            rintro ⟨_, hh⟩
            have := eq_of_beq hh
            omega
        have e0 := one 0
        have e1 := one 1
        have e2 := one 2
        have e3 := one 3
        have zi := (one i).2 hVi
        have zj := (one j).2 hVj
        simp only [cntV, cntTo] at h
        have hij' : (i = 0 ∧ j = 1) ∨ (i = 0 ∧ j = 2) ∨ (i = 0 ∧ j = 3) ∨ (i = 1 ∧ j = 2) ∨ (i = 1 ∧ j = 3) ∨ (i = 2 ∧ j = 3) := by omega
        rcases hij' with ⟨rfl, rfl⟩ | ⟨rfl, rfl⟩ | ⟨rfl, rfl⟩ | ⟨rfl, rfl⟩ | ⟨rfl, rfl⟩ | ⟨rfl, rfl⟩ <;> omega
  intro i j hi hj hne
  by_cases hlt : i < j
  · exact key i j hi hj hlt
  · exact (key j i hj hi (by omega)).symm

theorem most_is {V : Nat → Int} (h : (mostV V).2 = true) : 0 ≤ (mostV V).1 ∧ (mostV V).1 ≤ 9 ∧ 3 ≤ cntV V (mostV V).1 := by
  unfold mostV at h ⊢
  split
  · rename_i hh
    have : win (V 0) 1 10 = true := hh.1
    simp [win] at this
    exact ⟨by show 0 ≤ V 0 - 1; omega, by show V 0 - 1 ≤ 9; omega, hh.2⟩
  · split
    · rename_i _ hh
      have : win (V 1) 1 10 = true := hh.1
      simp [win] at this
      exact ⟨by show 0 ≤ V 1 - 1; omega, by show V 1 - 1 ≤ 9; omega, hh.2⟩
    · rename_i h1 h2
      rw [if_neg h1, if_neg h2] at h
      cases h

theorem cnt_but {V : Nat → Int} {x : Int} (h : 3 ≤ cntV V x) : ∃ m : Nat, ∀ i, i < 4 → i ≠ m → V i = x + 1 := by
  have q := cnt3 h
  by_cases h0 : V 0 = x + 1
  · by_cases h1 : V 1 = x + 1
    · by_cases h2 : V 2 = x + 1
      · refine ⟨3, fun i hi hne => ?_⟩
        have : i = 0 ∨ i = 1 ∨ i = 2 := by omega
        rcases this with rfl | rfl | rfl <;> assumption
      · exact ⟨2, fun i hi hne => (q i 2 hi (by omega) hne).resolve_right h2⟩
    · exact ⟨1, fun i hi hne => (q i 1 hi (by omega) hne).resolve_right h1⟩
  · exact ⟨0, fun i hi hne => (q i 0 hi (by omega) hne).resolve_right h0⟩

/-- Two quorums meet. -/
theorem meet {a b : Nat → Int} {liar : Int} (ha : (mostV a).2 = true) (hb : (mostV b).2 = true) (h : ∀ i : Nat, i < 4 → (i : Int) ≠ liar → 0 < a i → 0 < b i → a i = b i) : (mostV a).1 = (mostV b).1 := by
  obtain ⟨a0, _, a2⟩ := most_is ha
  obtain ⟨b0, _, b2⟩ := most_is hb
  generalize (mostV a).1 = x at *
  generalize (mostV b).1 = y at *
  obtain ⟨m, hm⟩ := cnt_but a2
  obtain ⟨n, hn⟩ := cnt_but b2
  have both : ∃ i : Nat, i < 4 ∧ (i : Int) ≠ liar ∧ i ≠ m ∧ i ≠ n := by
    by_cases c0 : (0 : Int) ≠ liar ∧ 0 ≠ m ∧ 0 ≠ n
    · exact ⟨0, by omega, c0.1, c0.2.1, c0.2.2⟩
    · by_cases c1 : (1 : Int) ≠ liar ∧ 1 ≠ m ∧ 1 ≠ n
      · exact ⟨1, by omega, c1.1, c1.2.1, c1.2.2⟩
      · by_cases c2 : (2 : Int) ≠ liar ∧ 2 ≠ m ∧ 2 ≠ n
        · exact ⟨2, by omega, c2.1, c2.2.1, c2.2.2⟩
        · exact ⟨3, by omega, by omega, by omega, by omega⟩
  obtain ⟨i, hi, hl, h1, h2⟩ := both
  have e1 := hm i hi h1
  have e2 := hn i hi h2
  have := h i hi hl (by omega) (by omega)
  omega

theorem cnt_self {V : Nat → Int} {x y : Int} (h : 3 ≤ cntV V x) (k : 3 ≤ cntV V y) : x = y := by
  have a := cnt3 h
  have b := cnt3 k
  have a01 := a 0 1 (by omega) (by omega) (by omega)
  have a02 := a 0 2 (by omega) (by omega) (by omega)
  have a12 := a 1 2 (by omega) (by omega) (by omega)
  have b01 := b 0 1 (by omega) (by omega) (by omega)
  have b02 := b 0 2 (by omega) (by omega) (by omega)
  have b12 := b 1 2 (by omega) (by omega) (by omega)
  omega

theorem most_found {V : Nat → Int} {x : Int} (h0 : 0 ≤ x) (h9 : x ≤ 9) (h : 3 ≤ cntV V x) : mostV V = (x, true) := by
  unfold mostV
  have hw : ∀ i, V i = x + 1 → win (V i) 1 10 = true ∧ V i - 1 = x := fun i hi => ⟨by simp [win]; omega, by omega⟩
  split
  · rename_i hh
    rw [cnt_self hh.2 h]
  · rename_i hn
    have h1 : V 1 = x + 1 := by
      rcases cnt3 h 0 1 (by omega) (by omega) (by omega) with h1 | h1
      · obtain ⟨a, b⟩ := hw 0 h1
        exact absurd ⟨a, by rw [b]; exact h⟩ hn
      · exact h1
    obtain ⟨a, b⟩ := hw 1 h1
    rw [if_pos ⟨a, by rw [b]; exact h⟩, b]

theorem most_none {V : Nat → Int} (h : ∀ j : Nat, j < 10 → cntV V j < 3) : mostV V = (0, false) := by
  have key : ∀ i, ¬ (win (V i) 1 10 = true ∧ 3 ≤ cntV V (V i - 1)) := by
    rintro i ⟨a, b⟩
    simp [win] at a
    obtain ⟨n, hn⟩ := Int.eq_ofNat_of_zero_le (show 0 ≤ V i - 1 by omega)
    rw [hn] at b
    have := h n (by omega)
    omega
  unfold mostV
  rw [if_neg (key 0), if_neg (key 1)]
end Go.Proofs.Ytcdagfiinneabaa
