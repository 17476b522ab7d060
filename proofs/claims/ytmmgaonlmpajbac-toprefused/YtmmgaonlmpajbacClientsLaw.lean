/-
  The statement TopClients.
-/
import Derived.Test.YtmmgaonlmpajbacAgreeLaw
import Derived.Test.YtmmgaonlmpajbacTakesLaw
namespace Go.Proofs.Ytmmgaonlmpajbac
open Go.RowKit

theorem doC_acts (c : Cw) (a : Ac) : (doC c a).1.acts ≤ c.acts + 1 := by
  have h1 : c.more.acts = c.acts + 1 := rfl
  have hh : ∀ (c : Cw) i v, (hearC c i v).1.acts = c.acts := fun c i v => by unfold hearC; split <;> rfl
  unfold doC
  split
  · exact Nat.le_succ _
  · split
    · unfold subC
      split
      · split <;> exact Nat.le_refl _
      · exact Nat.le_refl _
    · split
      · unfold deliverC
        split
        · split
          · rw [hh]; exact Nat.le_refl _
          · exact Nat.le_refl _
        · exact Nat.le_refl _
      · split
        · unfold dropC
          split <;> exact Nat.le_refl _
        · split
          · unfold timeC
            split <;> exact Nat.le_refl _
          · split
            · unfold lieC
              split
              · split
                · split
                  · rw [hh]; exact Nat.le_refl _
                  · exact Nat.le_refl _
                · exact Nat.le_refl _
              · exact Nat.le_refl _
            · split
              · exact Nat.le_refl _
              · exact Nat.le_refl _
theorem playC_acts (liar : Int) (l : List Ac) : ∀ k, (playC liar l k).acts ≤ k
  | 0 => Nat.le_refl _
  | k + 1 => by
    cases h : l[k]? with
    | none =>
      have e : playC liar l (k + 1) = playC liar l k := by
        unfold playC
        rw [List.take_add_one, h]; simp
      rw [e]; have := playC_acts liar l k; omega
    | some a => rw [playC_succ h]; have := doC_acts (playC liar l k) a; have := playC_acts liar l k; omega
theorem most_le (l : List Ac) : most l ≤ 300 := Nat.min_le_right _ _
theorem playC_liar (liar : Int) (l : List Ac) (k : Nat) : (playC liar l k).liar = liar := by
  have hd : ∀ (c : Cw) a, (doC c a).1.liar = c.liar := fun c a => by
    have hh : ∀ (c : Cw) i v, (hearC c i v).1.liar = c.liar := fun c i v => by unfold hearC; split <;> rfl
    unfold doC
    split
    · rfl
    · split
      · unfold subC
        split
        · split <;> rfl
        · rfl
      · split
        · unfold deliverC
          split
          · split
            · rw [hh]; rfl
            · rfl
          · rfl
        · split
          · unfold dropC
            split <;> rfl
          · split
            · unfold timeC
              split <;> rfl
            · split
              · unfold lieC
                split
                · split
                  · split
                    · rw [hh]; rfl
                    · rfl
                  · rfl
                · rfl
              · split <;> rfl
  induction k with
  | zero => rfl
  | succ k ih =>
    cases h : l[k]? with
    | none =>
      have e : playC liar l (k + 1) = playC liar l k := by
        unfold playC
        rw [List.take_add_one, h]; simp
      rw [e]; exact ih
    | some a => rw [playC_succ h, hd]; exact ih

/-- A client's act. -/
def readAct (n : Int) (tell : Nat → Int) : Ac := ⟨6, 0, n, 0, ⟨0, 0, 0, 0, 0, 0⟩, tell⟩
theorem doC_read {c : Cw} (h : c.acts ≠ 600) (n : Int) (tell : Nat → Int) : doC c (readAct n tell) = (c.more, rcells 0 0 (takeV (toldC c (n != 0) tell))) := by
  unfold doC
  rw [if_neg h]
  rfl
theorem takeV_two {l : Nat → Nat → Int} {h : Nat} (hne : takeV l h ≠ 0) : ∃ x y, y < x ∧ x < 4 ∧ l x h = takeV l h ∧ l y h = takeV l h := by
  have e : takeV l h = toldV (fun i => l i h) := by
    unfold takeV at hne ⊢
    split
    · rfl
    · rename_i c; rw [if_neg c] at hne; exact absurd rfl hne
  rw [e] at hne ⊢
  have key : 2 ≤ tellers (fun i => l i h) (toldV fun i => l i h) 4 := by
    unfold toldV at hne ⊢
    split
    · rename_i k hk
      have := List.find?_some hk
      simpa using this
    · rename_i hk
      rw [hk] at hne; exact absurd rfl hne
  exact pair_of_two key
theorem takeV_true {c : Cw} {lies : Bool} {tell : Nat → Int} {h : Nat} (hne : takeV (toldC c lies tell) h ≠ 0) : ∃ i : Nat, i < 4 ∧ (i : Int) ≠ c.liar ∧ (c.nd i).settled h = takeV (toldC c lies tell) h := by
  obtain ⟨x, y, h1, h2, h3, h4⟩ := takeV_two hne
  have key : ∀ z : Nat, (z : Int) ≠ c.liar → toldC c lies tell z h = (c.nd z).settled h := fun z hz => by
    unfold toldC; rw [if_neg (fun hh => hz hh.2.symm)]
  by_cases c1 : (x : Int) = c.liar
  · have c2 : (y : Int) ≠ c.liar := by omega
    exact ⟨y, by omega, c2, by rw [← key y c2]; exact h4⟩
  · exact ⟨x, h2, c1, by rw [← key x c1]; exact h3⟩

/-- Is a value settled at one of the first i nodes that are true? -/
def foundB (c : Cw) (liar v : Int) (h : Nat) : Nat → Bool
  | 0 => v == 0
  | i + 1 => foundB c liar v h i || (((i : Int) != liar) && ((c.nd i).settled h == v))
theorem foundB_of {c : Cw} {liar v : Int} {h : Nat} (hf : v = 0 ∨ ∃ i : Nat, i < 4 ∧ (i : Int) ≠ liar ∧ (c.nd i).settled h = v) : foundB c liar v h 4 = true := by
  have key : ∀ m i : Nat, i < m → (i : Int) ≠ liar → (c.nd i).settled h = v → foundB c liar v h m = true := by
    intro m
    induction m with
    | zero => intro i hi; omega
    | succ m ih =>
      intro i hi h1 h2
      by_cases e : i = m
      · subst e; simp [foundB, h1, h2]
      · simp [foundB, ih i (by omega) h1 h2]
  rcases hf with h0 | ⟨i, h1, h2, h3⟩
  · simp [foundB, h0]
  · exact key 4 i h1 h2 h3
theorem index_four (f : Nat → Int) (k : Nat) (h : k < 4) (W : World) : Sem.run Try.prog (Instr.index 25 (.agg (four f)) (.int .i64 (k : Int))) W = .ok (.int .i64 (f k)) W := by
  have hk : k = 0 ∨ k = 1 ∨ k = 2 ∨ k = 3 := by omega
  rcases hk with rfl | rfl | rfl | rfl
  · show _ = _; kernel_rfl
  · show _ = _; kernel_rfl
  · show _ = _; kernel_rfl
  · show _ = _; kernel_rfl
theorem build_readAct (n : Int) (tell : Nat → Int) (W : World) : Sem.run Try.prog (Instr.build 27 #[(0, .int .i64 6), (2, .int .i64 n), (5, .agg (four tell))]) W = .ok (.agg (acArr (readAct n tell))) W := by show _ = _; kernel_rfl
theorem rep_settled {W : World} {b : Nat} {code n : Int} {f : Nat → Int} {t : TypeId} (B : Blk W b (rcells code n f) t) : W.rangeAt b 2 (four f).toList := by
  intro j u hu
  have hj : j < 4 := by
    by_cases hlt : j < 4
    · exact hlt
    · rw [List.getElem?_eq_none (by show (four f).toList.length ≤ j; simp [four]; omega)] at hu; cases hu
  rw [B.cell]
  have : j = 0 ∨ j = 1 ∨ j = 2 ∨ j = 3 := by omega
  rcases this with rfl | rfl | rfl | rfl <;> simpa [rcells, four] using hu

end Go.Proofs.Ytmmgaonlmpajbac
