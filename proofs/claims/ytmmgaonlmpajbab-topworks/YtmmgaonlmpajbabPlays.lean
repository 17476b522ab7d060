/-
  Whatever is done to four plain nodes, what holds of them holds on: letters, values, time, lies.
-/
import Derived.Test.YtmmgaonlmpajbabCrowd
namespace Go.Proofs.Ytmmgaonlmpajbab

/-- Node i has done something; the letters are others. -/
def Cr.put (c : Cr) (i : Nat) (a : At) (l : List (Nat × Wd)) : Cr := ⟨fun j => if j = i then a.n else c.nd j, l⟩

theorem nonneg_of {S : Sh} (h : goodS S = true) {r i : Nat} (hr : r < 6) (hi : i < 4) : 0 ≤ S.wi r i ∧ 0 ≤ S.pr r i := by
  have := ((goodS_iff S).1 h r hr).2 i hi
  simp [okVote, win] at this
  omega

theorem Inv.put {c : Cr} {liar : Int} (h : Inv c liar) {i : Nat} (hi : i < 4) (a : At) (l : List (Nat × Wd))
    (hfit : (i : Int) ≠ liar → Fit i a.n ∧ AllSaid i a) (hng : NG a.n) (hset : Set a.n) (hgrow : Grow (c.nd i) a.n) (hmine : Mine i a)
    (posW : ∀ g r, ((c.nd i).heard g).wi r i ≠ 0 → (i : Int) ≠ liar → 0 < ((c.nd i).heard g).wi r i) (posP : ∀ g r, ((c.nd i).heard g).pr r i ≠ 0 → (i : Int) ≠ liar → 0 < ((c.nd i).heard g).pr r i)
    (hw : ∀ g r x : Nat, x < 4 → x ≠ i → (x : Int) ≠ liar → (a.n.heard g).wi r x ≠ 0 → (a.n.heard g).wi r x = ((c.nd x).heard g).wi r x)
    (hp : ∀ g r x : Nat, x < 4 → x ≠ i → (x : Int) ≠ liar → (a.n.heard g).pr r x ≠ 0 → (a.n.heard g).pr r x = ((c.nd x).heard g).pr r x)
    (hnet : ∀ x, x ∈ l → x ∈ c.net ∨ (x.1 < 4 ∧ x.1 ≠ i ∧ x.2 ∈ a.words)) : Inv (c.put i a l) liar := by
  have at_i : (c.put i a l).nd i = a.n := by simp [Cr.put]
  have at_o : ∀ j, j ≠ i → (c.put i a l).nd j = c.nd j := fun j hj => by simp [Cr.put, hj]
  refine ⟨fun j hj tj => ?_, fun j hj => ?_, fun j hj => ?_, fun x j g r hx hj tx hne => ?_, fun x j g r hx hj tx hne => ?_, fun y hy => ?_⟩
  · by_cases e : j = i
    · subst e; rw [at_i]; exact (hfit tj).1
    · rw [at_o j e]; exact h.fit j hj tj
  · by_cases e : j = i
    · subst e; rw [at_i]; exact hng
    · rw [at_o j e]; exact h.good j hj
  · by_cases e : j = i
    · subst e; rw [at_i]; exact hset
    · rw [at_o j e]; exact h.set j hj
  · by_cases e : j = i
    · subst e
      rw [at_i] at hne ⊢
      by_cases ex : x = j
      · subst ex; rw [at_i]
      · rw [at_o x ex]; exact hw g r x hx ex tx hne
    · rw [at_o j e] at hne ⊢
      have old := h.authW x j g r hx hj tx hne
      by_cases ex : x = i
      · subst ex
        rw [at_i, old]
        exact (hgrow.wi g r x (posW g r (by rw [← old]; exact hne) tx)).symm
      · rw [at_o x ex]; exact old
  · by_cases e : j = i
    · subst e
      rw [at_i] at hne ⊢
      by_cases ex : x = j
      · subst ex; rw [at_i]
      · rw [at_o x ex]; exact hp g r x hx ex tx hne
    · rw [at_o j e] at hne ⊢
      have old := h.authP x j g r hx hj tx hne
      by_cases ex : x = i
      · subst ex
        rw [at_i, old]
        exact (hgrow.pr g r x (posP g r (by rw [← old]; exact hne) tx)).symm
      · rw [at_o x ex]; exact old
  · rcases hnet y hy with ho | ⟨n1, n2, n3⟩
    · obtain ⟨q1, q2, k, q3, q4, q5⟩ := h.net y ho
      refine ⟨q1, q2, k, q3, q4, fun tk => ?_⟩
      by_cases e : k = i
      · subst e; rw [at_i]; exact (q5 tk).grow hgrow
      · rw [at_o k e]; exact q5 tk
    · have hf := hmine y.2 n3
      refine ⟨n1, ?_, i, hi, hf, fun ti => ?_⟩
      · rw [hf]; intro e; exact n2 (by omega)
      · rw [at_i]; exact (hfit ti).2 y.2 n3

/-- What a node hears of one that is true, that one has said. -/
theorem Inv.hear {c : Cr} {liar : Int} (h : Inv c liar) {i : Nat} (hi : i < 4) (w : Wd) (l : List (Nat × Wd))
    (posW : ∀ g r, ((c.nd i).heard g).wi r i ≠ 0 → (i : Int) ≠ liar → 0 < ((c.nd i).heard g).wi r i) (posP : ∀ g r, ((c.nd i).heard g).pr r i ≠ 0 → (i : Int) ≠ liar → 0 < ((c.nd i).heard g).pr r i)
    (hf : (i : Int) ≠ liar → w.f ≠ i) (hs : w.f ≠ liar → ∃ k : Nat, k < 4 ∧ w.f = k ∧ Said k (c.nd k) w)
    (hnet : ∀ x, x ∈ l → x ∈ c.net ∨ (x.1 < 4 ∧ x.1 ≠ i ∧ x.2 ∈ (hearN i (c.nd i) w).words)) : Inv (c.put i (hearN i (c.nd i) w) l) liar := by
  have G0 : NG ((c.nd i).setSheet w.h.toNat (hearW ((c.nd i).heard w.h.toNat) w)) := by
    have G := h.good i hi
    refine ⟨G.round, G.height, fun g => ?_⟩
    simp only [Nd.setSheet]
    split
    · exact goodS_hear _ _ (G.sheets _)
    · exact G.sheets g
  obtain ⟨G1, S1⟩ := all_step (who := i) 455 ⟨(c.nd i).setSheet w.h.toNat (hearW ((c.nd i).heard w.h.toNat) w), []⟩ G0
  have g0 := grow_set (c.nd i) w.h.toNat w
  have set0 : Set ((c.nd i).setSheet w.h.toNat (hearW ((c.nd i).heard w.h.toNat) w)) := (h.set i hi).grow g0 rfl rfl
  refine h.put hi _ l (fun ti => ?_) G1 (set0.step S1) (g0.trans S1.grow) (mine_all 455 _ (fun _ hm => by cases hm)) posW posP (fun g r x hx hxi tx hne => ?_) (fun g r x hx hxi tx hne => ?_) hnet
  · obtain ⟨p1, p2, _⟩ := hear_fit hi (h.fit i hi ti) w (hf ti)
    exact ⟨p1, p2⟩
  · have e1 : ((hearN i (c.nd i) w).n.heard g).wi r x = (((c.nd i).setSheet w.h.toNat (hearW ((c.nd i).heard w.h.toNat) w)).heard g).wi r x := S1.wi g r x hxi
    rw [e1] at hne ⊢
    simp only [Nd.setSheet] at hne ⊢
    split at hne
    · rename_i eg
      rw [if_pos eg]
      by_cases hit : hitW w r x
      · rw [(hear_wi _ w r x).1 hit] at hne ⊢
        by_cases z : ((c.nd i).heard w.h.toNat).wi r x = 0
        · rw [if_pos z] at hne ⊢
          obtain ⟨gd, k2, er, ef⟩ := hit
          have bd := goodC_bds gd
          obtain ⟨k, hk, fk, sk⟩ := hs (by omega)
          have ek : k = x := by omega
          subst ek
          have := sk.wish k2
          rw [eg, er, this]; omega
        · rw [if_neg z] at hne ⊢
          rw [← eg] at hne ⊢
          exact h.authW x i g r hx hi tx hne
      · rw [(hear_wi _ w r x).2 hit] at hne ⊢
        rw [← eg] at hne ⊢
        exact h.authW x i g r hx hi tx hne
    · rename_i eg
      rw [if_neg eg]
      exact h.authW x i g r hx hi tx hne
  · have e1 : ((hearN i (c.nd i) w).n.heard g).pr r x = (((c.nd i).setSheet w.h.toNat (hearW ((c.nd i).heard w.h.toNat) w)).heard g).pr r x := S1.pr g r x hxi
    rw [e1] at hne ⊢
    simp only [Nd.setSheet] at hne ⊢
    split at hne
    · rename_i eg
      rw [if_pos eg]
      by_cases hit : hitP w r x
      · rw [(hear_pr _ w r x).1 hit] at hne ⊢
        by_cases z : ((c.nd i).heard w.h.toNat).pr r x = 0
        · rw [if_pos z] at hne ⊢
          obtain ⟨gd, k3, er, ef⟩ := hit
          have bd := goodC_bds gd
          obtain ⟨k, hk, fk, sk⟩ := hs (by omega)
          have ek : k = x := by omega
          subst ek
          have := sk.prom k3
          rw [eg, er, this]; omega
        · rw [if_neg z] at hne ⊢
          rw [← eg] at hne ⊢
          exact h.authP x i g r hx hi tx hne
      · rw [(hear_pr _ w r x).2 hit] at hne ⊢
        rw [← eg] at hne ⊢
        exact h.authP x i g r hx hi tx hne
    · rename_i eg
      rw [if_neg eg]
      exact h.authP x i g r hx hi tx hne
end Go.Proofs.Ytmmgaonlmpajbab
