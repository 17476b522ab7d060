/-
  Plain facts on sheets: who has spoken is not heard again; nothing is forgotten.
-/
import Derived.Test.YtcdagfiinneabaaRefHear3
import Derived.Test.YtcdagfiinneabaaVMeet
import Derived.Test.YtcdagfiinneabaaRefHeard
namespace Go.Proofs.Ytcdagfiinneabaa

theorem Sh.ext' {S T : Sh} (h1 : ∀ r, S.is r = T.is r) (h2 : ∀ r, S.val r = T.val r) (h3 : ∀ r, S.vld r = T.vld r) (h4 : ∀ r i, S.wi r i = T.wi r i) (h5 : ∀ r i, S.pr r i = T.pr r i) : S = T := by
  obtain ⟨a, b, c, d, e⟩ := S
  obtain ⟨a', b', c', d', e'⟩ := T
  congr 1
  · exact funext h1
  · exact funext h2
  · exact funext h3
  · exact funext fun r => funext (h4 r)
  · exact funext fun r => funext (h5 r)

/-- A word as six numbers. -/
structure Wd where
  k : Int
  f : Int
  h : Int
  r : Int
  v : Int
  x : Int
def Wd.good (a : Wd) : Prop := goodC a.k a.f a.h a.r a.v a.x = 0
def hearW (S : Sh) (a : Wd) : Sh := hearS S a.k a.f a.h a.r a.v a.x

theorem hear_bad (S : Sh) (a : Wd) (h : ¬ a.good) : hearW S a = S := by
  have h' : ¬ goodC a.k a.f a.h a.r a.v a.x = 0 := h
  unfold hearW hearS; rw [if_neg h']
theorem hear_call (S : Sh) (a : Wd) (h : a.good) (hk : a.k = 1) : hearW S a = if a.f = lead a.h a.r ∧ S.is a.r.toNat = false then S.setC a.r.toNat a.v a.x else S := by
  have h' : goodC a.k a.f a.h a.r a.v a.x = 0 := h
  unfold hearW hearS; rw [if_pos h', if_pos hk]
theorem hear_wish (S : Sh) (a : Wd) (h : a.good) (hk : a.k = 2) : hearW S a = if S.wi a.r.toNat a.f.toNat = 0 then S.setW a.r.toNat a.f.toNat (1 + a.v) else S := by
  have h' : goodC a.k a.f a.h a.r a.v a.x = 0 := h
  unfold hearW hearS; rw [if_pos h', if_neg (by omega), if_pos hk]
theorem hear_promise (S : Sh) (a : Wd) (h : a.good) (hk : a.k = 3) : hearW S a = if S.pr a.r.toNat a.f.toNat = 0 then S.setP a.r.toNat a.f.toNat (1 + a.v) else S := by
  have h' : goodC a.k a.f a.h a.r a.v a.x = 0 := h
  unfold hearW hearS; rw [if_pos h', if_neg (by omega), if_neg (by omega)]

theorem Wd.kinds {a : Wd} (h : a.good) : a.k = 1 ∨ a.k = 2 ∨ a.k = 3 := by
  have := goodC_bds h; omega

/-- Who has spoken is not heard again. -/
theorem hear_twice (S : Sh) (a b : Wd) (ga : a.good) (hk : a.k = b.k) (hf : a.f = b.f) (hh : a.h = b.h) (hr : a.r = b.r) : hearW (hearW S a) b = hearW S a := by
  by_cases gb : b.good
  · have ba := goodC_bds ga
    rcases Wd.kinds ga with h1 | h1 | h1
    · rw [hear_call _ a ga h1, hear_call _ b gb (hk ▸ h1), ← hf, ← hh, ← hr]
      by_cases c : a.f = lead a.h a.r ∧ S.is a.r.toNat = false
      · rw [if_pos c, if_neg (by simp [Sh.setC])]
      · rw [if_neg c, if_neg c]
    · rw [hear_wish _ a ga h1, hear_wish _ b gb (hk ▸ h1), ← hf, ← hr]
      by_cases c : S.wi a.r.toNat a.f.toNat = 0
      · rw [if_pos c, if_neg (by simp [Sh.setW]; omega)]
      · rw [if_neg c, if_neg c]
    · rw [hear_promise _ a ga h1, hear_promise _ b gb (hk ▸ h1), ← hf, ← hr]
      by_cases c : S.pr a.r.toNat a.f.toNat = 0
      · rw [if_pos c, if_neg (by simp [Sh.setP]; omega)]
      · rw [if_neg c, if_neg c]
  · rw [hear_bad _ b gb]

/-- What a word turns: the call of a round; a wish; a promise. -/
def hitC (a : Wd) (r : Nat) : Prop := a.good ∧ a.k = 1 ∧ a.f = lead a.h a.r ∧ r = a.r.toNat
def hitW (a : Wd) (r i : Nat) : Prop := a.good ∧ a.k = 2 ∧ r = a.r.toNat ∧ i = a.f.toNat
def hitP (a : Wd) (r i : Nat) : Prop := a.good ∧ a.k = 3 ∧ r = a.r.toNat ∧ i = a.f.toNat

theorem hear_wi (S : Sh) (a : Wd) (r i : Nat) : (hitW a r i → (hearW S a).wi r i = if S.wi r i = 0 then 1 + a.v else S.wi r i) ∧ (¬ hitW a r i → (hearW S a).wi r i = S.wi r i) := by
  by_cases ga : a.good
  · rcases Wd.kinds ga with h1 | h1 | h1
    · refine ⟨fun h => by have := h.2.1; omega, fun _ => ?_⟩
      rw [hear_call _ a ga h1]; split <;> rfl
    · rw [hear_wish _ a ga h1]
      constructor
      · rintro ⟨_, _, rfl, rfl⟩
        by_cases c : S.wi a.r.toNat a.f.toNat = 0
        · rw [if_pos c, if_pos c]; simp [Sh.setW]
        · rw [if_neg c, if_neg c]
      · intro h
        have hne : ¬ (r = a.r.toNat ∧ i = a.f.toNat) := fun e => h ⟨ga, h1, e.1, e.2⟩
        split
        · simp only [Sh.setW]; rw [if_neg hne]
        · rfl
    · refine ⟨fun h => by have := h.2.1; omega, fun _ => ?_⟩
      rw [hear_promise _ a ga h1]; split <;> rfl
  · rw [hear_bad _ a ga]
    exact ⟨fun h => absurd h.1 ga, fun _ => rfl⟩

theorem hear_pr (S : Sh) (a : Wd) (r i : Nat) : (hitP a r i → (hearW S a).pr r i = if S.pr r i = 0 then 1 + a.v else S.pr r i) ∧ (¬ hitP a r i → (hearW S a).pr r i = S.pr r i) := by
  by_cases ga : a.good
  · rcases Wd.kinds ga with h1 | h1 | h1
    · refine ⟨fun h => by have := h.2.1; omega, fun _ => ?_⟩
      rw [hear_call _ a ga h1]; split <;> rfl
    · refine ⟨fun h => by have := h.2.1; omega, fun _ => ?_⟩
      rw [hear_wish _ a ga h1]; split <;> rfl
    · rw [hear_promise _ a ga h1]
      constructor
      · rintro ⟨_, _, rfl, rfl⟩
        by_cases c : S.pr a.r.toNat a.f.toNat = 0
        · rw [if_pos c, if_pos c]; simp [Sh.setP]
        · rw [if_neg c, if_neg c]
      · intro h
        have hne : ¬ (r = a.r.toNat ∧ i = a.f.toNat) := fun e => h ⟨ga, h1, e.1, e.2⟩
        split
        · simp only [Sh.setP]; rw [if_neg hne]
        · rfl
  · rw [hear_bad _ a ga]
    exact ⟨fun h => absurd h.1 ga, fun _ => rfl⟩

theorem hear_c (S : Sh) (a : Wd) (r : Nat) :
    (hitC a r → (hearW S a).is r = true ∧ (hearW S a).val r = (if S.is r = false then a.v else S.val r) ∧ (hearW S a).vld r = (if S.is r = false then a.x else S.vld r)) ∧
    (¬ hitC a r → (hearW S a).is r = S.is r ∧ (hearW S a).val r = S.val r ∧ (hearW S a).vld r = S.vld r) := by
  by_cases ga : a.good
  · rcases Wd.kinds ga with h1 | h1 | h1
    · rw [hear_call _ a ga h1]
      constructor
      · rintro ⟨_, _, hl, rfl⟩
        by_cases c : S.is a.r.toNat = false
        · rw [if_pos ⟨hl, c⟩, if_pos c, if_pos c]; simp [Sh.setC]
        · rw [if_neg (fun e => c e.2), if_neg c, if_neg c]; simpa using c
      · intro h
        by_cases c : a.f = lead a.h a.r ∧ S.is a.r.toNat = false
        · have hne : ¬ r = a.r.toNat := fun e => h ⟨ga, h1, c.1, e⟩
          rw [if_pos c]
          simp only [Sh.setC]
          rw [if_neg hne, if_neg hne, if_neg hne]
          exact ⟨rfl, rfl, rfl⟩
        · rw [if_neg c]; exact ⟨rfl, rfl, rfl⟩
    · refine ⟨fun h => by have := h.2.1; omega, fun _ => ?_⟩
      rw [hear_wish _ a ga h1]; split <;> exact ⟨rfl, rfl, rfl⟩
    · refine ⟨fun h => by have := h.2.1; omega, fun _ => ?_⟩
      rw [hear_promise _ a ga h1]; split <;> exact ⟨rfl, rfl, rfl⟩
  · rw [hear_bad _ a ga]
    exact ⟨fun h => absurd h.1 ga, fun _ => ⟨rfl, rfl, rfl⟩⟩

/-- Of two words of others it does not matter which is heard first. -/
theorem hear_comm (S : Sh) (a b : Wd) (hh : a.h = b.h) (hne : ¬ (a.k = b.k ∧ a.f = b.f ∧ a.r = b.r)) : hearW (hearW S a) b = hearW (hearW S b) a := by
  have nW : ∀ r i, ¬ (hitW a r i ∧ hitW b r i) := by
    rintro r i ⟨⟨ga, ka, ra, fa⟩, ⟨gb, kb, rb, fb⟩⟩
    have ba := goodC_bds ga
    have bb := goodC_bds gb
    exact hne ⟨by omega, by omega, by omega⟩
  have nP : ∀ r i, ¬ (hitP a r i ∧ hitP b r i) := by
    rintro r i ⟨⟨ga, ka, ra, fa⟩, ⟨gb, kb, rb, fb⟩⟩
    have ba := goodC_bds ga
    have bb := goodC_bds gb
    exact hne ⟨by omega, by omega, by omega⟩
  have nC : ∀ r, ¬ (hitC a r ∧ hitC b r) := by
    rintro r ⟨⟨ga, ka, la, ra⟩, ⟨gb, kb, lb, rb⟩⟩
    have ba := goodC_bds ga
    have bb := goodC_bds gb
    have er : a.r = b.r := by omega
    exact hne ⟨by omega, by rw [la, lb, hh, er], er⟩
  have hC : ∀ r, (hearW (hearW S a) b).is r = (hearW (hearW S b) a).is r ∧ (hearW (hearW S a) b).val r = (hearW (hearW S b) a).val r ∧ (hearW (hearW S a) b).vld r = (hearW (hearW S b) a).vld r := by
    intro r
    by_cases ha : hitC a r
    · have hb : ¬ hitC b r := fun hb => nC r ⟨ha, hb⟩
      obtain ⟨p1, p2, p3⟩ := (hear_c (hearW S a) b r).2 hb
      obtain ⟨q1, q2, q3⟩ := (hear_c S a r).1 ha
      obtain ⟨s1, s2, s3⟩ := (hear_c (hearW S b) a r).1 ha
      obtain ⟨t1, t2, t3⟩ := (hear_c S b r).2 hb
      rw [p1, p2, p3, q1, q2, q3, s1, s2, s3, t1, t2, t3]
      exact ⟨rfl, rfl, rfl⟩
    · obtain ⟨q1, q2, q3⟩ := (hear_c S a r).2 ha
      obtain ⟨s1, s2, s3⟩ := (hear_c (hearW S b) a r).2 ha
      by_cases hb : hitC b r
      · obtain ⟨p1, p2, p3⟩ := (hear_c (hearW S a) b r).1 hb
        obtain ⟨t1, t2, t3⟩ := (hear_c S b r).1 hb
        rw [p1, p2, p3, s1, s2, s3, t1, t2, t3, q1, q2, q3]
        exact ⟨rfl, rfl, rfl⟩
      · obtain ⟨p1, p2, p3⟩ := (hear_c (hearW S a) b r).2 hb
        obtain ⟨t1, t2, t3⟩ := (hear_c S b r).2 hb
        rw [p1, p2, p3, s1, s2, s3, t1, t2, t3, q1, q2, q3]
        exact ⟨rfl, rfl, rfl⟩
  refine Sh.ext' (fun r => (hC r).1) (fun r => (hC r).2.1) (fun r => (hC r).2.2) ?_ ?_
  · intro r i
    by_cases ha : hitW a r i
    · have hb : ¬ hitW b r i := fun hb => nW r i ⟨ha, hb⟩
      rw [(hear_wi (hearW S a) b r i).2 hb, (hear_wi S a r i).1 ha, (hear_wi (hearW S b) a r i).1 ha, (hear_wi S b r i).2 hb]
    · rw [(hear_wi (hearW S b) a r i).2 ha]
      by_cases hb : hitW b r i
      · rw [(hear_wi (hearW S a) b r i).1 hb, (hear_wi S a r i).2 ha, (hear_wi S b r i).1 hb]
      · rw [(hear_wi (hearW S a) b r i).2 hb, (hear_wi S a r i).2 ha, (hear_wi S b r i).2 hb]
  · intro r i
    by_cases ha : hitP a r i
    · have hb : ¬ hitP b r i := fun hb => nP r i ⟨ha, hb⟩
      rw [(hear_pr (hearW S a) b r i).2 hb, (hear_pr S a r i).1 ha, (hear_pr (hearW S b) a r i).1 ha, (hear_pr S b r i).2 hb]
    · rw [(hear_pr (hearW S b) a r i).2 ha]
      by_cases hb : hitP b r i
      · rw [(hear_pr (hearW S a) b r i).1 hb, (hear_pr S a r i).2 ha, (hear_pr S b r i).1 hb]
      · rw [(hear_pr (hearW S a) b r i).2 hb, (hear_pr S a r i).2 ha, (hear_pr S b r i).2 hb]

theorem wi_mono (S : Sh) (a : Wd) (r i : Nat) (h : 0 < S.wi r i) : (hearW S a).wi r i = S.wi r i := by
  by_cases ha : hitW a r i
  · rw [(hear_wi S a r i).1 ha, if_neg (by omega)]
  · exact (hear_wi S a r i).2 ha
theorem pr_mono (S : Sh) (a : Wd) (r i : Nat) (h : 0 < S.pr r i) : (hearW S a).pr r i = S.pr r i := by
  by_cases ha : hitP a r i
  · rw [(hear_pr S a r i).1 ha, if_neg (by omega)]
  · exact (hear_pr S a r i).2 ha

theorem heardTo_mono (S : Sh) (a : Wd) (r n : Nat) : heardTo S r n ≤ heardTo (hearW S a) r n := by
  induction n with
  | zero => simp [heardTo]
  | succ n ih =>
    simp only [heardTo]
    have : cnt S r n ≤ cnt (hearW S a) r n := by
      unfold cnt
      by_cases h : 0 < S.wi r n ∨ 0 < S.pr r n
      · have h' : 0 < (hearW S a).wi r n ∨ 0 < (hearW S a).pr r n := by
          rcases h with h | h
          · exact Or.inl (by rw [wi_mono S a r n h]; exact h)
          · exact Or.inr (by rw [pr_mono S a r n h]; exact h)
        rw [if_pos h, if_pos h']; omega
      · rw [if_neg h]; split <;> omega
    omega
/-- Nothing is forgotten. -/
theorem heardN_mono (S : Sh) (a : Wd) (r : Int) : heardN S r ≤ heardN (hearW S a) r := by
  unfold heardN
  split
  · exact heardTo_mono S a r.toNat 4
  · omega
theorem allTo_mono (S : Sh) (a : Wd) (r n : Nat) : cntTo (S.wi r) (fun _ => true) n ≤ cntTo ((hearW S a).wi r) (fun _ => true) n := by
  induction n with
  | zero => simp [cntTo]
  | succ n ih =>
    simp only [cntTo]
    by_cases h : 1 ≤ S.wi r n
    · have h' : 1 ≤ (hearW S a).wi r n := by rw [wi_mono S a r n (by omega)]; exact h
      rw [if_pos ⟨h, trivial⟩, if_pos ⟨h', trivial⟩]; omega
    · rw [if_neg (fun e => h e.1)]; split <;> omega
theorem allV_mono (S : Sh) (a : Wd) (r : Nat) : allV (S.wi r) ≤ allV ((hearW S a).wi r) := allTo_mono S a r 4

theorem okVotes_iff (S : Sh) (r : Nat) : ∀ n, okVotes S r n = true ↔ ∀ i, i < n → okVote S r i = true
  | 0 => by simp [okVotes]
  | n + 1 => by
    simp only [okVotes, Bool.and_eq_true, okVotes_iff S r n]
    constructor
    · rintro ⟨h1, h2⟩ i hi
      by_cases e : i = n
      · subst e; exact h2
      · exact h1 i (by omega)
    · exact fun h => ⟨fun i hi => h i (by omega), h n (by omega)⟩
theorem okTo_iff (S : Sh) : ∀ n, okTo S n = true ↔ ∀ r, r < n → okCall S r = true ∧ okVotes S r 4 = true
  | 0 => by simp [okTo]
  | n + 1 => by
    simp only [okTo, Bool.and_eq_true, okTo_iff S n]
    constructor
    · rintro ⟨⟨h1, h2⟩, h3⟩ i hi
      by_cases e : i = n
      · subst e; exact ⟨h2, h3⟩
      · exact h1 i (by omega)
    · exact fun h => ⟨⟨fun i hi => h i (by omega), (h n (by omega)).1⟩, (h n (by omega)).2⟩
theorem goodS_iff (S : Sh) : goodS S = true ↔ ∀ r, r < 6 → okCall S r = true ∧ ∀ i, i < 4 → okVote S r i = true := by
  unfold goodS
  rw [okTo_iff]
  constructor
  · exact fun h r hr => ⟨(h r hr).1, (okVotes_iff S r 4).1 (h r hr).2⟩
  · exact fun h r hr => ⟨(h r hr).1, (okVotes_iff S r 4).2 (h r hr).2⟩

/-- A good one stays good. -/
theorem goodS_hear (S : Sh) (a : Wd) (h : goodS S = true) : goodS (hearW S a) = true := by
  rw [goodS_iff] at h ⊢
  intro r hr
  obtain ⟨hc, hv⟩ := h r hr
  constructor
  · by_cases ha : hitC a r
    · obtain ⟨p1, p2, p3⟩ := (hear_c S a r).1 ha
      cases hi : S.is r
      · rw [hi, if_pos rfl] at p2 p3
        obtain ⟨ga, ka, _, er⟩ := ha
        have g : goodC a.k a.f a.h a.r a.v a.x = 0 := ga
        have bd := goodC_bds g
        have hin : inb a.k a.f a.h a.r a.v a.x = true := by
          unfold goodC at g
          split at g
          · omega
          · split at g
            · omega
            · rename_i h2; simpa using h2
        simp [inb, ka, win] at hin
        unfold okCall
        rw [p1, if_pos rfl, p2, p3]
        simp [win]
        omega
      · rw [hi, if_neg (by simp)] at p2 p3
        unfold okCall at hc ⊢
        rw [p1, p2, p3]
        rw [hi] at hc
        exact hc
    · obtain ⟨p1, p2, p3⟩ := (hear_c S a r).2 ha
      unfold okCall at hc ⊢
      rw [p1, p2, p3]; exact hc
  · intro i hi
    have hok := hv i hi
    simp only [okVote, win, Bool.and_eq_true, decide_eq_true_eq] at hok ⊢
    constructor
    · by_cases ha : hitW a r i
      · rw [(hear_wi S a r i).1 ha]
        have bd := goodC_bds ha.1
        split <;> omega
      · rw [(hear_wi S a r i).2 ha]; exact hok.1
    · by_cases ha : hitP a r i
      · rw [(hear_pr S a r i).1 ha]
        have bd := goodC_bds ha.1
        split <;> omega
      · rw [(hear_pr S a r i).2 ha]; exact hok.2
end Go.Proofs.Ytcdagfiinneabaa
