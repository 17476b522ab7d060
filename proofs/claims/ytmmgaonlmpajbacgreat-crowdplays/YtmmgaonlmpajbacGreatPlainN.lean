/-
  Plain facts on sheets: who has spoken is not heard again; nothing is forgotten.
  A node as plain numbers: what it says, what follows, after chapter 3 of the document.
  Those that are true agree: of plain nodes, whatever the fourth one says.
  Whatever follows, a node that is true stays so: of plain nodes, step by step.
  What a node that is true has said stands on its own sheet, and stays there: of plain nodes.
  What follows comes to its end; and what a plain node does with a word, a value, and time.
  What chapter 3 calls a good node, as plain numbers; whatever follows keeps it so, and comes to its end.
-/
import Derived.Test.YtmmgaonlmpajbacGreatHears
import Derived.Test.YtmmgaonlmpajbacGreatBase
namespace Go.Proofs.YtmmgaonlmpajbacGreat

theorem Sh.ext' {S T : Sh} (h1 : ∀ r, S.is r = T.is r) (h2 : ∀ r, S.val r = T.val r) (h3 : ∀ r, S.vld r = T.vld r) (h4 : ∀ r i, S.wi r i = T.wi r i) (h5 : ∀ r i, S.pr r i = T.pr r i) : S = T := by
  obtain ⟨a, b, c, d, e⟩ := S
  obtain ⟨a', b', c', d', e'⟩ := T
  congr 1
  · exact funext h1
  · exact funext h2
  · exact funext h3
  · exact funext fun r => funext (h4 r)
  · exact funext fun r => funext (h5 r)

/-- A word as six numbers. -/
structure Wd where
  k : Int
  f : Int
  h : Int
  r : Int
  v : Int
  x : Int
def Wd.good (a : Wd) : Prop := goodC a.k a.f a.h a.r a.v a.x = 0
def hearW (S : Sh) (a : Wd) : Sh := hearS S a.k a.f a.h a.r a.v a.x

theorem hear_bad (S : Sh) (a : Wd) (h : ¬ a.good) : hearW S a = S := by
  have h' : ¬ goodC a.k a.f a.h a.r a.v a.x = 0 := h
  unfold hearW hearS; rw [if_neg h']
theorem hear_call (S : Sh) (a : Wd) (h : a.good) (hk : a.k = 1) : hearW S a = if a.f = lead a.h a.r ∧ S.is a.r.toNat = false then S.setC a.r.toNat a.v a.x else S := by
  have h' : goodC a.k a.f a.h a.r a.v a.x = 0 := h
  unfold hearW hearS; rw [if_pos h', if_pos hk]
theorem hear_wish (S : Sh) (a : Wd) (h : a.good) (hk : a.k = 2) : hearW S a = if S.wi a.r.toNat a.f.toNat = 0 then S.setW a.r.toNat a.f.toNat (1 + a.v) else S := by
  have h' : goodC a.k a.f a.h a.r a.v a.x = 0 := h
  unfold hearW hearS; rw [if_pos h', if_neg (by omega), if_pos hk]
theorem hear_promise (S : Sh) (a : Wd) (h : a.good) (hk : a.k = 3) : hearW S a = if S.pr a.r.toNat a.f.toNat = 0 then S.setP a.r.toNat a.f.toNat (1 + a.v) else S := by
  have h' : goodC a.k a.f a.h a.r a.v a.x = 0 := h
  unfold hearW hearS; rw [if_pos h', if_neg (by omega), if_neg (by omega)]

theorem Wd.kinds {a : Wd} (h : a.good) : a.k = 1 ∨ a.k = 2 ∨ a.k = 3 := by
  have := goodC_bds h; omega

/-- Who has spoken is not heard again. -/
theorem hear_twice (S : Sh) (a b : Wd) (ga : a.good) (hk : a.k = b.k) (hf : a.f = b.f) (hh : a.h = b.h) (hr : a.r = b.r) : hearW (hearW S a) b = hearW S a := by
  by_cases gb : b.good
  · have ba := goodC_bds ga
    rcases Wd.kinds ga with h1 | h1 | h1
    · rw [hear_call _ a ga h1, hear_call _ b gb (hk ▸ h1), ← hf, ← hh, ← hr]
      by_cases c : a.f = lead a.h a.r ∧ S.is a.r.toNat = false
      · rw [if_pos c, if_neg (by simp [Sh.setC])]
      · rw [if_neg c, if_neg c]
    · rw [hear_wish _ a ga h1, hear_wish _ b gb (hk ▸ h1), ← hf, ← hr]
      by_cases c : S.wi a.r.toNat a.f.toNat = 0
      · rw [if_pos c, if_neg (by simp [Sh.setW]; omega)]
      · rw [if_neg c, if_neg c]
    · rw [hear_promise _ a ga h1, hear_promise _ b gb (hk ▸ h1), ← hf, ← hr]
      by_cases c : S.pr a.r.toNat a.f.toNat = 0
      · rw [if_pos c, if_neg (by simp [Sh.setP]; omega)]
      · rw [if_neg c, if_neg c]
  · rw [hear_bad _ b gb]

/-- What a word turns: the call of a round; a wish; a promise. -/
def hitC (a : Wd) (r : Nat) : Prop := a.good ∧ a.k = 1 ∧ a.f = lead a.h a.r ∧ r = a.r.toNat
def hitW (a : Wd) (r i : Nat) : Prop := a.good ∧ a.k = 2 ∧ r = a.r.toNat ∧ i = a.f.toNat
def hitP (a : Wd) (r i : Nat) : Prop := a.good ∧ a.k = 3 ∧ r = a.r.toNat ∧ i = a.f.toNat

theorem hear_wi (S : Sh) (a : Wd) (r i : Nat) : (hitW a r i → (hearW S a).wi r i = if S.wi r i = 0 then 1 + a.v else S.wi r i) ∧ (¬ hitW a r i → (hearW S a).wi r i = S.wi r i) := by
  by_cases ga : a.good
  · rcases Wd.kinds ga with h1 | h1 | h1
    · refine ⟨fun h => by have := h.2.1; omega, fun _ => ?_⟩
      rw [hear_call _ a ga h1]; split <;> rfl
    · rw [hear_wish _ a ga h1]
      constructor
      · rintro ⟨_, _, rfl, rfl⟩
        by_cases c : S.wi a.r.toNat a.f.toNat = 0
        · rw [if_pos c, if_pos c]; simp [Sh.setW]
        · rw [if_neg c, if_neg c]
      · intro h
        have hne : ¬ (r = a.r.toNat ∧ i = a.f.toNat) := fun e => h ⟨ga, h1, e.1, e.2⟩
        split
        · simp only [Sh.setW]; rw [if_neg hne]
        · rfl
    · refine ⟨fun h => by have := h.2.1; omega, fun _ => ?_⟩
      rw [hear_promise _ a ga h1]; split <;> rfl
  · rw [hear_bad _ a ga]
    exact ⟨fun h => absurd h.1 ga, fun _ => rfl⟩

theorem hear_pr (S : Sh) (a : Wd) (r i : Nat) : (hitP a r i → (hearW S a).pr r i = if S.pr r i = 0 then 1 + a.v else S.pr r i) ∧ (¬ hitP a r i → (hearW S a).pr r i = S.pr r i) := by
  by_cases ga : a.good
  · rcases Wd.kinds ga with h1 | h1 | h1
    · refine ⟨fun h => by have := h.2.1; omega, fun _ => ?_⟩
      rw [hear_call _ a ga h1]; split <;> rfl
    · refine ⟨fun h => by have := h.2.1; omega, fun _ => ?_⟩
      rw [hear_wish _ a ga h1]; split <;> rfl
    · rw [hear_promise _ a ga h1]
      constructor
      · rintro ⟨_, _, rfl, rfl⟩
        by_cases c : S.pr a.r.toNat a.f.toNat = 0
        · rw [if_pos c, if_pos c]; simp [Sh.setP]
        · rw [if_neg c, if_neg c]
      · intro h
        have hne : ¬ (r = a.r.toNat ∧ i = a.f.toNat) := fun e => h ⟨ga, h1, e.1, e.2⟩
        split
        · simp only [Sh.setP]; rw [if_neg hne]
        · rfl
  · rw [hear_bad _ a ga]
    exact ⟨fun h => absurd h.1 ga, fun _ => rfl⟩

theorem hear_c (S : Sh) (a : Wd) (r : Nat) :
    (hitC a r → (hearW S a).is r = true ∧ (hearW S a).val r = (if S.is r = false then a.v else S.val r) ∧ (hearW S a).vld r = (if S.is r = false then a.x else S.vld r)) ∧
    (¬ hitC a r → (hearW S a).is r = S.is r ∧ (hearW S a).val r = S.val r ∧ (hearW S a).vld r = S.vld r) := by
  by_cases ga : a.good
  · rcases Wd.kinds ga with h1 | h1 | h1
    · rw [hear_call _ a ga h1]
      constructor
      · rintro ⟨_, _, hl, rfl⟩
        by_cases c : S.is a.r.toNat = false
        · rw [if_pos ⟨hl, c⟩, if_pos c, if_pos c]; simp [Sh.setC]
        · rw [if_neg (fun e => c e.2), if_neg c, if_neg c]; simpa using c
      · intro h
        by_cases c : a.f = lead a.h a.r ∧ S.is a.r.toNat = false
        · have hne : ¬ r = a.r.toNat := fun e => h ⟨ga, h1, c.1, e⟩
          rw [if_pos c]
          simp only [Sh.setC]
          rw [if_neg hne, if_neg hne, if_neg hne]
          exact ⟨rfl, rfl, rfl⟩
        · rw [if_neg c]; exact ⟨rfl, rfl, rfl⟩
    · refine ⟨fun h => by have := h.2.1; omega, fun _ => ?_⟩
      rw [hear_wish _ a ga h1]; split <;> exact ⟨rfl, rfl, rfl⟩
    · refine ⟨fun h => by have := h.2.1; omega, fun _ => ?_⟩
      rw [hear_promise _ a ga h1]; split <;> exact ⟨rfl, rfl, rfl⟩
  · rw [hear_bad _ a ga]
    exact ⟨fun h => absurd h.1 ga, fun _ => ⟨rfl, rfl, rfl⟩⟩

/-- Of two words of others it does not matter which is heard first. -/
theorem hear_comm (S : Sh) (a b : Wd) (hh : a.h = b.h) (hne : ¬ (a.k = b.k ∧ a.f = b.f ∧ a.r = b.r)) : hearW (hearW S a) b = hearW (hearW S b) a := by
  have nW : ∀ r i, ¬ (hitW a r i ∧ hitW b r i) := by
    rintro r i ⟨⟨ga, ka, ra, fa⟩, ⟨gb, kb, rb, fb⟩⟩
    have ba := goodC_bds ga
    have bb := goodC_bds gb
    exact hne ⟨by omega, by omega, by omega⟩
  have nP : ∀ r i, ¬ (hitP a r i ∧ hitP b r i) := by
    rintro r i ⟨⟨ga, ka, ra, fa⟩, ⟨gb, kb, rb, fb⟩⟩
    have ba := goodC_bds ga
    have bb := goodC_bds gb
    exact hne ⟨by omega, by omega, by omega⟩
  have nC : ∀ r, ¬ (hitC a r ∧ hitC b r) := by
    rintro r ⟨⟨ga, ka, la, ra⟩, ⟨gb, kb, lb, rb⟩⟩
    have ba := goodC_bds ga
    have bb := goodC_bds gb
    have er : a.r = b.r := by omega
    exact hne ⟨by omega, by rw [la, lb, hh, er], er⟩
  have hC : ∀ r, (hearW (hearW S a) b).is r = (hearW (hearW S b) a).is r ∧ (hearW (hearW S a) b).val r = (hearW (hearW S b) a).val r ∧ (hearW (hearW S a) b).vld r = (hearW (hearW S b) a).vld r := by
    intro r
    by_cases ha : hitC a r
    · have hb : ¬ hitC b r := fun hb => nC r ⟨ha, hb⟩
      obtain ⟨p1, p2, p3⟩ := (hear_c (hearW S a) b r).2 hb
      obtain ⟨q1, q2, q3⟩ := (hear_c S a r).1 ha
      obtain ⟨s1, s2, s3⟩ := (hear_c (hearW S b) a r).1 ha
      obtain ⟨t1, t2, t3⟩ := (hear_c S b r).2 hb
      rw [p1, p2, p3, q1, q2, q3, s1, s2, s3, t1, t2, t3]
      exact ⟨rfl, rfl, rfl⟩
    · obtain ⟨q1, q2, q3⟩ := (hear_c S a r).2 ha
      obtain ⟨s1, s2, s3⟩ := (hear_c (hearW S b) a r).2 ha
      by_cases hb : hitC b r
      · obtain ⟨p1, p2, p3⟩ := (hear_c (hearW S a) b r).1 hb
        obtain ⟨t1, t2, t3⟩ := (hear_c S b r).1 hb
        rw [p1, p2, p3, s1, s2, s3, t1, t2, t3, q1, q2, q3]
        exact ⟨rfl, rfl, rfl⟩
      · obtain ⟨p1, p2, p3⟩ := (hear_c (hearW S a) b r).2 hb
        obtain ⟨t1, t2, t3⟩ := (hear_c S b r).2 hb
        rw [p1, p2, p3, s1, s2, s3, t1, t2, t3, q1, q2, q3]
        exact ⟨rfl, rfl, rfl⟩
  refine Sh.ext' (fun r => (hC r).1) (fun r => (hC r).2.1) (fun r => (hC r).2.2) ?_ ?_
  · intro r i
    by_cases ha : hitW a r i
    · have hb : ¬ hitW b r i := fun hb => nW r i ⟨ha, hb⟩
      rw [(hear_wi (hearW S a) b r i).2 hb, (hear_wi S a r i).1 ha, (hear_wi (hearW S b) a r i).1 ha, (hear_wi S b r i).2 hb]
    · rw [(hear_wi (hearW S b) a r i).2 ha]
      by_cases hb : hitW b r i
      · rw [(hear_wi (hearW S a) b r i).1 hb, (hear_wi S a r i).2 ha, (hear_wi S b r i).1 hb]
      · rw [(hear_wi (hearW S a) b r i).2 hb, (hear_wi S a r i).2 ha, (hear_wi S b r i).2 hb]
  · intro r i
    by_cases ha : hitP a r i
    · have hb : ¬ hitP b r i := fun hb => nP r i ⟨ha, hb⟩
      rw [(hear_pr (hearW S a) b r i).2 hb, (hear_pr S a r i).1 ha, (hear_pr (hearW S b) a r i).1 ha, (hear_pr S b r i).2 hb]
    · rw [(hear_pr (hearW S b) a r i).2 ha]
      by_cases hb : hitP b r i
      · rw [(hear_pr (hearW S a) b r i).1 hb, (hear_pr S a r i).2 ha, (hear_pr S b r i).1 hb]
      · rw [(hear_pr (hearW S a) b r i).2 hb, (hear_pr S a r i).2 ha, (hear_pr S b r i).2 hb]

theorem wi_mono (S : Sh) (a : Wd) (r i : Nat) (h : 0 < S.wi r i) : (hearW S a).wi r i = S.wi r i := by
  by_cases ha : hitW a r i
  · rw [(hear_wi S a r i).1 ha, if_neg (by omega)]
  · exact (hear_wi S a r i).2 ha
theorem pr_mono (S : Sh) (a : Wd) (r i : Nat) (h : 0 < S.pr r i) : (hearW S a).pr r i = S.pr r i := by
  by_cases ha : hitP a r i
  · rw [(hear_pr S a r i).1 ha, if_neg (by omega)]
  · exact (hear_pr S a r i).2 ha

theorem heardTo_mono (S : Sh) (a : Wd) (r n : Nat) : heardTo S r n ≤ heardTo (hearW S a) r n := by
  induction n with
  | zero => simp [heardTo]
  | succ n ih =>
    simp only [heardTo]
    have : cnt S r n ≤ cnt (hearW S a) r n := by
      unfold cnt
      by_cases h : 0 < S.wi r n ∨ 0 < S.pr r n
      · have h' : 0 < (hearW S a).wi r n ∨ 0 < (hearW S a).pr r n := by
          rcases h with h | h
          · exact Or.inl (by rw [wi_mono S a r n h]; exact h)
          · exact Or.inr (by rw [pr_mono S a r n h]; exact h)
        rw [if_pos h, if_pos h']; omega
      · rw [if_neg h]; split <;> omega
    omega
/-- Nothing is forgotten. -/
theorem heardN_mono (S : Sh) (a : Wd) (r : Int) : heardN S r ≤ heardN (hearW S a) r := by
  unfold heardN
  split
  · exact heardTo_mono S a r.toNat 4
  · omega
theorem allTo_mono (S : Sh) (a : Wd) (r n : Nat) : cntTo (S.wi r) (fun _ => true) n ≤ cntTo ((hearW S a).wi r) (fun _ => true) n := by
  induction n with
  | zero => simp [cntTo]
  | succ n ih =>
    simp only [cntTo]
    by_cases h : 1 ≤ S.wi r n
    · have h' : 1 ≤ (hearW S a).wi r n := by rw [wi_mono S a r n (by omega)]; exact h
      rw [if_pos ⟨h, trivial⟩, if_pos ⟨h', trivial⟩]; omega
    · rw [if_neg (fun e => h e.1)]; split <;> omega
theorem allV_mono (S : Sh) (a : Wd) (r : Nat) : allV (S.wi r) ≤ allV ((hearW S a).wi r) := allTo_mono S a r 4

theorem okVotes_iff (S : Sh) (r : Nat) : ∀ n, okVotes S r n = true ↔ ∀ i, i < n → okVote S r i = true
  | 0 => by simp [okVotes]
  | n + 1 => by
    simp only [okVotes, Bool.and_eq_true, okVotes_iff S r n]
    constructor
    · rintro ⟨h1, h2⟩ i hi
      by_cases e : i = n
      · subst e; exact h2
      · exact h1 i (by omega)
    · exact fun h => ⟨fun i hi => h i (by omega), h n (by omega)⟩
theorem okTo_iff (S : Sh) : ∀ n, okTo S n = true ↔ ∀ r, r < n → okCall S r = true ∧ okVotes S r 4 = true
  | 0 => by simp [okTo]
  | n + 1 => by
    simp only [okTo, Bool.and_eq_true, okTo_iff S n]
    constructor
    · rintro ⟨⟨h1, h2⟩, h3⟩ i hi
      by_cases e : i = n
      · subst e; exact ⟨h2, h3⟩
      · exact h1 i (by omega)
    · exact fun h => ⟨⟨fun i hi => h i (by omega), (h n (by omega)).1⟩, (h n (by omega)).2⟩
theorem goodS_iff (S : Sh) : goodS S = true ↔ ∀ r, r < 6 → okCall S r = true ∧ ∀ i, i < 4 → okVote S r i = true := by
  unfold goodS
  rw [okTo_iff]
  constructor
  · exact fun h r hr => ⟨(h r hr).1, (okVotes_iff S r 4).1 (h r hr).2⟩
  · exact fun h r hr => ⟨(h r hr).1, (okVotes_iff S r 4).2 (h r hr).2⟩

/-- A good one stays good. -/
theorem goodS_hear (S : Sh) (a : Wd) (h : goodS S = true) : goodS (hearW S a) = true := by
  rw [goodS_iff] at h ⊢
  intro r hr
  obtain ⟨hc, hv⟩ := h r hr
  constructor
  · by_cases ha : hitC a r
    · obtain ⟨p1, p2, p3⟩ := (hear_c S a r).1 ha
      cases hi : S.is r
      · rw [hi, if_pos rfl] at p2 p3
        obtain ⟨ga, ka, _, er⟩ := ha
        have g : goodC a.k a.f a.h a.r a.v a.x = 0 := ga
        have bd := goodC_bds g
        have hin : inb a.k a.f a.h a.r a.v a.x = true := by
          unfold goodC at g
          split at g
          · omega
          · split at g
            · omega
            · rename_i h2; simpa using h2
        simp [inb, ka, win] at hin
        unfold okCall
        rw [p1, if_pos rfl, p2, p3]
        simp [win]
        omega
      · rw [hi, if_neg (by simp)] at p2 p3
        unfold okCall at hc ⊢
        rw [p1, p2, p3]
        rw [hi] at hc
        exact hc
    · obtain ⟨p1, p2, p3⟩ := (hear_c S a r).2 ha
      unfold okCall at hc ⊢
      rw [p1, p2, p3]; exact hc
  · intro i hi
    have hok := hv i hi
    simp only [okVote, win, Bool.and_eq_true, decide_eq_true_eq] at hok ⊢
    constructor
    · by_cases ha : hitW a r i
      · rw [(hear_wi S a r i).1 ha]
        have bd := goodC_bds ha.1
        split <;> omega
      · rw [(hear_wi S a r i).2 ha]; exact hok.1
    · by_cases ha : hitP a r i
      · rw [(hear_pr S a r i).1 ha]
        have bd := goodC_bds ha.1
        split <;> omega
      · rw [(hear_pr S a r i).2 ha]; exact hok.2
end Go.Proofs.YtmmgaonlmpajbacGreat
namespace Go.Proofs.YtmmgaonlmpajbacGreat

/-- A node: where it is, what binds it, what it has heard, height by height. -/
structure Nd where
  height : Nat
  round : Nat
  step : Nat
  bound : Int
  boundIn : Int
  valid : Int
  validIn : Int
  seen : Nat → Bool
  heard : Nat → Sh
  settled : Nat → Int
  queue : List Int

/-- A node at work, and what it has said. -/
structure At where
  n : Nd
  words : List Wd

def Nd.sheet (n : Nd) : Sh := n.heard n.height
def Nd.setSheet (n : Nd) (h : Nat) (S : Sh) : Nd := { n with heard := fun g => if g = h then S else n.heard g }

/-- The word that a node says: P3.2. -/
def sayW (who : Nat) (n : Nd) (kind value valid : Int) : Wd := ⟨kind, who, n.height, n.round, value, valid⟩
def tell (who : Nat) (a : At) (kind value valid : Int) : At :=
  ⟨a.n.setSheet a.n.height (hearW a.n.sheet (sayW who a.n kind value valid)), a.words ++ [sayW who a.n kind value valid]⟩

/-- It enters a round: P3.3. -/
def enter (who : Nat) (a : At) (round : Nat) : At :=
  let b : At := ⟨{ a.n with round := round, step := 0 }, a.words⟩
  if b.n.height = 4 ∨ lead b.n.height round ≠ who ∨ b.n.sheet.is round = true then b
  else if 0 ≤ b.n.validIn then tell who b 1 b.n.valid b.n.validIn
  else match b.n.queue with
    | [] => b
    | v :: _ => tell who b 1 v (-1)

/-- In that round of the sheet a quorum has promised the value of its call: P3.4. -/
def settles (S : Sh) (r : Nat) : Bool := S.is r && decide (3 ≤ cntV (S.pr r) (S.val r))
def firstSettled (S : Sh) : Option Nat := (List.range 6).find? (settles S)
/-- The last later round in which some are heard: P3.5. -/
def farRound (S : Sh) (round : Nat) : Option Nat := (List.range 6).reverse.find? fun r => decide (round < r) && decide (1 < heardN S r)

def settleAt (who : Nat) (a : At) (r : Nat) : At :=
  let v := a.n.sheet.val r
  enter who ⟨{ a.n with settled := fun g => if g = a.n.height then v else a.n.settled g, queue := a.n.queue.filter (fun q => q != v), height := a.n.height + 1, bound := 0, boundIn := -1, valid := 0, validIn := -1, seen := fun _ => false }, a.words⟩ 0

/-- It wishes: P3.6. -/
def wishes (who : Nat) (a : At) : Option At :=
  let S := a.n.sheet
  let r := a.n.round
  if S.is r = false ∨ (0 ≤ S.vld r ∧ cntV (S.wi (S.vld r).toNat) (S.val r) < 3) then none
  else some (tell who ⟨{ a.n with step := 1 }, a.words⟩ 2 (if a.n.boundIn ≤ S.vld r ∨ a.n.bound = S.val r then S.val r else 0) 0)

/-- It promises: P3.7. -/
def promises (who : Nat) (a : At) : Option At :=
  let S := a.n.sheet
  let r := a.n.round
  if a.n.step = 1 ∧ 3 ≤ cntV (S.wi r) 0 then some (tell who ⟨{ a.n with step := 2 }, a.words⟩ 3 0 0)
  else if S.is r = true ∧ a.n.seen r = false ∧ 3 ≤ cntV (S.wi r) (S.val r) then
    let b : At := ⟨{ a.n with seen := fun q => if q = r then true else a.n.seen q, valid := S.val r, validIn := r }, a.words⟩
    if a.n.step = 1 then some (tell who ⟨{ b.n with bound := S.val r, boundIn := r, step := 2 }, b.words⟩ 3 (S.val r) 0) else some b
  else none

/-- The first of what follows; none: nothing does. -/
def one (who : Nat) (a : At) : Option At :=
  if a.n.height = 4 then none
  else match firstSettled a.n.sheet with
    | some r => some (settleAt who a r)
    | none => match farRound a.n.sheet a.n.round with
      | some r => some (enter who a r)
      | none => if a.n.step = 0 then wishes who a else promises who a

/-- What follows, again and again (as long as fuel lasts). -/
def all (who : Nat) : Nat → At → At
  | 0, a => a
  | m + 1, a => match one who a with
    | none => a
    | some b => all who m b

/-! ### What holds of a node that is true, at each of its heights -/

/-- What a sheet of node 'who' holds of itself, and why. -/
structure Own (who : Nat) (S : Sh) : Prop where
  /-- what it has promised, enough have wished for in that round -/
  why : ∀ r v, r < 6 → 1 ≤ v → S.pr r who = v + 1 → 3 ≤ cntV (S.wi r) v
  /-- what it wishes for behind a promise of another value, enough have wished for in between -/
  lock : ∀ r s u v, r < s → s < 6 → 1 ≤ u → 1 ≤ v → u ≠ v → S.pr r who = u + 1 → S.wi s who = v + 1 → ∃ q, r ≤ q ∧ q < s ∧ 3 ≤ cntV (S.wi q) v

/-- Where a node stands at its height. -/
structure Here (who : Nat) (n : Nd) : Prop where
  own : Own who n.sheet
  /-- nothing is said in rounds that have not come, nor of steps that have not come -/
  wiLater : ∀ r, r < 6 → n.round < r → n.sheet.wi r who = 0
  prLater : ∀ r, r < 6 → n.round < r → n.sheet.pr r who = 0
  wiNow : n.step = 0 → n.sheet.wi n.round who = 0
  prNow : n.step ≤ 1 → n.sheet.pr n.round who = 0
  /-- it is bound to what it last promised -/
  bd : ∀ r u, r < 6 → 1 ≤ u → n.sheet.pr r who = u + 1 → (r : Int) ≤ n.boundIn ∧ ((r : Int) = n.boundIn → n.bound = u)
  bdWhy : 0 ≤ n.boundIn → n.boundIn ≤ 5 ∧ 1 ≤ n.bound ∧ n.sheet.pr n.boundIn.toNat who = n.bound + 1

theorem cntTo_mono {V V' : Nat → Int} (p : Int → Bool) (h : ∀ i, 0 < V i → V' i = V i) (n : Nat) : cntTo V p n ≤ cntTo V' p n := by
  induction n with
  | zero => simp [cntTo]
  | succ n ih =>
    simp only [cntTo]
    by_cases c : 1 ≤ V n ∧ p (V n - 1) = true
    · rw [if_pos c, if_pos (by rw [h n (by omega)]; exact c)]; omega
    · rw [if_neg c]; split <;> omega
theorem cntV_mono {V V' : Nat → Int} (h : ∀ i, 0 < V i → V' i = V i) (v : Int) : cntV V v ≤ cntV V' v := cntTo_mono _ h 4

/-- A sheet that has heard more; of node 'who' it holds the same. -/
structure More (who : Nat) (S S' : Sh) : Prop where
  wi : ∀ r i, 0 < S.wi r i → S'.wi r i = S.wi r i
  ownW : ∀ r, S'.wi r who = S.wi r who
  ownP : ∀ r, S'.pr r who = S.pr r who
theorem More.refl (who : Nat) (S : Sh) : More who S S := ⟨fun _ _ _ => rfl, fun _ => rfl, fun _ => rfl⟩
theorem Own.more {who : Nat} {S S' : Sh} (h : Own who S) (m : More who S S') : Own who S' := by
  constructor
  · intro r v hr hv e
    rw [m.ownP] at e
    have := h.why r v hr hv e
    have := cntV_mono (m.wi r) v
    omega
  · intro r s u v hrs hs hu hv hne e1 e2
    rw [m.ownP] at e1
    rw [m.ownW] at e2
    obtain ⟨q, h1, h2, h3⟩ := h.lock r s u v hrs hs hu hv hne e1 e2
    have := cntV_mono (m.wi q) v
    exact ⟨q, h1, h2, by omega⟩

theorem more_other {who : Nat} (S : Sh) (w : Wd) (hw : w.f ≠ who) : More who S (hearW S w) := by
  refine ⟨fun r i h => wi_mono S w r i h, fun r => ?_, fun r => ?_⟩
  · refine (hear_wi S w r who).2 ?_
    rintro ⟨g, _, _, e⟩
    have := goodC_bds g
    omega
  · refine (hear_pr S w r who).2 ?_
    rintro ⟨g, _, _, e⟩
    have := goodC_bds g
    omega
theorem more_call {who : Nat} (S : Sh) (w : Wd) (hw : w.k = 1) : More who S (hearW S w) := by
  refine ⟨fun r i h => wi_mono S w r i h, fun r => ?_, fun r => ?_⟩
  · exact (hear_wi S w r who).2 (fun h => by have := h.2.1; omega)
  · exact (hear_pr S w r who).2 (fun h => by have := h.2.1; omega)

/-- A node that is true: what it holds at all heights. -/
structure TrueNd (who : Nat) (n : Nd) : Prop where
  old : ∀ g, g < 4 → g ≠ n.height → Own who (n.heard g)
  later : ∀ g, g < 4 → n.height < g → ∀ r, (n.heard g).wi r who = 0 ∧ (n.heard g).pr r who = 0
  here : n.height < 4 → Here who n

/-- The same node, but for what the sheet of its height has heard of others, and for what does not matter. -/
structure Alike (who : Nat) (n n' : Nd) : Prop where
  height : n'.height = n.height
  round : n'.round = n.round
  step : n'.step = n.step
  bound : n'.bound = n.bound
  boundIn : n'.boundIn = n.boundIn
  more : ∀ g, More who (n.heard g) (n'.heard g)

theorem Here.alike {who : Nat} {n n' : Nd} (h : Here who n) (a : Alike who n n') : Here who n' := by
  have m : More who n.sheet n'.sheet := by unfold Nd.sheet; rw [a.height]; exact a.more n.height
  refine ⟨h.own.more m, ?_, ?_, ?_, ?_, ?_, ?_⟩
  · intro r hr hl; rw [m.ownW]; exact h.wiLater r hr (by rw [← a.round]; exact hl)
  · intro r hr hl; rw [m.ownP]; exact h.prLater r hr (by rw [← a.round]; exact hl)
  · intro hs; rw [a.round, m.ownW]; exact h.wiNow (by rw [← a.step]; exact hs)
  · intro hs; rw [a.round, m.ownP]; exact h.prNow (by rw [← a.step]; exact hs)
  · intro r u hr hu e; rw [m.ownP] at e; rw [a.boundIn, a.bound]; exact h.bd r u hr hu e
  · intro hb; rw [a.boundIn] at hb ⊢; rw [a.bound, m.ownP]; exact h.bdWhy hb

theorem TrueNd.alike {who : Nat} {n n' : Nd} (h : TrueNd who n) (a : Alike who n n') : TrueNd who n' := by
  refine ⟨?_, ?_, ?_⟩
  · intro g hg hne; exact (h.old g hg (by rw [← a.height]; exact hne)).more (a.more g)
  · intro g hg hlt r; rw [(a.more g).ownW, (a.more g).ownP]; exact h.later g hg (by rw [← a.height]; exact hlt) r
  · intro hh; exact (h.here (by rw [← a.height]; exact hh)).alike a

/-- It hears a word of another. -/
theorem TrueNd.hear {who : Nat} {n : Nd} (h : TrueNd who n) (g : Nat) (w : Wd) (hw : w.f ≠ who) : TrueNd who (n.setSheet g (hearW (n.heard g) w)) := by
  refine h.alike ⟨rfl, rfl, rfl, rfl, rfl, fun g' => ?_⟩
  simp only [Nd.setSheet]
  split
  · rename_i e; subst e; exact more_other _ w hw
  · exact More.refl _ _

/-- It proposes. -/
theorem TrueNd.propose {who : Nat} {a : At} (h : TrueNd who a.n) (v x : Int) : TrueNd who (tell who a 1 v x).n := by
  refine h.alike ⟨rfl, rfl, rfl, rfl, rfl, fun g' => ?_⟩
  simp only [tell, Nd.setSheet]
  split
  · rename_i e; subst e; exact more_call _ _ rfl
  · exact More.refl _ _

/-- It comes to a later round, or stays and waits. -/
theorem TrueNd.goes {who : Nat} {n : Nd} (h : TrueNd who n) (r : Nat) (hr : n.height < 4 → (n.round < r ∧ r < 6) ∨ (r = n.round ∧ n.step = 0)) : TrueNd who { n with round := r, step := 0 } := by
  refine ⟨h.old, h.later, fun hh => ?_⟩
  have H := h.here hh
  rcases hr hh with ⟨hlt, h6⟩ | ⟨e, h0⟩
  · exact ⟨H.own, fun q hq hl => H.wiLater q hq (by show n.round < q; have : r < q := hl; omega), fun q hq hl => H.prLater q hq (by have : r < q := hl; omega),
      fun _ => H.wiLater r h6 hlt, fun _ => H.prLater r h6 hlt, H.bd, H.bdWhy⟩
  · subst e
    exact ⟨H.own, H.wiLater, H.prLater, fun _ => H.wiNow h0, fun _ => H.prNow (by omega), H.bd, H.bdWhy⟩

theorem TrueNd.enter {who : Nat} {a : At} (h : TrueNd who a.n) (r : Nat) (hr : a.n.height < 4 → (a.n.round < r ∧ r < 6) ∨ (r = a.n.round ∧ a.n.step = 0)) : TrueNd who (enter who a r).n := by
  have h1 := h.goes r hr
  unfold YtmmgaonlmpajbacGreat.enter
  simp only
  split
  · exact h1
  · split
    · exact TrueNd.propose (a := ⟨{ a.n with round := r, step := 0 }, a.words⟩) h1 _ _
    · split
      · exact h1
      · exact TrueNd.propose (a := ⟨{ a.n with round := r, step := 0 }, a.words⟩) h1 _ _

theorem sheet_tell (who : Nat) (a : At) (k v x : Int) : (tell who a k v x).n.sheet = hearW a.n.sheet (sayW who a.n k v x) := by
  simp [tell, Nd.sheet, Nd.setSheet]

theorem good_say {who : Nat} {n : Nd} {k v : Int} (hw : who < 4) (hh : n.height < 4) (hr : n.round < 6) (hk : k = 2 ∨ k = 3) (h0 : 0 ≤ v) (h9 : v ≤ 9) : (sayW who n k v 0).good := by
  unfold Wd.good sayW goodC inb win
  rcases hk with rfl | rfl <;> simp <;> omega

/-- It wishes: for 0, or as P3.6 says. -/
theorem TrueNd.wish {who : Nat} {a : At} (hw : who < 4) (h : TrueNd who a.n) (hh : a.n.height < 4) (hr : a.n.round < 6) (h0 : a.n.step = 0) (v : Int) (v0 : 0 ≤ v) (v9 : v ≤ 9)
    (rule : 1 ≤ v → ∀ r u, r < a.n.round → 1 ≤ u → u ≠ v → a.n.sheet.pr r who = u + 1 → ∃ q, r ≤ q ∧ q < a.n.round ∧ 3 ≤ cntV (a.n.sheet.wi q) v) :
    TrueNd who (tell who ⟨{ a.n with step := 1 }, a.words⟩ 2 v 0).n := by
  have H := h.here hh
  let b : At := ⟨{ a.n with step := 1 }, a.words⟩
  have hS : (tell who b 2 v 0).n.sheet = hearW a.n.sheet (sayW who b.n 2 v 0) := sheet_tell who b 2 v 0
  have g : (sayW who b.n 2 v 0).good := good_say hw hh hr (Or.inl rfl) v0 v9
  have hit : ∀ r i, hitW (sayW who b.n 2 v 0) r i ↔ r = a.n.round ∧ i = who := by
    intro r i
    constructor
    · rintro ⟨_, _, e1, e2⟩
      exact ⟨by simpa [sayW, b] using e1, by simpa [sayW] using e2⟩
    · rintro ⟨e1, e2⟩
      exact ⟨g, rfl, by simpa [sayW, b] using e1, by simpa [sayW] using e2⟩
  have pr' : ∀ r i, (tell who b 2 v 0).n.sheet.pr r i = a.n.sheet.pr r i := by
    intro r i; rw [hS]; exact (hear_pr _ _ r i).2 (fun hp => by have := hp.2.1; simp [sayW] at this)
  have wi1 : (tell who b 2 v 0).n.sheet.wi a.n.round who = v + 1 := by
    rw [hS, (hear_wi _ _ _ _).1 ((hit _ _).2 ⟨rfl, rfl⟩), if_pos (H.wiNow h0)]; simp [sayW]; omega
  have wi2 : ∀ r i, ¬ (r = a.n.round ∧ i = who) → (tell who b 2 v 0).n.sheet.wi r i = a.n.sheet.wi r i := by
    intro r i hne; rw [hS]; exact (hear_wi _ _ r i).2 (fun hp => hne ((hit r i).1 hp))
  have mono : ∀ r i, 0 < a.n.sheet.wi r i → (tell who b 2 v 0).n.sheet.wi r i = a.n.sheet.wi r i := by
    intro r i hp; rw [hS]; exact wi_mono _ _ r i hp
  have cm : ∀ r u, cntV (a.n.sheet.wi r) u ≤ cntV ((tell who b 2 v 0).n.sheet.wi r) u := fun r u => cntV_mono (mono r) u
  have hne : ∀ g', g' ≠ a.n.height → (tell who b 2 v 0).n.heard g' = a.n.heard g' := by
    intro g' hg; simp [tell, Nd.setSheet, b, hg]
  refine ⟨?_, ?_, fun _ => ⟨⟨?_, ?_⟩, ?_, ?_, ?_, ?_, ?_, ?_⟩⟩
  · intro g' hg hn; rw [hne g' hn]; exact h.old g' hg hn
  · intro g' hg hlt r; rw [hne g' (by have : a.n.height < g' := hlt; omega)]; exact h.later g' hg hlt r
  · intro r u hr' hu e
    rw [pr'] at e
    exact Int.le_trans (H.own.why r u hr' hu e) (cm r u)
  · intro r s u v' hrs hs hu hv hne' e1 e2
    rw [pr'] at e1
    by_cases hsr : s = a.n.round
    · subst hsr
      rw [wi1] at e2
      have ev : v' = v := by omega
      subst ev
      obtain ⟨q, q1, q2, q3⟩ := rule hv r u hrs hu hne' e1
      exact ⟨q, q1, q2, Int.le_trans q3 (cm q v')⟩
    · rw [wi2 s who (fun e => hsr e.1)] at e2
      obtain ⟨q, q1, q2, q3⟩ := H.own.lock r s u v' hrs hs hu hv hne' e1 e2
      exact ⟨q, q1, q2, Int.le_trans q3 (cm q v')⟩
  · intro r hr' hl
    rw [wi2 r who (fun e => by have : a.n.round < r := hl; omega)]
    exact H.wiLater r hr' hl
  · intro r hr' hl; rw [pr']; exact H.prLater r hr' hl
  · intro e; exact absurd (show (1 : Nat) = 0 from e) (by omega)
  · intro _; show (tell who b 2 v 0).n.sheet.pr a.n.round who = 0; rw [pr']; exact H.prNow (by omega)
  · intro r u hr' hu e; rw [pr'] at e; exact H.bd r u hr' hu e
  · intro hb; rw [pr']; exact H.bdWhy hb

/-- P3.6's rule keeps the lock. -/
theorem lock_rule {who : Nat} {n : Nd} (H : Here who n) (hr : n.round < 6) (h0 : n.step = 0) (ok : okCall n.sheet n.round = true) (is : n.sheet.is n.round = true)
    (q3 : 0 ≤ n.sheet.vld n.round → 3 ≤ cntV (n.sheet.wi (n.sheet.vld n.round).toNat) (n.sheet.val n.round)) (c : n.boundIn ≤ n.sheet.vld n.round ∨ n.bound = n.sheet.val n.round) :
    ∀ r u, r < n.round → 1 ≤ u → u ≠ n.sheet.val n.round → n.sheet.pr r who = u + 1 → ∃ q, r ≤ q ∧ q < n.round ∧ 3 ≤ cntV (n.sheet.wi q) (n.sheet.val n.round) := by
  intro r u hlt hu hne e
  obtain ⟨b1, b2⟩ := H.bd r u (by omega) hu e
  simp [okCall, is, win] at ok
  by_cases c1 : n.boundIn ≤ n.sheet.vld n.round
  · exact ⟨(n.sheet.vld n.round).toNat, by omega, by omega, q3 (by omega)⟩
  · have cb : n.bound = n.sheet.val n.round := c.resolve_left c1
    have hlt' : (r : Int) < n.boundIn := by
      by_cases hh : (r : Int) = n.boundIn
      · have := b2 hh; omega
      · omega
    obtain ⟨w1, w2, w3⟩ := H.bdWhy (by omega)
    have hq : n.boundIn.toNat < n.round := by
      by_cases hq : n.boundIn.toNat < n.round
      · exact hq
      · exfalso
        by_cases he : n.boundIn.toNat = n.round
        · rw [he, H.prNow (by omega)] at w3; omega
        · rw [H.prLater n.boundIn.toNat (by omega) (by omega)] at w3; omega
    exact ⟨n.boundIn.toNat, by omega, hq, by have := H.own.why n.boundIn.toNat n.bound (by omega) w2 w3; rw [cb] at this; exact this⟩

/-- It promises: 0, or what enough have wished for. -/
theorem TrueNd.promise {who : Nat} {a : At} (hw : who < 4) (h : TrueNd who a.n) (hh : a.n.height < 4) (hr : a.n.round < 6) (h1 : a.n.step = 1) (v : Int) (v0 : 0 ≤ v) (v9 : v ≤ 9)
    (enough : 1 ≤ v → 3 ≤ cntV (a.n.sheet.wi a.n.round) v) (B Bi : Int) (hB : (1 ≤ v ∧ B = v ∧ Bi = a.n.round) ∨ (v = 0 ∧ B = a.n.bound ∧ Bi = a.n.boundIn)) (se : Nat → Bool) (va vi : Int) :
    TrueNd who (tell who ⟨{ a.n with step := 2, bound := B, boundIn := Bi, seen := se, valid := va, validIn := vi }, a.words⟩ 3 v 0).n := by
  have H := h.here hh
  let b : At := ⟨{ a.n with step := 2, bound := B, boundIn := Bi, seen := se, valid := va, validIn := vi }, a.words⟩
  have hS : (tell who b 3 v 0).n.sheet = hearW a.n.sheet (sayW who b.n 3 v 0) := sheet_tell who b 3 v 0
  have g : (sayW who b.n 3 v 0).good := good_say hw hh hr (Or.inr rfl) v0 v9
  have hit : ∀ r i, hitP (sayW who b.n 3 v 0) r i ↔ r = a.n.round ∧ i = who := by
    intro r i
    constructor
    · rintro ⟨_, _, e1, e2⟩
      exact ⟨by simpa [sayW, b] using e1, by simpa [sayW] using e2⟩
    · rintro ⟨e1, e2⟩
      exact ⟨g, rfl, by simpa [sayW, b] using e1, by simpa [sayW] using e2⟩
  have wi' : ∀ r i, (tell who b 3 v 0).n.sheet.wi r i = a.n.sheet.wi r i := by
    intro r i; rw [hS]; exact (hear_wi _ _ r i).2 (fun hp => by have := hp.2.1; simp [sayW] at this)
  have wi'' : ∀ r, (tell who b 3 v 0).n.sheet.wi r = a.n.sheet.wi r := fun r => funext (wi' r)
  have pr1 : (tell who b 3 v 0).n.sheet.pr a.n.round who = v + 1 := by
    rw [hS, (hear_pr _ _ _ _).1 ((hit _ _).2 ⟨rfl, rfl⟩), if_pos (H.prNow (by omega))]; simp [sayW]; omega
  have pr2 : ∀ r, r ≠ a.n.round → (tell who b 3 v 0).n.sheet.pr r who = a.n.sheet.pr r who := by
    intro r hne; rw [hS]; exact (hear_pr _ _ r who).2 (fun hp => hne ((hit r who).1 hp).1)
  have hne : ∀ g', g' ≠ a.n.height → (tell who b 3 v 0).n.heard g' = a.n.heard g' := by
    intro g' hg; simp [tell, Nd.setSheet, b, hg]
  refine ⟨?_, ?_, fun _ => ⟨⟨?_, ?_⟩, ?_, ?_, ?_, ?_, ?_, ?_⟩⟩
  · intro g' hg hn; rw [hne g' hn]; exact h.old g' hg hn
  · intro g' hg hlt r; rw [hne g' (by have : a.n.height < g' := hlt; omega)]; exact h.later g' hg hlt r
  · intro r u hr' hu e
    rw [wi'']
    by_cases hrr : r = a.n.round
    · subst hrr
      rw [pr1] at e
      have : u = v := by omega
      subst this
      exact enough hu
    · rw [pr2 r hrr] at e
      exact H.own.why r u hr' hu e
  · intro r s u v' hrs hs hu hv hne' e1 e2
    rw [wi'] at e2
    by_cases hrr : r = a.n.round
    · subst hrr
      rw [H.wiLater s hs hrs] at e2; omega
    · rw [pr2 r hrr] at e1
      obtain ⟨q, q1, q2, q3⟩ := H.own.lock r s u v' hrs hs hu hv hne' e1 e2
      exact ⟨q, q1, q2, by rw [wi'']; exact q3⟩
  · intro r hr' hl; rw [wi']; exact H.wiLater r hr' hl
  · intro r hr' hl
    rw [pr2 r (by have : a.n.round < r := hl; omega)]
    exact H.prLater r hr' hl
  · intro e; exact absurd (show (2 : Nat) = 0 from e) (by omega)
  · intro e; exact absurd (show (2 : Nat) ≤ 1 from e) (by omega)
  · intro r u hr' hu e
    show (r : Int) ≤ Bi ∧ ((r : Int) = Bi → B = u)
    by_cases hrr : r = a.n.round
    · subst hrr
      rw [pr1] at e
      rcases hB with ⟨_, e1, e2⟩ | ⟨e0, _, _⟩
      · exact ⟨by omega, fun _ => by omega⟩
      · omega
    · rw [pr2 r hrr] at e
      obtain ⟨b1, b2⟩ := H.bd r u hr' hu e
      have hle : r < a.n.round := by
        by_cases hl : a.n.round < r
        · rw [H.prLater r hr' hl] at e; omega
        · omega
      rcases hB with ⟨_, e1, e2⟩ | ⟨_, e1, e2⟩
      · exact ⟨by omega, fun _ => by omega⟩
      · rw [e1, e2]; exact ⟨b1, b2⟩
  · intro hb
    show Bi ≤ 5 ∧ 1 ≤ B ∧ (tell who b 3 v 0).n.sheet.pr Bi.toNat who = B + 1
    have hb' : 0 ≤ Bi := hb
    rcases hB with ⟨e0, e1, e2⟩ | ⟨e0, e1, e2⟩
    · refine ⟨by omega, by omega, ?_⟩
      rw [show Bi.toNat = a.n.round by omega, pr1]; omega
    · obtain ⟨w1, w2, w3⟩ := H.bdWhy (by omega)
      rw [e1, e2]
      refine ⟨w1, w2, ?_⟩
      by_cases hrr : a.n.boundIn.toNat = a.n.round
      · exfalso; rw [hrr, H.prNow (by omega)] at w3; omega
      · rw [pr2 _ hrr]; exact w3

/-- It settles, and comes to the next height. -/
theorem TrueNd.next {who : Nat} {n : Nd} (h : TrueNd who n) (hh : n.height < 4) (se : Nat → Int) (qu : List Int) (rd st : Nat) (va vi : Int) (sn : Nat → Bool) (hs : st = 0) (hrd : rd = 0) :
    TrueNd who { n with settled := se, queue := qu, height := n.height + 1, bound := 0, boundIn := -1, valid := va, validIn := vi, seen := sn, round := rd, step := st } := by
  subst hs hrd
  refine ⟨?_, ?_, ?_⟩
  · intro g hg hne
    by_cases e : g = n.height
    · subst e; exact (h.here hh).own
    · exact h.old g hg e
  · intro g hg hlt r; exact h.later g hg (by have : n.height + 1 < g := hlt; omega) r
  · intro hh'
    have z := h.later (n.height + 1) hh' (by omega)
    refine ⟨⟨?_, ?_⟩, fun r _ _ => (z r).1, fun r _ _ => (z r).2, fun _ => (z 0).1, fun _ => (z 0).2, ?_, ?_⟩
    · intro r v _ hv e
      have := (z r).2
      have e' : (n.heard (n.height + 1)).pr r who = v + 1 := e
      omega
    · intro r s u v _ _ hu _ _ e1 _
      have := (z r).2
      have e' : (n.heard (n.height + 1)).pr r who = u + 1 := e1
      omega
    · intro r u _ hu e
      have := (z r).2
      have e' : (n.heard (n.height + 1)).pr r who = u + 1 := e
      omega
    · intro hb; exact absurd (show (0 : Int) ≤ -1 from hb) (by omega)
end Go.Proofs.YtmmgaonlmpajbacGreat
namespace Go.Proofs.YtmmgaonlmpajbacGreat

/-- Four nodes, one of which may lie: what each has heard of one that is true, that one has said. -/
structure Four (nd : Nat → Nd) (liar : Int) : Prop where
  own : ∀ i : Nat, i < 4 → (i : Int) ≠ liar → ∀ g, g < 4 → Own i ((nd i).heard g)
  authW : ∀ i j g r : Nat, i < 4 → j < 4 → (i : Int) ≠ liar → g < 4 → ((nd j).heard g).wi r i ≠ 0 → ((nd j).heard g).wi r i = ((nd i).heard g).wi r i
  authP : ∀ i j g r : Nat, i < 4 → j < 4 → (i : Int) ≠ liar → g < 4 → ((nd j).heard g).pr r i ≠ 0 → ((nd j).heard g).pr r i = ((nd i).heard g).pr r i

theorem pick1 (liar : Int) (m n : Nat) : ∃ i : Nat, i < 4 ∧ (i : Int) ≠ liar ∧ i ≠ m ∧ i ≠ n := by
  by_cases c0 : (0 : Int) ≠ liar ∧ 0 ≠ m ∧ 0 ≠ n
  · exact ⟨0, by omega, c0.1, c0.2.1, c0.2.2⟩
  · by_cases c1 : (1 : Int) ≠ liar ∧ 1 ≠ m ∧ 1 ≠ n
    · exact ⟨1, by omega, c1.1, c1.2.1, c1.2.2⟩
    · by_cases c2 : (2 : Int) ≠ liar ∧ 2 ≠ m ∧ 2 ≠ n
      · exact ⟨2, by omega, c2.1, c2.2.1, c2.2.2⟩
      · exact ⟨3, by omega, by omega, by omega, by omega⟩
theorem pick2 (liar : Int) (m : Nat) : ∃ p q : Nat, p < 4 ∧ q < 4 ∧ p ≠ q ∧ (p : Int) ≠ liar ∧ (q : Int) ≠ liar ∧ p ≠ m ∧ q ≠ m := by
  obtain ⟨p, h1, h2, h3, _⟩ := pick1 liar m m
  obtain ⟨q, k1, k2, k3, k4⟩ := pick1 liar m p
  exact ⟨p, q, h1, k1, fun e => k4 e.symm, h2, k2, h3, k3⟩

/-- What two that are true have promised in a round, and nothing else, enough have wished for in that round and later. -/
theorem bound_to {nd : Nat → Nd} {liar : Int} (F : Four nd liar) {g : Nat} (hg : g < 4) {p q r : Nat} {u : Int} (hp : p < 4) (hq : q < 4) (hpq : p ≠ q) (tp : (p : Int) ≠ liar) (tq : (q : Int) ≠ liar)
    (hr : r < 6) (hu : 1 ≤ u) (ep : ((nd p).heard g).pr r p = u + 1) (eq : ((nd q).heard g).pr r q = u + 1) :
    ∀ s, r ≤ s → s < 6 → ∀ (j : Nat) (v : Int), j < 4 → (j : Int) ≠ liar → 1 ≤ v → 3 ≤ cntV (((nd j).heard g).wi s) v → v = u := by
  intro s
  induction s using Nat.strongRecOn with
  | _ s ih =>
    intro hrs hs j v hj tj hv hc
    obtain ⟨m, hm⟩ := cnt_but hc
    -- one of the two has wished for v in round s
    obtain ⟨x, hx, tx, ex, wx⟩ : ∃ x : Nat, x < 4 ∧ (x : Int) ≠ liar ∧ ((nd x).heard g).pr r x = u + 1 ∧ ((nd x).heard g).wi s x = v + 1 := by
      by_cases e : p = m
      · have h1 := hm q hq (fun e' => hpq (e.trans e'.symm))
        exact ⟨q, hq, tq, eq, by rw [← F.authW q j g s hq hj tq hg (by omega)]; exact h1⟩
      · have h1 := hm p hp e
        exact ⟨p, hp, tp, ep, by rw [← F.authW p j g s hp hj tp hg (by omega)]; exact h1⟩
    by_cases hvu : v = u
    · exact hvu
    · by_cases hsr : s = r
      · subst hsr
        have hw := (F.own x hx tx g hg).why s u hs hu ex
        obtain ⟨n, hn⟩ := cnt_but hw
        obtain ⟨i, hi, ti, him, hin⟩ := pick1 liar m n
        have a1 := hm i hi him
        have a2 := hn i hi hin
        rw [F.authW i j g s hi hj ti hg (by omega)] at a1
        rw [F.authW i x g s hi hx ti hg (by omega)] at a2
        omega
      · obtain ⟨z, z1, z2, z3⟩ := (F.own x hx tx g hg).lock r s u v (by omega) hs hu hv (fun e => hvu e.symm) ex wx
        exact ih z z2 z1 (by omega) x v hx tx hv z3

/-- Those that are true agree. -/
theorem agree {nd : Nat → Nd} {liar : Int} (F : Four nd liar) {g : Nat} (hg : g < 4) {i k r s : Nat} {u v : Int} (hi : i < 4) (hk : k < 4)
    (hr : r < 6) (hs : s < 6) (hu : 1 ≤ u) (hv : 1 ≤ v) (cu : 3 ≤ cntV (((nd i).heard g).pr r) u) (cv : 3 ≤ cntV (((nd k).heard g).pr s) v) : u = v := by
  have two : ∀ (i r : Nat) (u : Int), i < 4 → r < 6 → 1 ≤ u → 3 ≤ cntV (((nd i).heard g).pr r) u →
      ∃ p q : Nat, p < 4 ∧ q < 4 ∧ p ≠ q ∧ (p : Int) ≠ liar ∧ (q : Int) ≠ liar ∧ ((nd p).heard g).pr r p = u + 1 ∧ ((nd q).heard g).pr r q = u + 1 := by
    intro i r u hi hr hu c
    obtain ⟨m, hm⟩ := cnt_but c
    obtain ⟨p, q, h1, h2, h3, h4, h5, h6, h7⟩ := pick2 liar m
    have a1 := hm p h1 h6
    have a2 := hm q h2 h7
    exact ⟨p, q, h1, h2, h3, h4, h5, by rw [← F.authP p i g r h1 hi h4 hg (by omega)]; exact a1, by rw [← F.authP q i g r h2 hi h5 hg (by omega)]; exact a2⟩
  obtain ⟨p, q, p1, p2, p3, p4, p5, p6, p7⟩ := two i r u hi hr hu cu
  obtain ⟨x, y, x1, x2, x3, x4, x5, x6, x7⟩ := two k s v hk hs hv cv
  by_cases h : r ≤ s
  · exact (bound_to F hg p1 p2 p3 p4 p5 hr hu p6 p7 s h hs x v x1 x4 hv ((F.own x x1 x4 g hg).why s v hs hv x6)).symm
  · exact bound_to F hg x1 x2 x3 x4 x5 hs hv x6 x7 r (by omega) hr p u p1 p4 hu ((F.own p p1 p4 g hg).why r u hr hu p6)
end Go.Proofs.YtmmgaonlmpajbacGreat
namespace Go.Proofs.YtmmgaonlmpajbacGreat

/-- What chapter 3 calls a good node, as far as it matters here. -/
structure NG (n : Nd) : Prop where
  round : n.round < 6
  height : n.height ≤ 4
  sheets : ∀ g, goodS (n.heard g) = true

theorem NG.tell {who : Nat} {a : At} (h : NG a.n) (k v x : Int) : NG (tell who a k v x).n := by
  refine ⟨h.round, h.height, fun g => ?_⟩
  simp only [YtmmgaonlmpajbacGreat.tell, Nd.setSheet]
  split
  · exact goodS_hear _ _ (h.sheets _)
  · exact h.sheets g
theorem NG.enter {who : Nat} {a : At} (h : NG a.n) (r : Nat) (hr : r < 6) : NG (enter who a r).n := by
  have h1 : NG { a.n with round := r, step := 0 } := ⟨hr, h.height, h.sheets⟩
  unfold YtmmgaonlmpajbacGreat.enter
  simp only
  split
  · exact h1
  · split
    · exact NG.tell (a := ⟨{ a.n with round := r, step := 0 }, a.words⟩) h1 _ _ _
    · split
      · exact h1
      · exact NG.tell (a := ⟨{ a.n with round := r, step := 0 }, a.words⟩) h1 _ _ _

theorem NG.call {n : Nd} (h : NG n) : okCall n.sheet n.round = true := ((goodS_iff _).1 (h.sheets n.height) n.round h.round).1
theorem val_of {n : Nd} (h : NG n) (is : n.sheet.is n.round = true) : 1 ≤ n.sheet.val n.round ∧ n.sheet.val n.round ≤ 9 := by
  have := h.call
  simp [okCall, is, win] at this
  omega

theorem far_is {S : Sh} {round r : Nat} (h : farRound S round = some r) : round < r ∧ r < 6 := by
  unfold farRound at h
  have h1 := List.find?_some h
  have h2 := List.mem_of_find?_eq_some h
  simp at h1 h2
  omega

theorem settle_true {who : Nat} {a : At} (T : TrueNd who a.n) (G : NG a.n) (hh : a.n.height < 4) (r : Nat) : TrueNd who (settleAt who a r).n ∧ NG (settleAt who a r).n := by
  unfold settleAt
  simp only
  constructor
  · have h1 := T.next hh (fun g => if g = a.n.height then a.n.sheet.val r else a.n.settled g) (a.n.queue.filter (fun q => q != a.n.sheet.val r)) 0 0 0 (-1) (fun _ => false) rfl rfl
    -- its round and step are laid anew as it enters round 0
    have h2 : ∀ (b : At), b.n = { a.n with settled := fun g => if g = a.n.height then a.n.sheet.val r else a.n.settled g, queue := a.n.queue.filter (fun q => q != a.n.sheet.val r), height := a.n.height + 1, bound := 0, boundIn := -1, valid := 0, validIn := -1, seen := fun _ => false } → TrueNd who (enter who b 0).n := by
      intro b hb
      have h3 : TrueNd who { b.n with round := 0, step := 0 } := by rw [hb]; exact h1
      unfold YtmmgaonlmpajbacGreat.enter
      simp only
      split
      · exact h3
      · split
        · exact TrueNd.propose (a := ⟨{ b.n with round := 0, step := 0 }, b.words⟩) h3 _ _
        · split
          · exact h3
          · exact TrueNd.propose (a := ⟨{ b.n with round := 0, step := 0 }, b.words⟩) h3 _ _
    exact h2 _ rfl
  · refine NG.enter ?_ 0 (by omega)
    exact ⟨G.round, by show a.n.height + 1 ≤ 4; omega, G.sheets⟩

theorem wishes_true {who : Nat} {a b : At} (hw : who < 4) (T : TrueNd who a.n) (G : NG a.n) (hh : a.n.height < 4) (h0 : a.n.step = 0) (e : wishes who a = some b) : TrueNd who b.n ∧ NG b.n := by
  unfold wishes at e
  simp only at e
  split at e
  · cases e
  · rename_i c
    have is : a.n.sheet.is a.n.round = true := by
      cases hi : a.n.sheet.is a.n.round
      · exact absurd (Or.inl hi) c
      · rfl
    have hv := val_of G is
    have H := T.here hh
    obtain rfl := Option.some.inj e
    refine ⟨?_, NG.tell (a := ⟨{ a.n with step := 1 }, a.words⟩) ⟨G.round, G.height, G.sheets⟩ _ _ _⟩
    by_cases cb : a.n.boundIn ≤ a.n.sheet.vld a.n.round ∨ a.n.bound = a.n.sheet.val a.n.round
    · rw [if_pos cb]
      refine T.wish hw hh G.round h0 _ (by omega) hv.2 (fun _ r u h1 h2 h3 h4 => ?_)
      exact lock_rule H G.round h0 G.call is (fun hx => by
        by_cases h3' : 3 ≤ cntV (a.n.sheet.wi (a.n.sheet.vld a.n.round).toNat) (a.n.sheet.val a.n.round)
        · exact h3'
        · exact absurd (Or.inr ⟨hx, by omega⟩) c) cb r u h1 h2 h3 h4
    · rw [if_neg cb]
      exact T.wish hw hh G.round h0 0 (by omega) (by omega) (fun h => by omega)

theorem promises_true {who : Nat} {a b : At} (hw : who < 4) (T : TrueNd who a.n) (G : NG a.n) (hh : a.n.height < 4) (e : promises who a = some b) : TrueNd who b.n ∧ NG b.n := by
  unfold promises at e
  simp only at e
  split at e
  · rename_i c
    obtain rfl := Option.some.inj e
    exact ⟨T.promise hw hh G.round c.1 0 (by omega) (by omega) (fun h => by omega) a.n.bound a.n.boundIn (Or.inr ⟨rfl, rfl, rfl⟩) a.n.seen a.n.valid a.n.validIn,
      NG.tell (a := ⟨{ a.n with step := 2 }, a.words⟩) ⟨G.round, G.height, G.sheets⟩ _ _ _⟩
  · split at e
    · rename_i _ c
      have hv := val_of G c.1
      split at e
      · rename_i h1
        obtain rfl := Option.some.inj e
        exact ⟨T.promise hw hh G.round h1 _ (by omega) hv.2 (fun _ => c.2.2) _ _ (Or.inl ⟨hv.1, rfl, rfl⟩) _ _ _,
          NG.tell (a := ⟨{ a.n with step := 2, bound := a.n.sheet.val a.n.round, boundIn := a.n.round, seen := fun q => if q = a.n.round then true else a.n.seen q, valid := a.n.sheet.val a.n.round, validIn := a.n.round }, a.words⟩) ⟨G.round, G.height, G.sheets⟩ _ _ _⟩
      · obtain rfl := Option.some.inj e
        exact ⟨T.alike ⟨rfl, rfl, rfl, rfl, rfl, fun g => More.refl _ _⟩, ⟨G.round, G.height, G.sheets⟩⟩
    · cases e

/-- One thing that follows. -/
theorem one_true {who : Nat} {a b : At} (hw : who < 4) (T : TrueNd who a.n) (G : NG a.n) (e : one who a = some b) : TrueNd who b.n ∧ NG b.n := by
  unfold one at e
  split at e
  · cases e
  · rename_i h4
    have hh : a.n.height < 4 := by have := G.height; omega
    split at e
    · obtain rfl := Option.some.inj e
      exact settle_true T G hh _
    · split at e
      · rename_i r hf
        obtain rfl := Option.some.inj e
        have hr := far_is hf
        exact ⟨T.enter _ (fun _ => Or.inl hr), G.enter _ hr.2⟩
      · split at e
        · rename_i h0; exact wishes_true hw T G hh h0 e
        · exact promises_true hw T G hh e

theorem all_true {who : Nat} (hw : who < 4) : ∀ (m : Nat) (a : At), TrueNd who a.n → NG a.n → TrueNd who (all who m a).n ∧ NG (all who m a).n
  | 0, _, T, G => ⟨T, G⟩
  | m + 1, a, T, G => by
    unfold all
    cases h : one who a with
    | none => exact ⟨T, G⟩
    | some b =>
      obtain ⟨T', G'⟩ := one_true hw T G h
      exact all_true hw m b T' G'
end Go.Proofs.YtmmgaonlmpajbacGreat
namespace Go.Proofs.YtmmgaonlmpajbacGreat

/-- Nothing that was heard is forgotten. -/
structure Grow (n n' : Nd) : Prop where
  wi : ∀ g r i, 0 < (n.heard g).wi r i → (n'.heard g).wi r i = (n.heard g).wi r i
  pr : ∀ g r i, 0 < (n.heard g).pr r i → (n'.heard g).pr r i = (n.heard g).pr r i
theorem Grow.refl (n : Nd) : Grow n n := ⟨fun _ _ _ _ => rfl, fun _ _ _ _ => rfl⟩
theorem Grow.of_heard {n n' : Nd} (h : n'.heard = n.heard) : Grow n n' := ⟨fun _ _ _ _ => by rw [h], fun _ _ _ _ => by rw [h]⟩
theorem Grow.trans {a b c : Nd} (h : Grow a b) (k : Grow b c) : Grow a c := by
  refine ⟨fun g r i hp => ?_, fun g r i hp => ?_⟩
  · rw [k.wi g r i (by rw [h.wi g r i hp]; exact hp), h.wi g r i hp]
  · rw [k.pr g r i (by rw [h.pr g r i hp]; exact hp), h.pr g r i hp]
theorem grow_from {n m m' : Nd} (g : Grow m m') (h : m.heard = n.heard) : Grow n m' := (Grow.of_heard h).trans g
theorem grow_set (n : Nd) (g : Nat) (w : Wd) : Grow n (n.setSheet g (hearW (n.heard g) w)) := by
  refine ⟨fun g' r i hp => ?_, fun g' r i hp => ?_⟩
  · simp only [Nd.setSheet]
    split
    · rename_i e; subst e; exact wi_mono _ w r i hp
    · rfl
  · simp only [Nd.setSheet]
    split
    · rename_i e; subst e; exact pr_mono _ w r i hp
    · rfl
theorem grow_tell (who : Nat) (a : At) (k v x : Int) : Grow a.n (tell who a k v x).n := grow_set a.n a.n.height _

/-- A word that a node has said: it stands on its own sheet. -/
structure Said (who : Nat) (n : Nd) (w : Wd) : Prop where
  frm : w.f = who
  val : 0 ≤ w.v
  wish : w.k = 2 → (n.heard w.h.toNat).wi w.r.toNat who = w.v + 1
  prom : w.k = 3 → (n.heard w.h.toNat).pr w.r.toNat who = w.v + 1
theorem Said.grow {who : Nat} {n n' : Nd} {w : Wd} (h : Said who n w) (g : Grow n n') : Said who n' w :=
  ⟨h.frm, h.val, fun e => by have := h.wish e; have := h.val; rw [g.wi _ _ _ (by omega)]; exact h.wish e, fun e => by have := h.prom e; have := h.val; rw [g.pr _ _ _ (by omega)]; exact h.prom e⟩

def AllSaid (who : Nat) (a : At) : Prop := ∀ w, w ∈ a.words → Said who a.n w
theorem AllSaid.grow {who : Nat} {a b : At} (h : AllSaid who a) (g : Grow a.n b.n) (hw : b.words = a.words) : AllSaid who b := fun w hm => (h w (by rw [← hw]; exact hm)).grow g

theorem said_tell {who : Nat} {a : At} (h : AllSaid who a) (k v x : Int) (v0 : 0 ≤ v)
    (h2 : k = 2 → (sayW who a.n k v x).good ∧ a.n.sheet.wi a.n.round who = 0) (h3 : k = 3 → (sayW who a.n k v x).good ∧ a.n.sheet.pr a.n.round who = 0) : AllSaid who (tell who a k v x) := by
  intro w hm
  have hm' : w ∈ a.words ++ [sayW who a.n k v x] := hm
  rcases List.mem_append.1 hm' with h' | h'
  · exact (h w h').grow (grow_tell who a k v x)
  · obtain rfl := List.mem_singleton.1 h'
    have hs : (tell who a k v x).n.heard (sayW who a.n k v x).h.toNat = hearW a.n.sheet (sayW who a.n k v x) := by
      simp [sayW, Nd.sheet, tell, Nd.setSheet]
    refine ⟨rfl, v0, fun e => ?_, fun e => ?_⟩
    · obtain ⟨g, z⟩ := h2 e
      rw [hs, (hear_wi _ _ _ _).1 ⟨g, e, rfl, by simp [sayW]⟩]
      rw [if_pos (by simpa [sayW] using z)]; omega
    · obtain ⟨g, z⟩ := h3 e
      rw [hs, (hear_pr _ _ _ _).1 ⟨g, e, rfl, by simp [sayW]⟩]
      rw [if_pos (by simpa [sayW] using z)]; omega

theorem said_enter {who : Nat} {a : At} (h : AllSaid who a) (r : Nat) (hv : 0 ≤ a.n.validIn → 0 ≤ a.n.valid) (hq : ∀ v, v ∈ a.n.queue → 0 ≤ v) : AllSaid who (enter who a r) ∧ Grow a.n (enter who a r).n := by
  have h1 : AllSaid who ⟨{ a.n with round := r, step := 0 }, a.words⟩ := h.grow (Grow.of_heard rfl) rfl
  have g1 : Grow a.n { a.n with round := r, step := 0 } := Grow.of_heard rfl
  unfold YtmmgaonlmpajbacGreat.enter
  simp only
  split
  · exact ⟨h1, g1⟩
  · split
    · rename_i c
      exact ⟨said_tell h1 1 _ _ (hv c) (fun e => by omega) (fun e => by omega), g1.trans (grow_tell who ⟨{ a.n with round := r, step := 0 }, a.words⟩ _ _ _)⟩
    · split
      · exact ⟨h1, g1⟩
      · rename_i v l e
        exact ⟨said_tell h1 1 _ _ (hq v (by show v ∈ a.n.queue; have e' : a.n.queue = v :: l := e; rw [e']; exact List.mem_cons_self ..)) (fun e => by omega) (fun e => by omega), g1.trans (grow_tell who ⟨{ a.n with round := r, step := 0 }, a.words⟩ _ _ _)⟩

/-- What is proposed is a value. -/
structure NV (n : Nd) : Prop where
  valid : 0 ≤ n.validIn → 0 ≤ n.valid
  queue : ∀ v, v ∈ n.queue → 0 ≤ v

theorem one_said {who : Nat} {a b : At} (hw : who < 4) (T : TrueNd who a.n) (G : NG a.n) (V : NV a.n) (h : AllSaid who a) (e : one who a = some b) : AllSaid who b ∧ Grow a.n b.n ∧ NV b.n := by
  have enterV : ∀ (c : At) (r : Nat), NV c.n → NV (enter who c r).n := by
    intro c r v
    unfold YtmmgaonlmpajbacGreat.enter
    simp only
    split
    · exact ⟨v.valid, v.queue⟩
    · split
      · exact ⟨v.valid, v.queue⟩
      · split
        · exact ⟨v.valid, v.queue⟩
        · exact ⟨v.valid, v.queue⟩
  unfold one at e
  split at e
  · cases e
  · rename_i h4
    have hh : a.n.height < 4 := by have := G.height; omega
    have H := T.here hh
    split at e
    · rename_i r _
      obtain rfl := Option.some.inj e
      unfold settleAt
      simp only
      have V' : NV { a.n with settled := fun g => if g = a.n.height then a.n.sheet.val r else a.n.settled g, queue := a.n.queue.filter (fun q => q != a.n.sheet.val r), height := a.n.height + 1, bound := 0, boundIn := -1, valid := 0, validIn := -1, seen := fun _ => false } :=
        ⟨fun _ => by show (0 : Int) ≤ 0; omega, fun v hv => V.queue v (List.mem_filter.1 hv).1⟩
      have h1 : AllSaid who ⟨{ a.n with settled := fun g => if g = a.n.height then a.n.sheet.val r else a.n.settled g, queue := a.n.queue.filter (fun q => q != a.n.sheet.val r), height := a.n.height + 1, bound := 0, boundIn := -1, valid := 0, validIn := -1, seen := fun _ => false }, a.words⟩ := h.grow (Grow.of_heard rfl) rfl
      obtain ⟨p1, p2⟩ := said_enter h1 0 V'.valid V'.queue
      exact ⟨p1, grow_from p2 rfl, enterV _ 0 V'⟩
    · split at e
      · rename_i r hf
        obtain rfl := Option.some.inj e
        obtain ⟨p1, p2⟩ := said_enter h r V.valid V.queue
        exact ⟨p1, p2, enterV _ r V⟩
      · split at e
        · rename_i h0
          unfold wishes at e
          simp only at e
          split at e
          · cases e
          · rename_i c
            have is : a.n.sheet.is a.n.round = true := by
              cases hi : a.n.sheet.is a.n.round
              · exact absurd (Or.inl hi) c
              · rfl
            have hv := val_of G is
            obtain rfl := Option.some.inj e
            have h1 : AllSaid who ⟨{ a.n with step := 1 }, a.words⟩ := h.grow (Grow.of_heard rfl) rfl
            refine ⟨said_tell h1 2 _ _ ?_ (fun _ => ⟨good_say hw hh G.round (Or.inl rfl) ?_ ?_, H.wiNow h0⟩) (fun e => by omega), grow_from (grow_tell who ⟨{ a.n with step := 1 }, a.words⟩ _ _ _) rfl, ⟨V.valid, V.queue⟩⟩
            all_goals (split <;> omega)
        · rename_i h0
          unfold promises at e
          simp only at e
          split at e
          · rename_i c
            obtain rfl := Option.some.inj e
            have h1 : AllSaid who ⟨{ a.n with step := 2 }, a.words⟩ := h.grow (Grow.of_heard rfl) rfl
            exact ⟨said_tell h1 3 _ _ (by omega) (fun e => by omega) (fun _ => ⟨good_say hw hh G.round (Or.inr rfl) (by omega) (by omega), H.prNow (by omega)⟩), grow_from (grow_tell who ⟨{ a.n with step := 2 }, a.words⟩ _ _ _) rfl, ⟨V.valid, V.queue⟩⟩
          · split at e
            · rename_i _ c
              have hv := val_of G c.1
              split at e
              · rename_i h1s
                obtain rfl := Option.some.inj e
                have h1 : AllSaid who ⟨{ a.n with step := 2, bound := a.n.sheet.val a.n.round, boundIn := a.n.round, seen := fun q => if q = a.n.round then true else a.n.seen q, valid := a.n.sheet.val a.n.round, validIn := a.n.round }, a.words⟩ := h.grow (Grow.of_heard rfl) rfl
                refine ⟨said_tell h1 3 _ _ (by omega) (fun e => by omega) (fun _ => ⟨good_say hw hh G.round (Or.inr rfl) (by omega) hv.2, H.prNow (by omega)⟩), grow_from (grow_tell who ⟨{ a.n with step := 2, bound := a.n.sheet.val a.n.round, boundIn := a.n.round, seen := fun q => if q = a.n.round then true else a.n.seen q, valid := a.n.sheet.val a.n.round, validIn := a.n.round }, a.words⟩ _ _ _) rfl, ⟨fun _ => ?_, V.queue⟩⟩
                show 0 ≤ a.n.sheet.val a.n.round; omega
              · obtain rfl := Option.some.inj e
                refine ⟨h.grow (Grow.of_heard rfl) rfl, Grow.of_heard rfl, ⟨fun _ => ?_, V.queue⟩⟩
                show 0 ≤ a.n.sheet.val a.n.round; omega
            · cases e
end Go.Proofs.YtmmgaonlmpajbacGreat
namespace Go.Proofs.YtmmgaonlmpajbacGreat

/-- How much may still follow. -/
def Nd.mu (n : Nd) : Nat := (4 - n.height) * 100 + (5 - n.round) * 10 + (2 - n.step) * 2 + (if n.seen n.round = true then 0 else 1)

theorem mu_tell (who : Nat) (a : At) (k v x : Int) : (tell who a k v x).n.mu = a.n.mu := rfl
theorem mu_enter (who : Nat) (a : At) (r : Nat) : (enter who a r).n.mu ≤ (4 - a.n.height) * 100 + (5 - r) * 10 + 5 := by
  have h : ({ a.n with round := r, step := 0 } : Nd).mu ≤ (4 - a.n.height) * 100 + (5 - r) * 10 + 5 := by
    simp only [Nd.mu]; split <;> omega
  unfold YtmmgaonlmpajbacGreat.enter
  simp only
  split
  · exact h
  · split
    · exact h
    · split
      · exact h
      · exact h

theorem one_mu {who : Nat} {a b : At} (G : NG a.n) (e : one who a = some b) : b.n.mu < a.n.mu := by
  have hround := G.round
  unfold one at e
  split at e
  · cases e
  · rename_i h4
    have hh : a.n.height < 4 := by have := G.height; omega
    split at e
    · rename_i r _
      obtain rfl := Option.some.inj e
      unfold settleAt
      simp only
      refine Nat.lt_of_le_of_lt (mu_enter _ _ 0) ?_
      show (4 - (a.n.height + 1)) * 100 + (5 - 0) * 10 + 5 < a.n.mu
      unfold Nd.mu
      omega
    · split at e
      · rename_i r hf
        obtain rfl := Option.some.inj e
        have hr := far_is hf
        refine Nat.lt_of_le_of_lt (mu_enter _ _ r) ?_
        unfold Nd.mu
        omega
      · split at e
        · rename_i h0
          unfold wishes at e
          simp only at e
          split at e
          · cases e
          · obtain rfl := Option.some.inj e
            rw [mu_tell]
            simp only [Nd.mu]
            omega
        · unfold promises at e
          simp only at e
          split at e
          · rename_i c
            obtain rfl := Option.some.inj e
            rw [mu_tell]
            have := c.1
            simp only [Nd.mu]
            omega
          · split at e
            · rename_i _ c
              have hs := c.2.1
              split at e
              · rename_i h1
                obtain rfl := Option.some.inj e
                rw [mu_tell]
                simp only [Nd.mu, if_true]
                omega
              · obtain rfl := Option.some.inj e
                simp only [Nd.mu, if_true, hs]
                simp
            · cases e

theorem mu_le {n : Nd} (G : NG n) : n.mu ≤ 455 := by
  have := G.round
  unfold Nd.mu
  split <;> omega

/-- With fuel for it, nothing more follows in the end. -/
theorem all_ends {who : Nat} (hw : who < 4) : ∀ (m : Nat) (a : At), TrueNd who a.n → NG a.n → a.n.mu ≤ m → one who (all who m a) = none
  | 0, a, T, G, h => by
    unfold all
    cases e : one who a with
    | none => rfl
    | some b => have := one_mu G e; omega
  | m + 1, a, T, G, h => by
    unfold all
    cases e : one who a with
    | none => exact e
    | some b =>
      obtain ⟨T', G'⟩ := one_true hw T G e
      exact all_ends hw m b T' G' (by have := one_mu G e; omega)

theorem all_said {who : Nat} (hw : who < 4) : ∀ (m : Nat) (a : At), TrueNd who a.n → NG a.n → NV a.n → AllSaid who a → AllSaid who (all who m a) ∧ Grow a.n (all who m a).n ∧ NV (all who m a).n
  | 0, a, _, _, V, S => ⟨S, Grow.refl _, V⟩
  | m + 1, a, T, G, V, S => by
    unfold all
    cases e : one who a with
    | none => exact ⟨S, Grow.refl _, V⟩
    | some b =>
      obtain ⟨T', G'⟩ := one_true hw T G e
      obtain ⟨S', g, V'⟩ := one_said hw T G V S e
      obtain ⟨p1, p2, p3⟩ := all_said hw m b T' G' V' S'
      exact ⟨p1, g.trans p2, p3⟩

/-- All that follows. -/
def follow (who : Nat) (a : At) : At := all who 455 a

/-- It hears a word of another: P3.8. -/
def hearN (who : Nat) (n : Nd) (w : Wd) : At := follow who ⟨n.setSheet w.h.toNat (hearW (n.heard w.h.toNat) w), []⟩
/-- A value is submitted: P3.9. -/
def submitN (who : Nat) (n : Nd) (v : Int) : At :=
  let m : Nd := { n with queue := n.queue ++ [v] }
  if m.height < 4 ∧ m.step = 0 then follow who (enter who ⟨m, []⟩ m.round) else ⟨m, []⟩
/-- Its time is over: P3.10. -/
def timeN (who : Nat) (n : Nd) : At :=
  if n.height = 4 then ⟨n, []⟩
  else if n.step = 0 then follow who (tell who ⟨{ n with step := 1 }, []⟩ 2 0 0)
  else if n.step = 1 then (if 3 ≤ allV (n.sheet.wi n.round) then follow who (tell who ⟨{ n with step := 2 }, []⟩ 3 0 0) else follow who ⟨n, []⟩)
  else if 3 ≤ allV (n.sheet.pr n.round) ∧ n.round < 5 then follow who (enter who ⟨n, []⟩ (n.round + 1)) else follow who ⟨n, []⟩

/-- All that is asked of a node that is true. -/
structure Fit (who : Nat) (n : Nd) : Prop where
  tru : TrueNd who n
  good : NG n
  vals : NV n

theorem follow_fit {who : Nat} (hw : who < 4) {a : At} (F : Fit who a.n) (S : AllSaid who a) : Fit who (follow who a).n ∧ AllSaid who (follow who a) ∧ Grow a.n (follow who a).n := by
  obtain ⟨T, G⟩ := all_true hw 455 a F.tru F.good
  obtain ⟨p1, p2, p3⟩ := all_said hw 455 a F.tru F.good F.vals S
  exact ⟨⟨T, G, p3⟩, p1, p2⟩

theorem nothing_said (who : Nat) (n : Nd) : AllSaid who ⟨n, []⟩ := fun _ h => by cases h

theorem hear_fit {who : Nat} (hw : who < 4) {n : Nd} (F : Fit who n) (w : Wd) (hf : w.f ≠ who) : Fit who (hearN who n w).n ∧ AllSaid who (hearN who n w) ∧ Grow n (hearN who n w).n := by
  have F1 : Fit who (n.setSheet w.h.toNat (hearW (n.heard w.h.toNat) w)) := by
    refine ⟨F.tru.hear _ w hf, ⟨F.good.round, F.good.height, fun g => ?_⟩, ⟨F.vals.valid, F.vals.queue⟩⟩
    simp only [Nd.setSheet]
    split
    · exact goodS_hear _ _ (F.good.sheets _)
    · exact F.good.sheets g
  obtain ⟨p1, p2, p3⟩ := follow_fit hw (a := ⟨n.setSheet w.h.toNat (hearW (n.heard w.h.toNat) w), []⟩) F1 (nothing_said _ _)
  exact ⟨p1, p2, (grow_set n _ w).trans p3⟩

theorem enter_fit {who : Nat} {a : At} (F : Fit who a.n) (S : AllSaid who a) (r : Nat) (hr6 : r < 6) (hr : a.n.height < 4 → (a.n.round < r ∧ r < 6) ∨ (r = a.n.round ∧ a.n.step = 0)) :
    Fit who (enter who a r).n ∧ AllSaid who (enter who a r) ∧ Grow a.n (enter who a r).n := by
  obtain ⟨p1, p2⟩ := said_enter S r F.vals.valid F.vals.queue
  refine ⟨⟨F.tru.enter r hr, F.good.enter r hr6, ?_⟩, p1, p2⟩
  unfold YtmmgaonlmpajbacGreat.enter
  simp only
  split
  · exact ⟨F.vals.valid, F.vals.queue⟩
  · split
    · exact ⟨F.vals.valid, F.vals.queue⟩
    · split
      · exact ⟨F.vals.valid, F.vals.queue⟩
      · exact ⟨F.vals.valid, F.vals.queue⟩

theorem submit_fit {who : Nat} (hw : who < 4) {n : Nd} (F : Fit who n) (v : Int) (v0 : 0 ≤ v) : Fit who (submitN who n v).n ∧ AllSaid who (submitN who n v) ∧ Grow n (submitN who n v).n := by
  have F1 : Fit who { n with queue := n.queue ++ [v] } := by
    refine ⟨F.tru.alike ⟨rfl, rfl, rfl, rfl, rfl, fun g => More.refl _ _⟩, ⟨F.good.round, F.good.height, F.good.sheets⟩, ⟨F.vals.valid, fun q hq => ?_⟩⟩
    rcases List.mem_append.1 hq with h | h
    · exact F.vals.queue q h
    · obtain rfl := List.mem_singleton.1 h; exact v0
  unfold submitN
  simp only
  split
  · rename_i c
    obtain ⟨p1, p2, p3⟩ := enter_fit (a := ⟨{ n with queue := n.queue ++ [v] }, []⟩) F1 (nothing_said _ _) n.round F.good.round (fun _ => Or.inr ⟨rfl, c.2⟩)
    obtain ⟨q1, q2, q3⟩ := follow_fit hw p1 p2
    exact ⟨q1, q2, grow_from (p3.trans q3) rfl⟩
  · exact ⟨F1, nothing_said _ _, Grow.of_heard rfl⟩

theorem time_fit {who : Nat} (hw : who < 4) {n : Nd} (F : Fit who n) : Fit who (timeN who n).n ∧ AllSaid who (timeN who n) ∧ Grow n (timeN who n).n := by
  unfold timeN
  split
  · exact ⟨F, nothing_said _ _, Grow.refl _⟩
  · rename_i h4
    have hh : n.height < 4 := by have := F.good.height; omega
    have H := F.tru.here hh
    split
    · rename_i h0
      have T1 := F.tru.wish (a := ⟨n, []⟩) hw hh F.good.round h0 0 (by omega) (by omega) (fun h => by omega)
      have F1 : Fit who (tell who ⟨{ n with step := 1 }, []⟩ 2 0 0).n := ⟨T1, NG.tell (a := ⟨{ n with step := 1 }, []⟩) ⟨F.good.round, F.good.height, F.good.sheets⟩ _ _ _, ⟨F.vals.valid, F.vals.queue⟩⟩
      have S1 : AllSaid who (tell who ⟨{ n with step := 1 }, []⟩ 2 0 0) := said_tell (nothing_said _ _) 2 0 0 (by omega) (fun _ => ⟨good_say hw hh F.good.round (Or.inl rfl) (by omega) (by omega), H.wiNow h0⟩) (fun e => by omega)
      obtain ⟨q1, q2, q3⟩ := follow_fit hw F1 S1
      exact ⟨q1, q2, grow_from ((grow_tell who ⟨{ n with step := 1 }, []⟩ 2 0 0).trans q3) rfl⟩
    · split
      · rename_i _ h1
        split
        · have T1 := F.tru.promise (a := ⟨n, []⟩) hw hh F.good.round h1 0 (by omega) (by omega) (fun h => by omega) n.bound n.boundIn (Or.inr ⟨rfl, rfl, rfl⟩) n.seen n.valid n.validIn
          have F1 : Fit who (tell who ⟨{ n with step := 2 }, []⟩ 3 0 0).n := ⟨T1, NG.tell (a := ⟨{ n with step := 2 }, []⟩) ⟨F.good.round, F.good.height, F.good.sheets⟩ _ _ _, ⟨F.vals.valid, F.vals.queue⟩⟩
          have S1 : AllSaid who (tell who ⟨{ n with step := 2 }, []⟩ 3 0 0) := said_tell (nothing_said _ _) 3 0 0 (by omega) (fun e => by omega) (fun _ => ⟨good_say hw hh F.good.round (Or.inr rfl) (by omega) (by omega), H.prNow (by omega)⟩)
          obtain ⟨q1, q2, q3⟩ := follow_fit hw F1 S1
          exact ⟨q1, q2, grow_from ((grow_tell who ⟨{ n with step := 2 }, []⟩ 3 0 0).trans q3) rfl⟩
        · exact follow_fit hw (a := ⟨n, []⟩) F (nothing_said _ _)
      · split
        · rename_i c
          obtain ⟨p1, p2, p3⟩ := enter_fit (a := ⟨n, []⟩) F (nothing_said _ _) (n.round + 1) (by omega) (fun _ => Or.inl ⟨by show n.round < n.round + 1; omega, by omega⟩)
          obtain ⟨q1, q2, q3⟩ := follow_fit hw p1 p2
          exact ⟨q1, q2, p3.trans q3⟩
        · exact follow_fit hw (a := ⟨n, []⟩) F (nothing_said _ _)
end Go.Proofs.YtmmgaonlmpajbacGreat
namespace Go.Proofs.YtmmgaonlmpajbacGreat

/-- A value and the round that it is of: none, or one that has come. -/
def OkPair (v i : Int) (round : Nat) : Prop := (v = 0 ∧ i = -1) ∨ (1 ≤ v ∧ v ≤ 9 ∧ 0 ≤ i ∧ i ≤ round)
structure GN (n : Nd) : Prop where
  height : n.height ≤ 4
  round : n.round < 6
  step : n.step ≤ 2
  bd : OkPair n.bound n.boundIn n.round
  vd : OkPair n.valid n.validIn n.round
  sheets : ∀ g, goodS (n.heard g) = true
  low : ∀ h, h < n.height → 1 ≤ n.settled h ∧ n.settled h ≤ 9
  high : ∀ h, n.height ≤ h → h < 4 → n.settled h = 0
  queue : ∀ v, v ∈ n.queue → 1 ≤ v ∧ v ≤ 9
  qlen : n.queue.length ≤ 6

theorem OkPair.later {v i : Int} {r r' : Nat} (h : OkPair v i r) (hr : r ≤ r') : OkPair v i r' := by
  rcases h with h | ⟨a, b, c, d⟩
  · exact Or.inl h
  · exact Or.inr ⟨a, b, c, by omega⟩
theorem OkPair.none (r : Nat) : OkPair 0 (-1) r := Or.inl ⟨rfl, rfl⟩
theorem GN.ng {n : Nd} (h : GN n) : NG n := ⟨h.round, h.height, h.sheets⟩

theorem GN.tell {who : Nat} {a : At} (h : GN a.n) (k v x : Int) : GN (tell who a k v x).n := by
  refine ⟨h.height, h.round, h.step, h.bd, h.vd, fun g => ?_, h.low, h.high, h.queue, h.qlen⟩
  simp only [YtmmgaonlmpajbacGreat.tell, Nd.setSheet]
  split
  · exact goodS_hear _ _ (h.sheets _)
  · exact h.sheets g
theorem GN.came {n : Nd} (h : GN n) (r : Nat) (h1 : n.round ≤ r) (h2 : r < 6) : GN { n with round := r, step := 0 } :=
  ⟨h.height, h2, by show 0 ≤ 2; omega, h.bd.later h1, h.vd.later h1, h.sheets, h.low, h.high, h.queue, h.qlen⟩
theorem GN.enterC {who : Nat} {a : At} {r : Nat} (hc : GN { a.n with round := r, step := 0 }) : GN (enter who a r).n := by
  unfold YtmmgaonlmpajbacGreat.enter
  simp only
  split
  · exact hc
  · split
    · exact GN.tell (a := ⟨{ a.n with round := r, step := 0 }, a.words⟩) hc _ _ _
    · split
      · exact hc
      · exact GN.tell (a := ⟨{ a.n with round := r, step := 0 }, a.words⟩) hc _ _ _
theorem GN.enter {who : Nat} {a : At} (h : GN a.n) (r : Nat) (h1 : a.n.round ≤ r) (h2 : r < 6) : GN (enter who a r).n := GN.enterC (h.came r h1 h2)
theorem GN.valR {n : Nd} (h : GN n) {g r : Nat} (hr : r < 6) (is : (n.heard g).is r = true) : 1 ≤ (n.heard g).val r ∧ (n.heard g).val r ≤ 9 ∧ -1 ≤ (n.heard g).vld r ∧ (n.heard g).vld r < r := by
  have := ((goodS_iff _).1 (h.sheets g) r hr).1
  simp [okCall, is, win] at this
  omega
theorem GN.settle {who : Nat} {a : At} (h : GN a.n) (hh : a.n.height < 4) {r : Nat} (hr : r < 6) (hs : settles a.n.sheet r = true) : GN (settleAt who a r).n := by
  have hi : (a.n.heard a.n.height).is r = true := by
    have hs' : settles (a.n.heard a.n.height) r = true := hs
    simp [settles] at hs'
    exact hs'.1
  have hv := h.valR hr hi
  unfold settleAt
  refine GN.enterC ⟨by show a.n.height + 1 ≤ 4; omega, by show 0 < 6; omega, by show 0 ≤ 2; omega, OkPair.none _, OkPair.none _, h.sheets, fun g hg => ?_, fun g hg h4 => ?_, fun v hm => h.queue v ((List.mem_filter.1 hm).1), Nat.le_trans (List.length_filter_le _ _) h.qlen⟩
  · have hg' : g < a.n.height + 1 := hg
    show 1 ≤ (if g = a.n.height then a.n.sheet.val r else a.n.settled g) ∧ (if g = a.n.height then a.n.sheet.val r else a.n.settled g) ≤ 9
    by_cases e : g = a.n.height
    · rw [if_pos e]; exact ⟨hv.1, hv.2.1⟩
    · rw [if_neg e]; exact h.low g (by omega)
  · have hg' : a.n.height + 1 ≤ g := hg
    show (if g = a.n.height then a.n.sheet.val r else a.n.settled g) = 0
    rw [if_neg (by omega)]
    exact h.high g (by omega) h4
theorem first_is {S : Sh} {r : Nat} (h : firstSettled S = some r) : r < 6 ∧ settles S r = true := by
  unfold firstSettled at h
  exact ⟨by simpa using List.mem_of_find?_eq_some h, List.find?_some h⟩
theorem GN.wishes {who : Nat} {a b : At} (h : GN a.n) (e : wishes who a = some b) : GN b.n := by
  unfold YtmmgaonlmpajbacGreat.wishes at e
  simp only at e
  split at e
  · cases e
  · obtain rfl := Option.some.inj e
    exact GN.tell (a := ⟨{ a.n with step := 1 }, a.words⟩) ⟨h.height, h.round, by show 1 ≤ 2; omega, h.bd, h.vd, h.sheets, h.low, h.high, h.queue, h.qlen⟩ _ _ _
theorem GN.promises {who : Nat} {a b : At} (h : GN a.n) (e : promises who a = some b) : GN b.n := by
  unfold YtmmgaonlmpajbacGreat.promises at e
  simp only at e
  split at e
  · obtain rfl := Option.some.inj e
    exact GN.tell (a := ⟨{ a.n with step := 2 }, a.words⟩) ⟨h.height, h.round, by show 2 ≤ 2; omega, h.bd, h.vd, h.sheets, h.low, h.high, h.queue, h.qlen⟩ _ _ _
  · split at e
    · rename_i _ c
      have hv := h.valR (g := a.n.height) h.round c.1
      have hp : OkPair (a.n.sheet.val a.n.round) (a.n.round : Int) a.n.round := Or.inr ⟨hv.1, hv.2.1, by omega, by omega⟩
      split at e
      · obtain rfl := Option.some.inj e
        exact GN.tell (a := ⟨{ a.n with seen := fun q => if q = a.n.round then true else a.n.seen q, valid := a.n.sheet.val a.n.round, validIn := a.n.round, bound := a.n.sheet.val a.n.round, boundIn := a.n.round, step := 2 }, a.words⟩) ⟨h.height, h.round, by show 2 ≤ 2; omega, hp, hp, h.sheets, h.low, h.high, h.queue, h.qlen⟩ _ _ _
      · obtain rfl := Option.some.inj e
        exact ⟨h.height, h.round, h.step, h.bd, hp, h.sheets, h.low, h.high, h.queue, h.qlen⟩
    · cases e
theorem GN.one {who : Nat} {a b : At} (h : GN a.n) (e : one who a = some b) : GN b.n := by
  unfold YtmmgaonlmpajbacGreat.one at e
  split at e
  · cases e
  · rename_i h4
    have hh : a.n.height < 4 := by have := h.height; omega
    split at e
    · rename_i r hf
      obtain rfl := Option.some.inj e
      exact h.settle hh (first_is hf).1 (first_is hf).2
    · split at e
      · rename_i r hf
        obtain rfl := Option.some.inj e
        have hr := far_is hf
        exact h.enter r (by omega) hr.2
      · split at e
        · exact h.wishes e
        · exact h.promises e

/-- How many words one thing adds. -/
theorem enter_len (who : Nat) (a : At) (r : Nat) : (enter who a r).words.length ≤ a.words.length + 1 := by
  unfold enter
  simp only
  split
  · simp
  · split
    · simp [tell]
    · split
      · simp
      · simp [tell]
theorem one_len {who : Nat} {a b : At} (e : one who a = some b) : b.words.length ≤ a.words.length + 1 := by
  unfold one at e
  split at e
  · cases e
  · split at e
    · obtain rfl := Option.some.inj e
      exact enter_len _ _ _
    · split at e
      · obtain rfl := Option.some.inj e
        exact enter_len _ _ _
      · split at e
        · unfold wishes at e
          simp only at e
          split at e
          · cases e
          · obtain rfl := Option.some.inj e; simp [tell]
        · unfold promises at e
          simp only at e
          split at e
          · obtain rfl := Option.some.inj e; simp [tell]
          · split at e
            · split at e
              · obtain rfl := Option.some.inj e; simp [tell]
              · obtain rfl := Option.some.inj e; simp
            · cases e

/-- A good node at work that has not said too much yet. -/
structure FI (a : At) : Prop where
  good : GN a.n
  few : a.words.length + a.n.mu ≤ 1000
theorem FI.one {who : Nat} {a b : At} (h : FI a) (e : one who a = some b) : FI b ∧ b.n.mu < a.n.mu := by
  have h1 := one_mu h.good.ng e
  have h2 := one_len e
  have h3 := h.few
  exact ⟨⟨h.good.one e, by omega⟩, h1⟩
theorem FI.len {a : At} (h : FI a) : a.words.length < 100000 := by have := h.few; omega

/-- More fuel changes nothing. -/
theorem all_fuel {who : Nat} : ∀ (m m' : Nat) (a : At), FI a → a.n.mu ≤ m → a.n.mu ≤ m' → all who m a = all who m' a
  | 0, 0, _, _, _, _ => rfl
  | 0, m' + 1, a, h, h0, _ => by
    unfold all
    cases e : YtmmgaonlmpajbacGreat.one who a with
    | none => rfl
    | some b => have := (h.one e).2; omega
  | m + 1, 0, a, h, _, h0 => by
    unfold all
    cases e : YtmmgaonlmpajbacGreat.one who a with
    | none => rfl
    | some b => have := (h.one e).2; omega
  | m + 1, m' + 1, a, h, h1, h2 => by
    unfold all
    cases e : YtmmgaonlmpajbacGreat.one who a with
    | none => rfl
    | some b =>
      have hb := h.one e
      exact all_fuel m m' b hb.1 (by omega) (by omega)
theorem all_succ (who m : Nat) (a : At) : all who (m + 1) a = match one who a with | none => a | some b => all who m b := rfl
theorem follow_none {who : Nat} {a : At} (e : one who a = none) : follow who a = a := by
  show all who (454 + 1) a = _
  rw [all_succ, e]
theorem follow_some {who : Nat} {a b : At} (h : FI a) (e : one who a = some b) : follow who a = follow who b := by
  have hb := h.one e
  have hm := mu_le h.good.ng
  have h1 : follow who a = all who 454 b := by
    show all who (454 + 1) a = _
    rw [all_succ, e]
  rw [h1]
  exact all_fuel 454 455 b hb.1 (by omega) (by omega)
theorem follow_ends {who : Nat} : ∀ (m : Nat) (a : At), FI a → a.n.mu ≤ m → one who (follow who a) = none ∧ FI (follow who a)
  | 0, a, h, hm => by
    cases e : YtmmgaonlmpajbacGreat.one who a with
    | none => rw [follow_none e]; exact ⟨e, h⟩
    | some b => have := (h.one e).2; omega
  | m + 1, a, h, hm => by
    cases e : YtmmgaonlmpajbacGreat.one who a with
    | none => rw [follow_none e]; exact ⟨e, h⟩
    | some b =>
      rw [follow_some h e]
      exact follow_ends m b (h.one e).1 (by have := (h.one e).2; omega)

/-- The bounds that the walk asks for. -/
theorem GN.votes {n : Nd} (h : GN n) (g : Nat) {r : Nat} (hr : r < 6) : VBd ((n.heard g).wi r) ∧ VBd ((n.heard g).pr r) := by
  have hv := ((goodS_iff _).1 (h.sheets g) r hr).2
  constructor
  · intro i hi
    have := hv i hi
    simp [okVote, win] at this
    omega
  · intro i hi
    have := hv i hi
    simp [okVote, win] at this
    omega
end Go.Proofs.YtmmgaonlmpajbacGreat
