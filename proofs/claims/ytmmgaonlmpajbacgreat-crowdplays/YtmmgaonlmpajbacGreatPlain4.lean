/-
  What a good node does with a word, a value, time: what keep's three statements say of it, as plain numbers.
-/
import Derived.Test.YtmmgaonlmpajbacGreatPlainN
namespace Go.Proofs.YtmmgaonlmpajbacGreat

/-- What each thing that follows keeps, all that follows keeps. -/
theorem follow_keeps {who : Nat} {P : At → Prop} (hP : ∀ a b, FI a → P a → one who a = some b → P b) : ∀ (m : Nat) (a : At), FI a → a.n.mu ≤ m → P a → P (follow who a)
  | 0, a, h, hm, hp => by
    cases e : one who a with
    | none => rw [follow_none e]; exact hp
    | some b => have := (h.one e).2; omega
  | m + 1, a, h, hm, hp => by
    cases e : one who a with
    | none => rw [follow_none e]; exact hp
    | some b =>
      rw [follow_some h e]
      exact follow_keeps hP m b (h.one e).1 (by have := (h.one e).2; omega) (hP a b h hp e)

/-- A statement that a node's saying and entering keep, and each step, is kept. -/
structure Steady (who : Nat) (P : At → Prop) : Prop where
  tell : ∀ a k v x, P a → a.n.height ≠ 4 → P (tell who a k v x)
  came : ∀ a r, P a → a.n.round < r → P ⟨{ a.n with round := r, step := 0 }, a.words⟩
  left : ∀ a r, P a → FI a → a.n.height < 4 → r < 6 → settles a.n.sheet r = true → P ⟨{ a.n with settled := fun g => if g = a.n.height then a.n.sheet.val r else a.n.settled g, queue := a.n.queue.filter (fun q => q != a.n.sheet.val r), height := a.n.height + 1, bound := 0, boundIn := -1, valid := 0, validIn := -1, seen := fun _ => false, round := 0, step := 0 }, a.words⟩
  step : ∀ a s, P a → a.n.step ≤ s → P ⟨{ a.n with step := s }, a.words⟩
  seen : ∀ a (f : Nat → Bool) (b bi v vi : Int), P a → P ⟨{ a.n with seen := f, bound := b, boundIn := bi, valid := v, validIn := vi }, a.words⟩

theorem Steady.enterC {who : Nat} {P : At → Prop} (S : Steady who P) {a : At} {r : Nat} (hc : P ⟨{ a.n with round := r, step := 0 }, a.words⟩) : P (enter who a r) := by
  unfold enter
  simp only
  split
  · exact hc
  · rename_i c
    have h4 : a.n.height ≠ 4 := fun h => c (Or.inl h)
    split
    · exact S.tell ⟨{ a.n with round := r, step := 0 }, a.words⟩ _ _ _ hc h4
    · split
      · exact hc
      · exact S.tell ⟨{ a.n with round := r, step := 0 }, a.words⟩ _ _ _ hc h4
theorem Steady.one {who : Nat} {P : At → Prop} (S : Steady who P) {a b : At} (F : FI a) (hp : P a) (e : one who a = some b) : P b := by
  unfold YtmmgaonlmpajbacGreat.one at e
  split at e
  · cases e
  · rename_i h4
    have hh : a.n.height < 4 := by have := F.good.height; omega
    split at e
    · rename_i r hf
      obtain rfl := Option.some.inj e
      exact S.enterC (S.left a r hp F hh (first_is hf).1 (first_is hf).2)
    · split at e
      · rename_i r hf
        obtain rfl := Option.some.inj e
        exact S.enterC (S.came a r hp (by have := far_is hf; omega))
      · split at e
        · rename_i h0
          unfold wishes at e
          simp only at e
          split at e
          · cases e
          · obtain rfl := Option.some.inj e
            exact S.tell ⟨{ a.n with step := 1 }, a.words⟩ _ _ _ (S.step a 1 hp (by omega)) (by show a.n.height ≠ 4; omega)
        · unfold promises at e
          simp only at e
          split at e
          · rename_i c
            obtain rfl := Option.some.inj e
            exact S.tell ⟨{ a.n with step := 2 }, a.words⟩ _ _ _ (S.step a 2 hp (by omega)) (by show a.n.height ≠ 4; omega)
          · split at e
            · split at e
              · rename_i h1
                obtain rfl := Option.some.inj e
                have h2 := S.seen a (fun q => if q = a.n.round then true else a.n.seen q) (a.n.sheet.val a.n.round) a.n.round (a.n.sheet.val a.n.round) a.n.round hp
                exact S.tell _ _ _ _ (S.step _ 2 h2 (by show a.n.step ≤ 2; omega)) (by show a.n.height ≠ 4; omega)
              · obtain rfl := Option.some.inj e
                exact S.seen a (fun q => if q = a.n.round then true else a.n.seen q) a.n.bound a.n.boundIn (a.n.sheet.val a.n.round) a.n.round hp
            · cases e
theorem Steady.follow {who : Nat} {P : At → Prop} (S : Steady who P) {a : At} (F : FI a) (hp : P a) : P (follow who a) :=
  follow_keeps (fun _ _ F hp e => S.one F hp e) _ a F (Nat.le_refl _) hp

/-! ### What was heard once changes nothing -/
theorem heard_stays {S : Sh} {v : Wd} (g : v.good) (h : hearW S v = S) (u : Wd) (hu : u.h = v.h) : hearW (hearW S u) v = hearW S u := by
  by_cases e : u.k = v.k ∧ u.f = v.f ∧ u.r = v.r
  · have h1 := hear_twice S v u g e.1.symm e.2.1.symm hu.symm e.2.2.symm
    rw [h] at h1
    rw [h1, h]
  · rw [hear_comm S u v hu e, h]
/-- The node has heard the word. -/
def HasHeard (v : Wd) (h : Nat) (a : At) : Prop := hearW (a.n.heard h) v = a.n.heard h
theorem heard_steady (who : Nat) {v : Wd} {h : Nat} (g : v.good) (hv : v.h = (h : Int)) : Steady who (HasHeard v h) := by
  refine ⟨fun a k x y hp _ => ?_, fun a r hp _ => hp, fun a r hp _ _ _ _ => hp, fun a s hp _ => hp, fun a f b bi x xi hp => hp⟩
  show hearW (if h = a.n.height then hearW a.n.sheet (sayW who a.n k x y) else a.n.heard h) v = if h = a.n.height then hearW a.n.sheet (sayW who a.n k x y) else a.n.heard h
  by_cases e : h = a.n.height
  · rw [if_pos e]
    have hp' : hearW a.n.sheet v = a.n.sheet := by
      have hp2 : hearW (a.n.heard h) v = a.n.heard h := hp
      rw [e] at hp2; exact hp2
    exact heard_stays g hp' _ (by rw [hv, e]; rfl)
  · rw [if_neg e]; exact hp
theorem wishes_words {who : Nat} {a : At} (l : List Wd) (h : wishes who a = none) : wishes who ⟨a.n, l⟩ = none := by
  unfold wishes at h ⊢
  simp only at h ⊢
  split at h
  · rename_i c; exact if_pos c
  · cases h
theorem promises_words {who : Nat} {a : At} (l : List Wd) (h : promises who a = none) : promises who ⟨a.n, l⟩ = none := by
  unfold promises at h ⊢
  simp only at h ⊢
  split at h
  · cases h
  · rename_i c
    refine (if_neg c).trans ?_
    split at h
    · split at h
      · cases h
      · cases h
    · rename_i c2; exact if_neg c2
theorem one_none_words {who : Nat} {a : At} (l : List Wd) (h : one who a = none) : one who ⟨a.n, l⟩ = none := by
  by_cases h4 : a.n.height = 4
  · exact if_pos h4
  · have h1 : (match firstSettled a.n.sheet with
      | some r => some (settleAt who a r)
      | none => match farRound a.n.sheet a.n.round with
        | some r => some (enter who a r)
        | none => if a.n.step = 0 then wishes who a else promises who a) = none := (if_neg h4).symm.trans h
    refine (if_neg h4).trans ?_
    show (match firstSettled a.n.sheet with
      | some r => some (settleAt who ⟨a.n, l⟩ r)
      | none => match farRound a.n.sheet a.n.round with
        | some r => some (enter who ⟨a.n, l⟩ r)
        | none => if a.n.step = 0 then wishes who ⟨a.n, l⟩ else promises who ⟨a.n, l⟩) = none
    cases hf : firstSettled a.n.sheet with
    | some r => rw [hf] at h1; cases h1
    | none =>
      rw [hf] at h1
      cases hr : farRound a.n.sheet a.n.round with
      | some r => rw [hr] at h1; cases h1
      | none =>
        rw [hr] at h1
        by_cases h0 : a.n.step = 0
        · have h2 : wishes who a = none := (if_pos h0).symm.trans h1
          exact (if_pos h0).trans (wishes_words l h2)
        · have h2 : promises who a = none := (if_neg h0).symm.trans h1
          exact (if_neg h0).trans (promises_words l h2)
/-- A word that was heard once changes nothing if it is heard again. -/
theorem hear_again {who : Nat} {n : Nd} (G : GN n) {v : Wd} {h : Nat} (g : v.good) (hv : v.h = (h : Int)) :
    let x := follow who ⟨n.setSheet h (hearW (n.heard h) v), []⟩
    follow who ⟨x.n.setSheet h (hearW (x.n.heard h) v), []⟩ = ⟨x.n, []⟩ := by
  intro x
  have G1 : GN (n.setSheet h (hearW (n.heard h) v)) := by
    refine ⟨G.height, G.round, G.step, G.bd, G.vd, fun k => ?_, G.low, G.high, G.queue, G.qlen⟩
    simp only [Nd.setSheet]
    split
    · exact goodS_hear _ _ (G.sheets _)
    · exact G.sheets k
  have F1 : FI ⟨n.setSheet h (hearW (n.heard h) v), []⟩ := ⟨G1, by have := mu_le G1.ng; simp; omega⟩
  have hh : HasHeard v h x := (heard_steady who g hv).follow F1 (by
    show hearW (if h = h then hearW (n.heard h) v else n.heard h) v = if h = h then hearW (n.heard h) v else n.heard h
    rw [if_pos rfl]
    exact hear_twice _ v v g rfl rfl rfl rfl)
  have he := (follow_ends (who := who) _ _ F1 (Nat.le_refl _)).1
  have e : x.n.setSheet h (hearW (x.n.heard h) v) = x.n := by
    have hh' : hearW (x.n.heard h) v = x.n.heard h := hh
    rw [hh']
    unfold Nd.setSheet
    have : (fun g => if g = h then x.n.heard h else x.n.heard g) = x.n.heard := by
      funext g
      by_cases c : g = h
      · rw [if_pos c, c]
      · rw [if_neg c]
    rw [this]
  rw [e]
  exact follow_none (one_none_words [] he)

/-! ### What is settled newly -/
/-- Each height that was left behind since n0 has a round in which a quorum has promised what is settled there. -/
def SetBy (n0 : Nd) (a : At) : Prop := n0.height ≤ a.n.height ∧ ∀ h, n0.height ≤ h → h < a.n.height → ∃ r, r < 6 ∧ settles (a.n.heard h) r = true ∧ a.n.settled h = (a.n.heard h).val r
theorem setBy_steady (who : Nat) (n0 : Nd) : Steady who (SetBy n0) := by
  refine ⟨fun a k v x hp _ => ⟨hp.1, fun h h1 h2 => ?_⟩, fun a r hp _ => hp, fun a r hp F hh hr hs => ⟨by show n0.height ≤ a.n.height + 1; have := hp.1; omega, fun h h1 h2 => ?_⟩, fun a s hp _ => hp, fun a f b bi v vi hp => hp⟩
  · have h2' : h < a.n.height := h2
    obtain ⟨r, hr, h3, h4⟩ := hp.2 h h1 h2'
    have e : (tell who a k v x).n.heard h = a.n.heard h := by
      show (if h = a.n.height then _ else a.n.heard h) = _
      rw [if_neg (by omega)]
    exact ⟨r, hr, by rw [e]; exact h3, by rw [e]; exact h4⟩
  · have h2' : h < a.n.height + 1 := h2
    by_cases e : h = a.n.height
    · subst e
      exact ⟨r, hr, hs, if_pos rfl⟩
    · obtain ⟨r', hr', h3, h4⟩ := hp.2 h h1 (by omega)
      exact ⟨r', hr', h3, by show (if h = a.n.height then _ else a.n.settled h) = _; rw [if_neg e]; exact h4⟩

/-! ### It goes on, never back, and says what it says itself -/
/-- Later, or the same. -/
def Later (n0 n : Nd) : Prop := n0.height < n.height ∨ (n0.height = n.height ∧ (n0.round < n.round ∨ (n0.round = n.round ∧ n0.step ≤ n.step)))
structure GoesOn (n0 : Nd) (who : Nat) (a : At) : Prop where
  later : Later n0 a.n
  keeps : ∀ h, h < n0.height → a.n.settled h = n0.settled h
  words : ∀ u, u ∈ a.words → u.f = who ∧ (n0.height : Int) ≤ u.h ∧ u.h ≤ a.n.height ∧ (u.h = n0.height → (n0.round : Int) ≤ u.r)
theorem goesOn_steady (who : Nat) (n0 : Nd) : Steady who (GoesOn n0 who) := by
  refine ⟨fun a k v x hp _ => ⟨hp.later, hp.keeps, fun u hu => ?_⟩, fun a r hp hr => ⟨?_, hp.keeps, hp.words⟩, fun a r hp F hh hr hs => ⟨Or.inl ?_, fun h hh => ?_, fun u hu => ?_⟩, fun a s hp hs => ⟨?_, hp.keeps, hp.words⟩, fun a f b bi v vi hp => ⟨hp.later, hp.keeps, hp.words⟩⟩
  · have hu' : u ∈ a.words ++ [sayW who a.n k v x] := hu
    rcases List.mem_append.1 hu' with h | h
    · exact hp.words u h
    · obtain rfl := List.mem_singleton.1 h
      have hl := hp.later
      unfold Later at hl
      refine ⟨rfl, ?_, Int.le_refl _, fun h => ?_⟩
      · show (n0.height : Int) ≤ (a.n.height : Int); omega
      · have h' : (a.n.height : Int) = (n0.height : Int) := h
        show (n0.round : Int) ≤ (a.n.round : Int); omega
  · have hl := hp.later
    unfold Later at hl ⊢
    show n0.height < a.n.height ∨ (n0.height = a.n.height ∧ (n0.round < r ∨ (n0.round = r ∧ n0.step ≤ 0)))
    omega
  · have hl := hp.later
    unfold Later at hl
    show n0.height < a.n.height + 1; omega
  · have hl := hp.later
    unfold Later at hl
    show (if h = a.n.height then _ else a.n.settled h) = _
    rw [if_neg (by omega)]; exact hp.keeps h hh
  · obtain ⟨h1, h2, h3, h4⟩ := hp.words u hu
    exact ⟨h1, h2, by show u.h ≤ ((a.n.height + 1 : Nat) : Int); omega, h4⟩
  · have hl := hp.later
    unfold Later at hl ⊢
    show n0.height < a.n.height ∨ (n0.height = a.n.height ∧ (n0.round < a.n.round ∨ (n0.round = a.n.round ∧ n0.step ≤ s)))
    omega

/-! ### Beyond the fourth height nothing is heard -/
def Beyond (S : Sh) (a : At) : Prop := a.n.height ≤ 4 ∧ ∀ g, 4 ≤ g → a.n.heard g = S
theorem beyond_steady (who : Nat) (S : Sh) : Steady who (Beyond S) := by
  refine ⟨fun a k v x hp h4 => ⟨hp.1, fun g hg => ?_⟩, fun a r hp _ => hp, fun a r hp F hh hr hs => ⟨by show a.n.height + 1 ≤ 4; omega, hp.2⟩, fun a s hp _ => hp, fun a f b bi v vi hp => hp⟩
  show (if g = a.n.height then _ else a.n.heard g) = S
  rw [if_neg (by have := hp.1; omega)]
  exact hp.2 g hg
end Go.Proofs.YtmmgaonlmpajbacGreat
