/-
  Four plain nodes and the letters between them: what is heard of one that is true, that one has said; what is settled was promised by a quorum.
-/
import Derived.Test.YtmmgaonlmpajbabPlainN
namespace Go.Proofs.Ytmmgaonlmpajbab

/-- A step of node 'who': what it holds of others stays; what is settled stays, and what is settled newly was promised by a quorum. -/
structure Step (who : Nat) (n n' : Nd) : Prop where
  wi : ∀ g r i, i ≠ who → (n'.heard g).wi r i = (n.heard g).wi r i
  pr : ∀ g r i, i ≠ who → (n'.heard g).pr r i = (n.heard g).pr r i
  up : n.height ≤ n'.height
  old : ∀ g, g < n.height → n'.settled g = n.settled g
  new : ∀ g, n.height ≤ g → g < n'.height → ∃ r, r < 6 ∧ 1 ≤ n'.settled g ∧ n'.settled g ≤ 9 ∧ 3 ≤ cntV ((n'.heard g).pr r) (n'.settled g)
  zero : ∀ g, n'.height ≤ g → n'.settled g = n.settled g
  grow : Grow n n'

theorem Step.refl (who : Nat) (n : Nd) : Step who n n := ⟨fun _ _ _ _ => rfl, fun _ _ _ _ => rfl, Nat.le_refl _, fun _ _ => rfl, fun g h1 h2 => by omega, fun _ _ => rfl, Grow.refl n⟩
theorem Step.trans {who : Nat} {a b c : Nd} (h : Step who a b) (k : Step who b c) : Step who a c := by
  refine ⟨fun g r i hi => (k.wi g r i hi).trans (h.wi g r i hi), fun g r i hi => (k.pr g r i hi).trans (h.pr g r i hi), Nat.le_trans h.up k.up, fun g hg => ?_, fun g h1 h2 => ?_, fun g hg => ?_, h.grow.trans k.grow⟩
  · have := h.up; exact (k.old g (by omega)).trans (h.old g hg)
  · by_cases hb : g < b.height
    · obtain ⟨r, p1, p2, p3, p4⟩ := h.new g h1 hb
      refine ⟨r, p1, ?_, ?_, ?_⟩
      · rw [k.old g hb]; exact p2
      · rw [k.old g hb]; exact p3
      · rw [k.old g hb]
        exact Int.le_trans p4 (cntV_mono (fun i hi => k.grow.pr g r i hi) _)
    · exact k.new g (by omega) h2
  · have := k.up; exact (k.zero g hg).trans (h.zero g (by omega))
/-- Nothing of what matters here has turned. -/
theorem Step.of {who : Nat} {n n' : Nd} (h1 : n'.heard = n.heard) (h2 : n'.height = n.height) (h3 : n'.settled = n.settled) : Step who n n' :=
  ⟨fun _ _ _ _ => by rw [h1], fun _ _ _ _ => by rw [h1], by omega, fun _ _ => by rw [h3], fun g a b => by omega, fun _ _ => by rw [h3], Grow.of_heard h1⟩

theorem step_tell (who : Nat) (a : At) (k v x : Int) : Step who a.n (tell who a k v x).n := by
  refine ⟨fun g r i hi => ?_, fun g r i hi => ?_, Nat.le_refl _, fun _ _ => rfl, fun g h1 h2 => absurd h2 (by show ¬ g < a.n.height; omega), fun _ _ => rfl, grow_tell who a k v x⟩
  · simp only [Ytmmgaonlmpajbab.tell, Nd.setSheet]
    split
    · rename_i e; subst e
      refine (hear_wi _ _ r i).2 ?_
      rintro ⟨_, _, _, e⟩
      exact hi (by simpa [sayW] using e)
    · rfl
  · simp only [Ytmmgaonlmpajbab.tell, Nd.setSheet]
    split
    · rename_i e; subst e
      refine (hear_pr _ _ r i).2 ?_
      rintro ⟨_, _, _, e⟩
      exact hi (by simpa [sayW] using e)
    · rfl

theorem step_enter (who : Nat) (a : At) (r : Nat) : Step who a.n (enter who a r).n := by
  have h : Step who a.n { a.n with round := r, step := 0 } := Step.of rfl rfl rfl
  unfold Ytmmgaonlmpajbab.enter
  simp only
  split
  · exact h
  · split
    · exact h.trans (step_tell who ⟨{ a.n with round := r, step := 0 }, a.words⟩ _ _ _)
    · split
      · exact h
      · exact h.trans (step_tell who ⟨{ a.n with round := r, step := 0 }, a.words⟩ _ _ _)

theorem first_is3 {S : Sh} {r : Nat} (h : firstSettled S = some r) : r < 6 ∧ S.is r = true ∧ 3 ≤ cntV (S.pr r) (S.val r) := by
  unfold firstSettled at h
  have h1 := List.find?_some h
  have h2 := List.mem_of_find?_eq_some h
  simp [settles] at h1 h2
  exact ⟨h2, h1.1, h1.2⟩

theorem step_one {who : Nat} {a b : At} (G : NG a.n) (e : one who a = some b) : Step who a.n b.n := by
  unfold one at e
  split at e
  · cases e
  · split at e
    · rename_i r hf
      obtain rfl := Option.some.inj e
      obtain ⟨f1, f2, f3⟩ := first_is3 hf
      have ok := ((goodS_iff _).1 (G.sheets a.n.height) r f1).1
      have ok' : okCall a.n.sheet r = true := ok
      simp [okCall, f2, win] at ok'
      unfold settleAt
      simp only
      refine Step.trans ?_ (step_enter who _ 0)
      refine ⟨fun _ _ _ _ => rfl, fun _ _ _ _ => rfl, by show a.n.height ≤ a.n.height + 1; omega, fun g hg => ?_, fun g h1 h2 => ?_, fun g hg => ?_, Grow.of_heard rfl⟩
      · show (if g = a.n.height then _ else a.n.settled g) = a.n.settled g
        rw [if_neg (by omega)]
      · have h2' : g < a.n.height + 1 := h2
        have eg : g = a.n.height := by omega
        subst eg
        refine ⟨r, f1, ?_, ?_, ?_⟩
        · show 1 ≤ (if a.n.height = a.n.height then a.n.sheet.val r else _); rw [if_pos rfl]; omega
        · show (if a.n.height = a.n.height then a.n.sheet.val r else _) ≤ 9; rw [if_pos rfl]; omega
        · show 3 ≤ cntV ((a.n.heard a.n.height).pr r) (if a.n.height = a.n.height then a.n.sheet.val r else _); rw [if_pos rfl]; exact f3
      · have hg' : a.n.height + 1 ≤ g := hg
        show (if g = a.n.height then _ else a.n.settled g) = a.n.settled g
        rw [if_neg (by omega)]
    · split at e
      · obtain rfl := Option.some.inj e
        exact step_enter who a _
      · split at e
        · unfold wishes at e
          simp only at e
          split at e
          · cases e
          · obtain rfl := Option.some.inj e
            exact Step.trans (b := { a.n with step := 1 }) (Step.of rfl rfl rfl) (step_tell who ⟨{ a.n with step := 1 }, a.words⟩ _ _ _)
        · unfold promises at e
          simp only at e
          split at e
          · obtain rfl := Option.some.inj e
            exact Step.trans (b := { a.n with step := 2 }) (Step.of rfl rfl rfl) (step_tell who ⟨{ a.n with step := 2 }, a.words⟩ _ _ _)
          · split at e
            · split at e
              · obtain rfl := Option.some.inj e
                exact Step.trans (Step.of (n' := { a.n with step := 2, bound := a.n.sheet.val a.n.round, boundIn := a.n.round, seen := fun q => if q = a.n.round then true else a.n.seen q, valid := a.n.sheet.val a.n.round, validIn := a.n.round }) rfl rfl rfl) (step_tell who ⟨{ a.n with step := 2, bound := a.n.sheet.val a.n.round, boundIn := a.n.round, seen := fun q => if q = a.n.round then true else a.n.seen q, valid := a.n.sheet.val a.n.round, validIn := a.n.round }, a.words⟩ _ _ _)
              · obtain rfl := Option.some.inj e
                exact Step.of rfl rfl rfl
            · cases e

/-- Whatever follows keeps a node good, be it true or not. -/
theorem one_good {who : Nat} {a b : At} (G : NG a.n) (e : one who a = some b) : NG b.n := by
  unfold one at e
  split at e
  · cases e
  · rename_i h4
    have hh : a.n.height < 4 := by have := G.height; omega
    split at e
    · obtain rfl := Option.some.inj e
      unfold settleAt
      simp only
      refine NG.enter ?_ 0 (by omega)
      exact ⟨G.round, by show a.n.height + 1 ≤ 4; omega, G.sheets⟩
    · split at e
      · rename_i r hf
        obtain rfl := Option.some.inj e
        exact G.enter _ (far_is hf).2
      · split at e
        · unfold wishes at e
          simp only at e
          split at e
          · cases e
          · obtain rfl := Option.some.inj e
            exact NG.tell (a := ⟨{ a.n with step := 1 }, a.words⟩) ⟨G.round, G.height, G.sheets⟩ _ _ _
        · unfold promises at e
          simp only at e
          split at e
          · obtain rfl := Option.some.inj e
            exact NG.tell (a := ⟨{ a.n with step := 2 }, a.words⟩) ⟨G.round, G.height, G.sheets⟩ _ _ _
          · split at e
            · split at e
              · obtain rfl := Option.some.inj e
                exact NG.tell (a := ⟨{ a.n with step := 2, bound := a.n.sheet.val a.n.round, boundIn := a.n.round, seen := fun q => if q = a.n.round then true else a.n.seen q, valid := a.n.sheet.val a.n.round, validIn := a.n.round }, a.words⟩) ⟨G.round, G.height, G.sheets⟩ _ _ _
              · obtain rfl := Option.some.inj e
                exact ⟨G.round, G.height, G.sheets⟩
            · cases e
theorem all_step {who : Nat} : ∀ (m : Nat) (a : At), NG a.n → NG (all who m a).n ∧ Step who a.n (all who m a).n
  | 0, a, G => ⟨G, Step.refl _ _⟩
  | m + 1, a, G => by
    unfold all
    cases e : one who a with
    | none => exact ⟨G, Step.refl _ _⟩
    | some b =>
      obtain ⟨p1, p2⟩ := all_step m b (one_good G e)
      exact ⟨p1, (step_one G e).trans p2⟩

/-- Who says what: all words are its own. -/
def Mine (who : Nat) (a : At) : Prop := ∀ w, w ∈ a.words → w.f = who
theorem mine_tell {who : Nat} {a : At} (h : Mine who a) (k v x : Int) : Mine who (tell who a k v x) := by
  intro w hm
  have hm' : w ∈ a.words ++ [sayW who a.n k v x] := hm
  rcases List.mem_append.1 hm' with h' | h'
  · exact h w h'
  · obtain rfl := List.mem_singleton.1 h'; rfl
theorem mine_enter {who : Nat} {a : At} (h : Mine who a) (r : Nat) : Mine who (enter who a r) := by
  have h1 : Mine who ⟨{ a.n with round := r, step := 0 }, a.words⟩ := h
  unfold Ytmmgaonlmpajbab.enter
  simp only
  split
  · exact h1
  · split
    · exact mine_tell h1 _ _ _
    · split
      · exact h1
      · exact mine_tell h1 _ _ _
theorem mine_one {who : Nat} {a b : At} (h : Mine who a) (e : one who a = some b) : Mine who b := by
  unfold one at e
  split at e
  · cases e
  · split at e
    · obtain rfl := Option.some.inj e
      unfold settleAt
      simp only
      refine mine_enter ?_ 0
      exact h
    · split at e
      · obtain rfl := Option.some.inj e
        exact mine_enter h _
      · split at e
        · unfold wishes at e
          simp only at e
          split at e
          · cases e
          · obtain rfl := Option.some.inj e
            exact mine_tell (a := ⟨{ a.n with step := 1 }, a.words⟩) h _ _ _
        · unfold promises at e
          simp only at e
          split at e
          · obtain rfl := Option.some.inj e
            exact mine_tell (a := ⟨{ a.n with step := 2 }, a.words⟩) h _ _ _
          · split at e
            · split at e
              · obtain rfl := Option.some.inj e
                exact mine_tell (a := ⟨{ a.n with step := 2, bound := a.n.sheet.val a.n.round, boundIn := a.n.round, seen := fun q => if q = a.n.round then true else a.n.seen q, valid := a.n.sheet.val a.n.round, validIn := a.n.round }, a.words⟩) h _ _ _
              · obtain rfl := Option.some.inj e
                exact h
            · cases e
theorem mine_all {who : Nat} : ∀ (m : Nat) (a : At), Mine who a → Mine who (all who m a)
  | 0, _, h => h
  | m + 1, a, h => by
    unfold all
    cases e : one who a with
    | none => exact h
    | some b => exact mine_all m b (mine_one h e)

/-- What is settled at a node: below its height what a quorum has promised, above it nothing. -/
structure Set (n : Nd) : Prop where
  why : ∀ g, g < n.height → ∃ r, r < 6 ∧ 1 ≤ n.settled g ∧ n.settled g ≤ 9 ∧ 3 ≤ cntV ((n.heard g).pr r) (n.settled g)
  none : ∀ g, n.height ≤ g → n.settled g = 0
theorem Set.step {who : Nat} {n n' : Nd} (h : Set n) (s : Step who n n') : Set n' := by
  refine ⟨fun g hg => ?_, fun g hg => ?_⟩
  · by_cases hb : g < n.height
    · obtain ⟨r, p1, p2, p3, p4⟩ := h.why g hb
      refine ⟨r, p1, ?_, ?_, ?_⟩
      · rw [s.old g hb]; exact p2
      · rw [s.old g hb]; exact p3
      · rw [s.old g hb]; exact Int.le_trans p4 (cntV_mono (fun i hi => s.grow.pr g r i hi) _)
    · exact s.new g (by omega) hg
  · rw [s.zero g hg]; exact h.none g (by have := s.up; omega)
theorem Set.grow {n n' : Nd} (h : Set n) (g : Grow n n') (h1 : n'.height = n.height) (h2 : n'.settled = n.settled) : Set n' := by
  refine ⟨fun q hq => ?_, fun q hq => ?_⟩
  · obtain ⟨r, p1, p2, p3, p4⟩ := h.why q (by omega)
    rw [h2]
    exact ⟨r, p1, p2, p3, Int.le_trans p4 (cntV_mono (fun i hi => g.pr q r i hi) _)⟩
  · rw [h2]; exact h.none q (by omega)

/-- Four nodes, and the letters on their way. -/
structure Cr where
  nd : Nat → Nd
  net : List (Nat × Wd)

/-- What holds of every crowd, whatever came. -/
structure Inv (c : Cr) (liar : Int) : Prop where
  fit : ∀ i : Nat, i < 4 → (i : Int) ≠ liar → Fit i (c.nd i)
  good : ∀ i : Nat, i < 4 → NG (c.nd i)
  set : ∀ i : Nat, i < 4 → Set (c.nd i)
  authW : ∀ i j g r : Nat, i < 4 → j < 4 → (i : Int) ≠ liar → ((c.nd j).heard g).wi r i ≠ 0 → ((c.nd j).heard g).wi r i = ((c.nd i).heard g).wi r i
  authP : ∀ i j g r : Nat, i < 4 → j < 4 → (i : Int) ≠ liar → ((c.nd j).heard g).pr r i ≠ 0 → ((c.nd j).heard g).pr r i = ((c.nd i).heard g).pr r i
  net : ∀ x, x ∈ c.net → x.1 < 4 ∧ x.2.f ≠ x.1 ∧ ∃ i : Nat, i < 4 ∧ x.2.f = i ∧ ((i : Int) ≠ liar → Said i (c.nd i) x.2)

theorem Inv.four {c : Cr} {liar : Int} (h : Inv c liar) : Four c.nd liar := by
  refine ⟨fun i hi ti g hg => ?_, fun i j g r hi hj ti _ => h.authW i j g r hi hj ti, fun i j g r hi hj ti _ => h.authP i j g r hi hj ti⟩
  have F := h.fit i hi ti
  by_cases e : g = (c.nd i).height
  · subst e; exact (F.tru.here hg).own
  · exact F.tru.old g hg e

/-- Those that are true agree: whatever has come. -/
theorem Inv.agree {c : Cr} {liar : Int} (h : Inv c liar) {i k g : Nat} (hi : i < 4) (hk : k < 4) (hg : g < 4) (a0 : (c.nd i).settled g ≠ 0) (b0 : (c.nd k).settled g ≠ 0) : (c.nd i).settled g = (c.nd k).settled g := by
  have gi : g < (c.nd i).height := by
    by_cases e : g < (c.nd i).height
    · exact e
    · exact absurd ((h.set i hi).none g (by omega)) a0
  have gk : g < (c.nd k).height := by
    by_cases e : g < (c.nd k).height
    · exact e
    · exact absurd ((h.set k hk).none g (by omega)) b0
  obtain ⟨r, r1, r2, _, r4⟩ := (h.set i hi).why g gi
  obtain ⟨s, s1, s2, _, s4⟩ := (h.set k hk).why g gk
  exact Ytmmgaonlmpajbab.agree h.four hg hi hk r1 s1 r2 s2 r4 s4
end Go.Proofs.Ytmmgaonlmpajbab
