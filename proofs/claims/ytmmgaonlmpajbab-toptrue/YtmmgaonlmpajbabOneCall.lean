/-
  A node that is true proposes one thing in each round: of plain nodes.
-/
import Derived.Test.YtmmgaonlmpajbabPlain4
namespace Go.Proofs.Ytmmgaonlmpajbab

/-- No call that was heard is forgotten. -/
def GrowC (n n' : Nd) : Prop := ∀ g r, (n.heard g).is r = true → (n'.heard g).is r = true ∧ (n'.heard g).val r = (n.heard g).val r
theorem GrowC.refl (n : Nd) : GrowC n n := fun _ _ h => ⟨h, rfl⟩
theorem GrowC.trans {a b c : Nd} (h : GrowC a b) (k : GrowC b c) : GrowC a c := fun g r hi => by
  have h1 := h g r hi
  have h2 := k g r h1.1
  exact ⟨h2.1, h2.2.trans h1.2⟩
theorem call_keep (S : Sh) (w : Wd) (r : Nat) (h : S.is r = true) : (hearW S w).is r = true ∧ (hearW S w).val r = S.val r := by
  by_cases c : hitC w r
  · have := (hear_c S w r).1 c
    rw [if_neg (by rw [h]; decide)] at this
    exact ⟨this.1, this.2.1⟩
  · have := (hear_c S w r).2 c
    exact ⟨this.1.trans h, this.2.1⟩
theorem growC_set (n : Nd) (g : Nat) (w : Wd) : GrowC n (n.setSheet g (hearW (n.heard g) w)) := fun g' r h => by
  show ((if g' = g then hearW (n.heard g) w else n.heard g') : Sh).is r = true ∧ ((if g' = g then hearW (n.heard g) w else n.heard g') : Sh).val r = _
  by_cases e : g' = g
  · subst e; rw [if_pos rfl]; exact call_keep _ w r h
  · rw [if_neg e]; exact ⟨h, rfl⟩

/-- What a node has proposed stands on its own sheet; where it waits, what is valid came of an earlier round. -/
structure CS (n0 : Nd) (a : At) : Prop where
  vin : a.n.step = 0 → a.n.validIn < (a.n.round : Int)
  calls : ∀ w, w ∈ a.words → w.k = 1 → (a.n.heard w.h.toNat).is w.r.toNat = true ∧ (a.n.heard w.h.toNat).val w.r.toNat = w.v
  grow : GrowC n0 a.n
  kinds : ∀ w, w ∈ a.words → (1 ≤ w.k ∧ w.k ≤ 3) ∧ 0 ≤ w.v ∧ w.v ≤ 9
theorem CS.of {n0 : Nd} {a b : At} (h : CS n0 a) (hv : b.n.step = 0 → b.n.validIn < (b.n.round : Int)) (hh : b.n.heard = a.n.heard) (hw : b.words = a.words) : CS n0 b := by
  refine ⟨hv, fun w hm hk => ?_, fun g r hi => ?_, fun w hm => h.kinds w (by rw [← hw]; exact hm)⟩
  · rw [hh]; exact h.calls w (by rw [← hw]; exact hm) hk
  · rw [hh]; exact h.grow g r hi
theorem CS.tell {n0 : Nd} {who : Nat} {a : At} (h : CS n0 a) (k v x : Int) (hk3 : (1 ≤ k ∧ k ≤ 3) ∧ 0 ≤ v ∧ v ≤ 9) (hk : k = 1 → (sayW who a.n k v x).good ∧ lead a.n.height a.n.round = (who : Int) ∧ a.n.sheet.is a.n.round = false) : CS n0 (tell who a k v x) := by
  have g := growC_set a.n a.n.height (sayW who a.n k v x)
  refine ⟨h.vin, fun w hm hk1 => ?_, h.grow.trans g, fun w hm => ?_⟩
  case refine_2 =>
    have hm' : w ∈ a.words ++ [sayW who a.n k v x] := hm
    rcases List.mem_append.1 hm' with c | c
    · exact h.kinds w c
    · obtain rfl := List.mem_singleton.1 c
      exact hk3
  have hm' : w ∈ a.words ++ [sayW who a.n k v x] := hm
  rcases List.mem_append.1 hm' with c | c
  · obtain ⟨z1, z2⟩ := h.calls w c hk1
    have := g _ _ z1
    exact ⟨this.1, this.2.trans z2⟩
  · obtain rfl := List.mem_singleton.1 c
    obtain ⟨g1, g2, g3⟩ := hk hk1
    have hs : (Ytmmgaonlmpajbab.tell who a k v x).n.heard (sayW who a.n k v x).h.toNat = hearW a.n.sheet (sayW who a.n k v x) := by
      simp [sayW, Nd.sheet, Ytmmgaonlmpajbab.tell, Nd.setSheet]
    have hr : (sayW who a.n k v x).r.toNat = a.n.round := by simp [sayW]
    rw [hs, hr]
    have hc := (hear_c a.n.sheet (sayW who a.n k v x) a.n.round).1 ⟨g1, hk1, g2.symm, by simp [sayW]⟩
    rw [if_pos g3] at hc
    exact ⟨hc.1, hc.2.1⟩
theorem call_good {who : Nat} (hw : who < 4) {n : Nd} (h4 : n.height < 4) (h6 : n.round < 6) {v x : Int} (hv : 1 ≤ v ∧ v ≤ 9) (hx : -1 ≤ x ∧ x < (n.round : Int)) : (sayW who n 1 v x).good := by
  unfold Wd.good sayW goodC inb win
  have h1 : (0 : Int) ≤ (who : Int) ∧ (who : Int) ≤ 3 := by omega
  have h2 : (0 : Int) ≤ (n.height : Int) ∧ (n.height : Int) ≤ 3 := by omega
  have h3 : (0 : Int) ≤ (n.round : Int) ∧ (n.round : Int) ≤ 5 := by omega
  have h5 : -1 ≤ x ∧ x ≤ (n.round : Int) - 1 := by omega
  simp [h1, h2, h3, hv, h5]
theorem CS.enter {n0 : Nd} {who : Nat} (hw : who < 4) {a : At} (h : CS n0 a) (r : Nat) (h6 : r < 6) (hh : a.n.height ≤ 4) (hv : a.n.validIn < (r : Int)) (hvd : 0 ≤ a.n.validIn → 1 ≤ a.n.valid ∧ a.n.valid ≤ 9) (hq : ∀ v, v ∈ a.n.queue → 1 ≤ v ∧ v ≤ 9) : CS n0 (enter who a r) := by
  have hb : CS n0 ⟨{ a.n with round := r, step := 0 }, a.words⟩ := h.of (fun _ => hv) rfl rfl
  unfold Ytmmgaonlmpajbab.enter
  simp only
  split
  · exact hb
  · rename_i c
    have c1 : a.n.height ≠ 4 := fun e => c (Or.inl e)
    have c2 : lead a.n.height r = (who : Int) := by
      by_cases e : lead a.n.height r = (who : Int)
      · exact e
      · exact absurd (Or.inr (Or.inl e)) c
    have c3 : a.n.sheet.is r = false := by
      cases e : a.n.sheet.is r
      · rfl
      · exact absurd (Or.inr (Or.inr e)) c
    split
    · rename_i d
      exact hb.tell _ _ _ ⟨by decide, by have := (hvd d).1; show 0 ≤ a.n.valid; omega, (hvd d).2⟩ (fun _ => ⟨call_good hw (n := { a.n with round := r, step := 0 }) (by show a.n.height < 4; omega) h6 (hvd d) ⟨by have d' : (0 : Int) ≤ a.n.validIn := d; show -1 ≤ a.n.validIn; omega, hv⟩, c2, c3⟩)
    · split
      · exact hb
      · rename_i v t hqq
        have hvq := hq v (by have hq' : a.n.queue = v :: t := hqq; rw [hq']; exact List.mem_cons_self)
        exact hb.tell _ _ _ ⟨by decide, by omega, hvq.2⟩ (fun _ => ⟨call_good hw (n := { a.n with round := r, step := 0 }) (by show a.n.height < 4; omega) h6 hvq ⟨by omega, by show (-1 : Int) < (r : Int); omega⟩, c2, c3⟩)
theorem vd_le {n : Nd} (G : GN n) : n.validIn ≤ (n.round : Int) ∧ (0 ≤ n.validIn → 1 ≤ n.valid ∧ n.valid ≤ 9) := by
  rcases G.vd with ⟨_, h2⟩ | ⟨h1, h2, h3, h4⟩
  · exact ⟨by omega, fun h => by omega⟩
  · exact ⟨h4, fun _ => ⟨h1, h2⟩⟩
theorem CS.one {n0 : Nd} {who : Nat} (hw : who < 4) {a b : At} (F : FI a) (h : CS n0 a) (e : one who a = some b) : CS n0 b := by
  have G := F.good
  unfold Ytmmgaonlmpajbab.one at e
  split at e
  · cases e
  · rename_i h4
    have hh : a.n.height < 4 := by have := G.height; omega
    split at e
    · rename_i r hf
      obtain rfl := Option.some.inj e
      suffices key : CS n0 ⟨{ a.n with settled := fun g => if g = a.n.height then a.n.sheet.val r else a.n.settled g, queue := a.n.queue.filter (fun q => q != a.n.sheet.val r), height := a.n.height + 1, bound := 0, boundIn := -1, valid := 0, validIn := -1, seen := fun _ => false }, a.words⟩ from
        key.enter hw 0 (by omega) (by show a.n.height + 1 ≤ 4; omega) (by show (-1 : Int) < 0; omega) (fun hv => absurd hv (by show ¬ (0 : Int) ≤ -1; omega)) (fun v hv => G.queue v (List.mem_filter.1 hv).1)
      exact h.of (fun _ => by show (-1 : Int) < _; omega) rfl rfl
    · split at e
      · rename_i r hf
        obtain rfl := Option.some.inj e
        have hr := far_is hf
        have hv := vd_le G
        exact h.enter hw r hr.2 G.height (by omega) hv.2 G.queue
      · split at e
        · unfold wishes at e
          simp only at e
          split at e
          · cases e
          · rename_i c
            obtain rfl := Option.some.inj e
            have hi : a.n.sheet.is a.n.round = true := by
              cases hi : a.n.sheet.is a.n.round
              · exact absurd (Or.inl hi) c
              · rfl
            have hv := G.valR G.round hi
            exact CS.tell (a := ⟨{ a.n with step := 1 }, a.words⟩) (h.of (fun hz => absurd hz (by show ¬ 1 = 0; omega)) rfl rfl) _ _ _ ⟨by decide, by split; exact (by have h1 : 1 ≤ a.n.sheet.val a.n.round := hv.1; omega); omega, by split; exact hv.2.1; omega⟩ (fun hk => absurd hk (by decide))
        · rename_i hst
          unfold promises at e
          simp only at e
          split at e
          · obtain rfl := Option.some.inj e
            exact CS.tell (a := ⟨{ a.n with step := 2 }, a.words⟩) (h.of (fun hz => absurd hz (by show ¬ 2 = 0; omega)) rfl rfl) _ _ _ (by decide) (fun hk => absurd hk (by decide))
          · split at e
            · split at e
              · rename_i c _
                obtain rfl := Option.some.inj e
                have hv := G.valR G.round c.1
                exact CS.tell (a := ⟨{ a.n with seen := fun q => if q = a.n.round then true else a.n.seen q, valid := a.n.sheet.val a.n.round, validIn := a.n.round, bound := a.n.sheet.val a.n.round, boundIn := a.n.round, step := 2 }, a.words⟩) (h.of (fun hz => absurd hz (by show ¬ 2 = 0; omega)) rfl rfl) _ _ _ ⟨by decide, by have h1 : 1 ≤ a.n.sheet.val a.n.round := hv.1; omega, hv.2.1⟩ (fun hk => absurd hk (by decide))
              · obtain rfl := Option.some.inj e
                exact h.of (fun hz => absurd hz hst) rfl rfl
            · cases e
theorem CS.follow {n0 : Nd} {who : Nat} (hw : who < 4) {a : At} (F : FI a) (h : CS n0 a) : CS n0 (follow who a) :=
  follow_keeps (P := CS n0) (fun _ _ F hp e => CS.one hw F hp e) _ a F (Nat.le_refl _) h
end Go.Proofs.Ytmmgaonlmpajbab
