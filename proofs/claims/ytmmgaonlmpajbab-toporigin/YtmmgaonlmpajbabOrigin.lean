/-
  Where values come from: of plain nodes.
-/
import Derived.Test.YtmmgaonlmpajbabPlain4
namespace Go.Proofs.Ytmmgaonlmpajbab

/-- All values that a node may propose or settle are of M. -/
structure Org (M : Int → Prop) (a : At) : Prop where
  queue : ∀ v, v ∈ a.n.queue → M v
  calls : ∀ g r, (a.n.heard g).is r = true → M ((a.n.heard g).val r)
  valid : 0 ≤ a.n.validIn → M a.n.valid
  settled : ∀ h, a.n.settled h ≠ 0 → M (a.n.settled h)
  words : ∀ w, w ∈ a.words → w.k = 1 → M w.v
theorem hear_callM {S : Sh} {w : Wd} {M : Int → Prop} (h : ∀ r, S.is r = true → M (S.val r)) (hw : w.k = 1 → M w.v) (r : Nat) (hi : (hearW S w).is r = true) : M ((hearW S w).val r) := by
  unfold hearW hearS at hi ⊢
  split
  · rename_i g
    rw [if_pos g] at hi
    split
    · rename_i k1
      rw [if_pos k1] at hi
      split
      · rename_i c
        rw [if_pos c] at hi
        by_cases e : r = w.r.toNat
        · subst e
          have : (S.setC w.r.toNat w.v w.x).val w.r.toNat = w.v := by simp [Sh.setC]
          rw [this]; exact hw k1
        · have h1 : (S.setC w.r.toNat w.v w.x).val r = S.val r := by simp [Sh.setC, e]
          have h2 : (S.setC w.r.toNat w.v w.x).is r = S.is r := by simp [Sh.setC, e]
          rw [h1]; rw [h2] at hi; exact h r hi
      · rename_i c
        rw [if_neg c] at hi
        exact h r hi
    · rename_i k1
      rw [if_neg k1] at hi
      split
      · rename_i k2
        rw [if_pos k2] at hi
        split
        · rename_i c
          rw [if_pos c] at hi
          exact h r hi
        · rename_i c
          rw [if_neg c] at hi
          exact h r hi
      · rename_i k2
        rw [if_neg k2] at hi
        split
        · rename_i c
          rw [if_pos c] at hi
          exact h r hi
        · rename_i c
          rw [if_neg c] at hi
          exact h r hi
  · rename_i g
    rw [if_neg g] at hi
    exact h r hi
theorem Org.hear {M : Int → Prop} {n : Nd} {ws : List Wd} (h : Org M ⟨n, ws⟩) (g : Nat) (w : Wd) (hw : w.k = 1 → M w.v) : Org M ⟨n.setSheet g (hearW (n.heard g) w), ws⟩ := by
  refine ⟨h.queue, fun g' r hi => ?_, h.valid, h.settled, h.words⟩
  have hi' : ((if g' = g then hearW (n.heard g) w else n.heard g') : Sh).is r = true := hi
  show M (((if g' = g then hearW (n.heard g) w else n.heard g') : Sh).val r)
  by_cases e : g' = g
  · rw [if_pos e] at hi' ⊢
    exact hear_callM (fun r hr => h.calls g r hr) hw r hi'
  · rw [if_neg e] at hi' ⊢
    exact h.calls g' r hi'
theorem Org.tell {M : Int → Prop} {who : Nat} {a : At} (h : Org M a) (k v x : Int) (hk : k = 1 → M v) : Org M (tell who a k v x) := by
  have h1 := Org.hear (n := a.n) (ws := a.words) h a.n.height (sayW who a.n k v x) hk
  refine ⟨h1.queue, h1.calls, h1.valid, h1.settled, fun w hw => ?_⟩
  have hw' : w ∈ a.words ++ [sayW who a.n k v x] := hw
  rcases List.mem_append.1 hw' with c | c
  · exact h.words w c
  · have e : w = sayW who a.n k v x := by simpa using c
    subst e; exact hk
theorem Org.enter {M : Int → Prop} {who : Nat} {a : At} (h : Org M a) (r : Nat) : Org M (enter who a r) := by
  have hb : Org M ⟨{ a.n with round := r, step := 0 }, a.words⟩ := ⟨h.queue, h.calls, h.valid, h.settled, h.words⟩
  unfold Ytmmgaonlmpajbab.enter
  simp only
  split
  · exact hb
  · split
    · rename_i c
      exact hb.tell _ _ _ (fun _ => h.valid c)
    · split
      · exact hb
      · rename_i v t hq
        exact hb.tell _ _ _ (fun _ => h.queue v (by have hq' : a.n.queue = v :: t := hq; rw [hq']; exact List.mem_cons_self))
theorem Org.one {M : Int → Prop} {who : Nat} {a b : At} (h : Org M a) (e : one who a = some b) : Org M b := by
  unfold Ytmmgaonlmpajbab.one at e
  split at e
  · cases e
  · split at e
    · rename_i r hf
      obtain rfl := Option.some.inj e
      have hs := (first_is hf).2
      have hi : a.n.sheet.is r = true := by unfold settles at hs; rw [Bool.and_eq_true] at hs; exact hs.1
      have hm : M (a.n.sheet.val r) := h.calls _ r hi
      suffices key : Org M ⟨{ a.n with settled := fun g => if g = a.n.height then a.n.sheet.val r else a.n.settled g, queue := a.n.queue.filter (fun q => q != a.n.sheet.val r), height := a.n.height + 1, bound := 0, boundIn := -1, valid := 0, validIn := -1, seen := fun _ => false }, a.words⟩ from key.enter 0
      refine ⟨fun v hv => h.queue v (List.mem_filter.1 hv).1, h.calls, fun hv => ?_, fun g hg => ?_, h.words⟩
      · have hv' : (0 : Int) ≤ -1 := hv
        omega
      · have hg' : (if g = a.n.height then a.n.sheet.val r else a.n.settled g) ≠ 0 := hg
        show M (if g = a.n.height then a.n.sheet.val r else a.n.settled g)
        by_cases c : g = a.n.height
        · rw [if_pos c]; exact hm
        · rw [if_neg c] at hg' ⊢; exact h.settled g hg'
    · split at e
      · obtain rfl := Option.some.inj e
        exact h.enter _
      · split at e
        · unfold wishes at e
          simp only at e
          split at e
          · cases e
          · obtain rfl := Option.some.inj e
            exact Org.tell (a := ⟨{ a.n with step := 1 }, a.words⟩) ⟨h.queue, h.calls, h.valid, h.settled, h.words⟩ _ _ _ (fun hk => by omega)
        · unfold promises at e
          simp only at e
          split at e
          · obtain rfl := Option.some.inj e
            exact Org.tell (a := ⟨{ a.n with step := 2 }, a.words⟩) ⟨h.queue, h.calls, h.valid, h.settled, h.words⟩ _ _ _ (fun hk => by omega)
          · split at e
            · rename_i c
              split at e
              · obtain rfl := Option.some.inj e
                exact Org.tell (a := ⟨{ a.n with seen := fun q => if q = a.n.round then true else a.n.seen q, valid := a.n.sheet.val a.n.round, validIn := a.n.round, bound := a.n.sheet.val a.n.round, boundIn := a.n.round, step := 2 }, a.words⟩) ⟨h.queue, h.calls, fun _ => h.calls _ _ c.1, h.settled, h.words⟩ _ _ _ (fun hk => absurd hk (by decide))
              · obtain rfl := Option.some.inj e
                exact ⟨h.queue, h.calls, fun _ => h.calls _ _ c.1, h.settled, h.words⟩
            · cases e
theorem Org.follow {M : Int → Prop} {who : Nat} {a : At} (F : FI a) (h : Org M a) : Org M (follow who a) :=
  follow_keeps (fun _ _ _ hp e => Org.one hp e) _ a F (Nat.le_refl _) h
end Go.Proofs.Ytmmgaonlmpajbab
