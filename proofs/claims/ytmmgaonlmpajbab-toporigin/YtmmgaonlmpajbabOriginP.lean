/-
  Where values come from: of plays.
-/
import Derived.Test.YtmmgaonlmpajbabOriginC
import Derived.Test.YtmmgaonlmpajbabTPlay
namespace Go.Proofs.Ytmmgaonlmpajbab

/-- What may be settled behind the first k acts. -/
def MayC (liar : Int) (l : List Ac) : Nat → Int → Prop
  | 0, _ => False
  | k + 1, v => MayC liar l k v ∨ ∃ x, l[k]? = some x ∧ Added (playC liar l k) x v
theorem newC_OC (liar : Int) : OC (fun _ => False) (newC liar) := by
  refine ⟨fun i _ => ⟨fun v hv => absurd hv (by simp [newC, NI.nd]), fun g r hi => ?_, fun hv => ?_, fun h hh => ?_, fun w hw => by cases hw⟩, fun x hx => by cases hx⟩
  · have hi' : ((if g < 4 then newN.heard g else noSh) : Sh).is r = true := hi
    split at hi' <;> exact absurd hi' (by show ¬ (false = true); decide)
  · exact absurd hv (by show ¬ ((0 : Int) ≤ -1); decide)
  · exact absurd rfl hh
theorem playC_OC {liar : Int} (hl : -1 ≤ liar ∧ liar ≤ 3) (l : List Ac) : ∀ k, OC (MayC liar l k) (playC liar l k)
  | 0 => newC_OC liar
  | k + 1 => by
    have ih := playC_OC hl l k
    cases h : l[k]? with
    | none =>
      have e : playC liar l (k + 1) = playC liar l k := by
        unfold playC
        rw [List.take_add_one, h]; simp
      rw [e]; exact ih.more fun v hv => Or.inl hv
    | some a =>
      rw [playC_succ h]
      refine (do_OC (playC_good hl l k) ih a).more fun v hv => ?_
      rcases hv with c | c
      · exact Or.inl c
      · exact Or.inr ⟨a, h, c⟩
/-- What an act lets in is a value. -/
theorem added_bd {c : Cw} {a : Ac} {v : Int} (h : Added c a v) : 0 ≤ v ∧ v ≤ 9 := by
  obtain ⟨h0, h1⟩ := h
  have hr : ∀ e : Int, e ≠ 0 → ∀ f : Cw, ¬ (f, refused e).2[0]? = some (.int .i64 0) := fun e he f hh => by
    have : some (Value.int .i64 e) = some (.int .i64 0) := hh
    injection this with this
    injection this with _ this
    exact he this
  unfold doC at h0
  split at h0
  · exact absurd h0 (hr 5 (by decide) c)
  · rcases h1 with ⟨k1, rfl⟩ | ⟨k5, kw, rfl⟩
    · rw [if_pos k1] at h0
      unfold subC at h0
      split at h0
      · split at h0
        · rename_i hs
          cases hy : win a.value 1 9
          · unfold subCode at hs; rw [hy] at hs; simp at hs
          · have := win_iff.1 hy; omega
        · rename_i hs
          exact absurd h0 (hr _ hs _)
      · exact absurd h0 (hr _ (by decide) _)
    · rw [if_neg (by omega), if_neg (by omega), if_neg (by omega), if_neg (by omega), if_pos k5] at h0
      unfold lieC at h0
      split at h0
      · rename_i g
        have hg := goodC_bds g
        omega
      · rename_i g
        exact absurd h0 (hr _ g _)
theorem mayC_bd {liar : Int} {l : List Ac} : ∀ {k : Nat} {v : Int}, MayC liar l k v → 0 ≤ v ∧ v ≤ 9
  | 0, _, h => h.elim
  | k + 1, v, h => by
    rcases h with c | ⟨x, _, c⟩
    · exact mayC_bd c
    · exact added_bd c
end Go.Proofs.Ytmmgaonlmpajbab
