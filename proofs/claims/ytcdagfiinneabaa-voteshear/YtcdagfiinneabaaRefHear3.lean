/-
  What the document's own answer says: HearSheet, of every word.
-/
import Derived.Test.YtcdagfiinneabaaRefHear2
namespace Go.Proofs.Ytcdagfiinneabaa
open Go.RowKit

/-- A sheet behind a word. -/
def hearS (S : Sh) (k f h r v x : Int) : Sh :=
  if goodC k f h r v x = 0 then
    (if k = 1 then (if f = lead h r ∧ S.is r.toNat = false then S.setC r.toNat v x else S)
    else if k = 2 then (if S.wi r.toNat f.toNat = 0 then S.setW r.toNat f.toNat (1 + v) else S)
    else (if S.pr r.toNat f.toNat = 0 then S.setP r.toNat f.toNat (1 + v) else S))
  else S

theorem goodC_bds {k f h r v x : Int} (hg : goodC k f h r v x = 0) :
    1 ≤ k ∧ k ≤ 3 ∧ 0 ≤ f ∧ f ≤ 3 ∧ 0 ≤ h ∧ h ≤ 3 ∧ 0 ≤ r ∧ r ≤ 5 ∧ 0 ≤ v ∧ v ≤ 9 ∧ -1 ≤ x ∧ x ≤ 4 := by
  unfold goodC at hg
  split at hg
  · omega
  · split at hg
    · omega
    · split at hg
      · omega
      · rename_i h1 h2 h3
        simp [win, inb] at h1 h2
        by_cases hk : k = 1
        · simp [hk] at h2 ⊢; omega
        · simp [hk] at h2 h3 ⊢; omega

theorem hearSheet_any (S : Sh) (k f h r v x : Int) (w : World) :
    Calls Try.prog 30 #[.agg S.cells, .agg #[.int .i64 k, .int .i64 f, .int .i64 h, .int .i64 r, .int .i64 v, .int .i64 x]] w fun e w' => e = .returned (.agg (hearS S k f h r v x).cells) ∧ Below w.heap.size w w' := by
  by_cases hg : goodC k f h r v x = 0
  · obtain ⟨b1, b2, b3, b4, b5, b6, b7, b8, b9, b10, b11, b12⟩ := goodC_bds hg
    obtain ⟨fn, rfl⟩ := Int.eq_ofNat_of_zero_le b3
    obtain ⟨rn, rfl⟩ := Int.eq_ofNat_of_zero_le b7
    have hf : fn < 4 := by omega
    have hr : rn < 6 := by omega
    unfold hearS
    rw [if_pos hg]
    simp only [Int.toNat_natCast]
    have hk : k = 1 ∨ k = 2 ∨ k = 3 := by omega
    rcases hk with rfl | rfl | rfl
    · rw [if_pos rfl]
      by_cases hl : (fn : Int) = lead h rn
      · cases hi : S.is rn
        · rw [if_pos ⟨hl, rfl⟩]
          exact hearSheet_call S fn rn h v x w hf hr b9 b10 hg hl hi
        · rw [if_neg (fun hh => Bool.noConfusion hh.2)]
          exact hearSheet_call_is S fn rn h v x w hf hr b9 b10 hg hl hi
      · rw [if_neg (fun hh => hl hh.1)]
        exact hearSheet_call_no S fn rn h v x w hf hr b9 b10 hg hl
    · rw [if_neg (by decide), if_pos rfl]
      by_cases h0 : S.wi rn fn = 0
      · rw [if_pos h0]
        exact hearSheet_wish S fn rn h v x w hf hr b9 b10 hg h0
      · rw [if_neg h0]
        exact hearSheet_wish_no S fn rn h v x w hf hr b9 b10 hg h0
    · rw [if_neg (by decide), if_neg (by decide)]
      by_cases h0 : S.pr rn fn = 0
      · rw [if_pos h0]
        exact hearSheet_promise S fn rn h v x w hf hr b9 b10 hg h0
      · rw [if_neg h0]
        exact hearSheet_promise_no S fn rn h v x w hf hr b9 b10 hg h0
  · have := hearSheet_bad S k f h r v x w (by rw [bne_iff_ne]; exact hg)
    unfold hearS
    rw [if_neg hg]
    exact this
end Go.Proofs.Ytcdagfiinneabaa
