/-
  What Hear, Submit and Time answer at a good node, in plain words; and that it stays one.
-/
import Derived.Test.YtmmgaonlmpajbacGreatKQuiet
namespace Go.Proofs.YtmmgaonlmpajbacGreat
open Go.RowKit

def wdArr (v : Wd) : Array Value := #[.int .i64 v.k, .int .i64 v.f, .int .i64 v.h, .int .i64 v.r, .int .i64 v.v, .int .i64 v.x]

/-! ### What Hear, Submit, Time answer at a good node, in plain words -/
theorem hear_yes {n : Nd} (G : GN n) (hB : Beyond noSh ⟨n, []⟩) {who : Nat} (hw : who < 4) {v : Wd} (gv : v.good) (q : Value) (W : World) (hq : Ints W q n.queue) :
    Calls Tryz.prog 56 #[.agg (n.ni q).cells, .int .i64 (who : Int), .agg (wdArr v)] W (Res W ((hearN who n v).n.ni (.slice none 0 0)) (hearN who n v).n.queue (hearN who n v).words 0) := by
  have hb := goodC_bds gv
  have h1 := nhear_good (n.ni q) n.queue who v W hq (by have := G.qlen; omega) (goodN_of G q) who rfl hw v.h.toNat (by omega) gv
  rw [nd_ni (a := ⟨n, []⟩) hB q] at h1
  exact h1.mono fun _ _ h => res_done h
theorem hear_no {n : Nd} (G : GN n) {who : Nat} (hw : who < 4) {v : Wd} {c : Int} (hc : goodC v.k v.f v.h v.r v.v v.x = c) (hne : c ≠ 0) (q : Value) (W : World) (hq : Ints W q n.queue) :
    Calls Tryz.prog 56 #[.agg (n.ni q).cells, .int .i64 (who : Int), .agg (wdArr v)] W (Res W (n.ni q) n.queue [] c) :=
  (nhear_word (n.ni q) n.queue who v W hq (by have := G.qlen; omega) (goodN_of G q) (win_iff.2 ⟨by omega, by omega⟩) c hc hne).mono fun _ _ h => res_refused h
theorem time_yes {n : Nd} (G : GN n) (hB : Beyond noSh ⟨n, []⟩) {who : Nat} (hw : who < 4) (q : Value) (W : World) (hq : Ints W q n.queue) :
    Calls Tryz.prog 21 #[.agg (n.ni q).cells, .int .i64 (who : Int)] W (Res W ((timeN who n).n.ni (.slice none 0 0)) (timeN who n).n.queue (timeN who n).words 0) := by
  have e := nd_ni (a := ⟨n, []⟩) hB q
  have hl : n.queue.length * 8 ≤ 140737488355328 := by have := G.qlen; omega
  by_cases h4 : n.height < 4
  · have h1 := ntime_good (n.ni q) n.queue who W hq hl (goodN_of G q) who rfl hw (by rw [e]; exact h4)
    rw [e] at h1
    have e2 : follow who (gaveUp who ⟨n, []⟩) = timeN who n := by
      unfold timeN gaveUp
      rw [if_neg (show ¬ n.height = 4 by omega)]
      simp only
      by_cases c0 : n.step = 0
      · rw [if_pos c0, if_pos c0]
      · rw [if_neg c0, if_neg c0]
        by_cases c1 : n.step = 1
        · rw [if_pos c1, if_pos c1]
          show follow who (if 3 ≤ allV (n.sheet.wi n.round) then _ else _) = _
          split <;> rfl
        · rw [if_neg c1, if_neg c1]
          show follow who (if 3 ≤ allV (n.sheet.pr n.round) ∧ n.round + 1 < 6 then _ else _) = if 3 ≤ allV (n.sheet.pr n.round) ∧ n.round < 5 then _ else _
          by_cases c2 : 3 ≤ allV (n.sheet.pr n.round) ∧ n.round < 5
          · rw [if_pos c2, if_pos ⟨c2.1, by omega⟩]
          · rw [if_neg c2, if_neg (fun h => c2 ⟨h.1, by omega⟩)]
    rw [e2] at h1
    exact h1.mono fun _ _ h => res_done h
  · have h4' : n.height = 4 := by have := G.height; omega
    have h1 := ntime_end (n.ni q) n.queue who W hq hl (goodN_of G q) who rfl hw (by rw [e]; exact h4')
    rw [e] at h1
    have e2 : timeN who n = ⟨n, []⟩ := by unfold timeN; rw [if_pos h4']
    rw [e2]
    exact h1.mono fun _ _ h => res_done h
theorem submit_yes {n : Nd} (G : GN n) (hB : Beyond noSh ⟨n, []⟩) {who : Nat} (hw : who < 4) {y : Int} (hy : win y 1 9 = true) (h6 : n.queue.length < 6) (q : Value) (W : World) (hq : Ints W q n.queue) :
    Calls Tryz.prog 35 #[.agg (n.ni q).cells, .int .i64 (who : Int), .int .i64 y] W (Res W ((submitN who n y).n.ni (.slice none 0 0)) (submitN who n y).n.queue (submitN who n y).words 0) := by
  have e := nd_ni (a := ⟨n, []⟩) hB q
  have hl : n.queue.length * 8 ≤ 140737488355328 := by omega
  have e2 : submitN who n y = if n.height < 4 ∧ n.step = 0 then follow who (enter who ⟨n.push y, []⟩ n.round) else ⟨n.push y, []⟩ := rfl
  by_cases hs : n.step = 0
  · by_cases h4 : n.height < 4
    · have h1 := nsub_good (n.ni q) n.queue who y W hq hl (goodN_of G q) who rfl hw hy hy h6 (by rw [e]; exact hs) (by rw [e]; exact h4)
      rw [e] at h1
      rw [e2, if_pos ⟨h4, hs⟩]
      exact h1.mono fun _ _ h => res_done h
    · have h1 := nsub_end (n.ni q) n.queue who y W hq hl (goodN_of G q) who rfl hw hy h6 (by rw [e]; exact hs) (by rw [e]; have := G.height; show n.height = 4; omega)
      rw [e] at h1
      rw [e2, if_neg (fun h => h4 h.1)]
      exact h1.mono fun _ _ h => res_done h
  · have h1 := nsub_step (n.ni q) n.queue who y W hq hl (goodN_of G q) who rfl hw hy h6 (by rw [e]; exact hs)
    rw [e] at h1
    rw [e2, if_neg (fun h => hs h.2)]
    exact h1.mono fun _ _ h => res_done h
/-- What is wrong with a value that is submitted. -/
def subCode (n : Nd) (y : Int) : Int := if win y 1 9 then (if n.queue.length = 6 then 5 else 0) else 2
theorem submit_no {n : Nd} (G : GN n) {who : Nat} (hw : who < 4) {y : Int} (hne : subCode n y ≠ 0) (q : Value) (W : World) (hq : Ints W q n.queue) :
    Calls Tryz.prog 35 #[.agg (n.ni q).cells, .int .i64 (who : Int), .int .i64 y] W (Res W (n.ni q) n.queue [] (subCode n y)) := by
  have hl : n.queue.length * 8 ≤ 140737488355328 := by have := G.qlen; omega
  unfold subCode at hne ⊢
  by_cases hy : win y 1 9 = true
  · rw [if_pos hy] at hne ⊢
    by_cases h6 : n.queue.length = 6
    · rw [if_pos h6]
      exact (nsub_full (n.ni q) n.queue who y W hq hl (goodN_of G q) who rfl hw hy h6).mono fun _ _ h => res_refused h
    · rw [if_neg h6] at hne; exact absurd rfl hne
  · rw [if_neg hy]
    exact (nsub_value (n.ni q) n.queue who y W hq hl (goodN_of G q) who rfl hw (by simpa using hy)).mono fun _ _ h => res_refused h

/-! ### A good node stays one -/
/-- A good node of which nothing is heard beyond the last height. -/
structure Whole (n : Nd) : Prop where
  good : GN n
  beyond : Beyond noSh ⟨n, []⟩
theorem whole_of {who : Nat} {a : At} (F : FI a) (hB : Beyond noSh a) : Whole (follow who a).n ∧ (follow who a).words.length ≤ 1000 := by
  have h2 := (follow_ends (who := who) _ _ F (Nat.le_refl _)).2
  have hb := (beyond_steady who noSh).follow F hB
  exact ⟨⟨h2.good, hb⟩, by have := h2.few; omega⟩
theorem hear_whole {n : Nd} (h : Whole n) (who : Nat) {v : Wd} (gv : v.good) : Whole (hearN who n v).n ∧ (hearN who n v).words.length ≤ 1000 := by
  have hb := goodC_bds gv
  refine whole_of (FI.start (h.good.hear _ v)) ⟨h.good.height, fun g hg => ?_⟩
  show (if g = v.h.toNat then _ else n.heard g) = noSh
  rw [if_neg (by omega)]
  exact h.beyond.2 g hg
theorem submit_whole {n : Nd} (h : Whole n) (who : Nat) {y : Int} (hy : win y 1 9 = true) (h6 : n.queue.length < 6) : Whole (submitN who n y).n ∧ (submitN who n y).words.length ≤ 1000 := by
  have e2 : submitN who n y = if n.height < 4 ∧ n.step = 0 then follow who (enter who ⟨n.push y, []⟩ n.round) else ⟨n.push y, []⟩ := rfl
  have GP : GN (n.push y) := h.good.push (win_iff.1 hy) h6
  rw [e2]
  split
  · refine whole_of (FI.enter0 (n := n.push y) GP) ?_
    exact (beyond_steady who noSh).enterC (a := ⟨n.push y, []⟩) ⟨h.good.height, h.beyond.2⟩
  · exact ⟨⟨GP, ⟨h.good.height, h.beyond.2⟩⟩, by show 0 ≤ 1000; omega⟩
theorem time_whole {n : Nd} (h : Whole n) (who : Nat) : Whole (timeN who n).n ∧ (timeN who n).words.length ≤ 1000 := by
  have S := beyond_steady who noSh
  have b0 := h.beyond
  have few1 : ∀ a : At, a.words.length ≤ 1 → GN a.n → FI a := fun a hw hg => ⟨hg, by have := mu_le hg.ng; omega⟩
  unfold timeN
  split
  · exact ⟨h, by show 0 ≤ 1000; omega⟩
  · rename_i h4
    have hg := h.good
    split
    · refine whole_of (few1 _ (by simp [tell]) (GN.tell (a := ⟨{ n with step := 1 }, []⟩) ⟨hg.height, hg.round, by show 1 ≤ 2; omega, hg.bd, hg.vd, hg.sheets, hg.low, hg.high, hg.queue, hg.qlen⟩ _ _ _)) ?_
      exact S.tell ⟨{ n with step := 1 }, []⟩ _ _ _ b0 h4
    · split
      · split
        · refine whole_of (few1 _ (by simp [tell]) (GN.tell (a := ⟨{ n with step := 2 }, []⟩) ⟨hg.height, hg.round, by show 2 ≤ 2; omega, hg.bd, hg.vd, hg.sheets, hg.low, hg.high, hg.queue, hg.qlen⟩ _ _ _)) ?_
          exact S.tell ⟨{ n with step := 2 }, []⟩ _ _ _ b0 h4
        · exact whole_of (FI.start hg) b0
      · split
        · rename_i c
          refine whole_of (few1 _ (by have := enter_len who ⟨n, []⟩ (n.round + 1); simpa using this) (GN.enter (a := ⟨n, []⟩) hg _ (by show n.round ≤ n.round + 1; omega) (by omega))) ?_
          exact S.enterC (a := ⟨n, []⟩) b0
        · exact whole_of (FI.start hg) b0
end Go.Proofs.YtmmgaonlmpajbacGreat
