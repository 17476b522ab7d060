/-
  The statement NodeGood, of every node and of whatever comes.
-/
import Derived.Test.YtmmgaonlmpajbaaKGood
namespace Go.Proofs.Ytmmgaonlmpajbaa
open Go.RowKit

theorem goesOn_start {n m : Nd} (who : Nat) (h1 : m.height = n.height) (h2 : m.round = n.round) (h3 : m.step = n.step) (h4 : m.settled = n.settled) : GoesOn n who ⟨m, []⟩ :=
  ⟨Or.inr ⟨h1.symm, Or.inr ⟨h2.symm, by show n.step ≤ m.step; omega⟩⟩, fun h _ => by show m.settled h = _; rw [h4], fun u hu => by cases hu⟩

theorem goesOn_gave {who : Nat} {n : Nd} (hh : n.height < 4) : GoesOn n who (gaveUp who ⟨n, []⟩) := by
  have S := goesOn_steady who n
  have h0 : GoesOn n who ⟨n, []⟩ := goesOn_start who rfl rfl rfl rfl
  have h4 : n.height ≠ 4 := by omega
  unfold gaveUp
  split
  · rename_i c
    exact S.tell ⟨{ n with step := 1 }, []⟩ _ _ _ (S.step ⟨n, []⟩ 1 h0 (by rw [c]; omega)) h4
  · split
    · rename_i c
      split
      · exact S.tell ⟨{ n with step := 2 }, []⟩ _ _ _ (S.step ⟨n, []⟩ 2 h0 (by rw [c]; omega)) h4
      · exact h0
    · split
      · exact S.enterC (a := ⟨n, []⟩) (S.came ⟨n, []⟩ _ h0 (by show n.round < n.round + 1; omega))
      · exact h0

theorem kgood_some (n : NI) (l : List Int) (who kind value : Int) (v : Wd) (a : At) (whon : Nat) (hwho : who = (whon : Int)) (hg : goodN n l = true) (G2 : GN a.n) (few : a.words.length < 100000) (GO : GoesOn (n.nd l) whon a)
    (hcon : ∀ W, Ints W n.q l → Calls Try.prog 52 #[.agg n.cells, .int .i64 who, .int .i64 kind, .int .i64 value, .agg #[.int .i64 v.k, .int .i64 v.f, .int .i64 v.h, .int .i64 v.r, .int .i64 v.v, .int .i64 v.x]] W (Res W (a.n.ni (.slice none 0 0)) a.n.queue a.words 0)) (w : World) (hq : Ints w n.q l) :
    Calls Try.prog 13 #[.agg n.cells, .int .i64 who, .int .i64 kind, .int .i64 value, .agg #[.int .i64 v.k, .int .i64 v.f, .int .i64 v.h, .int .i64 v.r, .int .i64 v.v, .int .i64 v.x]] w fun e w' => e = .returned (.bool true) ∧ Below w.heap.size w w' := by
  obtain ⟨G, e1, e2, e3⟩ := gn_of hg
  refine kgood_ok n l who kind value v (a.n.ni (.slice none 0 0)) a.n.queue a.words hcon w hq (fun k hk hne => ?_) (fun u hu => ?_) (by omega) (fun q W hW => ?_) ?_
  · have hlt : k < (n.nd l).height := by
      by_cases c : k < (n.nd l).height
      · exact c
      · exact absurd (G.high k (by omega) hk) hne
    exact (GO.keeps k hlt).symm
  · obtain ⟨p1, p2, p3, p4⟩ := GO.words u hu
    refine ⟨p1.trans hwho.symm, by rw [e1]; exact p2, p3, fun h => ?_⟩
    rw [e2]; exact p4 (by rw [h, e1])
  · have h1 := ngood_any (a.n.ni q) a.n.queue W hW (by have := G2.qlen; omega)
    rw [goodN_of G2 q] at h1
    exact h1
  · have hl := GO.later
    unfold Later at hl
    rw [e1, e2, e3]
    show ((n.nd l).height : Int) < (a.n.height : Int) ∨ (((n.nd l).height : Int) = (a.n.height : Int) ∧ (((n.nd l).round : Int) < (a.n.round : Int) ∨ (((n.nd l).round : Int) = (a.n.round : Int) ∧ ((n.nd l).step : Int) ≤ (a.n.step : Int))))
    omega

theorem nodeGood_any (n : NI) (l : List Int) (who kind value : Int) (v : Wd) (w : World) (hq : Ints w n.q l) (hl : l.length * 8 ≤ 140737488355328) :
    Calls Try.prog 13 #[.agg n.cells, .int .i64 who, .int .i64 kind, .int .i64 value, .agg #[.int .i64 v.k, .int .i64 v.f, .int .i64 v.h, .int .i64 v.r, .int .i64 v.v, .int .i64 v.x]] w fun e w' => e = .returned (.bool true) ∧ Below w.heap.size w w' := by
  by_cases hk : kind = 0
  · obtain ⟨o, m, l', ws, code, hS, hcon, hO⟩ := nhear_says n l who v hl
    have hc := after_Hear n l who kind value v m l' ws code hk hcon
    cases o with
    | none =>
      obtain ⟨rfl, rfl, rfl, hne⟩ := hS
      exact kgood_code m l' who kind value v code hc w hq (by omega) hne
    | some a =>
      obtain ⟨rfl, rfl, rfl, rfl⟩ := hS
      obtain ⟨hg, gv, whon, h, hwho, hw4, hvh, rfl⟩ := hO a rfl
      have G := (gn_of hg).1
      have F1 : FI ⟨(n.nd l).setSheet h (hearW ((n.nd l).heard h) v), []⟩ := FI.start (G.hear h v)
      have F2 := (follow_ends (who := whon) _ _ F1 (Nat.le_refl _)).2
      exact kgood_some n l who kind value v _ whon hwho hg F2.good F2.len ((goesOn_steady whon (n.nd l)).follow F1 (goesOn_start whon rfl rfl rfl rfl)) hc w hq
  · by_cases hk1 : kind = 1
    · obtain ⟨o, m, l', ws, code, hS, hcon, hO⟩ := nsub_says n l who value hl
      have hc := after_Submit n l who kind value v m l' ws code hk1 hcon
      cases o with
      | none =>
        obtain ⟨rfl, rfl, rfl, hne⟩ := hS
        exact kgood_code m l' who kind value v code hc w hq (by omega) hne
      | some a =>
        obtain ⟨rfl, rfl, rfl, rfl⟩ := hS
        obtain ⟨hg, hy, h6, whon, hwho, hw4, ha⟩ := hO a rfl
        have G := (gn_of hg).1
        have GP : GN ((n.nd l).push value) := G.push hy h6
        by_cases c : (n.nd l).step = 0 ∧ (n.nd l).height < 4
        · rw [if_pos c] at ha
          have F1 : FI (enter whon ⟨(n.nd l).push value, []⟩ (n.nd l).round) := FI.enter0 (n := (n.nd l).push value) GP
          have F2 := (follow_ends (who := whon) _ _ F1 (Nat.le_refl _)).2
          have S := goesOn_steady whon (n.nd l)
          have g0 : GoesOn (n.nd l) whon ⟨{ (n.nd l).push value with round := (n.nd l).round, step := 0 }, []⟩ := goesOn_start whon rfl rfl c.1.symm rfl
          have g2 := S.follow F1 (S.enterC (a := ⟨(n.nd l).push value, []⟩) g0)
          rw [← ha] at F2 g2
          exact kgood_some n l who kind value v a whon hwho hg F2.good F2.len g2 hc w hq
        · rw [if_neg c] at ha
          subst ha
          exact kgood_some n l who kind value v ⟨(n.nd l).push value, []⟩ whon hwho hg GP (by show 0 < 100000; omega) (goesOn_start (m := (n.nd l).push value) whon rfl rfl rfl rfl) hc w hq
    · obtain ⟨o, m, l', ws, code, hS, hcon, hO⟩ := ntime_says n l who hl
      have hc := after_Time n l who kind value v m l' ws code ⟨hk, hk1⟩ hcon
      cases o with
      | none =>
        obtain ⟨rfl, rfl, rfl, hne⟩ := hS
        exact kgood_code m l' who kind value v code hc w hq (by omega) hne
      | some a =>
        obtain ⟨rfl, rfl, rfl, rfl⟩ := hS
        obtain ⟨hg, whon, hwho, hw4, ha⟩ := hO a rfl
        have G := (gn_of hg).1
        by_cases c : (n.nd l).height < 4
        · rw [if_pos c] at ha
          have F1 : FI (gaveUp whon ⟨n.nd l, []⟩) := FI.gave G c
          have F2 := (follow_ends (who := whon) _ _ F1 (Nat.le_refl _)).2
          have g2 := (goesOn_steady whon (n.nd l)).follow F1 (goesOn_gave c)
          rw [← ha] at F2 g2
          exact kgood_some n l who kind value v a whon hwho hg F2.good F2.len g2 hc w hq
        · rw [if_neg c] at ha
          subst ha
          exact kgood_some n l who kind value v _ whon hwho hg G (by show 0 < 100000; omega) (goesOn_start whon rfl rfl rfl rfl) hc w hq
end Go.Proofs.Ytmmgaonlmpajbaa
