/-
  The landed package node at work: follow.
  A node as it lies, and as plain numbers: a good one.
  The landed package node: begin, refuse, answer.
  The landed package node: refuse, answer.
-/
import Derived.Test.YtmmgaonlmpajbacGreatTurnB
import Derived.Test.YtmmgaonlmpajbacGreatTurnQ
import Derived.Test.YtmmgaonlmpajbacGreatTurn9
import Derived.Deep.LoopGhost
import Derived.Test.YtmmgaonlmpajbacGreatNG
import Derived.Test.YtmmgaonlmpajbacGreatTurnA
import Derived.Deep.DeepCutAuto
import Derived.Test.YtmmgaonlmpajbacGreatBase
namespace Go.Proofs.YtmmgaonlmpajbacGreat
open Go.RowKit

theorem one_end {who : Nat} {a : At} (h : a.n.height = 4) : one who a = none := if_pos h
theorem one_settle {who : Nat} {a : At} {r : Nat} (h : a.n.height < 4) (h1 : firstSettled a.n.sheet = some r) : one who a = some (settleAt who a r) := by
  unfold one
  rw [if_neg (by omega)]
  simp only [h1]
theorem one_far {who : Nat} {a : At} {r : Nat} (h : a.n.height < 4) (h1 : firstSettled a.n.sheet = none) (h2 : farRound a.n.sheet a.n.round = some r) : one who a = some (enter who a r) := by
  unfold one
  rw [if_neg (by omega)]
  simp only [h1, h2]
theorem one_wish {who : Nat} {a : At} (h : a.n.height < 4) (h1 : firstSettled a.n.sheet = none) (h2 : farRound a.n.sheet a.n.round = none) (h3 : a.n.step = 0) : one who a = wishes who a := by
  unfold one
  rw [if_neg (by omega)]
  simp only [h1, h2]
  exact if_pos h3
theorem one_prom {who : Nat} {a : At} (h : a.n.height < 4) (h1 : firstSettled a.n.sheet = none) (h2 : farRound a.n.sheet a.n.round = none) (h3 : a.n.step ≠ 0) : one who a = promises who a := by
  unfold one
  rw [if_neg (by omega)]
  simp only [h1, h2]
  exact if_neg h3
theorem GN.vi {n : Nd} (h : GN n) : n.validIn = -1 ∨ 0 ≤ n.validIn := by
  rcases h.vd with h | h
  · exact Or.inl h.2
  · exact Or.inr h.2.2.1

set_option maxRecDepth 100000 in
theorem tansww_zero {w : World} {g who : Nat} {a : At} {q sd : Value} (H : St w g 92 who a q sd) (hs : a.n.step = 0) :
    Calls Tryz.prog 66 #[.pointer (some ⟨g, 0, none⟩)] w fun e w' => e = .returned (.bool false) ∧ w' = w := by
  obtain ⟨c0, c1, c2, c3, c4, c5, c6, c7, c8⟩ := H.blk.tnums
  rw [hs] at c2
  go_enter Tryz.func66, Tryz.ntmps66
  go_wp2
  go_ret
  exact ⟨rfl, rfl⟩

set_option maxRecDepth 100000 in
set_option maxHeartbeats 8000000 in
theorem tfollow_any {w : World} {g who : Nat} {a : At} {q sd : Value} (H : St w g 92 who a q sd) (F : FI a) :
    Calls Tryz.prog 42 #[.pointer (some ⟨g, 0, none⟩)] w fun e w' => e = .returned (.tuple #[]) ∧ ∃ q' sd', InSt w g who (follow who a) q' sd' w' := by
  go_enter Tryz.func42, Tryz.ntmps42
  go_wp2
  go_loopg [2] 1000 (fun gg _ wr => ∃ b q' sd', b.n.mu ≤ gg ∧ Hid (FI b ∧ follow who a = follow who b) ∧ InSt w g who b q' sd' wr)
  case atStart => exact ⟨a, q, sd, by have := F.few; omega, ⟨F, rfl⟩, H, Below.refl _ _⟩
  case round =>
    obtain ⟨b, q', sd', hmu, hF, hC⟩ := hrel
    have FB := hF.out.1
    have G := FB.good
    obtain ⟨c0, c1, c2, c3, c4, c5, c6, c7, c8⟩ := hC.1.blk.tnums
    by_cases hh : b.n.height < 4
    · have hhi : (b.n.height : Int) < 4 := by omega
      have hql : b.n.queue.length ≤ 1000000 := by have := G.qlen; omega
      have hset := tsettle_any hC.1 hh FB.len hql (fun r hr => (G.votes b.n.height hr).2)
      cases hfs : firstSettled b.n.sheet with
      | some r =>
        have ho := one_settle (who := who) hh hfs
        have hb2 := FB.one ho
        have hset2 : Calls Tryz.prog 63 #[.pointer (some ⟨g, 0, none⟩)] wr fun e w' => e = .returned (.bool true) ∧ ∃ q2 sd2, InSt w g who (settleAt who b r) q2 sd2 w' := by
          refine hset.mono ?_
          rintro e w' (⟨h1, _⟩ | ⟨r', h1, rfl, q2, sd2, h2⟩)
          · rw [hfs] at h1; cases h1
          · rw [hfs] at h1
            obtain rfl := Option.some.inj h1
            exact ⟨rfl, q2, sd2, h2.1, bel_seq hC.2 h2.2⟩
        have HN : Hid (FI (settleAt who b r) ∧ follow who a = follow who (settleAt who b r)) := ⟨hb2.1, hF.out.2.trans (follow_some FB ho)⟩
        have hmu2 := hb2.2
        clear hset hfs ho hb2 hF FB G
        go_wp2_with (first | (go_at_call 63; refine hset2.mono ?_; rintro e w1 ⟨rfl, q2, sd2, hC2⟩))
        go_roundg (settleAt who b r).n.mu
        case measure => omega
        case rel => exact ⟨_, q2, sd2, Nat.le_refl _, HN, hC2⟩
      | none =>
        have hset0 : Calls Tryz.prog 63 #[.pointer (some ⟨g, 0, none⟩)] wr fun e w' => e = .returned (.bool false) ∧ InSt w g who b q' sd' w' := by
          refine hset.mono ?_
          rintro e w' (⟨_, rfl, h2⟩ | ⟨r', h1, _⟩)
          · exact ⟨rfl, h2.1, bel_seq hC.2 h2.2⟩
          · rw [hfs] at h1; cases h1
        clear hset
        cases hfr : farRound b.n.sheet b.n.round with
        | some r =>
          have ho := one_far (who := who) hh hfs hfr
          have hb2 := FB.one ho
          have hcat : ∀ W, InSt w g who b q' sd' W → Calls Tryz.prog 64 #[.pointer (some ⟨g, 0, none⟩)] W fun e w' => e = .returned (.bool true) ∧ ∃ sd2, InSt w g who (enter who b r) q' sd2 w' := fun W hW => by
            refine (tcatch_any hW.1 hh G.round FB.len G.vi).mono ?_
            rintro e w' (⟨h1, _⟩ | ⟨r', h1, rfl, sd2, h2⟩)
            · rw [hfr] at h1; cases h1
            · rw [hfr] at h1
              obtain rfl := Option.some.inj h1
              exact ⟨rfl, sd2, h2.1, bel_seq hW.2 h2.2⟩
          have HN : Hid (FI (enter who b r) ∧ follow who a = follow who (enter who b r)) := ⟨hb2.1, hF.out.2.trans (follow_some FB ho)⟩
          have hmu2 := hb2.2
          clear hfs hfr ho hb2 hF FB G
          go_wp2_with (first
            | (go_at_call 63; refine (hset0).mono ?_; rintro e w1 ⟨rfl, hC1⟩)
            | (go_at_call 64; refine (hcat _ hC1).mono ?_; rintro e w2 ⟨rfl, sd2, hC2⟩))
          go_roundg (enter who b r).n.mu
          case measure => omega
          case rel => exact ⟨_, q', sd2, Nat.le_refl _, HN, hC2⟩
        | none =>
          have hcat : ∀ W, InSt w g who b q' sd' W → Calls Tryz.prog 64 #[.pointer (some ⟨g, 0, none⟩)] W fun e w' => e = .returned (.bool false) ∧ InSt w g who b q' sd' w' := fun W hW => by
            refine (tcatch_any hW.1 hh G.round FB.len G.vi).mono ?_
            rintro e w' (⟨_, rfl, h2⟩ | ⟨r', h1, _⟩)
            · exact ⟨rfl, h2.1, bel_seq hW.2 h2.2⟩
            · rw [hfr] at h1; cases h1
          by_cases hs : b.n.step = 0
          · have ho := one_wish (who := who) hh hfs hfr hs
            cases hw : wishes who b with
            | some c =>
              rw [hw] at ho
              have hb2 := FB.one ho
              have hac : ∀ W, InSt w g who b q' sd' W → Calls Tryz.prog 65 #[.pointer (some ⟨g, 0, none⟩)] W fun e w' => e = .returned (.bool true) ∧ ∃ sd2, InSt w g who c q' sd2 w' := fun W hW => by
                refine (tansw_any hW.1 hh G FB.len).mono ?_
                rintro e w' (⟨h1, _⟩ | ⟨_, c', h1, rfl, sd2, h2⟩)
                · rw [hw] at h1; cases h1 hs
                · rw [hw] at h1
                  obtain rfl := Option.some.inj h1
                  exact ⟨rfl, sd2, h2.1, bel_seq hW.2 h2.2⟩
              have HN : Hid (FI c ∧ follow who a = follow who c) := ⟨hb2.1, hF.out.2.trans (follow_some FB ho)⟩
              have hmu2 := hb2.2
              clear hfs hfr ho hb2 hF FB G hw hs
              go_wp2_with (first
                | (go_at_call 63; refine (hset0).mono ?_; rintro e w1 ⟨rfl, hC1⟩)
                | (go_at_call 64; refine (hcat _ hC1).mono ?_; rintro e w2 ⟨rfl, hC2⟩)
                | (go_at_call 65; refine (hac _ hC2).mono ?_; rintro e w3 ⟨rfl, sd2, hC3⟩))
              go_roundg c.n.mu
              case measure => omega
              case rel => exact ⟨_, q', sd2, Nat.le_refl _, HN, hC3⟩
            | none =>
              rw [hw] at ho
              have hac : ∀ W, InSt w g who b q' sd' W → Calls Tryz.prog 65 #[.pointer (some ⟨g, 0, none⟩)] W fun e w' => e = .returned (.bool false) ∧ InSt w g who b q' sd' w' := fun W hW => by
                refine (tansw_any hW.1 hh G FB.len).mono ?_
                rintro e w' (⟨_, rfl, h2⟩ | ⟨_, c', h1, _⟩)
                · exact ⟨rfl, h2.1, bel_seq hW.2 h2.2⟩
                · rw [hw] at h1; cases h1
              have haw : ∀ W, InSt w g who b q' sd' W → Calls Tryz.prog 66 #[.pointer (some ⟨g, 0, none⟩)] W fun e w' => e = .returned (.bool false) ∧ InSt w g who b q' sd' w' := fun W hW => by
                refine (tansww_zero hW.1 hs).mono ?_
                rintro e w' ⟨rfl, rfl⟩
                exact ⟨rfl, hW⟩
              have hE : Hid (follow who a = b) := hF.out.2.trans (follow_none ho)
              clear hfs hfr ho hF FB G hw hs
              go_wp2_with (first
                | (go_at_call 63; refine (hset0).mono ?_; rintro e w1 ⟨rfl, hC1⟩)
                | (go_at_call 64; refine (hcat _ hC1).mono ?_; rintro e w2 ⟨rfl, hC2⟩)
                | (go_at_call 65; refine (hac _ hC2).mono ?_; rintro e w3 ⟨rfl, hC3⟩)
                | (go_at_call 66; refine (haw _ hC3).mono ?_; rintro e w4 ⟨rfl, hC4⟩))
              go_end0
              rw [hE.out]
              exact ⟨rfl, q', sd', hC4⟩
          · have ho := one_prom (who := who) hh hfs hfr hs
            have hac : ∀ W, InSt w g who b q' sd' W → Calls Tryz.prog 65 #[.pointer (some ⟨g, 0, none⟩)] W fun e w' => e = .returned (.bool false) ∧ InSt w g who b q' sd' w' := fun W hW => by
              refine (tansw_any hW.1 hh G FB.len).mono ?_
              rintro e w' (⟨_, rfl, h2⟩ | ⟨h1, _⟩)
              · exact ⟨rfl, h2.1, bel_seq hW.2 h2.2⟩
              · exact absurd h1 hs
            cases hw : promises who b with
            | some c =>
              rw [hw] at ho
              have hb2 := FB.one ho
              have haw : ∀ W, InSt w g who b q' sd' W → Calls Tryz.prog 66 #[.pointer (some ⟨g, 0, none⟩)] W fun e w' => e = .returned (.bool true) ∧ ∃ sd2, InSt w g who c q' sd2 w' := fun W hW => by
                refine (tansww_any hW.1 hh G.round FB.len hs (G.votes b.n.height G.round).1).mono ?_
                rintro e w' (⟨h1, _⟩ | ⟨c', h1, rfl, sd2, h2⟩)
                · rw [hw] at h1; cases h1
                · rw [hw] at h1
                  obtain rfl := Option.some.inj h1
                  exact ⟨rfl, sd2, h2.1, bel_seq hW.2 h2.2⟩
              have HN : Hid (FI c ∧ follow who a = follow who c) := ⟨hb2.1, hF.out.2.trans (follow_some FB ho)⟩
              have hmu2 := hb2.2
              clear hfs hfr ho hb2 hF FB G hw hs
              go_wp2_with (first
                | (go_at_call 63; refine (hset0).mono ?_; rintro e w1 ⟨rfl, hC1⟩)
                | (go_at_call 64; refine (hcat _ hC1).mono ?_; rintro e w2 ⟨rfl, hC2⟩)
                | (go_at_call 65; refine (hac _ hC2).mono ?_; rintro e w3 ⟨rfl, hC3⟩)
                | (go_at_call 66; refine (haw _ hC3).mono ?_; rintro e w4 ⟨rfl, sd2, hC4⟩))
              go_roundg c.n.mu
              case measure => omega
              case rel => exact ⟨_, q', sd2, Nat.le_refl _, HN, hC4⟩
            | none =>
              rw [hw] at ho
              have haw : ∀ W, InSt w g who b q' sd' W → Calls Tryz.prog 66 #[.pointer (some ⟨g, 0, none⟩)] W fun e w' => e = .returned (.bool false) ∧ InSt w g who b q' sd' w' := fun W hW => by
                refine (tansww_any hW.1 hh G.round FB.len hs (G.votes b.n.height G.round).1).mono ?_
                rintro e w' (⟨_, rfl, h2⟩ | ⟨c', h1, _⟩)
                · exact ⟨rfl, h2.1, bel_seq hW.2 h2.2⟩
                · rw [hw] at h1; cases h1
              have hE : Hid (follow who a = b) := hF.out.2.trans (follow_none ho)
              clear hfs hfr ho hF FB G hw hs
              go_wp2_with (first
                | (go_at_call 63; refine (hset0).mono ?_; rintro e w1 ⟨rfl, hC1⟩)
                | (go_at_call 64; refine (hcat _ hC1).mono ?_; rintro e w2 ⟨rfl, hC2⟩)
                | (go_at_call 65; refine (hac _ hC2).mono ?_; rintro e w3 ⟨rfl, hC3⟩)
                | (go_at_call 66; refine (haw _ hC3).mono ?_; rintro e w4 ⟨rfl, hC4⟩))
              go_end0
              rw [hE.out]
              exact ⟨rfl, q', sd', hC4⟩
    · have hhi : ¬ (b.n.height : Int) < 4 := by omega
      have hb4 : b.n.height = 4 := by have := G.height; omega
      have hE : Hid (follow who a = b) := hF.out.2.trans (follow_none (one_end hb4))
      clear hF FB G hb4
      go_wp2
      go_end0
      rw [hE.out]
      exact ⟨rfl, q', sd', hC⟩
end Go.Proofs.YtmmgaonlmpajbacGreat
namespace Go.Proofs.YtmmgaonlmpajbacGreat
open Go.RowKit

/-- The sheet that has heard nothing. -/
def noSh : Sh := ⟨fun _ => false, fun _ => 0, fun _ => 0, fun _ _ => 0, fun _ _ => 0⟩
theorem good_noSh : goodS noSh = true := rfl

def NI.nd (n : NI) (l : List Int) : Nd := ⟨n.height.toNat, n.round.toNat, n.step.toNat, n.bound, n.boundIn, n.valid, n.validIn, n.seen, fun g => if g < 4 then n.heard g else noSh, n.settled, l⟩

theorem heights_iff (n : NI) : ∀ k, okHeights n k = true ↔ ∀ h, h < k → goodS (n.heard h) = true ∧ okSettled n h = true
  | 0 => by simp [okHeights]
  | k + 1 => by
    simp only [okHeights, Bool.and_eq_true, heights_iff n k]
    constructor
    · rintro ⟨⟨h1, h2⟩, h3⟩ h hh
      by_cases e : h = k
      · subst e; exact ⟨h2, h3⟩
      · exact h1 h (by omega)
    · intro h
      exact ⟨⟨fun j hj => h j (by omega), (h k (by omega)).1⟩, (h k (by omega)).2⟩
theorem win_iff {n a b : Int} : win n a b = true ↔ a ≤ n ∧ n ≤ b := by simp [win]
theorem pair_ok {v i r : Int} {k : Nat} (h : okPair v i r = true) (hr : r = (k : Int)) : OkPair v i k := by
  simp only [okPair, Bool.or_eq_true, Bool.and_eq_true, beq_iff_eq, win_iff] at h
  rcases h with h | h
  · exact Or.inl h
  · exact Or.inr ⟨h.1.1, h.1.2, h.2.1, by omega⟩

theorem gn_of {n : NI} {l : List Int} (h : goodN n l = true) : GN (n.nd l) ∧ n.height = ((n.nd l).height : Int) ∧ n.round = ((n.nd l).round : Int) ∧ n.step = ((n.nd l).step : Int) := by
  simp only [goodN, okHead, Bool.and_eq_true, win_iff, decide_eq_true_eq] at h
  obtain ⟨⟨⟨⟨⟨⟨⟨h1, h2⟩, h3⟩, h4⟩, h5⟩, h6⟩, h7⟩, h8⟩ := h
  have e1 : n.height = ((n.nd l).height : Int) := by show n.height = (n.height.toNat : Int); omega
  have e2 : n.round = ((n.nd l).round : Int) := by show n.round = (n.round.toNat : Int); omega
  have e3 : n.step = ((n.nd l).step : Int) := by show n.step = (n.step.toNat : Int); omega
  have h7' := (heights_iff n 4).1 h7
  refine ⟨⟨by omega, by omega, by omega, pair_ok h5 e2, pair_ok h6 e2, fun g => ?_, fun h hh => ?_, fun h hh h4 => ?_, fun v hv => ?_, by show l.length ≤ 6; omega⟩, e1, e2, e3⟩
  · show goodS (if g < 4 then n.heard g else noSh) = true
    by_cases c : g < 4
    · rw [if_pos c]; exact (h7' g c).1
    · rw [if_neg c]; exact good_noSh
  · have h9 := (h7' h (by omega)).2
    unfold okSettled at h9
    rw [if_pos (by omega), win_iff] at h9
    exact h9
  · have h9 := (h7' h h4).2
    unfold okSettled at h9
    rw [if_neg (by omega)] at h9
    show n.settled h = 0
    simpa using h9
  · have hv' : v ∈ l := hv
    obtain ⟨j, hj, rfl⟩ := List.getElem_of_mem hv'
    have h9 := (okQueue_iff l l.length).1 h8 j hj
    rw [List.getD_eq_getElem?_getD, List.getElem?_eq_getElem hj, win_iff] at h9
    exact h9

/-- The cells are the same. -/
theorem cells_nd {n : NI} {l : List Int} (e1 : n.height = ((n.nd l).height : Int)) (e2 : n.round = ((n.nd l).round : Int)) (e3 : n.step = ((n.nd l).step : Int)) (q : Value) : ((n.nd l).ni q).cells = (n.setQ q).cells := by
  apply Array.ext_getElem?
  intro j
  by_cases hj : j < 282
  · rw [ncells_at _ j hj, ncells_at _ j hj]
    congr 1
    by_cases c1 : j < 7
    · rw [ncell_num _ j c1, ncell_num _ j c1]
      exact congrArg (Value.int .i64) (num_of ((n.nd l).ni q) (n.setQ q) e1.symm e2.symm e3.symm rfl rfl rfl rfl j c1)
    · unfold ncellAt
      rw [if_neg c1, if_neg c1]
      by_cases c2 : j < 13
      · rw [if_pos c2, if_pos c2]; rfl
      · rw [if_neg c2, if_neg c2]
        by_cases c3 : j < 277
        · rw [if_pos c3, if_pos c3]
          show cellAt (if (j - 13) / 66 < 4 then n.heard ((j - 13) / 66) else noSh) _ = _
          rw [if_pos (by omega)]; rfl
        · rw [if_neg c3, if_neg c3]; rfl
  · rw [Array.getElem?_eq_none (by rw [ncells_size]; omega), Array.getElem?_eq_none (by rw [ncells_size]; omega)]

theorem GN.hear {n : Nd} (h : GN n) (g : Nat) (v : Wd) : GN (n.setSheet g (hearW (n.heard g) v)) := by
  refine ⟨h.height, h.round, h.step, h.bd, h.vd, fun k => ?_, h.low, h.high, h.queue, h.qlen⟩
  simp only [Nd.setSheet]
  split
  · exact goodS_hear _ _ (h.sheets _)
  · exact h.sheets k
theorem FI.start {n : Nd} (h : GN n) : FI ⟨n, []⟩ := ⟨h, by have := mu_le h.ng; simp; omega⟩
end Go.Proofs.YtmmgaonlmpajbacGreat
namespace Go.Proofs.YtmmgaonlmpajbacGreat
open Go.RowKit

theorem eql_nil (W : World) (a : Option Addr) (n c n' c' : Nat) : (binOp .eql 48 (.slice a n c) (.slice none n' c')).run Tryz.prog W = .ok (.bool a.isNone) W := Lib.run_eql_slice_nil W _ _ a n c n' c' Tryz.underlying48

set_option maxHeartbeats 2000000 in
set_option maxRecDepth 100000 in
theorem clone_some (l : List Int) (ad : Addr) (qc : Nat) (w : World) (hcells : ∀ i v, l[i]? = some v → w.cell? (ad.add i) = some (.int .i64 v)) (hl : l.length * 8 ≤ 140737488355328) :
    Calls Tryz.prog 30 #[.slice (some ad) l.length qc] w fun e w' => ∃ q, e = .returned q ∧ w'.ownsRow w.heap.size 3 1 q l.length (l.map (Value.int .i64)) ∧ Below w.heap.size w w' := by
  obtain ⟨i0, hi, hz0, hz1, hz2⟩ := info_int
  have q59 := eql_nil
  have hnews : ∀ (j : Nat) (u : Value), (l.map (Value.int .i64))[j]? = some u → (w.alloc (.cells #[] 3)).cell? (ad.add j) = some u := fun j u hu => by
    rw [List.getElem?_map] at hu
    cases hx : l[j]? with
    | none => rw [hx] at hu; cases hu
    | some v =>
      rw [hx] at hu
      rw [cell_on (hcells j v hx) (show Below w.heap.size w (w.alloc (.cells #[] 3)) by go_grown)]; exact hu
  have hone : ∀ u : Value, u ∈ l.map (Value.int .i64) → u.oneCell' = true := fun u hu => by
    obtain ⟨v, _, rfl⟩ := List.mem_map.1 hu; rfl
  have h63 : 0 + l.length ≤ maxLen := by unfold maxLen; omega
  go_enter Tryz.func30, Tryz.ntmps30
  go_wp2_with (at_builtin; refine wpList_append_own _ rfl _ _ 48 rfl w.heap.size 3 i0 (.int .i64 0) 1 8 Tryz.underlying48 hi hz0 hz1 hz2 rfl (by decide) _ 0 [] rfl (World.ownsRow_made w #[] 0 (Nat.le_refl _) (Nat.zero_le _) rfl) ad l.length qc (l.map (Value.int .i64)) rfl (by simp) hnews hone h63 (by omega) (by simp) ?_; intro v' w1 hown hgrow hnil)
  go_ret
  refine ⟨v', rfl, by simpa using hown, ?_⟩
  exact ((Below.refl _ w).alloc (Nat.le_refl _) _).grown hgrow (by simp) (by intro k hk; have hk' : some w.heap.size = some k := hk; injection hk' with hk'; omega)
theorem clone_none (c : Nat) (w : World) :
    Calls Tryz.prog 30 #[.slice none 0 c] w fun e w' => ∃ q, e = .returned q ∧ w'.ownsRow w.heap.size 3 1 q 0 [] ∧ Below w.heap.size w w' := by
  have q59 := eql_nil
  go_enter Tryz.func30, Tryz.ntmps30
  go_wp2
  go_ret
  exact ⟨_, rfl, World.ownsRow_nil _ _ _ _, Below.refl _ _⟩
theorem clone_any (l : List Int) (q : Value) (w : World) (hq : Ints w q l) (hl : l.length * 8 ≤ 140737488355328) :
    Calls Tryz.prog 30 #[q] w fun e w' => ∃ q', e = .returned q' ∧ w'.ownsRow w.heap.size 3 1 q' l.length (l.map (Value.int .i64)) ∧ Below w.heap.size w w' := by
  rcases hq with ⟨rfl, cap, rfl⟩ | ⟨ad, cap, rfl, hc⟩
  · exact clone_none cap w
  · exact clone_some l ad cap w hc hl

theorem wpList_build_eq {ops : Array Oper} {rest : List Oper} {o : Oper} {a : Act} {w : World} {Q : Exit → Act → World → Prop} (hg : o.guard = none) (t : TypeId) (parts : Array (Nat × Operand)) (ho : o.op = .build t parts) (D : Array Value)
    (hv : (Instr.build t (parts.map fun (i, x) => (i, a.eval x))).run Tryz.prog w = .ok (.agg D) w) (h : wpList Tryz.prog ops Q rest (a.put o.dst (.agg D)) w) : wpList Tryz.prog ops Q (o :: rest) a w :=
  wpList_plain hg fun _ hK => by
    unfold Oper.wp execOp
    simp only [ho, Sem.run_bind, hv, Result.andThen_ok]
    exact hK _ _ h
theorem wpList_val {ops : Array Oper} {rest : List Oper} {o : Oper} {a : Act} {w w' : World} {Q : Exit → Act → World → Prop} (hg : o.guard = none) (v : Value) (hv : (execOp a.eval o).run Tryz.prog w = .ok (.value v) w') (h : wpList Tryz.prog ops Q rest (a.put o.dst v) w') : wpList Tryz.prog ops Q (o :: rest) a w :=
  wpList_plain hg fun _ hK => by
    unfold Oper.wp
    rw [hv]
    exact hK _ _ h
theorem build_turn (n : NI) (who : Int) (W : World) : Sem.run Tryz.prog (Instr.build 92 #[(0, .agg n.cells), (1, .int .i64 who)]) W = .ok (.agg (tcells n who (.slice none 0 0))) W := by
  show _ = _; kernel_rfl
theorem info_turn (n : NI) (who : Int) (sd : Value) : (Tryz.prog.info? 92).map (·.size) = some (tcells n who sd).size := by rw [tcells_size]; kernel_rfl

/-- A turn has begun: it lies in a block of its own, its queue in a row of its own. -/
def Begun (w : World) (n : NI) (l : List Int) (who code : Int) (e : Ending) (w' : World) : Prop :=
  ∃ g q', e = .returned (.tuple #[.pointer (some ⟨g, 0, none⟩), .int .i64 code]) ∧ w.heap.size ≤ g ∧ Blk w' g (tcells (n.setQ q') who (.slice none 0 0)) 92 ∧ w'.ownsRow (g + 1) 3 1 q' l.length (l.map (Value.int .i64)) ∧ Below w.heap.size w w'

set_option maxHeartbeats 2000000 in
set_option maxRecDepth 100000 in
theorem tbegin_any (n : NI) (l : List Int) (who : Int) (w : World) (hq : Ints w n.q l) (hl : l.length * 8 ≤ 140737488355328) (code : Int) (hcode : Hid (code = if goodN n l then (if win who 0 3 then 0 else 2) else 1)) :
    Calls Tryz.prog 39 #[.agg n.cells, .int .i64 who] w (Begun w n l who code) := by
  obtain ⟨qa, qc, hqv⟩ := hq.len
  rw [hqv] at hq
  have B0 : Blk (w.alloc (.cells n.cells 50)) w.heap.size n.cells 50 := Blk.new w _ _
  have c7 := ncells_q n
  rw [hqv] at c7
  have hiN := infoN n
  have hbt := build_turn n who
  go_enter Tryz.func39, Tryz.ntmps39
  go_upto_region 1 with fail
  refine wp_region_lit ?_
  refine wpList_load_blk rfl 50 _ rfl w.heap.size rfl 50 n.cells _ B0 Tryz.underlying50 rfl hiN ?_
  simp only [Act.put, List.setIfInBounds_toArray, List.set_cons_zero, List.set_cons_succ]
  refine wpList_val rfl (.int .i64 who) (by rw [BigFrame.run_move (.tmp 1) rfl]; rfl) ?_
  simp only [Act.put, List.setIfInBounds_toArray, List.set_cons_zero, List.set_cons_succ]
  refine wpList_build_eq rfl 92 _ rfl (tcells n who (.slice none 0 0)) (by simp only [List.map_toArray, List.map_cons, List.map_nil]; exact build_turn n who _) ?_
  simp only [Act.put, List.setIfInBounds_toArray, List.set_cons_zero, List.set_cons_succ]
  obtain ⟨D, hD⟩ : ∃ D, Hid (D = tcells n who (.slice none 0 0)) := ⟨_, rfl⟩
  have hD' : tcells n who (.slice none 0 0) = D := hD.out.symm
  rw [hD']
  clear hD' hbt
  have B1 : Blk ((w.alloc (.cells n.cells 50)).alloc (.cells D 92)) w.heap.size n.cells 50 := B0.alloc _
  have T1 : Blk ((w.alloc (.cells n.cells 50)).alloc (.cells D 92)) (w.heap.size + 1) D 92 := Blk.new1 w _ _ _
  have L1 : Below w.heap.size w ((w.alloc (.cells n.cells 50)).alloc (.cells D 92)) := by go_grown
  have hq1 := hq.keep L1
  have e7 := B1.cell 281
  rw [c7] at e7
  go_wp2_with fail
  refine (clone_any l (.slice qa l.length qc) _ hq1 hl).mono ?_
  rintro e w2 ⟨q', rfl, hown, hb2⟩
  obtain ⟨qa', qc', hq'⟩ := own_shape hown
  subst hq'
  have hsz : ((w.alloc (.cells n.cells 50)).alloc (.cells D 92)).heap.size = w.heap.size + 1 + 1 := by simp
  have hown2 : w2.ownsRow (w.heap.size + 1 + 1) 3 1 (.slice qa' l.length qc') l.length (l.map (Value.int .i64)) := by rw [← hsz]; exact hown
  have T2 := T1.below hb2
  have e281 := T2.cell 281
  have f281 := T2.free 281
  rw [hD.out, tcells_q] at e281
  have T3 := T2.setCell 281 (.slice qa' l.length qc')
  rw [hD.out, tcells_set (set_q n (.slice qa' l.length qc')) (by omega)] at T3
  have B3 := (B1.below hb2).setCell_other ⟨w.heap.size + 1, 281, none⟩ (.slice qa' l.length qc') (by simp)
  have hown3 := own_grown hown2 (grown_setCell w2 (w.heap.size + 1) 281 (.slice qa' l.length qc')) (by omega)
  have L3 : Below w.heap.size w (w2.setCell ⟨w.heap.size + 1, 281, none⟩ (.slice qa' l.length qc')) := (bel_trans L1 hb2).setCell (by simp) _
  have hq3 := hq.keep L3
  clear hown hown2 T2 T1 B1 B0 L1 hq1 e7 hb2
  go_upto_region 3 with fail
  generalize w2.setCell ⟨w.heap.size + 1, 281, none⟩ (.slice qa' l.length qc') = w3 at T3 B3 hown3 L3 hq3 ⊢
  have hl2 : l.length < 4611686018427387904 := by omega
  have hgood := fun W (h : Ints W n.q l) => ngood_any n l W h hl2
  rw [hqv] at hgood
  have hnode := fun W => bnode_any who W
  cases hg : goodN n l
  · rw [hg] at hgood
    go_wp2_with (first
      | (refine wpList_load_blk rfl 50 _ rfl w.heap.size rfl 50 n.cells _ B3 Tryz.underlying50 rfl hiN ?_)
      | (go_at_call 57; refine (hgood _ hq3).mono ?_; rintro e w4 ⟨rfl, hb4⟩))
    go_ret2
    rw [show code = 1 from hcode.out.trans (by rw [hg]; rfl)]
    exact ⟨w.heap.size + 1, _, rfl, by omega, T3.below hb4, own_below hown3 hb4, bel_trans L3 hb4⟩
  · rw [hg] at hgood
    cases hw : win who 0 3
    · rw [hw] at hnode
      go_wp2_with (first
        | (refine wpList_load_blk rfl 50 _ rfl w.heap.size rfl 50 n.cells _ B3 Tryz.underlying50 rfl hiN ?_)
        | (go_at_call 57; refine (hgood _ hq3).mono ?_; rintro e w4 ⟨rfl, hb4⟩)
        | (go_at_call 13; refine (hnode _).mono ?_; rintro e w' ⟨rfl, rfl⟩))
      go_ret2
      rw [show code = 2 from hcode.out.trans (by rw [hg, hw]; rfl)]
      exact ⟨w.heap.size + 1, _, rfl, by omega, T3.below hb4, own_below hown3 hb4, bel_trans L3 hb4⟩
    · rw [hw] at hnode
      go_wp2_with (first
        | (refine wpList_load_blk rfl 50 _ rfl w.heap.size rfl 50 n.cells _ B3 Tryz.underlying50 rfl hiN ?_)
        | (go_at_call 57; refine (hgood _ hq3).mono ?_; rintro e w4 ⟨rfl, hb4⟩)
        | (go_at_call 13; refine (hnode _).mono ?_; rintro e w' ⟨rfl, rfl⟩))
      go_ret2
      rw [show code = 0 from hcode.out.trans (by rw [hg, hw]; rfl)]
      exact ⟨w.heap.size + 1, _, rfl, by omega, T3.below hb4, own_below hown3 hb4, bel_trans L3 hb4⟩
end Go.Proofs.YtmmgaonlmpajbacGreat
namespace Go.Proofs.YtmmgaonlmpajbacGreat
open Go.RowKit

theorem results_three {fn : Func} {p s1 s2 : Tmp} {ty : TypeId} (h : fn.results = #[.cell p ty, .tmp s1, .tmp s2]) (tmps : Array Value) (W : World) (g : Nat) (C : Array Value) (v1 v2 : Value)
    (hp : tmps.getD p undef = .pointer (some ⟨g, 0, none⟩)) (h1 : tmps.getD s1 undef = v1) (h2 : tmps.getD s2 undef = v2) (he : Sem.run Tryz.prog (loadVar ty ⟨g, 0, none⟩) W = .ok (.agg C) W) :
    (results fn tmps).run Tryz.prog W = .ok (.tuple #[.agg C, v1, v2]) W := by
  have hp' : tmps[p]?.getD undef = .pointer (some ⟨g, 0, none⟩) := by simpa using hp
  have h1' : tmps[s1]?.getD undef = v1 := by simpa using h1
  have h2' : tmps[s2]?.getD undef = v2 := by simpa using h2
  simp [results, h, hp', h1', h2', asAddr, he]

theorem load_node {W : World} {g : Nat} {m : NI} {t : TypeId} (B : Blk W g m.cells t) : Sem.run Tryz.prog (loadVar 50 ⟨g, 0, none⟩) W = .ok (.agg m.cells) W := by
  have e := run_loadVar_mid W g 0 50 m.cells.toList _ B.range Tryz.underlying50 rfl (by simpa using infoN m)
  simpa using e
theorem node_range {W : World} {g : Nat} {m : NI} {who : Int} {sd : Value} {t : TypeId} (B : Blk W g (tcells m who sd) t) : W.rangeAt g 0 m.cells.toList := by
  intro j u hu
  have hj : j < 282 := by
    by_cases hlt : j < 282
    · exact hlt
    · rw [List.getElem?_eq_none (by rw [Array.length_toList, ncells_size]; omega)] at hu; cases hu
  rw [Nat.zero_add, B.cell, tcells_lt _ _ _ j hj]
  rw [Array.getElem?_toList] at hu
  exact hu

/-- What a call answers: a node, words, an error. -/
def Ans (w : World) (m : NI) (sd : Value) (code : Int) (e : Ending) (w' : World) : Prop := e = .returned (.tuple #[.agg m.cells, sd, .int .i64 code]) ∧ Below w.heap.size w w'

set_option maxRecDepth 100000 in
set_option maxHeartbeats 2000000 in
theorem refuse_any {w : World} {g : Nat} {m : NI} {who : Int} {sd : Value} (B : Blk w g (tcells m who sd) 92) (hq1 : m.q.oneCell' = true) (code : Int) :
    Calls Tryz.prog 40 #[.pointer (some ⟨g, 0, none⟩), .int .i64 code] w (Ans w m (.slice none 0 0) code) := by
  have hz := run_zeroN
  have hr := node_range (B.alloc (.cells zN.cells 50))
  have hi := infoN m
  have Z1 : Blk (w.alloc (.cells zN.cells 50)) w.heap.size zN.cells 50 := Blk.new w _ _
  have L1 : Below w.heap.size w (w.alloc (.cells zN.cells 50)) := by go_grown
  go_enter Tryz.func40, Tryz.ntmps40
  go_wp2_with (first
    | (refine wpList_load_part (by rfl) 50 _ rfl g 0 rfl m.cells _ hr Tryz.underlying50 rfl hi ?_)
    | (refine wpList_store_blk rfl 50 _ _ rfl w.heap.size zN.cells m.cells 50 rfl rfl Z1 (by rw [ncells_size, ncells_size]) hi (one_cellN _ hq1) ?_; rintro w2 B3 K2))
  exact bodyPost_ret (results_three rfl _ _ w.heap.size m.cells _ _ rfl rfl rfl (load_node B3)) rfl ⟨rfl, K2.bel _ _ (Nat.le_refl _) L1⟩

set_option maxRecDepth 100000 in
set_option maxHeartbeats 2000000 in
theorem answer_any {w : World} {g : Nat} {m : NI} {who : Int} {sa : Option Addr} {sl sc : Nat} (B : Blk w g (tcells m who (.slice sa sl sc)) 92) (hq1 : m.q.oneCell' = true) :
    Calls Tryz.prog 43 #[.pointer (some ⟨g, 0, none⟩)] w (Ans w m (.slice sa sl sc) 0) := by
  have hz := run_zeroN
  have hi := infoN m
  have Z1 : Blk (w.alloc (.cells zN.cells 50)) w.heap.size zN.cells 50 := Blk.new w _ _
  have L1 : Below w.heap.size w (w.alloc (.cells zN.cells 50)) := by go_grown
  have B1 := B.alloc (.cells zN.cells 50)
  have hone := one_cellN m hq1
  go_enter Tryz.func43, Tryz.ntmps43
  go_wp2_with fail
  refine held_region (fun W => Blk W g (tcells m who (.slice sa sl sc)) 92) [] [(0, 0), (1, 0), (2, 0), (3, 1), (4, 0), (5, 0), (6, 0), (7, 1), (8, 2), (9, 0), (10, 0)] (by kernel_rfl) (by kernel_rfl) (by kernel_rfl) rfl (fun _ _ d _ _ h => by cases d <;> exact h) B1.drew ?_
  repeat (first
    | (refine ord_load rfl (by rfl) 50 _ rfl g 0 rfl m.cells _ (fun W H => node_range H) Tryz.underlying50 rfl hi ?_; simp only [Act.put, List.setIfInBounds_toArray, List.set_cons_zero, List.set_cons_succ])
    | (refine ord_run0_ex rfl (by rfl) ?_
       apply Exists.intro
       refine ⟨fun w0 => ?_, ?_⟩
       · go_simp; rfl
       simp only [Act.put, List.setIfInBounds_toArray, List.set_cons_zero, List.set_cons_succ])
    | (refine ord_run1_ex rfl (by rfl) ?_
       apply Exists.intro
       refine ⟨fun w0 hC => ?_, ?_⟩
       · have e0 := hC.cell 283; rw [tcells_sd] at e0; clear hC; go_simp; rfl
       simp only [Act.put, List.setIfInBounds_toArray, List.set_cons_zero, List.set_cons_succ]))
  refine ord_do rfl ?_
  refine wpList_store_blk rfl 50 _ _ rfl w.heap.size zN.cells m.cells 50 rfl rfl Z1.drew (by rw [ncells_size, ncells_size]) hi hone ?_
  rintro w2 B3 K2
  refine ⟨fun _ => K2.blk _ _ _ (by have := B.lt; omega) B1.drew, ?_⟩
  simp only [Act.put]
  repeat (first
    | (refine ord_run0_ex rfl (by rfl) ?_
       apply Exists.intro
       refine ⟨fun w0 => ?_, ?_⟩
       · go_simp; rfl
       simp only [Act.put, List.setIfInBounds_toArray, List.set_cons_zero, List.set_cons_succ]))
  show wpOrd _ _ _ _ _ [] _ _ _
  unfold wpOrd
  go_wp2
  exact bodyPost_ret (results_three rfl _ _ w.heap.size m.cells _ _ rfl rfl rfl (load_node B3)) rfl ⟨rfl, K2.bel _ _ (Nat.le_refl _) (below_drew' L1)⟩
end Go.Proofs.YtmmgaonlmpajbacGreat
