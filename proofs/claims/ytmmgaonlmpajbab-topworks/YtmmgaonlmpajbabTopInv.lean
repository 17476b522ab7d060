/-
  What holds of every crowd, whatever was done to it: of plain crowds.
-/
import Derived.Test.YtmmgaonlmpajbabPlays
import Derived.Test.YtmmgaonlmpajbabCPlay
namespace Go.Proofs.Ytmmgaonlmpajbab

/-- Nothing is heard of rounds that there are not. -/
def Clean (a : At) : Prop := ∀ g r i, 6 ≤ r → (a.n.heard g).wi r i = 0 ∧ (a.n.heard g).pr r i = 0
theorem clean_hear {n : Nd} (h : Clean ⟨n, []⟩) (g : Nat) (v : Wd) : Clean ⟨n.setSheet g (hearW (n.heard g) v), []⟩ := by
  intro g' r i hr
  show ((if g' = g then _ else n.heard g') : Sh).wi r i = 0 ∧ ((if g' = g then _ else n.heard g') : Sh).pr r i = 0
  have h0 := h g r i hr
  by_cases e : g' = g
  · rw [if_pos e]
    constructor
    · rw [(hear_wi _ v r i).2 (fun hh => by have := goodC_bds hh.1; have := hh.2.2.1; omega)]; exact h0.1
    · rw [(hear_pr _ v r i).2 (fun hh => by have := goodC_bds hh.1; have := hh.2.2.1; omega)]; exact h0.2
  · rw [if_neg e]; exact h g' r i hr
theorem clean_steady (who : Nat) : Steady who Clean := by
  refine ⟨fun a k v x hp _ => ?_, fun a r hp _ => hp, fun a r hp _ _ _ _ => hp, fun a s hp _ => hp, fun a f b bi v vi hp => hp⟩
  exact clean_hear (n := a.n) hp a.n.height (sayW who a.n k v x)

theorem pos_of {n : Nd} (G : GN n) (C : Clean ⟨n, []⟩) {g r i : Nat} (hi : i < 4) : ((n.heard g).wi r i ≠ 0 → 0 < (n.heard g).wi r i) ∧ ((n.heard g).pr r i ≠ 0 → 0 < (n.heard g).pr r i) := by
  by_cases hr : r < 6
  · have := nonneg_of (G.sheets g) hr hi
    omega
  · have := C g r i (by omega)
    have h1 : (n.heard g).wi r i = 0 := this.1
    have h2 : (n.heard g).pr r i = 0 := this.2
    omega

theorem follow_step {who : Nat} {a : At} (G : NG a.n) : Step who a.n (follow who a).n := (all_step 455 a G).2
theorem follow_mine {who : Nat} {a : At} (h : Mine who a) : Mine who (follow who a) := mine_all 455 a h

theorem submit_step {who : Nat} {n : Nd} (h : Whole n) {y : Int} (hy : win y 1 9 = true) (h6 : n.queue.length < 6) : Step who n (submitN who n y).n ∧ Mine who (submitN who n y) := by
  have e2 : submitN who n y = if n.height < 4 ∧ n.step = 0 then follow who (enter who ⟨n.push y, []⟩ n.round) else ⟨n.push y, []⟩ := rfl
  have GP : GN (n.push y) := h.good.push (win_iff.1 hy) h6
  have s0 : Step who n (n.push y) := Step.of rfl rfl rfl
  have m0 : Mine who ⟨n.push y, []⟩ := fun w hw => by cases hw
  rw [e2]
  split
  · have F := FI.enter0 (who := who) (n := n.push y) GP
    exact ⟨(s0.trans (step_enter who ⟨n.push y, []⟩ n.round)).trans (follow_step F.good.ng), follow_mine (mine_enter m0 _)⟩
  · exact ⟨s0, m0⟩
theorem time_step {who : Nat} {n : Nd} (h : Whole n) : Step who n (timeN who n).n ∧ Mine who (timeN who n) := by
  have hg := h.good
  have m0 : Mine who ⟨n, []⟩ := fun w hw => by cases hw
  unfold timeN
  split
  · exact ⟨Step.refl _ _, m0⟩
  · split
    · have G1 : NG (tell who ⟨{ n with step := 1 }, []⟩ 2 0 0).n := NG.tell (a := ⟨{ n with step := 1 }, []⟩) ⟨hg.round, hg.height, hg.sheets⟩ _ _ _
      exact ⟨((Step.of rfl rfl rfl : Step who n { n with step := 1 }).trans (step_tell who ⟨{ n with step := 1 }, []⟩ 2 0 0)).trans (follow_step G1), follow_mine (mine_tell (a := ⟨{ n with step := 1 }, []⟩) (fun w hw => by cases hw) _ _ _)⟩
    · split
      · split
        · have G1 : NG (tell who ⟨{ n with step := 2 }, []⟩ 3 0 0).n := NG.tell (a := ⟨{ n with step := 2 }, []⟩) ⟨hg.round, hg.height, hg.sheets⟩ _ _ _
          exact ⟨((Step.of rfl rfl rfl : Step who n { n with step := 2 }).trans (step_tell who ⟨{ n with step := 2 }, []⟩ 3 0 0)).trans (follow_step G1), follow_mine (mine_tell (a := ⟨{ n with step := 2 }, []⟩) (fun w hw => by cases hw) _ _ _)⟩
        · exact ⟨follow_step (a := ⟨n, []⟩) hg.ng, follow_mine m0⟩
      · split
        · rename_i c
          have G1 : NG (enter who ⟨n, []⟩ (n.round + 1)).n := NG.enter (a := ⟨n, []⟩) hg.ng _ (by omega)
          exact ⟨(step_enter who ⟨n, []⟩ (n.round + 1)).trans (follow_step G1), follow_mine (mine_enter m0 _)⟩
        · exact ⟨follow_step (a := ⟨n, []⟩) hg.ng, follow_mine m0⟩

theorem submit_clean {who : Nat} {n : Nd} (h : Whole n) (C : Clean ⟨n, []⟩) {y : Int} (hy : win y 1 9 = true) (h6 : n.queue.length < 6) : Clean ⟨(submitN who n y).n, []⟩ := by
  have e2 : submitN who n y = if n.height < 4 ∧ n.step = 0 then follow who (enter who ⟨n.push y, []⟩ n.round) else ⟨n.push y, []⟩ := rfl
  have GP : GN (n.push y) := h.good.push (win_iff.1 hy) h6
  rw [e2]
  split
  · have := (clean_steady who).follow (FI.enter0 (who := who) (n := n.push y) GP) ((clean_steady who).enterC (a := ⟨n.push y, []⟩) C)
    exact this
  · exact C
theorem hear_clean {who : Nat} {n : Nd} (h : Whole n) (C : Clean ⟨n, []⟩) (v : Wd) : Clean ⟨(hearN who n v).n, []⟩ :=
  (clean_steady who).follow (FI.start (h.good.hear _ v)) (clean_hear C _ v)
theorem time_clean {who : Nat} {n : Nd} (h : Whole n) (C : Clean ⟨n, []⟩) : Clean ⟨(timeN who n).n, []⟩ := by
  have S := clean_steady who
  have hg := h.good
  have few1 : ∀ a : At, a.words.length ≤ 1 → GN a.n → FI a := fun a hw hg => ⟨hg, by have := mu_le hg.ng; omega⟩
  unfold timeN
  split
  · exact C
  · rename_i h4
    split
    · exact S.follow (few1 _ (by simp [tell]) (GN.tell (a := ⟨{ n with step := 1 }, []⟩) ⟨hg.height, hg.round, by show 1 ≤ 2; omega, hg.bd, hg.vd, hg.sheets, hg.low, hg.high, hg.queue, hg.qlen⟩ _ _ _)) (S.tell ⟨{ n with step := 1 }, []⟩ _ _ _ C h4)
    · split
      · split
        · exact S.follow (few1 _ (by simp [tell]) (GN.tell (a := ⟨{ n with step := 2 }, []⟩) ⟨hg.height, hg.round, by show 2 ≤ 2; omega, hg.bd, hg.vd, hg.sheets, hg.low, hg.high, hg.queue, hg.qlen⟩ _ _ _)) (S.tell ⟨{ n with step := 2 }, []⟩ _ _ _ C h4)
        · exact S.follow (a := ⟨n, []⟩) (FI.start hg) C
      · split
        · exact S.follow (few1 _ (by have := enter_len who ⟨n, []⟩ (n.round + 1); simpa using this) (GN.enter (a := ⟨n, []⟩) hg _ (by show n.round ≤ n.round + 1; omega) (by omega))) (S.enterC (a := ⟨n, []⟩) C)
        · exact S.follow (a := ⟨n, []⟩) (FI.start hg) C

/-- A node moves by itself. -/
theorem Inv.move {c : Cr} {liar : Int} (h : Inv c liar) {i : Nat} (hi : i < 4) (a : At) (l : List (Nat × Wd)) (G : GN (c.nd i)) (C : Clean ⟨c.nd i, []⟩)
    (hfit : (i : Int) ≠ liar → Fit i a.n ∧ AllSaid i a) (hng : NG a.n) (hst : Step i (c.nd i) a.n) (hmine : Mine i a)
    (hnet : ∀ x, x ∈ l → x ∈ c.net ∨ (x.1 < 4 ∧ x.1 ≠ i ∧ x.2 ∈ a.words)) : Inv (c.put i a l) liar :=
  h.put hi a l hfit hng ((h.set i hi).step hst) hst.grow hmine (fun g r hne _ => (pos_of G C hi).1 hne) (fun g r hne _ => (pos_of G C hi).2 hne)
    (fun g r x hx hxi tx hne => by rw [hst.wi g r x hxi] at hne ⊢; exact h.authW x i g r hx hi tx hne)
    (fun g r x hx hxi tx hne => by rw [hst.pr g r x hxi] at hne ⊢; exact h.authP x i g r hx hi tx hne) hnet

/-- What holds of a crowd. -/
structure TI (c : Cw) : Prop where
  good : CG c
  inv : Inv ⟨c.nd, c.net⟩ c.liar
  clean : ∀ i, i < 4 → Clean ⟨c.nd i, []⟩
theorem TI.more {c : Cw} (h : TI c) (h6 : c.acts ≠ 600) : TI c.more := ⟨h.good.more h6, h.inv, h.clean⟩

theorem TI.did {c : Cw} (h : TI c) {i : Nat} (_hi : i < 4) {a : At} (hw : Whole a.n) (hc : Clean ⟨a.n, []⟩) (hinv : Inv (Cr.put ⟨c.nd, c.net⟩ i a (sendAll i a.words c.net)) c.liar) : TI (c.did i a) := by
  refine ⟨h.good.did hw, hinv, fun k hk => ?_⟩
  show Clean ⟨if k = i then a.n else c.nd k, []⟩
  by_cases e : k = i
  · rw [if_pos e]; exact hc
  · rw [if_neg e]; exact h.clean k hk
theorem TI.hear {c : Cw} (h : TI c) {i : Nat} (hi : i < 4) (v : Wd) (hf : (i : Int) ≠ c.liar → v.f ≠ i) (hs : v.f ≠ c.liar → ∃ k : Nat, k < 4 ∧ v.f = k ∧ Said k (c.nd k) v) : TI (hearC c i v).1 := by
  unfold hearC
  split
  · rename_i gv
    have hw := h.good.nd i hi
    refine h.did hi (hear_whole hw i gv).1 (hear_clean hw (h.clean i hi) v) ?_
    exact h.inv.hear hi v _ (fun g r hne _ => (pos_of hw.good (h.clean i hi) hi).1 hne) (fun g r hne _ => (pos_of hw.good (h.clean i hi) hi).2 hne) hf hs (fun x hx => sendAll_mem i _ c.net x hx)
  · exact h

theorem newN_own : ∀ g r i, ((newN.nd []).heard g).wi r i = 0 ∧ ((newN.nd []).heard g).pr r i = 0 := fun g r i => by
  show ((if g < 4 then newN.heard g else noSh) : Sh).wi r i = 0 ∧ ((if g < 4 then newN.heard g else noSh) : Sh).pr r i = 0
  by_cases c : g < 4
  · rw [if_pos c]; exact ⟨rfl, rfl⟩
  · rw [if_neg c]; exact ⟨rfl, rfl⟩
theorem own_zero {who : Nat} {S : Sh} (h : ∀ r i, S.wi r i = 0 ∧ S.pr r i = 0) : Own who S :=
  ⟨fun r v _ hv e => by have := (h r who).2; omega, fun r s u v _ _ hu _ _ e _ => by have := (h r who).2; omega⟩
theorem newN_true (who : Nat) : TrueNd who (newN.nd []) := by
  have hz := newN_own
  refine ⟨fun g _ _ => own_zero (fun r i => hz g r i), fun g _ _ r => ⟨(hz g r who).1, (hz g r who).2⟩, fun _ => ⟨own_zero (fun r i => hz _ r i), fun r _ _ => (hz _ r who).1, fun r _ _ => (hz _ r who).2, fun _ => (hz _ _ who).1, fun _ => (hz _ _ who).2, fun r u _ hu e => ?_, fun hb => ?_⟩⟩
  · have h0 : (newN.nd []).sheet.pr r who = 0 := (hz _ r who).2
    omega
  · have hb' : (0 : Int) ≤ -1 := hb
    omega
theorem new_TI {liar : Int} (h : -1 ≤ liar ∧ liar ≤ 3) : TI (newC liar) := by
  have hg := newN_whole
  have hz := newN_own
  refine ⟨newC_good h, ⟨fun i _ _ => ⟨newN_true i, hg.good.ng, ⟨fun hv => ?_, fun v hv => by cases hv⟩⟩, fun i _ => hg.good.ng, fun i _ => ⟨fun g hh => ?_, fun g _ => rfl⟩, fun i j g r _ _ _ hne => absurd (hz g r i).1 hne, fun i j g r _ _ _ hne => absurd (hz g r i).2 hne, fun x hx => absurd hx List.not_mem_nil⟩, fun i _ g r k _ => hz g r k⟩
  · have hv' : (0 : Int) ≤ -1 := hv
    omega
  · have hh' : g < 0 := hh
    omega

theorem do_TI {c : Cw} (h : TI c) (a : Ac) : TI (doC c a).1 := by
  unfold doC
  split
  · exact h
  · rename_i h6
    have h1 := h.more h6
    split
    · unfold subC
      split
      · rename_i hi
        have hi' := win_iff.1 hi
        split
        · rename_i hs
          have h4 : a.node.toNat < 4 := by omega
          have hw := h1.good.nd a.node.toNat h4
          have hy : win a.value 1 9 = true := by
            cases hy : win a.value 1 9
            · unfold subCode at hs; rw [hy] at hs; simp at hs
            · rfl
          have hl : (c.more.nd a.node.toNat).queue.length < 6 := by
            unfold subCode at hs
            rw [if_pos hy] at hs
            by_cases hl : (c.more.nd a.node.toNat).queue.length = 6
            · rw [if_pos hl] at hs; cases hs
            · have := hw.good.qlen; omega
          have hst := submit_step (who := a.node.toNat) hw hy hl
          have hwh := submit_whole hw a.node.toNat hy hl
          refine h1.did h4 hwh.1 (submit_clean hw (h1.clean _ h4) hy hl) ?_
          refine h1.inv.move h4 _ _ hw.good (h1.clean _ h4) (fun ti => ?_) hwh.1.good.ng hst.1 hst.2 (fun x hx => sendAll_mem _ _ c.more.net x hx)
          have := submit_fit h4 (h1.inv.fit _ h4 ti) a.value (by have := win_iff.1 hy; omega)
          exact ⟨this.1, this.2.1⟩
        · exact h1
      · exact h1
    · split
      · unfold deliverC
        split
        · rename_i x hx
          split
          · have hm := List.mem_of_getElem? hx
            obtain ⟨n1, n2, k, n3, n4, n5⟩ := h1.inv.net x hm
            exact h1.hear n1 x.2 (fun _ => n2) (fun hne => ⟨k, n3, n4, n5 (by rw [← n4]; exact hne)⟩)
          · exact h1
        · exact h1
      · split
        · unfold dropC
          split
          · refine ⟨⟨h1.good.nd, ?_, fun x hx => h1.good.dest x (List.mem_of_mem_eraseIdx hx), h1.good.acts, h1.good.liar⟩, ⟨h1.inv.fit, h1.inv.good, h1.inv.set, h1.inv.authW, h1.inv.authP, fun x hx => h1.inv.net x (List.mem_of_mem_eraseIdx hx)⟩, h1.clean⟩
            show (c.more.net.eraseIdx _).length ≤ 2000
            have := List.length_eraseIdx_le c.more.net a.n.toNat
            have := h1.good.net
            omega
          · exact h1
        · split
          · unfold timeC
            split
            · rename_i hi
              have hi' := win_iff.1 hi
              have h4 : a.node.toNat < 4 := by omega
              have hw := h1.good.nd a.node.toNat h4
              have hst := time_step (who := a.node.toNat) hw
              have hwh := time_whole hw a.node.toNat
              refine h1.did h4 hwh.1 (time_clean hw (h1.clean _ h4)) ?_
              refine h1.inv.move h4 _ _ hw.good (h1.clean _ h4) (fun ti => ?_) hwh.1.good.ng hst.1 hst.2 (fun x hx => sendAll_mem _ _ c.more.net x hx)
              have := time_fit h4 (h1.inv.fit _ h4 ti)
              exact ⟨this.1, this.2.1⟩
            · exact h1
          · split
            · unfold lieC
              split
              · split
                · rename_i hf
                  split
                  · rename_i hi
                    have hi' := win_iff.1 hi
                    exact h1.hear (by omega) a.word (fun hne he => hne (by rw [← he]; exact hf)) (fun hne => absurd hf hne)
                  · exact h1
                · exact h1
              · exact h1
            · split
              · exact h1
              · exact h1
end Go.Proofs.Ytmmgaonlmpajbab
