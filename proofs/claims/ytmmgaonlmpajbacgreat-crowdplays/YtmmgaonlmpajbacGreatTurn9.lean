/-
  The landed package node at work: answerWishes, whole.
-/
import Derived.Test.YtmmgaonlmpajbacGreatTurnB
import Derived.Deep.DeepCutAuto
namespace Go.Proofs.YtmmgaonlmpajbacGreat
open Go.RowKit

set_option maxRecDepth 100000 in
theorem tsheet_exact {w : World} {g : Nat} {n : Nd} {q sd : Value} {who : Int} (B : Blk w g (tcells (n.ni q) who sd) 92) (hh : n.height < 4) :
    Calls Tryz.prog 58 #[.pointer (some ⟨g, 0, none⟩)] w fun e w' => e = .returned (.pointer (some ⟨g, 13 + n.height * 66, none⟩)) ∧ w' = w.drew := by
  have e0 := B.cell 0
  rw [tcells_num _ _ _ 0 (by omega)] at e0
  simp only [NI.num, Nd.ni] at e0
  go_enter Tryz.func58, Tryz.ntmps58
  go_wp2_with fail
  go_region
  all_goals
    go_wp2
    go_ret
    exact ⟨rfl, rfl⟩

/-- What the copies are taken from. -/
def InW (w : World) (g who : Nat) (a : At) (q sd : Value) (W : World) : Prop :=
  InSt w g who a q sd W ∧ W.cell? ⟨g, 1, none⟩ = some (.int .i64 (a.n.round : Int)) ∧
  W.cell? ⟨g, 13 + a.n.height * 66 + a.n.round * 3, none⟩ = some (.bool ((a.n.heard a.n.height).is a.n.round)) ∧ W.cell? ⟨g, 13 + a.n.height * 66 + a.n.round * 3 + 1, none⟩ = some (.int .i64 ((a.n.heard a.n.height).val a.n.round)) ∧ W.cell? ⟨g, 13 + a.n.height * 66 + a.n.round * 3 + 2, none⟩ = some (.int .i64 ((a.n.heard a.n.height).vld a.n.round)) ∧
  W.cell? ⟨g, 13 + a.n.height * 66 + 18 + a.n.round * 4, none⟩ = some (.int .i64 ((a.n.heard a.n.height).wi a.n.round 0)) ∧ W.cell? ⟨g, 13 + a.n.height * 66 + 18 + a.n.round * 4 + 1, none⟩ = some (.int .i64 ((a.n.heard a.n.height).wi a.n.round 1)) ∧ W.cell? ⟨g, 13 + a.n.height * 66 + 18 + a.n.round * 4 + 2, none⟩ = some (.int .i64 ((a.n.heard a.n.height).wi a.n.round 2)) ∧ W.cell? ⟨g, 13 + a.n.height * 66 + 18 + a.n.round * 4 + 3, none⟩ = some (.int .i64 ((a.n.heard a.n.height).wi a.n.round 3))
theorem inW_of {w : World} {g who : Nat} {a : At} {q sd : Value} {W : World} (h : InSt w g who a q sd W) (hh : a.n.height < 4) (hr : a.n.round < 6) : InW w g who a q sd W := by
  obtain ⟨d0, d1, d2⟩ := h.1.blk.tcall a.n.height a.n.round hh hr
  have hw := h.1.blk.twi a.n.height a.n.round hh hr
  refine ⟨h, h.1.blk.tnums.2.1, d0, d1, d2, ?_, ?_, ?_, ?_⟩
  · exact hw 0 _ rfl
  · exact hw 1 _ rfl
  · exact hw 2 _ rfl
  · exact hw 3 _ rfl


/-- The worlds in which it answers wishes: the copies of the call and of the wishes lie apart. -/
def InP (w : World) (g who : Nat) (a : At) (q sd : Value) (b c : Nat) (p : Bool) (y x : Int) (V : Nat → Int) (W : World) : Prop := InSt w g who a q sd W ∧ Blk W b #[.bool p, .int .i64 y, .int .i64 x] 41 ∧ Blk W c (vcells V) 43
theorem InP.keep {w W W' : World} {g who b c : Nat} {a : At} {q sd : Value} {p : Bool} {y x : Int} {V : Nat → Int} (h : InP w g who a q sd b c p y x V W) (hb : Below W.heap.size W W') : InP w g who a q sd b c p y x V W' := ⟨h.1.keep hb, h.2.1.below hb, h.2.2.below hb⟩
theorem InP.drew {w W : World} {g who b c : Nat} {a : At} {q sd : Value} {p : Bool} {y x : Int} {V : Nat → Int} (h : InP w g who a q sd b c p y x V W) : InP w g who a q sd b c p y x V W.drew := ⟨h.1.drew, h.2.1.drew, h.2.2.drew⟩

theorem promises_zero {who : Nat} {a : At} (h1 : a.n.step = 1) (h2 : 3 ≤ cntV ((a.n.heard a.n.height).wi a.n.round) 0) : promises who a = some (tell who ⟨{ a.n with step := 2 }, a.words⟩ 3 0 0) := by
  unfold promises
  exact if_pos ⟨h1, h2⟩
theorem promises_none {who : Nat} {a : At} (h1 : ¬ (a.n.step = 1 ∧ 3 ≤ cntV ((a.n.heard a.n.height).wi a.n.round) 0)) (h2 : a.n.seen a.n.round = true ∨ ((a.n.heard a.n.height).is a.n.round && decide (3 ≤ cntV ((a.n.heard a.n.height).wi a.n.round) ((a.n.heard a.n.height).val a.n.round))) = false) : promises who a = none := by
  unfold promises
  refine (if_neg h1).trans (if_neg ?_)
  rintro ⟨g1, g2, g3⟩
  rcases h2 with h | h
  · rw [h] at g2; cases g2
  · have h5 : ((a.n.heard a.n.height).is a.n.round && decide (3 ≤ cntV ((a.n.heard a.n.height).wi a.n.round) ((a.n.heard a.n.height).val a.n.round))) = true := by
      simp only [Bool.and_eq_true, decide_eq_true_eq]
      exact ⟨g1, g3⟩
    rw [h] at h5; cases h5
theorem promises_some {who : Nat} {a : At} (h1 : ¬ (a.n.step = 1 ∧ 3 ≤ cntV ((a.n.heard a.n.height).wi a.n.round) 0)) (h2 : a.n.seen a.n.round = false) (h3 : ((a.n.heard a.n.height).is a.n.round && decide (3 ≤ cntV ((a.n.heard a.n.height).wi a.n.round) ((a.n.heard a.n.height).val a.n.round))) = true) :
    promises who a = if a.n.step = 1 then some (tell who ⟨{ a.n with seen := fun k => if k = a.n.round then true else a.n.seen k, valid := (a.n.heard a.n.height).val a.n.round, validIn := (a.n.round : Int), bound := (a.n.heard a.n.height).val a.n.round, boundIn := (a.n.round : Int), step := 2 }, a.words⟩ 3 ((a.n.heard a.n.height).val a.n.round) 0) else some ⟨{ a.n with seen := fun k => if k = a.n.round then true else a.n.seen k, valid := (a.n.heard a.n.height).val a.n.round, validIn := (a.n.round : Int) }, a.words⟩ := by
  have h4 : (a.n.heard a.n.height).is a.n.round = true ∧ 3 ≤ cntV ((a.n.heard a.n.height).wi a.n.round) ((a.n.heard a.n.height).val a.n.round) := by simpa using h3
  unfold promises
  exact (if_neg h1).trans (if_pos ⟨h4.1, h2, h4.2⟩)

set_option maxRecDepth 100000 in
set_option maxHeartbeats 16000000 in
theorem tansww_any {w : World} {g who : Nat} {a : At} {q sd : Value} (H : St w g 92 who a q sd) (hh : a.n.height < 4) (hround : a.n.round < 6) (hlen : a.words.length < 100000) (hs : a.n.step ≠ 0) (hV : VBd ((a.n.heard a.n.height).wi a.n.round)) :
    Calls Tryz.prog 66 #[.pointer (some ⟨g, 0, none⟩)] w fun e w' => (promises who a = none ∧ e = .returned (.bool false) ∧ InSt w g who a q sd w') ∨ (∃ b, promises who a = some b ∧ e = .returned (.bool true) ∧ ∃ sd', InSt w g who b q sd' w') := by
  have hhi : (a.n.height : Int) < 4 := by omega
  have hri : (a.n.round : Int) < 6 := by omega
  have hsb : ((a.n.step : Int) == 0) = false := by simp; omega
  have hC0 : InSt w g who a q sd w := ⟨H, Below.refl _ _⟩
  have hglt := H.lt
  obtain ⟨c0, c1, c2, c3, c4, c5, c6, c7, c8⟩ := H.blk.tnums
  go_enter Tryz.func66, Tryz.ntmps66
  go_upto_region 3 with fail
  go_cut [3, 4] (fun s3 s4 W => ∃ b c, s3 = .pointer (some ⟨b, 0, none⟩) ∧ s4 = .pointer (some ⟨c, 0, none⟩) ∧ g < b ∧ g < c ∧ InSt w g who a q sd W ∧ Blk W b #[.bool ((a.n.heard a.n.height).is a.n.round), .int .i64 ((a.n.heard a.n.height).val a.n.round), .int .i64 ((a.n.heard a.n.height).vld a.n.round)] 41 ∧ Blk W c (vcells ((a.n.heard a.n.height).wi a.n.round)) 43)
  case first =>
    have hW := fun W (h : InSt w g who a q sd W) => inW_of h hh hround
    clear c0 c1 c2 c3 c4 c5 c6 c7 c8
    have hB : ∀ W, (InSt w g who a q sd W ∧ W.cell? ⟨g, 1, none⟩ = some (.int .i64 (a.n.round : Int)) ∧   W.cell? ⟨g, 13 + a.n.height * 66 + a.n.round * 3, none⟩ = some (.bool ((a.n.heard a.n.height).is a.n.round)) ∧ W.cell? ⟨g, 13 + a.n.height * 66 + a.n.round * 3 + 1, none⟩ = some (.int .i64 ((a.n.heard a.n.height).val a.n.round)) ∧ W.cell? ⟨g, 13 + a.n.height * 66 + a.n.round * 3 + 2, none⟩ = some (.int .i64 ((a.n.heard a.n.height).vld a.n.round)) ∧   W.cell? ⟨g, 13 + a.n.height * 66 + 18 + a.n.round * 4, none⟩ = some (.int .i64 ((a.n.heard a.n.height).wi a.n.round 0)) ∧ W.cell? ⟨g, 13 + a.n.height * 66 + 18 + a.n.round * 4 + 1, none⟩ = some (.int .i64 ((a.n.heard a.n.height).wi a.n.round 1)) ∧ W.cell? ⟨g, 13 + a.n.height * 66 + 18 + a.n.round * 4 + 2, none⟩ = some (.int .i64 ((a.n.heard a.n.height).wi a.n.round 2)) ∧ W.cell? ⟨g, 13 + a.n.height * 66 + 18 + a.n.round * 4 + 3, none⟩ = some (.int .i64 ((a.n.heard a.n.height).wi a.n.round 3))) → Blk W g (tcells (a.n.ni q) who sd) 92 := fun W h => h.1.1.blk
    go_region_held (fun W => InSt w g who a q sd W ∧ W.cell? ⟨g, 1, none⟩ = some (.int .i64 (a.n.round : Int)) ∧   W.cell? ⟨g, 13 + a.n.height * 66 + a.n.round * 3, none⟩ = some (.bool ((a.n.heard a.n.height).is a.n.round)) ∧ W.cell? ⟨g, 13 + a.n.height * 66 + a.n.round * 3 + 1, none⟩ = some (.int .i64 ((a.n.heard a.n.height).val a.n.round)) ∧ W.cell? ⟨g, 13 + a.n.height * 66 + a.n.round * 3 + 2, none⟩ = some (.int .i64 ((a.n.heard a.n.height).vld a.n.round)) ∧   W.cell? ⟨g, 13 + a.n.height * 66 + 18 + a.n.round * 4, none⟩ = some (.int .i64 ((a.n.heard a.n.height).wi a.n.round 0)) ∧ W.cell? ⟨g, 13 + a.n.height * 66 + 18 + a.n.round * 4 + 1, none⟩ = some (.int .i64 ((a.n.heard a.n.height).wi a.n.round 1)) ∧ W.cell? ⟨g, 13 + a.n.height * 66 + 18 + a.n.round * 4 + 2, none⟩ = some (.int .i64 ((a.n.heard a.n.height).wi a.n.round 2)) ∧ W.cell? ⟨g, 13 + a.n.height * 66 + 18 + a.n.round * 4 + 3, none⟩ = some (.int .i64 ((a.n.heard a.n.height).wi a.n.round 3))) ((refine hW _ ?_; repeat (first | exact hC0 | apply InSt.drew | apply InSt.drewN | apply InSt.alloc))) ((first | (go_at_call 58; refine (tsheet_exact (n := a.n) (q := q) (sd := sd) (who := who) (hB _ (by assumption)) hh).mono ?_; rintro e w' ⟨rfl, rfl⟩)))
    all_goals
      go_wp2
      go_meet
      case rel => exact ⟨_, _, rfl, rfl, by omega, by omega, by repeat (first | exact hC0 | apply InSt.drew | apply InSt.drewN | apply InSt.alloc), by first | exact (Blk.new1 w _ _ _) | exact ((Blk.new w _ _).alloc _), by first | exact (Blk.new1 w _ _ _) | exact ((Blk.new w _ _).alloc _)⟩
  case rest =>
    clear hC0
    obtain ⟨b, c, rfl, rfl, hgb, hgc, hC0, Bb, Bc⟩ := hcut
    clear H c0 c1 c2 c3 c4 c5 c6 c7 c8
    have hi3 := info_call
    have hcar : ∀ W, _ := fun W => carried_any ((a.n.heard a.n.height).is a.n.round) ((a.n.heard a.n.height).val a.n.round) ((a.n.heard a.n.height).vld a.n.round) ((a.n.heard a.n.height).wi a.n.round) hV W
    have hquo : ∀ W, _ := fun W => quorum_any ((a.n.heard a.n.height).wi a.n.round) hV 0 W
    have hiv := infoV ((a.n.heard a.n.height).wi a.n.round)
    obtain ⟨p, hp⟩ : ∃ p, Hid ((a.n.heard a.n.height).is a.n.round = p) := ⟨_, rfl⟩
    obtain ⟨y, hy⟩ : ∃ y, Hid ((a.n.heard a.n.height).val a.n.round = y) := ⟨_, rfl⟩
    obtain ⟨x, hx⟩ : ∃ x, Hid ((a.n.heard a.n.height).vld a.n.round = x) := ⟨_, rfl⟩
    obtain ⟨V, hVe⟩ : ∃ V, Hid ((a.n.heard a.n.height).wi a.n.round = V) := ⟨_, rfl⟩
    rw [hp.out, hy.out, hx.out] at Bb hcar
    rw [hVe.out] at Bc hcar hquo hiv
    have hst0 : Hid (((a.n.heard a.n.height).is a.n.round && decide (3 ≤ cntV ((a.n.heard a.n.height).wi a.n.round) ((a.n.heard a.n.height).val a.n.round))) = (p && decide (3 ≤ cntV V y))) := by
      show _ = _
      rw [hp.out, hy.out, hVe.out]
    obtain ⟨cv, hcv⟩ : ∃ cv, Hid ((p && decide (3 ≤ cntV V y)) = cv) := ⟨_, rfl⟩
    have hst : Hid (((a.n.heard a.n.height).is a.n.round && decide (3 ≤ cntV ((a.n.heard a.n.height).wi a.n.round) ((a.n.heard a.n.height).val a.n.round))) = cv) := hst0.out.trans hcv.out
    rw [hcv.out] at hcar
    obtain ⟨z, hz⟩ : ∃ z, Hid (decide (3 ≤ cntV V 0) = z) := ⟨_, rfl⟩
    rw [hz.out] at hquo
    replace hC0 : InP w g who a q sd b c p y x V _ := ⟨hC0, Bb, Bc⟩
    clear Bb Bc hst0 hcv hp hx
    obtain ⟨c0, c1, c2, c3, c4, c5, c6, c7, c8⟩ := hC0.1.1.blk.tnums
    have hcr := hC0.2.2.range
    by_cases hs1 : a.n.step = 1
    · replace c2 := c2.trans (show some (Value.int .i64 (a.n.step : Int)) = some (.int .i64 1) by rw [hs1]; rfl)
      cases z
      · have hpl : Hid (¬ (a.n.step = 1 ∧ 3 ≤ cntV ((a.n.heard a.n.height).wi a.n.round) 0)) := fun h => by
          have := h.2
          rw [hVe.out] at this
          have hz' := hz.out
          rw [decide_eq_true this] at hz'; cases hz'
        go_wp2_with (first
          | (refine wpList_load_part (by rfl) 43 _ rfl c 0 rfl (vcells V) _ hcr Tryz.underlying43 rfl hiv ?_)
          | (go_at_call 86; refine (hquo _).mono ?_; rintro e w4 ⟨rfl, hb4⟩; replace hC0 := hC0.keep hb4; clear hb4))
        clear c0 c1 c2 c3 c4 c5 c6 c7 c8 hcr
        cases hse : a.n.seen a.n.round
        · have hse : Hid (a.n.seen a.n.round = false) := hse
          go_wp2_with fail
          refine q_region (C := InP w g who a q sd b c p y x V) (by kernel_rfl) (by kernel_rfl) hC0.drew ?_
          repeat (first
              | (refine q_skip (by rfl) ?_; simp only [Act.put, List.setIfInBounds_toArray, List.set_cons_zero, List.set_cons_succ])
              | (refine q_load (by rfl) 43 _ rfl c 0 rfl (vcells V) _ (fun W H => H.2.2.range) Tryz.underlying43 rfl hiv ?_; simp only [Act.put, List.setIfInBounds_toArray, List.set_cons_zero, List.set_cons_succ])
              | (refine q_load (by rfl) 41 _ rfl b 0 rfl #[.bool p, .int .i64 y, .int .i64 x] _ (fun W H => H.2.1.range) Tryz.underlying41 rfl hi3 ?_; simp only [Act.put, List.setIfInBounds_toArray, List.set_cons_zero, List.set_cons_succ])
              | (refine q_run_ex (by rfl) ?_
                 apply Exists.intro
                 refine ⟨fun w0 hC => ?_, ?_⟩
                 · obtain ⟨c0, c1, c2, c3, c4, c5, c6, c7, c8⟩ := hC.1.1.blk.tnums; obtain ⟨d0, d1, d2⟩ := callcell hC.2.1; have cs := hC.1.1.blk.cell (7 + a.n.round); rw [tcells_seen _ _ _ _ hround] at cs; simp only [Nd.ni] at cs; rw [hse.out] at cs; clear hC; go_simp; rfl
                 simp only [Act.put, List.setIfInBounds_toArray, List.set_cons_zero, List.set_cons_succ])
              | (refine q_call_ex (by rfl) ?_
                 apply Exists.intro
                 apply Exists.intro
                 apply Exists.intro
                 refine ⟨fun w0 hC => ?_, fun w0 hC => ?_, ?_⟩
                 · clear hC; go_simp; exact ⟨rfl, rfl⟩
                 · first | exact (hcar w0).mono (fun e w' ⟨he, hb⟩ => ⟨he, hC.keep hb⟩)
                 simp only [Act.put, List.setIfInBounds_toArray, List.set_cons_zero, List.set_cons_succ]))
          refine q_nil ?_
          intro w5 hC5
          clear hC0
          cases cv
          · go_wp2
            go_ret
            exact Or.inl ⟨by rw [promises_none hpl.out (Or.inr hst.out)], rfl, hC5.1⟩
          · have hpm : Hid _ := promises_some (who := who) hpl.out hse.out hst.out
            go_wp2_with fail
            have hc5 := hC5
            clear hC5
            refine held_region (InP w g who a q sd b c p y x V) [10] [(0, 0), (1, 0), (2, 0), (3, 0), (4, 0), (5, 1), (6, 0), (7, 0), (8, 0), (9, 0), (10, 2)] (by kernel_rfl) (by kernel_rfl) (by kernel_rfl) rfl (fun _ _ d _ _ h => by cases d <;> exact h) hc5.drew ?_
            repeat (first
                | (refine ord_run0_ex rfl (by rfl) ?_
                   apply Exists.intro
                   refine ⟨fun w0 => ?_, ?_⟩
                   · go_simp; rfl
                   simp only [Act.put, List.setIfInBounds_toArray, List.set_cons_zero, List.set_cons_succ])
                | (refine ord_run1_ex rfl (by rfl) ?_
                   apply Exists.intro
                   refine ⟨fun w0 hC => ?_, ?_⟩
                   · obtain ⟨c0, c1, c2, c3, c4, c5, c6, c7, c8⟩ := hC.1.1.blk.tnums; clear hC; go_simp; rfl
                   simp only [Act.put, List.setIfInBounds_toArray, List.set_cons_zero, List.set_cons_succ]))
            have cs := hc5.drew.1.1.blk.cell (7 + a.n.round)
            have fs := hc5.drew.1.1.blk.free (7 + a.n.round)
            rw [tcells_seen _ _ _ _ hround] at cs
            refine ord_do rfl ?_
            go_wp2_with fail
            refine ⟨fun hc => absurd hc (by decide), ?_⟩
            show wpOrd _ _ _ _ _ [] _ _ _
            unfold wpOrd
            have hD : InP w g who ⟨{ a.n with seen := fun k => if k = a.n.round then true else a.n.seen k }, a.words⟩ q sd b c p y x V (w5.setCell ⟨g, 7 + a.n.round, none⟩ (.bool true)).drew :=
              InP.drew ⟨⟨hc5.1.1.put (j := 7 + a.n.round) (v := .bool true) { a.n with seen := fun k => if k = a.n.round then true else a.n.seen k } (by omega) (set_seen _ _ hround true) rfl, bel_put hc5.1.2 _ _⟩, hc5.2.1.setCell_other _ _ (by show b ≠ g; omega), hc5.2.2.setCell_other _ _ (by show c ≠ g; omega)⟩
            clear cs fs hc5
            generalize (w5.setCell ⟨g, 7 + a.n.round, none⟩ (.bool true)).drew = w6 at hD ⊢
            go_wp2_with fail
            refine held_region (InP w g who ⟨{ a.n with seen := fun k => if k = a.n.round then true else a.n.seen k }, a.words⟩ q sd b c p y x V) [12, 16] [(0, 0), (1, 0), (2, 0), (3, 1), (4, 0), (5, 0), (6, 0), (7, 0), (8, 1), (9, 0), (10, 0), (11, 0), (12, 2), (13, 0), (14, 0), (15, 0), (16, 2)] (by kernel_rfl) (by kernel_rfl) (by kernel_rfl) rfl (fun _ _ d _ _ h => by cases d <;> exact h) hD.drew ?_
            repeat (first
                | (refine ord_run0_ex rfl (by rfl) ?_
                   apply Exists.intro
                   refine ⟨fun w0 => ?_, ?_⟩
                   · go_simp; rfl
                   simp only [Act.put, List.setIfInBounds_toArray, List.set_cons_zero, List.set_cons_succ])
                | (refine ord_run1_ex rfl (by rfl) ?_
                   apply Exists.intro
                   refine ⟨fun w0 hC => ?_, ?_⟩
                   · obtain ⟨c0, c1, c2, c3, c4, c5, c6, c7, c8⟩ := hC.1.1.blk.tnums; obtain ⟨d0, d1, d2⟩ := callcell hC.2.1; clear hC; go_simp; rfl
                   simp only [Act.put, List.setIfInBounds_toArray, List.set_cons_zero, List.set_cons_succ]))
            obtain ⟨c0, c1, c2, c3, c4, c5, c6, c7, c8⟩ := hD.drew.1.1.blk.tnums
            have fa := hD.drew.1.1.blk.free 5
            have fb := hD.drew.1.1.blk.free 6
            obtain ⟨b0, b1, b2, b3, b4, b5, b6, b7, b8⟩ := hD.1.1.blk.tnums
            have fc := hD.1.1.blk.free 6
            refine ord_do rfl ?_
            go_wp2_with fail
            refine ⟨fun hc => absurd hc (by decide), ?_⟩
            repeat (first
              | (refine ord_run0_ex rfl (by rfl) ?_
                 apply Exists.intro
                 refine ⟨fun w0 => ?_, ?_⟩
                 · go_simp; rfl
                 simp only [Act.put, List.setIfInBounds_toArray, List.set_cons_zero, List.set_cons_succ]))
            refine ord_do rfl ?_
            go_wp2_with fail
            refine ⟨fun hc => absurd hc (by decide), ?_⟩
            show wpOrd _ _ _ _ _ [] _ _ _
            unfold wpOrd
            have hE : InP w g who ⟨{ a.n with seen := fun k => if k = a.n.round then true else a.n.seen k, valid := y, validIn := (a.n.round : Int) }, a.words⟩ q sd b c p y x V ((w6.setCell ⟨g, 5, none⟩ (.int .i64 y)).setCell ⟨g, 6, none⟩ (.int .i64 (a.n.round : Int))).drew :=
              InP.drew ⟨⟨(hD.1.1.put (j := 5) (v := .int .i64 y) { a.n with seen := fun k => if k = a.n.round then true else a.n.seen k, valid := y } (by omega) (set_valid _ _) rfl).put (j := 6) (v := .int .i64 (a.n.round : Int)) { a.n with seen := fun k => if k = a.n.round then true else a.n.seen k, valid := y, validIn := (a.n.round : Int) } (by omega) (set_validIn _ _) rfl, bel_put (bel_put hD.1.2 _ _) _ _⟩, (hD.2.1.setCell_other _ _ (by show b ≠ g; omega)).setCell_other _ _ (by show b ≠ g; omega), (hD.2.2.setCell_other _ _ (by show c ≠ g; omega)).setCell_other _ _ (by show c ≠ g; omega)⟩
            clear fa fb fc hD c0 c1 c2 c3 c4 c5 c6 c7 c8 b0 b1 b2 b3 b4 b5 b6 b7 b8
            generalize ((w6.setCell ⟨g, 5, none⟩ (.int .i64 y)).setCell ⟨g, 6, none⟩ (.int .i64 (a.n.round : Int))).drew = w7 at hE ⊢
            obtain ⟨c0, c1, c2, c3, c4, c5, c6, c7, c8⟩ := hE.1.1.blk.tnums
            obtain ⟨d0, d1, d2⟩ := callcell hE.2.1
            replace c2 : w7.cell? ⟨g, 2, none⟩ = some (.int .i64 1) := by rw [c2]; show some (Value.int .i64 (a.n.step : Int)) = _; rw [hs1]; rfl
            go_wp2_with fail
            refine held_region (InP w g who ⟨{ a.n with seen := fun k => if k = a.n.round then true else a.n.seen k, valid := y, validIn := (a.n.round : Int) }, a.words⟩ q sd b c p y x V) [12, 16] [(0, 0), (1, 0), (2, 0), (3, 1), (4, 0), (5, 0), (6, 0), (7, 0), (8, 1), (9, 0), (10, 0), (11, 0), (12, 2), (13, 0), (14, 0), (15, 0), (16, 2)] (by kernel_rfl) (by kernel_rfl) (by kernel_rfl) rfl (fun _ _ d _ _ h => by cases d <;> exact h) hE.drew ?_
            repeat (first
                | (refine ord_run0_ex rfl (by rfl) ?_
                   apply Exists.intro
                   refine ⟨fun w0 => ?_, ?_⟩
                   · go_simp; rfl
                   simp only [Act.put, List.setIfInBounds_toArray, List.set_cons_zero, List.set_cons_succ])
                | (refine ord_run1_ex rfl (by rfl) ?_
                   apply Exists.intro
                   refine ⟨fun w0 hC => ?_, ?_⟩
                   · obtain ⟨c0, c1, c2, c3, c4, c5, c6, c7, c8⟩ := hC.1.1.blk.tnums; obtain ⟨d0, d1, d2⟩ := callcell hC.2.1; clear hC; go_simp; rfl
                   simp only [Act.put, List.setIfInBounds_toArray, List.set_cons_zero, List.set_cons_succ]))
            obtain ⟨c0, c1, c2, c3, c4, c5, c6, c7, c8⟩ := hE.drew.1.1.blk.tnums
            have fa := hE.drew.1.1.blk.free 3
            have fb := hE.drew.1.1.blk.free 4
            obtain ⟨b0, b1, b2, b3, b4, b5, b6, b7, b8⟩ := hE.1.1.blk.tnums
            have fc := hE.1.1.blk.free 4
            refine ord_do rfl ?_
            go_wp2_with fail
            refine ⟨fun hc => absurd hc (by decide), ?_⟩
            repeat (first
              | (refine ord_run0_ex rfl (by rfl) ?_
                 apply Exists.intro
                 refine ⟨fun w0 => ?_, ?_⟩
                 · go_simp; rfl
                 simp only [Act.put, List.setIfInBounds_toArray, List.set_cons_zero, List.set_cons_succ]))
            refine ord_do rfl ?_
            go_wp2_with fail
            refine ⟨fun hc => absurd hc (by decide), ?_⟩
            show wpOrd _ _ _ _ _ [] _ _ _
            unfold wpOrd
            have hF : InP w g who ⟨{ a.n with seen := fun k => if k = a.n.round then true else a.n.seen k, valid := y, validIn := (a.n.round : Int), bound := y, boundIn := (a.n.round : Int) }, a.words⟩ q sd b c p y x V ((w7.setCell ⟨g, 3, none⟩ (.int .i64 y)).setCell ⟨g, 4, none⟩ (.int .i64 (a.n.round : Int))).drew :=
              InP.drew ⟨⟨(hE.1.1.put (j := 3) (v := .int .i64 y) { a.n with seen := fun k => if k = a.n.round then true else a.n.seen k, valid := y, validIn := (a.n.round : Int), bound := y } (by omega) (set_bound _ _) rfl).put (j := 4) (v := .int .i64 (a.n.round : Int)) { a.n with seen := fun k => if k = a.n.round then true else a.n.seen k, valid := y, validIn := (a.n.round : Int), bound := y, boundIn := (a.n.round : Int) } (by omega) (set_boundIn _ _) rfl, bel_put (bel_put hE.1.2 _ _) _ _⟩, (hE.2.1.setCell_other _ _ (by show b ≠ g; omega)).setCell_other _ _ (by show b ≠ g; omega), (hE.2.2.setCell_other _ _ (by show c ≠ g; omega)).setCell_other _ _ (by show c ≠ g; omega)⟩
            clear fa fb fc hE c0 c1 c2 c3 c4 c5 c6 c7 c8 b0 b1 b2 b3 b4 b5 b6 b7 b8
            generalize ((w7.setCell ⟨g, 3, none⟩ (.int .i64 y)).setCell ⟨g, 4, none⟩ (.int .i64 (a.n.round : Int))).drew = w8 at hF ⊢
            obtain ⟨c0, c1, c2, c3, c4, c5, c6, c7, c8⟩ := hF.1.1.blk.tnums
            obtain ⟨d0, d1, d2⟩ := callcell hF.2.1
            go_wp2_with (first | (go_at_call 61; refine (tpromise_any hF.1.1 hh hlen y).mono ?_; rintro e w9 ⟨rfl, sd', H9, L9⟩))
            go_ret
            exact Or.inr ⟨_, (by rw [hpm.out, if_pos hs1, hy.out] : promises who a = some (tell who ⟨{ a.n with seen := fun k => if k = a.n.round then true else a.n.seen k, valid := y, validIn := (a.n.round : Int), bound := y, boundIn := (a.n.round : Int), step := 2 }, a.words⟩ 3 y 0)), rfl, sd', H9, bel_seq hF.1.2 L9⟩
        · have hse : Hid (a.n.seen a.n.round = true) := hse
          go_wp2_with fail
          refine q_region (C := InP w g who a q sd b c p y x V) (by kernel_rfl) (by kernel_rfl) hC0.drew ?_
          repeat (first
              | (refine q_skip (by rfl) ?_; simp only [Act.put, List.setIfInBounds_toArray, List.set_cons_zero, List.set_cons_succ])
              | (refine q_load (by rfl) 43 _ rfl c 0 rfl (vcells V) _ (fun W H => H.2.2.range) Tryz.underlying43 rfl hiv ?_; simp only [Act.put, List.setIfInBounds_toArray, List.set_cons_zero, List.set_cons_succ])
              | (refine q_load (by rfl) 41 _ rfl b 0 rfl #[.bool p, .int .i64 y, .int .i64 x] _ (fun W H => H.2.1.range) Tryz.underlying41 rfl hi3 ?_; simp only [Act.put, List.setIfInBounds_toArray, List.set_cons_zero, List.set_cons_succ])
              | (refine q_run_ex (by rfl) ?_
                 apply Exists.intro
                 refine ⟨fun w0 hC => ?_, ?_⟩
                 · obtain ⟨c0, c1, c2, c3, c4, c5, c6, c7, c8⟩ := hC.1.1.blk.tnums; obtain ⟨d0, d1, d2⟩ := callcell hC.2.1; have cs := hC.1.1.blk.cell (7 + a.n.round); rw [tcells_seen _ _ _ _ hround] at cs; simp only [Nd.ni] at cs; rw [hse.out] at cs; clear hC; go_simp; rfl
                 simp only [Act.put, List.setIfInBounds_toArray, List.set_cons_zero, List.set_cons_succ])
              | (refine q_call_ex (by rfl) ?_
                 apply Exists.intro
                 apply Exists.intro
                 apply Exists.intro
                 refine ⟨fun w0 hC => ?_, fun w0 hC => ?_, ?_⟩
                 · clear hC; go_simp; exact ⟨rfl, rfl⟩
                 · first | exact (hcar w0).mono (fun e w' ⟨he, hb⟩ => ⟨he, hC.keep hb⟩)
                 simp only [Act.put, List.setIfInBounds_toArray, List.set_cons_zero, List.set_cons_succ]))
          refine q_nil ?_
          intro w5 hC5
          clear hC0
          go_wp2
          go_ret
          exact Or.inl ⟨by rw [promises_none hpl.out (Or.inl hse.out)], rfl, hC5.1⟩
      · have hpz : Hid (promises who a = some (tell who ⟨{ a.n with step := 2 }, a.words⟩ 3 0 0)) := promises_zero hs1 (by rw [hVe.out]; exact of_decide_eq_true hz.out)
        go_wp2_with (first
          | (refine wpList_load_part (by rfl) 43 _ rfl c 0 rfl (vcells V) _ hcr Tryz.underlying43 rfl hiv ?_)
          | (go_at_call 86; refine (hquo _).mono ?_; rintro e w4 ⟨rfl, hb4⟩; replace hC0 := hC0.keep hb4; clear hb4)
          | (go_at_call 61; refine (tpromise_any hC0.1.1 hh hlen 0).mono ?_; rintro e w9 ⟨rfl, sd', H9, L9⟩))
        go_ret
        exact Or.inr ⟨_, hpz.out, rfl, sd', H9, bel_seq hC0.1.2 L9⟩
    · have hs1b : ((a.n.step : Int) == 1) = false := by simp; omega
      have hpl : Hid (¬ (a.n.step = 1 ∧ 3 ≤ cntV ((a.n.heard a.n.height).wi a.n.round) 0)) := fun h => hs1 h.1
      go_wp2_with fail
      clear c0 c1 c2 c3 c4 c5 c6 c7 c8 hcr
      cases hse : a.n.seen a.n.round
      · have hse : Hid (a.n.seen a.n.round = false) := hse
        go_wp2_with fail
        refine q_region (C := InP w g who a q sd b c p y x V) (by kernel_rfl) (by kernel_rfl) hC0.drew ?_
        repeat (first
            | (refine q_skip (by rfl) ?_; simp only [Act.put, List.setIfInBounds_toArray, List.set_cons_zero, List.set_cons_succ])
            | (refine q_load (by rfl) 43 _ rfl c 0 rfl (vcells V) _ (fun W H => H.2.2.range) Tryz.underlying43 rfl hiv ?_; simp only [Act.put, List.setIfInBounds_toArray, List.set_cons_zero, List.set_cons_succ])
            | (refine q_load (by rfl) 41 _ rfl b 0 rfl #[.bool p, .int .i64 y, .int .i64 x] _ (fun W H => H.2.1.range) Tryz.underlying41 rfl hi3 ?_; simp only [Act.put, List.setIfInBounds_toArray, List.set_cons_zero, List.set_cons_succ])
            | (refine q_run_ex (by rfl) ?_
               apply Exists.intro
               refine ⟨fun w0 hC => ?_, ?_⟩
               · obtain ⟨c0, c1, c2, c3, c4, c5, c6, c7, c8⟩ := hC.1.1.blk.tnums; obtain ⟨d0, d1, d2⟩ := callcell hC.2.1; have cs := hC.1.1.blk.cell (7 + a.n.round); rw [tcells_seen _ _ _ _ hround] at cs; simp only [Nd.ni] at cs; rw [hse.out] at cs; clear hC; go_simp; rfl
               simp only [Act.put, List.setIfInBounds_toArray, List.set_cons_zero, List.set_cons_succ])
            | (refine q_call_ex (by rfl) ?_
               apply Exists.intro
               apply Exists.intro
               apply Exists.intro
               refine ⟨fun w0 hC => ?_, fun w0 hC => ?_, ?_⟩
               · clear hC; go_simp; exact ⟨rfl, rfl⟩
               · first | exact (hcar w0).mono (fun e w' ⟨he, hb⟩ => ⟨he, hC.keep hb⟩)
               simp only [Act.put, List.setIfInBounds_toArray, List.set_cons_zero, List.set_cons_succ]))
        refine q_nil ?_
        intro w5 hC5
        clear hC0
        cases cv
        · go_wp2
          go_ret
          exact Or.inl ⟨by rw [promises_none hpl.out (Or.inr hst.out)], rfl, hC5.1⟩
        · have hpm : Hid _ := promises_some (who := who) hpl.out hse.out hst.out
          go_wp2_with fail
          have hc5 := hC5
          clear hC5
          refine held_region (InP w g who a q sd b c p y x V) [10] [(0, 0), (1, 0), (2, 0), (3, 0), (4, 0), (5, 1), (6, 0), (7, 0), (8, 0), (9, 0), (10, 2)] (by kernel_rfl) (by kernel_rfl) (by kernel_rfl) rfl (fun _ _ d _ _ h => by cases d <;> exact h) hc5.drew ?_
          repeat (first
              | (refine ord_run0_ex rfl (by rfl) ?_
                 apply Exists.intro
                 refine ⟨fun w0 => ?_, ?_⟩
                 · go_simp; rfl
                 simp only [Act.put, List.setIfInBounds_toArray, List.set_cons_zero, List.set_cons_succ])
              | (refine ord_run1_ex rfl (by rfl) ?_
                 apply Exists.intro
                 refine ⟨fun w0 hC => ?_, ?_⟩
                 · obtain ⟨c0, c1, c2, c3, c4, c5, c6, c7, c8⟩ := hC.1.1.blk.tnums; clear hC; go_simp; rfl
                 simp only [Act.put, List.setIfInBounds_toArray, List.set_cons_zero, List.set_cons_succ]))
          have cs := hc5.drew.1.1.blk.cell (7 + a.n.round)
          have fs := hc5.drew.1.1.blk.free (7 + a.n.round)
          rw [tcells_seen _ _ _ _ hround] at cs
          refine ord_do rfl ?_
          go_wp2_with fail
          refine ⟨fun hc => absurd hc (by decide), ?_⟩
          show wpOrd _ _ _ _ _ [] _ _ _
          unfold wpOrd
          have hD : InP w g who ⟨{ a.n with seen := fun k => if k = a.n.round then true else a.n.seen k }, a.words⟩ q sd b c p y x V (w5.setCell ⟨g, 7 + a.n.round, none⟩ (.bool true)).drew :=
            InP.drew ⟨⟨hc5.1.1.put (j := 7 + a.n.round) (v := .bool true) { a.n with seen := fun k => if k = a.n.round then true else a.n.seen k } (by omega) (set_seen _ _ hround true) rfl, bel_put hc5.1.2 _ _⟩, hc5.2.1.setCell_other _ _ (by show b ≠ g; omega), hc5.2.2.setCell_other _ _ (by show c ≠ g; omega)⟩
          clear cs fs hc5
          generalize (w5.setCell ⟨g, 7 + a.n.round, none⟩ (.bool true)).drew = w6 at hD ⊢
          go_wp2_with fail
          refine held_region (InP w g who ⟨{ a.n with seen := fun k => if k = a.n.round then true else a.n.seen k }, a.words⟩ q sd b c p y x V) [12, 16] [(0, 0), (1, 0), (2, 0), (3, 1), (4, 0), (5, 0), (6, 0), (7, 0), (8, 1), (9, 0), (10, 0), (11, 0), (12, 2), (13, 0), (14, 0), (15, 0), (16, 2)] (by kernel_rfl) (by kernel_rfl) (by kernel_rfl) rfl (fun _ _ d _ _ h => by cases d <;> exact h) hD.drew ?_
          repeat (first
              | (refine ord_run0_ex rfl (by rfl) ?_
                 apply Exists.intro
                 refine ⟨fun w0 => ?_, ?_⟩
                 · go_simp; rfl
                 simp only [Act.put, List.setIfInBounds_toArray, List.set_cons_zero, List.set_cons_succ])
              | (refine ord_run1_ex rfl (by rfl) ?_
                 apply Exists.intro
                 refine ⟨fun w0 hC => ?_, ?_⟩
                 · obtain ⟨c0, c1, c2, c3, c4, c5, c6, c7, c8⟩ := hC.1.1.blk.tnums; obtain ⟨d0, d1, d2⟩ := callcell hC.2.1; clear hC; go_simp; rfl
                 simp only [Act.put, List.setIfInBounds_toArray, List.set_cons_zero, List.set_cons_succ]))
          obtain ⟨c0, c1, c2, c3, c4, c5, c6, c7, c8⟩ := hD.drew.1.1.blk.tnums
          have fa := hD.drew.1.1.blk.free 5
          have fb := hD.drew.1.1.blk.free 6
          obtain ⟨b0, b1, b2, b3, b4, b5, b6, b7, b8⟩ := hD.1.1.blk.tnums
          have fc := hD.1.1.blk.free 6
          refine ord_do rfl ?_
          go_wp2_with fail
          refine ⟨fun hc => absurd hc (by decide), ?_⟩
          repeat (first
            | (refine ord_run0_ex rfl (by rfl) ?_
               apply Exists.intro
               refine ⟨fun w0 => ?_, ?_⟩
               · go_simp; rfl
               simp only [Act.put, List.setIfInBounds_toArray, List.set_cons_zero, List.set_cons_succ]))
          refine ord_do rfl ?_
          go_wp2_with fail
          refine ⟨fun hc => absurd hc (by decide), ?_⟩
          show wpOrd _ _ _ _ _ [] _ _ _
          unfold wpOrd
          have hE : InP w g who ⟨{ a.n with seen := fun k => if k = a.n.round then true else a.n.seen k, valid := y, validIn := (a.n.round : Int) }, a.words⟩ q sd b c p y x V ((w6.setCell ⟨g, 5, none⟩ (.int .i64 y)).setCell ⟨g, 6, none⟩ (.int .i64 (a.n.round : Int))).drew :=
            InP.drew ⟨⟨(hD.1.1.put (j := 5) (v := .int .i64 y) { a.n with seen := fun k => if k = a.n.round then true else a.n.seen k, valid := y } (by omega) (set_valid _ _) rfl).put (j := 6) (v := .int .i64 (a.n.round : Int)) { a.n with seen := fun k => if k = a.n.round then true else a.n.seen k, valid := y, validIn := (a.n.round : Int) } (by omega) (set_validIn _ _) rfl, bel_put (bel_put hD.1.2 _ _) _ _⟩, (hD.2.1.setCell_other _ _ (by show b ≠ g; omega)).setCell_other _ _ (by show b ≠ g; omega), (hD.2.2.setCell_other _ _ (by show c ≠ g; omega)).setCell_other _ _ (by show c ≠ g; omega)⟩
          clear fa fb fc hD c0 c1 c2 c3 c4 c5 c6 c7 c8 b0 b1 b2 b3 b4 b5 b6 b7 b8
          generalize ((w6.setCell ⟨g, 5, none⟩ (.int .i64 y)).setCell ⟨g, 6, none⟩ (.int .i64 (a.n.round : Int))).drew = w7 at hE ⊢
          obtain ⟨c0, c1, c2, c3, c4, c5, c6, c7, c8⟩ := hE.1.1.blk.tnums
          obtain ⟨d0, d1, d2⟩ := callcell hE.2.1
          have hne : ((a.n.step : Int) == 1) = false := by simp; omega
          replace c2 : w7.cell? ⟨g, 2, none⟩ = some (.int .i64 (a.n.step : Int)) := c2
          go_wp2
          go_ret
          exact Or.inr ⟨_, (by rw [hpm.out, if_neg hs1, hy.out] : promises who a = some ⟨{ a.n with seen := fun k => if k = a.n.round then true else a.n.seen k, valid := y, validIn := (a.n.round : Int) }, a.words⟩), rfl, sd, hE.1⟩
      · have hse : Hid (a.n.seen a.n.round = true) := hse
        go_wp2_with fail
        refine q_region (C := InP w g who a q sd b c p y x V) (by kernel_rfl) (by kernel_rfl) hC0.drew ?_
        repeat (first
            | (refine q_skip (by rfl) ?_; simp only [Act.put, List.setIfInBounds_toArray, List.set_cons_zero, List.set_cons_succ])
            | (refine q_load (by rfl) 43 _ rfl c 0 rfl (vcells V) _ (fun W H => H.2.2.range) Tryz.underlying43 rfl hiv ?_; simp only [Act.put, List.setIfInBounds_toArray, List.set_cons_zero, List.set_cons_succ])
            | (refine q_load (by rfl) 41 _ rfl b 0 rfl #[.bool p, .int .i64 y, .int .i64 x] _ (fun W H => H.2.1.range) Tryz.underlying41 rfl hi3 ?_; simp only [Act.put, List.setIfInBounds_toArray, List.set_cons_zero, List.set_cons_succ])
            | (refine q_run_ex (by rfl) ?_
               apply Exists.intro
               refine ⟨fun w0 hC => ?_, ?_⟩
               · obtain ⟨c0, c1, c2, c3, c4, c5, c6, c7, c8⟩ := hC.1.1.blk.tnums; obtain ⟨d0, d1, d2⟩ := callcell hC.2.1; have cs := hC.1.1.blk.cell (7 + a.n.round); rw [tcells_seen _ _ _ _ hround] at cs; simp only [Nd.ni] at cs; rw [hse.out] at cs; clear hC; go_simp; rfl
               simp only [Act.put, List.setIfInBounds_toArray, List.set_cons_zero, List.set_cons_succ])
            | (refine q_call_ex (by rfl) ?_
               apply Exists.intro
               apply Exists.intro
               apply Exists.intro
               refine ⟨fun w0 hC => ?_, fun w0 hC => ?_, ?_⟩
               · clear hC; go_simp; exact ⟨rfl, rfl⟩
               · first | exact (hcar w0).mono (fun e w' ⟨he, hb⟩ => ⟨he, hC.keep hb⟩)
               simp only [Act.put, List.setIfInBounds_toArray, List.set_cons_zero, List.set_cons_succ]))
        refine q_nil ?_
        intro w5 hC5
        clear hC0
        go_wp2
        go_ret
        exact Or.inl ⟨by rw [promises_none hpl.out (Or.inl hse.out)], rfl, hC5.1⟩
end Go.Proofs.YtmmgaonlmpajbacGreat
