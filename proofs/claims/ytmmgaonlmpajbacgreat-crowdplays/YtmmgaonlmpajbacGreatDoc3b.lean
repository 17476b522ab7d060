/-
  The document's node at work: one, where it has wished or promised.
-/
import Derived.Test.YtmmgaonlmpajbacGreatDoc3
namespace Go.Proofs.YtmmgaonlmpajbacGreat
open Go.RowKit

set_option maxRecDepth 100000 in
set_option maxHeartbeats 16000000 in
theorem rone_w1 {bb : Nat} {w : World} {g who : Nat} {a : At} {q sd : Value} (H : Sr bb w g 98 who a q sd) (F : FI a) (hs0 : a.n.step ≠ 0) : Calls Tryz.prog 72 #[.pointer (some ⟨g, 0, none⟩)] w (ROne bb who a w g) := by
  have HST : Hid (_) := hs0
  clear hs0
  have G := F.good
  have hlen := F.len
  obtain ⟨qa, qc, hqv⟩ := own_shape H.own
  subst hqv
  obtain ⟨c0, c1, c2, c3, c4, c5, c6, c7, c8⟩ := H.blk.tnums
  by_cases h4 : a.n.height = 4
  · have h1 : Hid (one who a = none) := rn_one_four h4
    have hh4 : ((a.n.height : Int) == 4) = true := by simp; omega
    clear h4 G F
    go_enter Tryz.func72, Tryz.ntmps72
    go_wp2
    go_ret
    exact Or.inl ⟨h1.out, rfl, _, sd, H, Below.refl _ _⟩
  · have hh : a.n.height < 4 := by have := G.height; omega
    have hh4 : ((a.n.height : Int) == 4) = false := by simp; omega
    have hhi : (a.n.height : Int) < 4 := by omega
    have hsh := rsheet_any H.blk hh
    have hz := run_zero
    have hi := infoS (a.n.heard a.n.height)
    have hone : (a.n.heard a.n.height).cells.all (·.oneCell') = true := one_cell _
    have hgw := H.lt
    have HH : InR bb w g who a (.slice qa a.n.queue.length qc) sd w := ⟨H, Below.refl _ _⟩
    have HVp : Hid (∀ r, r < 6 → VBd ((a.n.heard a.n.height).pr r)) := fun r hr => (G.votes _ hr).2
    have HVw : Hid (∀ r, r < 6 → VBd ((a.n.heard a.n.height).wi r)) := fun r hr => (G.votes _ hr).1
    have HS : Hid (a.n.sheet = a.n.heard a.n.height) := rfl
    have HCall : Hid (∀ r, r < 6 → (a.n.heard a.n.height).is r = true → 1 ≤ (a.n.heard a.n.height).val r ∧ (a.n.heard a.n.height).val r ≤ 9 ∧ -1 ≤ (a.n.heard a.n.height).vld r ∧ (a.n.heard a.n.height).vld r < r) := fun r hr h => G.valR hr h
    have HG : Hid (GN a.n) := G
    have hql : a.n.queue.length ≤ 6 := G.qlen
    have hrd : a.n.round < 6 := G.round
    have hst2 : a.n.step ≤ 2 := G.step
    clear h4 G F H
    obtain ⟨S, hSS⟩ : ∃ S, a.n.heard a.n.height = S := ⟨_, rfl⟩
    rw [hSS] at hsh hi hone HVp HVw HS HCall
    clear hSS
    go_enter Tryz.func72, Tryz.ntmps72
    go_upto_region 4 with (first
      | (go_at_call 49; refine hsh.mono ?_; clear hsh; rintro e w1 ⟨rfl, L1⟩; have Z1 : Blk (w1.alloc (.cells zS.cells 46)) w1.heap.size zS.cells 46 := Blk.new w1 _ _; have La : Below w1.heap.size w1 (w1.alloc (.cells zS.cells 46)) := (by go_grown))
      | (refine wpList_store_blk rfl 46 _ _ rfl w1.heap.size zS.cells S.cells 46 rfl rfl Z1 (sizes _ _) hi hone ?_; rintro w2 P2 K2))
    have R2 := (HH.keep L1).keep (K2.bel _ _ (Nat.le_refl _) La)
    have hpg : g < w1.heap.size := Nat.lt_of_lt_of_le hgw L1.size
    clear Z1 La K2 L1 HH c0 c1 c2 c3 c4 c5 c6 c7 c8 hz hone
    generalize w1.heap.size = p at P2 hpg ⊢
    go_wp2
    go_loopw [20] (fun j V => ∃ r : Nat, r ≤ 6 ∧ j = .int .i64 (r : Int) ∧ Hid (∀ i, i < r → settles S i = false) ∧ InR bb w g who a (.slice qa a.n.queue.length qc) sd V ∧ Blk V p S.cells 46) (fun j _ => 6 - (intOf j).toNat)
    case atStart => exact ⟨0, by omega, rfl, fun i hi => by omega, R2, P2⟩
    case round =>
      clear R2 P2
      obtain ⟨r, hr, rfl, hno, R3, P3⟩ := hrel
      by_cases hr6 : r < 6
      · have hrI : (r : Int) < 6 := by omega
        have hcr := sh_call P3 hr6
        have hi3 := info_call
        rename World => w3
        have Z3 : Blk (w3.alloc (.cells #[.bool false, .int .i64 0, .int .i64 0] 41)) w3.heap.size #[.bool false, .int .i64 0, .int .i64 0] 41 := Blk.new w3 _ _
        have La : Below w3.heap.size w3 (w3.alloc (.cells #[.bool false, .int .i64 0, .int .i64 0] 41)) := by go_grown
        have hone3 : (callV S r).all (·.oneCell') = true := by show _ = _; kernel_rfl
        have hw3 := R3.1.lt
        go_upto_region 8 with (first
          | (refine wpList_load_part (by rfl) 41 _ rfl p (r * 3) (by first | rfl | simp) (callV S r) _ hcr Tryz.underlying41 rfl hi3 ?_)
          | (refine wpList_store_blk rfl 41 _ _ rfl w3.heap.size #[.bool false, .int .i64 0, .int .i64 0] (callV S r) 41 rfl rfl Z3 rfl hi3 hone3 ?_; rintro w4 C4 K4; have L4 := K4.bel _ _ (Nat.le_refl _) La))
        have hL4 : InL bb w g who a (.slice qa a.n.queue.length qc) sd p S w3.heap.size (callV S r) w4 := ⟨R3.keep L4, P3.below L4, C4⟩
        clear R3 P3 C4 K4 L4 Z3 La hcr hone3
        generalize w3.heap.size = pc at hL4 hw3 ⊢
        have hsaid : ∀ W, InL bb w g who a (.slice qa a.n.queue.length qc) sd p S pc (callV S r) W → Calls Tryz.prog 90 #[.agg (vcells (S.pr r)), .int .i64 (S.val r)] W fun e w' => e = .returned (.int .i64 (cntV (S.pr r) (S.val r))) ∧ InL bb w g who a (.slice qa a.n.queue.length qc) sd p S pc (callV S r) w' := fun W hC => (said_any _ (HVp.out r hr6) _ W).mono fun e w' ⟨he, hb⟩ => ⟨he, hC.keep hb⟩
        have hst : Hid (settles S r = (S.is r && decide (3 ≤ cntV (S.pr r) (S.val r)))) := rfl
        have hec : ∀ W, InL bb w g who a (.slice qa a.n.queue.length qc) sd p S pc (callV S r) W → W.cell? ⟨pc, 0, none⟩ = some (.bool (S.is r)) ∧ W.cell? ⟨pc, 1, none⟩ = some (.int .i64 (S.val r)) := fun W hC => ⟨hC.2.2.cell 0, hC.2.2.cell 1⟩
        have hpr : ∀ W, InL bb w g who a (.slice qa a.n.queue.length qc) sd p S pc (callV S r) W → W.rangeAt p (42 + r * 4) (vcells (S.pr r)).toList := fun W hC => sh_pr hC.2.1 hr6
        have hiv := infoV (S.pr r)
        generalize hcn : cntV (S.pr r) (S.val r) = cn at hsaid hst
        clear hcn
        have hway : S.is r = false ∨ (S.is r = true ∧ ¬ (3 ≤ cn)) ∨ (S.is r = true ∧ 3 ≤ cn) := by
          cases S.is r
          · exact Or.inl rfl
          · by_cases h : 3 ≤ cn
            · exact Or.inr (Or.inr ⟨rfl, h⟩)
            · exact Or.inr (Or.inl ⟨rfl, h⟩)
        rcases hway with d1 | ⟨d1, d2⟩ | ⟨d1, d2⟩
        · refine q_region (C := InL bb w g who a (.slice qa a.n.queue.length qc) sd p S pc (callV S r)) (by kernel_rfl) (by kernel_rfl) hL4.drew ?_
          repeat (first
            | (refine q_skip (by rfl) ?_; simp only [Act.put, List.setIfInBounds_toArray, List.set_cons_zero, List.set_cons_succ])
            | (refine q_load (by rfl) 43 _ rfl p (42 + r * 4) (by first | rfl | simp) (vcells (S.pr r)) _ hpr Tryz.underlying43 rfl hiv ?_; simp only [Act.put, List.setIfInBounds_toArray, List.set_cons_zero, List.set_cons_succ])
            | (refine q_run_ex (by rfl) ?_
               apply Exists.intro
               refine ⟨fun w0 hC => ?_, ?_⟩
               · obtain ⟨e0, e1⟩ := hec w0 hC; rw [d1] at e0; clear hC; go_simp; rfl
               simp only [Act.put, List.setIfInBounds_toArray, List.set_cons_zero, List.set_cons_succ])
            | (refine q_call_ex (by rfl) ?_
               apply Exists.intro
               apply Exists.intro
               apply Exists.intro
               refine ⟨fun w0 hC => ?_, fun w0 hC => ?_, ?_⟩
               · clear hC; go_simp; exact ⟨rfl, rfl⟩
               · first | exact hsaid w0 hC
               simp only [Act.put, List.setIfInBounds_toArray, List.set_cons_zero, List.set_cons_succ]))
          refine q_nil ?_
          intro w5 hC5
          go_wp2
          go_roundw
          case rel => exact ⟨r + 1, by omega, by go_num, no_next hno.out (by rw [hst.out, d1]; rfl), hC5.1, hC5.2.1⟩
          case measure => simp [intOf]; omega
        · refine q_region (C := InL bb w g who a (.slice qa a.n.queue.length qc) sd p S pc (callV S r)) (by kernel_rfl) (by kernel_rfl) hL4.drew ?_
          repeat (first
            | (refine q_skip (by rfl) ?_; simp only [Act.put, List.setIfInBounds_toArray, List.set_cons_zero, List.set_cons_succ])
            | (refine q_load (by rfl) 43 _ rfl p (42 + r * 4) (by first | rfl | simp) (vcells (S.pr r)) _ hpr Tryz.underlying43 rfl hiv ?_; simp only [Act.put, List.setIfInBounds_toArray, List.set_cons_zero, List.set_cons_succ])
            | (refine q_run_ex (by rfl) ?_
               apply Exists.intro
               refine ⟨fun w0 hC => ?_, ?_⟩
               · obtain ⟨e0, e1⟩ := hec w0 hC; rw [d1] at e0; clear hC; go_simp; rfl
               simp only [Act.put, List.setIfInBounds_toArray, List.set_cons_zero, List.set_cons_succ])
            | (refine q_call_ex (by rfl) ?_
               apply Exists.intro
               apply Exists.intro
               apply Exists.intro
               refine ⟨fun w0 hC => ?_, fun w0 hC => ?_, ?_⟩
               · clear hC; go_simp; exact ⟨rfl, rfl⟩
               · first | exact hsaid w0 hC
               simp only [Act.put, List.setIfInBounds_toArray, List.set_cons_zero, List.set_cons_succ]))
          refine q_nil ?_
          intro w5 hC5
          go_wp2
          go_roundw
          case rel => exact ⟨r + 1, by omega, by go_num, no_next hno.out (by rw [hst.out, d1]; simp [d2]), hC5.1, hC5.2.1⟩
          case measure => simp [intOf]; omega
        · refine q_region (C := InL bb w g who a (.slice qa a.n.queue.length qc) sd p S pc (callV S r)) (by kernel_rfl) (by kernel_rfl) hL4.drew ?_
          repeat (first
            | (refine q_skip (by rfl) ?_; simp only [Act.put, List.setIfInBounds_toArray, List.set_cons_zero, List.set_cons_succ])
            | (refine q_load (by rfl) 43 _ rfl p (42 + r * 4) (by first | rfl | simp) (vcells (S.pr r)) _ hpr Tryz.underlying43 rfl hiv ?_; simp only [Act.put, List.setIfInBounds_toArray, List.set_cons_zero, List.set_cons_succ])
            | (refine q_run_ex (by rfl) ?_
               apply Exists.intro
               refine ⟨fun w0 hC => ?_, ?_⟩
               · obtain ⟨e0, e1⟩ := hec w0 hC; rw [d1] at e0; clear hC; go_simp; rfl
               simp only [Act.put, List.setIfInBounds_toArray, List.set_cons_zero, List.set_cons_succ])
            | (refine q_call_ex (by rfl) ?_
               apply Exists.intro
               apply Exists.intro
               apply Exists.intro
               refine ⟨fun w0 hC => ?_, fun w0 hC => ?_, ?_⟩
               · clear hC; go_simp; exact ⟨rfl, rfl⟩
               · first | exact hsaid w0 hC
               simp only [Act.put, List.setIfInBounds_toArray, List.set_cons_zero, List.set_cons_succ]))
          refine q_nil ?_
          intro w5 hC5
          have h1 : Hid (one who a = some (settleV who a (S.val r))) := show _ = _ by
            rw [← HS.out] at *
            exact rn_one_first hh (first_some hr6 (by rw [hst.out, d1]; simp [d2]) hno.out)
          have hri : (r : Int) < 6 := hrI
          obtain ⟨y, hy⟩ : ∃ y, S.val r = y := ⟨_, rfl⟩
          have hyc : Hid ((callV S r)[1]? = some (.int .i64 y)) := show (callV S r)[1]? = some (.int .i64 y) by rw [← hy]; rfl
          rw [hy] at h1
          clear hsaid hec hpr hiv hst hno d1 d2 hy hL4 HVp HVw HCall hi3
          go_upto_region 9 with fail
          refine held_region (InL bb w g who a (.slice qa a.n.queue.length qc) sd p S pc (callV S r)) [12] [(0, 0), (1, 0), (2, 0), (3, 0), (4, 0), (5, 1), (6, 0), (7, 1), (8, 0), (9, 0), (10, 0), (11, 0), (12, 2)] (by kernel_rfl) (by kernel_rfl) (by kernel_rfl) rfl (fun _ _ d _ _ h => by cases d <;> exact h) hC5.drew ?_
          repeat (first
            | (refine ord_run0_ex rfl (by rfl) ?_
               apply Exists.intro
               refine ⟨fun w0 => ?_, ?_⟩
               · go_simp; first | rfl | (rw [if_pos hhi]) | (rw [if_pos hri])
               simp only [Act.put, List.setIfInBounds_toArray, List.set_cons_zero, List.set_cons_succ])
            | (refine ord_run1_ex rfl (by rfl) ?_
               apply Exists.intro
               refine ⟨fun w0 hC => ?_, ?_⟩
               · obtain ⟨c0, c1, c2, c3, c4, c5, c6, c7, c8⟩ := hC.1.1.blk.tnums; have e1 : w0.cell? ⟨pc, 1, none⟩ = some (.int .i64 y) := (hC.2.2.cell 1).trans hyc.out; clear hC; go_simp; rfl
               simp only [Act.put, List.setIfInBounds_toArray, List.set_cons_zero, List.set_cons_succ]))
          have hC6 := hC5.drew
          clear hC5
          generalize w5.drew = W1 at hC6 ⊢
          have cs := hC6.1.1.blk.cell (277 + a.n.height)
          have fs := hC6.1.1.blk.free (277 + a.n.height)
          rw [tcells_settled _ _ _ _ hh] at cs
          refine ord_do rfl ?_
          go_wp2_with fail
          refine ⟨fun hc => absurd hc (by decide), ?_⟩
          show wpOrd _ _ _ _ _ [] _ _ _
          unfold wpOrd
          have H2 := hC6.1.1.put (j := 277 + a.n.height) (v := .int .i64 y) { a.n with settled := fun g => if g = a.n.height then y else a.n.settled g } (by omega) (set_settled _ _ hh _) rfl
          have L2 := bel_put hC6.1.2 (277 + a.n.height) (.int .i64 y)
          have C2 := hC6.2.2.setCell_other ⟨g, 277 + a.n.height, none⟩ (.int .i64 y) (by show pc ≠ g; omega)
          have hgW : g < (W1.setCell ⟨g, 277 + a.n.height, none⟩ (.int .i64 y)).heap.size := H2.lt
          clear cs fs hC6
          generalize W1.setCell ⟨g, 277 + a.n.height, none⟩ (.int .i64 y) = W2 at H2 L2 C2 hgW ⊢
          obtain ⟨c0, c1, c2, c3, c4, c5, c6, c7, c8⟩ := H2.blk.tnums
          go_upto_region 12 with fail
          clear c0 c1 c2 c3 c4 c5 c6 c7 c8
          obtain ⟨i0, hi0, hz0, hz1, hz2⟩ := info_int
          have HQ : Hid (∀ V, Below W2.heap.size W2 V → Ints V (.slice qa a.n.queue.length qc) a.n.queue) := fun V hV => own_ints (own_below H2.own hV)
          have HE : Hid (∀ V, Below W2.heap.size W2 V → V.cell? ⟨pc, 1, none⟩ = some (.int .i64 y)) := fun V hV => ((C2.below hV).cell 1).trans hyc.out
          have HH2 : Hid (Sr bb W2 g 98 who ⟨{ a.n with settled := fun g => if g = a.n.height then y else a.n.settled g }, a.words⟩ (.slice qa a.n.queue.length qc) sd) := H2
          have HL2 : Hid (Below g w W2) := L2
          clear H2 L2 C2
          go_loopw [6, 57] (fun lv j V => ∃ (k m : Nat) (la : Option Addr) (lc : Nat), k ≤ a.n.queue.length ∧ j = .int .i64 (k : Int) ∧ lv = .slice la m lc ∧ m ≤ k ∧ Below W2.heap.size W2 V ∧ V.ownsRow W2.heap.size 3 1 (.slice la m lc) m (((a.n.queue.take k).filter (fun x => x != y)).map (Value.int .i64))) (fun _ j _ => a.n.queue.length - (intOf j).toNat)
          case atStart => exact ⟨0, 0, none, 0, by omega, rfl, rfl, Nat.le_refl _, Below.refl _ _, World.ownsRow_nil _ _ _ _⟩
          case round =>
            obtain ⟨k, m, la, lc, hk, rfl, rfl, hmk, hB, hO⟩ := hrel
            by_cases hkl : k < a.n.queue.length
            · have hkI : (k : Int) < (a.n.queue.length : Int) := by omega
              obtain ⟨ad, cap, hsv, hcell⟩ := (HQ.out wr hB).lies hkl
              injection hsv with hs1 hs2 hs3
              subst hs1 hs3
              have e1 := HE.out wr hB
              have hx : a.n.queue[k]? = some (a.n.queue.getD k 0) := by rw [List.getD_eq_getElem?_getD, List.getElem?_eq_getElem hkl]; rfl
              have HT : Hid ((a.n.queue.take (k + 1)).filter (fun x => x != y) = (a.n.queue.take k).filter (fun x => x != y) ++ [a.n.queue.getD k 0].filter (fun x => x != y)) := show _ = _ by
                rw [List.take_add_one, hx, List.filter_append]; rfl
              clear hx
              generalize a.n.queue.getD k 0 = x at hcell HT
              by_cases hxy : x = y
              · have hxb : (x != y) = false := by simpa using hxy
                have HT2 : Hid ((a.n.queue.take (k + 1)).filter (fun x => x != y) = (a.n.queue.take k).filter (fun x => x != y)) := show _ = _ by rw [HT.out]; simp [hxy]
                clear hxy HT
                go_wp2
                go_roundw
                case rel => exact ⟨k + 1, m, la, lc, by omega, by go_num, rfl, by omega, hB, by rw [HT2.out]; exact hO⟩
                case measure => simp [intOf]; omega
              · have hxb : (x != y) = true := by simpa using hxy
                have HT2 : Hid ((a.n.queue.take (k + 1)).filter (fun x => x != y) = (a.n.queue.take k).filter (fun x => x != y) ++ [x]) := show _ = _ by rw [HT.out]; simp [hxy]
                clear hxy HT
                have La : Below wr.heap.size wr (wr.alloc (.cells #[.int .i64 x] 3)) := by go_grown
                have N9 : Blk (wr.alloc (.cells #[.int .i64 x] 3)) wr.heap.size #[.int .i64 x] 3 := Blk.new wr _ _
                have O9 := own_below hO La
                have B9 := bel_trans hB La
                have hs9 := B9.size
                have hnews : ∀ (j : Nat) (u : Value), ([.int .i64 x] : List Value)[j]? = some u → (wr.alloc (.cells #[.int .i64 x] 3)).cell? ((⟨wr.heap.size, 0, none⟩ : Addr).add j) = some u := fun j u hu => by
                  rw [Addr.add_mid, Nat.zero_add, N9.cell j]
                  simpa using hu
                have hone9 : ∀ u : Value, u ∈ ([.int .i64 x] : List Value) → u.oneCell' = true := fun u hu => by
                  obtain rfl := List.mem_singleton.1 hu; rfl
                have h63 : m + 1 ≤ maxLen := by unfold maxLen; omega
                go_wp2_with (first
                  | (at_builtin; refine wpList_append_own _ rfl _ _ 48 rfl W2.heap.size 3 i0 (.int .i64 0) 1 8 Tryz.underlying48 hi0 hz0 hz1 hz2 rfl (by decide) (.slice la m lc) m _ rfl O9 ⟨wr.heap.size, 0, none⟩ 1 1 [.int .i64 x] rfl rfl hnews hone9 h63 (by omega) (by omega) ?_; intro v10 w10 hown hgrow hnil; obtain ⟨la', lc', hv10⟩ := own_shape hown; subst hv10))
                go_roundw
                case rel => exact ⟨k + 1, m + 1, la', lc', by omega, by go_num, rfl, by omega, bel_seq B9 (below_own O9 hgrow (Nat.le_refl _) (by omega)), by rw [HT2.out, List.map_append]; exact hown⟩
                case measure => simp [intOf]; omega
            · have hkI : ¬ (k : Int) < (a.n.queue.length : Int) := by omega
              have hkq : a.n.queue.take k = a.n.queue := List.take_of_length_le (by omega)
              rw [hkq] at hO
              have hml : m = (a.n.queue.filter (fun x => x != y)).length := by have := hO.1; simp at this; omega
              have H3 := HH2.out.below hB
              have L3 : Below g w wr := bel_seq HL2.out (hB.mono (by omega))
              have B3 := H3.blk
              obtain ⟨c0, c1, c2, c3, c4, c5, c6, c7, c8⟩ := B3.tnums
              have f0 := B3.free 0
              have f3 := B3.free 3
              have f4 := B3.free 4
              have f5 := B3.free 5
              have f6 := B3.free 6
              have f7 := B3.free 281
              have B4 := B3.setCell 281 (.slice la m lc)
              rw [tcells_set (set_q _ _) (by omega)] at B4
              have H4 : Sr bb (wr.setCell ⟨g, 281, none⟩ (.slice la m lc)) g 98 who ⟨{ a.n with settled := fun g => if g = a.n.height then y else a.n.settled g, queue := a.n.queue.filter (fun x => x != y) }, a.words⟩ (.slice la m lc) sd :=
                ⟨B4, own_mono (own_grown (by rw [← hml]; exact hO) (grown_setCell _ _ _ _) hgW) (by have := H3.le; omega), own_grown H3.said (grown_setCell _ _ _ _) (by omega), H3.le, fun h => by have := (own_block hO g h).1; omega⟩
              have H5 := ((((H4.put (j := 0) (v := .int .i64 ((a.n.height : Int) + 1)) { a.n with settled := fun g => if g = a.n.height then y else a.n.settled g, queue := a.n.queue.filter (fun x => x != y), height := a.n.height + 1 } (by omega) (set_height _ _) rfl).put (j := 3) (v := .int .i64 0) { a.n with settled := fun g => if g = a.n.height then y else a.n.settled g, queue := a.n.queue.filter (fun x => x != y), height := a.n.height + 1, bound := 0 } (by omega) (set_bound _ _) rfl).put (j := 4) (v := .int .i64 (-1)) { a.n with settled := fun g => if g = a.n.height then y else a.n.settled g, queue := a.n.queue.filter (fun x => x != y), height := a.n.height + 1, bound := 0, boundIn := -1 } (by omega) (set_boundIn _ _) rfl).put (j := 5) (v := .int .i64 0) { a.n with settled := fun g => if g = a.n.height then y else a.n.settled g, queue := a.n.queue.filter (fun x => x != y), height := a.n.height + 1, bound := 0, boundIn := -1, valid := 0 } (by omega) (set_valid _ _) rfl).put (j := 6) (v := .int .i64 (-1)) { a.n with settled := fun g => if g = a.n.height then y else a.n.settled g, queue := a.n.queue.filter (fun x => x != y), height := a.n.height + 1, bound := 0, boundIn := -1, valid := 0, validIn := -1 } (by omega) (set_validIn _ _) rfl
              have L5 := bel_put (bel_put (bel_put (bel_put (bel_put (bel_put L3 281 (.slice la m lc)) 0 (.int .i64 ((a.n.height : Int) + 1))) 3 (.int .i64 0)) 4 (.int .i64 (-1))) 5 (.int .i64 0)) 6 (.int .i64 (-1))
              clear B4 H4 B3 H3 L3 HH2 HL2 HQ HE hO hB hkq hml
              go_upto_region 20 with fail
              generalize (((((wr.setCell ⟨g, 281, none⟩ (.slice la m lc)).setCell ⟨g, 0, none⟩ (.int .i64 ((a.n.height : Int) + 1))).setCell ⟨g, 3, none⟩ (.int .i64 0)).setCell ⟨g, 4, none⟩ (.int .i64 (-1))).setCell ⟨g, 5, none⟩ (.int .i64 0)).setCell ⟨g, 6, none⟩ (.int .i64 (-1)) = W5 at H5 L5 ⊢
              have e7 : W5.cell? ⟨g, 7, none⟩ = some (.bool (a.n.seen 0)) := by rw [H5.blk.cell 7]; exact tcells_seen _ _ _ 0 (by omega)
              have g7 := H5.blk.free 7
              have e8 : W5.cell? ⟨g, 8, none⟩ = some (.bool (a.n.seen 1)) := by rw [H5.blk.cell 8]; exact tcells_seen _ _ _ 1 (by omega)
              have g8 := H5.blk.free 8
              have e9 : W5.cell? ⟨g, 9, none⟩ = some (.bool (a.n.seen 2)) := by rw [H5.blk.cell 9]; exact tcells_seen _ _ _ 2 (by omega)
              have g9 := H5.blk.free 9
              have e10 : W5.cell? ⟨g, 10, none⟩ = some (.bool (a.n.seen 3)) := by rw [H5.blk.cell 10]; exact tcells_seen _ _ _ 3 (by omega)
              have g10 := H5.blk.free 10
              have e11 : W5.cell? ⟨g, 11, none⟩ = some (.bool (a.n.seen 4)) := by rw [H5.blk.cell 11]; exact tcells_seen _ _ _ 4 (by omega)
              have g11 := H5.blk.free 11
              have e12 : W5.cell? ⟨g, 12, none⟩ = some (.bool (a.n.seen 5)) := by rw [H5.blk.cell 12]; exact tcells_seen _ _ _ 5 (by omega)
              have g12 := H5.blk.free 12
              have H6 : Sr bb ((((((W5.setCell ⟨g, 7, none⟩ (.bool false)).setCell ⟨g, 8, none⟩ (.bool false)).setCell ⟨g, 9, none⟩ (.bool false)).setCell ⟨g, 10, none⟩ (.bool false)).setCell ⟨g, 11, none⟩ (.bool false)).setCell ⟨g, 12, none⟩ (.bool false)) g 98 who ⟨leftN a.n y, a.words⟩ (.slice la m lc) sd := seen_rowR H5
              have L6 : Below g w ((((((W5.setCell ⟨g, 7, none⟩ (.bool false)).setCell ⟨g, 8, none⟩ (.bool false)).setCell ⟨g, 9, none⟩ (.bool false)).setCell ⟨g, 10, none⟩ (.bool false)).setCell ⟨g, 11, none⟩ (.bool false)).setCell ⟨g, 12, none⟩ (.bool false)) := Below.setCells' (B := g) (g := g) (Nat.le_refl _) [.bool false, .bool false, .bool false, .bool false, .bool false, .bool false] 7 W5 L5
              have h6s := info_seen
              clear H5 L5 c0 c1 c2 c3 c4 c5 c6 c7 c8 f0 f3 f4 f5 f6 f7
              go_upto_region 21 with fail
              clear e7 e8 e9 e10 e11 e12 g7 g8 g9 g10 g11 g12
              generalize ((((((W5.setCell ⟨g, 7, none⟩ (.bool false)).setCell ⟨g, 8, none⟩ (.bool false)).setCell ⟨g, 9, none⟩ (.bool false)).setCell ⟨g, 10, none⟩ (.bool false)).setCell ⟨g, 11, none⟩ (.bool false)).setCell ⟨g, 12, none⟩ (.bool false)) = W6 at H6 L6 ⊢
              have hcon := renter_any H6 (show a.n.height + 1 ≤ 4 by omega) 0 (by omega) hlen (Or.inl rfl)
              go_wp2_with (first | (go_at_call 47; refine hcon.mono ?_; clear hcon; rintro e w7 ⟨rfl, sd', H7, L7⟩))
              go_ret
              exact Or.inr ⟨_, h1.out, rfl, _, sd', H7, bel_seq L6 L7⟩
      · have hrI : ¬ (r : Int) < 6 := by omega
        have hfn : Hid (firstSettled a.n.sheet = none) := show _ = _ by rw [HS.out]; exact first_none (fun j hj => hno.out j (by omega))
        clear hno
        obtain ⟨c0, c1, c2, c3, c4, c5, c6, c7, c8⟩ := R3.1.blk.tnums
        have hrdI : (a.n.round : Int) < 6 := by omega
        have hrd0 : (0 : Int) ≤ (a.n.round : Int) := by omega
        go_upto_region 26 with fail
        clear c0 c1 c2 c3 c4 c5 c6 c7 c8
        go_loopw [9, 10] (fun fv jv V => ∃ f j : Nat, fv = .int .i64 (f : Int) ∧ jv = .int .i64 (j : Int) ∧ a.n.round + 1 ≤ j ∧ j ≤ 6 ∧ Hid (FarTo S a.n.round f j) ∧ InR bb w g who a (.slice qa a.n.queue.length qc) sd V ∧ Blk V p S.cells 46) (fun _ jv _ => 6 - (intOf jv).toNat)
        case atStart => exact ⟨a.n.round, a.n.round + 1, rfl, by go_num, by omega, by omega, ⟨Or.inl rfl, Nat.le_refl _, fun i h1 h2 => by omega⟩, R3, P3⟩
        case round =>
          clear R3 P3
          obtain ⟨f, j, rfl, rfl, hj1, hj6, hfar, R3, P3⟩ := hrel
          by_cases hj : j < 6
          · have hjI : (j : Int) < 6 := by omega
            have hhn := fun W => heardIn_any S (j : Int) W
            obtain ⟨hv, hhv⟩ : ∃ hv, heardN S (j : Int) = hv := ⟨_, rfl⟩
            rw [hhv] at hhn
            have HHV : Hid (heardN S (j : Int) = hv) := hhv
            clear hhv
            by_cases hgt : 1 < hv
            · go_wp2_with (first
                | (refine wpList_load_part (by rfl) 46 _ rfl p 0 (by first | rfl | simp) S.cells _ P3.range Tryz.underlying46 rfl hi ?_)
                | (go_at_call 91; refine (hhn _).mono ?_; rintro e w6 ⟨rfl, L6⟩))
              go_roundw
              case rel => exact ⟨j, j + 1, rfl, by go_num, by omega, by omega, ⟨Or.inr ⟨by omega, by omega, by rw [HHV.out]; exact hgt⟩, by omega, fun i h1 h2 => by omega⟩, R3.keep L6, P3.below L6⟩
              case measure => simp [intOf]; omega
            · go_wp2_with (first
                | (refine wpList_load_part (by rfl) 46 _ rfl p 0 (by first | rfl | simp) S.cells _ P3.range Tryz.underlying46 rfl hi ?_)
                | (go_at_call 91; refine (hhn _).mono ?_; rintro e w6 ⟨rfl, L6⟩))
              go_roundw
              case rel =>
                refine ⟨f, j + 1, rfl, by go_num, by omega, by omega, ⟨?_, hfar.out.2.1, fun i h1 h2 => ?_⟩, R3.keep L6, P3.below L6⟩
                · rcases hfar.out.1 with h | ⟨h, h', h''⟩
                  · exact Or.inl h
                  · exact Or.inr ⟨h, by omega, h''⟩
                · by_cases e : i = j
                  · rw [e, HHV.out]; omega
                  · have h3 : i < j := Nat.lt_of_le_of_ne (Nat.lt_succ_iff.1 h2) e
                    exact hfar.out.2.2 i h1 h3
              case measure => simp [intOf]; omega
          · have hjI : ¬ (j : Int) < 6 := by omega
            have hj7 : j = 6 := by omega
            subst hj7
            obtain ⟨c0, c1, c2, c3, c4, c5, c6, c7, c8⟩ := R3.1.blk.tnums
            by_cases hfr : a.n.round < f
            · have hfI : (f : Int) > (a.n.round : Int) := by omega
              obtain ⟨_, hf6, hf1⟩ : a.n.round < f ∧ f < 6 ∧ 1 < heardN S (f : Int) := by
                rcases hfar.out.1 with h | h
                · omega
                · exact h
              have h1 : Hid (one who a = some (enter who a f)) := rn_one_far hh hfn.out (by rw [HS.out]; exact far_some hfr hf6 hf1 hfar.out.2.2)
              have hvd : a.n.validIn = -1 ∨ 0 ≤ a.n.validIn := by
                rcases HG.out.vd with ⟨_, h⟩ | ⟨_, _, h, _⟩
                · exact Or.inl h
                · exact Or.inr h
              have hcon := renter_any R3.1 (Nat.le_of_lt hh) f hf6 hlen hvd
              clear hf1
              go_wp2_with (first | (go_at_call 47; refine hcon.mono ?_; clear hcon; rintro e w7 ⟨rfl, sd', H7, L7⟩))
              go_ret
              exact Or.inr ⟨_, h1.out, rfl, _, sd', H7, bel_seq R3.2 L7⟩
            · have hfI : ¬ (f : Int) > (a.n.round : Int) := by omega
              have hff : f = a.n.round := by have := hfar.out.2.1; omega
              have hfn2 : Hid (farRound a.n.sheet a.n.round = none) := show _ = _ by rw [HS.out]; exact far_none (fun i h1 h2 => hfar.out.2.2 i (by omega) h2)
              clear hfar hff
              have hcr := sh_call P3 hrd
              have hi3 := info_call
              rename World => w3
              have Z3 : Blk (w3.alloc (.cells #[.bool false, .int .i64 0, .int .i64 0] 41)) w3.heap.size #[.bool false, .int .i64 0, .int .i64 0] 41 := Blk.new w3 _ _
              have La : Below w3.heap.size w3 (w3.alloc (.cells #[.bool false, .int .i64 0, .int .i64 0] 41)) := by go_grown
              have hone3 : (callV S a.n.round).all (·.oneCell') = true := by show _ = _; kernel_rfl
              have hw3 := R3.1.lt
              go_upto_region 33 with fail
              rename_i K4 Q1 K3 a2 K2 Q0 K1 a1 K0 a0
              clear a2 a1
              clear Q0 Q1 K4 K3 K2 K1
              go_upto_region 34 with (first
                | (refine wpList_load_part (by rfl) 41 _ rfl p (a.n.round * 3) (by first | rfl | simp) (callV S a.n.round) _ hcr Tryz.underlying41 rfl hi3 ?_)
                | (refine wpList_store_blk rfl 41 _ _ rfl w3.heap.size #[.bool false, .int .i64 0, .int .i64 0] (callV S a.n.round) 41 rfl rfl Z3 rfl hi3 hone3 ?_; rintro w4 C4 K4; have L4 := K4.bel _ _ (Nat.le_refl _) La))
              have hL4 : InL bb w g who a (.slice qa a.n.queue.length qc) sd p S w3.heap.size (callV S a.n.round) w4 := ⟨R3.keep L4, P3.below L4, C4⟩
              clear R3 P3 C4 K4 L4 Z3 La hcr hone3 c0 c1 c2 c3 c4 c5 c6 c7 c8
              generalize w3.heap.size = pc at hL4 hw3 ⊢
              have hpp : p ≠ g := by omega
              have hpcg : pc ≠ g := by omega
              have hri : (a.n.round : Int) < 6 := by omega
              obtain ⟨is, his⟩ : ∃ is, S.is a.n.round = is := ⟨_, rfl⟩
              obtain ⟨y, hy⟩ : ∃ y, S.val a.n.round = y := ⟨_, rfl⟩
              obtain ⟨x, hx⟩ : ∃ x, S.vld a.n.round = x := ⟨_, rfl⟩
              have HD : Hid ((callV S a.n.round)[0]? = some (.bool is) ∧ (callV S a.n.round)[1]? = some (.int .i64 y) ∧ (callV S a.n.round)[2]? = some (.int .i64 x)) := show _ ∧ _ ∧ _ by rw [← his, ← hy, ← hx]; exact ⟨rfl, rfl, rfl⟩
              have HX : Hid (is = true → -1 ≤ x ∧ x < (a.n.round : Int)) := fun h => by have h2 := HCall.out a.n.round hrd (by rw [his]; exact h); rw [hx] at h2; exact h2.2.2
              have HIS : Hid (S.is a.n.round = is) := his
              have HY : Hid (S.val a.n.round = y) := hy
              have HXV : Hid (S.vld a.n.round = x) := hx
              clear his hy hx HCall
              generalize callV S a.n.round = D at HD hL4
              have hec : ∀ (an : At) (W : World), InL bb w g who an (.slice qa a.n.queue.length qc) sd p S pc D W → W.cell? ⟨pc, 0, none⟩ = some (.bool is) ∧ W.cell? ⟨pc, 1, none⟩ = some (.int .i64 y) ∧ W.cell? ⟨pc, 2, none⟩ = some (.int .i64 x) := fun an W hC => ⟨(hC.2.2.cell 0).trans HD.out.1, (hC.2.2.cell 1).trans HD.out.2.1, (hC.2.2.cell 2).trans HD.out.2.2⟩
              obtain ⟨c0, c1, c2, c3, c4, c5, c6, c7, c8⟩ := hL4.1.1.blk.tnums
              have hs0 := HST.out
              have hsb : ((a.n.step : Int) == 0) = false := by simp; omega
              have hwr : ∀ W, InL bb w g who a (.slice qa a.n.queue.length qc) sd p S pc D W → W.rangeAt p (18 + a.n.round * 4) (vcells (S.wi a.n.round)).toList := fun W hC => sh_wi hC.2.1 hrd
              have hiv := infoV (S.wi a.n.round)
              have hsaid0 := fun W => said_any (S.wi a.n.round) (HVw.out a.n.round hrd) 0 W
              obtain ⟨cz, hcz⟩ : ∃ cz, cntV (S.wi a.n.round) 0 = cz := ⟨_, rfl⟩
              have HCZ : Hid (cntV (S.wi a.n.round) 0 = cz) := hcz
              rw [hcz] at hsaid0
              clear hcz
              have hw4 := hwr _ hL4
              by_cases hs1 : a.n.step = 1
              · have hsb1 : ((a.n.step : Int) == 1) = true := by simp; omega
                by_cases hz3 : 3 ≤ cz
                · have h1 : Hid (one who a = some (tell who ⟨{ a.n with step := 2 }, a.words⟩ 3 0 0)) := (rn_one_prom (who := who) hh hfn.out hfn2.out hs0).trans (prom_zero HS.out ⟨hs1, by rw [HCZ.out]; exact hz3⟩)
                  go_upto_region 43 with (first
                    | (refine wpList_load_part (by rfl) 43 _ rfl p (18 + a.n.round * 4) (by first | rfl | simp) (vcells (S.wi a.n.round)) _ hw4 Tryz.underlying43 rfl hiv ?_)
                    | (go_at_call 90; refine (hsaid0 _).mono ?_; rintro e w5 ⟨rfl, L5⟩))
                  have hC5 := hL4.keep L5
                  have cs := hC5.1.1.blk.tnums.2.2.1
                  have fs := hC5.1.1.blk.free 2
                  go_upto_region 44 with fail
                  have hC6 : InL bb w g who ⟨{ a.n with step := 2 }, a.words⟩ (.slice qa a.n.queue.length qc) sd p S pc D (w5.setCell ⟨g, 2, none⟩ (.int .i64 2)) := hC5.put hpp hpcg { a.n with step := 2 } (by omega) (set_step _ _) rfl
                  clear cs fs hC5
                  generalize w5.setCell ⟨g, 2, none⟩ (.int .i64 2) = W6 at hC6 ⊢
                  go_wp2_with (first | (go_at_call 50; refine (rtell_any hC6.1.1 hh hlen 3 0 0).mono ?_; rintro e w8 ⟨rfl, sd', H8, L8⟩))
                  go_ret
                  exact Or.inr ⟨_, h1.out, rfl, _, sd', H8, bel_seq hC6.1.2 L8⟩
                · have hnz : Hid (¬ (a.n.step = 1 ∧ 3 ≤ cntV (S.wi a.n.round) 0)) := fun h => hz3 (by have := h.2; rw [HCZ.out] at this; exact this)
                  go_upto_region 46 with (first
                    | (refine wpList_load_part (by rfl) 43 _ rfl p (18 + a.n.round * 4) (by first | rfl | simp) (vcells (S.wi a.n.round)) _ hw4 Tryz.underlying43 rfl hiv ?_)
                    | (go_at_call 90; refine (hsaid0 _).mono ?_; rintro e w5 ⟨rfl, L5⟩))
                  have hL5 := hL4.keep L5
                  clear hL4 L5 c0 c1 c2 c3 c4 c5 c6 c7 c8 hw4
                  have hsaid : ∀ W, InL bb w g who a (.slice qa a.n.queue.length qc) sd p S pc D W → Calls Tryz.prog 90 #[.agg (vcells (S.wi a.n.round)), .int .i64 y] W fun e w' => e = .returned (.int .i64 (cntV (S.wi a.n.round) y)) ∧ InL bb w g who a (.slice qa a.n.queue.length qc) sd p S pc D w' := fun W hC => (said_any _ (HVw.out a.n.round hrd) _ W).mono fun e w' ⟨he, hb⟩ => ⟨he, hC.keep hb⟩
                  obtain ⟨cn, hcn⟩ : ∃ cn, cntV (S.wi a.n.round) y = cn := ⟨_, rfl⟩
                  have HCN : Hid (cntV (S.wi a.n.round) y = cn) := hcn
                  rw [hcn] at hsaid
                  clear hcn
                  obtain ⟨sn, hsn⟩ : ∃ sn, a.n.seen a.n.round = sn := ⟨_, rfl⟩
                  have HSN : Hid (a.n.seen a.n.round = sn) := hsn
                  have hes : ∀ W, InL bb w g who a (.slice qa a.n.queue.length qc) sd p S pc D W → W.cell? ⟨g, 7 + a.n.round, none⟩ = some (.bool sn) := fun W hC => by rw [hC.1.1.blk.cell, tcells_seen _ _ _ _ hrd]; show some (Value.bool (a.n.seen a.n.round)) = _; rw [hsn]
                  clear hsn
                  have hway : is = false ∨ (is = true ∧ sn = true) ∨ (is = true ∧ sn = false ∧ ¬ (3 ≤ cn)) ∨ (is = true ∧ sn = false ∧ 3 ≤ cn) := by
                    cases is
                    · exact Or.inl rfl
                    · cases sn
                      · by_cases h : 3 ≤ cn
                        · exact Or.inr (Or.inr (Or.inr ⟨rfl, rfl, h⟩))
                        · exact Or.inr (Or.inr (Or.inl ⟨rfl, rfl, h⟩))
                      · exact Or.inr (Or.inl ⟨rfl, rfl⟩)
                  rcases hway with i1 | ⟨i1, i2⟩ | ⟨i1, i2, i3⟩ | ⟨i1, i2, i3⟩
                  · have h1 : Hid (one who a = none) := (rn_one_prom (who := who) hh hfn.out hfn2.out hs0).trans (prom_no HS.out hnz.out (by rw [HIS.out, HSN.out, HY.out, HCN.out]; rintro ⟨z1, z2, z3⟩; rw [i1] at z1; cases z1))
                    subst i1
                    rename_i K7 a7
                    have A7 : Hid _ := a7
                    clear a7
                    refine q_region (C := InL bb w g who a (.slice qa a.n.queue.length qc) sd p S pc D) (by kernel_rfl) (by kernel_rfl) hL5.drew ?_
                    repeat (first
                      | (refine q_skip (by rfl) ?_; simp only [Act.put, List.setIfInBounds_toArray, List.set_cons_zero, List.set_cons_succ])
                      | (refine q_load (by rfl) 43 _ rfl p (18 + a.n.round * 4) (by first | rfl | simp) (vcells (S.wi a.n.round)) _ hwr Tryz.underlying43 rfl hiv ?_; simp only [Act.put, List.setIfInBounds_toArray, List.set_cons_zero, List.set_cons_succ])
                      | (refine q_run_ex (by rfl) ?_
                         apply Exists.intro
                         refine ⟨fun w0 hC => ?_, ?_⟩
                         · obtain ⟨c0, c1, c2, c3, c4, c5, c6, c7, c8⟩ := hC.1.1.blk.tnums; obtain ⟨d0, d1, d2⟩ := hec _ w0 hC; have es := hes w0 hC; clear hC; go_simp; rfl
                         simp only [Act.put, List.setIfInBounds_toArray, List.set_cons_zero, List.set_cons_succ])
                      | (refine q_call_ex (by rfl) ?_
                         apply Exists.intro
                         apply Exists.intro
                         apply Exists.intro
                         refine ⟨fun w0 hC => ?_, fun w0 hC => ?_, ?_⟩
                         · clear hC; go_simp; exact ⟨rfl, rfl⟩
                         · first | exact hsaid w0 hC
                         simp only [Act.put, List.setIfInBounds_toArray, List.set_cons_zero, List.set_cons_succ]))
                    refine q_nil ?_
                    intro w6 hC6
                    refine A7.out _ _ ?_
                    go_wp2
                    go_ret
                    exact Or.inl ⟨h1.out, rfl, _, sd, hC6.1⟩
                  · have h1 : Hid (one who a = none) := (rn_one_prom (who := who) hh hfn.out hfn2.out hs0).trans (prom_no HS.out hnz.out (by rw [HIS.out, HSN.out, HY.out, HCN.out]; rintro ⟨z1, z2, z3⟩; rw [i2] at z2; cases z2))
                    subst i1 i2
                    rename_i K7 a7
                    have A7 : Hid _ := a7
                    clear a7
                    refine q_region (C := InL bb w g who a (.slice qa a.n.queue.length qc) sd p S pc D) (by kernel_rfl) (by kernel_rfl) hL5.drew ?_
                    repeat (first
                      | (refine q_skip (by rfl) ?_; simp only [Act.put, List.setIfInBounds_toArray, List.set_cons_zero, List.set_cons_succ])
                      | (refine q_load (by rfl) 43 _ rfl p (18 + a.n.round * 4) (by first | rfl | simp) (vcells (S.wi a.n.round)) _ hwr Tryz.underlying43 rfl hiv ?_; simp only [Act.put, List.setIfInBounds_toArray, List.set_cons_zero, List.set_cons_succ])
                      | (refine q_run_ex (by rfl) ?_
                         apply Exists.intro
                         refine ⟨fun w0 hC => ?_, ?_⟩
                         · obtain ⟨c0, c1, c2, c3, c4, c5, c6, c7, c8⟩ := hC.1.1.blk.tnums; obtain ⟨d0, d1, d2⟩ := hec _ w0 hC; have es := hes w0 hC; clear hC; go_simp; rfl
                         simp only [Act.put, List.setIfInBounds_toArray, List.set_cons_zero, List.set_cons_succ])
                      | (refine q_call_ex (by rfl) ?_
                         apply Exists.intro
                         apply Exists.intro
                         apply Exists.intro
                         refine ⟨fun w0 hC => ?_, fun w0 hC => ?_, ?_⟩
                         · clear hC; go_simp; exact ⟨rfl, rfl⟩
                         · first | exact hsaid w0 hC
                         simp only [Act.put, List.setIfInBounds_toArray, List.set_cons_zero, List.set_cons_succ]))
                    refine q_nil ?_
                    intro w6 hC6
                    refine A7.out _ _ ?_
                    go_wp2
                    go_ret
                    exact Or.inl ⟨h1.out, rfl, _, sd, hC6.1⟩
                  · have h1 : Hid (one who a = none) := (rn_one_prom (who := who) hh hfn.out hfn2.out hs0).trans (prom_no HS.out hnz.out (by rw [HIS.out, HSN.out, HY.out, HCN.out]; rintro ⟨z1, z2, z3⟩; exact i3 z3))
                    subst i1 i2
                    rename_i K7 a7
                    have A7 : Hid _ := a7
                    clear a7
                    refine q_region (C := InL bb w g who a (.slice qa a.n.queue.length qc) sd p S pc D) (by kernel_rfl) (by kernel_rfl) hL5.drew ?_
                    repeat (first
                      | (refine q_skip (by rfl) ?_; simp only [Act.put, List.setIfInBounds_toArray, List.set_cons_zero, List.set_cons_succ])
                      | (refine q_load (by rfl) 43 _ rfl p (18 + a.n.round * 4) (by first | rfl | simp) (vcells (S.wi a.n.round)) _ hwr Tryz.underlying43 rfl hiv ?_; simp only [Act.put, List.setIfInBounds_toArray, List.set_cons_zero, List.set_cons_succ])
                      | (refine q_run_ex (by rfl) ?_
                         apply Exists.intro
                         refine ⟨fun w0 hC => ?_, ?_⟩
                         · obtain ⟨c0, c1, c2, c3, c4, c5, c6, c7, c8⟩ := hC.1.1.blk.tnums; obtain ⟨d0, d1, d2⟩ := hec _ w0 hC; have es := hes w0 hC; clear hC; go_simp; rfl
                         simp only [Act.put, List.setIfInBounds_toArray, List.set_cons_zero, List.set_cons_succ])
                      | (refine q_call_ex (by rfl) ?_
                         apply Exists.intro
                         apply Exists.intro
                         apply Exists.intro
                         refine ⟨fun w0 hC => ?_, fun w0 hC => ?_, ?_⟩
                         · clear hC; go_simp; exact ⟨rfl, rfl⟩
                         · first | exact hsaid w0 hC
                         simp only [Act.put, List.setIfInBounds_toArray, List.set_cons_zero, List.set_cons_succ]))
                    refine q_nil ?_
                    intro w6 hC6
                    refine A7.out _ _ ?_
                    go_wp2
                    go_ret
                    exact Or.inl ⟨h1.out, rfl, _, sd, hC6.1⟩
                  · have hprm : S.is a.n.round = true ∧ a.n.seen a.n.round = false ∧ 3 ≤ cntV (S.wi a.n.round) (S.val a.n.round) := by rw [HIS.out, HSN.out, HY.out, HCN.out]; exact ⟨i1, i2, i3⟩
                    have h1 : Hid (one who a = some (tell who ⟨{ seenN a.n y with bound := y, boundIn := a.n.round, step := 2 }, a.words⟩ 3 y 0)) := show _ = _ by have h := (rn_one_prom (who := who) hh hfn.out hfn2.out hs0).trans (prom_say HS.out hnz.out hprm hs1); rw [HY.out] at h; exact h
                    clear hprm
                    subst i1 i2
                    rename_i K7 a7
                    have A7 : Hid _ := a7
                    clear a7
                    refine q_region (C := InL bb w g who a (.slice qa a.n.queue.length qc) sd p S pc D) (by kernel_rfl) (by kernel_rfl) hL5.drew ?_
                    repeat (first
                      | (refine q_skip (by rfl) ?_; simp only [Act.put, List.setIfInBounds_toArray, List.set_cons_zero, List.set_cons_succ])
                      | (refine q_load (by rfl) 43 _ rfl p (18 + a.n.round * 4) (by first | rfl | simp) (vcells (S.wi a.n.round)) _ hwr Tryz.underlying43 rfl hiv ?_; simp only [Act.put, List.setIfInBounds_toArray, List.set_cons_zero, List.set_cons_succ])
                      | (refine q_run_ex (by rfl) ?_
                         apply Exists.intro
                         refine ⟨fun w0 hC => ?_, ?_⟩
                         · obtain ⟨c0, c1, c2, c3, c4, c5, c6, c7, c8⟩ := hC.1.1.blk.tnums; obtain ⟨d0, d1, d2⟩ := hec _ w0 hC; have es := hes w0 hC; clear hC; go_simp; rfl
                         simp only [Act.put, List.setIfInBounds_toArray, List.set_cons_zero, List.set_cons_succ])
                      | (refine q_call_ex (by rfl) ?_
                         apply Exists.intro
                         apply Exists.intro
                         apply Exists.intro
                         refine ⟨fun w0 hC => ?_, fun w0 hC => ?_, ?_⟩
                         · clear hC; go_simp; exact ⟨rfl, rfl⟩
                         · first | exact hsaid w0 hC
                         simp only [Act.put, List.setIfInBounds_toArray, List.set_cons_zero, List.set_cons_succ]))
                    refine q_nil ?_
                    intro w6 hC6
                    refine A7.out _ _ ?_
                    clear A7
                    go_upto_region 47 with fail
                    rename_i K6 a6
                    have A6 : Hid _ := a6
                    clear a6
                    refine held_region (InL bb w g who a (.slice qa a.n.queue.length qc) sd p S pc D) [10] [(0, 0), (1, 0), (2, 0), (3, 0), (4, 0), (5, 1), (6, 0), (7, 0), (8, 0), (9, 0), (10, 2)] (by kernel_rfl) (by kernel_rfl) (by kernel_rfl) rfl (fun _ _ d _ _ h => by cases d <;> exact h) hC6.drew ?_
                    repeat (first
                      | (refine ord_run0_ex rfl (by rfl) ?_
                         apply Exists.intro
                         refine ⟨fun w0 => ?_, ?_⟩
                         · go_simp; first | rfl | (rw [if_pos hhi]) | (rw [if_pos hri])
                         simp only [Act.put, List.setIfInBounds_toArray, List.set_cons_zero, List.set_cons_succ])
                      | (refine ord_run1_ex rfl (by rfl) ?_
                         apply Exists.intro
                         refine ⟨fun w0 hC => ?_, ?_⟩
                         · obtain ⟨c0, c1, c2, c3, c4, c5, c6, c7, c8⟩ := hC.1.1.blk.tnums; clear hC; go_simp; rfl
                         simp only [Act.put, List.setIfInBounds_toArray, List.set_cons_zero, List.set_cons_succ]))
                    have hC7 := hC6.drew
                    clear hC6
                    generalize w6.drew = W7 at hC7 ⊢
                    have cs := hes _ hC7
                    have fs := hC7.1.1.blk.free (7 + a.n.round)
                    refine ord_do rfl ?_
                    go_wp2_with fail
                    refine ⟨fun hc => absurd hc (by decide), ?_⟩
                    have hC8 : InL bb w g who ⟨{ a.n with seen := fun q => if q = a.n.round then true else a.n.seen q }, a.words⟩ (.slice qa a.n.queue.length qc) sd p S pc D (W7.setCell ⟨g, 7 + a.n.round, none⟩ (.bool true)) := hC7.put hpp hpcg { a.n with seen := fun q => if q = a.n.round then true else a.n.seen q } (by omega) (set_seen _ _ hrd _) rfl
                    clear cs fs hC7
                    generalize W7.setCell ⟨g, 7 + a.n.round, none⟩ (.bool true) = W8 at hC8 ⊢
                    show wpOrd _ _ _ _ _ [] _ _ _
                    unfold wpOrd
                    refine A6.out _ _ ?_
                    clear A6
                    go_upto_region 48 with fail
                    rename_i K6 a6
                    have A6 : Hid _ := a6
                    clear a6
                    refine held_region (InL bb w g who ⟨{ a.n with seen := fun q => if q = a.n.round then true else a.n.seen q }, a.words⟩ (.slice qa a.n.queue.length qc) sd p S pc D) [12, 16] [(0, 0), (1, 0), (2, 0), (3, 1), (4, 0), (5, 0), (6, 0), (7, 0), (8, 1), (9, 0), (10, 0), (11, 0), (12, 2), (13, 0), (14, 0), (15, 0), (16, 2)] (by kernel_rfl) (by kernel_rfl) (by kernel_rfl) rfl (fun _ _ d _ _ h => by cases d <;> exact h) hC8.drew ?_
                    repeat (first
                      | (refine ord_run0_ex rfl (by rfl) ?_
                         apply Exists.intro
                         refine ⟨fun w0 => ?_, ?_⟩
                         · go_simp; first | rfl | (rw [if_pos hhi]) | (rw [if_pos hri])
                         simp only [Act.put, List.setIfInBounds_toArray, List.set_cons_zero, List.set_cons_succ])
                      | (refine ord_run1_ex rfl (by rfl) ?_
                         apply Exists.intro
                         refine ⟨fun w0 hC => ?_, ?_⟩
                         · obtain ⟨c0, c1, c2, c3, c4, c5, c6, c7, c8⟩ := hC.1.1.blk.tnums; obtain ⟨d0, d1, d2⟩ := hec _ w0 hC; clear hC; go_simp; rfl
                         simp only [Act.put, List.setIfInBounds_toArray, List.set_cons_zero, List.set_cons_succ]))
                    have hC9 := hC8.drew
                    clear hC8
                    generalize W8.drew = W9 at hC9 ⊢
                    have cs := hC9.1.1.blk.tnums.2.2.2.2.2.1
                    have fs := hC9.1.1.blk.free 5
                    refine ord_do rfl ?_
                    go_wp2_with fail
                    refine ⟨fun hc => absurd hc (by decide), ?_⟩
                    have hC10 : InL bb w g who ⟨{ a.n with seen := fun q => if q = a.n.round then true else a.n.seen q, valid := y }, a.words⟩ (.slice qa a.n.queue.length qc) sd p S pc D (W9.setCell ⟨g, 5, none⟩ (.int .i64 y)) := hC9.put hpp hpcg { a.n with seen := fun q => if q = a.n.round then true else a.n.seen q, valid := y } (by omega) (set_valid _ _) rfl
                    clear cs fs hC9
                    generalize W9.setCell ⟨g, 5, none⟩ (.int .i64 y) = W10 at hC10 ⊢
                    try simp only [Act.put, List.setIfInBounds_toArray, List.set_cons_zero, List.set_cons_succ]
                    repeat (first
                      | (refine ord_run0_ex rfl (by rfl) ?_
                         apply Exists.intro
                         refine ⟨fun w0 => ?_, ?_⟩
                         · go_simp; first | rfl | (rw [if_pos hhi]) | (rw [if_pos hri])
                         simp only [Act.put, List.setIfInBounds_toArray, List.set_cons_zero, List.set_cons_succ]))
                    have cs := hC10.1.1.blk.tnums.2.2.2.2.2.2.1
                    have fs := hC10.1.1.blk.free 6
                    refine ord_do rfl ?_
                    go_wp2_with fail
                    refine ⟨fun hc => absurd hc (by decide), ?_⟩
                    have hC11 : InL bb w g who ⟨seenN a.n y, a.words⟩ (.slice qa a.n.queue.length qc) sd p S pc D (W10.setCell ⟨g, 6, none⟩ (.int .i64 (a.n.round : Int))) := hC10.put hpp hpcg (seenN a.n y) (by omega) (set_validIn _ _) rfl
                    clear cs fs hC10
                    generalize W10.setCell ⟨g, 6, none⟩ (.int .i64 (a.n.round : Int)) = W11 at hC11 ⊢
                    show wpOrd _ _ _ _ _ [] _ _ _
                    unfold wpOrd
                    refine A6.out _ _ ?_
                    clear A6
                    obtain ⟨c0, c1, c2, c3, c4, c5, c6, c7, c8⟩ := hC11.1.1.blk.tnums
                    simp only [seenN] at c2
                    go_upto_region 50 with fail
                    clear c0 c1 c2 c3 c4 c5 c6 c7 c8
                    rename_i K6 a6
                    have A6 : Hid _ := a6
                    clear a6
                    refine held_region (InL bb w g who ⟨seenN a.n y, a.words⟩ (.slice qa a.n.queue.length qc) sd p S pc D) [13, 17, 21] [(0, 0), (1, 0), (2, 0), (3, 0), (4, 1), (5, 0), (6, 0), (7, 0), (8, 0), (9, 1), (10, 0), (11, 0), (12, 0), (13, 2), (14, 0), (15, 0), (16, 0), (17, 2), (18, 0), (19, 0), (20, 0), (21, 2)] (by kernel_rfl) (by kernel_rfl) (by kernel_rfl) rfl (fun _ _ d _ _ h => by cases d <;> exact h) hC11.drew ?_
                    repeat (first
                      | (refine ord_run0_ex rfl (by rfl) ?_
                         apply Exists.intro
                         refine ⟨fun w0 => ?_, ?_⟩
                         · go_simp; first | rfl | (rw [if_pos hhi]) | (rw [if_pos hri])
                         simp only [Act.put, List.setIfInBounds_toArray, List.set_cons_zero, List.set_cons_succ])
                      | (refine ord_run1_ex rfl (by rfl) ?_
                         apply Exists.intro
                         refine ⟨fun w0 hC => ?_, ?_⟩
                         · obtain ⟨c0, c1, c2, c3, c4, c5, c6, c7, c8⟩ := hC.1.1.blk.tnums; obtain ⟨d0, d1, d2⟩ := hec _ w0 hC; simp only [seenN] at c1; clear hC; go_simp; rfl
                         simp only [Act.put, List.setIfInBounds_toArray, List.set_cons_zero, List.set_cons_succ]))
                    have hC12 := hC11.drew
                    clear hC11
                    generalize W11.drew = W12 at hC12 ⊢
                    have cs := hC12.1.1.blk.tnums.2.2.2.1
                    have fs := hC12.1.1.blk.free 3
                    refine ord_do rfl ?_
                    go_wp2_with fail
                    refine ⟨fun hc => absurd hc (by decide), ?_⟩
                    have hC13 : InL bb w g who ⟨{ seenN a.n y with bound := y }, a.words⟩ (.slice qa a.n.queue.length qc) sd p S pc D (W12.setCell ⟨g, 3, none⟩ (.int .i64 y)) := hC12.put hpp hpcg { seenN a.n y with bound := y } (by omega) (set_bound _ _) rfl
                    clear cs fs hC12
                    generalize W12.setCell ⟨g, 3, none⟩ (.int .i64 y) = W13 at hC13 ⊢
                    try simp only [Act.put, List.setIfInBounds_toArray, List.set_cons_zero, List.set_cons_succ]
                    repeat (first
                      | (refine ord_run0_ex rfl (by rfl) ?_
                         apply Exists.intro
                         refine ⟨fun w0 => ?_, ?_⟩
                         · go_simp; first | rfl | (rw [if_pos hhi]) | (rw [if_pos hri])
                         simp only [Act.put, List.setIfInBounds_toArray, List.set_cons_zero, List.set_cons_succ]))
                    have cs := hC13.1.1.blk.tnums.2.2.2.2.1
                    have fs := hC13.1.1.blk.free 4
                    refine ord_do rfl ?_
                    go_wp2_with fail
                    refine ⟨fun hc => absurd hc (by decide), ?_⟩
                    have hC14 : InL bb w g who ⟨{ seenN a.n y with bound := y, boundIn := a.n.round }, a.words⟩ (.slice qa a.n.queue.length qc) sd p S pc D (W13.setCell ⟨g, 4, none⟩ (.int .i64 (a.n.round : Int))) := hC13.put hpp hpcg { seenN a.n y with bound := y, boundIn := a.n.round } (by omega) (set_boundIn _ _) rfl
                    clear cs fs hC13
                    generalize W13.setCell ⟨g, 4, none⟩ (.int .i64 (a.n.round : Int)) = W14 at hC14 ⊢
                    try simp only [Act.put, List.setIfInBounds_toArray, List.set_cons_zero, List.set_cons_succ]
                    repeat (first
                      | (refine ord_run0_ex rfl (by rfl) ?_
                         apply Exists.intro
                         refine ⟨fun w0 => ?_, ?_⟩
                         · go_simp; first | rfl | (rw [if_pos hhi]) | (rw [if_pos hri])
                         simp only [Act.put, List.setIfInBounds_toArray, List.set_cons_zero, List.set_cons_succ]))
                    have cs := hC14.1.1.blk.tnums.2.2.1
                    have fs := hC14.1.1.blk.free 2
                    refine ord_do rfl ?_
                    go_wp2_with fail
                    refine ⟨fun hc => absurd hc (by decide), ?_⟩
                    have hC15 : InL bb w g who ⟨{ seenN a.n y with bound := y, boundIn := a.n.round, step := 2 }, a.words⟩ (.slice qa a.n.queue.length qc) sd p S pc D (W14.setCell ⟨g, 2, none⟩ (.int .i64 2)) := hC14.put hpp hpcg { seenN a.n y with bound := y, boundIn := a.n.round, step := 2 } (by omega) (set_step _ _) rfl
                    clear cs fs hC14
                    generalize W14.setCell ⟨g, 2, none⟩ (.int .i64 2) = W15 at hC15 ⊢
                    show wpOrd _ _ _ _ _ [] _ _ _
                    unfold wpOrd
                    refine A6.out _ _ ?_
                    clear A6
                    obtain ⟨d0, d1, d2⟩ := hec _ W15 hC15
                    go_wp2_with (first | (go_at_call 50; refine (rtell_any hC15.1.1 hh hlen 3 y 0).mono ?_; rintro e w16 ⟨rfl, sd', H16, L16⟩))
                    go_ret
                    exact Or.inr ⟨_, h1.out, rfl, _, sd', H16, bel_seq hC15.1.2 L16⟩
              · have hsb1 : ((a.n.step : Int) == 1) = false := by simp; omega
                have hnz : Hid (¬ (a.n.step = 1 ∧ 3 ≤ cntV (S.wi a.n.round) 0)) := fun h => hs1 h.1
                go_upto_region 46 with fail
                have hL5 := hL4
                clear hL4 c0 c1 c2 c3 c4 c5 c6 c7 c8 hw4
                have hsaid : ∀ W, InL bb w g who a (.slice qa a.n.queue.length qc) sd p S pc D W → Calls Tryz.prog 90 #[.agg (vcells (S.wi a.n.round)), .int .i64 y] W fun e w' => e = .returned (.int .i64 (cntV (S.wi a.n.round) y)) ∧ InL bb w g who a (.slice qa a.n.queue.length qc) sd p S pc D w' := fun W hC => (said_any _ (HVw.out a.n.round hrd) _ W).mono fun e w' ⟨he, hb⟩ => ⟨he, hC.keep hb⟩
                obtain ⟨cn, hcn⟩ : ∃ cn, cntV (S.wi a.n.round) y = cn := ⟨_, rfl⟩
                have HCN : Hid (cntV (S.wi a.n.round) y = cn) := hcn
                rw [hcn] at hsaid
                clear hcn
                obtain ⟨sn, hsn⟩ : ∃ sn, a.n.seen a.n.round = sn := ⟨_, rfl⟩
                have HSN : Hid (a.n.seen a.n.round = sn) := hsn
                have hes : ∀ W, InL bb w g who a (.slice qa a.n.queue.length qc) sd p S pc D W → W.cell? ⟨g, 7 + a.n.round, none⟩ = some (.bool sn) := fun W hC => by rw [hC.1.1.blk.cell, tcells_seen _ _ _ _ hrd]; show some (Value.bool (a.n.seen a.n.round)) = _; rw [hsn]
                clear hsn
                have hway : is = false ∨ (is = true ∧ sn = true) ∨ (is = true ∧ sn = false ∧ ¬ (3 ≤ cn)) ∨ (is = true ∧ sn = false ∧ 3 ≤ cn) := by
                  cases is
                  · exact Or.inl rfl
                  · cases sn
                    · by_cases h : 3 ≤ cn
                      · exact Or.inr (Or.inr (Or.inr ⟨rfl, rfl, h⟩))
                      · exact Or.inr (Or.inr (Or.inl ⟨rfl, rfl, h⟩))
                    · exact Or.inr (Or.inl ⟨rfl, rfl⟩)
                rcases hway with i1 | ⟨i1, i2⟩ | ⟨i1, i2, i3⟩ | ⟨i1, i2, i3⟩
                · have h1 : Hid (one who a = none) := (rn_one_prom (who := who) hh hfn.out hfn2.out hs0).trans (prom_no HS.out hnz.out (by rw [HIS.out, HSN.out, HY.out, HCN.out]; rintro ⟨z1, z2, z3⟩; rw [i1] at z1; cases z1))
                  subst i1
                  rename_i K7 a7
                  have A7 : Hid _ := a7
                  clear a7
                  refine q_region (C := InL bb w g who a (.slice qa a.n.queue.length qc) sd p S pc D) (by kernel_rfl) (by kernel_rfl) hL5.drew ?_
                  repeat (first
                    | (refine q_skip (by rfl) ?_; simp only [Act.put, List.setIfInBounds_toArray, List.set_cons_zero, List.set_cons_succ])
                    | (refine q_load (by rfl) 43 _ rfl p (18 + a.n.round * 4) (by first | rfl | simp) (vcells (S.wi a.n.round)) _ hwr Tryz.underlying43 rfl hiv ?_; simp only [Act.put, List.setIfInBounds_toArray, List.set_cons_zero, List.set_cons_succ])
                    | (refine q_run_ex (by rfl) ?_
                       apply Exists.intro
                       refine ⟨fun w0 hC => ?_, ?_⟩
                       · obtain ⟨c0, c1, c2, c3, c4, c5, c6, c7, c8⟩ := hC.1.1.blk.tnums; obtain ⟨d0, d1, d2⟩ := hec _ w0 hC; have es := hes w0 hC; clear hC; go_simp; rfl
                       simp only [Act.put, List.setIfInBounds_toArray, List.set_cons_zero, List.set_cons_succ])
                    | (refine q_call_ex (by rfl) ?_
                       apply Exists.intro
                       apply Exists.intro
                       apply Exists.intro
                       refine ⟨fun w0 hC => ?_, fun w0 hC => ?_, ?_⟩
                       · clear hC; go_simp; exact ⟨rfl, rfl⟩
                       · first | exact hsaid w0 hC
                       simp only [Act.put, List.setIfInBounds_toArray, List.set_cons_zero, List.set_cons_succ]))
                  refine q_nil ?_
                  intro w6 hC6
                  refine A7.out _ _ ?_
                  go_wp2
                  go_ret
                  exact Or.inl ⟨h1.out, rfl, _, sd, hC6.1⟩
                · have h1 : Hid (one who a = none) := (rn_one_prom (who := who) hh hfn.out hfn2.out hs0).trans (prom_no HS.out hnz.out (by rw [HIS.out, HSN.out, HY.out, HCN.out]; rintro ⟨z1, z2, z3⟩; rw [i2] at z2; cases z2))
                  subst i1 i2
                  rename_i K7 a7
                  have A7 : Hid _ := a7
                  clear a7
                  refine q_region (C := InL bb w g who a (.slice qa a.n.queue.length qc) sd p S pc D) (by kernel_rfl) (by kernel_rfl) hL5.drew ?_
                  repeat (first
                    | (refine q_skip (by rfl) ?_; simp only [Act.put, List.setIfInBounds_toArray, List.set_cons_zero, List.set_cons_succ])
                    | (refine q_load (by rfl) 43 _ rfl p (18 + a.n.round * 4) (by first | rfl | simp) (vcells (S.wi a.n.round)) _ hwr Tryz.underlying43 rfl hiv ?_; simp only [Act.put, List.setIfInBounds_toArray, List.set_cons_zero, List.set_cons_succ])
                    | (refine q_run_ex (by rfl) ?_
                       apply Exists.intro
                       refine ⟨fun w0 hC => ?_, ?_⟩
                       · obtain ⟨c0, c1, c2, c3, c4, c5, c6, c7, c8⟩ := hC.1.1.blk.tnums; obtain ⟨d0, d1, d2⟩ := hec _ w0 hC; have es := hes w0 hC; clear hC; go_simp; rfl
                       simp only [Act.put, List.setIfInBounds_toArray, List.set_cons_zero, List.set_cons_succ])
                    | (refine q_call_ex (by rfl) ?_
                       apply Exists.intro
                       apply Exists.intro
                       apply Exists.intro
                       refine ⟨fun w0 hC => ?_, fun w0 hC => ?_, ?_⟩
                       · clear hC; go_simp; exact ⟨rfl, rfl⟩
                       · first | exact hsaid w0 hC
                       simp only [Act.put, List.setIfInBounds_toArray, List.set_cons_zero, List.set_cons_succ]))
                  refine q_nil ?_
                  intro w6 hC6
                  refine A7.out _ _ ?_
                  go_wp2
                  go_ret
                  exact Or.inl ⟨h1.out, rfl, _, sd, hC6.1⟩
                · have h1 : Hid (one who a = none) := (rn_one_prom (who := who) hh hfn.out hfn2.out hs0).trans (prom_no HS.out hnz.out (by rw [HIS.out, HSN.out, HY.out, HCN.out]; rintro ⟨z1, z2, z3⟩; exact i3 z3))
                  subst i1 i2
                  rename_i K7 a7
                  have A7 : Hid _ := a7
                  clear a7
                  refine q_region (C := InL bb w g who a (.slice qa a.n.queue.length qc) sd p S pc D) (by kernel_rfl) (by kernel_rfl) hL5.drew ?_
                  repeat (first
                    | (refine q_skip (by rfl) ?_; simp only [Act.put, List.setIfInBounds_toArray, List.set_cons_zero, List.set_cons_succ])
                    | (refine q_load (by rfl) 43 _ rfl p (18 + a.n.round * 4) (by first | rfl | simp) (vcells (S.wi a.n.round)) _ hwr Tryz.underlying43 rfl hiv ?_; simp only [Act.put, List.setIfInBounds_toArray, List.set_cons_zero, List.set_cons_succ])
                    | (refine q_run_ex (by rfl) ?_
                       apply Exists.intro
                       refine ⟨fun w0 hC => ?_, ?_⟩
                       · obtain ⟨c0, c1, c2, c3, c4, c5, c6, c7, c8⟩ := hC.1.1.blk.tnums; obtain ⟨d0, d1, d2⟩ := hec _ w0 hC; have es := hes w0 hC; clear hC; go_simp; rfl
                       simp only [Act.put, List.setIfInBounds_toArray, List.set_cons_zero, List.set_cons_succ])
                    | (refine q_call_ex (by rfl) ?_
                       apply Exists.intro
                       apply Exists.intro
                       apply Exists.intro
                       refine ⟨fun w0 hC => ?_, fun w0 hC => ?_, ?_⟩
                       · clear hC; go_simp; exact ⟨rfl, rfl⟩
                       · first | exact hsaid w0 hC
                       simp only [Act.put, List.setIfInBounds_toArray, List.set_cons_zero, List.set_cons_succ]))
                  refine q_nil ?_
                  intro w6 hC6
                  refine A7.out _ _ ?_
                  go_wp2
                  go_ret
                  exact Or.inl ⟨h1.out, rfl, _, sd, hC6.1⟩
                · have hprm : S.is a.n.round = true ∧ a.n.seen a.n.round = false ∧ 3 ≤ cntV (S.wi a.n.round) (S.val a.n.round) := by rw [HIS.out, HSN.out, HY.out, HCN.out]; exact ⟨i1, i2, i3⟩
                  have h1 : Hid (one who a = some ⟨seenN a.n y, a.words⟩) := show _ = _ by have h := (rn_one_prom (who := who) hh hfn.out hfn2.out hs0).trans (prom_mind HS.out hnz.out hprm hs1); rw [HY.out] at h; exact h
                  clear hprm
                  subst i1 i2
                  rename_i K7 a7
                  have A7 : Hid _ := a7
                  clear a7
                  refine q_region (C := InL bb w g who a (.slice qa a.n.queue.length qc) sd p S pc D) (by kernel_rfl) (by kernel_rfl) hL5.drew ?_
                  repeat (first
                    | (refine q_skip (by rfl) ?_; simp only [Act.put, List.setIfInBounds_toArray, List.set_cons_zero, List.set_cons_succ])
                    | (refine q_load (by rfl) 43 _ rfl p (18 + a.n.round * 4) (by first | rfl | simp) (vcells (S.wi a.n.round)) _ hwr Tryz.underlying43 rfl hiv ?_; simp only [Act.put, List.setIfInBounds_toArray, List.set_cons_zero, List.set_cons_succ])
                    | (refine q_run_ex (by rfl) ?_
                       apply Exists.intro
                       refine ⟨fun w0 hC => ?_, ?_⟩
                       · obtain ⟨c0, c1, c2, c3, c4, c5, c6, c7, c8⟩ := hC.1.1.blk.tnums; obtain ⟨d0, d1, d2⟩ := hec _ w0 hC; have es := hes w0 hC; clear hC; go_simp; rfl
                       simp only [Act.put, List.setIfInBounds_toArray, List.set_cons_zero, List.set_cons_succ])
                    | (refine q_call_ex (by rfl) ?_
                       apply Exists.intro
                       apply Exists.intro
                       apply Exists.intro
                       refine ⟨fun w0 hC => ?_, fun w0 hC => ?_, ?_⟩
                       · clear hC; go_simp; exact ⟨rfl, rfl⟩
                       · first | exact hsaid w0 hC
                       simp only [Act.put, List.setIfInBounds_toArray, List.set_cons_zero, List.set_cons_succ]))
                  refine q_nil ?_
                  intro w6 hC6
                  refine A7.out _ _ ?_
                  clear A7
                  go_upto_region 47 with fail
                  rename_i K6 a6
                  have A6 : Hid _ := a6
                  clear a6
                  refine held_region (InL bb w g who a (.slice qa a.n.queue.length qc) sd p S pc D) [10] [(0, 0), (1, 0), (2, 0), (3, 0), (4, 0), (5, 1), (6, 0), (7, 0), (8, 0), (9, 0), (10, 2)] (by kernel_rfl) (by kernel_rfl) (by kernel_rfl) rfl (fun _ _ d _ _ h => by cases d <;> exact h) hC6.drew ?_
                  repeat (first
                    | (refine ord_run0_ex rfl (by rfl) ?_
                       apply Exists.intro
                       refine ⟨fun w0 => ?_, ?_⟩
                       · go_simp; first | rfl | (rw [if_pos hhi]) | (rw [if_pos hri])
                       simp only [Act.put, List.setIfInBounds_toArray, List.set_cons_zero, List.set_cons_succ])
                    | (refine ord_run1_ex rfl (by rfl) ?_
                       apply Exists.intro
                       refine ⟨fun w0 hC => ?_, ?_⟩
                       · obtain ⟨c0, c1, c2, c3, c4, c5, c6, c7, c8⟩ := hC.1.1.blk.tnums; clear hC; go_simp; rfl
                       simp only [Act.put, List.setIfInBounds_toArray, List.set_cons_zero, List.set_cons_succ]))
                  have hC7 := hC6.drew
                  clear hC6
                  generalize w6.drew = W7 at hC7 ⊢
                  have cs := hes _ hC7
                  have fs := hC7.1.1.blk.free (7 + a.n.round)
                  refine ord_do rfl ?_
                  go_wp2_with fail
                  refine ⟨fun hc => absurd hc (by decide), ?_⟩
                  have hC8 : InL bb w g who ⟨{ a.n with seen := fun q => if q = a.n.round then true else a.n.seen q }, a.words⟩ (.slice qa a.n.queue.length qc) sd p S pc D (W7.setCell ⟨g, 7 + a.n.round, none⟩ (.bool true)) := hC7.put hpp hpcg { a.n with seen := fun q => if q = a.n.round then true else a.n.seen q } (by omega) (set_seen _ _ hrd _) rfl
                  clear cs fs hC7
                  generalize W7.setCell ⟨g, 7 + a.n.round, none⟩ (.bool true) = W8 at hC8 ⊢
                  show wpOrd _ _ _ _ _ [] _ _ _
                  unfold wpOrd
                  refine A6.out _ _ ?_
                  clear A6
                  go_upto_region 48 with fail
                  rename_i K6 a6
                  have A6 : Hid _ := a6
                  clear a6
                  refine held_region (InL bb w g who ⟨{ a.n with seen := fun q => if q = a.n.round then true else a.n.seen q }, a.words⟩ (.slice qa a.n.queue.length qc) sd p S pc D) [12, 16] [(0, 0), (1, 0), (2, 0), (3, 1), (4, 0), (5, 0), (6, 0), (7, 0), (8, 1), (9, 0), (10, 0), (11, 0), (12, 2), (13, 0), (14, 0), (15, 0), (16, 2)] (by kernel_rfl) (by kernel_rfl) (by kernel_rfl) rfl (fun _ _ d _ _ h => by cases d <;> exact h) hC8.drew ?_
                  repeat (first
                    | (refine ord_run0_ex rfl (by rfl) ?_
                       apply Exists.intro
                       refine ⟨fun w0 => ?_, ?_⟩
                       · go_simp; first | rfl | (rw [if_pos hhi]) | (rw [if_pos hri])
                       simp only [Act.put, List.setIfInBounds_toArray, List.set_cons_zero, List.set_cons_succ])
                    | (refine ord_run1_ex rfl (by rfl) ?_
                       apply Exists.intro
                       refine ⟨fun w0 hC => ?_, ?_⟩
                       · obtain ⟨c0, c1, c2, c3, c4, c5, c6, c7, c8⟩ := hC.1.1.blk.tnums; obtain ⟨d0, d1, d2⟩ := hec _ w0 hC; clear hC; go_simp; rfl
                       simp only [Act.put, List.setIfInBounds_toArray, List.set_cons_zero, List.set_cons_succ]))
                  have hC9 := hC8.drew
                  clear hC8
                  generalize W8.drew = W9 at hC9 ⊢
                  have cs := hC9.1.1.blk.tnums.2.2.2.2.2.1
                  have fs := hC9.1.1.blk.free 5
                  refine ord_do rfl ?_
                  go_wp2_with fail
                  refine ⟨fun hc => absurd hc (by decide), ?_⟩
                  have hC10 : InL bb w g who ⟨{ a.n with seen := fun q => if q = a.n.round then true else a.n.seen q, valid := y }, a.words⟩ (.slice qa a.n.queue.length qc) sd p S pc D (W9.setCell ⟨g, 5, none⟩ (.int .i64 y)) := hC9.put hpp hpcg { a.n with seen := fun q => if q = a.n.round then true else a.n.seen q, valid := y } (by omega) (set_valid _ _) rfl
                  clear cs fs hC9
                  generalize W9.setCell ⟨g, 5, none⟩ (.int .i64 y) = W10 at hC10 ⊢
                  try simp only [Act.put, List.setIfInBounds_toArray, List.set_cons_zero, List.set_cons_succ]
                  repeat (first
                    | (refine ord_run0_ex rfl (by rfl) ?_
                       apply Exists.intro
                       refine ⟨fun w0 => ?_, ?_⟩
                       · go_simp; first | rfl | (rw [if_pos hhi]) | (rw [if_pos hri])
                       simp only [Act.put, List.setIfInBounds_toArray, List.set_cons_zero, List.set_cons_succ]))
                  have cs := hC10.1.1.blk.tnums.2.2.2.2.2.2.1
                  have fs := hC10.1.1.blk.free 6
                  refine ord_do rfl ?_
                  go_wp2_with fail
                  refine ⟨fun hc => absurd hc (by decide), ?_⟩
                  have hC11 : InL bb w g who ⟨seenN a.n y, a.words⟩ (.slice qa a.n.queue.length qc) sd p S pc D (W10.setCell ⟨g, 6, none⟩ (.int .i64 (a.n.round : Int))) := hC10.put hpp hpcg (seenN a.n y) (by omega) (set_validIn _ _) rfl
                  clear cs fs hC10
                  generalize W10.setCell ⟨g, 6, none⟩ (.int .i64 (a.n.round : Int)) = W11 at hC11 ⊢
                  show wpOrd _ _ _ _ _ [] _ _ _
                  unfold wpOrd
                  refine A6.out _ _ ?_
                  clear A6
                  obtain ⟨c0, c1, c2, c3, c4, c5, c6, c7, c8⟩ := hC11.1.1.blk.tnums
                  simp only [seenN] at c2
                  go_wp2
                  go_ret
                  exact Or.inr ⟨_, h1.out, rfl, _, sd, hC11.1⟩
end Go.Proofs.YtmmgaonlmpajbacGreat
