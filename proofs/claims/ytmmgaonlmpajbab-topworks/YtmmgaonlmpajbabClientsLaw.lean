/-
  The statement TopClients.
-/
import Derived.Test.YtmmgaonlmpajbabAgreeLaw
import Derived.Test.YtmmgaonlmpajbabTakesLaw
namespace Go.Proofs.Ytmmgaonlmpajbab
open Go.RowKit

theorem doC_acts (c : Cw) (a : Ac) : (doC c a).1.acts ≤ c.acts + 1 := by
  have h1 : c.more.acts = c.acts + 1 := rfl
  have hh : ∀ (c : Cw) i v, (hearC c i v).1.acts = c.acts := fun c i v => by unfold hearC; split <;> rfl
  unfold doC
  split
  · exact Nat.le_succ _
  · split
    · unfold subC
      split
      · split <;> exact Nat.le_refl _
      · exact Nat.le_refl _
    · split
      · unfold deliverC
        split
        · split
          · rw [hh]; exact Nat.le_refl _
          · exact Nat.le_refl _
        · exact Nat.le_refl _
      · split
        · unfold dropC
          split <;> exact Nat.le_refl _
        · split
          · unfold timeC
            split <;> exact Nat.le_refl _
          · split
            · unfold lieC
              split
              · split
                · split
                  · rw [hh]; exact Nat.le_refl _
                  · exact Nat.le_refl _
                · exact Nat.le_refl _
              · exact Nat.le_refl _
            · split
              · exact Nat.le_refl _
              · exact Nat.le_refl _
theorem playC_acts (liar : Int) (l : List Ac) : ∀ k, (playC liar l k).acts ≤ k
  | 0 => Nat.le_refl _
  | k + 1 => by
    cases h : l[k]? with
    | none =>
      have e : playC liar l (k + 1) = playC liar l k := by
        unfold playC
        rw [List.take_add_one, h]; simp
      rw [e]; have := playC_acts liar l k; omega
    | some a => rw [playC_succ h]; have := doC_acts (playC liar l k) a; have := playC_acts liar l k; omega
theorem most_le (l : List Ac) : most l ≤ 300 := Nat.min_le_right _ _
theorem playC_liar (liar : Int) (l : List Ac) (k : Nat) : (playC liar l k).liar = liar := by
  have hd : ∀ (c : Cw) a, (doC c a).1.liar = c.liar := fun c a => by
    have hh : ∀ (c : Cw) i v, (hearC c i v).1.liar = c.liar := fun c i v => by unfold hearC; split <;> rfl
    unfold doC
    split
    · rfl
    · split
      · unfold subC
        split
        · split <;> rfl
        · rfl
      · split
        · unfold deliverC
          split
          · split
            · rw [hh]; rfl
            · rfl
          · rfl
        · split
          · unfold dropC
            split <;> rfl
          · split
            · unfold timeC
              split <;> rfl
            · split
              · unfold lieC
                split
                · split
                  · split
                    · rw [hh]; rfl
                    · rfl
                  · rfl
                · rfl
              · split <;> rfl
  induction k with
  | zero => rfl
  | succ k ih =>
    cases h : l[k]? with
    | none =>
      have e : playC liar l (k + 1) = playC liar l k := by
        unfold playC
        rw [List.take_add_one, h]; simp
      rw [e]; exact ih
    | some a => rw [playC_succ h, hd]; exact ih

/-- A client's act. -/
def readAct (n : Int) (tell : Nat → Int) : Ac := ⟨6, 0, n, 0, ⟨0, 0, 0, 0, 0, 0⟩, tell⟩
theorem doC_read {c : Cw} (h : c.acts ≠ 600) (n : Int) (tell : Nat → Int) : doC c (readAct n tell) = (c.more, rcells 0 0 (takeV (toldC c (n != 0) tell))) := by
  unfold doC
  rw [if_neg h]
  rfl
theorem takeV_two {l : Nat → Nat → Int} {h : Nat} (hne : takeV l h ≠ 0) : ∃ x y, y < x ∧ x < 4 ∧ l x h = takeV l h ∧ l y h = takeV l h := by
  have e : takeV l h = toldV (fun i => l i h) := by
    unfold takeV at hne ⊢
    split
    · rfl
    · rename_i c; rw [if_neg c] at hne; exact absurd rfl hne
  rw [e] at hne ⊢
  have key : 2 ≤ tellers (fun i => l i h) (toldV fun i => l i h) 4 := by
    unfold toldV at hne ⊢
    split
    · rename_i k hk
      have := List.find?_some hk
      simpa using this
    · rename_i hk
      rw [hk] at hne; exact absurd rfl hne
  exact pair_of_two key
theorem takeV_true {c : Cw} {lies : Bool} {tell : Nat → Int} {h : Nat} (hne : takeV (toldC c lies tell) h ≠ 0) : ∃ i : Nat, i < 4 ∧ (i : Int) ≠ c.liar ∧ (c.nd i).settled h = takeV (toldC c lies tell) h := by
  obtain ⟨x, y, h1, h2, h3, h4⟩ := takeV_two hne
  have key : ∀ z : Nat, (z : Int) ≠ c.liar → toldC c lies tell z h = (c.nd z).settled h := fun z hz => by
    unfold toldC; rw [if_neg (fun hh => hz hh.2.symm)]
  by_cases c1 : (x : Int) = c.liar
  · have c2 : (y : Int) ≠ c.liar := by omega
    exact ⟨y, by omega, c2, by rw [← key y c2]; exact h4⟩
  · exact ⟨x, h2, c1, by rw [← key x c1]; exact h3⟩

/-- Is a value settled at one of the first i nodes that are true? -/
def foundB (c : Cw) (liar v : Int) (h : Nat) : Nat → Bool
  | 0 => v == 0
  | i + 1 => foundB c liar v h i || (((i : Int) != liar) && ((c.nd i).settled h == v))
theorem foundB_of {c : Cw} {liar v : Int} {h : Nat} (hf : v = 0 ∨ ∃ i : Nat, i < 4 ∧ (i : Int) ≠ liar ∧ (c.nd i).settled h = v) : foundB c liar v h 4 = true := by
  have key : ∀ m i : Nat, i < m → (i : Int) ≠ liar → (c.nd i).settled h = v → foundB c liar v h m = true := by
    intro m
    induction m with
    | zero => intro i hi; omega
    | succ m ih =>
      intro i hi h1 h2
      by_cases e : i = m
      · subst e; simp [foundB, h1, h2]
      · simp [foundB, ih i (by omega) h1 h2]
  rcases hf with h0 | ⟨i, h1, h2, h3⟩
  · simp [foundB, h0]
  · exact key 4 i h1 h2 h3
theorem index_four (f : Nat → Int) (k : Nat) (h : k < 4) (W : World) : Sem.run Try.prog (Instr.index 26 (.agg (four f)) (.int .i64 (k : Int))) W = .ok (.int .i64 (f k)) W := by
  have hk : k = 0 ∨ k = 1 ∨ k = 2 ∨ k = 3 := by omega
  rcases hk with rfl | rfl | rfl | rfl
  · show _ = _; kernel_rfl
  · show _ = _; kernel_rfl
  · show _ = _; kernel_rfl
  · show _ = _; kernel_rfl
theorem build_readAct (n : Int) (tell : Nat → Int) (W : World) : Sem.run Try.prog (Instr.build 49 #[(0, .int .i64 6), (2, .int .i64 n), (5, .agg (four tell))]) W = .ok (.agg (acArr (readAct n tell))) W := by show _ = _; kernel_rfl
theorem rep_settled {W : World} {b : Nat} {code n : Int} {f : Nat → Int} {t : TypeId} (B : Blk W b (rcells code n f) t) : W.rangeAt b 2 (four f).toList := by
  intro j u hu
  have hj : j < 4 := by
    by_cases hlt : j < 4
    · exact hlt
    · rw [List.getElem?_eq_none (by show (four f).toList.length ≤ j; simp [four]; omega)] at hu; cases hu
  rw [B.cell]
  have : j = 0 ∨ j = 1 ∨ j = 2 ∨ j = 3 := by omega
  rcases this with rfl | rfl | rfl | rfl <;> simpa [rcells, four] using hu

set_option maxRecDepth 100000 in
set_option maxHeartbeats 8000000 in
theorem topClients_any (n : Int) (l : List Ac) (s : Value) (tell : Nat → Int) (w : World) (hs : ActsAt w s l) (hlen : l.length < 4611686018427387904) :
    Calls Try.prog 9 #[.int .i64 n, s, .agg (four tell)] w fun e w' => e = .returned (.bool true) ∧ Below w.heap.size w w' := by
  have hl := liesV_bd n
  have G := playC_good hl l (most l)
  have hplay := fun W (hW : ActsAt W s l) => play_gen 28 #[] (liesV n) hl l s W W (fun _ _ => True) (fun W' hW' => hW.keep hW') hlen (Below.refl _ _) trivial (looks_quiet _ l W)
  have hacts : (playC (liesV n) l (most l)).acts ≠ 600 := by have := playC_acts (liesV n) l (most l); have := most_le l; omega
  have hliar := playC_liar (liesV n) l (most l)
  have hi4 : ∀ f : Nat → Int, (Try.prog.info? 26).map (·.size) = some (four f).size := fun f => by show _ = some 4; kernel_rfl
  generalize playC (liesV n) l (most l) = c at hplay G hacts hliar
  have G2 := G.more hacts
  have hdo := fun W g q nt (hW : CwAt W g 93 c q nt) => do_any G hW (readAct 1 tell)
  rw [doC_read hacts 1 tell] at hdo
  have hfound : ∀ h, foundB c (liesV n) (takeV (toldC c ((1 : Int) != 0) tell) h) h 4 = true := fun h => foundB_of (by
    by_cases h0 : takeV (toldC c ((1 : Int) != 0) tell) h = 0
    · exact Or.inl h0
    · obtain ⟨i, a, b, d⟩ := takeV_true h0
      exact Or.inr ⟨i, a, by rw [← hliar]; exact b, d⟩)
  have hql : ∀ i, i < 4 → (c.nd i).queue.length ≤ 6 := fun i hi => (G.nd i hi).good.qlen
  generalize takeV (toldC c ((1 : Int) != 0) tell) = F at hdo hfound
  have HP : Hid _ := hplay
  have HD : Hid _ := hdo
  have HF : Hid _ := hfound
  have hf := field_settled
  have hi := info_rep 0 0 F
  have ho := one_rep 0 0 F
  clear hplay hdo hfound hliar hacts
  obtain ⟨sa, sc, hsv⟩ := hs.len
  subst hsv
  have HS : Hid (ActsAt w (.slice sa l.length sc) l) := hs
  clear hs
  have E0 : Blk (w.alloc (.cells (four tell) 26)) w.heap.size (four tell) 26 := Blk.new w _ _
  have L0 : Below w.heap.size w (w.alloc (.cells (four tell) 26)) := by go_grown
  have hs0 : (w.alloc (.cells (four tell) 26)).heap.size = w.heap.size + 1 := by simp
  go_enter Try.func9, Try.ntmps9
  go_upto_region 1 with fail
  generalize (w.alloc (.cells (four tell) 26)) = w0 at E0 L0 hs0 ⊢
  go_wp2_with (first
    | (go_at_call 26; refine (lies_any n _).mono ?_; rintro e w' ⟨rfl, hw'⟩; obtain rfl := hw'.symm)
    | (go_at_call 27; refine (HP.out w0 (HS.out.keep L0)).mono ?_; rintro e w1 ⟨g, q, nt, rfl, hg, H1, hnt, _, hsz1, hB1⟩; have E1 := E0.below hB1)
    | (refine wpList_load_part (by rfl) 26 _ rfl w.heap.size 0 rfl (four tell) _ E1.range Try.underlying26 rfl (hi4 _) ?_)
    | (refine wpList_build_eq rfl 49 _ rfl (acArr (readAct 1 tell)) (by simp only [List.map_toArray, List.map_cons, List.map_nil]; exact build_readAct 1 tell _) ?_; simp only [Act.put, List.setIfInBounds_toArray, List.set_cons_zero, List.set_cons_succ])
    | (go_at_call 21; refine (HD.out w1 g q nt H1).mono ?_; rintro e w2 ⟨rfl, q2, nt2, H2, T2, N2⟩; have L2 : Below w.heap.size w w2 := bel_seq (bel_trans L0 hB1) (T2.bel (by omega) (fun k hk => by have := hnt k hk; omega) (by have := hB1.size; omega)); have Z2 : Blk (w2.alloc (.cells zR 52)) w2.heap.size zR 52 := Blk.new w2 _ _; have La : Below w2.heap.size w2 (w2.alloc (.cells zR 52)) := (by go_grown))
    | (refine wpList_store_blk rfl 52 _ _ rfl w2.heap.size zR (rcells 0 0 F) 52 rfl rfl Z2 rfl hi ho ?_; rintro w3 B3 K3; have L3 := K3.bel _ _ (Nat.le_refl _) La; have H3 := H2.keep L3; have e0 := B3.cell 0; rw [show (rcells 0 0 F)[0]? = some (.int .i64 0) from rfl] at e0; have r3 := rep_settled B3)
    | (refine wpList_load_part (by rfl) 26 _ rfl w2.heap.size 2 rfl (four F) _ r3 Try.underlying26 rfl (hi4 _) ?_)
    | fail)
  have hB3 := bel_trans L2 L3
  generalize liesV n = liar at *
  clear e0 r3 E1 E0
  go_loopw [33] (fun j W => ∃ h : Nat, h ≤ 4 ∧ j = .int .i64 (h : Int) ∧ CwAt W g 93 c.more q2 nt2 ∧ Below w.heap.size w W) (fun j _ => 4 - (intOf j).toNat)
  case atStart => exact ⟨0, by omega, rfl, H3, hB3⟩
  case round =>
    clear H3 hB3
    obtain ⟨h, hh, rfl, H4, hB4⟩ := hrel
    by_cases hh4 : h < 4
    · have hhI : (h : Int) < 4 := by omega
      have hix := index_four F h hh4
      have hfo := HF.out h
      generalize F h = v at hix hfo
      have HFO : Hid (foundB c liar v h 4 = true) := hfo
      clear hfo
      go_wp2
      go_loopw [12, 39] (fun fb j W => ∃ i : Nat, i ≤ 4 ∧ j = .int .i64 (i : Int) ∧ fb = .bool (foundB c liar v h i) ∧ CwAt W g 93 c.more q2 nt2 ∧ Below w.heap.size w W) (fun _ j _ => 4 - (intOf j).toNat)
      case atStart => exact ⟨0, by omega, rfl, rfl, H4, hB4⟩
      case round =>
        clear H4 hB4
        obtain ⟨i, hi, rfl, rfl, H5, hB5⟩ := hrel
        by_cases hi4' : i < 4
        · have hiI : (i : Int) < 4 := by omega
          have HS2 : Hid (foundB c liar v h (i + 1) = (foundB c liar v h i || (((i : Int) != liar) && ((c.nd i).settled h == v)))) := rfl
          cases hfb : foundB c liar v h i
          · cases hne : ((i : Int) != liar)
            · go_wp2
              go_roundw
              case measure => simp [intOf]; omega
              case rel => exact ⟨i + 1, by omega, by go_num, by rw [HS2.out, hfb, hne]; rfl, H5, hB5⟩
            · obtain ⟨u, hu⟩ : ∃ u, (c.nd i).settled h = u := ⟨_, rfl⟩
              have hix2 : ∀ q W, Sem.run Try.prog (Instr.index 26 (.agg (four ((c.more.nd i).ni q).settled)) (.int .i64 (h : Int))) W = .ok (.int .i64 u) W := fun q W => by
                have h1 := index_four ((c.more.nd i).ni q).settled h hh4 W
                rw [show ((c.more.nd i).ni q).settled h = u from hu] at h1
                exact h1
              have HU : Hid ((c.nd i).settled h = u) := hu
              clear hu
              have hnn := node_any H5 i hi4' (hql i hi4')
              cases huv : (u == v)
              · go_wp2_with (first | (go_at_call 23; refine hnn.mono ?_; clear hnn; rintro e w6 ⟨q6, rfl, hown6, L6⟩))
                go_roundw
                case measure => simp [intOf]; omega
                case rel => exact ⟨i + 1, by omega, by go_num, by rw [HS2.out, hfb, hne, HU.out, huv]; rfl, H5.keep L6, bel_trans hB5 L6⟩
              · go_wp2_with (first | (go_at_call 23; refine hnn.mono ?_; clear hnn; rintro e w6 ⟨q6, rfl, hown6, L6⟩))
                go_roundw
                case measure => simp [intOf]; omega
                case rel => exact ⟨i + 1, by omega, by go_num, by rw [HS2.out, hfb, hne, HU.out, huv]; rfl, H5.keep L6, bel_trans hB5 L6⟩
          · go_wp2
            go_roundw
            case measure => simp [intOf]; omega
            case rel => exact ⟨i + 1, by omega, by go_num, by rw [HS2.out, hfb]; rfl, H5, hB5⟩
        · have hi5 : i = 4 := by omega
          subst hi5
          rw [HFO.out]
          go_wp2
          go_roundw
          case measure => simp [intOf]; omega
          case rel => exact ⟨h + 1, by omega, by go_num, H5, hB5⟩
    · go_wp2
      go_ret
      exact ⟨rfl, hB4⟩
end Go.Proofs.Ytmmgaonlmpajbab
