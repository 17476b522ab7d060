/-
  The statement TopAgain.
-/
import Derived.Test.YtmmgaonlmpajbabTwo
import Derived.Test.YtmmgaonlmpajbabClientsLaw
import Derived.Test.YtmmgaonlmpajbabPlain4
namespace Go.Proofs.Ytmmgaonlmpajbab
open Go.RowKit

/-- A letter's delivery. -/
def delAct (n : Int) : Ac := ⟨2, 0, n, 0, ⟨0, 0, 0, 0, 0, 0⟩, fun _ => 0⟩
theorem build_delAct (n : Int) (W : World) : Sem.run Try.prog (Instr.build 49 #[(0, .int .i64 2), (2, .int .i64 n)]) W = .ok (.agg (acArr (delAct n))) W := by show _ = _; kernel_rfl
theorem doC_del {c : Cw} (h : c.acts ≠ 600) (n : Int) : doC c (delAct n) = deliverC c.more n := by
  unfold doC
  rw [if_neg h]
  rfl
theorem sendTo_pre (fr : Nat) (w : Wd) (net : List (Nat × Wd)) : ∀ k, ∃ t, sendTo fr w net k = net ++ t
  | 0 => ⟨[], (List.append_nil _).symm⟩
  | k + 1 => by
    obtain ⟨t, ht⟩ := sendTo_pre fr w net k
    unfold sendTo
    split
    · exact ⟨t ++ [(k, w)], by rw [ht, List.append_assoc]⟩
    · exact ⟨t, ht⟩
theorem sendAll_pre (fr : Nat) : ∀ (ws : List Wd) (net : List (Nat × Wd)), ∃ t, sendAll fr ws net = net ++ t
  | [], net => ⟨[], (List.append_nil _).symm⟩
  | v :: ws, net => by
    obtain ⟨t, ht⟩ := sendTo_pre fr v net 4
    obtain ⟨u, hu⟩ := sendAll_pre fr ws (sendTo fr v net 4)
    refine ⟨t ++ u, ?_⟩
    show sendAll fr ws (sendTo fr v net 4) = _
    rw [hu, ht, List.append_assoc]
/-- What comes twice is as what comes once. -/
def AgainP (c : Cw) (n : Int) : Prop := ∃ code m f f', (doC c (delAct n)).2 = rcells code m f ∧ (doC (doC c (delAct n)).1 (delAct n)).2 = rcells code 0 f' ∧
    (∀ i, (doC (doC c (delAct n)).1 (delAct n)).1.nd i = (doC c (delAct n)).1.nd i) ∧ (doC (doC c (delAct n)).1 (delAct n)).1.net = (doC c (delAct n)).1.net
theorem again_refused {c : Cw} (h1 : c.acts ≠ 600) (h2 : c.acts ≠ 599) (n r : Int) (h : ∀ d : Cw, d.net = c.net → deliverC d n = (d, refused r)) : AgainP c n := by
  have hm : c.more.acts ≠ 600 := by show c.acts + 1 ≠ 600; omega
  have e1 : doC c (delAct n) = (c.more, refused r) := (doC_del h1 n).trans (h c.more rfl)
  have e2 : doC c.more (delAct n) = (c.more.more, refused r) := (doC_del hm n).trans (h c.more.more rfl)
  unfold AgainP
  rw [e1]
  show ∃ code m f f', refused r = rcells code m f ∧ (doC c.more (delAct n)).2 = rcells code 0 f' ∧ (∀ i, (doC c.more (delAct n)).1.nd i = c.more.nd i) ∧ (doC c.more (delAct n)).1.net = c.more.net
  rw [e2]
  exact ⟨r, 0, fun _ => 0, fun _ => 0, rfl, rfl, fun _ => rfl, rfl⟩
theorem again_plain {c : Cw} (G : CG c) (h1 : c.acts ≠ 600) (h2 : c.acts ≠ 599) (n : Int) : AgainP c n := by
  by_cases h0 : 0 ≤ n
  · cases hx : c.net[n.toNat]? with
    | none => exact again_refused h1 h2 n 4 (fun d hd => by unfold deliverC; rw [hd, hx])
    | some x =>
      by_cases g : goodC x.2.k x.2.f x.2.h x.2.r x.2.v x.2.x = 0
      · have hm : c.more.acts ≠ 600 := by show c.acts + 1 ≠ 600; omega
        have hi : x.1 < 4 := G.dest x (List.mem_of_getElem? hx)
        have hb := goodC_bds g
        have hvh : x.2.h = ((x.2.h.toNat : Nat) : Int) := by omega
        have hag := hear_again (who := x.1) (n := c.nd x.1) (G.nd x.1 hi).good (v := x.2) g hvh
        obtain ⟨t, ht⟩ := sendAll_pre x.1 (hearN x.1 (c.nd x.1) x.2).words c.net
        have key : ∀ d : Cw, d.net[n.toNat]? = some x → deliverC d n = (d.did x.1 (hearN x.1 (d.nd x.1) x.2), rcells 0 (((sendAll x.1 (hearN x.1 (d.nd x.1) x.2).words d.net).length : Int) - (d.net.length : Int)) fun _ => 0) := fun d hd => by
          unfold deliverC
          rw [hd]
          simp only
          rw [if_pos h0]
          unfold hearC
          rw [if_pos g]
        have e1 : doC c (delAct n) = (c.more.did x.1 (hearN x.1 (c.nd x.1) x.2), rcells 0 (((sendAll x.1 (hearN x.1 (c.nd x.1) x.2).words c.net).length : Int) - (c.net.length : Int)) fun _ => 0) := (doC_del h1 n).trans (key c.more hx)
        have e0 : (c.more.did x.1 (hearN x.1 (c.nd x.1) x.2)).acts ≠ 600 := hm
        have hx2 : (c.more.did x.1 (hearN x.1 (c.nd x.1) x.2)).more.net[n.toNat]? = some x := by
          show (sendAll x.1 (hearN x.1 (c.nd x.1) x.2).words c.net)[n.toNat]? = some x
          rw [ht, List.getElem?_append_left (by
            by_cases hlt : n.toNat < c.net.length
            · exact hlt
            · rw [List.getElem?_eq_none (by omega)] at hx; cases hx)]
          exact hx
        have e2 := (doC_del e0 n).trans (key _ hx2)
        have hn : (c.more.did x.1 (hearN x.1 (c.nd x.1) x.2)).more.nd x.1 = (hearN x.1 (c.nd x.1) x.2).n := if_pos rfl
        have hh : hearN x.1 ((c.more.did x.1 (hearN x.1 (c.nd x.1) x.2)).more.nd x.1) x.2 = ⟨(hearN x.1 (c.nd x.1) x.2).n, []⟩ := by rw [hn]; exact hag
        rw [hh] at e2
        unfold AgainP
        rw [e1]
        show ∃ code m f f', _ ∧ (doC (c.more.did x.1 (hearN x.1 (c.nd x.1) x.2)) (delAct n)).2 = rcells code 0 f' ∧ (∀ i, (doC (c.more.did x.1 (hearN x.1 (c.nd x.1) x.2)) (delAct n)).1.nd i = (c.more.did x.1 (hearN x.1 (c.nd x.1) x.2)).nd i) ∧ (doC (c.more.did x.1 (hearN x.1 (c.nd x.1) x.2)) (delAct n)).1.net = (c.more.did x.1 (hearN x.1 (c.nd x.1) x.2)).net
        rw [e2]
        refine ⟨0, _, fun _ => 0, fun _ => 0, rfl, ?_, fun i => ?_, rfl⟩
        · show rcells 0 (((sendAll x.1 [] (c.more.did x.1 (hearN x.1 (c.nd x.1) x.2)).more.net).length : Int) - ((c.more.did x.1 (hearN x.1 (c.nd x.1) x.2)).more.net.length : Int)) (fun _ => 0) = _
          rw [show sendAll x.1 [] (c.more.did x.1 (hearN x.1 (c.nd x.1) x.2)).more.net = (c.more.did x.1 (hearN x.1 (c.nd x.1) x.2)).more.net from rfl, Int.sub_self]
        · show (if i = x.1 then (hearN x.1 (c.nd x.1) x.2).n else (if i = x.1 then (hearN x.1 (c.nd x.1) x.2).n else c.nd i)) = (if i = x.1 then (hearN x.1 (c.nd x.1) x.2).n else c.nd i)
          by_cases e : i = x.1
          · rw [if_pos e, if_pos e]
          · rw [if_neg e]
      · exact again_refused h1 h2 n (goodC x.2.k x.2.f x.2.h x.2.r x.2.v x.2.x) (fun d hd => by unfold deliverC; rw [hd, hx]; simp only; rw [if_pos h0]; unfold hearC; rw [if_neg g])
  · refine again_refused h1 h2 n 4 (fun d _ => ?_)
    unfold deliverC
    split
    · rw [if_neg h0]
    · rfl

set_option maxRecDepth 100000 in
set_option maxHeartbeats 8000000 in
theorem topAgain_any (n : Int) (l : List Ac) (s : Value) (k : Int) (w : World) (hs : ActsAt w s l) (hlen : l.length < 4611686018427387904) :
    Calls Try.prog 14 #[.int .i64 n, s, .int .i64 k] w fun e w' => e = .returned (.bool true) ∧ Below w.heap.size w w' := by
  have hl := liesV_bd n
  have G := playC_good hl l (most l)
  have hplay := fun W (hW : ActsAt W s l) => play_gen 28 #[] (liesV n) hl l s W W (fun _ _ => True) (fun W' hW' => hW.keep hW') hlen (Below.refl _ _) trivial (looks_quiet _ l W)
  have hacts : (playC (liesV n) l (most l)).acts ≤ 300 := by have := playC_acts (liesV n) l (most l); have := most_le l; omega
  generalize playC (liesV n) l (most l) = c at hplay G hacts
  have hA := again_plain G (by omega) (by omega) k
  have G1 := do_good G (delAct k)
  have hd1 := fun W g q nt (hW : CwAt W g 93 c q nt) => do_any G hW (delAct k)
  have hd2 := fun W g q nt (hW : CwAt W g 93 (doC c (delAct k)).1 q nt) => do_any G1 hW (delAct k)
  obtain ⟨code, m, f, f', r1, r2, hnd, hnet⟩ := hA
  have hq1 : ∀ i, i < 4 → (((doC (doC c (delAct k)).1 (delAct k)).1).nd i).queue.length ≤ 6 := fun i hi => by rw [hnd]; exact (G1.nd i hi).good.qlen
  have hn1 : ((doC (doC c (delAct k)).1 (delAct k)).1).net.length ≤ 2000 := by rw [hnet]; exact G1.net
  rw [r1] at hd1
  rw [r2] at hd2
  generalize (doC (doC c (delAct k)).1 (delAct k)).1 = c2 at hd2 hnd hnet hq1 hn1
  generalize (doC c (delAct k)).1 = c1 at hd1 hd2 hnd hnet
  have HSA : Hid ((∀ i, i < 4 → c1.nd i = c2.nd i) ∧ c1.net = c2.net ∧ c2.net.length ≤ 2000 ∧ ∀ i, i < 4 → (c2.nd i).queue.length ≤ 6) := ⟨fun i _ => (hnd i).symm, hnet.symm, hn1, hq1⟩
  clear hnd hnet hq1 hn1 r1 r2 G G1 hacts
  have HP : Hid _ := hplay
  have HD1 : Hid _ := hd1
  have HD2 : Hid _ := hd2
  have hi := info_rep code m f
  have ho := one_rep code m f
  have hi' := info_rep code 0 f'
  have ho' := one_rep code 0 f'
  clear hplay hd1 hd2
  obtain ⟨sa, sc, hsv⟩ := hs.len
  subst hsv
  have HS : Hid (ActsAt w (.slice sa l.length sc) l) := hs
  clear hs
  go_enter Try.func14, Try.ntmps14
  go_upto_region 2 with (first
    | (go_at_call 26; refine (lies_any n _).mono ?_; rintro e w' ⟨rfl, hw'⟩; obtain rfl := hw'.symm)
    | (go_at_call 27; refine (HP.out w HS.out).mono ?_; rintro e w1 ⟨g1, q1, nt1, rfl, hg1, H1, hnt1, _, hsz1, hB1⟩))
  have HS1 : Hid (ActsAt w1 (.slice sa l.length sc) l) := HS.out.keep hB1
  go_upto_region 5 with (first
    | (go_at_call 26; refine (lies_any n _).mono ?_; rintro e w' ⟨rfl, hw'⟩; obtain rfl := hw'.symm)
    | (go_at_call 27; refine (HP.out w1 HS1.out).mono ?_; rintro e w2 ⟨g2, q2, nt2, rfl, hg2, H2, hnt2, _, hsz2, hB2⟩))
  have T2 := two_of H1 H2 hB2 hg2 hnt2
  have L2 := bel_trans hB1 hB2
  have b1 : w.heap.size ≤ g1 ∧ w.heap.size ≤ g2 := ⟨hg1, by omega⟩
  have b2 : ∀ b, nt1.ownBlock = some b ∨ nt2.ownBlock = some b → w.heap.size ≤ b := fun b hb => by
    rcases hb with hb | hb
    · exact hnt1 b hb
    · have := hnt2 b hb; omega
  clear H1 H2 HS HS1 HP hnt1 hnt2 hB1 hB2 hg1 hg2
  have d3 := HD1.out w2 g1 q1 nt1 T2.one
  go_upto_region 6 with (first
    | (refine wpList_build_eq rfl 49 _ rfl (acArr (delAct k)) (by simp only [List.map_toArray, List.map_cons, List.map_nil]; exact build_delAct k _) ?_; simp only [Act.put, List.setIfInBounds_toArray, List.set_cons_zero, List.set_cons_succ])
    | (go_at_call 21; refine d3.mono ?_; clear d3; rintro e w3 ⟨rfl, q3, nt3, H3, T3, N3⟩; have Z3 : Blk (w3.alloc (.cells zR 52)) w3.heap.size zR 52 := Blk.new w3 _ _; have La : Below w3.heap.size w3 (w3.alloc (.cells zR 52)) := (by go_grown))
    | (refine wpList_store_blk rfl 52 _ _ rfl w3.heap.size zR (rcells code m f) 52 rfl rfl Z3 rfl hi ho ?_; rintro w4 B4 K4; have L4 := K4.bel _ _ (Nat.le_refl _) La; clear Z3 La K4))
  have T4 := (T2.did H3 T3 N3).keep L4
  have L3 : Below w.heap.size w w4 := bel_trans (bel_seq L2 (T3.bel b1.1 (fun b hb => b2 b (Or.inl hb)) (by have := L2.size; omega))) L4
  have b3 : ∀ b, nt3.ownBlock = some b ∨ nt2.ownBlock = some b → w.heap.size ≤ b := fun b hb => by
    rcases hb with hb | hb
    · rcases N3 with h | h
      · exact b2 b (Or.inl (by rw [← h]; exact hb))
      · have := h b hb; have := L2.size; omega
    · exact b2 b (Or.inr hb)
  clear T2 L2 H3 T3 N3 L4 b2
  have d4 := HD1.out w4 g2 q2 nt2 T4.other
  go_upto_region 7 with (first
    | (refine wpList_build_eq rfl 49 _ rfl (acArr (delAct k)) (by simp only [List.map_toArray, List.map_cons, List.map_nil]; exact build_delAct k _) ?_; simp only [Act.put, List.setIfInBounds_toArray, List.set_cons_zero, List.set_cons_succ])
    | (go_at_call 21; refine d4.mono ?_; clear d4; rintro e w5 ⟨rfl, q5, nt5, H5, T5, N5⟩))
  have B5 := T5.blk T4.other.blk T4.other.net B4 (by decide) (by decide)
  have T6 := (T4.swap.did H5 T5 N5).swap
  have L5 : Below w.heap.size w w5 := bel_seq L3 (T5.bel b1.2 (fun b hb => b3 b (Or.inr hb)) (by have := L3.size; omega))
  clear T4 H5 T5 N5 B4
  have d5 := HD2.out w5 g1 q3 nt3 T6.one
  go_upto_region 8 with (first
    | (refine wpList_build_eq rfl 49 _ rfl (acArr (delAct k)) (by simp only [List.map_toArray, List.map_cons, List.map_nil]; exact build_delAct k _) ?_; simp only [Act.put, List.setIfInBounds_toArray, List.set_cons_zero, List.set_cons_succ])
    | (go_at_call 21; refine d5.mono ?_; clear d5; rintro e w6 ⟨rfl, q6, nt6, H6, T7, N6⟩; have Z6 : Blk (w6.alloc (.cells zR 52)) w6.heap.size zR 52 := Blk.new w6 _ _; have Lb : Below w6.heap.size w6 (w6.alloc (.cells zR 52)) := (by go_grown))
    | (refine wpList_store_blk rfl 52 _ _ rfl w6.heap.size zR (rcells code 0 f') 52 rfl rfl Z6 rfl hi' ho' ?_; rintro w7 B7 K7; have L7 := K7.bel _ _ (Nat.le_refl _) Lb; clear Z6 Lb K7))
  have B6 := (T7.blk T6.one.blk T6.one.net B5 (by decide) (by decide)).below L7
  have T8 := (T6.did H6 T7 N6).keep L7
  have L8 : Below w.heap.size w w7 := bel_trans (bel_seq L5 (T7.bel b1.1 (fun b hb => b3 b (Or.inl hb)) (by have := L5.size; omega))) L7
  have e0 := B6.cell 0
  rw [show (rcells code m f)[0]? = some (.int .i64 code) from rfl] at e0
  have f0 := B7.cell 0
  rw [show (rcells code 0 f')[0]? = some (.int .i64 code) from rfl] at f0
  have f1 := B7.cell 1
  rw [show (rcells code 0 f')[1]? = some (.int .i64 0) from rfl] at f1
  have hsame := same_any T8.one T8.other HSA.out.1 HSA.out.2.1 HSA.out.2.2.1 HSA.out.2.2.2
  clear T6 H6 T7 N6 L7 B6 B7 B5
  go_wp2_with (first | (go_at_call 35; refine hsame.mono ?_; rintro e w9 ⟨rfl, L9⟩))
  go_ret
  exact ⟨rfl, bel_trans L8 L9⟩
end Go.Proofs.Ytmmgaonlmpajbab
