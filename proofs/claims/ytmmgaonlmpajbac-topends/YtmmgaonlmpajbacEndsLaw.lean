/-
  The statement TopEnds.
-/
import Derived.Test.YtmmgaonlmpajbacTwo
import Derived.Test.YtmmgaonlmpajbacClientsLaw
import Derived.Test.YtmmgaonlmpajbacCrowdLaws
namespace Go.Proofs.Ytmmgaonlmpajbac
open Go.RowKit

theorem doC_counts {c : Cw} (h : c.acts ≠ 600) (a : Ac) : (doC c a).1.acts = c.acts + 1 := by
  have hh : ∀ (c : Cw) i v, (hearC c i v).1.acts = c.acts := fun c i v => by unfold hearC; split <;> rfl
  unfold doC
  rw [if_neg h]
  split
  · unfold subC
    split
    · split <;> rfl
    · rfl
  · split
    · unfold deliverC
      split
      · split
        · rw [hh]; rfl
        · rfl
      · rfl
    · split
      · unfold dropC
        split <;> rfl
      · split
        · unfold timeC
          split <;> rfl
        · split
          · unfold lieC
            split
            · split
              · split
                · rw [hh]; rfl
                · rfl
              · rfl
            · rfl
          · split <;> rfl
theorem playC_counts (liar : Int) (l : List Ac) : ∀ k, k ≤ l.length → k ≤ 600 → (playC liar l k).acts = k
  | 0, _, _ => rfl
  | k + 1, hk, h6 => by
    have ih := playC_counts liar l k (by omega) (by omega)
    rw [playC_succ (List.getElem?_eq_getElem (show k < l.length by omega)), doC_counts (by omega), ih]

/-- The crowd, so many acts being done. -/
def endC (c : Cw) (i : Nat) : Cw := { c with acts := i }
theorem endC_self (c : Cw) : endC c c.acts = c := rfl
def zeroAct : Ac := ⟨0, 0, 0, 0, ⟨0, 0, 0, 0, 0, 0⟩, fun _ => 0⟩
theorem build_zeroAct (W : World) : Sem.run Try.prog (Instr.build 27 #[]) W = .ok (.agg (acArr zeroAct)) W := by show _ = _; kernel_rfl
theorem do_zero (c : Cw) {i : Nat} (h : i ≠ 600) : doC (endC c i) zeroAct = (endC c (i + 1), refused 3) := by
  unfold doC
  rw [if_neg (show (endC c i).acts ≠ 600 from h)]
  rfl
theorem do_end (c : Cw) (a : Ac) : doC (endC c 600) a = (endC c 600, refused 5) := by
  unfold doC
  rw [if_pos (show (endC c 600).acts = 600 from rfl)]
theorem endC_good {c : Cw} (G : CG c) {i : Nat} (h : i ≤ 600) : CG (endC c i) := ⟨G.nd, G.net, G.dest, h, G.liar⟩

set_option maxRecDepth 100000 in
set_option maxHeartbeats 8000000 in
theorem topEnds_any (n : Int) (l : List Ac) (s : Value) (a : Ac) (w : World) (hs : ActsAt w s l) (hlen : l.length < 4611686018427387904) :
    Calls Try.prog 6 #[.int .i64 n, s, .agg (acArr a)] w fun e w' => e = .returned (.bool true) ∧ Below w.heap.size w w' := by
  have hl := liesV_bd n
  have G := playC_good hl l (most l)
  have hplay := fun W (hW : ActsAt W s l) => play_gen 10 #[] (liesV n) hl l s W W (fun _ _ => True) (fun W' hW' => hW.keep hW') hlen (Below.refl _ _) trivial (looks_quiet _ l W)
  have hacts : (playC (liesV n) l (most l)).acts = most l := playC_counts (liesV n) l (most l) (Nat.min_le_left _ _) (by have := most_le l; omega)
  generalize playC (liesV n) l (most l) = c at hplay G hacts
  have hself : c = endC c (most l) := by rw [← hacts]; exact (endC_self c).symm
  have hd1 : ∀ i : Nat, i < 600 → ∀ W g q nt, CwAt W g 70 (endC c i) q nt → Calls Try.prog 11 #[.pointer (some ⟨g, 0, none⟩), .agg (acArr zeroAct)] W (Did W g nt (endC c (i + 1)) (refused 3)) := fun i hi W g q nt hW => by
    have h1 := do_any (endC_good G (i := i) (by omega)) hW zeroAct
    rw [do_zero c (by omega)] at h1
    exact h1
  have hd2 : ∀ W g q nt, CwAt W g 70 (endC c 600) q nt → Calls Try.prog 11 #[.pointer (some ⟨g, 0, none⟩), .agg (acArr a)] W (Did W g nt (endC c 600) (refused 5)) := fun W g q nt hW => by
    have h1 := do_any (endC_good G (i := 600) (by omega)) hW a
    rw [do_end c a] at h1
    exact h1
  have HQN : Hid ((endC c 600).net.length ≤ 2000 ∧ ∀ i, i < 4 → ((endC c 600).nd i).queue.length ≤ 6) := ⟨G.net, fun i hi => (G.nd i hi).good.qlen⟩
  have HSelf : Hid (c = endC c (most l)) := hself
  clear G hacts hself
  have hia : (Try.prog.info? 27).map (·.size) = some (acArr a).size := by show _ = some 14; kernel_rfl
  have hf3 : ∀ W, Sem.run Try.prog (Instr.field 35 (.agg (refused 3)) 0) W = .ok (.int .i64 3) W := fun W => by show _ = _; kernel_rfl
  have heq : ∀ W, Sem.run Try.prog (Op.equalIn 10000 35 (.agg (refused 5)) (.agg (rcells 5 0 fun _ => 0))) W = .ok true W := eq_rep 5 0 fun _ => 0
  have hbr : ∀ W, Sem.run Try.prog (Instr.build 35 #[(0, .int .i64 5)]) W = .ok (.agg (rcells 5 0 fun _ => 0)) W := fun W => by show _ = _; kernel_rfl
  have HP : Hid _ := hplay
  have HD1 : Hid _ := hd1
  have HD2 : Hid _ := hd2
  clear hplay hd1 hd2
  obtain ⟨sa, sc, hsv⟩ := hs.len
  subst hsv
  have A0 : Blk (w.alloc (.cells (acArr a) 27)) w.heap.size (acArr a) 27 := Blk.new w _ _
  have L0 : Below w.heap.size w (w.alloc (.cells (acArr a) 27)) := by go_grown
  have HS : Hid (ActsAt (w.alloc (.cells (acArr a) 27)) (.slice sa l.length sc) l) := hs.keep L0
  clear hs
  generalize acArr a = A at *
  go_enter Try.func6, Try.ntmps6
  go_upto_region 1 with fail
  generalize (w.alloc (.cells A 27)) = w0 at A0 L0 HS ⊢
  go_upto_region 2 with (first
    | (go_at_call 9; refine (lies_any n _).mono ?_; rintro e w' ⟨rfl, hw'⟩; obtain rfl := hw'.symm)
    | (go_at_call 8; refine (HP.out w0 HS.out).mono ?_; rintro e w1 ⟨g1, q1, nt1, rfl, hg1, H1, hnt1, _, hsz1, hB1⟩))
  have HS1 : Hid (ActsAt w1 (.slice sa l.length sc) l) := HS.out.keep hB1
  go_upto_region 5 with (first
    | (go_at_call 9; refine (lies_any n _).mono ?_; rintro e w' ⟨rfl, hw'⟩; obtain rfl := hw'.symm)
    | (go_at_call 8; refine (HP.out w1 HS1.out).mono ?_; rintro e w2 ⟨g2, q2, nt2, rfl, hg2, H2, hnt2, _, hsz2, hB2⟩))
  have T2 := two_of H1 H2 hB2 hg2 hnt2
  have L2 := bel_trans (bel_trans L0 hB1) hB2
  have A2 := (A0.below hB1).below hB2
  have hs0 := L0.size
  have b1 : w.heap.size ≤ g1 ∧ w.heap.size ≤ g2 := ⟨by omega, by omega⟩
  have b2 : ∀ b, nt1.ownBlock = some b ∨ nt2.ownBlock = some b → w.heap.size ≤ b := fun b hb => by
    rcases hb with hb | hb
    · have := hnt1 b hb; omega
    · have := hnt2 b hb; omega
  clear H1 H2 HS HS1 HP hnt1 hnt2 hB1 hB2 hg1 hg2 A0 L0
  rw [HSelf.out] at T2
  have hmin : ∀ ts t W, Sem.run Try.prog (Builtin.min_ ts t #[.int .i64 (l.length : Int), .int .i64 300]) W = .ok (.int .i64 ((most l : Nat) : Int)) W := fun ts t W => by
    rw [run_min_int2]
    have : (if (300 : Int) < (l.length : Int) then (300 : Int) else (l.length : Int)) = ((most l : Nat) : Int) := by
      unfold most
      split <;> omega
    rw [this]
  have hmo := most_le l
  clear HSelf
  generalize most l = M at T2 hmin hmo
  go_wp2
  go_loopw [11] (fun j W => ∃ (i : Nat) (q1 : Nat → Value) (nt1 : Value) (q2 : Nat → Value) (nt2 : Value), i ≤ 600 ∧ j = .int .i64 (i : Int) ∧ Two W g1 (endC c i) q1 nt1 g2 (endC c i) q2 nt2 ∧ Blk W w.heap.size A 27 ∧ (∀ b, nt1.ownBlock = some b ∨ nt2.ownBlock = some b → w.heap.size ≤ b) ∧ Below w.heap.size w W) (fun j _ => 600 - (intOf j).toNat)
  case atStart => exact ⟨M, q1, nt1, q2, nt2, by omega, rfl, T2, A2, b2, L2⟩
  case round =>
    clear T2 A2 b2 L2
    obtain ⟨i, p1, mt1, p2, mt2, hi6, rfl, T3, A3, b3, L3⟩ := hrel
    by_cases hlt : i < 600
    · have hiI : (i : Int) < 600 := by omega
      have d3 := HD1.out i hlt _ g1 p1 mt1 T3.one
      have HD4 := HD1.out i hlt
      have HD4 : Hid _ := HD4
      rename World => w3
      go_wp2_with (first
        | (refine wpList_build_eq rfl 27 _ rfl (acArr zeroAct) (by simp only [List.map_toArray, List.map_nil]; exact build_zeroAct _) ?_; simp only [Act.put, List.setIfInBounds_toArray, List.set_cons_zero, List.set_cons_succ])
        | (refine wpList_build_w (by rfl) 27 _ rfl (acArr zeroAct) (by simp only [List.map_toArray, List.map_nil]; exact build_zeroAct _) ?_; simp only [Act.put, List.setIfInBounds_toArray, List.set_cons_zero, List.set_cons_succ])
        | (go_at_call 11; refine d3.mono ?_; clear d3; rintro e w4 ⟨rfl, q4, nt4, H4, U4, N4⟩; have T4 := T3.did H4 U4 N4; have A4 := U4.blk T3.one.blk T3.one.net A3 (by decide) (by decide); have L4 : Below w.heap.size w w4 := bel_seq L3 (U4.bel b1.1 (fun b hb => b3 b (Or.inl hb)) (by have := L3.size; omega)); have d4 := HD4.out w4 g2 p2 mt2 T4.other)
        | (go_at_call 11; refine d4.mono ?_; clear d4; rintro e w5 ⟨rfl, q5, nt5, H5, U5, N5⟩))
      have T5 := (T4.swap.did H5 U5 N5).swap
      have A5 := U5.blk T4.other.blk T4.other.net A4 (by decide) (by decide)
      have L5 : Below w.heap.size w w5 := bel_seq L4 (U5.bel b1.2 (fun b hb => b3 b (Or.inr hb)) (by have := L4.size; omega))
      go_roundw
      case rel =>
        refine ⟨i + 1, q4, nt4, q5, nt5, by omega, by go_num, T5, A5, fun b hb => ?_, L5⟩
        rcases hb with hb | hb
        · rcases N4 with h | h
          · exact b3 b (Or.inl (by rw [← h]; exact hb))
          · have := h b hb; have := L3.size; omega
        · rcases N5 with h | h
          · exact b3 b (Or.inr (by rw [← h]; exact hb))
          · have := h b hb; have := L4.size; omega
      case measure => simp [intOf]; omega
    · have hi : i = 600 := by omega
      subst hi
      have d3 := HD2.out _ g1 p1 mt1 T3.one
      rename World => w3
      go_wp2_with (first
        | (refine wpList_load_part (by rfl) 27 _ rfl w.heap.size 0 rfl A _ A3.range Try.underlying27 rfl hia ?_)
        | (refine wpList_build_eq rfl 35 _ rfl (rcells 5 0 fun _ => 0) (by simp only [List.map_toArray, List.map_cons, List.map_nil]; exact hbr _) ?_; simp only [Act.put, List.setIfInBounds_toArray, List.set_cons_zero, List.set_cons_succ])
        | (go_at_call 11; refine d3.mono ?_; clear d3; rintro e w4 ⟨rfl, q4, nt4, H4, U4, N4⟩; have T4 := T3.did H4 U4 N4; have L4 : Below w.heap.size w w4 := bel_seq L3 (U4.bel b1.1 (fun b hb => b3 b (Or.inl hb)) (by have := L3.size; omega)); have hsame := same_any T4.one T4.other (fun _ _ => rfl) rfl HQN.out.1 HQN.out.2)
        | (go_at_call 12; refine hsame.mono ?_; rintro e w9 ⟨rfl, L9⟩))
      go_ret
      exact ⟨rfl, bel_trans L4 L9⟩
end Go.Proofs.Ytmmgaonlmpajbac
