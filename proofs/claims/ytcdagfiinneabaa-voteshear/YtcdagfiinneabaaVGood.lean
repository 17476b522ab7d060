/-
  What package votes answers: goodCall, goodVotes, Good.
-/
import Derived.Test.YtcdagfiinneabaaEqG
import Derived.Test.YtcdagfiinneabaaRefCount
namespace Go.Proofs.Ytcdagfiinneabaa
open Go.RowKit

theorem gindex (V : Nat → Int) (k : Nat) (h : k < 4) (W : World) : Sem.run Try.prog (Instr.index 36 (.agg (vcells V)) (.int .i64 (k : Int))) W = .ok (.int .i64 (V k)) W := by
  have hk : k = 0 ∨ k = 1 ∨ k = 2 ∨ k = 3 := by omega
  rcases hk with rfl | rfl | rfl | rfl
  · show _ = _; kernel_rfl
  · show _ = _; kernel_rfl
  · show _ = _; kernel_rfl
  · show _ = _; kernel_rfl

def winTo (V : Nat → Int) : Nat → Bool
  | 0 => true
  | n + 1 => winTo V n && win (V n) 0 10

theorem winTo_more {V : Nat → Int} {k : Nat} (h : winTo V (k + 1) = false) : ∀ n, k + 1 ≤ n → winTo V n = false
  | 0, hn => by omega
  | n + 1, hn => by
    by_cases he : n = k
    · rw [he]; exact h
    · have := winTo_more h n (by omega)
      simp [winTo, this]

set_option maxHeartbeats 1000000 in
theorem goodVotes_any (V : Nat → Int) (w : World) :
    Calls Try.prog 50 #[.agg (vcells V)] w fun e w' => e = .returned (.bool (winTo V 4)) ∧ Below w.heap.size w w' := by
  go_enter Try.func50, Try.ntmps50
  go_wp2_with (first | (refine wpList_load_row rfl 36 _ rfl w.heap.size rfl 36 (vcells V) (0, 0) _ (heap_alloc_new w _) Try.underlying36 rfl (by kernel_rfl) ?_))
  go_loop [6] (fun i => ∃ k : Nat, k ≤ 4 ∧ i = .int .i64 (k : Int) ∧ Hid (winTo V k = true)) (fun i => 4 - (intOf i).toNat)
  case atStart => exact ⟨0, by omega, rfl, rfl⟩
  case round =>
    obtain ⟨k, hk, rfl, HT⟩ := hrel
    by_cases hlt : k < 4
    · have c0 := gindex V k hlt
      cases h1 : win (V k) 0 10
      · go_wp2_with (first | (go_at_call 39; refine (within_any _ _ _ _).mono ?_; rintro e w' ⟨rfl, rfl⟩; rw [h1]))
        go_ret
        exact ⟨ret_bool (winTo_more (k := k) (by simp only [winTo, h1, Bool.and_false]) 4 (by omega)).symm, by go_grown⟩
      · go_wp2_with (first | (go_at_call 39; refine (within_any _ _ _ _).mono ?_; rintro e w' ⟨rfl, rfl⟩; rw [h1]))
        go_round
        case rel => exact ⟨k + 1, by omega, by go_num, by show winTo V (k + 1) = true; simp only [winTo, h1, HT.out, Bool.and_true]⟩
        case measure => simp [intOf]; omega
    · go_wp2
      go_ret
      obtain rfl : k = 4 := by omega
      exact ⟨ret_bool HT.out.symm, by go_grown⟩

theorem goodVotes_lit (V : Nat → Int) (w : World) :
    Calls Try.prog 50 #[.agg #[.int .i64 (V 0), .int .i64 (V 1), .int .i64 (V 2), .int .i64 (V 3)]] w fun e w' => e = .returned (.bool (winTo V 4)) ∧ Below w.heap.size w w' := goodVotes_any V w

theorem zero_call (W : World) : Sem.run Try.prog (zeroValue 45) W = .ok (.agg #[.bool false, .int .i64 0, .int .i64 0]) W := by
  show _ = _; kernel_rfl

set_option maxHeartbeats 1000000 in
theorem goodCall_any (p : Bool) (a b : Int) (r : Nat) (hr : r < 6) (w : World) :
    Calls Try.prog 49 #[.agg #[.bool p, .int .i64 a, .int .i64 b], .int .i64 (r : Int)] w fun e w' => e = .returned (.bool (if p then win a 1 9 && win b (-1) ((r : Int) - 1) else a == 0 && b == 0)) ∧ Below w.heap.size w w' := by
  have hz := zero_call
  have heq : ∀ W, _ := eq_call_gen 9998 false false a b 0 0
  simp only [beq_self_eq_true, Bool.true_and, Nat.reduceAdd] at heq
  cases p
  · go_enter Try.func49, Try.ntmps49
    go_wp2
    go_ret
    exact ⟨rfl, by go_grown⟩
  · cases h1 : win a 1 9
    · go_enter Try.func49, Try.ntmps49
      go_wp2_with (first | (go_at_call 54; refine (bvalue_any _ _).mono ?_; rintro e w' ⟨rfl, rfl⟩; rw [h1]) | (go_at_call 39; refine (within_any _ _ _ _).mono ?_; rintro e w' ⟨rfl, rfl⟩))
      go_ret
      exact ⟨rfl, by go_grown⟩
    · go_enter Try.func49, Try.ntmps49
      go_wp2_with (first | (go_at_call 54; refine (bvalue_any _ _).mono ?_; rintro e w' ⟨rfl, rfl⟩; rw [h1]) | (go_at_call 39; refine (within_any _ _ _ _).mono ?_; rintro e w' ⟨rfl, rfl⟩))
      go_ret
      exact ⟨rfl, by go_grown⟩
theorem okVotes4 (S : Sh) (k : Nat) : okVotes S k 4 = (winTo (S.wi k) 4 && winTo (S.pr k) 4) := by
  rw [Bool.eq_iff_iff]
  simp only [okVotes, okVote, winTo, Bool.and_eq_true, true_and]
  constructor
  · rintro ⟨⟨⟨⟨a, b⟩, c, d⟩, e, f⟩, g, h⟩; exact ⟨⟨⟨⟨a, c⟩, e⟩, g⟩, ⟨⟨b, d⟩, f⟩, h⟩
  · rintro ⟨⟨⟨⟨a, c⟩, e⟩, g⟩, ⟨⟨b, d⟩, f⟩, h⟩; exact ⟨⟨⟨⟨a, b⟩, c, d⟩, e, f⟩, g, h⟩

theorem okTo_more {S : Sh} {k : Nat} (h : okTo S (k + 1) = false) : ∀ n, k + 1 ≤ n → okTo S n = false
  | 0, hn => by omega
  | n + 1, hn => by
    by_cases he : n = k
    · rw [he]; exact h
    · have := okTo_more h n (by omega)
      simp [okTo, this]
theorem ok_stop {S : Sh} {k : Nat} (hk : k < 6) (h : (okCall S k && (winTo (S.wi k) 4 && winTo (S.pr k) 4)) = false) : goodS S = false := by
  refine okTo_more (k := k) ?_ 6 (by omega)
  show (okTo S k && okCall S k && okVotes S k 4) = false
  rw [okVotes4, Bool.and_assoc, h, Bool.and_false]
theorem ok_next {S : Sh} {k : Nat} (h0 : okTo S k = true) (h1 : okCall S k = true) (h2 : winTo (S.wi k) 4 = true) (h3 : winTo (S.pr k) 4 = true) : okTo S (k + 1) = true := by
  show (okTo S k && okCall S k && okVotes S k 4) = true
  rw [okVotes4, h0, h1, h2, h3]; rfl
theorem okVotes_zero (S : Sh) (k : Nat) (h : ∀ i, i < 4 → S.wi k i = 0 ∧ S.pr k i = 0) : ∀ n, n ≤ 4 → okVotes S k n = true
  | 0, _ => rfl
  | n + 1, hn => by
    have a := okVotes_zero S k h n (by omega)
    obtain ⟨b, c⟩ := h n (by omega)
    simp only [okVotes, okVote, a, b, c]; rfl
theorem good_zero (S : Sh) (h : eqS S zS = true) : goodS S = true := by
  have hz := eqS_zero S h
  have key : ∀ n, n ≤ 6 → okTo S n = true := by
    intro n
    induction n with
    | zero => intro _; rfl
    | succ n ih =>
      intro hn
      obtain ⟨a, b, c, d⟩ := hz n (by omega)
      show (okTo S n && okCall S n && okVotes S n 4) = true
      rw [ih (by omega), okVotes_zero S n d 4 (by omega)]
      simp [okCall, a, b, c]
  exact key 6 (by omega)

set_option maxRecDepth 100000 in
set_option maxHeartbeats 2000000 in
theorem vgood_any (S : Sh) (w : World) :
    Calls Try.prog 33 #[.agg S.cells] w fun e w' => e = .returned (.bool (goodS S)) ∧ Below w.heap.size w w' := by
  have hz := run_zero
  have heq := eq_sheet_gen S zS
  have hi37 := info37 S
  have B0 : Blk (w.alloc (.cells S.cells 49)) w.heap.size S.cells 49 := Blk.new w _ _
  cases hzero : eqS S zS
  · rw [hzero] at heq
    go_enter Try.func33, Try.ntmps33
    go_wp2_with (first | (refine wpList_load_blk rfl 49 _ rfl w.heap.size rfl 49 S.cells _ B0 Try.underlying49 rfl hi37 ?_))
    clear hz heq hi37 hzero
    go_loopw [7] (fun i W => ∃ k : Nat, k ≤ 6 ∧ i = .int .i64 (k : Int) ∧ Hid (okTo S k = true) ∧ Blk W w.heap.size S.cells 49 ∧ Below w.heap.size w W) (fun i _ => 6 - (intOf i).toNat)
    case atStart => exact ⟨0, by omega, rfl, rfl, B0, by go_grown⟩
    case round =>
      clear B0
      rename_i W
      obtain ⟨k, hk, rfl, HT, B, hB⟩ := hrel
      by_cases hlt : k < 6
      · have c0 := B.cell (k * 3)
        have c1 := B.cell (k * 3 + 1)
        have c2 := B.cell (k * 3 + 2)
        rw [cells_is S k hlt] at c0
        rw [cells_val S k hlt] at c1
        rw [cells_vld S k hlt] at c2
        have hc : okCall S k = (if S.is k then win (S.val k) 1 9 && win (S.vld k) (-1) ((k : Int) - 1) else S.val k == 0 && S.vld k == 0) := rfl
        cases h1 : okCall S k
        · rw [hc] at h1
          go_wp2_with fail
          refine (goodCall_any _ _ _ k hlt _).mono ?_
          rintro e w1 ⟨rfl, hb1⟩
          rw [h1]
          go_wp2
          go_ret
          exact ⟨ret_bool (ok_stop hlt (by rw [hc, h1]; rfl)).symm, bel_trans hB hb1⟩
        · have h1' := h1
          rw [hc] at h1
          go_wp2_with fail
          refine (goodCall_any _ _ _ k hlt _).mono ?_
          rintro e w1 ⟨rfl, hb1⟩
          rw [h1]
          have B1 := B.below hb1
          have a0 := B1.cell (18 + k * 4)
          have a1 := B1.cell (18 + k * 4 + 1)
          have a2 := B1.cell (18 + k * 4 + 2)
          have a3 := B1.cell (18 + k * 4 + 3)
          rw [show 18 + k * 4 = 18 + k * 4 + 0 from rfl, cells_wi S k _ hlt (by omega), Nat.add_zero] at a0
          rw [cells_wi S k _ hlt (by omega)] at a1 a2 a3
          go_wp2_with fail
          refine (goodVotes_lit (S.wi k) _).mono ?_
          rintro e w2 ⟨rfl, hb2⟩
          have B2 := B1.below hb2
          have b0 := B2.cell (42 + k * 4)
          have b1 := B2.cell (42 + k * 4 + 1)
          have b2 := B2.cell (42 + k * 4 + 2)
          have b3 := B2.cell (42 + k * 4 + 3)
          rw [show 42 + k * 4 = 42 + k * 4 + 0 from rfl, cells_pr S k _ hlt (by omega), Nat.add_zero] at b0
          rw [cells_pr S k _ hlt (by omega)] at b1 b2 b3
          clear B1 a0 a1 a2 a3 c0 c1 c2 B
          have hbb := bel_trans (bel_trans hB hb1) hb2
          clear hB hb1 hb2
          cases h2 : winTo (S.wi k) 4
          · go_wp2
            go_ret
            exact ⟨ret_bool (ok_stop hlt (by rw [h2, Bool.false_and, Bool.and_false])).symm, hbb⟩
          · go_wp2_with fail
            refine (goodVotes_lit (S.pr k) _).mono ?_
            rintro e w3 ⟨rfl, hb3⟩
            cases h3 : winTo (S.pr k) 4
            · go_wp2
              go_ret
              exact ⟨ret_bool (ok_stop hlt (by rw [h3, Bool.and_false, Bool.and_false])).symm, bel_trans hbb hb3⟩
            · go_wp2
              go_roundw
              case rel => exact ⟨k + 1, by omega, by go_num, ok_next HT.out h1' h2 h3, B2.below hb3, bel_trans hbb hb3⟩
              case measure => simp [intOf]; omega
      · obtain rfl : k = 6 := by omega
        go_wp2
        go_ret
        exact ⟨ret_bool HT.out.symm, hB⟩
  · rw [hzero] at heq
    have hgd := good_zero S hzero
    go_enter Try.func33, Try.ntmps33
    go_wp2_with (first | (refine wpList_load_blk rfl 49 _ rfl w.heap.size rfl 49 S.cells _ B0 Try.underlying49 rfl hi37 ?_))
    go_ret
    exact ⟨ret_bool hgd.symm, by go_grown⟩
end Go.Proofs.Ytcdagfiinneabaa
