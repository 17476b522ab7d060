/-
  What package votes answers: goodCall, goodVotes, Good.
  The landed package node: Good, and what it is made of.
  The landed package node: Good.
-/
import Derived.Test.YtmmgaonlmpajbacGreatNodeB
import Derived.Test.YtmmgaonlmpajbacGreatBase
import Derived.Test.YtmmgaonlmpajbacGreatTurnQ
namespace Go.Proofs.YtmmgaonlmpajbacGreat
open Go.RowKit

theorem gindex (V : Nat → Int) (k : Nat) (h : k < 4) (W : World) : Sem.run Tryz.prog (Instr.index 43 (.agg (vcells V)) (.int .i64 (k : Int))) W = .ok (.int .i64 (V k)) W := by
  have hk : k = 0 ∨ k = 1 ∨ k = 2 ∨ k = 3 := by omega
  rcases hk with rfl | rfl | rfl | rfl
  · show _ = _; kernel_rfl
  · show _ = _; kernel_rfl
  · show _ = _; kernel_rfl
  · show _ = _; kernel_rfl

def winTo (V : Nat → Int) : Nat → Bool
  | 0 => true
  | n + 1 => winTo V n && win (V n) 0 10

theorem winTo_more {V : Nat → Int} {k : Nat} (h : winTo V (k + 1) = false) : ∀ n, k + 1 ≤ n → winTo V n = false
  | 0, hn => by omega
  | n + 1, hn => by
    by_cases he : n = k
    · rw [he]; exact h
    · have := winTo_more h n (by omega)
      simp [winTo, this]

set_option maxHeartbeats 1000000 in
theorem goodVotes_any (V : Nat → Int) (w : World) :
    Calls Tryz.prog 104 #[.agg (vcells V)] w fun e w' => e = .returned (.bool (winTo V 4)) ∧ Below w.heap.size w w' := by
  go_enter Tryz.func104, Tryz.ntmps104
  go_wp2_with (first | (refine wpList_load_row rfl 43 _ rfl w.heap.size rfl 43 (vcells V) (0, 0) _ (heap_alloc_new w _) Tryz.underlying43 rfl (by kernel_rfl) ?_))
  go_loop [6] (fun i => ∃ k : Nat, k ≤ 4 ∧ i = .int .i64 (k : Int) ∧ Hid (winTo V k = true)) (fun i => 4 - (intOf i).toNat)
  case atStart => exact ⟨0, by omega, rfl, rfl⟩
  case round =>
    obtain ⟨k, hk, rfl, HT⟩ := hrel
    by_cases hlt : k < 4
    · have c0 := gindex V k hlt
      cases h1 : win (V k) 0 10
      · go_wp2_with (first | (go_at_call 32; refine (within_any _ _ _ _).mono ?_; rintro e w' ⟨rfl, rfl⟩; rw [h1]))
        go_ret
        exact ⟨ret_bool (winTo_more (k := k) (by simp only [winTo, h1, Bool.and_false]) 4 (by omega)).symm, by go_grown⟩
      · go_wp2_with (first | (go_at_call 32; refine (within_any _ _ _ _).mono ?_; rintro e w' ⟨rfl, rfl⟩; rw [h1]))
        go_round
        case rel => exact ⟨k + 1, by omega, by go_num, by show winTo V (k + 1) = true; simp only [winTo, h1, HT.out, Bool.and_true]⟩
        case measure => simp [intOf]; omega
    · go_wp2
      go_ret
      obtain rfl : k = 4 := by omega
      exact ⟨ret_bool HT.out.symm, by go_grown⟩

theorem goodVotes_lit (V : Nat → Int) (w : World) :
    Calls Tryz.prog 104 #[.agg #[.int .i64 (V 0), .int .i64 (V 1), .int .i64 (V 2), .int .i64 (V 3)]] w fun e w' => e = .returned (.bool (winTo V 4)) ∧ Below w.heap.size w w' := goodVotes_any V w

theorem zero_call (W : World) : Sem.run Tryz.prog (zeroValue 41) W = .ok (.agg #[.bool false, .int .i64 0, .int .i64 0]) W := by
  show _ = _; kernel_rfl

set_option maxHeartbeats 1000000 in
theorem goodCall_any (p : Bool) (a b : Int) (r : Nat) (hr : r < 6) (w : World) :
    Calls Tryz.prog 103 #[.agg #[.bool p, .int .i64 a, .int .i64 b], .int .i64 (r : Int)] w fun e w' => e = .returned (.bool (if p then win a 1 9 && win b (-1) ((r : Int) - 1) else a == 0 && b == 0)) ∧ Below w.heap.size w w' := by
  have hz := zero_call
  have heq : ∀ W, _ := eq_call_gen 9998 false false a b 0 0
  simp only [beq_self_eq_true, Bool.true_and, Nat.reduceAdd] at heq
  cases p
  · go_enter Tryz.func103, Tryz.ntmps103
    go_wp2
    go_ret
    exact ⟨rfl, by go_grown⟩
  · cases h1 : win a 1 9
    · go_enter Tryz.func103, Tryz.ntmps103
      go_wp2_with (first | (go_at_call 53; refine (bvalue_any _ _).mono ?_; rintro e w' ⟨rfl, rfl⟩; rw [h1]) | (go_at_call 32; refine (within_any _ _ _ _).mono ?_; rintro e w' ⟨rfl, rfl⟩))
      go_ret
      exact ⟨rfl, by go_grown⟩
    · go_enter Tryz.func103, Tryz.ntmps103
      go_wp2_with (first | (go_at_call 53; refine (bvalue_any _ _).mono ?_; rintro e w' ⟨rfl, rfl⟩; rw [h1]) | (go_at_call 32; refine (within_any _ _ _ _).mono ?_; rintro e w' ⟨rfl, rfl⟩))
      go_ret
      exact ⟨rfl, by go_grown⟩
theorem okVotes4 (S : Sh) (k : Nat) : okVotes S k 4 = (winTo (S.wi k) 4 && winTo (S.pr k) 4) := by
  rw [Bool.eq_iff_iff]
  simp only [okVotes, okVote, winTo, Bool.and_eq_true, true_and]
  constructor
  · rintro ⟨⟨⟨⟨a, b⟩, c, d⟩, e, f⟩, g, h⟩; exact ⟨⟨⟨⟨a, c⟩, e⟩, g⟩, ⟨⟨b, d⟩, f⟩, h⟩
  · rintro ⟨⟨⟨⟨a, c⟩, e⟩, g⟩, ⟨⟨b, d⟩, f⟩, h⟩; exact ⟨⟨⟨⟨a, b⟩, c, d⟩, e, f⟩, g, h⟩

theorem okTo_more {S : Sh} {k : Nat} (h : okTo S (k + 1) = false) : ∀ n, k + 1 ≤ n → okTo S n = false
  | 0, hn => by omega
  | n + 1, hn => by
    by_cases he : n = k
    · rw [he]; exact h
    · have := okTo_more h n (by omega)
      simp [okTo, this]
theorem ok_stop {S : Sh} {k : Nat} (hk : k < 6) (h : (okCall S k && (winTo (S.wi k) 4 && winTo (S.pr k) 4)) = false) : goodS S = false := by
  refine okTo_more (k := k) ?_ 6 (by omega)
  show (okTo S k && okCall S k && okVotes S k 4) = false
  rw [okVotes4, Bool.and_assoc, h, Bool.and_false]
theorem ok_next {S : Sh} {k : Nat} (h0 : okTo S k = true) (h1 : okCall S k = true) (h2 : winTo (S.wi k) 4 = true) (h3 : winTo (S.pr k) 4 = true) : okTo S (k + 1) = true := by
  show (okTo S k && okCall S k && okVotes S k 4) = true
  rw [okVotes4, h0, h1, h2, h3]; rfl
theorem okVotes_zero (S : Sh) (k : Nat) (h : ∀ i, i < 4 → S.wi k i = 0 ∧ S.pr k i = 0) : ∀ n, n ≤ 4 → okVotes S k n = true
  | 0, _ => rfl
  | n + 1, hn => by
    have a := okVotes_zero S k h n (by omega)
    obtain ⟨b, c⟩ := h n (by omega)
    simp only [okVotes, okVote, a, b, c]; rfl
theorem good_zero (S : Sh) (h : eqS S zS = true) : goodS S = true := by
  have hz := eqS_zero S h
  have key : ∀ n, n ≤ 6 → okTo S n = true := by
    intro n
    induction n with
    | zero => intro _; rfl
    | succ n ih =>
      intro hn
      obtain ⟨a, b, c, d⟩ := hz n (by omega)
      show (okTo S n && okCall S n && okVotes S n 4) = true
      rw [ih (by omega), okVotes_zero S n d 4 (by omega)]
      simp [okCall, a, b, c]
  exact key 6 (by omega)

set_option maxRecDepth 100000 in
set_option maxHeartbeats 2000000 in
theorem vgood_any (S : Sh) (w : World) :
    Calls Tryz.prog 95 #[.agg S.cells] w fun e w' => e = .returned (.bool (goodS S)) ∧ Below w.heap.size w w' := by
  have hz := run_zero
  have heq := eq_sheet_gen S zS
  have hi37 := info37 S
  have B0 : Blk (w.alloc (.cells S.cells 46)) w.heap.size S.cells 46 := Blk.new w _ _
  cases hzero : eqS S zS
  · rw [hzero] at heq
    go_enter Tryz.func95, Tryz.ntmps95
    go_wp2_with (first | (refine wpList_load_blk rfl 46 _ rfl w.heap.size rfl 46 S.cells _ B0 Tryz.underlying46 rfl hi37 ?_))
    clear hz heq hi37 hzero
    go_loopw [7] (fun i W => ∃ k : Nat, k ≤ 6 ∧ i = .int .i64 (k : Int) ∧ Hid (okTo S k = true) ∧ Blk W w.heap.size S.cells 46 ∧ Below w.heap.size w W) (fun i _ => 6 - (intOf i).toNat)
    case atStart => exact ⟨0, by omega, rfl, rfl, B0, by go_grown⟩
    case round =>
      clear B0
      rename_i W
      obtain ⟨k, hk, rfl, HT, B, hB⟩ := hrel
      by_cases hlt : k < 6
      · have c0 := B.cell (k * 3)
        have c1 := B.cell (k * 3 + 1)
        have c2 := B.cell (k * 3 + 2)
        rw [cells_is S k hlt] at c0
        rw [cells_val S k hlt] at c1
        rw [cells_vld S k hlt] at c2
        have hc : okCall S k = (if S.is k then win (S.val k) 1 9 && win (S.vld k) (-1) ((k : Int) - 1) else S.val k == 0 && S.vld k == 0) := rfl
        cases h1 : okCall S k
        · rw [hc] at h1
          go_wp2_with fail
          refine (goodCall_any _ _ _ k hlt _).mono ?_
          rintro e w1 ⟨rfl, hb1⟩
          rw [h1]
          go_wp2
          go_ret
          exact ⟨ret_bool (ok_stop hlt (by rw [hc, h1]; rfl)).symm, bel_trans hB hb1⟩
        · have h1' := h1
          rw [hc] at h1
          go_wp2_with fail
          refine (goodCall_any _ _ _ k hlt _).mono ?_
          rintro e w1 ⟨rfl, hb1⟩
          rw [h1]
          have B1 := B.below hb1
          have a0 := B1.cell (18 + k * 4)
          have a1 := B1.cell (18 + k * 4 + 1)
          have a2 := B1.cell (18 + k * 4 + 2)
          have a3 := B1.cell (18 + k * 4 + 3)
          rw [show 18 + k * 4 = 18 + k * 4 + 0 from rfl, cells_wi S k _ hlt (by omega), Nat.add_zero] at a0
          rw [cells_wi S k _ hlt (by omega)] at a1 a2 a3
          go_wp2_with fail
          refine (goodVotes_lit (S.wi k) _).mono ?_
          rintro e w2 ⟨rfl, hb2⟩
          have B2 := B1.below hb2
          have b0 := B2.cell (42 + k * 4)
          have b1 := B2.cell (42 + k * 4 + 1)
          have b2 := B2.cell (42 + k * 4 + 2)
          have b3 := B2.cell (42 + k * 4 + 3)
          rw [show 42 + k * 4 = 42 + k * 4 + 0 from rfl, cells_pr S k _ hlt (by omega), Nat.add_zero] at b0
          rw [cells_pr S k _ hlt (by omega)] at b1 b2 b3
          clear B1 a0 a1 a2 a3 c0 c1 c2 B
          have hbb := bel_trans (bel_trans hB hb1) hb2
          clear hB hb1 hb2
          cases h2 : winTo (S.wi k) 4
          · go_wp2
            go_ret
            exact ⟨ret_bool (ok_stop hlt (by rw [h2, Bool.false_and, Bool.and_false])).symm, hbb⟩
          · go_wp2_with fail
            refine (goodVotes_lit (S.pr k) _).mono ?_
            rintro e w3 ⟨rfl, hb3⟩
            cases h3 : winTo (S.pr k) 4
            · go_wp2
              go_ret
              exact ⟨ret_bool (ok_stop hlt (by rw [h3, Bool.and_false, Bool.and_false])).symm, bel_trans hbb hb3⟩
            · go_wp2
              go_roundw
              case rel => exact ⟨k + 1, by omega, by go_num, ok_next HT.out h1' h2 h3, B2.below hb3, bel_trans hbb hb3⟩
              case measure => simp [intOf]; omega
      · obtain rfl : k = 6 := by omega
        go_wp2
        go_ret
        exact ⟨ret_bool HT.out.symm, hB⟩
  · rw [hzero] at heq
    have hgd := good_zero S hzero
    go_enter Tryz.func95, Tryz.ntmps95
    go_wp2_with (first | (refine wpList_load_blk rfl 46 _ rfl w.heap.size rfl 46 S.cells _ B0 Tryz.underlying46 rfl hi37 ?_))
    go_ret
    exact ⟨ret_bool hgd.symm, by go_grown⟩
end Go.Proofs.YtmmgaonlmpajbacGreat
namespace Go.Proofs.YtmmgaonlmpajbacGreat
open Go.RowKit

/-- A value held since a round. -/
def since (v i r : Int) : Bool := if i = -1 then v == 0 else win v 1 9 && win i 0 r
theorem since_eq (v i r : Int) : since v i r = okPair v i r := by
  unfold since okPair
  by_cases h : i = -1
  · rw [if_pos h]
    subst h
    simp [win]
  · rw [if_neg h]
    have : (i == -1) = false := by simpa using h
    rw [this]; simp
set_option maxHeartbeats 1000000 in
theorem goodSince_any (v i r : Int) (w : World) :
    Calls Tryz.prog 78 #[.int .i64 v, .int .i64 i, .int .i64 r] w fun e w' => e = .returned (.bool (since v i r)) ∧ w' = w := by
  by_cases h : i = -1
  · subst h
    go_enter Tryz.func78, Tryz.ntmps78
    go_wp2
    go_ret
    exact ⟨ret_bool (by simp [since]), rfl⟩
  · have hb : (i == -1) = false := by simpa using h
    have hs : Hid (since v i r = (win v 1 9 && win i 0 r)) := if_neg h
    cases h1 : win v 1 9
    · go_enter Tryz.func78, Tryz.ntmps78
      go_wp2_with (first
        | (go_at_call 53; refine (bvalue_any _ _).mono ?_; rw [h1]; rintro e w' ⟨rfl, rfl⟩))
      go_ret
      exact ⟨ret_bool (by rw [hs.out, h1]; rfl), rfl⟩
    · go_enter Tryz.func78, Tryz.ntmps78
      go_wp2_with (first
        | (go_at_call 53; refine (bvalue_any _ _).mono ?_; rw [h1]; rintro e w' ⟨rfl, rfl⟩)
        | (go_at_call 32; refine (within_any _ _ _ _).mono ?_; rintro e w' ⟨rfl, rfl⟩))
      go_ret
      exact ⟨ret_bool (by rw [hs.out, h1]; simp), rfl⟩

def setTo (n : NI) : Nat → Bool
  | 0 => true
  | k + 1 => setTo n k && okSettled n k
def scells (n : NI) : Array Value := #[.int .i64 (n.settled 0), .int .i64 (n.settled 1), .int .i64 (n.settled 2), .int .i64 (n.settled 3)]
theorem index_set (n : NI) (r : Nat) (hr : r < 4) (W : World) : Sem.run Tryz.prog (Instr.index 31 (.agg (scells n)) (.int .i64 (r : Int))) W = .ok (.int .i64 (n.settled r)) W := by
  have hc : r = 0 ∨ r = 1 ∨ r = 2 ∨ r = 3 := by omega
  rcases hc with rfl | rfl | rfl | rfl
  · show _ = _; kernel_rfl
  · show _ = _; kernel_rfl
  · show _ = _; kernel_rfl
  · show _ = _; kernel_rfl
theorem setTo_false {n : NI} {k m : Nat} (h : setTo n k = false) (hm : k ≤ m) : setTo n m = false := by
  induction m with
  | zero => obtain rfl : k = 0 := by omega
            exact h
  | succ m ih =>
    by_cases e : k = m + 1
    · subst e; exact h
    · simp only [setTo, ih (by omega), Bool.false_and]

set_option maxRecDepth 100000 in
set_option maxHeartbeats 2000000 in
theorem goodSettled_any (n : NI) (w : World) :
    Calls Tryz.prog 79 #[.agg (scells n), .int .i64 n.height] w fun e w' => e = .returned (.bool (setTo n 4)) ∧ Below w.heap.size w w' := by
  have B0 : Blk (w.alloc (.cells (scells n) 31)) w.heap.size (scells n) 31 := Blk.new w _ _
  have hi : (Tryz.prog.info? 31).map (·.size) = some (scells n).size := by show _ = some 4; kernel_rfl
  have hbel : Below w.heap.size w (w.alloc (.cells (scells n) 31)) := by go_grown
  go_enter Tryz.func79, Tryz.ntmps79
  go_wp2_with (first | (refine wpList_load_blk rfl 31 _ rfl w.heap.size rfl 31 _ _ B0 Tryz.underlying31 rfl hi ?_))
  clear B0
  generalize (w.alloc (.cells (scells n) 31)) = W1 at hbel ⊢
  go_loopw [8] (fun i W => W = W1 ∧ ∃ k : Nat, k ≤ 4 ∧ i = .int .i64 (k : Int) ∧ Hid (setTo n k = true)) (fun i _ => 4 - (intOf i).toNat)
  case atStart => exact ⟨rfl, 0, by omega, rfl, rfl⟩
  case round =>
    obtain ⟨hW, k, hk, rfl, hst⟩ := hrel
    subst hW
    by_cases hlt : k < 4
    · have hlti : (k : Int) < 4 := by omega
      have hix := index_set n k hlt
      have hsu : Hid (setTo n (k + 1) = okSettled n k) := by show _ = _; simp [setTo, hst.out]
      generalize hu : n.settled k = u at hix
      by_cases h1 : (k : Int) < n.height
      · have hok : Hid (okSettled n k = win u 1 9) := by show _ = _; unfold okSettled; rw [if_pos h1, hu]
        clear hu
        cases h2 : win u 1 9
        · go_wp2_with (first | (go_at_call 53; refine (bvalue_any _ _).mono ?_; rw [h2]; rintro e w' ⟨rfl, hw'⟩; obtain rfl := hw'.symm))
          go_ret
          exact ⟨ret_bool (by rw [setTo_false (k := k + 1) (by rw [hsu.out, hok.out, h2]) (by omega)]), hbel⟩
        · have hge : ¬ n.height ≤ (k : Int) := by omega
          go_wp2_with (first | (go_at_call 53; refine (bvalue_any _ _).mono ?_; rw [h2]; rintro e w' ⟨rfl, hw'⟩; obtain rfl := hw'.symm))
          go_roundw
          case measure => simp [intOf]; omega
          case rel => exact ⟨by simp, k + 1, by omega, by go_num, by rw [show Hid (setTo n (k + 1) = true) = (setTo n (k + 1) = true) from rfl, hsu.out, hok.out, h2]⟩
      · have hok : Hid (okSettled n k = (u == 0)) := by show _ = _; unfold okSettled; rw [if_neg h1, hu]
        clear hu
        have hge : n.height ≤ (k : Int) := by omega
        cases h2 : (u == 0)
        · have h3 : (u != 0) = true := by simp at h2 ⊢; exact h2
          go_wp2
          go_ret
          exact ⟨ret_bool (by rw [setTo_false (k := k + 1) (by rw [hsu.out, hok.out, h2]) (by omega)]), hbel⟩
        · have h3 : (u != 0) = false := by simp at h2 ⊢; exact h2
          go_wp2
          go_roundw
          case measure => simp [intOf]; omega
          case rel => exact ⟨by simp, k + 1, by omega, by go_num, by rw [show Hid (setTo n (k + 1) = true) = (setTo n (k + 1) = true) from rfl, hsu.out, hok.out, h2]⟩
    · have hlti : ¬ (k : Int) < 4 := by omega
      have hk4 : Hid (k = 4) := show k = 4 by omega
      go_wp2
      go_ret
      have := hst.out
      rw [hk4.out] at this
      exact ⟨ret_bool this.symm, hbel⟩

set_option maxHeartbeats 1000000 in
theorem goodQueue_any (l : List Int) (qa : Option Addr) (qc : Nat) (w : World) (hq : Ints w (.slice qa l.length qc) l) (hl : l.length < 4611686018427387904) :
    Calls Tryz.prog 80 #[.slice qa l.length qc] w fun e w' => e = .returned (.bool (decide (l.length < 7) && okQueue l l.length)) ∧ w' = w := by
  by_cases h : l.length < 7
  · have hi : (l.length : Int) ≤ 6 := by omega
    go_enter Tryz.func80, Tryz.ntmps80
    go_wp2_with (first | (go_at_call 93; refine (contains_any l qa qc _ hq (by omega)).mono ?_; rintro e w' ⟨rfl, rfl⟩))
    go_ret
    exact ⟨ret_bool (by simp [h]), rfl⟩
  · have hi : ¬ (l.length : Int) ≤ 6 := by omega
    go_enter Tryz.func80, Tryz.ntmps80
    go_wp2
    go_ret
    exact ⟨ret_bool (by simp), rfl⟩

def sheetsTo (n : NI) : Nat → Bool
  | 0 => true
  | k + 1 => sheetsTo n k && goodS (n.heard k)
theorem sheetsTo_false {n : NI} {k m : Nat} (h : sheetsTo n k = false) (hm : k ≤ m) : sheetsTo n m = false := by
  induction m with
  | zero => obtain rfl : k = 0 := by omega
            exact h
  | succ m ih =>
    by_cases e : k = m + 1
    · subst e; exact h
    · simp only [sheetsTo, ih (by omega), Bool.false_and]
theorem info_sh (S : Sh) : (Tryz.prog.info? 46).map (·.size) = some S.cells.size := by rw [cells_size]; kernel_rfl

set_option maxHeartbeats 2000000 in
theorem goodSheets_any (n : NI) (g : Nat) (t : TypeId) (w : World) (B : Blk w g n.cells t) :
    Calls Tryz.prog 81 #[.pointer (some ⟨g, 13, none⟩)] w fun e w' => e = .returned (.bool (sheetsTo n 4)) ∧ Below w.heap.size w w' := by
  go_enter Tryz.func81, Tryz.ntmps81
  go_wp2
  go_loopw [4] (fun i W => ∃ k : Nat, k ≤ 4 ∧ i = .int .i64 (k : Int) ∧ Hid (sheetsTo n k = true) ∧ Blk W g n.cells t ∧ Below w.heap.size w W) (fun i _ => 4 - (intOf i).toNat)
  case atStart => exact ⟨0, by omega, rfl, rfl, B, Below.refl _ _⟩
  case round =>
    clear B
    obtain ⟨k, hk, rfl, hst, B, L⟩ := hrel
    by_cases hlt : k < 4
    · have hlti : (k : Int) < 4 := by omega
      have hr := heard_range B (n.heard k) (fun j hj => ncells_heard n k j hlt hj)
      have hi := info_sh (n.heard k)
      have hsu : Hid (sheetsTo n (k + 1) = goodS (n.heard k)) := by show _ = _; simp [sheetsTo, hst.out]
      cases h2 : goodS (n.heard k)
      · go_wp2_with (first
          | (refine wpList_load_part (by rfl) 46 _ rfl g (13 + k * 66) rfl (n.heard k).cells _ hr Tryz.underlying46 rfl hi ?_)
          | (go_at_call 95; refine (vgood_any (n.heard k) _).mono ?_; rw [h2]; rintro e w1 ⟨rfl, hb⟩))
        go_ret
        exact ⟨ret_bool (by rw [sheetsTo_false (k := k + 1) (by rw [hsu.out, h2]) (by omega)]), bel_trans L hb⟩
      · go_wp2_with (first
          | (refine wpList_load_part (by rfl) 46 _ rfl g (13 + k * 66) rfl (n.heard k).cells _ hr Tryz.underlying46 rfl hi ?_)
          | (go_at_call 95; refine (vgood_any (n.heard k) _).mono ?_; rw [h2]; rintro e w1 ⟨rfl, hb⟩))
        go_roundw
        case measure => simp [intOf]; omega
        case rel => exact ⟨k + 1, by omega, by go_num, by rw [show Hid (sheetsTo n (k + 1) = true) = (sheetsTo n (k + 1) = true) from rfl, hsu.out, h2], B.below hb, bel_trans L hb⟩
    · have hlti : ¬ (k : Int) < 4 := by omega
      have hk4 : Hid (k = 4) := show k = 4 by omega
      go_wp2
      go_ret
      have := hst.out
      rw [hk4.out] at this
      exact ⟨ret_bool this.symm, L⟩
end Go.Proofs.YtmmgaonlmpajbacGreat
namespace Go.Proofs.YtmmgaonlmpajbacGreat
open Go.RowKit

/-- The landed order of the tests. -/
def landN (n : NI) (l : List Int) : Bool := (win n.height 0 4) && (win n.round 0 5) && (win n.step 0 2) && (since n.bound n.boundIn n.round) && (since n.valid n.validIn n.round) && (setTo n 4) && (decide (l.length < 7) && okQueue l l.length) && (sheetsTo n 4)
theorem goodN_land (n : NI) (l : List Int) : landN n l = goodN n l := by
  have h4 : okHeights n 4 = (sheetsTo n 4 && setTo n 4) := by
    simp only [okHeights, sheetsTo, setTo]
    cases goodS (n.heard 0) <;> cases goodS (n.heard 1) <;> cases goodS (n.heard 2) <;> cases goodS (n.heard 3) <;> simp
  have hl : decide ((l.length : Int) < 7) = decide (l.length < 7) := by
    by_cases h : l.length < 7
    · rw [decide_eq_true h, decide_eq_true (by omega)]
    · rw [decide_eq_false h, decide_eq_false (by omega)]
  unfold landN goodN okHead
  rw [h4, since_eq, since_eq, hl]
  cases win n.height 0 4 <;> cases win n.round 0 5 <;> cases win n.step 0 2 <;> cases okPair n.bound n.boundIn n.round <;> cases okPair n.valid n.validIn n.round <;> cases setTo n 4 <;> cases decide (l.length < 7) <;> cases okQueue l l.length <;> cases sheetsTo n 4 <;> rfl

set_option maxRecDepth 100000 in
set_option maxHeartbeats 4000000 in
theorem good_case1 (n : NI) (l : List Int) (qa : Option Addr) (qc : Nat) (_hqv : n.q = .slice qa l.length qc) (w : World) (hq : Ints w (.slice qa l.length qc) l) (_hl : l.length < 4611686018427387904) (h1 : win n.height 0 4 = false) :
    Calls Tryz.prog 57 #[.agg n.cells] w fun e w' => e = .returned (.bool false) ∧ Below w.heap.size w w' := by
  have B0 : Blk (w.alloc (.cells n.cells 50)) w.heap.size n.cells 50 := Blk.new w _ _
  have hqW := hq.keep (show Below w.heap.size w (w.alloc (.cells n.cells 50)) by go_grown)
  have hbel : Below w.heap.size w (w.alloc (.cells n.cells 50)) := by go_grown
  have hc1 : ∀ W, Calls Tryz.prog 32 #[.int .i64 n.height, .int .i64 0, .int .i64 4] W fun e w' => e = .returned (.bool false) ∧ w' = W := fun W => by have := within_any n.height 0 4 W; rwa [h1] at this
  clear h1
  have c0 : n.cells[0]? = some (.int .i64 n.height) := ncells_num n 0 (by omega)
  have c1 : n.cells[1]? = some (.int .i64 n.round) := ncells_num n 1 (by omega)
  have c2 : n.cells[2]? = some (.int .i64 n.step) := ncells_num n 2 (by omega)
  have c3 : n.cells[3]? = some (.int .i64 n.bound) := ncells_num n 3 (by omega)
  have c4 : n.cells[4]? = some (.int .i64 n.boundIn) := ncells_num n 4 (by omega)
  have c5 : n.cells[5]? = some (.int .i64 n.valid) := ncells_num n 5 (by omega)
  have c6 : n.cells[6]? = some (.int .i64 n.validIn) := ncells_num n 6 (by omega)
  have s0 : n.cells[277]? = some (.int .i64 (n.settled 0)) := ncells_settled n 0 (by omega)
  have s1 : n.cells[278]? = some (.int .i64 (n.settled 1)) := ncells_settled n 1 (by omega)
  have s2 : n.cells[279]? = some (.int .i64 (n.settled 2)) := ncells_settled n 2 (by omega)
  have s3 : n.cells[280]? = some (.int .i64 (n.settled 3)) := ncells_settled n 3 (by omega)
  go_enter Tryz.func57, Tryz.ntmps57
  go_wp2_with (first
    | (go_at_call 32; refine (hc1 _).mono ?_; clear hc1; rintro e w' ⟨rfl, hw'⟩; obtain rfl := hw'.symm))
  go_ret
  exact ⟨rfl, hbel⟩
set_option maxRecDepth 100000 in
set_option maxHeartbeats 4000000 in
theorem good_case2 (n : NI) (l : List Int) (qa : Option Addr) (qc : Nat) (_hqv : n.q = .slice qa l.length qc) (w : World) (hq : Ints w (.slice qa l.length qc) l) (_hl : l.length < 4611686018427387904) (h1 : win n.height 0 4 = true) (h2 : win n.round 0 5 = false) :
    Calls Tryz.prog 57 #[.agg n.cells] w fun e w' => e = .returned (.bool false) ∧ Below w.heap.size w w' := by
  have B0 : Blk (w.alloc (.cells n.cells 50)) w.heap.size n.cells 50 := Blk.new w _ _
  have hqW := hq.keep (show Below w.heap.size w (w.alloc (.cells n.cells 50)) by go_grown)
  have hbel : Below w.heap.size w (w.alloc (.cells n.cells 50)) := by go_grown
  have hc1 : ∀ W, Calls Tryz.prog 32 #[.int .i64 n.height, .int .i64 0, .int .i64 4] W fun e w' => e = .returned (.bool true) ∧ w' = W := fun W => by have := within_any n.height 0 4 W; rwa [h1] at this
  have hc2 : ∀ W, Calls Tryz.prog 62 #[.int .i64 n.round] W fun e w' => e = .returned (.bool false) ∧ w' = W := fun W => by have := bround_any n.round W; rwa [h2] at this
  clear h1 h2
  have c0 : n.cells[0]? = some (.int .i64 n.height) := ncells_num n 0 (by omega)
  have c1 : n.cells[1]? = some (.int .i64 n.round) := ncells_num n 1 (by omega)
  have c2 : n.cells[2]? = some (.int .i64 n.step) := ncells_num n 2 (by omega)
  have c3 : n.cells[3]? = some (.int .i64 n.bound) := ncells_num n 3 (by omega)
  have c4 : n.cells[4]? = some (.int .i64 n.boundIn) := ncells_num n 4 (by omega)
  have c5 : n.cells[5]? = some (.int .i64 n.valid) := ncells_num n 5 (by omega)
  have c6 : n.cells[6]? = some (.int .i64 n.validIn) := ncells_num n 6 (by omega)
  have s0 : n.cells[277]? = some (.int .i64 (n.settled 0)) := ncells_settled n 0 (by omega)
  have s1 : n.cells[278]? = some (.int .i64 (n.settled 1)) := ncells_settled n 1 (by omega)
  have s2 : n.cells[279]? = some (.int .i64 (n.settled 2)) := ncells_settled n 2 (by omega)
  have s3 : n.cells[280]? = some (.int .i64 (n.settled 3)) := ncells_settled n 3 (by omega)
  go_enter Tryz.func57, Tryz.ntmps57
  go_wp2_with (first
    | (go_at_call 32; refine (hc1 _).mono ?_; clear hc1; rintro e w' ⟨rfl, hw'⟩; obtain rfl := hw'.symm)
    | (go_at_call 62; refine (hc2 _).mono ?_; clear hc2; rintro e w' ⟨rfl, hw'⟩; obtain rfl := hw'.symm))
  go_ret
  exact ⟨rfl, hbel⟩
set_option maxRecDepth 100000 in
set_option maxHeartbeats 4000000 in
theorem good_case3 (n : NI) (l : List Int) (qa : Option Addr) (qc : Nat) (_hqv : n.q = .slice qa l.length qc) (w : World) (hq : Ints w (.slice qa l.length qc) l) (_hl : l.length < 4611686018427387904) (h1 : win n.height 0 4 = true) (h2 : win n.round 0 5 = true) (h3 : win n.step 0 2 = false) :
    Calls Tryz.prog 57 #[.agg n.cells] w fun e w' => e = .returned (.bool false) ∧ Below w.heap.size w w' := by
  have B0 : Blk (w.alloc (.cells n.cells 50)) w.heap.size n.cells 50 := Blk.new w _ _
  have hqW := hq.keep (show Below w.heap.size w (w.alloc (.cells n.cells 50)) by go_grown)
  have hbel : Below w.heap.size w (w.alloc (.cells n.cells 50)) := by go_grown
  have hc1 : ∀ W, Calls Tryz.prog 32 #[.int .i64 n.height, .int .i64 0, .int .i64 4] W fun e w' => e = .returned (.bool true) ∧ w' = W := fun W => by have := within_any n.height 0 4 W; rwa [h1] at this
  have hc2 : ∀ W, Calls Tryz.prog 62 #[.int .i64 n.round] W fun e w' => e = .returned (.bool true) ∧ w' = W := fun W => by have := bround_any n.round W; rwa [h2] at this
  have hc3 : ∀ W, Calls Tryz.prog 32 #[.int .i64 n.step, .int .i64 0, .int .i64 2] W fun e w' => e = .returned (.bool false) ∧ w' = W := fun W => by have := within_any n.step 0 2 W; rwa [h3] at this
  clear h1 h2 h3
  have c0 : n.cells[0]? = some (.int .i64 n.height) := ncells_num n 0 (by omega)
  have c1 : n.cells[1]? = some (.int .i64 n.round) := ncells_num n 1 (by omega)
  have c2 : n.cells[2]? = some (.int .i64 n.step) := ncells_num n 2 (by omega)
  have c3 : n.cells[3]? = some (.int .i64 n.bound) := ncells_num n 3 (by omega)
  have c4 : n.cells[4]? = some (.int .i64 n.boundIn) := ncells_num n 4 (by omega)
  have c5 : n.cells[5]? = some (.int .i64 n.valid) := ncells_num n 5 (by omega)
  have c6 : n.cells[6]? = some (.int .i64 n.validIn) := ncells_num n 6 (by omega)
  have s0 : n.cells[277]? = some (.int .i64 (n.settled 0)) := ncells_settled n 0 (by omega)
  have s1 : n.cells[278]? = some (.int .i64 (n.settled 1)) := ncells_settled n 1 (by omega)
  have s2 : n.cells[279]? = some (.int .i64 (n.settled 2)) := ncells_settled n 2 (by omega)
  have s3 : n.cells[280]? = some (.int .i64 (n.settled 3)) := ncells_settled n 3 (by omega)
  go_enter Tryz.func57, Tryz.ntmps57
  go_wp2_with (first
    | (go_at_call 32; refine (hc1 _).mono ?_; clear hc1; rintro e w' ⟨rfl, hw'⟩; obtain rfl := hw'.symm)
    | (go_at_call 62; refine (hc2 _).mono ?_; clear hc2; rintro e w' ⟨rfl, hw'⟩; obtain rfl := hw'.symm)
    | (go_at_call 32; refine (hc3 _).mono ?_; clear hc3; rintro e w' ⟨rfl, hw'⟩; obtain rfl := hw'.symm))
  go_ret
  exact ⟨rfl, hbel⟩
set_option maxRecDepth 100000 in
set_option maxHeartbeats 4000000 in
theorem good_case4 (n : NI) (l : List Int) (qa : Option Addr) (qc : Nat) (_hqv : n.q = .slice qa l.length qc) (w : World) (hq : Ints w (.slice qa l.length qc) l) (_hl : l.length < 4611686018427387904) (h1 : win n.height 0 4 = true) (h2 : win n.round 0 5 = true) (h3 : win n.step 0 2 = true) (h4 : since n.bound n.boundIn n.round = false) :
    Calls Tryz.prog 57 #[.agg n.cells] w fun e w' => e = .returned (.bool false) ∧ Below w.heap.size w w' := by
  have B0 : Blk (w.alloc (.cells n.cells 50)) w.heap.size n.cells 50 := Blk.new w _ _
  have hqW := hq.keep (show Below w.heap.size w (w.alloc (.cells n.cells 50)) by go_grown)
  have hbel : Below w.heap.size w (w.alloc (.cells n.cells 50)) := by go_grown
  have hc1 : ∀ W, Calls Tryz.prog 32 #[.int .i64 n.height, .int .i64 0, .int .i64 4] W fun e w' => e = .returned (.bool true) ∧ w' = W := fun W => by have := within_any n.height 0 4 W; rwa [h1] at this
  have hc2 : ∀ W, Calls Tryz.prog 62 #[.int .i64 n.round] W fun e w' => e = .returned (.bool true) ∧ w' = W := fun W => by have := bround_any n.round W; rwa [h2] at this
  have hc3 : ∀ W, Calls Tryz.prog 32 #[.int .i64 n.step, .int .i64 0, .int .i64 2] W fun e w' => e = .returned (.bool true) ∧ w' = W := fun W => by have := within_any n.step 0 2 W; rwa [h3] at this
  have hc4 : ∀ W, Calls Tryz.prog 78 #[.int .i64 n.bound, .int .i64 n.boundIn, .int .i64 n.round] W fun e w' => e = .returned (.bool false) ∧ w' = W := fun W => by have := goodSince_any n.bound n.boundIn n.round W; rwa [h4] at this
  clear h1 h2 h3 h4
  have c0 : n.cells[0]? = some (.int .i64 n.height) := ncells_num n 0 (by omega)
  have c1 : n.cells[1]? = some (.int .i64 n.round) := ncells_num n 1 (by omega)
  have c2 : n.cells[2]? = some (.int .i64 n.step) := ncells_num n 2 (by omega)
  have c3 : n.cells[3]? = some (.int .i64 n.bound) := ncells_num n 3 (by omega)
  have c4 : n.cells[4]? = some (.int .i64 n.boundIn) := ncells_num n 4 (by omega)
  have c5 : n.cells[5]? = some (.int .i64 n.valid) := ncells_num n 5 (by omega)
  have c6 : n.cells[6]? = some (.int .i64 n.validIn) := ncells_num n 6 (by omega)
  have s0 : n.cells[277]? = some (.int .i64 (n.settled 0)) := ncells_settled n 0 (by omega)
  have s1 : n.cells[278]? = some (.int .i64 (n.settled 1)) := ncells_settled n 1 (by omega)
  have s2 : n.cells[279]? = some (.int .i64 (n.settled 2)) := ncells_settled n 2 (by omega)
  have s3 : n.cells[280]? = some (.int .i64 (n.settled 3)) := ncells_settled n 3 (by omega)
  go_enter Tryz.func57, Tryz.ntmps57
  go_wp2_with (first
    | (go_at_call 32; refine (hc1 _).mono ?_; clear hc1; rintro e w' ⟨rfl, hw'⟩; obtain rfl := hw'.symm)
    | (go_at_call 62; refine (hc2 _).mono ?_; clear hc2; rintro e w' ⟨rfl, hw'⟩; obtain rfl := hw'.symm)
    | (go_at_call 32; refine (hc3 _).mono ?_; clear hc3; rintro e w' ⟨rfl, hw'⟩; obtain rfl := hw'.symm)
    | (go_at_call 78; refine (hc4 _).mono ?_; clear hc4; rintro e w' ⟨rfl, hw'⟩; obtain rfl := hw'.symm))
  go_ret
  exact ⟨rfl, hbel⟩
set_option maxRecDepth 100000 in
set_option maxHeartbeats 4000000 in
theorem good_case5 (n : NI) (l : List Int) (qa : Option Addr) (qc : Nat) (_hqv : n.q = .slice qa l.length qc) (w : World) (hq : Ints w (.slice qa l.length qc) l) (_hl : l.length < 4611686018427387904) (h1 : win n.height 0 4 = true) (h2 : win n.round 0 5 = true) (h3 : win n.step 0 2 = true) (h4 : since n.bound n.boundIn n.round = true) (h5 : since n.valid n.validIn n.round = false) :
    Calls Tryz.prog 57 #[.agg n.cells] w fun e w' => e = .returned (.bool false) ∧ Below w.heap.size w w' := by
  have B0 : Blk (w.alloc (.cells n.cells 50)) w.heap.size n.cells 50 := Blk.new w _ _
  have hqW := hq.keep (show Below w.heap.size w (w.alloc (.cells n.cells 50)) by go_grown)
  have hbel : Below w.heap.size w (w.alloc (.cells n.cells 50)) := by go_grown
  have hc1 : ∀ W, Calls Tryz.prog 32 #[.int .i64 n.height, .int .i64 0, .int .i64 4] W fun e w' => e = .returned (.bool true) ∧ w' = W := fun W => by have := within_any n.height 0 4 W; rwa [h1] at this
  have hc2 : ∀ W, Calls Tryz.prog 62 #[.int .i64 n.round] W fun e w' => e = .returned (.bool true) ∧ w' = W := fun W => by have := bround_any n.round W; rwa [h2] at this
  have hc3 : ∀ W, Calls Tryz.prog 32 #[.int .i64 n.step, .int .i64 0, .int .i64 2] W fun e w' => e = .returned (.bool true) ∧ w' = W := fun W => by have := within_any n.step 0 2 W; rwa [h3] at this
  have hc4 : ∀ W, Calls Tryz.prog 78 #[.int .i64 n.bound, .int .i64 n.boundIn, .int .i64 n.round] W fun e w' => e = .returned (.bool true) ∧ w' = W := fun W => by have := goodSince_any n.bound n.boundIn n.round W; rwa [h4] at this
  have hc5 : ∀ W, Calls Tryz.prog 78 #[.int .i64 n.valid, .int .i64 n.validIn, .int .i64 n.round] W fun e w' => e = .returned (.bool false) ∧ w' = W := fun W => by have := goodSince_any n.valid n.validIn n.round W; rwa [h5] at this
  clear h1 h2 h3 h4 h5
  have c0 : n.cells[0]? = some (.int .i64 n.height) := ncells_num n 0 (by omega)
  have c1 : n.cells[1]? = some (.int .i64 n.round) := ncells_num n 1 (by omega)
  have c2 : n.cells[2]? = some (.int .i64 n.step) := ncells_num n 2 (by omega)
  have c3 : n.cells[3]? = some (.int .i64 n.bound) := ncells_num n 3 (by omega)
  have c4 : n.cells[4]? = some (.int .i64 n.boundIn) := ncells_num n 4 (by omega)
  have c5 : n.cells[5]? = some (.int .i64 n.valid) := ncells_num n 5 (by omega)
  have c6 : n.cells[6]? = some (.int .i64 n.validIn) := ncells_num n 6 (by omega)
  have s0 : n.cells[277]? = some (.int .i64 (n.settled 0)) := ncells_settled n 0 (by omega)
  have s1 : n.cells[278]? = some (.int .i64 (n.settled 1)) := ncells_settled n 1 (by omega)
  have s2 : n.cells[279]? = some (.int .i64 (n.settled 2)) := ncells_settled n 2 (by omega)
  have s3 : n.cells[280]? = some (.int .i64 (n.settled 3)) := ncells_settled n 3 (by omega)
  go_enter Tryz.func57, Tryz.ntmps57
  go_wp2_with (first
    | (go_at_call 32; refine (hc1 _).mono ?_; clear hc1; rintro e w' ⟨rfl, hw'⟩; obtain rfl := hw'.symm)
    | (go_at_call 62; refine (hc2 _).mono ?_; clear hc2; rintro e w' ⟨rfl, hw'⟩; obtain rfl := hw'.symm)
    | (go_at_call 32; refine (hc3 _).mono ?_; clear hc3; rintro e w' ⟨rfl, hw'⟩; obtain rfl := hw'.symm)
    | (go_at_call 78; refine (hc4 _).mono ?_; clear hc4; rintro e w' ⟨rfl, hw'⟩; obtain rfl := hw'.symm)
    | (go_at_call 78; refine (hc5 _).mono ?_; clear hc5; rintro e w' ⟨rfl, hw'⟩; obtain rfl := hw'.symm))
  go_ret
  exact ⟨rfl, hbel⟩
set_option maxRecDepth 100000 in
set_option maxHeartbeats 4000000 in
theorem good_case6 (n : NI) (l : List Int) (qa : Option Addr) (qc : Nat) (_hqv : n.q = .slice qa l.length qc) (w : World) (hq : Ints w (.slice qa l.length qc) l) (_hl : l.length < 4611686018427387904) (h1 : win n.height 0 4 = true) (h2 : win n.round 0 5 = true) (h3 : win n.step 0 2 = true) (h4 : since n.bound n.boundIn n.round = true) (h5 : since n.valid n.validIn n.round = true) (h6 : setTo n 4 = false) :
    Calls Tryz.prog 57 #[.agg n.cells] w fun e w' => e = .returned (.bool false) ∧ Below w.heap.size w w' := by
  have B0 : Blk (w.alloc (.cells n.cells 50)) w.heap.size n.cells 50 := Blk.new w _ _
  have hqW := hq.keep (show Below w.heap.size w (w.alloc (.cells n.cells 50)) by go_grown)
  have hbel : Below w.heap.size w (w.alloc (.cells n.cells 50)) := by go_grown
  have hc1 : ∀ W, Calls Tryz.prog 32 #[.int .i64 n.height, .int .i64 0, .int .i64 4] W fun e w' => e = .returned (.bool true) ∧ w' = W := fun W => by have := within_any n.height 0 4 W; rwa [h1] at this
  have hc2 : ∀ W, Calls Tryz.prog 62 #[.int .i64 n.round] W fun e w' => e = .returned (.bool true) ∧ w' = W := fun W => by have := bround_any n.round W; rwa [h2] at this
  have hc3 : ∀ W, Calls Tryz.prog 32 #[.int .i64 n.step, .int .i64 0, .int .i64 2] W fun e w' => e = .returned (.bool true) ∧ w' = W := fun W => by have := within_any n.step 0 2 W; rwa [h3] at this
  have hc4 : ∀ W, Calls Tryz.prog 78 #[.int .i64 n.bound, .int .i64 n.boundIn, .int .i64 n.round] W fun e w' => e = .returned (.bool true) ∧ w' = W := fun W => by have := goodSince_any n.bound n.boundIn n.round W; rwa [h4] at this
  have hc5 : ∀ W, Calls Tryz.prog 78 #[.int .i64 n.valid, .int .i64 n.validIn, .int .i64 n.round] W fun e w' => e = .returned (.bool true) ∧ w' = W := fun W => by have := goodSince_any n.valid n.validIn n.round W; rwa [h5] at this
  have hc6 : ∀ W, Calls Tryz.prog 79 #[.agg (scells n), .int .i64 n.height] W fun e w' => e = .returned (.bool false) ∧ Below W.heap.size W w' := fun W => by have := goodSettled_any n W; rwa [h6] at this
  clear h1 h2 h3 h4 h5 h6
  have c0 : n.cells[0]? = some (.int .i64 n.height) := ncells_num n 0 (by omega)
  have c1 : n.cells[1]? = some (.int .i64 n.round) := ncells_num n 1 (by omega)
  have c2 : n.cells[2]? = some (.int .i64 n.step) := ncells_num n 2 (by omega)
  have c3 : n.cells[3]? = some (.int .i64 n.bound) := ncells_num n 3 (by omega)
  have c4 : n.cells[4]? = some (.int .i64 n.boundIn) := ncells_num n 4 (by omega)
  have c5 : n.cells[5]? = some (.int .i64 n.valid) := ncells_num n 5 (by omega)
  have c6 : n.cells[6]? = some (.int .i64 n.validIn) := ncells_num n 6 (by omega)
  have c7 := ncells_q n
  rw [_hqv] at c7
  have s0 : n.cells[277]? = some (.int .i64 (n.settled 0)) := ncells_settled n 0 (by omega)
  have s1 : n.cells[278]? = some (.int .i64 (n.settled 1)) := ncells_settled n 1 (by omega)
  have s2 : n.cells[279]? = some (.int .i64 (n.settled 2)) := ncells_settled n 2 (by omega)
  have s3 : n.cells[280]? = some (.int .i64 (n.settled 3)) := ncells_settled n 3 (by omega)
  go_enter Tryz.func57, Tryz.ntmps57
  go_wp2_with (first
    | (go_at_call 32; refine (hc1 _).mono ?_; clear hc1; rintro e w' ⟨rfl, hw'⟩; obtain rfl := hw'.symm)
    | (go_at_call 62; refine (hc2 _).mono ?_; clear hc2; rintro e w' ⟨rfl, hw'⟩; obtain rfl := hw'.symm)
    | (go_at_call 32; refine (hc3 _).mono ?_; clear hc3; rintro e w' ⟨rfl, hw'⟩; obtain rfl := hw'.symm)
    | (go_at_call 78; refine (hc4 _).mono ?_; clear hc4; rintro e w' ⟨rfl, hw'⟩; obtain rfl := hw'.symm)
    | (go_at_call 78; refine (hc5 _).mono ?_; clear hc5; rintro e w' ⟨rfl, hw'⟩; obtain rfl := hw'.symm)
    | (go_at_call 79; refine (hc6 _).mono ?_; clear hc6; rintro e w6 ⟨rfl, hb6⟩; have B6 := B0.below hb6; have d7 := B6.cell 281; rw [c7] at d7; have hq6 := hqW.keep hb6))
  go_ret
  exact ⟨rfl, bel_trans hbel hb6⟩
set_option maxRecDepth 100000 in
set_option maxHeartbeats 4000000 in
theorem good_case7 (n : NI) (l : List Int) (qa : Option Addr) (qc : Nat) (hqv : n.q = .slice qa l.length qc) (w : World) (hq : Ints w (.slice qa l.length qc) l) (hl : l.length < 4611686018427387904) (h1 : win n.height 0 4 = true) (h2 : win n.round 0 5 = true) (h3 : win n.step 0 2 = true) (h4 : since n.bound n.boundIn n.round = true) (h5 : since n.valid n.validIn n.round = true) (h6 : setTo n 4 = true) (h7 : (decide (l.length < 7) && okQueue l l.length) = false) :
    Calls Tryz.prog 57 #[.agg n.cells] w fun e w' => e = .returned (.bool false) ∧ Below w.heap.size w w' := by
  have B0 : Blk (w.alloc (.cells n.cells 50)) w.heap.size n.cells 50 := Blk.new w _ _
  have hqW := hq.keep (show Below w.heap.size w (w.alloc (.cells n.cells 50)) by go_grown)
  have hbel : Below w.heap.size w (w.alloc (.cells n.cells 50)) := by go_grown
  have hc1 : ∀ W, Calls Tryz.prog 32 #[.int .i64 n.height, .int .i64 0, .int .i64 4] W fun e w' => e = .returned (.bool true) ∧ w' = W := fun W => by have := within_any n.height 0 4 W; rwa [h1] at this
  have hc2 : ∀ W, Calls Tryz.prog 62 #[.int .i64 n.round] W fun e w' => e = .returned (.bool true) ∧ w' = W := fun W => by have := bround_any n.round W; rwa [h2] at this
  have hc3 : ∀ W, Calls Tryz.prog 32 #[.int .i64 n.step, .int .i64 0, .int .i64 2] W fun e w' => e = .returned (.bool true) ∧ w' = W := fun W => by have := within_any n.step 0 2 W; rwa [h3] at this
  have hc4 : ∀ W, Calls Tryz.prog 78 #[.int .i64 n.bound, .int .i64 n.boundIn, .int .i64 n.round] W fun e w' => e = .returned (.bool true) ∧ w' = W := fun W => by have := goodSince_any n.bound n.boundIn n.round W; rwa [h4] at this
  have hc5 : ∀ W, Calls Tryz.prog 78 #[.int .i64 n.valid, .int .i64 n.validIn, .int .i64 n.round] W fun e w' => e = .returned (.bool true) ∧ w' = W := fun W => by have := goodSince_any n.valid n.validIn n.round W; rwa [h5] at this
  have hc6 : ∀ W, Calls Tryz.prog 79 #[.agg (scells n), .int .i64 n.height] W fun e w' => e = .returned (.bool true) ∧ Below W.heap.size W w' := fun W => by have := goodSettled_any n W; rwa [h6] at this
  have hc7 : ∀ W, Ints W (.slice qa l.length qc) l → Calls Tryz.prog 80 #[.slice qa l.length qc] W fun e w' => e = .returned (.bool false) ∧ w' = W := fun W hq => by have := goodQueue_any l qa qc W hq hl; rwa [h7] at this
  clear h1 h2 h3 h4 h5 h6 h7
  have c0 : n.cells[0]? = some (.int .i64 n.height) := ncells_num n 0 (by omega)
  have c1 : n.cells[1]? = some (.int .i64 n.round) := ncells_num n 1 (by omega)
  have c2 : n.cells[2]? = some (.int .i64 n.step) := ncells_num n 2 (by omega)
  have c3 : n.cells[3]? = some (.int .i64 n.bound) := ncells_num n 3 (by omega)
  have c4 : n.cells[4]? = some (.int .i64 n.boundIn) := ncells_num n 4 (by omega)
  have c5 : n.cells[5]? = some (.int .i64 n.valid) := ncells_num n 5 (by omega)
  have c6 : n.cells[6]? = some (.int .i64 n.validIn) := ncells_num n 6 (by omega)
  have c7 := ncells_q n
  rw [hqv] at c7
  have s0 : n.cells[277]? = some (.int .i64 (n.settled 0)) := ncells_settled n 0 (by omega)
  have s1 : n.cells[278]? = some (.int .i64 (n.settled 1)) := ncells_settled n 1 (by omega)
  have s2 : n.cells[279]? = some (.int .i64 (n.settled 2)) := ncells_settled n 2 (by omega)
  have s3 : n.cells[280]? = some (.int .i64 (n.settled 3)) := ncells_settled n 3 (by omega)
  go_enter Tryz.func57, Tryz.ntmps57
  go_wp2_with (first
    | (go_at_call 32; refine (hc1 _).mono ?_; clear hc1; rintro e w' ⟨rfl, hw'⟩; obtain rfl := hw'.symm)
    | (go_at_call 62; refine (hc2 _).mono ?_; clear hc2; rintro e w' ⟨rfl, hw'⟩; obtain rfl := hw'.symm)
    | (go_at_call 32; refine (hc3 _).mono ?_; clear hc3; rintro e w' ⟨rfl, hw'⟩; obtain rfl := hw'.symm)
    | (go_at_call 78; refine (hc4 _).mono ?_; clear hc4; rintro e w' ⟨rfl, hw'⟩; obtain rfl := hw'.symm)
    | (go_at_call 78; refine (hc5 _).mono ?_; clear hc5; rintro e w' ⟨rfl, hw'⟩; obtain rfl := hw'.symm)
    | (go_at_call 79; refine (hc6 _).mono ?_; clear hc6; rintro e w6 ⟨rfl, hb6⟩; have B6 := B0.below hb6; have d7 := B6.cell 281; rw [c7] at d7; have hq6 := hqW.keep hb6)
    | (go_at_call 80; refine (hc7 _ hq6).mono ?_; clear hc7; rintro e w' ⟨rfl, hw'⟩; obtain rfl := hw'.symm))
  go_ret
  exact ⟨rfl, bel_trans hbel hb6⟩
set_option maxRecDepth 100000 in
set_option maxHeartbeats 4000000 in
theorem good_case8 (n : NI) (l : List Int) (qa : Option Addr) (qc : Nat) (hqv : n.q = .slice qa l.length qc) (w : World) (hq : Ints w (.slice qa l.length qc) l) (hl : l.length < 4611686018427387904) (h1 : win n.height 0 4 = true) (h2 : win n.round 0 5 = true) (h3 : win n.step 0 2 = true) (h4 : since n.bound n.boundIn n.round = true) (h5 : since n.valid n.validIn n.round = true) (h6 : setTo n 4 = true) (h7 : (decide (l.length < 7) && okQueue l l.length) = true) (h8 : sheetsTo n 4 = false) :
    Calls Tryz.prog 57 #[.agg n.cells] w fun e w' => e = .returned (.bool false) ∧ Below w.heap.size w w' := by
  have B0 : Blk (w.alloc (.cells n.cells 50)) w.heap.size n.cells 50 := Blk.new w _ _
  have hqW := hq.keep (show Below w.heap.size w (w.alloc (.cells n.cells 50)) by go_grown)
  have hbel : Below w.heap.size w (w.alloc (.cells n.cells 50)) := by go_grown
  have hc1 : ∀ W, Calls Tryz.prog 32 #[.int .i64 n.height, .int .i64 0, .int .i64 4] W fun e w' => e = .returned (.bool true) ∧ w' = W := fun W => by have := within_any n.height 0 4 W; rwa [h1] at this
  have hc2 : ∀ W, Calls Tryz.prog 62 #[.int .i64 n.round] W fun e w' => e = .returned (.bool true) ∧ w' = W := fun W => by have := bround_any n.round W; rwa [h2] at this
  have hc3 : ∀ W, Calls Tryz.prog 32 #[.int .i64 n.step, .int .i64 0, .int .i64 2] W fun e w' => e = .returned (.bool true) ∧ w' = W := fun W => by have := within_any n.step 0 2 W; rwa [h3] at this
  have hc4 : ∀ W, Calls Tryz.prog 78 #[.int .i64 n.bound, .int .i64 n.boundIn, .int .i64 n.round] W fun e w' => e = .returned (.bool true) ∧ w' = W := fun W => by have := goodSince_any n.bound n.boundIn n.round W; rwa [h4] at this
  have hc5 : ∀ W, Calls Tryz.prog 78 #[.int .i64 n.valid, .int .i64 n.validIn, .int .i64 n.round] W fun e w' => e = .returned (.bool true) ∧ w' = W := fun W => by have := goodSince_any n.valid n.validIn n.round W; rwa [h5] at this
  have hc6 : ∀ W, Calls Tryz.prog 79 #[.agg (scells n), .int .i64 n.height] W fun e w' => e = .returned (.bool true) ∧ Below W.heap.size W w' := fun W => by have := goodSettled_any n W; rwa [h6] at this
  have hc7 : ∀ W, Ints W (.slice qa l.length qc) l → Calls Tryz.prog 80 #[.slice qa l.length qc] W fun e w' => e = .returned (.bool true) ∧ w' = W := fun W hq => by have := goodQueue_any l qa qc W hq hl; rwa [h7] at this
  have hc8 : ∀ W, Blk W w.heap.size n.cells 50 → Calls Tryz.prog 81 #[.pointer (some ⟨w.heap.size, 13, none⟩)] W fun e w' => e = .returned (.bool false) ∧ Below W.heap.size W w' := fun W B => by have := goodSheets_any n w.heap.size 50 W B; rwa [h8] at this
  clear h1 h2 h3 h4 h5 h6 h7 h8
  have c0 : n.cells[0]? = some (.int .i64 n.height) := ncells_num n 0 (by omega)
  have c1 : n.cells[1]? = some (.int .i64 n.round) := ncells_num n 1 (by omega)
  have c2 : n.cells[2]? = some (.int .i64 n.step) := ncells_num n 2 (by omega)
  have c3 : n.cells[3]? = some (.int .i64 n.bound) := ncells_num n 3 (by omega)
  have c4 : n.cells[4]? = some (.int .i64 n.boundIn) := ncells_num n 4 (by omega)
  have c5 : n.cells[5]? = some (.int .i64 n.valid) := ncells_num n 5 (by omega)
  have c6 : n.cells[6]? = some (.int .i64 n.validIn) := ncells_num n 6 (by omega)
  have c7 := ncells_q n
  rw [hqv] at c7
  have s0 : n.cells[277]? = some (.int .i64 (n.settled 0)) := ncells_settled n 0 (by omega)
  have s1 : n.cells[278]? = some (.int .i64 (n.settled 1)) := ncells_settled n 1 (by omega)
  have s2 : n.cells[279]? = some (.int .i64 (n.settled 2)) := ncells_settled n 2 (by omega)
  have s3 : n.cells[280]? = some (.int .i64 (n.settled 3)) := ncells_settled n 3 (by omega)
  go_enter Tryz.func57, Tryz.ntmps57
  go_wp2_with (first
    | (go_at_call 32; refine (hc1 _).mono ?_; clear hc1; rintro e w' ⟨rfl, hw'⟩; obtain rfl := hw'.symm)
    | (go_at_call 62; refine (hc2 _).mono ?_; clear hc2; rintro e w' ⟨rfl, hw'⟩; obtain rfl := hw'.symm)
    | (go_at_call 32; refine (hc3 _).mono ?_; clear hc3; rintro e w' ⟨rfl, hw'⟩; obtain rfl := hw'.symm)
    | (go_at_call 78; refine (hc4 _).mono ?_; clear hc4; rintro e w' ⟨rfl, hw'⟩; obtain rfl := hw'.symm)
    | (go_at_call 78; refine (hc5 _).mono ?_; clear hc5; rintro e w' ⟨rfl, hw'⟩; obtain rfl := hw'.symm)
    | (go_at_call 79; refine (hc6 _).mono ?_; clear hc6; rintro e w6 ⟨rfl, hb6⟩; have B6 := B0.below hb6; have d7 := B6.cell 281; rw [c7] at d7; have hq6 := hqW.keep hb6)
    | (go_at_call 80; refine (hc7 _ hq6).mono ?_; clear hc7; rintro e w' ⟨rfl, hw'⟩; obtain rfl := hw'.symm)
    | (go_at_call 81; refine (hc8 _ B6).mono ?_; clear hc8; rintro e w8 ⟨rfl, hb8⟩))
  go_ret
  exact ⟨rfl, bel_trans (bel_trans hbel hb6) hb8⟩
set_option maxRecDepth 100000 in
set_option maxHeartbeats 4000000 in
theorem good_case9 (n : NI) (l : List Int) (qa : Option Addr) (qc : Nat) (hqv : n.q = .slice qa l.length qc) (w : World) (hq : Ints w (.slice qa l.length qc) l) (hl : l.length < 4611686018427387904) (h1 : win n.height 0 4 = true) (h2 : win n.round 0 5 = true) (h3 : win n.step 0 2 = true) (h4 : since n.bound n.boundIn n.round = true) (h5 : since n.valid n.validIn n.round = true) (h6 : setTo n 4 = true) (h7 : (decide (l.length < 7) && okQueue l l.length) = true) (h8 : sheetsTo n 4 = true) :
    Calls Tryz.prog 57 #[.agg n.cells] w fun e w' => e = .returned (.bool true) ∧ Below w.heap.size w w' := by
  have B0 : Blk (w.alloc (.cells n.cells 50)) w.heap.size n.cells 50 := Blk.new w _ _
  have hqW := hq.keep (show Below w.heap.size w (w.alloc (.cells n.cells 50)) by go_grown)
  have hbel : Below w.heap.size w (w.alloc (.cells n.cells 50)) := by go_grown
  have hc1 : ∀ W, Calls Tryz.prog 32 #[.int .i64 n.height, .int .i64 0, .int .i64 4] W fun e w' => e = .returned (.bool true) ∧ w' = W := fun W => by have := within_any n.height 0 4 W; rwa [h1] at this
  have hc2 : ∀ W, Calls Tryz.prog 62 #[.int .i64 n.round] W fun e w' => e = .returned (.bool true) ∧ w' = W := fun W => by have := bround_any n.round W; rwa [h2] at this
  have hc3 : ∀ W, Calls Tryz.prog 32 #[.int .i64 n.step, .int .i64 0, .int .i64 2] W fun e w' => e = .returned (.bool true) ∧ w' = W := fun W => by have := within_any n.step 0 2 W; rwa [h3] at this
  have hc4 : ∀ W, Calls Tryz.prog 78 #[.int .i64 n.bound, .int .i64 n.boundIn, .int .i64 n.round] W fun e w' => e = .returned (.bool true) ∧ w' = W := fun W => by have := goodSince_any n.bound n.boundIn n.round W; rwa [h4] at this
  have hc5 : ∀ W, Calls Tryz.prog 78 #[.int .i64 n.valid, .int .i64 n.validIn, .int .i64 n.round] W fun e w' => e = .returned (.bool true) ∧ w' = W := fun W => by have := goodSince_any n.valid n.validIn n.round W; rwa [h5] at this
  have hc6 : ∀ W, Calls Tryz.prog 79 #[.agg (scells n), .int .i64 n.height] W fun e w' => e = .returned (.bool true) ∧ Below W.heap.size W w' := fun W => by have := goodSettled_any n W; rwa [h6] at this
  have hc7 : ∀ W, Ints W (.slice qa l.length qc) l → Calls Tryz.prog 80 #[.slice qa l.length qc] W fun e w' => e = .returned (.bool true) ∧ w' = W := fun W hq => by have := goodQueue_any l qa qc W hq hl; rwa [h7] at this
  have hc8 : ∀ W, Blk W w.heap.size n.cells 50 → Calls Tryz.prog 81 #[.pointer (some ⟨w.heap.size, 13, none⟩)] W fun e w' => e = .returned (.bool true) ∧ Below W.heap.size W w' := fun W B => by have := goodSheets_any n w.heap.size 50 W B; rwa [h8] at this
  clear h1 h2 h3 h4 h5 h6 h7 h8
  have c0 : n.cells[0]? = some (.int .i64 n.height) := ncells_num n 0 (by omega)
  have c1 : n.cells[1]? = some (.int .i64 n.round) := ncells_num n 1 (by omega)
  have c2 : n.cells[2]? = some (.int .i64 n.step) := ncells_num n 2 (by omega)
  have c3 : n.cells[3]? = some (.int .i64 n.bound) := ncells_num n 3 (by omega)
  have c4 : n.cells[4]? = some (.int .i64 n.boundIn) := ncells_num n 4 (by omega)
  have c5 : n.cells[5]? = some (.int .i64 n.valid) := ncells_num n 5 (by omega)
  have c6 : n.cells[6]? = some (.int .i64 n.validIn) := ncells_num n 6 (by omega)
  have c7 := ncells_q n
  rw [hqv] at c7
  have s0 : n.cells[277]? = some (.int .i64 (n.settled 0)) := ncells_settled n 0 (by omega)
  have s1 : n.cells[278]? = some (.int .i64 (n.settled 1)) := ncells_settled n 1 (by omega)
  have s2 : n.cells[279]? = some (.int .i64 (n.settled 2)) := ncells_settled n 2 (by omega)
  have s3 : n.cells[280]? = some (.int .i64 (n.settled 3)) := ncells_settled n 3 (by omega)
  go_enter Tryz.func57, Tryz.ntmps57
  go_wp2_with (first
    | (go_at_call 32; refine (hc1 _).mono ?_; clear hc1; rintro e w' ⟨rfl, hw'⟩; obtain rfl := hw'.symm)
    | (go_at_call 62; refine (hc2 _).mono ?_; clear hc2; rintro e w' ⟨rfl, hw'⟩; obtain rfl := hw'.symm)
    | (go_at_call 32; refine (hc3 _).mono ?_; clear hc3; rintro e w' ⟨rfl, hw'⟩; obtain rfl := hw'.symm)
    | (go_at_call 78; refine (hc4 _).mono ?_; clear hc4; rintro e w' ⟨rfl, hw'⟩; obtain rfl := hw'.symm)
    | (go_at_call 78; refine (hc5 _).mono ?_; clear hc5; rintro e w' ⟨rfl, hw'⟩; obtain rfl := hw'.symm)
    | (go_at_call 79; refine (hc6 _).mono ?_; clear hc6; rintro e w6 ⟨rfl, hb6⟩; have B6 := B0.below hb6; have d7 := B6.cell 281; rw [c7] at d7; have hq6 := hqW.keep hb6)
    | (go_at_call 80; refine (hc7 _ hq6).mono ?_; clear hc7; rintro e w' ⟨rfl, hw'⟩; obtain rfl := hw'.symm)
    | (go_at_call 81; refine (hc8 _ B6).mono ?_; clear hc8; rintro e w8 ⟨rfl, hb8⟩))
  go_ret
  exact ⟨rfl, bel_trans (bel_trans hbel hb6) hb8⟩

theorem ngood_any (n : NI) (l : List Int) (w : World) (hq : Ints w n.q l) (hl : l.length < 4611686018427387904) :
    Calls Tryz.prog 57 #[.agg n.cells] w fun e w' => e = .returned (.bool (goodN n l)) ∧ Below w.heap.size w w' := by
  rw [← goodN_land]
  obtain ⟨qa, qc, hqv⟩ := hq.len
  rw [hqv] at hq
  unfold landN
  cases h1 : win n.height 0 4
  · simp only [Bool.false_and]
    exact good_case1 n l qa qc hqv w hq hl h1
  · skip
    cases h2 : win n.round 0 5
    · simp only [Bool.and_false, Bool.false_and]
      exact good_case2 n l qa qc hqv w hq hl h1 h2
    · skip
      cases h3 : win n.step 0 2
      · simp only [Bool.and_true, Bool.and_false, Bool.false_and]
        exact good_case3 n l qa qc hqv w hq hl h1 h2 h3
      · skip
        cases h4 : since n.bound n.boundIn n.round
        · simp only [Bool.and_true, Bool.and_false, Bool.false_and]
          exact good_case4 n l qa qc hqv w hq hl h1 h2 h3 h4
        · skip
          cases h5 : since n.valid n.validIn n.round
          · simp only [Bool.and_true, Bool.and_false, Bool.false_and]
            exact good_case5 n l qa qc hqv w hq hl h1 h2 h3 h4 h5
          · skip
            cases h6 : setTo n 4
            · simp only [Bool.and_true, Bool.and_false, Bool.false_and]
              exact good_case6 n l qa qc hqv w hq hl h1 h2 h3 h4 h5 h6
            · skip
              cases h7 : (decide (l.length < 7) && okQueue l l.length)
              · simp only [Bool.and_true, Bool.and_false, Bool.false_and]
                exact good_case7 n l qa qc hqv w hq hl h1 h2 h3 h4 h5 h6 h7
              · skip
                cases h8 : sheetsTo n 4
                · simp only [Bool.and_true, Bool.and_false]
                  exact good_case8 n l qa qc hqv w hq hl h1 h2 h3 h4 h5 h6 h7 h8
                · simp only [Bool.true_and]
                  exact good_case9 n l qa qc hqv w hq hl h1 h2 h3 h4 h5 h6 h7 h8
end Go.Proofs.YtmmgaonlmpajbacGreat
