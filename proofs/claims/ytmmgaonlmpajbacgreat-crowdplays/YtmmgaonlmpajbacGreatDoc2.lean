/-
  The document's node at work: enter.
-/
import Derived.Test.YtmmgaonlmpajbacGreatDoc1
import Derived.Test.YtmmgaonlmpajbacGreatTurnA
import Derived.Test.YtmmgaonlmpajbacGreatNodeB
namespace Go.Proofs.YtmmgaonlmpajbacGreat
open Go.RowKit

/-- The worlds of a call on a node at work: it lies as a says; below it all is as it was. -/
def InR (bb : Nat) (w : World) (g who : Nat) (a : At) (q sd : Value) (W : World) : Prop := Sr bb W g 98 who a q sd ∧ Below g w W
theorem InR.keep {bb : Nat} {w W W' : World} {g who : Nat} {a : At} {q sd : Value} (h : InR bb w g who a q sd W) (hb : Below W.heap.size W W') : InR bb w g who a q sd W' :=
  ⟨h.1.below hb, bel_seq h.2 (hb.mono (Nat.le_of_lt h.1.lt))⟩
theorem InR.drew {bb : Nat} {w W : World} {g who : Nat} {a : At} {q sd : Value} (h : InR bb w g who a q sd W) : InR bb w g who a q sd W.drew := ⟨h.1.drew, below_drew' h.2⟩
theorem enter_four {who : Nat} {a : At} {r : Nat} (h : a.n.height = 4) : enter who a r = cameTo a r := by
  simp only [enter]
  exact if_pos (Or.inl h)
def callV (S : Sh) (r : Nat) : Array Value := #[.bool (S.is r), .int .i64 (S.val r), .int .i64 (S.vld r)]
theorem field_calls (S : Sh) (W : World) : Sem.run Tryz.prog (Instr.field 46 (.agg S.cells) 0) W = .ok (.agg (callsA S)) W := by show _ = _; kernel_rfl
theorem index_calls (S : Sh) (r : Nat) (hr : r < 6) (W : World) : Sem.run Tryz.prog (Instr.index 42 (.agg (callsA S)) (.int .i64 (r : Int))) W = .ok (.agg (callV S r)) W := by
  have hk : r = 0 ∨ r = 1 ∨ r = 2 ∨ r = 3 ∨ r = 4 ∨ r = 5 := by omega
  rcases hk with rfl | rfl | rfl | rfl | rfl | rfl
  · show _ = _; kernel_rfl
  · show _ = _; kernel_rfl
  · show _ = _; kernel_rfl
  · show _ = _; kernel_rfl
  · show _ = _; kernel_rfl
  · show _ = _; kernel_rfl
theorem field_is (S : Sh) (r : Nat) (W : World) : Sem.run Tryz.prog (Instr.field 41 (.agg (callV S r)) 0) W = .ok (.bool (S.is r)) W := by show _ = _; kernel_rfl

set_option maxRecDepth 100000 in
set_option maxHeartbeats 4000000 in
theorem renter_four {bb : Nat} {w : World} {g who : Nat} {a : At} {qa : Option Addr} {qc ql : Nat} {sd : Value} (H : Sr bb w g 98 who a (.slice qa ql qc) sd) (hh : a.n.height = 4) (r : Nat) (hr : r < 6) (_hlen : a.words.length < 100000)  :
    Calls Tryz.prog 47 #[.pointer (some ⟨g, 0, none⟩), .int .i64 (r : Int)] w fun e w' => e = .returned (.tuple #[]) ∧ ∃ sd', Sr bb w' g 98 who (enter who a r) (.slice qa ql qc) sd' ∧ Below g w w' := by
  obtain ⟨c0, c1, c2, c3, c4, c5, c6, c7, c8⟩ := H.blk.tnums
  have f1 := H.blk.free 1
  have f2 := H.blk.free 2
  have H1 := (H.put (j := 1) (v := .int .i64 (r : Int)) { a.n with round := r } (by omega) (set_round _ _) rfl).put (j := 2) (v := .int .i64 0) (cameTo a r).n (by omega) (set_step _ _) rfl
  have L1 : Below g w ((w.setCell ⟨g, 1, none⟩ (.int .i64 (r : Int))).setCell ⟨g, 2, none⟩ (.int .i64 0)) := bel_put (bel_put (Below.refl _ _) _ _) _ _
  have hri : (r : Int) < 6 := by omega
  have he : Hid (enter who a r = cameTo a r) := enter_four hh
  have hh4 : ((a.n.height : Int) == 4) = true := by simp; omega
  go_enter Tryz.func47, Tryz.ntmps47
  go_upto_region 1 with fail
  clear c0 c1 c2 c3 c4 c5 c6 c7 c8 f1 f2
  generalize (w.setCell ⟨g, 1, none⟩ (.int .i64 (r : Int))).setCell ⟨g, 2, none⟩ (.int .i64 0) = W1 at H1 L1 ⊢
  have hC1 : InR bb w g who (cameTo a r) (.slice qa ql qc) sd W1 := ⟨H1, L1⟩
  clear H1 L1
  refine q_region (C := InR bb w g who (cameTo a r) (.slice qa ql qc) sd) (by kernel_rfl) (by kernel_rfl) hC1.drew ?_
  repeat (first
    | (refine q_skip (by rfl) ?_; simp only [Act.put, List.setIfInBounds_toArray, List.set_cons_zero, List.set_cons_succ])
    | (refine q_run_ex (by rfl) ?_
       apply Exists.intro
       refine ⟨fun w0 hC => ?_, ?_⟩
       · obtain ⟨c0, c1, c2, c3, c4, c5, c6, c7, c8⟩ := hC.1.blk.tnums; simp only [cameTo] at c0 c1 c2 c3 c4 c5 c6; clear hC; go_simp; rfl
       simp only [Act.put, List.setIfInBounds_toArray, List.set_cons_zero, List.set_cons_succ])
    | (refine q_call_ex (by rfl) ?_
       apply Exists.intro
       apply Exists.intro
       apply Exists.intro
       refine ⟨fun w0 hC => ?_, fun w0 hC => ?_, ?_⟩
       · clear hC; go_simp; exact ⟨rfl, rfl⟩
       · fail
       simp only [Act.put, List.setIfInBounds_toArray, List.set_cons_zero, List.set_cons_succ]))
  refine q_nil ?_
  intro w5 hC
  go_wp2
  refine bodyPost_ret (results_none rfl _ _ _) rfl ?_
  rw [he.out]
  exact ⟨rfl, sd, hC.1, hC.2⟩
set_option maxRecDepth 100000 in
set_option maxHeartbeats 4000000 in
theorem renter_other {bb : Nat} {w : World} {g who : Nat} {a : At} {qa : Option Addr} {qc ql : Nat} {sd : Value} (H : Sr bb w g 98 who a (.slice qa ql qc) sd) (hh : a.n.height < 4) (r : Nat) (hr : r < 6) (_hlen : a.words.length < 100000) (hl : lead a.n.height r ≠ who) :
    Calls Tryz.prog 47 #[.pointer (some ⟨g, 0, none⟩), .int .i64 (r : Int)] w fun e w' => e = .returned (.tuple #[]) ∧ ∃ sd', Sr bb w' g 98 who (enter who a r) (.slice qa ql qc) sd' ∧ Below g w w' := by
  obtain ⟨c0, c1, c2, c3, c4, c5, c6, c7, c8⟩ := H.blk.tnums
  have f1 := H.blk.free 1
  have f2 := H.blk.free 2
  have H1 := (H.put (j := 1) (v := .int .i64 (r : Int)) { a.n with round := r } (by omega) (set_round _ _) rfl).put (j := 2) (v := .int .i64 0) (cameTo a r).n (by omega) (set_step _ _) rfl
  have L1 : Below g w ((w.setCell ⟨g, 1, none⟩ (.int .i64 (r : Int))).setCell ⟨g, 2, none⟩ (.int .i64 0)) := bel_put (bel_put (Below.refl _ _) _ _) _ _
  have hri : (r : Int) < 6 := by omega
  have hhi : (a.n.height : Int) < 4 := by omega
  have hh4 : ((a.n.height : Int) == 4) = false := by simp; omega
  have hfc := field_calls a.n.sheet
  have hic := index_calls a.n.sheet r hr
  have hfi := field_is a.n.sheet r
  have hsheet : ∀ W, InR bb w g who (cameTo a r) (.slice qa ql qc) sd W → Calls Tryz.prog 49 #[.pointer (some ⟨g, 0, none⟩)] W fun e w' => e = .returned (.agg a.n.sheet.cells) ∧ InR bb w g who (cameTo a r) (.slice qa ql qc) sd w' := fun W hC => (rsheet_any hC.1.blk hh).mono (fun e w' ⟨he, hb⟩ => ⟨he, hC.keep hb⟩)
  have hlead : ∀ W, Calls Tryz.prog 71 #[.int .i64 (a.n.height : Int), .int .i64 (r : Int)] W fun e w' => e = .returned (.int .i64 (lead a.n.height r)) ∧ w' = W := fun W => leaderOf_any _ _ W
  have he : Hid (enter who a r = cameTo a r) := enter_stays (Or.inl hl)
  generalize lead a.n.height r = L at hl hlead
  have hlb : (L != (who : Int)) = true := by simpa using hl
  clear hl
  go_enter Tryz.func47, Tryz.ntmps47
  go_upto_region 1 with fail
  clear c0 c1 c2 c3 c4 c5 c6 c7 c8 f1 f2
  generalize (w.setCell ⟨g, 1, none⟩ (.int .i64 (r : Int))).setCell ⟨g, 2, none⟩ (.int .i64 0) = W1 at H1 L1 ⊢
  have hC1 : InR bb w g who (cameTo a r) (.slice qa ql qc) sd W1 := ⟨H1, L1⟩
  clear H1 L1
  refine q_region (C := InR bb w g who (cameTo a r) (.slice qa ql qc) sd) (by kernel_rfl) (by kernel_rfl) hC1.drew ?_
  repeat (first
    | (refine q_skip (by rfl) ?_; simp only [Act.put, List.setIfInBounds_toArray, List.set_cons_zero, List.set_cons_succ])
    | (refine q_run_ex (by rfl) ?_
       apply Exists.intro
       refine ⟨fun w0 hC => ?_, ?_⟩
       · obtain ⟨c0, c1, c2, c3, c4, c5, c6, c7, c8⟩ := hC.1.blk.tnums; simp only [cameTo] at c0 c1 c2 c3 c4 c5 c6; clear hC; go_simp; first | rfl | (rw [hfc]) | (rw [hic])
       simp only [Act.put, List.setIfInBounds_toArray, List.set_cons_zero, List.set_cons_succ])
    | (refine q_call_ex (by rfl) ?_
       apply Exists.intro
       apply Exists.intro
       apply Exists.intro
       refine ⟨fun w0 hC => ?_, fun w0 hC => ?_, ?_⟩
       · clear hC; go_simp; exact ⟨rfl, rfl⟩
       · first | exact (hlead w0).mono (fun e w' ⟨he, hw⟩ => ⟨he, hw ▸ hC⟩) | exact hsheet w0 hC
       simp only [Act.put, List.setIfInBounds_toArray, List.set_cons_zero, List.set_cons_succ]))
  refine q_nil ?_
  intro w5 hC
  go_wp2
  refine bodyPost_ret (results_none rfl _ _ _) rfl ?_
  rw [he.out]
  exact ⟨rfl, sd, hC.1, hC.2⟩
set_option maxRecDepth 100000 in
set_option maxHeartbeats 4000000 in
theorem renter_heard {bb : Nat} {w : World} {g who : Nat} {a : At} {qa : Option Addr} {qc ql : Nat} {sd : Value} (H : Sr bb w g 98 who a (.slice qa ql qc) sd) (hh : a.n.height < 4) (r : Nat) (hr : r < 6) (_hlen : a.words.length < 100000) (hl : lead a.n.height r = who) (hi : a.n.sheet.is r = true) :
    Calls Tryz.prog 47 #[.pointer (some ⟨g, 0, none⟩), .int .i64 (r : Int)] w fun e w' => e = .returned (.tuple #[]) ∧ ∃ sd', Sr bb w' g 98 who (enter who a r) (.slice qa ql qc) sd' ∧ Below g w w' := by
  obtain ⟨c0, c1, c2, c3, c4, c5, c6, c7, c8⟩ := H.blk.tnums
  have f1 := H.blk.free 1
  have f2 := H.blk.free 2
  have H1 := (H.put (j := 1) (v := .int .i64 (r : Int)) { a.n with round := r } (by omega) (set_round _ _) rfl).put (j := 2) (v := .int .i64 0) (cameTo a r).n (by omega) (set_step _ _) rfl
  have L1 : Below g w ((w.setCell ⟨g, 1, none⟩ (.int .i64 (r : Int))).setCell ⟨g, 2, none⟩ (.int .i64 0)) := bel_put (bel_put (Below.refl _ _) _ _) _ _
  have hri : (r : Int) < 6 := by omega
  have hhi : (a.n.height : Int) < 4 := by omega
  have hh4 : ((a.n.height : Int) == 4) = false := by simp; omega
  have hfc := field_calls a.n.sheet
  have hic := index_calls a.n.sheet r hr
  have hfi := field_is a.n.sheet r
  have hsheet : ∀ W, InR bb w g who (cameTo a r) (.slice qa ql qc) sd W → Calls Tryz.prog 49 #[.pointer (some ⟨g, 0, none⟩)] W fun e w' => e = .returned (.agg a.n.sheet.cells) ∧ InR bb w g who (cameTo a r) (.slice qa ql qc) sd w' := fun W hC => (rsheet_any hC.1.blk hh).mono (fun e w' ⟨he, hb⟩ => ⟨he, hC.keep hb⟩)
  have hlead : ∀ W, Calls Tryz.prog 71 #[.int .i64 (a.n.height : Int), .int .i64 (r : Int)] W fun e w' => e = .returned (.int .i64 (who : Int)) ∧ w' = W := fun W => by rw [← hl]; exact leaderOf_any _ _ W
  have he : Hid (enter who a r = cameTo a r) := enter_stays (Or.inr hi)
  rw [hi] at hfi
  clear hl
  go_enter Tryz.func47, Tryz.ntmps47
  go_upto_region 1 with fail
  clear c0 c1 c2 c3 c4 c5 c6 c7 c8 f1 f2
  generalize (w.setCell ⟨g, 1, none⟩ (.int .i64 (r : Int))).setCell ⟨g, 2, none⟩ (.int .i64 0) = W1 at H1 L1 ⊢
  have hC1 : InR bb w g who (cameTo a r) (.slice qa ql qc) sd W1 := ⟨H1, L1⟩
  clear H1 L1
  refine q_region (C := InR bb w g who (cameTo a r) (.slice qa ql qc) sd) (by kernel_rfl) (by kernel_rfl) hC1.drew ?_
  repeat (first
    | (refine q_skip (by rfl) ?_; simp only [Act.put, List.setIfInBounds_toArray, List.set_cons_zero, List.set_cons_succ])
    | (refine q_run_ex (by rfl) ?_
       apply Exists.intro
       refine ⟨fun w0 hC => ?_, ?_⟩
       · obtain ⟨c0, c1, c2, c3, c4, c5, c6, c7, c8⟩ := hC.1.blk.tnums; simp only [cameTo] at c0 c1 c2 c3 c4 c5 c6; clear hC; go_simp; first | rfl | (rw [hfc]) | (rw [hic])
       simp only [Act.put, List.setIfInBounds_toArray, List.set_cons_zero, List.set_cons_succ])
    | (refine q_call_ex (by rfl) ?_
       apply Exists.intro
       apply Exists.intro
       apply Exists.intro
       refine ⟨fun w0 hC => ?_, fun w0 hC => ?_, ?_⟩
       · clear hC; go_simp; exact ⟨rfl, rfl⟩
       · first | exact (hlead w0).mono (fun e w' ⟨he, hw⟩ => ⟨he, hw ▸ hC⟩) | exact hsheet w0 hC
       simp only [Act.put, List.setIfInBounds_toArray, List.set_cons_zero, List.set_cons_succ]))
  refine q_nil ?_
  intro w5 hC
  go_wp2
  refine bodyPost_ret (results_none rfl _ _ _) rfl ?_
  rw [he.out]
  exact ⟨rfl, sd, hC.1, hC.2⟩
set_option maxRecDepth 100000 in
set_option maxHeartbeats 4000000 in
theorem renter_valid {bb : Nat} {w : World} {g who : Nat} {a : At} {qa : Option Addr} {qc ql : Nat} {sd : Value} (H : Sr bb w g 98 who a (.slice qa ql qc) sd) (hh : a.n.height < 4) (r : Nat) (hr : r < 6) (hlen : a.words.length < 100000) (hl : lead a.n.height r = who) (hi : a.n.sheet.is r = false) (hv : 0 ≤ a.n.validIn) :
    Calls Tryz.prog 47 #[.pointer (some ⟨g, 0, none⟩), .int .i64 (r : Int)] w fun e w' => e = .returned (.tuple #[]) ∧ ∃ sd', Sr bb w' g 98 who (enter who a r) (.slice qa ql qc) sd' ∧ Below g w w' := by
  obtain ⟨c0, c1, c2, c3, c4, c5, c6, c7, c8⟩ := H.blk.tnums
  have f1 := H.blk.free 1
  have f2 := H.blk.free 2
  have H1 := (H.put (j := 1) (v := .int .i64 (r : Int)) { a.n with round := r } (by omega) (set_round _ _) rfl).put (j := 2) (v := .int .i64 0) (cameTo a r).n (by omega) (set_step _ _) rfl
  have L1 : Below g w ((w.setCell ⟨g, 1, none⟩ (.int .i64 (r : Int))).setCell ⟨g, 2, none⟩ (.int .i64 0)) := bel_put (bel_put (Below.refl _ _) _ _) _ _
  have hri : (r : Int) < 6 := by omega
  have hhi : (a.n.height : Int) < 4 := by omega
  have hh4 : ((a.n.height : Int) == 4) = false := by simp; omega
  have hfc := field_calls a.n.sheet
  have hic := index_calls a.n.sheet r hr
  have hfi := field_is a.n.sheet r
  have hsheet : ∀ W, InR bb w g who (cameTo a r) (.slice qa ql qc) sd W → Calls Tryz.prog 49 #[.pointer (some ⟨g, 0, none⟩)] W fun e w' => e = .returned (.agg a.n.sheet.cells) ∧ InR bb w g who (cameTo a r) (.slice qa ql qc) sd w' := fun W hC => (rsheet_any hC.1.blk hh).mono (fun e w' ⟨he, hb⟩ => ⟨he, hC.keep hb⟩)
  have hlead : ∀ W, Calls Tryz.prog 71 #[.int .i64 (a.n.height : Int), .int .i64 (r : Int)] W fun e w' => e = .returned (.int .i64 (who : Int)) ∧ w' = W := fun W => by rw [← hl]; exact leaderOf_any _ _ W
  have he : Hid (enter who a r = tell who (cameTo a r) 1 a.n.valid a.n.validIn) := enter_valid hh hl hi hv
  rw [hi] at hfi
  clear hl
  go_enter Tryz.func47, Tryz.ntmps47
  go_upto_region 1 with fail
  clear c0 c1 c2 c3 c4 c5 c6 c7 c8 f1 f2
  generalize (w.setCell ⟨g, 1, none⟩ (.int .i64 (r : Int))).setCell ⟨g, 2, none⟩ (.int .i64 0) = W1 at H1 L1 ⊢
  have hC1 : InR bb w g who (cameTo a r) (.slice qa ql qc) sd W1 := ⟨H1, L1⟩
  clear H1 L1
  refine q_region (C := InR bb w g who (cameTo a r) (.slice qa ql qc) sd) (by kernel_rfl) (by kernel_rfl) hC1.drew ?_
  repeat (first
    | (refine q_skip (by rfl) ?_; simp only [Act.put, List.setIfInBounds_toArray, List.set_cons_zero, List.set_cons_succ])
    | (refine q_run_ex (by rfl) ?_
       apply Exists.intro
       refine ⟨fun w0 hC => ?_, ?_⟩
       · obtain ⟨c0, c1, c2, c3, c4, c5, c6, c7, c8⟩ := hC.1.blk.tnums; simp only [cameTo] at c0 c1 c2 c3 c4 c5 c6; clear hC; go_simp; first | rfl | (rw [hfc]) | (rw [hic])
       simp only [Act.put, List.setIfInBounds_toArray, List.set_cons_zero, List.set_cons_succ])
    | (refine q_call_ex (by rfl) ?_
       apply Exists.intro
       apply Exists.intro
       apply Exists.intro
       refine ⟨fun w0 hC => ?_, fun w0 hC => ?_, ?_⟩
       · clear hC; go_simp; exact ⟨rfl, rfl⟩
       · first | exact (hlead w0).mono (fun e w' ⟨he, hw⟩ => ⟨he, hw ▸ hC⟩) | exact hsheet w0 hC
       simp only [Act.put, List.setIfInBounds_toArray, List.set_cons_zero, List.set_cons_succ]))
  refine q_nil ?_
  intro w5 hC
  obtain ⟨c0, c1, c2, c3, c4, c5, c6, c7, c8⟩ := hC.1.blk.tnums
  simp only [cameTo] at c5 c6
  go_upto_region 3 with fail
  refine held_region (InR bb w g who (cameTo a r) (.slice qa ql qc) sd) [11] [(0, 0), (1, 0), (2, 0), (3, 0), (4, 0), (5, 1), (6, 0), (7, 0), (8, 0), (9, 0), (10, 1), (11, 2)] (by kernel_rfl) (by kernel_rfl) (by kernel_rfl) rfl (fun _ _ d _ _ h => by cases d <;> exact h) hC.drew ?_
  clear c0 c1 c2 c3 c4 c5 c6 c7 c8
  repeat (first
    | (refine ord_run0_ex rfl (by rfl) ?_
       apply Exists.intro
       refine ⟨fun w0 => ?_, ?_⟩
       · go_simp; rfl
       simp only [Act.put, List.setIfInBounds_toArray, List.set_cons_zero, List.set_cons_succ])
    | (refine ord_run1_ex rfl (by rfl) ?_
       apply Exists.intro
       refine ⟨fun w0 hC => ?_, ?_⟩
       · obtain ⟨c0, c1, c2, c3, c4, c5, c6, c7, c8⟩ := hC.1.blk.tnums; simp only [cameTo] at c5 c6; clear hC; go_simp; rfl
       simp only [Act.put, List.setIfInBounds_toArray, List.set_cons_zero, List.set_cons_succ]))
  refine ord_call_ex rfl (by rfl) ?_
  apply Exists.intro
  apply Exists.intro
  refine ⟨?_, ?_⟩
  · go_simp; exact ⟨rfl, rfl⟩
  refine (rtell_any hC.drew.1 hh hlen 1 a.n.valid a.n.validIn).mono ?_
  rintro e w6 ⟨rfl, sd', H6, L6⟩
  refine ⟨_, rfl, fun hc => absurd hc (by decide), ?_⟩
  simp only [Act.put, List.setIfInBounds_toArray, List.set_cons_zero, List.set_cons_succ]
  show wpOrd _ _ _ _ _ [] _ _ _
  unfold wpOrd
  go_wp2
  go_end0
  rw [he.out]
  exact ⟨rfl, sd', H6, bel_seq hC.drew.2 L6⟩
set_option maxRecDepth 100000 in
set_option maxHeartbeats 4000000 in
theorem renter_none {bb : Nat} {w : World} {g who : Nat} {a : At} {qa : Option Addr} {qc ql : Nat} {sd : Value} (H : Sr bb w g 98 who a (.slice qa ql qc) sd) (hh : a.n.height < 4) (r : Nat) (hr : r < 6) (_hlen : a.words.length < 100000) (hl : lead a.n.height r = who) (hi : a.n.sheet.is r = false) (hv : a.n.validIn = -1) (hq : a.n.queue = []) (hql : ql = 0) :
    Calls Tryz.prog 47 #[.pointer (some ⟨g, 0, none⟩), .int .i64 (r : Int)] w fun e w' => e = .returned (.tuple #[]) ∧ ∃ sd', Sr bb w' g 98 who (enter who a r) (.slice qa ql qc) sd' ∧ Below g w w' := by
  obtain ⟨c0, c1, c2, c3, c4, c5, c6, c7, c8⟩ := H.blk.tnums
  have f1 := H.blk.free 1
  have f2 := H.blk.free 2
  have H1 := (H.put (j := 1) (v := .int .i64 (r : Int)) { a.n with round := r } (by omega) (set_round _ _) rfl).put (j := 2) (v := .int .i64 0) (cameTo a r).n (by omega) (set_step _ _) rfl
  have L1 : Below g w ((w.setCell ⟨g, 1, none⟩ (.int .i64 (r : Int))).setCell ⟨g, 2, none⟩ (.int .i64 0)) := bel_put (bel_put (Below.refl _ _) _ _) _ _
  have hri : (r : Int) < 6 := by omega
  have hhi : (a.n.height : Int) < 4 := by omega
  have hh4 : ((a.n.height : Int) == 4) = false := by simp; omega
  have hfc := field_calls a.n.sheet
  have hic := index_calls a.n.sheet r hr
  have hfi := field_is a.n.sheet r
  have hsheet : ∀ W, InR bb w g who (cameTo a r) (.slice qa ql qc) sd W → Calls Tryz.prog 49 #[.pointer (some ⟨g, 0, none⟩)] W fun e w' => e = .returned (.agg a.n.sheet.cells) ∧ InR bb w g who (cameTo a r) (.slice qa ql qc) sd w' := fun W hC => (rsheet_any hC.1.blk hh).mono (fun e w' ⟨he, hb⟩ => ⟨he, hC.keep hb⟩)
  have hlead : ∀ W, Calls Tryz.prog 71 #[.int .i64 (a.n.height : Int), .int .i64 (r : Int)] W fun e w' => e = .returned (.int .i64 (who : Int)) ∧ w' = W := fun W => by rw [← hl]; exact leaderOf_any _ _ W
  have he : Hid (enter who a r = cameTo a r) := enter_none hh hl hi hv hq
  rw [hi] at hfi
  clear hl
  have hq0 : Hid (ql = 0) := hql
  clear hql
  go_enter Tryz.func47, Tryz.ntmps47
  go_upto_region 1 with fail
  clear c0 c1 c2 c3 c4 c5 c6 c7 c8 f1 f2
  generalize (w.setCell ⟨g, 1, none⟩ (.int .i64 (r : Int))).setCell ⟨g, 2, none⟩ (.int .i64 0) = W1 at H1 L1 ⊢
  have hC1 : InR bb w g who (cameTo a r) (.slice qa ql qc) sd W1 := ⟨H1, L1⟩
  clear H1 L1
  refine q_region (C := InR bb w g who (cameTo a r) (.slice qa ql qc) sd) (by kernel_rfl) (by kernel_rfl) hC1.drew ?_
  repeat (first
    | (refine q_skip (by rfl) ?_; simp only [Act.put, List.setIfInBounds_toArray, List.set_cons_zero, List.set_cons_succ])
    | (refine q_run_ex (by rfl) ?_
       apply Exists.intro
       refine ⟨fun w0 hC => ?_, ?_⟩
       · obtain ⟨c0, c1, c2, c3, c4, c5, c6, c7, c8⟩ := hC.1.blk.tnums; simp only [cameTo] at c0 c1 c2 c3 c4 c5 c6; clear hC; go_simp; first | rfl | (rw [hfc]) | (rw [hic])
       simp only [Act.put, List.setIfInBounds_toArray, List.set_cons_zero, List.set_cons_succ])
    | (refine q_call_ex (by rfl) ?_
       apply Exists.intro
       apply Exists.intro
       apply Exists.intro
       refine ⟨fun w0 hC => ?_, fun w0 hC => ?_, ?_⟩
       · clear hC; go_simp; exact ⟨rfl, rfl⟩
       · first | exact (hlead w0).mono (fun e w' ⟨he, hw⟩ => ⟨he, hw ▸ hC⟩) | exact hsheet w0 hC
       simp only [Act.put, List.setIfInBounds_toArray, List.set_cons_zero, List.set_cons_succ]))
  refine q_nil ?_
  intro w5 hC
  obtain ⟨c0, c1, c2, c3, c4, c5, c6, c7, c8⟩ := hC.1.blk.tnums
  simp only [cameTo] at c6
  rw [hv] at c6
  rw [hq0.out] at c7
  go_wp2
  go_end0
  rw [he.out]
  exact ⟨rfl, sd, hC.1, hC.2⟩
set_option maxRecDepth 100000 in
set_option maxHeartbeats 4000000 in
theorem renter_first {bb : Nat} {w : World} {g who : Nat} {a : At} {qa : Option Addr} {qc ql : Nat} {sd : Value} (H : Sr bb w g 98 who a (.slice qa ql qc) sd) (hh : a.n.height < 4) (r : Nat) (hr : r < 6) (hlen : a.words.length < 100000) (hl : lead a.n.height r = who) (hi : a.n.sheet.is r = false) (hv : a.n.validIn = -1) (y : Int) (ys : List Int) (hq : a.n.queue = y :: ys) :
    Calls Tryz.prog 47 #[.pointer (some ⟨g, 0, none⟩), .int .i64 (r : Int)] w fun e w' => e = .returned (.tuple #[]) ∧ ∃ sd', Sr bb w' g 98 who (enter who a r) (.slice qa ql qc) sd' ∧ Below g w w' := by
  obtain ⟨c0, c1, c2, c3, c4, c5, c6, c7, c8⟩ := H.blk.tnums
  have f1 := H.blk.free 1
  have f2 := H.blk.free 2
  have H1 := (H.put (j := 1) (v := .int .i64 (r : Int)) { a.n with round := r } (by omega) (set_round _ _) rfl).put (j := 2) (v := .int .i64 0) (cameTo a r).n (by omega) (set_step _ _) rfl
  have L1 : Below g w ((w.setCell ⟨g, 1, none⟩ (.int .i64 (r : Int))).setCell ⟨g, 2, none⟩ (.int .i64 0)) := bel_put (bel_put (Below.refl _ _) _ _) _ _
  have hri : (r : Int) < 6 := by omega
  have hhi : (a.n.height : Int) < 4 := by omega
  have hh4 : ((a.n.height : Int) == 4) = false := by simp; omega
  have hfc := field_calls a.n.sheet
  have hic := index_calls a.n.sheet r hr
  have hfi := field_is a.n.sheet r
  have hsheet : ∀ W, InR bb w g who (cameTo a r) (.slice qa ql qc) sd W → Calls Tryz.prog 49 #[.pointer (some ⟨g, 0, none⟩)] W fun e w' => e = .returned (.agg a.n.sheet.cells) ∧ InR bb w g who (cameTo a r) (.slice qa ql qc) sd w' := fun W hC => (rsheet_any hC.1.blk hh).mono (fun e w' ⟨he, hb⟩ => ⟨he, hC.keep hb⟩)
  have hlead : ∀ W, Calls Tryz.prog 71 #[.int .i64 (a.n.height : Int), .int .i64 (r : Int)] W fun e w' => e = .returned (.int .i64 (who : Int)) ∧ w' = W := fun W => by rw [← hl]; exact leaderOf_any _ _ W
  have he : Hid (enter who a r = tell who (cameTo a r) 1 y (-1)) := enter_first hh hl hi hv y ys hq
  rw [hi] at hfi
  clear hl
  go_enter Tryz.func47, Tryz.ntmps47
  go_upto_region 1 with fail
  clear c0 c1 c2 c3 c4 c5 c6 c7 c8 f1 f2
  generalize (w.setCell ⟨g, 1, none⟩ (.int .i64 (r : Int))).setCell ⟨g, 2, none⟩ (.int .i64 0) = W1 at H1 L1 ⊢
  have hC1 : InR bb w g who (cameTo a r) (.slice qa ql qc) sd W1 := ⟨H1, L1⟩
  clear H1 L1
  refine q_region (C := InR bb w g who (cameTo a r) (.slice qa ql qc) sd) (by kernel_rfl) (by kernel_rfl) hC1.drew ?_
  repeat (first
    | (refine q_skip (by rfl) ?_; simp only [Act.put, List.setIfInBounds_toArray, List.set_cons_zero, List.set_cons_succ])
    | (refine q_run_ex (by rfl) ?_
       apply Exists.intro
       refine ⟨fun w0 hC => ?_, ?_⟩
       · obtain ⟨c0, c1, c2, c3, c4, c5, c6, c7, c8⟩ := hC.1.blk.tnums; simp only [cameTo] at c0 c1 c2 c3 c4 c5 c6; clear hC; go_simp; first | rfl | (rw [hfc]) | (rw [hic])
       simp only [Act.put, List.setIfInBounds_toArray, List.set_cons_zero, List.set_cons_succ])
    | (refine q_call_ex (by rfl) ?_
       apply Exists.intro
       apply Exists.intro
       apply Exists.intro
       refine ⟨fun w0 hC => ?_, fun w0 hC => ?_, ?_⟩
       · clear hC; go_simp; exact ⟨rfl, rfl⟩
       · first | exact (hlead w0).mono (fun e w' ⟨he, hw⟩ => ⟨he, hw ▸ hC⟩) | exact hsheet w0 hC
       simp only [Act.put, List.setIfInBounds_toArray, List.set_cons_zero, List.set_cons_succ]))
  refine q_nil ?_
  intro w5 hC
  obtain ⟨c0, c1, c2, c3, c4, c5, c6, c7, c8⟩ := hC.1.blk.tnums
  simp only [cameTo] at c6
  rw [hv] at c6
  have hown := hC.1.own
  have hqn : (cameTo a r).n.queue = y :: ys := hq
  rw [hqn] at hown
  obtain ⟨g', hqa, hql, hy⟩ : ∃ g', qa = some ⟨g', 0, none⟩ ∧ ql = ys.length + 1 ∧ w5.cell? ⟨g', 0, none⟩ = some (.int .i64 y) := by
    rcases (own_ints hown) with ⟨h0, _⟩ | ⟨ad, cap, hv1, hc⟩
    · cases h0
    · rcases hown.2 with ⟨_, h0⟩ | ⟨g', cap', cur, hv2, _⟩
      · simp at h0
      · injection hv2 with e1 e2 e3
        injection hv1 with f1 f2 f3
        refine ⟨g', e1, by rw [e2]; rfl, ?_⟩
        have := hc 0 y rfl
        rw [e1] at f1
        injection f1 with f1
        rw [← f1, Addr.add_mid] at this
        simpa using this
  subst hqa hql
  clear hown
  go_wp2_with (first | (go_at_call 50; refine (rtell_any hC.1 hh hlen 1 y (-1)).mono ?_; rintro e w6 ⟨rfl, sd', H6, L6⟩))
  go_end0
  rw [he.out]
  exact ⟨rfl, sd', H6, bel_seq hC.2 L6⟩

theorem renter_any {bb : Nat} {w : World} {g who : Nat} {a : At} {q sd : Value} (H : Sr bb w g 98 who a q sd) (hh : a.n.height ≤ 4) (r : Nat) (hr : r < 6) (hlen : a.words.length < 100000) (hv : a.n.validIn = -1 ∨ 0 ≤ a.n.validIn) :
    Calls Tryz.prog 47 #[.pointer (some ⟨g, 0, none⟩), .int .i64 (r : Int)] w fun e w' => e = .returned (.tuple #[]) ∧ ∃ sd', Sr bb w' g 98 who (enter who a r) q sd' ∧ Below g w w' := by
  obtain ⟨qa, qc, hq⟩ := own_shape H.own
  subst hq
  by_cases h4 : a.n.height = 4
  · exact renter_four H h4 r hr hlen
  · have hh : a.n.height < 4 := by omega
    by_cases hl : lead a.n.height r = who
    · cases hi : a.n.sheet.is r
      · rcases hv with hv | hv
        · obtain ⟨l, hq⟩ : ∃ l, a.n.queue = l := ⟨_, rfl⟩
          match l, hq with
          | [], hq => exact renter_none H hh r hr hlen hl hi hv hq (by rw [hq]; rfl)
          | y :: ys, hq => exact renter_first H hh r hr hlen hl hi hv y ys hq
        · exact renter_valid H hh r hr hlen hl hi hv
      · exact renter_heard H hh r hr hlen hl hi
    · exact renter_other H hh r hr hlen hl
end Go.Proofs.YtmmgaonlmpajbacGreat
