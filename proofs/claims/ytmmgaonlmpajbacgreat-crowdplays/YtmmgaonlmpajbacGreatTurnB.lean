/-
  The landed package node at work: answerCall.
  The landed package node at work: giveUp.
  The landed package node at work: answerCall, whole.
-/
import Derived.Test.YtmmgaonlmpajbacGreatTurnA
import Derived.Test.YtmmgaonlmpajbacGreatPlainN
namespace Go.Proofs.YtmmgaonlmpajbacGreat
open Go.RowKit

/-- The worlds of a call on a node at work that holds a copy of a call besides. -/
def InC (w : World) (g who : Nat) (a : At) (q sd : Value) (b : Nat) (D : Array Value) (W : World) : Prop := InSt w g who a q sd W ∧ Blk W b D 41
theorem InC.keep {w W W' : World} {g who b : Nat} {a : At} {q sd : Value} {D : Array Value} (h : InC w g who a q sd b D W) (hb : Below W.heap.size W W') : InC w g who a q sd b D W' := ⟨h.1.keep hb, h.2.below hb⟩
theorem InC.drew {w W : World} {g who b : Nat} {a : At} {q sd : Value} {D : Array Value} (h : InC w g who a q sd b D W) : InC w g who a q sd b D W.drew := ⟨h.1.drew, h.2.drew⟩
theorem InSt.alloc {w W : World} {g who : Nat} {a : At} {q sd : Value} (h : InSt w g who a q sd W) (o : Obj) : InSt w g who a q sd (W.alloc o) := h.keep (by go_grown)
theorem InSt.drewN {w W : World} {g who : Nat} {a : At} {q sd : Value} (h : InSt w g who a q sd W) (k : Nat) : InSt w g who a q sd (W.drewN k) := ⟨h.1.drewN k, below_drewN' h.2 k⟩
theorem InC.drewN {w W : World} {g who b : Nat} {a : At} {q sd : Value} {D : Array Value} (h : InC w g who a q sd b D W) (k : Nat) : InC w g who a q sd b D (W.drewN k) := ⟨h.1.drewN k, h.2.drewN k⟩
theorem callcell {W : World} {b : Nat} {p : Bool} {y x : Int} (B : Blk W b #[.bool p, .int .i64 y, .int .i64 x] 41) : W.cell? ⟨b, 0, none⟩ = some (.bool p) ∧ W.cell? ⟨b, 1, none⟩ = some (.int .i64 y) ∧ W.cell? ⟨b, 2, none⟩ = some (.int .i64 x) := ⟨B.cell 0, B.cell 1, B.cell 2⟩

set_option maxRecDepth 100000 in
set_option maxHeartbeats 4000000 in
theorem tansw_step {w : World} {g who : Nat} {a : At} {q sd : Value} (H : St w g 92 who a q sd) (hh : a.n.height < 4) (hround : a.n.round < 6) (_hlen : a.words.length < 100000) (p : Bool) (y x : Int) (hp : (a.n.heard a.n.height).is a.n.round = p) (hy : (a.n.heard a.n.height).val a.n.round = y) (hx : (a.n.heard a.n.height).vld a.n.round = x) (hs : a.n.step ≠ 0) :
    Calls Tryz.prog 65 #[.pointer (some ⟨g, 0, none⟩)] w fun e w' => e = .returned (.bool false) ∧ InSt w g who a q sd w' := by
  have hhi : (a.n.height : Int) < 4 := by omega
  have hri : (a.n.round : Int) < 6 := by omega
  have hi3 := info_call
  have hcr : ∀ W, InSt w g who a q sd W → W.rangeAt g (13 + a.n.height * 66 + a.n.round * 3) (#[.bool p, .int .i64 y, .int .i64 x] : Array Value).toList := fun W hC => by
    have := hC.1.blk.tcallR a.n.height a.n.round hh hround
    rw [hp, hy, hx] at this; exact this
  clear hp hy hx
  go_enter Tryz.func65, Tryz.ntmps65
  go_wp2_with (first | (go_at_call 58; refine (tsheet_any H.blk hh).mono ?_; rintro e w1 ⟨rfl, hb1⟩; have hC1 := InSt.keep (w := w) (who := who) (a := a) (q := q) (sd := sd) ⟨H, Below.refl _ _⟩ hb1))
  clear hb1
  refine held_region (InSt w g who a q sd) [] [(0, 0), (1, 0), (2, 0), (3, 0), (4, 0), (5, 1), (6, 0), (7, 0), (8, 0), (9, 1), (10, 2), (11, 2)] (by kernel_rfl) (by kernel_rfl) (by kernel_rfl) rfl (fun _ _ d _ _ h => by cases d <;> exact h) hC1.drew ?_
  repeat (first
    | (refine ord_run0_ex rfl (by rfl) ?_
       apply Exists.intro
       refine ⟨fun w0 => ?_, ?_⟩
       · go_simp; rfl
       simp only [Act.put, List.setIfInBounds_toArray, List.set_cons_zero, List.set_cons_succ])
    | (refine ord_load rfl (by rfl) 41 _ rfl g (13 + a.n.height * 66 + a.n.round * 3) rfl #[.bool p, .int .i64 y, .int .i64 x] _ hcr Tryz.underlying41 rfl hi3 ?_; simp only [Act.put, List.setIfInBounds_toArray, List.set_cons_zero, List.set_cons_succ])
    | (refine ord_run1_ex rfl (by rfl) ?_
       apply Exists.intro
       refine ⟨fun w0 hC => ?_, ?_⟩
       · obtain ⟨c0, c1, c2, c3, c4, c5, c6, c7, c8⟩ := hC.1.blk.tnums; clear hC; go_simp; rfl
       simp only [Act.put, List.setIfInBounds_toArray, List.set_cons_zero, List.set_cons_succ]))
  refine ord_do rfl ?_
  go_wp2_with fail
  refine ⟨fun _ => (hC1.alloc _).drew, ?_⟩
  refine ord_do rfl ?_
  go_wp2_with fail
  refine ⟨fun _ => (hC1.alloc _).drew, ?_⟩
  show wpOrd _ _ _ _ _ [] _ _ _
  unfold wpOrd
  obtain ⟨W2, hW2⟩ : ∃ W2, W2 = (w1.alloc (.cells #[.bool p, .int .i64 y, .int .i64 x] 41)).drew := ⟨_, rfl⟩
  have hC2 : InC w g who a q sd w1.heap.size #[.bool p, .int .i64 y, .int .i64 x] W2 := by rw [hW2]; exact ⟨(hC1.alloc _).drew, (Blk.new w1 _ _).drew⟩
  rw [← hW2]
  clear hW2 hC1
  generalize w1.heap.size = b at hC2 ⊢
  obtain ⟨c0, c1, c2, c3, c4, c5, c6, c7, c8⟩ := hC2.1.1.blk.tnums
  obtain ⟨d0, d1, d2⟩ := callcell hC2.2
  have hsb : ((a.n.step : Int) != 0) = true := by simp; omega
  go_wp2
  go_ret
  exact ⟨rfl, hC2.1⟩
set_option maxRecDepth 100000 in
set_option maxHeartbeats 4000000 in
theorem tansw_none {w : World} {g who : Nat} {a : At} {q sd : Value} (H : St w g 92 who a q sd) (hh : a.n.height < 4) (hround : a.n.round < 6) (_hlen : a.words.length < 100000) (p : Bool) (y x : Int) (hp : (a.n.heard a.n.height).is a.n.round = p) (hy : (a.n.heard a.n.height).val a.n.round = y) (hx : (a.n.heard a.n.height).vld a.n.round = x) (hs : a.n.step = 0) (hpf : Hid (p = false)) :
    Calls Tryz.prog 65 #[.pointer (some ⟨g, 0, none⟩)] w fun e w' => e = .returned (.bool false) ∧ InSt w g who a q sd w' := by
  have hhi : (a.n.height : Int) < 4 := by omega
  have hri : (a.n.round : Int) < 6 := by omega
  have hi3 := info_call
  have hcr : ∀ W, InSt w g who a q sd W → W.rangeAt g (13 + a.n.height * 66 + a.n.round * 3) (#[.bool p, .int .i64 y, .int .i64 x] : Array Value).toList := fun W hC => by
    have := hC.1.blk.tcallR a.n.height a.n.round hh hround
    rw [hp, hy, hx] at this; exact this
  clear hp hy hx
  go_enter Tryz.func65, Tryz.ntmps65
  go_wp2_with (first | (go_at_call 58; refine (tsheet_any H.blk hh).mono ?_; rintro e w1 ⟨rfl, hb1⟩; have hC1 := InSt.keep (w := w) (who := who) (a := a) (q := q) (sd := sd) ⟨H, Below.refl _ _⟩ hb1))
  clear hb1
  refine held_region (InSt w g who a q sd) [] [(0, 0), (1, 0), (2, 0), (3, 0), (4, 0), (5, 1), (6, 0), (7, 0), (8, 0), (9, 1), (10, 2), (11, 2)] (by kernel_rfl) (by kernel_rfl) (by kernel_rfl) rfl (fun _ _ d _ _ h => by cases d <;> exact h) hC1.drew ?_
  repeat (first
    | (refine ord_run0_ex rfl (by rfl) ?_
       apply Exists.intro
       refine ⟨fun w0 => ?_, ?_⟩
       · go_simp; rfl
       simp only [Act.put, List.setIfInBounds_toArray, List.set_cons_zero, List.set_cons_succ])
    | (refine ord_load rfl (by rfl) 41 _ rfl g (13 + a.n.height * 66 + a.n.round * 3) rfl #[.bool p, .int .i64 y, .int .i64 x] _ hcr Tryz.underlying41 rfl hi3 ?_; simp only [Act.put, List.setIfInBounds_toArray, List.set_cons_zero, List.set_cons_succ])
    | (refine ord_run1_ex rfl (by rfl) ?_
       apply Exists.intro
       refine ⟨fun w0 hC => ?_, ?_⟩
       · obtain ⟨c0, c1, c2, c3, c4, c5, c6, c7, c8⟩ := hC.1.blk.tnums; clear hC; go_simp; rfl
       simp only [Act.put, List.setIfInBounds_toArray, List.set_cons_zero, List.set_cons_succ]))
  refine ord_do rfl ?_
  go_wp2_with fail
  refine ⟨fun _ => (hC1.alloc _).drew, ?_⟩
  refine ord_do rfl ?_
  go_wp2_with fail
  refine ⟨fun _ => (hC1.alloc _).drew, ?_⟩
  show wpOrd _ _ _ _ _ [] _ _ _
  unfold wpOrd
  obtain ⟨W2, hW2⟩ : ∃ W2, W2 = (w1.alloc (.cells #[.bool p, .int .i64 y, .int .i64 x] 41)).drew := ⟨_, rfl⟩
  have hC2 : InC w g who a q sd w1.heap.size #[.bool p, .int .i64 y, .int .i64 x] W2 := by rw [hW2]; exact ⟨(hC1.alloc _).drew, (Blk.new w1 _ _).drew⟩
  rw [← hW2]
  clear hW2 hC1
  generalize w1.heap.size = b at hC2 ⊢
  obtain ⟨c0, c1, c2, c3, c4, c5, c6, c7, c8⟩ := hC2.1.1.blk.tnums
  obtain ⟨d0, d1, d2⟩ := callcell hC2.2
  rw [hs] at c2
  rw [hpf.out] at d0
  go_wp2
  go_ret
  exact ⟨rfl, hC2.1⟩
set_option maxRecDepth 100000 in
set_option maxHeartbeats 4000000 in
theorem tansw_C2 {w : World} {g who : Nat} {a : At} {q sd : Value} (H : St w g 92 who a q sd) (hh : a.n.height < 4) (hround : a.n.round < 6) (_hlen : a.words.length < 100000) (p : Bool) (y x : Int) (hp : (a.n.heard a.n.height).is a.n.round = p) (hy : (a.n.heard a.n.height).val a.n.round = y) (hx : (a.n.heard a.n.height).vld a.n.round = x) (hs : a.n.step = 0) (hpt : Hid (p = true)) (m : Nat) (hm : m < 6) (hx1 : Hid (x = (m : Int))) (hV : VBd ((a.n.heard a.n.height).wi m)) (hcn : cntV ((a.n.heard a.n.height).wi m) y < 3) :
    Calls Tryz.prog 65 #[.pointer (some ⟨g, 0, none⟩)] w fun e w' => e = .returned (.bool false) ∧ InSt w g who a q sd w' := by
  have hhi : (a.n.height : Int) < 4 := by omega
  have hri : (a.n.round : Int) < 6 := by omega
  have hi3 := info_call
  have hcr : ∀ W, InSt w g who a q sd W → W.rangeAt g (13 + a.n.height * 66 + a.n.round * 3) (#[.bool p, .int .i64 y, .int .i64 x] : Array Value).toList := fun W hC => by
    have := hC.1.blk.tcallR a.n.height a.n.round hh hround
    rw [hp, hy, hx] at this; exact this
  clear hp hy hx
  go_enter Tryz.func65, Tryz.ntmps65
  go_wp2_with (first | (go_at_call 58; refine (tsheet_any H.blk hh).mono ?_; rintro e w1 ⟨rfl, hb1⟩; have hC1 := InSt.keep (w := w) (who := who) (a := a) (q := q) (sd := sd) ⟨H, Below.refl _ _⟩ hb1))
  clear hb1
  refine held_region (InSt w g who a q sd) [] [(0, 0), (1, 0), (2, 0), (3, 0), (4, 0), (5, 1), (6, 0), (7, 0), (8, 0), (9, 1), (10, 2), (11, 2)] (by kernel_rfl) (by kernel_rfl) (by kernel_rfl) rfl (fun _ _ d _ _ h => by cases d <;> exact h) hC1.drew ?_
  repeat (first
    | (refine ord_run0_ex rfl (by rfl) ?_
       apply Exists.intro
       refine ⟨fun w0 => ?_, ?_⟩
       · go_simp; rfl
       simp only [Act.put, List.setIfInBounds_toArray, List.set_cons_zero, List.set_cons_succ])
    | (refine ord_load rfl (by rfl) 41 _ rfl g (13 + a.n.height * 66 + a.n.round * 3) rfl #[.bool p, .int .i64 y, .int .i64 x] _ hcr Tryz.underlying41 rfl hi3 ?_; simp only [Act.put, List.setIfInBounds_toArray, List.set_cons_zero, List.set_cons_succ])
    | (refine ord_run1_ex rfl (by rfl) ?_
       apply Exists.intro
       refine ⟨fun w0 hC => ?_, ?_⟩
       · obtain ⟨c0, c1, c2, c3, c4, c5, c6, c7, c8⟩ := hC.1.blk.tnums; clear hC; go_simp; rfl
       simp only [Act.put, List.setIfInBounds_toArray, List.set_cons_zero, List.set_cons_succ]))
  refine ord_do rfl ?_
  go_wp2_with fail
  refine ⟨fun _ => (hC1.alloc _).drew, ?_⟩
  refine ord_do rfl ?_
  go_wp2_with fail
  refine ⟨fun _ => (hC1.alloc _).drew, ?_⟩
  show wpOrd _ _ _ _ _ [] _ _ _
  unfold wpOrd
  obtain ⟨W2, hW2⟩ : ∃ W2, W2 = (w1.alloc (.cells #[.bool p, .int .i64 y, .int .i64 x] 41)).drew := ⟨_, rfl⟩
  have hC2 : InC w g who a q sd w1.heap.size #[.bool p, .int .i64 y, .int .i64 x] W2 := by rw [hW2]; exact ⟨(hC1.alloc _).drew, (Blk.new w1 _ _).drew⟩
  rw [← hW2]
  clear hW2 hC1
  generalize w1.heap.size = b at hC2 ⊢
  obtain ⟨c0, c1, c2, c3, c4, c5, c6, c7, c8⟩ := hC2.1.1.blk.tnums
  obtain ⟨d0, d1, d2⟩ := callcell hC2.2
  have hmi : (m : Int) < 6 := by omega
  have hq : ∀ W, Calls Tryz.prog 86 #[.agg (vcells ((a.n.heard a.n.height).wi m)), .int .i64 y] W fun e w' => e = .returned (.bool false) ∧ Below W.heap.size W w' := fun W => by have := quorum_any _ hV y W; rw [decide_eq_false (by omega)] at this; exact this
  clear hcn hV
  rw [hs] at c2
  rw [hpt.out] at d0
  go_wp2_with fail
  clear c0 c1 c2 c3 c4 c5 c6 c7 c8 d0 d1 d2
  refine q_region (C := InC w g who a q sd b #[.bool p, .int .i64 y, .int .i64 x]) (by kernel_rfl) (by kernel_rfl) hC2.drew ?_
  repeat (first
    | (refine q_skip (by rfl) ?_; simp only [Act.put, List.setIfInBounds_toArray, List.set_cons_zero, List.set_cons_succ])
    | (refine q_load (by rfl) 43 _ rfl g (13 + a.n.height * 66 + 18 + m * 4) rfl (vcells ((a.n.heard a.n.height).wi m)) _ (fun W H => H.1.1.blk.twi a.n.height m hh hm) Tryz.underlying43 rfl (infoV _) ?_; simp only [Act.put, List.setIfInBounds_toArray, List.set_cons_zero, List.set_cons_succ])
    | (refine q_run_ex (by rfl) ?_
       apply Exists.intro
       refine ⟨fun w0 hC => ?_, ?_⟩
       · obtain ⟨c0, c1, c2, c3, c4, c5, c6, c7, c8⟩ := hC.1.1.blk.tnums; obtain ⟨d0, d1, d2⟩ := callcell hC.2; rw [hx1.out] at d2; clear hC; go_simp; rfl
       simp only [Act.put, List.setIfInBounds_toArray, List.set_cons_zero, List.set_cons_succ])
    | (refine q_call_ex (by rfl) ?_
       apply Exists.intro
       apply Exists.intro
       apply Exists.intro
       refine ⟨fun w0 hC => ?_, fun w0 hC => ?_, ?_⟩
       · clear hC; go_simp; exact ⟨rfl, rfl⟩
       · first | exact (hq w0).mono (fun e w' ⟨he, hb⟩ => ⟨he, hC.keep hb⟩)
       simp only [Act.put, List.setIfInBounds_toArray, List.set_cons_zero, List.set_cons_succ]))
  refine q_nil ?_
  intro w5 hC
  go_wp2
  go_ret
  exact ⟨rfl, hC.1⟩
set_option maxRecDepth 100000 in
set_option maxHeartbeats 4000000 in
theorem tansw_C1T1 {w : World} {g who : Nat} {a : At} {q sd : Value} (H : St w g 92 who a q sd) (hh : a.n.height < 4) (hround : a.n.round < 6) (hlen : a.words.length < 100000) (p : Bool) (y x : Int) (hp : (a.n.heard a.n.height).is a.n.round = p) (hy : (a.n.heard a.n.height).val a.n.round = y) (hx : (a.n.heard a.n.height).vld a.n.round = x) (hs : a.n.step = 0) (hpt : Hid (p = true)) (hx1 : Hid (x = -1)) (hle : a.n.boundIn ≤ x) :
    Calls Tryz.prog 65 #[.pointer (some ⟨g, 0, none⟩)] w fun e w' => e = .returned (.bool true) ∧ ∃ sd', InSt w g who (tell who ⟨{ a.n with step := 1 }, a.words⟩ 2 y 0) q sd' w' := by
  have hhi : (a.n.height : Int) < 4 := by omega
  have hri : (a.n.round : Int) < 6 := by omega
  have hi3 := info_call
  have hcr : ∀ W, InSt w g who a q sd W → W.rangeAt g (13 + a.n.height * 66 + a.n.round * 3) (#[.bool p, .int .i64 y, .int .i64 x] : Array Value).toList := fun W hC => by
    have := hC.1.blk.tcallR a.n.height a.n.round hh hround
    rw [hp, hy, hx] at this; exact this
  clear hp hy hx
  go_enter Tryz.func65, Tryz.ntmps65
  go_wp2_with (first | (go_at_call 58; refine (tsheet_any H.blk hh).mono ?_; rintro e w1 ⟨rfl, hb1⟩; have hC1 := InSt.keep (w := w) (who := who) (a := a) (q := q) (sd := sd) ⟨H, Below.refl _ _⟩ hb1))
  clear hb1
  refine held_region (InSt w g who a q sd) [] [(0, 0), (1, 0), (2, 0), (3, 0), (4, 0), (5, 1), (6, 0), (7, 0), (8, 0), (9, 1), (10, 2), (11, 2)] (by kernel_rfl) (by kernel_rfl) (by kernel_rfl) rfl (fun _ _ d _ _ h => by cases d <;> exact h) hC1.drew ?_
  repeat (first
    | (refine ord_run0_ex rfl (by rfl) ?_
       apply Exists.intro
       refine ⟨fun w0 => ?_, ?_⟩
       · go_simp; rfl
       simp only [Act.put, List.setIfInBounds_toArray, List.set_cons_zero, List.set_cons_succ])
    | (refine ord_load rfl (by rfl) 41 _ rfl g (13 + a.n.height * 66 + a.n.round * 3) rfl #[.bool p, .int .i64 y, .int .i64 x] _ hcr Tryz.underlying41 rfl hi3 ?_; simp only [Act.put, List.setIfInBounds_toArray, List.set_cons_zero, List.set_cons_succ])
    | (refine ord_run1_ex rfl (by rfl) ?_
       apply Exists.intro
       refine ⟨fun w0 hC => ?_, ?_⟩
       · obtain ⟨c0, c1, c2, c3, c4, c5, c6, c7, c8⟩ := hC.1.blk.tnums; clear hC; go_simp; rfl
       simp only [Act.put, List.setIfInBounds_toArray, List.set_cons_zero, List.set_cons_succ]))
  refine ord_do rfl ?_
  go_wp2_with fail
  refine ⟨fun _ => (hC1.alloc _).drew, ?_⟩
  refine ord_do rfl ?_
  go_wp2_with fail
  refine ⟨fun _ => (hC1.alloc _).drew, ?_⟩
  show wpOrd _ _ _ _ _ [] _ _ _
  unfold wpOrd
  obtain ⟨W2, hW2⟩ : ∃ W2, W2 = (w1.alloc (.cells #[.bool p, .int .i64 y, .int .i64 x] 41)).drew := ⟨_, rfl⟩
  have hC2 : InC w g who a q sd w1.heap.size #[.bool p, .int .i64 y, .int .i64 x] W2 := by rw [hW2]; exact ⟨(hC1.alloc _).drew, (Blk.new w1 _ _).drew⟩
  rw [← hW2]
  clear hW2 hC1
  generalize w1.heap.size = b at hC2 ⊢
  obtain ⟨c0, c1, c2, c3, c4, c5, c6, c7, c8⟩ := hC2.1.1.blk.tnums
  obtain ⟨d0, d1, d2⟩ := callcell hC2.2
  rw [hs] at c2
  rw [hpt.out] at d0
  go_wp2_with fail
  clear c0 c1 c2 c3 c4 c5 c6 c7 c8 d0 d1 d2
  refine q_region (C := InC w g who a q sd b #[.bool p, .int .i64 y, .int .i64 x]) (by kernel_rfl) (by kernel_rfl) hC2.drew ?_
  repeat (first
    | (refine q_skip (by rfl) ?_; simp only [Act.put, List.setIfInBounds_toArray, List.set_cons_zero, List.set_cons_succ])
    | (refine q_run_ex (by rfl) ?_
       apply Exists.intro
       refine ⟨fun w0 hC => ?_, ?_⟩
       · obtain ⟨c0, c1, c2, c3, c4, c5, c6, c7, c8⟩ := hC.1.1.blk.tnums; obtain ⟨d0, d1, d2⟩ := callcell hC.2; rw [hx1.out] at d2; clear hC; go_simp; rfl
       simp only [Act.put, List.setIfInBounds_toArray, List.set_cons_zero, List.set_cons_succ])
    | (refine q_call_ex (by rfl) ?_
       apply Exists.intro
       apply Exists.intro
       apply Exists.intro
       refine ⟨fun w0 hC => ?_, fun w0 hC => ?_, ?_⟩
       · clear hC; go_simp; exact ⟨rfl, rfl⟩
       · first | fail
       simp only [Act.put, List.setIfInBounds_toArray, List.set_cons_zero, List.set_cons_succ]))
  refine q_nil ?_
  intro w5 hC
  go_wp2_with fail
  have hC3 := hC
  clear hC hC2
  refine q_region (C := InC w g who a q sd b #[.bool p, .int .i64 y, .int .i64 x]) (by kernel_rfl) (by kernel_rfl) hC3.drew ?_
  repeat (first
    | (refine q_skip (by rfl) ?_; simp only [Act.put, List.setIfInBounds_toArray, List.set_cons_zero, List.set_cons_succ])
    | (refine q_run_ex (by rfl) ?_
       apply Exists.intro
       refine ⟨fun w0 hC => ?_, ?_⟩
       · obtain ⟨c0, c1, c2, c3, c4, c5, c6, c7, c8⟩ := hC.1.1.blk.tnums; obtain ⟨d0, d1, d2⟩ := callcell hC.2; clear hC; go_simp; rfl
       simp only [Act.put, List.setIfInBounds_toArray, List.set_cons_zero, List.set_cons_succ])
    | (refine q_call_ex (by rfl) ?_
       apply Exists.intro
       apply Exists.intro
       apply Exists.intro
       refine ⟨fun w0 hC => ?_, fun w0 hC => ?_, ?_⟩
       · clear hC; go_simp; exact ⟨rfl, rfl⟩
       · first | fail
       simp only [Act.put, List.setIfInBounds_toArray, List.set_cons_zero, List.set_cons_succ]))
  refine q_nil ?_
  intro w6 hC
  obtain ⟨d0, d1, d2⟩ := callcell hC.2
  go_wp2_with (first | (go_at_call 59; refine (twish_any hC.1.1 hh hlen y).mono ?_; rintro e w7 ⟨rfl, sd', H7, L7⟩))
  go_ret
  exact ⟨rfl, sd', H7, bel_seq hC.1.2 L7⟩
set_option maxRecDepth 100000 in
set_option maxHeartbeats 4000000 in
theorem tansw_C1T2 {w : World} {g who : Nat} {a : At} {q sd : Value} (H : St w g 92 who a q sd) (hh : a.n.height < 4) (hround : a.n.round < 6) (hlen : a.words.length < 100000) (p : Bool) (y x : Int) (hp : (a.n.heard a.n.height).is a.n.round = p) (hy : (a.n.heard a.n.height).val a.n.round = y) (hx : (a.n.heard a.n.height).vld a.n.round = x) (hs : a.n.step = 0) (hpt : Hid (p = true)) (hx1 : Hid (x = -1)) (hle : x < a.n.boundIn) (hbq : a.n.bound = y) :
    Calls Tryz.prog 65 #[.pointer (some ⟨g, 0, none⟩)] w fun e w' => e = .returned (.bool true) ∧ ∃ sd', InSt w g who (tell who ⟨{ a.n with step := 1 }, a.words⟩ 2 y 0) q sd' w' := by
  have hhi : (a.n.height : Int) < 4 := by omega
  have hri : (a.n.round : Int) < 6 := by omega
  have hi3 := info_call
  have hcr : ∀ W, InSt w g who a q sd W → W.rangeAt g (13 + a.n.height * 66 + a.n.round * 3) (#[.bool p, .int .i64 y, .int .i64 x] : Array Value).toList := fun W hC => by
    have := hC.1.blk.tcallR a.n.height a.n.round hh hround
    rw [hp, hy, hx] at this; exact this
  clear hp hy hx
  go_enter Tryz.func65, Tryz.ntmps65
  go_wp2_with (first | (go_at_call 58; refine (tsheet_any H.blk hh).mono ?_; rintro e w1 ⟨rfl, hb1⟩; have hC1 := InSt.keep (w := w) (who := who) (a := a) (q := q) (sd := sd) ⟨H, Below.refl _ _⟩ hb1))
  clear hb1
  refine held_region (InSt w g who a q sd) [] [(0, 0), (1, 0), (2, 0), (3, 0), (4, 0), (5, 1), (6, 0), (7, 0), (8, 0), (9, 1), (10, 2), (11, 2)] (by kernel_rfl) (by kernel_rfl) (by kernel_rfl) rfl (fun _ _ d _ _ h => by cases d <;> exact h) hC1.drew ?_
  repeat (first
    | (refine ord_run0_ex rfl (by rfl) ?_
       apply Exists.intro
       refine ⟨fun w0 => ?_, ?_⟩
       · go_simp; rfl
       simp only [Act.put, List.setIfInBounds_toArray, List.set_cons_zero, List.set_cons_succ])
    | (refine ord_load rfl (by rfl) 41 _ rfl g (13 + a.n.height * 66 + a.n.round * 3) rfl #[.bool p, .int .i64 y, .int .i64 x] _ hcr Tryz.underlying41 rfl hi3 ?_; simp only [Act.put, List.setIfInBounds_toArray, List.set_cons_zero, List.set_cons_succ])
    | (refine ord_run1_ex rfl (by rfl) ?_
       apply Exists.intro
       refine ⟨fun w0 hC => ?_, ?_⟩
       · obtain ⟨c0, c1, c2, c3, c4, c5, c6, c7, c8⟩ := hC.1.blk.tnums; clear hC; go_simp; rfl
       simp only [Act.put, List.setIfInBounds_toArray, List.set_cons_zero, List.set_cons_succ]))
  refine ord_do rfl ?_
  go_wp2_with fail
  refine ⟨fun _ => (hC1.alloc _).drew, ?_⟩
  refine ord_do rfl ?_
  go_wp2_with fail
  refine ⟨fun _ => (hC1.alloc _).drew, ?_⟩
  show wpOrd _ _ _ _ _ [] _ _ _
  unfold wpOrd
  obtain ⟨W2, hW2⟩ : ∃ W2, W2 = (w1.alloc (.cells #[.bool p, .int .i64 y, .int .i64 x] 41)).drew := ⟨_, rfl⟩
  have hC2 : InC w g who a q sd w1.heap.size #[.bool p, .int .i64 y, .int .i64 x] W2 := by rw [hW2]; exact ⟨(hC1.alloc _).drew, (Blk.new w1 _ _).drew⟩
  rw [← hW2]
  clear hW2 hC1
  generalize w1.heap.size = b at hC2 ⊢
  obtain ⟨c0, c1, c2, c3, c4, c5, c6, c7, c8⟩ := hC2.1.1.blk.tnums
  obtain ⟨d0, d1, d2⟩ := callcell hC2.2
  have hld : decide (a.n.boundIn ≤ x) = false := by simp; omega
  have hbb : (a.n.bound == y) = true := by simpa using hbq
  clear hbq
  rw [hs] at c2
  rw [hpt.out] at d0
  go_wp2_with fail
  clear c0 c1 c2 c3 c4 c5 c6 c7 c8 d0 d1 d2
  refine q_region (C := InC w g who a q sd b #[.bool p, .int .i64 y, .int .i64 x]) (by kernel_rfl) (by kernel_rfl) hC2.drew ?_
  repeat (first
    | (refine q_skip (by rfl) ?_; simp only [Act.put, List.setIfInBounds_toArray, List.set_cons_zero, List.set_cons_succ])
    | (refine q_run_ex (by rfl) ?_
       apply Exists.intro
       refine ⟨fun w0 hC => ?_, ?_⟩
       · obtain ⟨c0, c1, c2, c3, c4, c5, c6, c7, c8⟩ := hC.1.1.blk.tnums; obtain ⟨d0, d1, d2⟩ := callcell hC.2; rw [hx1.out] at d2; clear hC; go_simp; rfl
       simp only [Act.put, List.setIfInBounds_toArray, List.set_cons_zero, List.set_cons_succ])
    | (refine q_call_ex (by rfl) ?_
       apply Exists.intro
       apply Exists.intro
       apply Exists.intro
       refine ⟨fun w0 hC => ?_, fun w0 hC => ?_, ?_⟩
       · clear hC; go_simp; exact ⟨rfl, rfl⟩
       · first | fail
       simp only [Act.put, List.setIfInBounds_toArray, List.set_cons_zero, List.set_cons_succ]))
  refine q_nil ?_
  intro w5 hC
  go_wp2_with fail
  have hC3 := hC
  clear hC hC2
  refine q_region (C := InC w g who a q sd b #[.bool p, .int .i64 y, .int .i64 x]) (by kernel_rfl) (by kernel_rfl) hC3.drew ?_
  repeat (first
    | (refine q_skip (by rfl) ?_; simp only [Act.put, List.setIfInBounds_toArray, List.set_cons_zero, List.set_cons_succ])
    | (refine q_run_ex (by rfl) ?_
       apply Exists.intro
       refine ⟨fun w0 hC => ?_, ?_⟩
       · obtain ⟨c0, c1, c2, c3, c4, c5, c6, c7, c8⟩ := hC.1.1.blk.tnums; obtain ⟨d0, d1, d2⟩ := callcell hC.2; clear hC; go_simp; rfl
       simp only [Act.put, List.setIfInBounds_toArray, List.set_cons_zero, List.set_cons_succ])
    | (refine q_call_ex (by rfl) ?_
       apply Exists.intro
       apply Exists.intro
       apply Exists.intro
       refine ⟨fun w0 hC => ?_, fun w0 hC => ?_, ?_⟩
       · clear hC; go_simp; exact ⟨rfl, rfl⟩
       · first | fail
       simp only [Act.put, List.setIfInBounds_toArray, List.set_cons_zero, List.set_cons_succ]))
  refine q_nil ?_
  intro w6 hC
  obtain ⟨d0, d1, d2⟩ := callcell hC.2
  go_wp2_with (first | (go_at_call 59; refine (twish_any hC.1.1 hh hlen y).mono ?_; rintro e w7 ⟨rfl, sd', H7, L7⟩))
  go_ret
  exact ⟨rfl, sd', H7, bel_seq hC.1.2 L7⟩
set_option maxRecDepth 100000 in
set_option maxHeartbeats 4000000 in
theorem tansw_C1T3 {w : World} {g who : Nat} {a : At} {q sd : Value} (H : St w g 92 who a q sd) (hh : a.n.height < 4) (hround : a.n.round < 6) (hlen : a.words.length < 100000) (p : Bool) (y x : Int) (hp : (a.n.heard a.n.height).is a.n.round = p) (hy : (a.n.heard a.n.height).val a.n.round = y) (hx : (a.n.heard a.n.height).vld a.n.round = x) (hs : a.n.step = 0) (hpt : Hid (p = true)) (hx1 : Hid (x = -1)) (hle : x < a.n.boundIn) (hbq : a.n.bound ≠ y) :
    Calls Tryz.prog 65 #[.pointer (some ⟨g, 0, none⟩)] w fun e w' => e = .returned (.bool true) ∧ ∃ sd', InSt w g who (tell who ⟨{ a.n with step := 1 }, a.words⟩ 2 0 0) q sd' w' := by
  have hhi : (a.n.height : Int) < 4 := by omega
  have hri : (a.n.round : Int) < 6 := by omega
  have hi3 := info_call
  have hcr : ∀ W, InSt w g who a q sd W → W.rangeAt g (13 + a.n.height * 66 + a.n.round * 3) (#[.bool p, .int .i64 y, .int .i64 x] : Array Value).toList := fun W hC => by
    have := hC.1.blk.tcallR a.n.height a.n.round hh hround
    rw [hp, hy, hx] at this; exact this
  clear hp hy hx
  go_enter Tryz.func65, Tryz.ntmps65
  go_wp2_with (first | (go_at_call 58; refine (tsheet_any H.blk hh).mono ?_; rintro e w1 ⟨rfl, hb1⟩; have hC1 := InSt.keep (w := w) (who := who) (a := a) (q := q) (sd := sd) ⟨H, Below.refl _ _⟩ hb1))
  clear hb1
  refine held_region (InSt w g who a q sd) [] [(0, 0), (1, 0), (2, 0), (3, 0), (4, 0), (5, 1), (6, 0), (7, 0), (8, 0), (9, 1), (10, 2), (11, 2)] (by kernel_rfl) (by kernel_rfl) (by kernel_rfl) rfl (fun _ _ d _ _ h => by cases d <;> exact h) hC1.drew ?_
  repeat (first
    | (refine ord_run0_ex rfl (by rfl) ?_
       apply Exists.intro
       refine ⟨fun w0 => ?_, ?_⟩
       · go_simp; rfl
       simp only [Act.put, List.setIfInBounds_toArray, List.set_cons_zero, List.set_cons_succ])
    | (refine ord_load rfl (by rfl) 41 _ rfl g (13 + a.n.height * 66 + a.n.round * 3) rfl #[.bool p, .int .i64 y, .int .i64 x] _ hcr Tryz.underlying41 rfl hi3 ?_; simp only [Act.put, List.setIfInBounds_toArray, List.set_cons_zero, List.set_cons_succ])
    | (refine ord_run1_ex rfl (by rfl) ?_
       apply Exists.intro
       refine ⟨fun w0 hC => ?_, ?_⟩
       · obtain ⟨c0, c1, c2, c3, c4, c5, c6, c7, c8⟩ := hC.1.blk.tnums; clear hC; go_simp; rfl
       simp only [Act.put, List.setIfInBounds_toArray, List.set_cons_zero, List.set_cons_succ]))
  refine ord_do rfl ?_
  go_wp2_with fail
  refine ⟨fun _ => (hC1.alloc _).drew, ?_⟩
  refine ord_do rfl ?_
  go_wp2_with fail
  refine ⟨fun _ => (hC1.alloc _).drew, ?_⟩
  show wpOrd _ _ _ _ _ [] _ _ _
  unfold wpOrd
  obtain ⟨W2, hW2⟩ : ∃ W2, W2 = (w1.alloc (.cells #[.bool p, .int .i64 y, .int .i64 x] 41)).drew := ⟨_, rfl⟩
  have hC2 : InC w g who a q sd w1.heap.size #[.bool p, .int .i64 y, .int .i64 x] W2 := by rw [hW2]; exact ⟨(hC1.alloc _).drew, (Blk.new w1 _ _).drew⟩
  rw [← hW2]
  clear hW2 hC1
  generalize w1.heap.size = b at hC2 ⊢
  obtain ⟨c0, c1, c2, c3, c4, c5, c6, c7, c8⟩ := hC2.1.1.blk.tnums
  obtain ⟨d0, d1, d2⟩ := callcell hC2.2
  have hld : decide (a.n.boundIn ≤ x) = false := by simp; omega
  have hbb : (a.n.bound == y) = false := by simpa using hbq
  clear hbq
  rw [hs] at c2
  rw [hpt.out] at d0
  go_wp2_with fail
  clear c0 c1 c2 c3 c4 c5 c6 c7 c8 d0 d1 d2
  refine q_region (C := InC w g who a q sd b #[.bool p, .int .i64 y, .int .i64 x]) (by kernel_rfl) (by kernel_rfl) hC2.drew ?_
  repeat (first
    | (refine q_skip (by rfl) ?_; simp only [Act.put, List.setIfInBounds_toArray, List.set_cons_zero, List.set_cons_succ])
    | (refine q_run_ex (by rfl) ?_
       apply Exists.intro
       refine ⟨fun w0 hC => ?_, ?_⟩
       · obtain ⟨c0, c1, c2, c3, c4, c5, c6, c7, c8⟩ := hC.1.1.blk.tnums; obtain ⟨d0, d1, d2⟩ := callcell hC.2; rw [hx1.out] at d2; clear hC; go_simp; rfl
       simp only [Act.put, List.setIfInBounds_toArray, List.set_cons_zero, List.set_cons_succ])
    | (refine q_call_ex (by rfl) ?_
       apply Exists.intro
       apply Exists.intro
       apply Exists.intro
       refine ⟨fun w0 hC => ?_, fun w0 hC => ?_, ?_⟩
       · clear hC; go_simp; exact ⟨rfl, rfl⟩
       · first | fail
       simp only [Act.put, List.setIfInBounds_toArray, List.set_cons_zero, List.set_cons_succ]))
  refine q_nil ?_
  intro w5 hC
  go_wp2_with fail
  have hC3 := hC
  clear hC hC2
  refine q_region (C := InC w g who a q sd b #[.bool p, .int .i64 y, .int .i64 x]) (by kernel_rfl) (by kernel_rfl) hC3.drew ?_
  repeat (first
    | (refine q_skip (by rfl) ?_; simp only [Act.put, List.setIfInBounds_toArray, List.set_cons_zero, List.set_cons_succ])
    | (refine q_run_ex (by rfl) ?_
       apply Exists.intro
       refine ⟨fun w0 hC => ?_, ?_⟩
       · obtain ⟨c0, c1, c2, c3, c4, c5, c6, c7, c8⟩ := hC.1.1.blk.tnums; obtain ⟨d0, d1, d2⟩ := callcell hC.2; clear hC; go_simp; rfl
       simp only [Act.put, List.setIfInBounds_toArray, List.set_cons_zero, List.set_cons_succ])
    | (refine q_call_ex (by rfl) ?_
       apply Exists.intro
       apply Exists.intro
       apply Exists.intro
       refine ⟨fun w0 hC => ?_, fun w0 hC => ?_, ?_⟩
       · clear hC; go_simp; exact ⟨rfl, rfl⟩
       · first | fail
       simp only [Act.put, List.setIfInBounds_toArray, List.set_cons_zero, List.set_cons_succ]))
  refine q_nil ?_
  intro w6 hC
  obtain ⟨d0, d1, d2⟩ := callcell hC.2
  go_wp2_with (first | (go_at_call 59; refine (twish_any hC.1.1 hh hlen 0).mono ?_; rintro e w7 ⟨rfl, sd', H7, L7⟩))
  go_ret
  exact ⟨rfl, sd', H7, bel_seq hC.1.2 L7⟩
set_option maxRecDepth 100000 in
set_option maxHeartbeats 4000000 in
theorem tansw_C3T1 {w : World} {g who : Nat} {a : At} {q sd : Value} (H : St w g 92 who a q sd) (hh : a.n.height < 4) (hround : a.n.round < 6) (hlen : a.words.length < 100000) (p : Bool) (y x : Int) (hp : (a.n.heard a.n.height).is a.n.round = p) (hy : (a.n.heard a.n.height).val a.n.round = y) (hx : (a.n.heard a.n.height).vld a.n.round = x) (hs : a.n.step = 0) (hpt : Hid (p = true)) (m : Nat) (hm : m < 6) (hx1 : Hid (x = (m : Int))) (hV : VBd ((a.n.heard a.n.height).wi m)) (hcn : 3 ≤ cntV ((a.n.heard a.n.height).wi m) y) (hle : a.n.boundIn ≤ x) :
    Calls Tryz.prog 65 #[.pointer (some ⟨g, 0, none⟩)] w fun e w' => e = .returned (.bool true) ∧ ∃ sd', InSt w g who (tell who ⟨{ a.n with step := 1 }, a.words⟩ 2 y 0) q sd' w' := by
  have hhi : (a.n.height : Int) < 4 := by omega
  have hri : (a.n.round : Int) < 6 := by omega
  have hi3 := info_call
  have hcr : ∀ W, InSt w g who a q sd W → W.rangeAt g (13 + a.n.height * 66 + a.n.round * 3) (#[.bool p, .int .i64 y, .int .i64 x] : Array Value).toList := fun W hC => by
    have := hC.1.blk.tcallR a.n.height a.n.round hh hround
    rw [hp, hy, hx] at this; exact this
  clear hp hy hx
  go_enter Tryz.func65, Tryz.ntmps65
  go_wp2_with (first | (go_at_call 58; refine (tsheet_any H.blk hh).mono ?_; rintro e w1 ⟨rfl, hb1⟩; have hC1 := InSt.keep (w := w) (who := who) (a := a) (q := q) (sd := sd) ⟨H, Below.refl _ _⟩ hb1))
  clear hb1
  refine held_region (InSt w g who a q sd) [] [(0, 0), (1, 0), (2, 0), (3, 0), (4, 0), (5, 1), (6, 0), (7, 0), (8, 0), (9, 1), (10, 2), (11, 2)] (by kernel_rfl) (by kernel_rfl) (by kernel_rfl) rfl (fun _ _ d _ _ h => by cases d <;> exact h) hC1.drew ?_
  repeat (first
    | (refine ord_run0_ex rfl (by rfl) ?_
       apply Exists.intro
       refine ⟨fun w0 => ?_, ?_⟩
       · go_simp; rfl
       simp only [Act.put, List.setIfInBounds_toArray, List.set_cons_zero, List.set_cons_succ])
    | (refine ord_load rfl (by rfl) 41 _ rfl g (13 + a.n.height * 66 + a.n.round * 3) rfl #[.bool p, .int .i64 y, .int .i64 x] _ hcr Tryz.underlying41 rfl hi3 ?_; simp only [Act.put, List.setIfInBounds_toArray, List.set_cons_zero, List.set_cons_succ])
    | (refine ord_run1_ex rfl (by rfl) ?_
       apply Exists.intro
       refine ⟨fun w0 hC => ?_, ?_⟩
       · obtain ⟨c0, c1, c2, c3, c4, c5, c6, c7, c8⟩ := hC.1.blk.tnums; clear hC; go_simp; rfl
       simp only [Act.put, List.setIfInBounds_toArray, List.set_cons_zero, List.set_cons_succ]))
  refine ord_do rfl ?_
  go_wp2_with fail
  refine ⟨fun _ => (hC1.alloc _).drew, ?_⟩
  refine ord_do rfl ?_
  go_wp2_with fail
  refine ⟨fun _ => (hC1.alloc _).drew, ?_⟩
  show wpOrd _ _ _ _ _ [] _ _ _
  unfold wpOrd
  obtain ⟨W2, hW2⟩ : ∃ W2, W2 = (w1.alloc (.cells #[.bool p, .int .i64 y, .int .i64 x] 41)).drew := ⟨_, rfl⟩
  have hC2 : InC w g who a q sd w1.heap.size #[.bool p, .int .i64 y, .int .i64 x] W2 := by rw [hW2]; exact ⟨(hC1.alloc _).drew, (Blk.new w1 _ _).drew⟩
  rw [← hW2]
  clear hW2 hC1
  generalize w1.heap.size = b at hC2 ⊢
  obtain ⟨c0, c1, c2, c3, c4, c5, c6, c7, c8⟩ := hC2.1.1.blk.tnums
  obtain ⟨d0, d1, d2⟩ := callcell hC2.2
  have hmi : (m : Int) < 6 := by omega
  have hq : ∀ W, Calls Tryz.prog 86 #[.agg (vcells ((a.n.heard a.n.height).wi m)), .int .i64 y] W fun e w' => e = .returned (.bool true) ∧ Below W.heap.size W w' := fun W => by have := quorum_any _ hV y W; rw [decide_eq_true hcn] at this; exact this
  clear hcn hV
  rw [hs] at c2
  rw [hpt.out] at d0
  go_wp2_with fail
  clear c0 c1 c2 c3 c4 c5 c6 c7 c8 d0 d1 d2
  refine q_region (C := InC w g who a q sd b #[.bool p, .int .i64 y, .int .i64 x]) (by kernel_rfl) (by kernel_rfl) hC2.drew ?_
  repeat (first
    | (refine q_skip (by rfl) ?_; simp only [Act.put, List.setIfInBounds_toArray, List.set_cons_zero, List.set_cons_succ])
    | (refine q_load (by rfl) 43 _ rfl g (13 + a.n.height * 66 + 18 + m * 4) rfl (vcells ((a.n.heard a.n.height).wi m)) _ (fun W H => H.1.1.blk.twi a.n.height m hh hm) Tryz.underlying43 rfl (infoV _) ?_; simp only [Act.put, List.setIfInBounds_toArray, List.set_cons_zero, List.set_cons_succ])
    | (refine q_run_ex (by rfl) ?_
       apply Exists.intro
       refine ⟨fun w0 hC => ?_, ?_⟩
       · obtain ⟨c0, c1, c2, c3, c4, c5, c6, c7, c8⟩ := hC.1.1.blk.tnums; obtain ⟨d0, d1, d2⟩ := callcell hC.2; rw [hx1.out] at d2; clear hC; go_simp; rfl
       simp only [Act.put, List.setIfInBounds_toArray, List.set_cons_zero, List.set_cons_succ])
    | (refine q_call_ex (by rfl) ?_
       apply Exists.intro
       apply Exists.intro
       apply Exists.intro
       refine ⟨fun w0 hC => ?_, fun w0 hC => ?_, ?_⟩
       · clear hC; go_simp; exact ⟨rfl, rfl⟩
       · first | exact (hq w0).mono (fun e w' ⟨he, hb⟩ => ⟨he, hC.keep hb⟩)
       simp only [Act.put, List.setIfInBounds_toArray, List.set_cons_zero, List.set_cons_succ]))
  refine q_nil ?_
  intro w5 hC
  go_wp2_with fail
  have hC3 := hC
  clear hC hC2
  refine q_region (C := InC w g who a q sd b #[.bool p, .int .i64 y, .int .i64 x]) (by kernel_rfl) (by kernel_rfl) hC3.drew ?_
  repeat (first
    | (refine q_skip (by rfl) ?_; simp only [Act.put, List.setIfInBounds_toArray, List.set_cons_zero, List.set_cons_succ])
    | (refine q_run_ex (by rfl) ?_
       apply Exists.intro
       refine ⟨fun w0 hC => ?_, ?_⟩
       · obtain ⟨c0, c1, c2, c3, c4, c5, c6, c7, c8⟩ := hC.1.1.blk.tnums; obtain ⟨d0, d1, d2⟩ := callcell hC.2; clear hC; go_simp; rfl
       simp only [Act.put, List.setIfInBounds_toArray, List.set_cons_zero, List.set_cons_succ])
    | (refine q_call_ex (by rfl) ?_
       apply Exists.intro
       apply Exists.intro
       apply Exists.intro
       refine ⟨fun w0 hC => ?_, fun w0 hC => ?_, ?_⟩
       · clear hC; go_simp; exact ⟨rfl, rfl⟩
       · first | fail
       simp only [Act.put, List.setIfInBounds_toArray, List.set_cons_zero, List.set_cons_succ]))
  refine q_nil ?_
  intro w6 hC
  obtain ⟨d0, d1, d2⟩ := callcell hC.2
  go_wp2_with (first | (go_at_call 59; refine (twish_any hC.1.1 hh hlen y).mono ?_; rintro e w7 ⟨rfl, sd', H7, L7⟩))
  go_ret
  exact ⟨rfl, sd', H7, bel_seq hC.1.2 L7⟩
set_option maxRecDepth 100000 in
set_option maxHeartbeats 4000000 in
theorem tansw_C3T2 {w : World} {g who : Nat} {a : At} {q sd : Value} (H : St w g 92 who a q sd) (hh : a.n.height < 4) (hround : a.n.round < 6) (hlen : a.words.length < 100000) (p : Bool) (y x : Int) (hp : (a.n.heard a.n.height).is a.n.round = p) (hy : (a.n.heard a.n.height).val a.n.round = y) (hx : (a.n.heard a.n.height).vld a.n.round = x) (hs : a.n.step = 0) (hpt : Hid (p = true)) (m : Nat) (hm : m < 6) (hx1 : Hid (x = (m : Int))) (hV : VBd ((a.n.heard a.n.height).wi m)) (hcn : 3 ≤ cntV ((a.n.heard a.n.height).wi m) y) (hle : x < a.n.boundIn) (hbq : a.n.bound = y) :
    Calls Tryz.prog 65 #[.pointer (some ⟨g, 0, none⟩)] w fun e w' => e = .returned (.bool true) ∧ ∃ sd', InSt w g who (tell who ⟨{ a.n with step := 1 }, a.words⟩ 2 y 0) q sd' w' := by
  have hhi : (a.n.height : Int) < 4 := by omega
  have hri : (a.n.round : Int) < 6 := by omega
  have hi3 := info_call
  have hcr : ∀ W, InSt w g who a q sd W → W.rangeAt g (13 + a.n.height * 66 + a.n.round * 3) (#[.bool p, .int .i64 y, .int .i64 x] : Array Value).toList := fun W hC => by
    have := hC.1.blk.tcallR a.n.height a.n.round hh hround
    rw [hp, hy, hx] at this; exact this
  clear hp hy hx
  go_enter Tryz.func65, Tryz.ntmps65
  go_wp2_with (first | (go_at_call 58; refine (tsheet_any H.blk hh).mono ?_; rintro e w1 ⟨rfl, hb1⟩; have hC1 := InSt.keep (w := w) (who := who) (a := a) (q := q) (sd := sd) ⟨H, Below.refl _ _⟩ hb1))
  clear hb1
  refine held_region (InSt w g who a q sd) [] [(0, 0), (1, 0), (2, 0), (3, 0), (4, 0), (5, 1), (6, 0), (7, 0), (8, 0), (9, 1), (10, 2), (11, 2)] (by kernel_rfl) (by kernel_rfl) (by kernel_rfl) rfl (fun _ _ d _ _ h => by cases d <;> exact h) hC1.drew ?_
  repeat (first
    | (refine ord_run0_ex rfl (by rfl) ?_
       apply Exists.intro
       refine ⟨fun w0 => ?_, ?_⟩
       · go_simp; rfl
       simp only [Act.put, List.setIfInBounds_toArray, List.set_cons_zero, List.set_cons_succ])
    | (refine ord_load rfl (by rfl) 41 _ rfl g (13 + a.n.height * 66 + a.n.round * 3) rfl #[.bool p, .int .i64 y, .int .i64 x] _ hcr Tryz.underlying41 rfl hi3 ?_; simp only [Act.put, List.setIfInBounds_toArray, List.set_cons_zero, List.set_cons_succ])
    | (refine ord_run1_ex rfl (by rfl) ?_
       apply Exists.intro
       refine ⟨fun w0 hC => ?_, ?_⟩
       · obtain ⟨c0, c1, c2, c3, c4, c5, c6, c7, c8⟩ := hC.1.blk.tnums; clear hC; go_simp; rfl
       simp only [Act.put, List.setIfInBounds_toArray, List.set_cons_zero, List.set_cons_succ]))
  refine ord_do rfl ?_
  go_wp2_with fail
  refine ⟨fun _ => (hC1.alloc _).drew, ?_⟩
  refine ord_do rfl ?_
  go_wp2_with fail
  refine ⟨fun _ => (hC1.alloc _).drew, ?_⟩
  show wpOrd _ _ _ _ _ [] _ _ _
  unfold wpOrd
  obtain ⟨W2, hW2⟩ : ∃ W2, W2 = (w1.alloc (.cells #[.bool p, .int .i64 y, .int .i64 x] 41)).drew := ⟨_, rfl⟩
  have hC2 : InC w g who a q sd w1.heap.size #[.bool p, .int .i64 y, .int .i64 x] W2 := by rw [hW2]; exact ⟨(hC1.alloc _).drew, (Blk.new w1 _ _).drew⟩
  rw [← hW2]
  clear hW2 hC1
  generalize w1.heap.size = b at hC2 ⊢
  obtain ⟨c0, c1, c2, c3, c4, c5, c6, c7, c8⟩ := hC2.1.1.blk.tnums
  obtain ⟨d0, d1, d2⟩ := callcell hC2.2
  have hmi : (m : Int) < 6 := by omega
  have hq : ∀ W, Calls Tryz.prog 86 #[.agg (vcells ((a.n.heard a.n.height).wi m)), .int .i64 y] W fun e w' => e = .returned (.bool true) ∧ Below W.heap.size W w' := fun W => by have := quorum_any _ hV y W; rw [decide_eq_true hcn] at this; exact this
  clear hcn hV
  have hld : decide (a.n.boundIn ≤ x) = false := by simp; omega
  have hbb : (a.n.bound == y) = true := by simpa using hbq
  clear hbq
  rw [hs] at c2
  rw [hpt.out] at d0
  go_wp2_with fail
  clear c0 c1 c2 c3 c4 c5 c6 c7 c8 d0 d1 d2
  refine q_region (C := InC w g who a q sd b #[.bool p, .int .i64 y, .int .i64 x]) (by kernel_rfl) (by kernel_rfl) hC2.drew ?_
  repeat (first
    | (refine q_skip (by rfl) ?_; simp only [Act.put, List.setIfInBounds_toArray, List.set_cons_zero, List.set_cons_succ])
    | (refine q_load (by rfl) 43 _ rfl g (13 + a.n.height * 66 + 18 + m * 4) rfl (vcells ((a.n.heard a.n.height).wi m)) _ (fun W H => H.1.1.blk.twi a.n.height m hh hm) Tryz.underlying43 rfl (infoV _) ?_; simp only [Act.put, List.setIfInBounds_toArray, List.set_cons_zero, List.set_cons_succ])
    | (refine q_run_ex (by rfl) ?_
       apply Exists.intro
       refine ⟨fun w0 hC => ?_, ?_⟩
       · obtain ⟨c0, c1, c2, c3, c4, c5, c6, c7, c8⟩ := hC.1.1.blk.tnums; obtain ⟨d0, d1, d2⟩ := callcell hC.2; rw [hx1.out] at d2; clear hC; go_simp; rfl
       simp only [Act.put, List.setIfInBounds_toArray, List.set_cons_zero, List.set_cons_succ])
    | (refine q_call_ex (by rfl) ?_
       apply Exists.intro
       apply Exists.intro
       apply Exists.intro
       refine ⟨fun w0 hC => ?_, fun w0 hC => ?_, ?_⟩
       · clear hC; go_simp; exact ⟨rfl, rfl⟩
       · first | exact (hq w0).mono (fun e w' ⟨he, hb⟩ => ⟨he, hC.keep hb⟩)
       simp only [Act.put, List.setIfInBounds_toArray, List.set_cons_zero, List.set_cons_succ]))
  refine q_nil ?_
  intro w5 hC
  go_wp2_with fail
  have hC3 := hC
  clear hC hC2
  refine q_region (C := InC w g who a q sd b #[.bool p, .int .i64 y, .int .i64 x]) (by kernel_rfl) (by kernel_rfl) hC3.drew ?_
  repeat (first
    | (refine q_skip (by rfl) ?_; simp only [Act.put, List.setIfInBounds_toArray, List.set_cons_zero, List.set_cons_succ])
    | (refine q_run_ex (by rfl) ?_
       apply Exists.intro
       refine ⟨fun w0 hC => ?_, ?_⟩
       · obtain ⟨c0, c1, c2, c3, c4, c5, c6, c7, c8⟩ := hC.1.1.blk.tnums; obtain ⟨d0, d1, d2⟩ := callcell hC.2; clear hC; go_simp; rfl
       simp only [Act.put, List.setIfInBounds_toArray, List.set_cons_zero, List.set_cons_succ])
    | (refine q_call_ex (by rfl) ?_
       apply Exists.intro
       apply Exists.intro
       apply Exists.intro
       refine ⟨fun w0 hC => ?_, fun w0 hC => ?_, ?_⟩
       · clear hC; go_simp; exact ⟨rfl, rfl⟩
       · first | fail
       simp only [Act.put, List.setIfInBounds_toArray, List.set_cons_zero, List.set_cons_succ]))
  refine q_nil ?_
  intro w6 hC
  obtain ⟨d0, d1, d2⟩ := callcell hC.2
  go_wp2_with (first | (go_at_call 59; refine (twish_any hC.1.1 hh hlen y).mono ?_; rintro e w7 ⟨rfl, sd', H7, L7⟩))
  go_ret
  exact ⟨rfl, sd', H7, bel_seq hC.1.2 L7⟩
set_option maxRecDepth 100000 in
set_option maxHeartbeats 4000000 in
theorem tansw_C3T3 {w : World} {g who : Nat} {a : At} {q sd : Value} (H : St w g 92 who a q sd) (hh : a.n.height < 4) (hround : a.n.round < 6) (hlen : a.words.length < 100000) (p : Bool) (y x : Int) (hp : (a.n.heard a.n.height).is a.n.round = p) (hy : (a.n.heard a.n.height).val a.n.round = y) (hx : (a.n.heard a.n.height).vld a.n.round = x) (hs : a.n.step = 0) (hpt : Hid (p = true)) (m : Nat) (hm : m < 6) (hx1 : Hid (x = (m : Int))) (hV : VBd ((a.n.heard a.n.height).wi m)) (hcn : 3 ≤ cntV ((a.n.heard a.n.height).wi m) y) (hle : x < a.n.boundIn) (hbq : a.n.bound ≠ y) :
    Calls Tryz.prog 65 #[.pointer (some ⟨g, 0, none⟩)] w fun e w' => e = .returned (.bool true) ∧ ∃ sd', InSt w g who (tell who ⟨{ a.n with step := 1 }, a.words⟩ 2 0 0) q sd' w' := by
  have hhi : (a.n.height : Int) < 4 := by omega
  have hri : (a.n.round : Int) < 6 := by omega
  have hi3 := info_call
  have hcr : ∀ W, InSt w g who a q sd W → W.rangeAt g (13 + a.n.height * 66 + a.n.round * 3) (#[.bool p, .int .i64 y, .int .i64 x] : Array Value).toList := fun W hC => by
    have := hC.1.blk.tcallR a.n.height a.n.round hh hround
    rw [hp, hy, hx] at this; exact this
  clear hp hy hx
  go_enter Tryz.func65, Tryz.ntmps65
  go_wp2_with (first | (go_at_call 58; refine (tsheet_any H.blk hh).mono ?_; rintro e w1 ⟨rfl, hb1⟩; have hC1 := InSt.keep (w := w) (who := who) (a := a) (q := q) (sd := sd) ⟨H, Below.refl _ _⟩ hb1))
  clear hb1
  refine held_region (InSt w g who a q sd) [] [(0, 0), (1, 0), (2, 0), (3, 0), (4, 0), (5, 1), (6, 0), (7, 0), (8, 0), (9, 1), (10, 2), (11, 2)] (by kernel_rfl) (by kernel_rfl) (by kernel_rfl) rfl (fun _ _ d _ _ h => by cases d <;> exact h) hC1.drew ?_
  repeat (first
    | (refine ord_run0_ex rfl (by rfl) ?_
       apply Exists.intro
       refine ⟨fun w0 => ?_, ?_⟩
       · go_simp; rfl
       simp only [Act.put, List.setIfInBounds_toArray, List.set_cons_zero, List.set_cons_succ])
    | (refine ord_load rfl (by rfl) 41 _ rfl g (13 + a.n.height * 66 + a.n.round * 3) rfl #[.bool p, .int .i64 y, .int .i64 x] _ hcr Tryz.underlying41 rfl hi3 ?_; simp only [Act.put, List.setIfInBounds_toArray, List.set_cons_zero, List.set_cons_succ])
    | (refine ord_run1_ex rfl (by rfl) ?_
       apply Exists.intro
       refine ⟨fun w0 hC => ?_, ?_⟩
       · obtain ⟨c0, c1, c2, c3, c4, c5, c6, c7, c8⟩ := hC.1.blk.tnums; clear hC; go_simp; rfl
       simp only [Act.put, List.setIfInBounds_toArray, List.set_cons_zero, List.set_cons_succ]))
  refine ord_do rfl ?_
  go_wp2_with fail
  refine ⟨fun _ => (hC1.alloc _).drew, ?_⟩
  refine ord_do rfl ?_
  go_wp2_with fail
  refine ⟨fun _ => (hC1.alloc _).drew, ?_⟩
  show wpOrd _ _ _ _ _ [] _ _ _
  unfold wpOrd
  obtain ⟨W2, hW2⟩ : ∃ W2, W2 = (w1.alloc (.cells #[.bool p, .int .i64 y, .int .i64 x] 41)).drew := ⟨_, rfl⟩
  have hC2 : InC w g who a q sd w1.heap.size #[.bool p, .int .i64 y, .int .i64 x] W2 := by rw [hW2]; exact ⟨(hC1.alloc _).drew, (Blk.new w1 _ _).drew⟩
  rw [← hW2]
  clear hW2 hC1
  generalize w1.heap.size = b at hC2 ⊢
  obtain ⟨c0, c1, c2, c3, c4, c5, c6, c7, c8⟩ := hC2.1.1.blk.tnums
  obtain ⟨d0, d1, d2⟩ := callcell hC2.2
  have hmi : (m : Int) < 6 := by omega
  have hq : ∀ W, Calls Tryz.prog 86 #[.agg (vcells ((a.n.heard a.n.height).wi m)), .int .i64 y] W fun e w' => e = .returned (.bool true) ∧ Below W.heap.size W w' := fun W => by have := quorum_any _ hV y W; rw [decide_eq_true hcn] at this; exact this
  clear hcn hV
  have hld : decide (a.n.boundIn ≤ x) = false := by simp; omega
  have hbb : (a.n.bound == y) = false := by simpa using hbq
  clear hbq
  rw [hs] at c2
  rw [hpt.out] at d0
  go_wp2_with fail
  clear c0 c1 c2 c3 c4 c5 c6 c7 c8 d0 d1 d2
  refine q_region (C := InC w g who a q sd b #[.bool p, .int .i64 y, .int .i64 x]) (by kernel_rfl) (by kernel_rfl) hC2.drew ?_
  repeat (first
    | (refine q_skip (by rfl) ?_; simp only [Act.put, List.setIfInBounds_toArray, List.set_cons_zero, List.set_cons_succ])
    | (refine q_load (by rfl) 43 _ rfl g (13 + a.n.height * 66 + 18 + m * 4) rfl (vcells ((a.n.heard a.n.height).wi m)) _ (fun W H => H.1.1.blk.twi a.n.height m hh hm) Tryz.underlying43 rfl (infoV _) ?_; simp only [Act.put, List.setIfInBounds_toArray, List.set_cons_zero, List.set_cons_succ])
    | (refine q_run_ex (by rfl) ?_
       apply Exists.intro
       refine ⟨fun w0 hC => ?_, ?_⟩
       · obtain ⟨c0, c1, c2, c3, c4, c5, c6, c7, c8⟩ := hC.1.1.blk.tnums; obtain ⟨d0, d1, d2⟩ := callcell hC.2; rw [hx1.out] at d2; clear hC; go_simp; rfl
       simp only [Act.put, List.setIfInBounds_toArray, List.set_cons_zero, List.set_cons_succ])
    | (refine q_call_ex (by rfl) ?_
       apply Exists.intro
       apply Exists.intro
       apply Exists.intro
       refine ⟨fun w0 hC => ?_, fun w0 hC => ?_, ?_⟩
       · clear hC; go_simp; exact ⟨rfl, rfl⟩
       · first | exact (hq w0).mono (fun e w' ⟨he, hb⟩ => ⟨he, hC.keep hb⟩)
       simp only [Act.put, List.setIfInBounds_toArray, List.set_cons_zero, List.set_cons_succ]))
  refine q_nil ?_
  intro w5 hC
  go_wp2_with fail
  have hC3 := hC
  clear hC hC2
  refine q_region (C := InC w g who a q sd b #[.bool p, .int .i64 y, .int .i64 x]) (by kernel_rfl) (by kernel_rfl) hC3.drew ?_
  repeat (first
    | (refine q_skip (by rfl) ?_; simp only [Act.put, List.setIfInBounds_toArray, List.set_cons_zero, List.set_cons_succ])
    | (refine q_run_ex (by rfl) ?_
       apply Exists.intro
       refine ⟨fun w0 hC => ?_, ?_⟩
       · obtain ⟨c0, c1, c2, c3, c4, c5, c6, c7, c8⟩ := hC.1.1.blk.tnums; obtain ⟨d0, d1, d2⟩ := callcell hC.2; clear hC; go_simp; rfl
       simp only [Act.put, List.setIfInBounds_toArray, List.set_cons_zero, List.set_cons_succ])
    | (refine q_call_ex (by rfl) ?_
       apply Exists.intro
       apply Exists.intro
       apply Exists.intro
       refine ⟨fun w0 hC => ?_, fun w0 hC => ?_, ?_⟩
       · clear hC; go_simp; exact ⟨rfl, rfl⟩
       · first | fail
       simp only [Act.put, List.setIfInBounds_toArray, List.set_cons_zero, List.set_cons_succ]))
  refine q_nil ?_
  intro w6 hC
  obtain ⟨d0, d1, d2⟩ := callcell hC.2
  go_wp2_with (first | (go_at_call 59; refine (twish_any hC.1.1 hh hlen 0).mono ?_; rintro e w7 ⟨rfl, sd', H7, L7⟩))
  go_ret
  exact ⟨rfl, sd', H7, bel_seq hC.1.2 L7⟩
end Go.Proofs.YtmmgaonlmpajbacGreat
namespace Go.Proofs.YtmmgaonlmpajbacGreat
open Go.RowKit

/-- What time does, ahead of what follows: P3.10. -/
def gaveUp (who : Nat) (a : At) : At :=
  if a.n.step = 0 then tell who ⟨{ a.n with step := 1 }, a.words⟩ 2 0 0
  else if a.n.step = 1 then (if 3 ≤ allV ((a.n.heard a.n.height).wi a.n.round) then tell who ⟨{ a.n with step := 2 }, a.words⟩ 3 0 0 else a)
  else if 3 ≤ allV ((a.n.heard a.n.height).pr a.n.round) ∧ a.n.round + 1 < 6 then enter who a (a.n.round + 1) else a

set_option maxRecDepth 100000 in
set_option maxHeartbeats 4000000 in
theorem tgive_0 {w : World} {g who : Nat} {a : At} {q sd : Value} (H : St w g 92 who a q sd) (hh : a.n.height < 4) (hround : a.n.round < 6) (hlen : a.words.length < 100000) (_hv : a.n.validIn = -1 ∨ 0 ≤ a.n.validIn) (hs : a.n.step = 0) :
    Calls Tryz.prog 41 #[.pointer (some ⟨g, 0, none⟩)] w fun e w' => e = .returned (.tuple #[]) ∧ ∃ sd', InSt w g who (gaveUp who a) q sd' w' := by
  have hhi : (a.n.height : Int) < 4 := by omega
  have hri : (a.n.round : Int) < 6 := by omega
  have h0i : (0 : Int) ≤ (a.n.round : Int) := by omega
  have hw1 : IntKind.i64.wrap ((a.n.round : Int) + 1) = (a.n.round : Int) + 1 := IntWalk.i64_in _ (by omega)
  have hC0 : InSt w g who a q sd w := ⟨H, Below.refl _ _⟩
  have he : Hid (gaveUp who a = tell who ⟨{ a.n with step := 1 }, a.words⟩ 2 0 0) := if_pos hs
  go_enter Tryz.func41, Tryz.ntmps41
  go_wp2_with (first
    | (go_at_call 58; refine (tsheet_any H.blk hh).mono ?_; rintro e w1 ⟨rfl, hb1⟩; have hC1 := hC0.keep hb1; obtain ⟨c0, c1, c2, c3, c4, c5, c6, c7, c8⟩ := hC1.1.blk.tnums; rw [hs] at c2)
    | (go_at_call 59; refine (twish_any hC1.1 hh hlen 0).mono ?_; rintro e w2 ⟨rfl, sd', H2, L2⟩))
  go_end0
  rw [he.out]
  exact ⟨rfl, sd', H2, bel_seq hC1.2 L2⟩
set_option maxRecDepth 100000 in
set_option maxHeartbeats 4000000 in
theorem tgive_1y {w : World} {g who : Nat} {a : At} {q sd : Value} (H : St w g 92 who a q sd) (hh : a.n.height < 4) (hround : a.n.round < 6) (hlen : a.words.length < 100000) (_hv : a.n.validIn = -1 ∨ 0 ≤ a.n.validIn) (hs : a.n.step = 1) (A : Int) (hA : allV ((a.n.heard a.n.height).wi a.n.round) = A) (h3 : 3 ≤ A) :
    Calls Tryz.prog 41 #[.pointer (some ⟨g, 0, none⟩)] w fun e w' => e = .returned (.tuple #[]) ∧ ∃ sd', InSt w g who (gaveUp who a) q sd' w' := by
  have hhi : (a.n.height : Int) < 4 := by omega
  have hri : (a.n.round : Int) < 6 := by omega
  have h0i : (0 : Int) ≤ (a.n.round : Int) := by omega
  have hw1 : IntKind.i64.wrap ((a.n.round : Int) + 1) = (a.n.round : Int) + 1 := IntWalk.i64_in _ (by omega)
  have hC0 : InSt w g who a q sd w := ⟨H, Below.refl _ _⟩
  have he : Hid (gaveUp who a = tell who ⟨{ a.n with step := 2 }, a.words⟩ 3 0 0) := by
    show _ = _
    unfold gaveUp
    rw [if_neg (by omega), if_pos hs, if_pos (by omega)]
  have hall : ∀ W, Calls Tryz.prog 60 #[.agg (vcells ((a.n.heard a.n.height).wi a.n.round))] W fun e w' => e = .returned (.int .i64 A) ∧ Below W.heap.size W w' := fun W => by have := all_any ((a.n.heard a.n.height).wi a.n.round) W; rwa [hA] at this
  clear hA
  go_enter Tryz.func41, Tryz.ntmps41
  go_wp2_with (first
    | (go_at_call 58; refine (tsheet_any H.blk hh).mono ?_; rintro e w1 ⟨rfl, hb1⟩; have hC1 := hC0.keep hb1; obtain ⟨c0, c1, c2, c3, c4, c5, c6, c7, c8⟩ := hC1.1.blk.tnums; rw [hs] at c2))
  clear c0 c1 c2 c3 c4 c5 c6 c7 c8 hb1
  refine q_region (C := InSt w g who a q sd) (by kernel_rfl) (by kernel_rfl) hC1.drew ?_
  repeat (first
    | (refine q_skip (by rfl) ?_; simp only [Act.put, List.setIfInBounds_toArray, List.set_cons_zero, List.set_cons_succ])
    | (refine q_load (by rfl) 43 _ rfl g (13 + a.n.height * 66 + 18 + a.n.round * 4) rfl (vcells ((a.n.heard a.n.height).wi a.n.round)) _ (fun W H => H.1.blk.twi a.n.height a.n.round hh hround) Tryz.underlying43 rfl (infoV _) ?_; simp only [Act.put, List.setIfInBounds_toArray, List.set_cons_zero, List.set_cons_succ])
    | (refine q_run_ex (by rfl) ?_
       apply Exists.intro
       refine ⟨fun w0 hC => ?_, ?_⟩
       · obtain ⟨c0, c1, c2, c3, c4, c5, c6, c7, c8⟩ := hC.1.blk.tnums; clear hC; go_simp; rfl
       simp only [Act.put, List.setIfInBounds_toArray, List.set_cons_zero, List.set_cons_succ])
    | (refine q_call_ex (by rfl) ?_
       apply Exists.intro
       apply Exists.intro
       apply Exists.intro
       refine ⟨fun w0 hC => ?_, fun w0 hC => ?_, ?_⟩
       · clear hC; go_simp; exact ⟨rfl, rfl⟩
       · first | exact (hall w0).mono (fun e w' ⟨he, hb⟩ => ⟨he, hC.keep hb⟩)
       simp only [Act.put, List.setIfInBounds_toArray, List.set_cons_zero, List.set_cons_succ]))
  refine q_nil ?_
  intro w5 hC5
  go_wp2_with (first
    | (go_at_call 61; refine (tpromise_any hC5.1 hh hlen 0).mono ?_; rintro e w2 ⟨rfl, sd', H2, L2⟩))
  go_end0
  rw [he.out]
  exact ⟨rfl, sd', H2, bel_seq hC5.2 L2⟩
set_option maxRecDepth 100000 in
set_option maxHeartbeats 4000000 in
theorem tgive_1n {w : World} {g who : Nat} {a : At} {q sd : Value} (H : St w g 92 who a q sd) (hh : a.n.height < 4) (hround : a.n.round < 6) (_hlen : a.words.length < 100000) (_hv : a.n.validIn = -1 ∨ 0 ≤ a.n.validIn) (hs : a.n.step = 1) (A : Int) (hA : allV ((a.n.heard a.n.height).wi a.n.round) = A) (h3 : A < 3) :
    Calls Tryz.prog 41 #[.pointer (some ⟨g, 0, none⟩)] w fun e w' => e = .returned (.tuple #[]) ∧ ∃ sd', InSt w g who (gaveUp who a) q sd' w' := by
  have hhi : (a.n.height : Int) < 4 := by omega
  have hri : (a.n.round : Int) < 6 := by omega
  have h0i : (0 : Int) ≤ (a.n.round : Int) := by omega
  have hw1 : IntKind.i64.wrap ((a.n.round : Int) + 1) = (a.n.round : Int) + 1 := IntWalk.i64_in _ (by omega)
  have hC0 : InSt w g who a q sd w := ⟨H, Below.refl _ _⟩
  have he : Hid (gaveUp who a = a) := by
    show _ = _
    unfold gaveUp
    rw [if_neg (by omega), if_pos hs, if_neg (by omega)]
  have hall : ∀ W, Calls Tryz.prog 60 #[.agg (vcells ((a.n.heard a.n.height).wi a.n.round))] W fun e w' => e = .returned (.int .i64 A) ∧ Below W.heap.size W w' := fun W => by have := all_any ((a.n.heard a.n.height).wi a.n.round) W; rwa [hA] at this
  clear hA
  have h3b : ¬ 3 ≤ A := by omega
  go_enter Tryz.func41, Tryz.ntmps41
  go_wp2_with (first
    | (go_at_call 58; refine (tsheet_any H.blk hh).mono ?_; rintro e w1 ⟨rfl, hb1⟩; have hC1 := hC0.keep hb1; obtain ⟨c0, c1, c2, c3, c4, c5, c6, c7, c8⟩ := hC1.1.blk.tnums; rw [hs] at c2))
  clear c0 c1 c2 c3 c4 c5 c6 c7 c8 hb1
  refine q_region (C := InSt w g who a q sd) (by kernel_rfl) (by kernel_rfl) hC1.drew ?_
  repeat (first
    | (refine q_skip (by rfl) ?_; simp only [Act.put, List.setIfInBounds_toArray, List.set_cons_zero, List.set_cons_succ])
    | (refine q_load (by rfl) 43 _ rfl g (13 + a.n.height * 66 + 18 + a.n.round * 4) rfl (vcells ((a.n.heard a.n.height).wi a.n.round)) _ (fun W H => H.1.blk.twi a.n.height a.n.round hh hround) Tryz.underlying43 rfl (infoV _) ?_; simp only [Act.put, List.setIfInBounds_toArray, List.set_cons_zero, List.set_cons_succ])
    | (refine q_run_ex (by rfl) ?_
       apply Exists.intro
       refine ⟨fun w0 hC => ?_, ?_⟩
       · obtain ⟨c0, c1, c2, c3, c4, c5, c6, c7, c8⟩ := hC.1.blk.tnums; clear hC; go_simp; rfl
       simp only [Act.put, List.setIfInBounds_toArray, List.set_cons_zero, List.set_cons_succ])
    | (refine q_call_ex (by rfl) ?_
       apply Exists.intro
       apply Exists.intro
       apply Exists.intro
       refine ⟨fun w0 hC => ?_, fun w0 hC => ?_, ?_⟩
       · clear hC; go_simp; exact ⟨rfl, rfl⟩
       · first | exact (hall w0).mono (fun e w' ⟨he, hb⟩ => ⟨he, hC.keep hb⟩)
       simp only [Act.put, List.setIfInBounds_toArray, List.set_cons_zero, List.set_cons_succ]))
  refine q_nil ?_
  intro w5 hC5
  go_wp2
  go_end0
  rw [he.out]
  exact ⟨rfl, sd, hC5⟩
set_option maxRecDepth 100000 in
set_option maxHeartbeats 4000000 in
theorem tgive_2y {w : World} {g who : Nat} {a : At} {q sd : Value} (H : St w g 92 who a q sd) (hh : a.n.height < 4) (hround : a.n.round < 6) (hlen : a.words.length < 100000) (hv : a.n.validIn = -1 ∨ 0 ≤ a.n.validIn) (hs : a.n.step = 2) (A : Int) (hA : allV ((a.n.heard a.n.height).pr a.n.round) = A) (h3 : 3 ≤ A) (h6 : a.n.round + 1 < 6) :
    Calls Tryz.prog 41 #[.pointer (some ⟨g, 0, none⟩)] w fun e w' => e = .returned (.tuple #[]) ∧ ∃ sd', InSt w g who (gaveUp who a) q sd' w' := by
  have hhi : (a.n.height : Int) < 4 := by omega
  have hri : (a.n.round : Int) < 6 := by omega
  have h0i : (0 : Int) ≤ (a.n.round : Int) := by omega
  have hw1 : IntKind.i64.wrap ((a.n.round : Int) + 1) = (a.n.round : Int) + 1 := IntWalk.i64_in _ (by omega)
  have hC0 : InSt w g who a q sd w := ⟨H, Below.refl _ _⟩
  have he : Hid (gaveUp who a = enter who a (a.n.round + 1)) := by
    show _ = _
    unfold gaveUp
    rw [if_neg (by omega), if_neg (by omega), if_pos (by omega)]
  have hall : ∀ W, Calls Tryz.prog 60 #[.agg (vcells ((a.n.heard a.n.height).pr a.n.round))] W fun e w' => e = .returned (.int .i64 A) ∧ Below W.heap.size W w' := fun W => by have := all_any ((a.n.heard a.n.height).pr a.n.round) W; rwa [hA] at this
  clear hA
  have hd : decide (3 ≤ A) = true := decide_eq_true h3
  have hrd : ∀ W, Calls Tryz.prog 62 #[.int .i64 ((a.n.round : Int) + 1)] W fun e w' => e = .returned (.bool true) ∧ w' = W := fun W => by have := bround_any ((a.n.round : Int) + 1) W; rwa [show win ((a.n.round : Int) + 1) 0 5 = true by simp [win]; omega] at this
  go_enter Tryz.func41, Tryz.ntmps41
  go_wp2_with (first
    | (go_at_call 58; refine (tsheet_any H.blk hh).mono ?_; rintro e w1 ⟨rfl, hb1⟩; have hC1 := hC0.keep hb1; obtain ⟨c0, c1, c2, c3, c4, c5, c6, c7, c8⟩ := hC1.1.blk.tnums; rw [hs] at c2))
  clear c0 c1 c2 c3 c4 c5 c6 c7 c8 hb1
  refine q_region (C := InSt w g who a q sd) (by kernel_rfl) (by kernel_rfl) hC1.drew ?_
  repeat (first
    | (refine q_skip (by rfl) ?_; simp only [Act.put, List.setIfInBounds_toArray, List.set_cons_zero, List.set_cons_succ])
    | (refine q_load (by rfl) 43 _ rfl g (13 + a.n.height * 66 + 42 + a.n.round * 4) rfl (vcells ((a.n.heard a.n.height).pr a.n.round)) _ (fun W H => H.1.blk.tpr a.n.height a.n.round hh hround) Tryz.underlying43 rfl (infoV _) ?_; simp only [Act.put, List.setIfInBounds_toArray, List.set_cons_zero, List.set_cons_succ])
    | (refine q_run_ex (by rfl) ?_
       apply Exists.intro
       refine ⟨fun w0 hC => ?_, ?_⟩
       · obtain ⟨c0, c1, c2, c3, c4, c5, c6, c7, c8⟩ := hC.1.blk.tnums; clear hC; go_simp; rfl
       simp only [Act.put, List.setIfInBounds_toArray, List.set_cons_zero, List.set_cons_succ])
    | (refine q_call_ex (by rfl) ?_
       apply Exists.intro
       apply Exists.intro
       apply Exists.intro
       refine ⟨fun w0 hC => ?_, fun w0 hC => ?_, ?_⟩
       · clear hC; go_simp; exact ⟨rfl, rfl⟩
       · first | exact (hall w0).mono (fun e w' ⟨he, hb⟩ => ⟨he, hC.keep hb⟩) | exact (hrd w0).mono (fun e w' ⟨he, hw⟩ => ⟨he, hw ▸ hC⟩)
       simp only [Act.put, List.setIfInBounds_toArray, List.set_cons_zero, List.set_cons_succ]))
  refine q_nil ?_
  intro w5 hC5
  obtain ⟨c0, c1, c2, c3, c4, c5, c6, c7, c8⟩ := hC5.1.blk.tnums
  have hcon := tenter_any hC5.1 hh (a.n.round + 1) h6 hlen hv
  rw [show ((a.n.round + 1 : Nat) : Int) = (a.n.round : Int) + 1 from rfl] at hcon
  go_wp2_with (first
    | (go_at_call 54; refine hcon.mono ?_; rintro e w2 ⟨rfl, sd', H2, L2⟩))
  go_end0
  rw [he.out]
  exact ⟨rfl, sd', H2, bel_seq hC5.2 L2⟩
set_option maxRecDepth 100000 in
set_option maxHeartbeats 4000000 in
theorem tgive_2r {w : World} {g who : Nat} {a : At} {q sd : Value} (H : St w g 92 who a q sd) (hh : a.n.height < 4) (hround : a.n.round < 6) (_hlen : a.words.length < 100000) (_hv : a.n.validIn = -1 ∨ 0 ≤ a.n.validIn) (hs : a.n.step = 2) (A : Int) (hA : allV ((a.n.heard a.n.height).pr a.n.round) = A) (h3 : 3 ≤ A) (h6 : ¬ a.n.round + 1 < 6) :
    Calls Tryz.prog 41 #[.pointer (some ⟨g, 0, none⟩)] w fun e w' => e = .returned (.tuple #[]) ∧ ∃ sd', InSt w g who (gaveUp who a) q sd' w' := by
  have hhi : (a.n.height : Int) < 4 := by omega
  have hri : (a.n.round : Int) < 6 := by omega
  have h0i : (0 : Int) ≤ (a.n.round : Int) := by omega
  have hw1 : IntKind.i64.wrap ((a.n.round : Int) + 1) = (a.n.round : Int) + 1 := IntWalk.i64_in _ (by omega)
  have hC0 : InSt w g who a q sd w := ⟨H, Below.refl _ _⟩
  have he : Hid (gaveUp who a = a) := by
    show _ = _
    unfold gaveUp
    rw [if_neg (by omega), if_neg (by omega), if_neg (by omega)]
  have hall : ∀ W, Calls Tryz.prog 60 #[.agg (vcells ((a.n.heard a.n.height).pr a.n.round))] W fun e w' => e = .returned (.int .i64 A) ∧ Below W.heap.size W w' := fun W => by have := all_any ((a.n.heard a.n.height).pr a.n.round) W; rwa [hA] at this
  clear hA
  have hd : decide (3 ≤ A) = true := decide_eq_true h3
  have hrd : ∀ W, Calls Tryz.prog 62 #[.int .i64 ((a.n.round : Int) + 1)] W fun e w' => e = .returned (.bool false) ∧ w' = W := fun W => by have := bround_any ((a.n.round : Int) + 1) W; rwa [show win ((a.n.round : Int) + 1) 0 5 = false by simp [win]; omega] at this
  go_enter Tryz.func41, Tryz.ntmps41
  go_wp2_with (first
    | (go_at_call 58; refine (tsheet_any H.blk hh).mono ?_; rintro e w1 ⟨rfl, hb1⟩; have hC1 := hC0.keep hb1; obtain ⟨c0, c1, c2, c3, c4, c5, c6, c7, c8⟩ := hC1.1.blk.tnums; rw [hs] at c2))
  clear c0 c1 c2 c3 c4 c5 c6 c7 c8 hb1
  refine q_region (C := InSt w g who a q sd) (by kernel_rfl) (by kernel_rfl) hC1.drew ?_
  repeat (first
    | (refine q_skip (by rfl) ?_; simp only [Act.put, List.setIfInBounds_toArray, List.set_cons_zero, List.set_cons_succ])
    | (refine q_load (by rfl) 43 _ rfl g (13 + a.n.height * 66 + 42 + a.n.round * 4) rfl (vcells ((a.n.heard a.n.height).pr a.n.round)) _ (fun W H => H.1.blk.tpr a.n.height a.n.round hh hround) Tryz.underlying43 rfl (infoV _) ?_; simp only [Act.put, List.setIfInBounds_toArray, List.set_cons_zero, List.set_cons_succ])
    | (refine q_run_ex (by rfl) ?_
       apply Exists.intro
       refine ⟨fun w0 hC => ?_, ?_⟩
       · obtain ⟨c0, c1, c2, c3, c4, c5, c6, c7, c8⟩ := hC.1.blk.tnums; clear hC; go_simp; rfl
       simp only [Act.put, List.setIfInBounds_toArray, List.set_cons_zero, List.set_cons_succ])
    | (refine q_call_ex (by rfl) ?_
       apply Exists.intro
       apply Exists.intro
       apply Exists.intro
       refine ⟨fun w0 hC => ?_, fun w0 hC => ?_, ?_⟩
       · clear hC; go_simp; exact ⟨rfl, rfl⟩
       · first | exact (hall w0).mono (fun e w' ⟨he, hb⟩ => ⟨he, hC.keep hb⟩) | exact (hrd w0).mono (fun e w' ⟨he, hw⟩ => ⟨he, hw ▸ hC⟩)
       simp only [Act.put, List.setIfInBounds_toArray, List.set_cons_zero, List.set_cons_succ]))
  refine q_nil ?_
  intro w5 hC5
  go_wp2
  go_end0
  rw [he.out]
  exact ⟨rfl, sd, hC5⟩
set_option maxRecDepth 100000 in
set_option maxHeartbeats 4000000 in
theorem tgive_2n {w : World} {g who : Nat} {a : At} {q sd : Value} (H : St w g 92 who a q sd) (hh : a.n.height < 4) (hround : a.n.round < 6) (_hlen : a.words.length < 100000) (_hv : a.n.validIn = -1 ∨ 0 ≤ a.n.validIn) (hs : a.n.step = 2) (A : Int) (hA : allV ((a.n.heard a.n.height).pr a.n.round) = A) (h3 : A < 3) :
    Calls Tryz.prog 41 #[.pointer (some ⟨g, 0, none⟩)] w fun e w' => e = .returned (.tuple #[]) ∧ ∃ sd', InSt w g who (gaveUp who a) q sd' w' := by
  have hhi : (a.n.height : Int) < 4 := by omega
  have hri : (a.n.round : Int) < 6 := by omega
  have h0i : (0 : Int) ≤ (a.n.round : Int) := by omega
  have hw1 : IntKind.i64.wrap ((a.n.round : Int) + 1) = (a.n.round : Int) + 1 := IntWalk.i64_in _ (by omega)
  have hC0 : InSt w g who a q sd w := ⟨H, Below.refl _ _⟩
  have he : Hid (gaveUp who a = a) := by
    show _ = _
    unfold gaveUp
    rw [if_neg (by omega), if_neg (by omega), if_neg (by omega)]
  have hall : ∀ W, Calls Tryz.prog 60 #[.agg (vcells ((a.n.heard a.n.height).pr a.n.round))] W fun e w' => e = .returned (.int .i64 A) ∧ Below W.heap.size W w' := fun W => by have := all_any ((a.n.heard a.n.height).pr a.n.round) W; rwa [hA] at this
  clear hA
  have h3b : ¬ 3 ≤ A := by omega
  have hd : decide (3 ≤ A) = false := decide_eq_false h3b
  go_enter Tryz.func41, Tryz.ntmps41
  go_wp2_with (first
    | (go_at_call 58; refine (tsheet_any H.blk hh).mono ?_; rintro e w1 ⟨rfl, hb1⟩; have hC1 := hC0.keep hb1; obtain ⟨c0, c1, c2, c3, c4, c5, c6, c7, c8⟩ := hC1.1.blk.tnums; rw [hs] at c2))
  clear c0 c1 c2 c3 c4 c5 c6 c7 c8 hb1
  refine q_region (C := InSt w g who a q sd) (by kernel_rfl) (by kernel_rfl) hC1.drew ?_
  repeat (first
    | (refine q_skip (by rfl) ?_; simp only [Act.put, List.setIfInBounds_toArray, List.set_cons_zero, List.set_cons_succ])
    | (refine q_load (by rfl) 43 _ rfl g (13 + a.n.height * 66 + 42 + a.n.round * 4) rfl (vcells ((a.n.heard a.n.height).pr a.n.round)) _ (fun W H => H.1.blk.tpr a.n.height a.n.round hh hround) Tryz.underlying43 rfl (infoV _) ?_; simp only [Act.put, List.setIfInBounds_toArray, List.set_cons_zero, List.set_cons_succ])
    | (refine q_run_ex (by rfl) ?_
       apply Exists.intro
       refine ⟨fun w0 hC => ?_, ?_⟩
       · obtain ⟨c0, c1, c2, c3, c4, c5, c6, c7, c8⟩ := hC.1.blk.tnums; clear hC; go_simp; rfl
       simp only [Act.put, List.setIfInBounds_toArray, List.set_cons_zero, List.set_cons_succ])
    | (refine q_call_ex (by rfl) ?_
       apply Exists.intro
       apply Exists.intro
       apply Exists.intro
       refine ⟨fun w0 hC => ?_, fun w0 hC => ?_, ?_⟩
       · clear hC; go_simp; exact ⟨rfl, rfl⟩
       · first | exact (hall w0).mono (fun e w' ⟨he, hb⟩ => ⟨he, hC.keep hb⟩)
       simp only [Act.put, List.setIfInBounds_toArray, List.set_cons_zero, List.set_cons_succ]))
  refine q_nil ?_
  intro w5 hC5
  go_wp2
  go_end0
  rw [he.out]
  exact ⟨rfl, sd, hC5⟩

theorem tgive_any {w : World} {g who : Nat} {a : At} {q sd : Value} (H : St w g 92 who a q sd) (hh : a.n.height < 4) (hround : a.n.round < 6) (hlen : a.words.length < 100000) (hv : a.n.validIn = -1 ∨ 0 ≤ a.n.validIn) (hst : a.n.step ≤ 2) :
    Calls Tryz.prog 41 #[.pointer (some ⟨g, 0, none⟩)] w fun e w' => e = .returned (.tuple #[]) ∧ ∃ sd', InSt w g who (gaveUp who a) q sd' w' := by
  have hc : a.n.step = 0 ∨ a.n.step = 1 ∨ a.n.step = 2 := by omega
  rcases hc with h | h | h
  · exact tgive_0 H hh hround hlen hv h
  · by_cases h3 : 3 ≤ allV ((a.n.heard a.n.height).wi a.n.round)
    · exact tgive_1y H hh hround hlen hv h _ rfl h3
    · exact tgive_1n H hh hround hlen hv h _ rfl (by omega)
  · by_cases h3 : 3 ≤ allV ((a.n.heard a.n.height).pr a.n.round)
    · by_cases h6 : a.n.round + 1 < 6
      · exact tgive_2y H hh hround hlen hv h _ rfl h3 h6
      · exact tgive_2r H hh hround hlen hv h _ rfl h3 h6
    · exact tgive_2n H hh hround hlen hv h _ rfl (by omega)
end Go.Proofs.YtmmgaonlmpajbacGreat
namespace Go.Proofs.YtmmgaonlmpajbacGreat
open Go.RowKit

/-- answerCall: what becomes of a call. -/
theorem tansw_any {w : World} {g who : Nat} {a : At} {q sd : Value} (H : St w g 92 who a q sd) (hh : a.n.height < 4) (G : GN a.n) (hlen : a.words.length < 100000) :
    Calls Tryz.prog 65 #[.pointer (some ⟨g, 0, none⟩)] w fun e w' =>
      (((a.n.step = 0 → wishes who a = none) ∧ e = .returned (.bool false) ∧ InSt w g who a q sd w') ∨ (a.n.step = 0 ∧ ∃ b, wishes who a = some b ∧ e = .returned (.bool true) ∧ ∃ sd', InSt w g who b q sd' w')) := by
  by_cases hs : a.n.step = 0
  · cases hp : (a.n.heard a.n.height).is a.n.round
    · refine (tansw_none H hh G.round hlen false _ _ hp rfl rfl hs rfl).mono ?_
      rintro e w' ⟨rfl, hC⟩
      refine Or.inl ⟨fun _ => ?_, rfl, hC⟩
      unfold wishes
      exact if_pos (Or.inl hp)
    · have hv := G.valR (g := a.n.height) G.round hp
      have hw : wishes who a = if (0 ≤ (a.n.heard a.n.height).vld a.n.round ∧ cntV ((a.n.heard a.n.height).wi ((a.n.heard a.n.height).vld a.n.round).toNat) ((a.n.heard a.n.height).val a.n.round) < 3) then none
          else some (tell who ⟨{ a.n with step := 1 }, a.words⟩ 2 (if a.n.boundIn ≤ (a.n.heard a.n.height).vld a.n.round ∨ a.n.bound = (a.n.heard a.n.height).val a.n.round then (a.n.heard a.n.height).val a.n.round else 0) 0) := by
        unfold wishes
        show (if ((a.n.heard a.n.height).is a.n.round = false ∨ _) then none else _) = _
        by_cases c : (0 ≤ (a.n.heard a.n.height).vld a.n.round ∧ cntV ((a.n.heard a.n.height).wi ((a.n.heard a.n.height).vld a.n.round).toNat) ((a.n.heard a.n.height).val a.n.round) < 3)
        · rw [if_pos c]; exact if_pos (Or.inr c)
        · rw [if_neg c]; exact if_neg (fun h => h.elim (fun h => by rw [hp] at h; cases h) c)
      obtain ⟨y, hy⟩ : ∃ y, (a.n.heard a.n.height).val a.n.round = y := ⟨_, rfl⟩
      obtain ⟨x, hx⟩ : ∃ x, (a.n.heard a.n.height).vld a.n.round = x := ⟨_, rfl⟩
      rw [hy, hx] at hw
      rw [hx] at hv
      by_cases hx1 : x = -1
      · rw [if_neg (by omega)] at hw
        by_cases hle : a.n.boundIn ≤ x
        · rw [if_pos (Or.inl hle)] at hw
          refine (tansw_C1T1 H hh G.round hlen true y x hp hy hx hs rfl hx1 hle).mono ?_
          rintro e w' ⟨rfl, sd', hC⟩
          exact Or.inr ⟨hs, _, hw, rfl, sd', hC⟩
        · by_cases hb : a.n.bound = y
          · rw [if_pos (Or.inr hb)] at hw
            refine (tansw_C1T2 H hh G.round hlen true y x hp hy hx hs rfl hx1 (by omega) hb).mono ?_
            rintro e w' ⟨rfl, sd', hC⟩
            exact Or.inr ⟨hs, _, hw, rfl, sd', hC⟩
          · rw [if_neg (by rintro (h | h); exact hle h; exact hb h)] at hw
            refine (tansw_C1T3 H hh G.round hlen true y x hp hy hx hs rfl hx1 (by omega) hb).mono ?_
            rintro e w' ⟨rfl, sd', hC⟩
            exact Or.inr ⟨hs, _, hw, rfl, sd', hC⟩
      · obtain ⟨m, hm⟩ : ∃ m : Nat, x = (m : Int) := ⟨x.toNat, by omega⟩
        have hround := G.round
        have hm6 : m < 6 := by omega
        have hVb := (G.votes a.n.height hm6).1
        rw [show x.toNat = m by omega] at hw
        by_cases hc : cntV ((a.n.heard a.n.height).wi m) y < 3
        · rw [if_pos ⟨by omega, hc⟩] at hw
          refine (tansw_C2 H hh G.round hlen true y x hp hy hx hs rfl m hm6 hm hVb hc).mono ?_
          rintro e w' ⟨rfl, hC⟩
          exact Or.inl ⟨fun _ => hw, rfl, hC⟩
        · rw [if_neg (fun h => hc h.2)] at hw
          have hc' : 3 ≤ cntV ((a.n.heard a.n.height).wi m) y := by omega
          by_cases hle : a.n.boundIn ≤ x
          · rw [if_pos (Or.inl hle)] at hw
            refine (tansw_C3T1 H hh G.round hlen true y x hp hy hx hs rfl m hm6 hm hVb hc' hle).mono ?_
            rintro e w' ⟨rfl, sd', hC⟩
            exact Or.inr ⟨hs, _, hw, rfl, sd', hC⟩
          · by_cases hb : a.n.bound = y
            · rw [if_pos (Or.inr hb)] at hw
              refine (tansw_C3T2 H hh G.round hlen true y x hp hy hx hs rfl m hm6 hm hVb hc' (by omega) hb).mono ?_
              rintro e w' ⟨rfl, sd', hC⟩
              exact Or.inr ⟨hs, _, hw, rfl, sd', hC⟩
            · rw [if_neg (by rintro (h | h); exact hle h; exact hb h)] at hw
              refine (tansw_C3T3 H hh G.round hlen true y x hp hy hx hs rfl m hm6 hm hVb hc' (by omega) hb).mono ?_
              rintro e w' ⟨rfl, sd', hC⟩
              exact Or.inr ⟨hs, _, hw, rfl, sd', hC⟩
  · refine (tansw_step H hh G.round hlen _ _ _ rfl rfl rfl hs).mono ?_
    rintro e w' ⟨rfl, hC⟩
    exact Or.inl ⟨fun h => absurd h hs, rfl, hC⟩
end Go.Proofs.YtmmgaonlmpajbacGreat
