/-
  The statement VotesHear.
-/
import Derived.Test.YtmmgaonlmpajbaaVLaw
import Derived.Test.YtmmgaonlmpajbaaHears
import Derived.Test.YtmmgaonlmpajbaaBase
import Derived.Test.YtmmgaonlmpajbaaNG
namespace Go.Proofs.Ytmmgaonlmpajbaa
open Go.RowKit

/-- What holds of the worlds of the drawn regions: block b has the sheet, block c the word. -/
def HeldS (S : Sh) (k f h r v x : Int) (b c : Nat) (w W : World) : Prop :=
  Blk W b S.cells 49 ∧ Blk W c #[.int .i64 k, .int .i64 f, .int .i64 h, .int .i64 r, .int .i64 v, .int .i64 x] 23 ∧ Below w.heap.size w W

theorem wcell {W : World} {g : Nat} {k f h r v x : Int} (B : Blk W g #[.int .i64 k, .int .i64 f, .int .i64 h, .int .i64 r, .int .i64 v, .int .i64 x] 23) :
    W.cell? ⟨g, 0, none⟩ = some (.int .i64 k) ∧ W.cell? ⟨g, 1, none⟩ = some (.int .i64 f) ∧ W.cell? ⟨g, 2, none⟩ = some (.int .i64 h) ∧ W.cell? ⟨g, 3, none⟩ = some (.int .i64 r) ∧ W.cell? ⟨g, 4, none⟩ = some (.int .i64 v) ∧ W.cell? ⟨g, 5, none⟩ = some (.int .i64 x) :=
  ⟨B.cell 0, B.cell 1, B.cell 2, B.cell 3, B.cell 4, B.cell 5⟩

theorem keepS {S : Sh} {k f h r v x : Int} {b c : Nat} {w W W' : World} (H : HeldS S k f h r v x b c w W) (hb : Below W.heap.size W W') : HeldS S k f h r v x b c w W' :=
  ⟨H.1.below hb, H.2.1.below hb, bel_trans H.2.2 hb⟩
theorem keepS_drew {S : Sh} {k f h r v x : Int} {b c : Nat} {w W : World} (H : HeldS S k f h r v x b c w W) : HeldS S k f h r v x b c w W.drew :=
  ⟨H.1.drew, H.2.1.drew, below_drew' H.2.2⟩
set_option maxRecDepth 100000 in
set_option maxHeartbeats 4000000 in
theorem votesHear_any (S : Sh) (k f h r v x : Int) (n : Int) (w : World) :
    Calls Try.prog 7 #[.agg S.cells, .agg #[.int .i64 k, .int .i64 f, .int .i64 h, .int .i64 r, .int .i64 v, .int .i64 x], .int .i64 n] w fun e w' => e = .returned (.bool true) ∧ Below w.heap.size w w' := by
  have hi37 := info37 S
  have hi23 : (Try.prog.info? 23).map (·.size) = some 6 := by kernel_rfl
  have heq := eq_sheet (hearS S k f h r v x)
  have HS : HeldS S k f h r v x w.heap.size (w.heap.size + 1) w ((w.alloc (.cells S.cells 49)).alloc (.cells #[.int .i64 k, .int .i64 f, .int .i64 h, .int .i64 r, .int .i64 v, .int .i64 x] 23)) :=
    ⟨(Blk.new w _ _).alloc _, Blk.new1 w _ _ _, by go_grown⟩
  go_enter Try.func7, Try.ntmps7
  go_wp2_with fail
  refine steady_region (C := HeldS S k f h r v x w.heap.size (w.heap.size + 1) w) (by kernel_rfl) (by kernel_rfl) (keepS_drew HS) ?_
  repeat (first
    | (refine steady_skip (by rfl) ?_; simp only [Act.put, List.setIfInBounds_toArray, List.set_cons_zero, List.set_cons_succ])
    | (refine steady_move (by rfl) _ rfl ?_; simp only [Act.put, List.setIfInBounds_toArray, List.set_cons_zero, List.set_cons_succ])
    | (refine steady_assign (by rfl) _ rfl ?_; simp only [Act.put, List.setIfInBounds_toArray, List.set_cons_zero, List.set_cons_succ])
    | (refine steady_load (by rfl) 49 _ rfl w.heap.size rfl 49 S.cells _ (fun _ H => H.1) Try.underlying49 rfl hi37 ?_; simp only [Act.put, List.setIfInBounds_toArray, List.set_cons_zero, List.set_cons_succ])
    | (refine steady_load (by rfl) 23 _ rfl (w.heap.size + 1) rfl 23 #[.int .i64 k, .int .i64 f, .int .i64 h, .int .i64 r, .int .i64 v, .int .i64 x] _ (fun _ H => H.2.1) Try.underlying23 rfl hi23 ?_; simp only [Act.put, List.setIfInBounds_toArray, List.set_cons_zero, List.set_cons_succ])
    | (refine steady_call_ex (by rfl) ?_
       apply Exists.intro
       apply Exists.intro
       apply Exists.intro
       refine ⟨fun w0 hC => ?_, fun w0 hC => ?_, ?_⟩
       · go_simp; exact ⟨rfl, rfl⟩
       · first | exact (vhear_any S k f h r v x _).mono (fun e w' ⟨he, hb⟩ => ⟨he, keepS hC hb⟩) | exact (hearSheet_any S k f h r v x _).mono (fun e w' ⟨he, hb⟩ => ⟨he, keepS hC hb⟩) | exact (heard_any S _ _).mono (fun e w' ⟨he, hb⟩ => ⟨he, keepS hC hb⟩) | exact (heardIn_any S _ _).mono (fun e w' ⟨he, hb⟩ => ⟨he, keepS hC hb⟩) | exact (vgood_any S _).mono (fun e w' ⟨he, hb⟩ => ⟨he, keepS hC hb⟩) | exact (isSheet_any S _).mono (fun e w' ⟨he, hb⟩ => ⟨he, keepS hC hb⟩) | exact (lcounts_any _).mono (fun e w' ⟨he, hb⟩ => ⟨he, keepS hC hb⟩)
       simp only [Act.put, List.setIfInBounds_toArray, List.set_cons_zero, List.set_cons_succ])
    | (refine steady_run_ex (by rfl) ?_
       apply Exists.intro
       refine ⟨fun w0 hC => ?_, ?_⟩
       · go_simp; rfl
       simp only [Act.put, List.setIfInBounds_toArray, List.set_cons_zero, List.set_cons_succ]))
  refine wpQuiet_nil ?_
  intro w5 hC
  go_wp2
  go_ret
  exact ⟨rfl, hC.2.2⟩
end Go.Proofs.Ytmmgaonlmpajbaa
