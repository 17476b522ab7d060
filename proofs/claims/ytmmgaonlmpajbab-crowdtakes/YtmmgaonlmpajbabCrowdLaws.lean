/-
  The statements CrowdTakes and CrowdNil.
-/
import Derived.Test.YtmmgaonlmpajbabTakesLaw
import Derived.Test.YtmmgaonlmpajbabBase
import Derived.Test.YtmmgaonlmpajbabNodeB
namespace Go.Proofs.Ytmmgaonlmpajbab
open Go.RowKit

theorem eq_four' (f : Nat → Int) (W : World) : Sem.run Try.prog (Op.equalIn 10000 26 (.agg (four f)) (.agg (four f))) W = .ok true W := eq_four _ _ _ _ W
def HeldL (l : Nat → Nat → Int) (b : Nat) (w W : World) : Prop := Blk W b (lcells l) 45 ∧ Below w.heap.size w W
theorem keepL {l : Nat → Nat → Int} {b : Nat} {w W W' : World} (H : HeldL l b w W) (hb : Below W.heap.size W W') : HeldL l b w W' := ⟨H.1.below hb, bel_trans H.2 hb⟩

set_option maxRecDepth 100000 in
set_option maxHeartbeats 4000000 in
theorem crowdTakes_any (l : Nat → Nat → Int) (w : World) : Calls Try.prog 4 #[.agg (lcells l)] w fun e w' => e = .returned (.bool true) ∧ Below w.heap.size w w' := by
  have hl16 : (Try.prog.info? 45).map (·.size) = some (lcells l).size := by rw [lcells_size]; kernel_rfl
  have heq := eq_four' (takeV l)
  have HS : HeldL l w.heap.size w (w.alloc (.cells (lcells l) 45)) := ⟨Blk.new w _ _, by go_grown⟩
  go_enter Try.func4, Try.ntmps4
  go_wp2_with fail
  refine steady_region (C := HeldL l w.heap.size w) (by kernel_rfl) (by kernel_rfl) ⟨HS.1.drew, below_drew' HS.2⟩ ?_
  repeat (first
    | (refine steady_skip (by rfl) ?_; simp only [Act.put, List.setIfInBounds_toArray, List.set_cons_zero, List.set_cons_succ])
    | (refine steady_move (by rfl) _ rfl ?_; simp only [Act.put, List.setIfInBounds_toArray, List.set_cons_zero, List.set_cons_succ])
    | (refine steady_assign (by rfl) _ rfl ?_; simp only [Act.put, List.setIfInBounds_toArray, List.set_cons_zero, List.set_cons_succ])
    | (refine steady_load (by rfl) 45 _ rfl w.heap.size rfl 45 (lcells l) _ (fun _ H => H.1) Try.underlying45 rfl hl16 ?_; simp only [Act.put, List.setIfInBounds_toArray, List.set_cons_zero, List.set_cons_succ])
    | (refine steady_call_ex (by rfl) ?_
       apply Exists.intro
       apply Exists.intro
       apply Exists.intro
       refine ⟨fun w0 hC => ?_, fun w0 hC => ?_, ?_⟩
       · go_simp; exact ⟨rfl, rfl⟩
       · first | exact (take_any l _).mono (fun e w' ⟨he, hb⟩ => ⟨he, keepL hC hb⟩) | exact (takenOf_any l _).mono (fun e w' ⟨he, hb⟩ => ⟨he, keepL hC hb⟩) | exact (lalive_any _).mono (fun e w' ⟨he, hb⟩ => ⟨he, keepL hC hb⟩)
       simp only [Act.put, List.setIfInBounds_toArray, List.set_cons_zero, List.set_cons_succ])
    | (refine steady_run_ex (by rfl) ?_
       apply Exists.intro
       refine ⟨fun w0 hC => ?_, ?_⟩
       · go_simp; rfl
       simp only [Act.put, List.setIfInBounds_toArray, List.set_cons_zero, List.set_cons_succ]))
  refine wpQuiet_nil ?_
  intro w5 hC
  go_wp2
  go_ret
  exact ⟨rfl, hC.2⟩

theorem eq_four_d (d : Nat) (a b c e : Int) (W : World) : Sem.run Try.prog (Op.equalIn (d + 2) 26 (.agg #[.int .i64 a, .int .i64 b, .int .i64 c, .int .i64 e]) (.agg #[.int .i64 a, .int .i64 b, .int .i64 c, .int .i64 e])) W = .ok true W := by
  obtain ⟨i, hi, _⟩ := info_of (t := 3) (n := 1) (by kernel_rfl)
  rw [run_equalIn_array W (d + 1) _ _ Try.underlying26 hi]
  simp [Op.eqItems, List.range, List.range.loop, go_sem, Try.underlying3, show Try.prog.cellsOf 3 = 1 by kernel_rfl]
theorem eq_rep (code n : Int) (f : Nat → Int) (W : World) : Sem.run Try.prog (Op.equalIn 10000 52 (.agg (rcells code n f)) (.agg (rcells code n f))) W = .ok true W := by
  have h1 : Sem.run Try.prog (Op.equalIn 9999 26 (.agg #[.int .i64 (f 0), .int .i64 (f 1), .int .i64 (f 2), .int .i64 (f 3)]) (.agg #[.int .i64 (f 0), .int .i64 (f 1), .int .i64 (f 2), .int .i64 (f 3)])) W = .ok true W := eq_four_d 9997 (f 0) (f 1) (f 2) (f 3) W
  have e0 : (rcells code n f)[0]? = some (.int .i64 code) := rfl
  have e1 : (rcells code n f)[1]? = some (.int .i64 n) := rfl
  have e2 : (rcells code n f).extract 2 6 = #[.int .i64 (f 0), .int .i64 (f 1), .int .i64 (f 2), .int .i64 (f 3)] := rfl
  rw [run_equalIn_struct (P := Try.prog) W 9999 52 _ _ (by kernel_rfl) (by kernel_rfl)]
  simp [Program.fieldsOf, Try.underlying52, Op.eqFields, Sem.run_bind, e0, e1, e2, h1, go_sem, Try.underlying3, Try.underlying38]

/-- A struct is made where a guard wants it. -/
theorem wpList_build_w {ops : Array Oper} {rest : List Oper} {o : Oper} {a : Act} {w : World} {Q : Exit → Act → World → Prop} (hw : Region.wanted o (yielded ops a.tmps) = true) (t : TypeId) (parts : Array (Nat × Operand)) (ho : o.op = .build t parts) (D : Array Value)
    (hv : (Instr.build t (parts.map fun (i, x) => (i, a.eval x))).run Try.prog w = .ok (.agg D) w) (h : wpList Try.prog ops Q rest (a.put o.dst (.agg D)) w) : wpList Try.prog ops Q (o :: rest) a w :=
  BigFrame.wpList_want hw fun _ hK => by
    unfold Oper.wp execOp
    simp only [ho, Sem.run_bind, hv, Result.andThen_ok]
    exact hK _ _ h

set_option maxRecDepth 100000 in
set_option maxHeartbeats 4000000 in
theorem crowdNil_any (a : Ac) (i : Int) (w : World) : Calls Try.prog 5 #[.agg (acArr a), .int .i64 i] w fun e w' => e = .returned (.bool true) ∧ Below w.heap.size w w' := by
  have hia : (Try.prog.info? 49).map (·.size) = some (acArr a).size := by show _ = some 14; kernel_rfl
  have A : Blk (w.alloc (.cells (acArr a) 49)) w.heap.size (acArr a) 49 := Blk.new w _ _
  have L0 : Below w.heap.size w (w.alloc (.cells (acArr a) 49)) := by go_grown
  have heq : ∀ W, Sem.run Try.prog (Op.equalIn 10000 52 (.agg (refused 4)) (.agg (rcells 4 0 fun _ => 0))) W = .ok true W := eq_rep 4 0 fun _ => 0
  have hb : ∀ W, Sem.run Try.prog (Instr.build 34 #[]) W = .ok (.agg zN.cells) W := fun W => by show _ = _; kernel_rfl
  have hbr : ∀ W, Sem.run Try.prog (Instr.build 52 #[(0, .int .i64 4)]) W = .ok (.agg (rcells 4 0 fun _ => 0)) W := fun W => by show _ = _; kernel_rfl
  have hs : ∀ W, Calls Try.prog 22 #[.agg zN.cells, .agg zN.cells] W fun e w' => e = .returned (.bool true) ∧ Below W.heap.size W w' := fun W => sameNode_alike zN (.slice none 0 0) [] W (Or.inl ⟨rfl, 0, rfl⟩) (Or.inl ⟨rfl, 0, rfl⟩) (by simp)
  go_enter Try.func5, Try.ntmps5
  go_upto_region 1 with fail
  generalize (w.alloc (.cells (acArr a) 49)) = w0 at A L0 ⊢
  go_wp2_with (first
    | (refine wpList_load_blk rfl 49 _ rfl w.heap.size rfl 49 (acArr a) _ A Try.underlying49 rfl hia ?_)
    | (go_at_call 21; refine (do_nil a _).mono ?_; rintro e w1 ⟨rfl, L1⟩)
    | (refine wpList_build_eq rfl 52 _ rfl (rcells 4 0 fun _ => 0) (by simp only [List.map_toArray, List.map_cons, List.map_nil]; exact hbr _) ?_; simp only [Act.put, List.setIfInBounds_toArray, List.set_cons_zero, List.set_cons_succ])
    | (go_at_call 23; refine (node_zero none i (Or.inl rfl) _).mono ?_; rintro e w2 ⟨rfl, L2⟩)
    | (refine wpList_build_w (by rfl) 34 _ rfl zN.cells (by simp only [List.map_toArray, List.map_nil]; exact hb _) ?_; simp only [Act.put, List.setIfInBounds_toArray, List.set_cons_zero, List.set_cons_succ])
    | (go_at_call 22; refine (hs _).mono ?_; rintro e w3 ⟨rfl, L3⟩)
    | (go_at_call 24; refine (net_zero _).mono ?_; rintro e w' ⟨rfl, hw'⟩; obtain rfl := hw'.symm)
    | fail)
  go_ret
  exact ⟨rfl, bel_trans (bel_trans (bel_trans L0 L1) L2) L3⟩
end Go.Proofs.Ytmmgaonlmpajbab
