/-
  The statements CrowdTakes and CrowdNil.
-/
import Derived.Test.YtmmgaonlmpajbacGreatTakesLaw
import Derived.Test.YtmmgaonlmpajbacGreatBase
import Derived.Test.YtmmgaonlmpajbacGreatNodeB
namespace Go.Proofs.YtmmgaonlmpajbacGreat
open Go.RowKit

theorem eq_four' (f : Nat → Int) (W : World) : Sem.run Tryz.prog (Op.equalIn 10000 31 (.agg (four f)) (.agg (four f))) W = .ok true W := eq_four _ _ _ _ W
def HeldL (l : Nat → Nat → Int) (b : Nat) (w W : World) : Prop := Blk W b (lcells l) 80 ∧ Below w.heap.size w W
theorem keepL {l : Nat → Nat → Int} {b : Nat} {w W W' : World} (H : HeldL l b w W) (hb : Below W.heap.size W W') : HeldL l b w W' := ⟨H.1.below hb, bel_trans H.2 hb⟩

theorem eq_four_d (d : Nat) (a b c e : Int) (W : World) : Sem.run Tryz.prog (Op.equalIn (d + 2) 31 (.agg #[.int .i64 a, .int .i64 b, .int .i64 c, .int .i64 e]) (.agg #[.int .i64 a, .int .i64 b, .int .i64 c, .int .i64 e])) W = .ok true W := by
  obtain ⟨i, hi, _⟩ := info_of (t := 3) (n := 1) (by kernel_rfl)
  rw [run_equalIn_array W (d + 1) _ _ Tryz.underlying31 hi]
  simp [Op.eqItems, List.range, List.range.loop, go_sem, Tryz.underlying3, show Tryz.prog.cellsOf 3 = 1 by kernel_rfl]
theorem eq_rep (code n : Int) (f : Nat → Int) (W : World) : Sem.run Tryz.prog (Op.equalIn 10000 33 (.agg (rcells code n f)) (.agg (rcells code n f))) W = .ok true W := by
  have h1 : Sem.run Tryz.prog (Op.equalIn 9999 31 (.agg #[.int .i64 (f 0), .int .i64 (f 1), .int .i64 (f 2), .int .i64 (f 3)]) (.agg #[.int .i64 (f 0), .int .i64 (f 1), .int .i64 (f 2), .int .i64 (f 3)])) W = .ok true W := eq_four_d 9997 (f 0) (f 1) (f 2) (f 3) W
  have e0 : (rcells code n f)[0]? = some (.int .i64 code) := rfl
  have e1 : (rcells code n f)[1]? = some (.int .i64 n) := rfl
  have e2 : (rcells code n f).extract 2 6 = #[.int .i64 (f 0), .int .i64 (f 1), .int .i64 (f 2), .int .i64 (f 3)] := rfl
  rw [run_equalIn_struct (P := Tryz.prog) W 9999 33 _ _ (by kernel_rfl) (by kernel_rfl)]
  simp [Program.fieldsOf, Tryz.underlying33, Op.eqFields, Sem.run_bind, e0, e1, e2, h1, go_sem, Tryz.underlying3, Tryz.underlying24]

/-- A struct is made where a guard wants it. -/
theorem wpList_build_w {ops : Array Oper} {rest : List Oper} {o : Oper} {a : Act} {w : World} {Q : Exit → Act → World → Prop} (hw : Region.wanted o (yielded ops a.tmps) = true) (t : TypeId) (parts : Array (Nat × Operand)) (ho : o.op = .build t parts) (D : Array Value)
    (hv : (Instr.build t (parts.map fun (i, x) => (i, a.eval x))).run Tryz.prog w = .ok (.agg D) w) (h : wpList Tryz.prog ops Q rest (a.put o.dst (.agg D)) w) : wpList Tryz.prog ops Q (o :: rest) a w :=
  BigFrame.wpList_want hw fun _ hK => by
    unfold Oper.wp execOp
    simp only [ho, Sem.run_bind, hv, Result.andThen_ok]
    exact hK _ _ h

end Go.Proofs.YtmmgaonlmpajbacGreat
