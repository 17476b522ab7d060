/-
  A region in the text's order, walked behind a lid, so that no tactic looks into the goal by running it. No program is named here but for its namespace.
-/
import Derived.Test.YtmmgaonlmpajbaaBase
import Derived.Test.YtmmgaonlmpajbaaNodeB
namespace Go.Proofs.Ytmmgaonlmpajbaa
open Go.RowKit

structure WL (P : Program) (ops : Array Oper) (Q : Exit → Act → World → Prop) (l : List Oper) (a : Act) (w : World) : Prop where
  out : wpList P ops Q l a w

section
variable {P : Program} {ops : Array Oper} {Q : Exit → Act → World → Prop} {a : Act} {w : World} {o : Oper} {rest : List Oper}
theorem l_skip (hw : Region.wanted o (yielded ops a.tmps) = false) (h : WL P ops Q rest (a.put o.dst undef) w) : WL P ops Q (o :: rest) a w :=
  ⟨wpList_step fun _ hK => by rw [if_neg (by rw [hw]; simp)]; exact hK _ _ h.out⟩
theorem l_run_ex (hw : Region.wanted o (yielded ops a.tmps) = true) (h : ∃ v, (execOp a.eval o).run P w = .ok (.value v) w ∧ WL P ops Q rest (a.put o.dst v) w) : WL P ops Q (o :: rest) a w :=
  let ⟨_, hv, hk⟩ := h
  ⟨BigFrame.wpList_want hw fun _ hK => by unfold Oper.wp; rw [hv]; exact hK _ _ hk.out⟩
theorem l_call_ex (hw : Region.wanted o (yielded ops a.tmps) = true) (h : ∃ f args, (execOp a.eval o).run P w = .ok (.enter f args) w ∧ Calls P f args w (fun e w' => ∃ v, e = .returned v ∧ WL P ops Q rest (a.put o.dst v) w')) : WL P ops Q (o :: rest) a w := by
  obtain ⟨f, args, hv, hc⟩ := h
  refine ⟨BigFrame.wpList_want hw fun K hK => ?_⟩
  unfold Oper.wp
  rw [hv]
  refine Calls.mono hc ?_
  rintro e w' ⟨v, rfl, hk⟩
  exact hK _ _ hk.out
theorem l_load (hw : Region.wanted o (yielded ops a.tmps) = true) (ty : TypeId) (x : Operand) (ho : o.op = .load ty x) (g off : Nat) (hx : a.eval x = .pointer (some ⟨g, off, none⟩)) (D : Array Value) (d : TypeDesc) (hB : w.rangeAt g off D.toList)
    (hu : P.underlying ty = some d) (hd : d.isRow = true) (hi : (P.info? ty).map (·.size) = some D.size)
    (h : WL P ops Q rest (a.put o.dst (.agg D)) w) : WL P ops Q (o :: rest) a w :=
  ⟨wpList_load_part hw ty x ho g off hx D d hB hu hd hi h.out⟩
theorem l_nil (h : Q .normal a w) : WL P ops Q [] a w := ⟨h⟩
end
end Go.Proofs.Ytmmgaonlmpajbaa
