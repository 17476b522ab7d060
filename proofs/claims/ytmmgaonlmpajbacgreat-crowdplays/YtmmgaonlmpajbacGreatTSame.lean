/-
  The whole's same, of two crowds whose nodes and letters are the same.
-/
import Derived.Test.YtmmgaonlmpajbacGreatCAlive
import Derived.Test.YtmmgaonlmpajbacGreatKSame
namespace Go.Proofs.YtmmgaonlmpajbacGreat
open Go.RowKit

theorem eq_letter (x : Nat × Wd) (W : World) : Sem.run Tryz.prog (Op.equalIn 10000 79 (.agg (leArr x)) (.agg (leArr x))) W = .ok true W := by
  have f0 : (wdArr x.2)[0]? = some (.int .i64 x.2.k) := rfl
  have f1 : (wdArr x.2)[1]? = some (.int .i64 x.2.f) := rfl
  have f2 : (wdArr x.2)[2]? = some (.int .i64 x.2.h) := rfl
  have f3 : (wdArr x.2)[3]? = some (.int .i64 x.2.r) := rfl
  have f4 : (wdArr x.2)[4]? = some (.int .i64 x.2.v) := rfl
  have f5 : (wdArr x.2)[5]? = some (.int .i64 x.2.x) := rfl
  have e0 : (leArr x)[0]? = some (.int .i64 (x.1 : Int)) := rfl
  have e1 : (leArr x).extract 1 7 = wdArr x.2 := rfl
  rw [run_equalIn_struct (P := Tryz.prog) W 9999 79 _ _ (by kernel_rfl) (by kernel_rfl)]
  simp [Program.fieldsOf, Tryz.underlying79, Op.eqFields, Sem.run_bind, e0, e1, f0, f1, f2, f3, f4, f5, go_sem, Tryz.underlying3, Tryz.underlying36]

end Go.Proofs.YtmmgaonlmpajbacGreat
