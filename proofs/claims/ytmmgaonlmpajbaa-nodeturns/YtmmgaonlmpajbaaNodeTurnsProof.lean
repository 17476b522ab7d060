/-
  Proved: for every node and two numbers, the Go function NodeTurns returns true, and its three arguments read as before. No conditions.
-/
import Derived.Test.YtmmgaonlmpajbaaTurnsLaw
import Derived.Test.YtmmgaonlmpajbaaNodeB
import Derived.Test.YtmmgaonlmpajbaaBase
import Derived.SizedLaws
namespace Go.Proofs.Ytmmgaonlmpajbaa.nodeTurns
open Go.ChangeShapes Go.WideShapes Go.ChangeAt Go.RowKit

set_option maxRecDepth 100000 in
theorem lifted (os : Os) (started : os.Started) (H : Type) (enc : TypeId × Value → H) :
    ReturnsInHanded {} Try.checked os 12 .any (Rows.nodeTurnsSpec.pre6 enc Try.prog Try.f12 Rows.nodeTurnsRow.domain false) (Rows.nodeTurnsSpec.post enc Try.prog Try.f12 false true false false) := by
  refine returnsInHanded_of_change_sized (C := Try.checked) own started (by kernel_rfl) Try.func12
    (ChangeSpec.witness6 (enc := enc) (C := Try.checked) false ⟨#[], #[.agg zN.cells, .int .i64 0, .int .i64 0], []⟩ 8 (by kernel_rfl) (by kernel_rfl) (by kernel_rfl) (by kernel_rfl)) ?_
  intro W base args ds gs before hval0 hW hcnd hsz0 _
  have hsz : (DataW.weightsEach Try.prog (Try.f12.params.toList ++ Rows.nodeTurnsSpec.plain.varTypes Try.prog) (ds ++ gs)).all (· ≤ reachBytes) = true := hsz0
  clear hsz0
  have hval : ∀ (j : Nat) t v, Try.f12.params[j]? = some t → args[j]? = some v → Value.okWide Try.prog W .any base t v := hval0
  have hW' := hW
  obtain ⟨p, q, hA0, hV_, rfl, hfz, hnd⟩ := hW
  have hA : DataW.TrodAll enc Try.prog W 0 (fun _ => true) true Try.f12.params.toList args.toList ds p := hA0
  rw [Try.params12] at hA hval hsz
  obtain ⟨v0, vs0, d0, ds0, p0, q0, hargs, rfl, rfl, h0, r0⟩ := trodAll_cons hA
  obtain ⟨v1, vs1, d1, ds1, p1, q1, rfl, rfl, rfl, h1, r1⟩ := trodAll_cons r0
  obtain ⟨v2, vs2, d2, ds2, p2, q2, rfl, rfl, rfl, h2, r2⟩ := trodAll_cons r1
  obtain ⟨rfl, rfl, rfl⟩ := trodAll_nil r2
  obtain rfl : args = #[v0, v1, v2] := by cases args; simp_all
  obtain ⟨rfl, rfl⟩ := trodVars_none hV_
  have lt0 : ∀ x ∈ p0, x.block < W.heap.size := by obtain ⟨m, hm⟩ := h0; exact DataW.trod_lt m _ _ _ hm
  obtain ⟨n, ln, xsn, yn, rfl, hIn, rfl, hxn, hyn, hzn⟩ := open_node (hval 0 61 v0 rfl rfl) h0
  have hln : ln.length * 8 ≤ 140737488355328 := by
    rcases hzn with h0 | ⟨e, s, h0, hle⟩
    · rw [h0]; simp
    · have hm : (e.length + s.length) * Try.prog.bytesOf 3 ∈ DataW.weights Try.prog 61 (.agg xsn) := by
        simp only [DataW.weights, Try.underlying61]
        exact DataW.weights_mem_each (j := 10) (t := 59) rfl hyn _ (by rw [h0]; simp [DataW.weights, Try.underlying59])
      have h1 := List.all_eq_true.1 hsz _ (DataW.weights_mem_each (j := 0) (t := 61) rfl rfl _ hm)
      rw [show Try.prog.bytesOf 3 = 8 by kernel_rfl] at h1
      have h2 : (e.length + s.length) * 8 ≤ reachBytes := of_decide_eq_true h1
      rw [show reachBytes = 140737488351232 by kernel_rfl] at h2
      omega
  obtain ⟨who, rfl, rfl, rfl, wwho⟩ := open_int Try.underlying3 (hval 1 3 v1 rfl rfl) h1
  obtain ⟨value, rfl, rfl, rfl, wvalue⟩ := open_int Try.underlying3 (hval 2 3 v2 rfl rfl) h2
  clear hA0 hval0
  refine (nodeTurns_any n ln who value _ hIn hln).mono fun e W' ⟨he, bel⟩ => ?_
  subst he
  exact ⟨_, rfl, _, _, _, [], _, [], hW', trodAll_mk1 (shut_bool Try.underlying4 _), (trodAll_cons_mk (Below.trod laidOut (by kernel_rfl) (of_decide_eq_true (by kernel_rfl)) h0 bel lt0) (trodAll_cons_mk (shut_int Try.underlying3 wwho) (trodAll_cons_mk (shut_int Try.underlying3 wvalue) trodAll_mk0))), rfl, bel.frame _, fun h => by cases h⟩

theorem over : Rows.nodeTurnsRow.holds Try.pinned (OpenSpec.ofChange Rows.nodeTurnsSpec) :=
  OpenClaim.holds_of_wide 12 Try.f12 rfl rfl rfl rfl rfl rfl rfl ⟨rfl, rfl, rfl, rfl, rfl⟩ rfl rfl rfl rfl rfl (by kernel_rfl) Try.func12 (by kernel_rfl)
    (of_decide_eq_true (by kernel_rfl)) (by unfold Func.isWrapper; first | (rw [if_pos (by decide +kernel)]; kernel_rfl) | (rw [if_neg (by decide +kernel)]; exact ⟨rfl, rfl⟩))
    (fun os started H enc _ => lifted os started H enc)

end Go.Proofs.Ytmmgaonlmpajbaa.nodeTurns
namespace Go.Proofs.Ytmmgaonlmpajbaa
theorem nodeTurns_holds : Rows.NodeTurnsSaid :=
  nodeTurns.over
#print axioms nodeTurns_holds
end Go.Proofs.Ytmmgaonlmpajbaa
