/-
  Proved: for every number and list of acts, the Go function CrowdPlays returns true, and its two arguments read as before. No conditions.
-/
import Derived.Test.YtmmgaonlmpajbacGreatRDoZ
import Derived.Test.YtmmgaonlmpajbacGreatOpenA
import Derived.Test.YtmmgaonlmpajbacGreatOpenW
import Derived.SizedLaws
namespace Go.Proofs.YtmmgaonlmpajbacGreat.crowdPlays
open Go.ChangeShapes Go.WideShapes Go.ChangeAt Go.RowKit

set_option maxRecDepth 100000 in
theorem lifted (os : Os) (started : os.Started) (H : Type) (enc : TypeId × Value → H) :
    ReturnsInHanded {} Tryz.checked os 3 .any (Rows.crowdPlaysSpec.pre6 enc Tryz.prog Tryz.f3 Rows.crowdPlaysRow.domain false) (Rows.crowdPlaysSpec.post enc Tryz.prog Tryz.f3 false true false false) := by
  refine returnsInHanded_of_change_sized (C := Tryz.checked) own started (by kernel_rfl) Tryz.func3
    (ChangeSpec.witness6 (enc := enc) (C := Tryz.checked) false ⟨#[], #[.int .i64 0, .slice none 0 0], []⟩ 8 (by kernel_rfl) (by kernel_rfl) (by kernel_rfl) (by kernel_rfl)) ?_
  intro W base args ds gs before hval0 hW hcnd hsz0 _
  have hsz : (DataW.weightsEach Tryz.prog (Tryz.f3.params.toList ++ Rows.crowdPlaysSpec.plain.varTypes Tryz.prog) (ds ++ gs)).all (· ≤ reachBytes) = true := hsz0
  clear hsz0
  have hval : ∀ (j : Nat) t v, Tryz.f3.params[j]? = some t → args[j]? = some v → Value.okWide Tryz.prog W .any base t v := hval0
  have hW' := hW
  obtain ⟨p, q, hA0, hV_, rfl, hfz, hnd⟩ := hW
  have hA : DataW.TrodAll enc Tryz.prog W 0 (fun _ => true) true Tryz.f3.params.toList args.toList ds p := hA0
  rw [Tryz.params3] at hA hval hsz
  obtain ⟨v0, vs0, d0, ds0, p0, q0, hargs, rfl, rfl, h0, r0⟩ := trodAll_cons hA
  obtain ⟨v1, vs1, d1, ds1, p1, q1, rfl, rfl, rfl, h1, r1⟩ := trodAll_cons r0
  obtain ⟨rfl, rfl, rfl⟩ := trodAll_nil r1
  obtain rfl : args = #[v0, v1] := by cases args; simp_all
  obtain ⟨rfl, rfl⟩ := trodVars_none hV_
  have lt1 : ∀ x ∈ p1, x.block < W.heap.size := by obtain ⟨m, hm⟩ := h1; exact DataW.trod_lt m _ _ _ hm
  obtain ⟨n, rfl, rfl, rfl, wn⟩ := open_int Tryz.underlying3 (hval 0 3 v0 rfl rfl) h0
  obtain ⟨l, hl, hzl⟩ := open_acts h1 (cells_slice (okWide_slice Tryz.underlying22 (hval 1 22 v1 rfl rfl)))
  have hnl : l.length * 112 ≤ 140737488355328 := by
    rcases hzl with h0 | ⟨e, s, h0, hle⟩
    · rw [h0]; simp
    · have hm : (e.length + s.length) * Tryz.prog.bytesOf 38 ∈ DataW.weights Tryz.prog 22 d1 := by rw [h0]; simp [DataW.weights, Tryz.underlying22]
      have h1 := List.all_eq_true.1 hsz _ (DataW.weights_mem_each (j := 1) (t := 22) rfl rfl _ hm)
      rw [show Tryz.prog.bytesOf 38 = 112 by kernel_rfl] at h1
      have h2 : (e.length + s.length) * 112 ≤ reachBytes := of_decide_eq_true h1
      rw [show reachBytes = 140737488351232 by kernel_rfl] at h2
      omega
  clear hA0 hval0
  refine (crowdPlays_any n l v1 _ hl (by omega)).mono fun e W' ⟨he, bel⟩ => ?_
  subst he
  exact ⟨_, rfl, _, _, _, [], _, [], hW', trodAll_mk1 (shut_bool Tryz.underlying4 _), (trodAll_cons_mk (shut_int Tryz.underlying3 wn) (trodAll_cons_mk (Below.trod laidOut (by kernel_rfl) (of_decide_eq_true (by kernel_rfl)) h1 bel lt1) trodAll_mk0)), rfl, bel.frame _, fun h => by cases h⟩

theorem over : Rows.crowdPlaysRow.holds Tryz.pinned (OpenSpec.ofChange Rows.crowdPlaysSpec) :=
  OpenClaim.holds_of_wide 3 Tryz.f3 rfl rfl rfl rfl rfl rfl rfl ⟨rfl, rfl, rfl, rfl, rfl⟩ rfl rfl rfl rfl rfl (by kernel_rfl) Tryz.func3 (by kernel_rfl)
    (of_decide_eq_true (by kernel_rfl)) (by unfold Func.isWrapper; first | (rw [if_pos (by decide +kernel)]; kernel_rfl) | (rw [if_neg (by decide +kernel)]; exact ⟨rfl, rfl⟩))
    (fun os started H enc _ => lifted os started H enc)

end Go.Proofs.YtmmgaonlmpajbacGreat.crowdPlays
namespace Go.Proofs.YtmmgaonlmpajbacGreat
theorem crowdPlays_holds : Rows.CrowdPlaysSaid :=
  crowdPlays.over
#print axioms crowdPlays_holds
end Go.Proofs.YtmmgaonlmpajbacGreat
