/-
  The statement TopRuns.
-/
import Derived.Test.YtmmgaonlmpajbacRunC
import Derived.Test.YtmmgaonlmpajbacCrowdLaws
namespace Go.Proofs.Ytmmgaonlmpajbac
open Go.RowKit

theorem size_ac (W : World) : (sizeOf 27).run Try.prog W = .ok 14 W := by show _ = _; kernel_rfl
theorem elem_ac : Try.prog.underlying 22 = some (.slice (Try.prog.elem 22)) := by kernel_rfl
theorem elem_ac' : Try.prog.elem 22 = 27 := by kernel_rfl
theorem sliceT (a : Option Addr) (len cap k : Nat) (h : k ≤ cap) (W : World) : Sem.run Try.prog (Instr.slice 22 (.slice a len cap) none (some (.int .i64 (k : Int))) none) W = .ok (.slice a k cap) W := by
  rw [run_slice_h W _ a len cap elem_ac .i64 (k : Int) (by omega) (by omega), elem_ac', size_ac]
  cases a with
  | none => simp [sliced]
  | some a => obtain ⟨b, o, sp⟩ := a; simp [sliced, Addr.add]
theorem acts_take {W : World} {a : Option Addr} {cap k : Nat} {l : List Ac} (h : ActsAt W (.slice a l.length cap) l) (hk : k ≤ l.length) : ActsAt W (.slice a k cap) (l.take k) := by
  rcases h with ⟨rfl, a', c', e⟩ | ⟨b, o, c', e, hc⟩
  · have : k = 0 := by simpa using hk
    subst this
    exact Or.inl ⟨rfl, a, cap, rfl⟩
  · injection e with e1 _ e3
    subst e1 e3
    refine Or.inr ⟨b, o, cap, by rw [List.length_take, Nat.min_eq_left hk], fun i x hx => ?_⟩
    have hi : i < k := by
      by_cases hlt : i < k
      · exact hlt
      · rw [List.getElem?_take, if_neg hlt] at hx; cases hx
    rw [List.getElem?_take, if_pos hi] at hx
    exact hc i x hx
theorem playC_take (liar : Int) (l : List Ac) {k j : Nat} (h : j ≤ k) : playC liar (l.take k) j = playC liar l j := by
  unfold playC
  rw [List.take_take, Nat.min_eq_left h]
theorem repC_take (liar : Int) (l : List Ac) {k j : Nat} (h : j < k) : repC liar (l.take k) j = repC liar l j := by
  unfold repC
  rw [List.getElem?_take, if_pos h, playC_take liar l (Nat.le_of_lt h)]
theorem rep_range {W : World} {b n : Nat} {liar : Int} {l : List Ac} {k : Nat} (h : RepsAt W b n liar l k) {j : Nat} (hj : j < k) {D : Array Value} (hD : repC liar l j = D) (hs : D.size = 6) : W.rangeAt b (j * 6) D.toList := by
  obtain ⟨C, h1, _, h3⟩ := h
  intro t u hu
  have ht : t < 6 := by
    by_cases hlt : t < 6
    · exact hlt
    · rw [List.getElem?_eq_none (by rw [Array.length_toList]; omega)] at hu; cases hu
  rw [h1.cell, h3 j hj t ht, hD]
  rw [Array.getElem?_toList] at hu
  exact hu
theorem repC_isRep (liar : Int) (l : List Ac) {j : Nat} (h : j < l.length) : ∃ code n f, repC liar l j = rcells code n f := by
  unfold repC
  rw [List.getElem?_eq_getElem h]
  exact do_isRep _ _
theorem modL_bd (a : Int) (m : Nat) : (-((m : Int) + 1) < a.tmod ((m : Int) + 1) ∧ a.tmod ((m : Int) + 1) < (m : Int) + 1) ∧ 0 ≤ (a.tmod ((m : Int) + 1) + (m : Int) + 1).tmod ((m : Int) + 1) ∧ (a.tmod ((m : Int) + 1) + (m : Int) + 1).tmod ((m : Int) + 1) < (m : Int) + 1 := by
  have h1 : a.tmod ((m : Int) + 1) < (m : Int) + 1 := Int.tmod_lt_of_pos a (by omega)
  have h2 : -((m : Int) + 1) < a.tmod ((m : Int) + 1) := by
    have := Int.lt_tmod_of_pos a (show (0 : Int) < (m : Int) + 1 by omega)
    omega
  exact ⟨⟨h2, h1⟩, Int.tmod_nonneg _ (by omega), Int.tmod_lt_of_pos _ (by omega)⟩

set_option maxRecDepth 100000 in
set_option maxHeartbeats 4000000 in
theorem topRuns_any (n : Int) (l : List Ac) (k0 : Int) (s : Value) (w : World) (hs : ActsAt w s l) (hlen : l.length * 112 ≤ 140737488355328) (hcap : ∃ a c, s = .slice a l.length c ∧ l.length ≤ c) :
    Calls Try.prog 4 #[.int .i64 n, s, .int .i64 k0] w fun e w' => e = .returned (.bool true) ∧ Below w.heap.size w w' := by
  obtain ⟨sa, sc, hsv, hsc⟩ := hcap
  subst hsv
  by_cases h300 : (l.length : Int) > 300
  · clear hs
    go_enter Try.func4, Try.ntmps4
    go_upto_region 2 with (first
      | (go_at_call 13; refine (talive_any _).mono ?_; rintro e w1 ⟨rfl, L1⟩))
    go_wp2_with (first
      | (go_at_call 13; refine (talive_any _).mono ?_; rintro e w2 ⟨rfl, L2⟩))
    go_ret
    exact ⟨rfl, bel_trans L1 L2⟩
  · have hl := liesV_bd n
    have hm := modL_bd k0 l.length
    have hm1 := hm.1.1
    have hm2 := hm.1.2
    have hm3 := hm.2.1
    have hm4 := hm.2.2
    have hne : ¬ ((l.length : Int) + 1 = 0) := by omega
    obtain ⟨k, hk⟩ : ∃ k : Nat, (k0.tmod ((l.length : Int) + 1) + (l.length : Int) + 1).tmod ((l.length : Int) + 1) = (k : Int) := ⟨((k0.tmod ((l.length : Int) + 1) + (l.length : Int) + 1).tmod ((l.length : Int) + 1)).toNat, by omega⟩
    have hkl : k ≤ l.length := by omega
    have HS : Hid (∀ W, Below w.heap.size w W → ActsAt W (.slice sa l.length sc) l) := fun W hW => hs.keep hW
    have HT : Hid (∀ W, Below w.heap.size w W → ActsAt W (.slice sa k sc) (l.take k)) := fun W hW => acts_take (hs.keep hW) hkl
    have hlk : (l.take k).length = k := by rw [List.length_take, Nat.min_eq_left hkl]
    have hsl := sliceT sa l.length sc k (by omega)
    have HR1 := fun W s' (h : ActsAt W s' l) => run_any (liesV n) hl l s' W h (by omega)
    have HR2 := fun W s' (h : ActsAt W s' (l.take k)) => run_any (liesV n) hl (l.take k) s' W h (by omega)
    rw [hlk] at HR2
    have HRun1 : Hid _ := HR1
    have HRun2 : Hid _ := HR2
    clear hs HR1 HR2 hm
    go_enter Try.func4, Try.ntmps4
    go_upto_region 4 with (first
      | (go_at_call 13; refine (talive_any _).mono ?_; rintro e w1 ⟨rfl, L1⟩))
    go_upto_region 5 with (first
      | (go_at_call 9; refine (lies_any n _).mono ?_; rintro e w' ⟨rfl, hw'⟩; obtain rfl := hw'.symm)
      | (at_builtin; refine wpList_copy_acts rfl _ rfl rfl _ l rfl (HS.out w1 L1) (by omega) ?_; intro v2 w2 A2 L2)
      | (go_at_call 14; refine (HRun1.out w2 v2 A2).mono ?_; rintro e w3 ⟨b3, rfl, R3, hb3, L3⟩))
    have B3 := bel_trans (bel_trans L1 L2) L3
    have hsz3 := B3.size
    have B3d : Below w.heap.size w w3.drew := below_drew' B3
    refine held_region (fun _ => True) [] [(0, 0), (2, 0), (3, 0), (4, 0), (1, 2), (5, 2), (6, 2), (7, 0), (8, 0), (9, 0), (10, 0), (11, 0)] (by kernel_rfl) (by kernel_rfl) (by kernel_rfl) rfl (fun _ _ d _ _ h => by cases d <;> exact h) trivial ?_
    repeat (first
      | (refine ord_run0_ex rfl (by rfl) ?_
         apply Exists.intro
         refine ⟨fun w0 => ?_, ?_⟩
         · go_simp; first | rfl | exact hsl _
         simp only [Act.put, List.setIfInBounds_toArray, List.set_cons_zero, List.set_cons_succ]))
    refine ord_call_ex rfl (by rfl) ?_
    apply Exists.intro
    apply Exists.intro
    refine ⟨?_, ?_⟩
    · go_simp; exact ⟨rfl, rfl⟩
    refine (lies_any n _).mono ?_
    rintro e w' ⟨rfl, hw'⟩
    obtain rfl := hw'.symm
    refine ⟨_, rfl, fun _ => trivial, ?_⟩
    simp only [Act.put, List.setIfInBounds_toArray, List.set_cons_zero, List.set_cons_succ]
    refine ord_do rfl ?_
    refine wpList_copy_acts rfl _ rfl rfl _ (l.take k) rfl (HT.out _ B3d) (by omega) ?_
    intro v4 w4 A4 L4
    refine ⟨fun _ => trivial, ?_⟩
    simp only [Act.put, List.setIfInBounds_toArray, List.set_cons_zero, List.set_cons_succ]
    refine ord_call_ex rfl (by rfl) ?_
    apply Exists.intro
    apply Exists.intro
    refine ⟨?_, ?_⟩
    · go_simp; exact ⟨rfl, rfl⟩
    refine (HRun2.out w4 v4 A4).mono ?_
    rintro e w5 ⟨b5, rfl, R5, hb5, L5⟩
    refine ⟨_, rfl, fun _ => trivial, ?_⟩
    simp only [Act.put, List.setIfInBounds_toArray, List.set_cons_zero, List.set_cons_succ]
    repeat (first
      | (refine ord_run0_ex rfl (by rfl) ?_
         apply Exists.intro
         refine ⟨fun w0 => ?_, ?_⟩
         · go_simp; rfl
         simp only [Act.put, List.setIfInBounds_toArray, List.set_cons_zero, List.set_cons_succ]))
    show wpOrd _ _ _ _ _ [] _ _ _
    unfold wpOrd
    have L45 : Below w3.drew.heap.size w3.drew w5 := bel_trans L4 L5
    have R3' : RepsAt w5 b3 l.length (liesV n) l l.length := RepsAt.below (W := w3.drew) (by obtain ⟨C, z⟩ := R3; exact ⟨C, z.1.drew, z.2⟩) L45
    have B5 := bel_trans B3d L45
    have HR3 : Hid (∀ W, Below w5.heap.size w5 W → ∀ j, j < k → ∀ D, repC (liesV n) l j = D → D.size = 6 → W.rangeAt b3 (j * 6) D.toList) := fun W hW j hj D hD hs => rep_range (R3'.below hW) (by omega) hD hs
    have HR5 : Hid (∀ W, Below w5.heap.size w5 W → ∀ j, j < k → ∀ D, repC (liesV n) l j = D → D.size = 6 → W.rangeAt b5 (j * 6) D.toList) := fun W hW j hj D hD hs => rep_range (R5.below hW) hj (by rw [repC_take _ _ hj]; exact hD) hs
    clear R3 R3' R5 L45 L4 L5 A4 B3 B3d L1 L2 L3 A2 HRun1 HRun2 HS HT hsl
    go_wp2
    go_loopw [11] (fun i V => ∃ j : Nat, j ≤ k ∧ i = .int .i64 (j : Int) ∧ Below w5.heap.size w5 V) (fun i _ => k - (intOf i).toNat)
    case atStart => exact ⟨0, by omega, rfl, Below.refl _ _⟩
    case round =>
      obtain ⟨j, hj, rfl, hB⟩ := hrel
      by_cases hjk : j < k
      · have hjI : (j : Int) < (k : Int) := by omega
        have hjL : (j : Int) < (l.length : Int) := by omega
        obtain ⟨code, nn, f, hrep⟩ := repC_isRep (liesV n) l (j := j) (by omega)
        have hr1 : ∀ V, Below w5.heap.size w5 V → V.rangeAt b3 (j * 6) (rcells code nn f).toList := fun V hV => HR3.out V hV j hjk _ hrep rfl
        have hr2 : ∀ V, Below w5.heap.size w5 V → V.rangeAt b5 (j * 6) (rcells code nn f).toList := fun V hV => HR5.out V hV j hjk _ hrep rfl
        have heq := eq_rep code nn f
        have hir := info_rep code nn f
        clear hrep
        generalize rcells code nn f = X at hr1 hr2 heq hir
        go_upto_region 11 with fail
        refine q_region (C := fun V => Below w5.heap.size w5 V) (by kernel_rfl) (by kernel_rfl) (below_drew' hB) ?_
        repeat (first
          | (refine q_skip (by rfl) ?_; simp only [Act.put, List.setIfInBounds_toArray, List.set_cons_zero, List.set_cons_succ])
          | (refine q_load (by rfl) 35 _ rfl b3 (j * 6) (by first | rfl | simp) X _ hr1 Try.underlying35 rfl hir ?_; simp only [Act.put, List.setIfInBounds_toArray, List.set_cons_zero, List.set_cons_succ])
          | (refine q_load (by rfl) 35 _ rfl b5 (j * 6) (by first | rfl | simp) X _ hr2 Try.underlying35 rfl hir ?_; simp only [Act.put, List.setIfInBounds_toArray, List.set_cons_zero, List.set_cons_succ])
          | (refine q_run_ex (by rfl) ?_
             apply Exists.intro
             refine ⟨fun w0 hC => ?_, ?_⟩
             · clear hC; go_simp; rfl
             simp only [Act.put, List.setIfInBounds_toArray, List.set_cons_zero, List.set_cons_succ]))
        refine q_nil ?_
        intro w6 hC6
        go_wp2
        go_roundw
        case rel => exact ⟨j + 1, by omega, by go_num, hC6⟩
        case measure => simp [intOf]; omega
      · have hjI : ¬ (j : Int) < (k : Int) := by omega
        go_wp2
        go_ret
        exact ⟨rfl, bel_trans B5 hB⟩
end Go.Proofs.Ytmmgaonlmpajbac
