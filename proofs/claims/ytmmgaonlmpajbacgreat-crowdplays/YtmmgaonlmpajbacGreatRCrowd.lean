/-
  The document's crowd: NewCrowd, SameNet; what its Do answers.
-/
import Derived.Test.YtmmgaonlmpajbacGreatCPl
import Derived.Test.YtmmgaonlmpajbacGreatBase
namespace Go.Proofs.YtmmgaonlmpajbacGreat
open Go.RowKit

/-- What is answered, and where the document's crowd lies then. -/
def DidR (w : World) (g : Nat) (nt : Value) (c' : Cw) (rep : Array Value) (e : Ending) (w' : World) : Prop :=
  e = .returned (.agg rep) ∧ ∃ q' nt', CwAt w' g 54 c' q' nt' ∧ Touch g nt w w' ∧ Next nt nt' w
theorem didR_of {w : World} {g : Nat} {c : Cw} {q : Nat → Value} {nt : Value} {D : Array Value} (H : CwAt w g 54 c q nt) {e : Ending} {w' : World} (h : e = .returned (.agg D) ∧ Below w.heap.size w w') : DidR w g nt c D e w' :=
  ⟨h.1, q, nt, H.keep h.2, Touch.below h.2, Next.refl _ _⟩
set_option maxHeartbeats 1000000 in
theorem no_any (code : Int) (w : World) : Calls Tryz.prog 24 #[.int .i64 code] w fun e w' => e = .returned (.agg (refused code)) ∧ Below w.heap.size w w' := by
  go_enter Tryz.func24, Tryz.ntmps24
  go_wp2
  exact bodyPost_ret (v := .agg (refused code)) (by simp [results, Tryz.results24, go_sem, refused, rcells]) rfl ⟨rfl, by go_grown⟩

/-! ### NewCrowd -/
theorem ccells_set_node (n : Nat → NI) (nt : Value) (liar acts : Int) (i j : Nat) (hi : i < 4) (hj : j < 282) (v : Value) (m : NI) (h : (n i).cells.setIfInBounds j v = m.cells) :
    (ccells n nt liar acts).setIfInBounds (i * 282 + j) v = ccells (fun k => if k = i then m else n k) nt liar acts := by
  have key : ∀ k, k < 282 → k ≠ j → ncellAt (n i) k = ncellAt m k := fun k hk hne => by
    have h1 := congrArg (fun a : Array Value => a[k]?) h
    simp only [Array.getElem?_setIfInBounds] at h1
    rw [if_neg (fun e => hne e.symm), ncells_at _ k hk, ncells_at _ k hk] at h1
    exact Option.some.inj h1
  have keyj : ncellAt m j = v := by
    have h1 := congrArg (fun a : Array Value => a[j]?) h
    simp only [Array.getElem?_setIfInBounds] at h1
    rw [if_pos trivial, if_pos (by rw [ncells_size]; exact hj), ncells_at _ j hj] at h1
    exact (Option.some.inj h1).symm
  apply Array.ext_getElem?
  intro k
  rw [Array.getElem?_setIfInBounds]
  by_cases hk : k < 1131
  · by_cases e : i * 282 + j = k
    · subst e
      rw [if_pos rfl, if_pos (by rw [ccells_size]; omega), ccells_node _ _ _ _ i j hi hj, if_pos rfl, keyj]
    · rw [if_neg e, ccells_at _ _ _ _ k hk, ccells_at _ _ _ _ k hk]
      congr 1
      unfold ccellAt
      by_cases c : k < 1128
      · rw [if_pos c, if_pos c]
        show ncellAt (n (k / 282)) (k % 282) = ncellAt (if k / 282 = i then m else n (k / 282)) (k % 282)
        by_cases ci : k / 282 = i
        · rw [if_pos ci, ci]
          exact key _ (by omega) (by omega)
        · rw [if_neg ci]
      · rw [if_neg c, if_neg c]
  · rw [if_neg (by omega), Array.getElem?_eq_none (by rw [ccells_size]; omega), Array.getElem?_eq_none (by rw [ccells_size]; omega)]
def midN : NI := { zN with boundIn := -1 }
theorem set_mid : zN.cells.setIfInBounds 4 (.int .i64 (-1)) = midN.cells := by kernel_rfl
theorem set_new : midN.cells.setIfInBounds 6 (.int .i64 (-1)) = newN.cells := by kernel_rfl

set_option maxHeartbeats 2000000 in
theorem rnew_bad (liar : Int) (h : ¬ (-1 ≤ liar ∧ liar ≤ 3)) (w : World) : Calls Tryz.prog 5 #[.int .i64 liar] w fun e w' => e = .returned (.tuple #[.pointer none, .int .i64 2]) ∧ w' = w := by
  have h2 : win liar (-1) 3 = false := by
    cases hw : win liar (-1) 3
    · rfl
    · exact absurd (win_iff.1 hw) h
  clear h
  go_enter Tryz.func5, Tryz.ntmps5
  go_wp2_with (first | (go_at_call 15; refine (rwithin_any _ _ _ _).mono ?_; rw [h2]; rintro e w' ⟨rfl, hw'⟩; obtain rfl := hw'.symm))
  go_ret2
  exact ⟨rfl, rfl⟩
theorem rbuild_crowd (liar : Int) (W : World) : Sem.run Tryz.prog (Instr.build 54 #[(2, .int .i64 liar)]) W = .ok (.agg (ccells (fun _ => zN) (.slice none 0 0) liar 0)) W := by show _ = _; kernel_rfl

set_option maxRecDepth 100000 in
set_option maxHeartbeats 8000000 in
theorem rnew_good (liar : Int) (h : -1 ≤ liar ∧ liar ≤ 3) (w : World) : Calls Tryz.prog 5 #[.int .i64 liar] w fun e w' => e = .returned (.tuple #[.pointer (some ⟨w.heap.size, 0, none⟩), .int .i64 0]) ∧ CwAt w' w.heap.size 54 (newC liar) (fun _ => .slice none 0 0) (.slice none 0 0) ∧ Below w.heap.size w w' := by
  have h2 : win liar (-1) 3 = true := win_iff.2 h
  clear h
  go_enter Tryz.func5, Tryz.ntmps5
  go_wp2_with (first
    | (go_at_call 15; refine (rwithin_any _ _ _ _).mono ?_; rw [h2]; rintro e w' ⟨rfl, hw'⟩; obtain rfl := hw'.symm)
    | (refine wpList_build_eq rfl 54 _ rfl (ccells (fun _ => zN) (.slice none 0 0) liar 0) (by simp only [List.map_toArray, List.map_cons, List.map_nil]; exact rbuild_crowd liar _) ?_; simp only [Act.put, List.setIfInBounds_toArray, List.set_cons_zero, List.set_cons_succ]))
  go_loopw [12] (fun i W => ∃ k : Nat, k ≤ 4 ∧ i = .int .i64 (k : Int) ∧ Blk W w.heap.size (ccells (fun i => if i < k then newN else zN) (.slice none 0 0) liar 0) 54 ∧ Below w.heap.size w W) (fun i _ => 4 - (intOf i).toNat)
  case atStart => exact ⟨0, by omega, rfl, Blk.new w _ _, by go_grown⟩
  case round =>
    obtain ⟨k, hk, rfl, B1, hB⟩ := hrel
    by_cases hlt : k < 4
    · have hkI : (k : Int) < 4 := by omega
      have hs := hB.size
      have hB1 := B1.lt
      have E2 := B1.setCell (k * 282 + 4) (.int .i64 (-1))
      rw [ccells_set_node _ _ _ _ k 4 hlt (by omega) _ midN (by rw [if_neg (by omega)]; exact set_mid)] at E2
      have E3 := E2.setCell (k * 282 + 6) (.int .i64 (-1))
      rw [ccells_set_node _ _ _ _ k 6 hlt (by omega) _ newN (by rw [if_pos rfl]; exact set_new)] at E3
      have c4 := B1.cell (k * 282 + 4)
      rw [ccells_node _ _ _ _ k 4 hlt (by omega)] at c4
      have f4 := B1.free (k * 282 + 4)
      have c6 := E2.cell (k * 282 + 6)
      rw [ccells_node _ _ _ _ k 6 hlt (by omega)] at c6
      have f6 := E2.free (k * 282 + 6)
      go_wp2_with fail
      refine held_region (fun _ => True) [] [(0, 0), (1, 0), (2, 0), (3, 0), (4, 0), (5, 0), (6, 0), (7, 0), (9, 0), (10, 0), (8, 2), (11, 0), (12, 0), (13, 2)] (by kernel_rfl) (by kernel_rfl) (by kernel_rfl) rfl (fun _ _ d _ _ h => by cases d <;> exact h) trivial ?_
      repeat (first
      | (refine ord_run0_ex rfl (by rfl) ?_
         apply Exists.intro
         refine ⟨fun w0 => ?_, ?_⟩
         · go_simp; rfl
         simp only [Act.put, List.setIfInBounds_toArray, List.set_cons_zero, List.set_cons_succ]))
      refine ord_do rfl ?_
      go_wp2_with fail
      refine ⟨fun _ => trivial, ?_⟩
      try simp only [Act.put, List.setIfInBounds_toArray, List.set_cons_zero, List.set_cons_succ]
      repeat (first
      | (refine ord_run0_ex rfl (by rfl) ?_
         apply Exists.intro
         refine ⟨fun w0 => ?_, ?_⟩
         · go_simp; rfl
         simp only [Act.put, List.setIfInBounds_toArray, List.set_cons_zero, List.set_cons_succ]))
      refine ord_do rfl ?_
      go_wp2_with fail
      refine ⟨fun _ => trivial, ?_⟩
      show wpOrd _ _ _ _ _ [] _ _ _
      unfold wpOrd
      go_wp2
      go_roundw
      case measure => simp [intOf]; omega
      case rel =>
        have e : (fun i => if i = k then newN else if i = k then midN else if i < k then newN else zN) = fun i => if i < k + 1 then newN else zN := by
          funext i
          by_cases c1 : i = k
          · rw [if_pos c1, if_pos (by omega)]
          · rw [if_neg c1, if_neg c1]
            by_cases c2 : i < k
            · rw [if_pos c2, if_pos (by omega)]
            · rw [if_neg c2, if_neg (by omega)]
        rw [e] at E3
        exact ⟨k + 1, by omega, by go_num, E3, ((below_drew' hB).setCell (by show w.heap.size ≤ w.heap.size; omega) _).setCell (by show w.heap.size ≤ w.heap.size; omega) _⟩
    · go_wp2
      go_ret2
      refine ⟨rfl, ⟨?_, fun i hi => World.ownsRow_nil _ _ _ _, World.ownsRow_nil _ _ _ _⟩, hB⟩
      have e : ccells (fun i => if i < k then newN else zN) (.slice none 0 0) liar 0 = ccells (fun i => ((newC liar).nd i).ni (.slice none 0 0)) (.slice none 0 0) liar 0 := ccells_congr (fun i hi => by
        rw [if_pos (by omega)]
        exact newN_cells.symm)
      rw [e] at B1
      exact B1
end Go.Proofs.YtmmgaonlmpajbacGreat
