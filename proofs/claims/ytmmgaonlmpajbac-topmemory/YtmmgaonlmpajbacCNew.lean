/-
  The landed package crowd: New, Node, Net.
-/
import Derived.Test.YtmmgaonlmpajbacCDo
namespace Go.Proofs.Ytmmgaonlmpajbac
open Go.RowKit

/-- The crowd to which nothing was done. -/
def newC (liar : Int) : Cw := ⟨fun _ => newN.nd [], [], liar, 0⟩
theorem newN_beyond : Beyond noSh ⟨newN.nd [], []⟩ := ⟨by show 0 ≤ 4; omega, fun g hg => by show (if g < 4 then _ else noSh) = noSh; rw [if_neg (by omega)]⟩
theorem newN_whole : Whole (newN.nd []) := ⟨(gn_of newN_good).1, newN_beyond⟩
theorem newC_good {liar : Int} (h : -1 ≤ liar ∧ liar ≤ 3) : CG (newC liar) := ⟨fun _ _ => newN_whole, by show 0 ≤ 2000; omega, fun x hx => absurd hx (List.not_mem_nil), by show 0 ≤ 600; omega, h⟩
theorem newN_cells : ((newN.nd []).ni (.slice none 0 0)).cells = newN.cells := cells_nd rfl rfl rfl _

set_option maxHeartbeats 2000000 in
theorem new_bad (liar : Int) (h : ¬ (-1 ≤ liar ∧ liar ≤ 3)) (w : World) : Calls Try.prog 15 #[.int .i64 liar] w fun e w' => e = .returned (.tuple #[.pointer none, .int .i64 2]) ∧ w' = w := by
  have h1 : (liar != -1) = true := bne_iff_ne.2 (by omega)
  have h2 : win liar 0 3 = false := by
    cases hw : win liar 0 3
    · rfl
    · have := win_iff.1 hw; omega
  clear h
  go_enter Try.func15, Try.ntmps15
  go_wp2_with (first | (go_at_call 30; refine (bnode_any _ _).mono ?_; rw [h2]; rintro e w' ⟨rfl, hw'⟩; obtain rfl := hw'.symm))
  go_ret2
  exact ⟨rfl, rfl⟩

/-- The cells of a crowd as it is made. -/
theorem build_crowd (liar : Int) (W : World) : Sem.run Try.prog (Instr.build 70 #[(2, .int .i64 liar)]) W = .ok (.agg (ccells (fun _ => zN) (.slice none 0 0) liar 0)) W := by show _ = _; kernel_rfl

theorem ccells_congr {n m : Nat → NI} {nt : Value} {liar acts : Int} (h : ∀ i, i < 4 → (n i).cells = (m i).cells) : ccells n nt liar acts = ccells m nt liar acts := by
  apply Array.ext_getElem?
  intro j
  by_cases hj : j < 1131
  · rw [ccells_at _ _ _ _ j hj, ccells_at _ _ _ _ j hj]
    congr 1
    unfold ccellAt
    by_cases c : j < 1128
    · rw [if_pos c, if_pos c]
      have h1 := h (j / 282) (by omega)
      have h2 := ncells_at (n (j / 282)) (j % 282) (by omega)
      rw [h1, ncells_at (m (j / 282)) (j % 282) (by omega)] at h2
      exact (Option.some.inj h2).symm
    · rw [if_neg c, if_neg c]
  · rw [Array.getElem?_eq_none (by rw [ccells_size]; omega), Array.getElem?_eq_none (by rw [ccells_size]; omega)]

set_option maxRecDepth 100000 in
set_option maxHeartbeats 4000000 in
theorem new_good (liar : Int) (h : -1 ≤ liar ∧ liar ≤ 3) (w : World) : Calls Try.prog 15 #[.int .i64 liar] w fun e w' => e = .returned (.tuple #[.pointer (some ⟨w.heap.size, 0, none⟩), .int .i64 0]) ∧ CwAt w' w.heap.size 70 (newC liar) (fun _ => .slice none 0 0) (.slice none 0 0) ∧ Below w.heap.size w w' := by
  have hiN := infoN newN
  by_cases h1 : liar = -1
  · have h1' : (liar != -1) = false := by simpa using h1
    clear h h1
    go_enter Try.func15, Try.ntmps15
    go_wp2_with (first
      | (refine wpList_build_eq rfl 70 _ rfl (ccells (fun _ => zN) (.slice none 0 0) liar 0) (by simp only [List.map_toArray, List.map_cons, List.map_nil]; exact build_crowd liar _) ?_; simp only [Act.put, List.setIfInBounds_toArray, List.set_cons_zero, List.set_cons_succ]))
    go_loopw [16] (fun i W => ∃ k : Nat, k ≤ 4 ∧ i = .int .i64 (k : Int) ∧ Blk W w.heap.size (ccells (fun i => if i < k then newN else zN) (.slice none 0 0) liar 0) 70 ∧ Below w.heap.size w W) (fun i _ => 4 - (intOf i).toNat)
    case atStart => exact ⟨0, by omega, rfl, Blk.new w _ _, by go_grown⟩
    case round =>
      obtain ⟨k, hk, rfl, B1, hB⟩ := hrel
      by_cases hlt : k < 4
      · have hkI : (k : Int) < 4 := by omega
        have hs := hB.size
        have hB1 := B1.lt
        go_wp2_with fail
        rename World => w1
        refine held_region (fun _ => True) [] [(0, 0), (1, 0), (3, 0), (4, 0), (2, 2), (5, 0), (6, 2)] (by kernel_rfl) (by kernel_rfl) (by kernel_rfl) rfl (fun _ _ d _ _ h => by cases d <;> exact h) trivial ?_
        repeat (first
          | (refine ord_run0_ex rfl (by rfl) ?_
             apply Exists.intro
             refine ⟨fun w0 => ?_, ?_⟩
             · go_simp; rfl
             simp only [Act.put, List.setIfInBounds_toArray, List.set_cons_zero, List.set_cons_succ]))
        refine ord_call_ex rfl (by rfl) ⟨31, #[], by go_simp, (nnew_any _).mono ?_⟩
        rintro e w2 ⟨rfl, L2⟩
        refine ⟨_, rfl, fun _ => trivial, ?_⟩
        simp only [Act.put, List.setIfInBounds_toArray, List.set_cons_zero, List.set_cons_succ]
        repeat (first
          | (refine ord_run0_ex rfl (by rfl) ?_
             apply Exists.intro
             refine ⟨fun w0 => ?_, ?_⟩
             · go_simp; rfl
             simp only [Act.put, List.setIfInBounds_toArray, List.set_cons_zero, List.set_cons_succ]))
        have B2 := B1.drew.below L2
        refine ord_do rfl ?_
        refine wpList_store_node rfl 61 _ _ rfl w.heap.size k _ (.slice none 0 0) liar 0 newN 70 (by first | rfl | simp) rfl hlt B2 hiN (one_cellN _ rfl) ?_
        rintro w3 B3 G3 hs3
        refine ⟨fun _ => trivial, ?_⟩
        show wpOrd _ _ _ _ _ [] _ _ _
        unfold wpOrd
        go_wp2
        go_roundw
        case measure => simp [intOf]; omega
        case rel =>
          have e : (fun i => if i = k then newN else if i < k then newN else zN) = fun i => if i < k + 1 then newN else zN := by
            funext i
            by_cases c1 : i = k
            · rw [if_pos c1, if_pos (by omega)]
            · rw [if_neg c1]
              by_cases c2 : i < k
              · rw [if_pos c2, if_pos (by omega)]
              · rw [if_neg c2, if_neg (by omega)]
          rw [e] at B3
          exact ⟨k + 1, by omega, by go_num, B3, bel_seq (bel_trans (below_drew' hB) L2) (below_of_grown G3 (Nat.le_refl _) (by have := L2.size; have : w1.drew.heap.size = w1.heap.size := rfl; omega))⟩
      · go_wp2
        go_ret2
        refine ⟨rfl, ⟨?_, fun i hi => World.ownsRow_nil _ _ _ _, World.ownsRow_nil _ _ _ _⟩, hB⟩
        have e : ccells (fun i => if i < k then newN else zN) (.slice none 0 0) liar 0 = ccells (fun i => ((newC liar).nd i).ni (.slice none 0 0)) (.slice none 0 0) liar 0 := ccells_congr (fun i hi => by
          rw [if_pos (by omega)]
          exact newN_cells.symm)
        rw [e] at B1
        exact B1
  · have h1' : (liar != -1) = true := bne_iff_ne.2 h1
    have h2 : win liar 0 3 = true := win_iff.2 (by omega)
    clear h h1
    go_enter Try.func15, Try.ntmps15
    go_wp2_with (first
      | (go_at_call 30; refine (bnode_any _ _).mono ?_; rw [h2]; rintro e w' ⟨rfl, hw'⟩; obtain rfl := hw'.symm)
      | (refine wpList_build_eq rfl 70 _ rfl (ccells (fun _ => zN) (.slice none 0 0) liar 0) (by simp only [List.map_toArray, List.map_cons, List.map_nil]; exact build_crowd liar _) ?_; simp only [Act.put, List.setIfInBounds_toArray, List.set_cons_zero, List.set_cons_succ]))
    go_loopw [16] (fun i W => ∃ k : Nat, k ≤ 4 ∧ i = .int .i64 (k : Int) ∧ Blk W w.heap.size (ccells (fun i => if i < k then newN else zN) (.slice none 0 0) liar 0) 70 ∧ Below w.heap.size w W) (fun i _ => 4 - (intOf i).toNat)
    case atStart => exact ⟨0, by omega, rfl, Blk.new w _ _, by go_grown⟩
    case round =>
      obtain ⟨k, hk, rfl, B1, hB⟩ := hrel
      by_cases hlt : k < 4
      · have hkI : (k : Int) < 4 := by omega
        have hs := hB.size
        have hB1 := B1.lt
        go_wp2_with fail
        rename World => w1
        refine held_region (fun _ => True) [] [(0, 0), (1, 0), (3, 0), (4, 0), (2, 2), (5, 0), (6, 2)] (by kernel_rfl) (by kernel_rfl) (by kernel_rfl) rfl (fun _ _ d _ _ h => by cases d <;> exact h) trivial ?_
        repeat (first
          | (refine ord_run0_ex rfl (by rfl) ?_
             apply Exists.intro
             refine ⟨fun w0 => ?_, ?_⟩
             · go_simp; rfl
             simp only [Act.put, List.setIfInBounds_toArray, List.set_cons_zero, List.set_cons_succ]))
        refine ord_call_ex rfl (by rfl) ⟨31, #[], by go_simp, (nnew_any _).mono ?_⟩
        rintro e w2 ⟨rfl, L2⟩
        refine ⟨_, rfl, fun _ => trivial, ?_⟩
        simp only [Act.put, List.setIfInBounds_toArray, List.set_cons_zero, List.set_cons_succ]
        repeat (first
          | (refine ord_run0_ex rfl (by rfl) ?_
             apply Exists.intro
             refine ⟨fun w0 => ?_, ?_⟩
             · go_simp; rfl
             simp only [Act.put, List.setIfInBounds_toArray, List.set_cons_zero, List.set_cons_succ]))
        have B2 := B1.drew.below L2
        refine ord_do rfl ?_
        refine wpList_store_node rfl 61 _ _ rfl w.heap.size k _ (.slice none 0 0) liar 0 newN 70 (by first | rfl | simp) rfl hlt B2 hiN (one_cellN _ rfl) ?_
        rintro w3 B3 G3 hs3
        refine ⟨fun _ => trivial, ?_⟩
        show wpOrd _ _ _ _ _ [] _ _ _
        unfold wpOrd
        go_wp2
        go_roundw
        case measure => simp [intOf]; omega
        case rel =>
          have e : (fun i => if i = k then newN else if i < k then newN else zN) = fun i => if i < k + 1 then newN else zN := by
            funext i
            by_cases c1 : i = k
            · rw [if_pos c1, if_pos (by omega)]
            · rw [if_neg c1]
              by_cases c2 : i < k
              · rw [if_pos c2, if_pos (by omega)]
              · rw [if_neg c2, if_neg (by omega)]
          rw [e] at B3
          exact ⟨k + 1, by omega, by go_num, B3, bel_seq (bel_trans (below_drew' hB) L2) (below_of_grown G3 (Nat.le_refl _) (by have := L2.size; have : w1.drew.heap.size = w1.heap.size := rfl; omega))⟩
      · go_wp2
        go_ret2
        refine ⟨rfl, ⟨?_, fun i hi => World.ownsRow_nil _ _ _ _, World.ownsRow_nil _ _ _ _⟩, hB⟩
        have e : ccells (fun i => if i < k then newN else zN) (.slice none 0 0) liar 0 = ccells (fun i => ((newC liar).nd i).ni (.slice none 0 0)) (.slice none 0 0) liar 0 := ccells_congr (fun i hi => by
          rw [if_pos (by omega)]
          exact newN_cells.symm)
        rw [e] at B1
        exact B1

/-! ### Node, Net -/
set_option maxRecDepth 100000 in
set_option maxHeartbeats 4000000 in
theorem node_any {w : World} {g : Nat} {c : Cw} {q : Nat → Value} {nt : Value} (H : CwAt w g 70 c q nt) (i : Nat) (hi : i < 4) (hl : (c.nd i).queue.length ≤ 6) :
    Calls Try.prog 18 #[.pointer (some ⟨g, 0, none⟩), .int .i64 (i : Int)] w fun e w' => ∃ q', e = .returned (.agg ((c.nd i).ni q').cells) ∧ w'.ownsRow w.heap.size 3 1 q' (c.nd i).queue.length ((c.nd i).queue.map (Value.int .i64)) ∧ Below w.heap.size w w' := by
  have hz := run_zeroN
  have hwin : win (i : Int) 0 3 = true := win_iff.2 ⟨by omega, by omega⟩
  have hiI : (i : Int) < 4 := by omega
  have hiN := infoN ((c.nd i).ni (q i))
  have Z : Blk (w.alloc (.cells zN.cells 61)) w.heap.size zN.cells 61 := Blk.new w _ _
  have L0 : Below w.heap.size w (w.alloc (.cells zN.cells 61)) := by go_grown
  have H0 := H.keep L0
  clear H
  go_enter Try.func18, Try.ntmps18
  go_upto_region 1 with fail
  generalize (w.alloc (.cells zN.cells 61)) = w0 at Z L0 H0 ⊢
  have hr := H0.node i hi
  have hq := H0.ints i hi
  have hone := one_cellN ((c.nd i).ni (q i)) (own_one (H0.que i hi))
  have N1 : Blk (w0.alloc (.cells zN.cells 61)) w0.heap.size zN.cells 61 := Blk.new w0 _ _
  have La : Below w0.heap.size w0 (w0.alloc (.cells zN.cells 61)) := by go_grown
  have hzl := Z.lt
  go_wp2_with (first
    | (go_at_call 30; refine (bnode_any _ _).mono ?_; rw [hwin]; rintro e w' ⟨rfl, hw'⟩; obtain rfl := hw'.symm)
    | (refine wpList_load_part (by rfl) 61 _ rfl g (i * 282) (by first | rfl | simp) ((c.nd i).ni (q i)).cells _ hr Try.underlying61 rfl hiN ?_)
    | (refine wpList_store_blk rfl 61 _ _ rfl w0.heap.size zN.cells ((c.nd i).ni (q i)).cells 61 rfl rfl N1 (by rw [ncells_size, ncells_size]) hiN hone ?_; rintro w1 B1 K1; have L1 := K1.bel _ _ (Nat.le_refl _) La; have c1 := B1.cell 281; rw [ncells_q] at c1; have Z1 := Z.below L1; have hq1 := hq.keep L1)
    | (go_at_call 33; refine (clone_any (c.nd i).queue (q i) _ hq1 (by omega)).mono ?_; rintro e w2 ⟨q', rfl, hown, L2⟩; obtain ⟨qa, qc, hqv⟩ := own_shape hown; subst hqv; have B2 := B1.below L2; have c2 := B2.cell 281; rw [ncells_q] at c2; have f2 := B2.free 281; have B3 := B2.setCell 281 (.slice qa (c.nd i).queue.length qc); rw [set_q] at B3; have Z3 := (Z1.below L2).setCell_other ⟨w0.heap.size, 281, none⟩ (.slice qa (c.nd i).queue.length qc) (by show w.heap.size ≠ w0.heap.size; omega); have hi3 := infoN ((c.nd i).ni (.slice qa (c.nd i).queue.length qc)); have ho3 := one_cellN ((c.nd i).ni (.slice qa (c.nd i).queue.length qc)) rfl)
    | (refine wpList_load_part (by rfl) 61 _ rfl w0.heap.size 0 rfl ((c.nd i).ni (.slice qa (c.nd i).queue.length qc)).cells _ B3.range Try.underlying61 rfl hi3 ?_)
    | (refine wpList_store_blk rfl 61 _ _ rfl w.heap.size zN.cells ((c.nd i).ni (.slice qa (c.nd i).queue.length qc)).cells 61 rfl rfl Z3 (by rw [ncells_size, ncells_size]) hi3 ho3 ?_; rintro w4 B4 K4))
  refine bodyPost_ret (result_node rfl _ _ w.heap.size _ rfl B4) rfl ⟨_, rfl, ?_, ?_⟩
  · have hb := L1.size
    have h3 := own_grown hown (grown_setCell w2 w0.heap.size 281 (.slice qa (c.nd i).queue.length qc)) (by have := B1.lt; omega)
    exact own_mono (own_kept h3 K4 (by omega)) (by omega)
  · exact K4.bel _ _ (Nat.le_refl _) ((bel_trans (bel_trans L0 L1) L2).setCell (by show w.heap.size ≤ w0.heap.size; omega) _)

set_option maxRecDepth 100000 in
set_option maxHeartbeats 2000000 in
theorem node_zero (g : Option Addr) (i : Int) (h : g = none ∨ win i 0 3 = false) (w : World) :
    Calls Try.prog 18 #[.pointer g, .int .i64 i] w fun e w' => e = .returned (.agg zN.cells) ∧ Below w.heap.size w w' := by
  have hz := run_zeroN
  have hiN := infoN zN
  have Z : Blk (w.alloc (.cells zN.cells 61)) w.heap.size zN.cells 61 := Blk.new w _ _
  have L0 : Below w.heap.size w (w.alloc (.cells zN.cells 61)) := by go_grown
  have hb : ∀ W, Sem.run Try.prog (Instr.build 61 #[]) W = .ok (.agg zN.cells) W := fun W => by show _ = _; kernel_rfl
  cases g with
  | none =>
    clear h
    go_enter Try.func18, Try.ntmps18
    go_upto_region 1 with fail
    generalize (w.alloc (.cells zN.cells 61)) = w0 at Z L0 ⊢
    go_wp2_with (first
      | (refine wpList_build_eq rfl 61 _ rfl zN.cells (by simp only [List.map_toArray, List.map_nil]; exact hb _) ?_; simp only [Act.put, List.setIfInBounds_toArray, List.set_cons_zero, List.set_cons_succ])
      | (refine wpList_store_blk rfl 61 _ _ rfl w.heap.size zN.cells zN.cells 61 rfl rfl Z rfl hiN (one_cellN _ rfl) ?_; rintro w4 B4 K4))
    exact bodyPost_ret (result_node rfl _ _ w.heap.size _ rfl B4) rfl ⟨rfl, K4.bel _ _ (Nat.le_refl _) L0⟩
  | some a =>
    have hw : win i 0 3 = false := h.resolve_left (by simp)
    clear h
    go_enter Try.func18, Try.ntmps18
    go_upto_region 1 with fail
    generalize (w.alloc (.cells zN.cells 61)) = w0 at Z L0 ⊢
    go_wp2_with (first
      | (go_at_call 30; refine (bnode_any _ _).mono ?_; rw [hw]; rintro e w' ⟨rfl, hw'⟩; obtain rfl := hw'.symm)
      | (refine wpList_build_eq rfl 61 _ rfl zN.cells (by simp only [List.map_toArray, List.map_nil]; exact hb _) ?_; simp only [Act.put, List.setIfInBounds_toArray, List.set_cons_zero, List.set_cons_succ])
      | (refine wpList_store_blk rfl 61 _ _ rfl w.heap.size zN.cells zN.cells 61 rfl rfl Z rfl hiN (one_cellN _ rfl) ?_; rintro w4 B4 K4))
    exact bodyPost_ret (result_node rfl _ _ w.heap.size _ rfl B4) rfl ⟨rfl, K4.bel _ _ (Nat.le_refl _) L0⟩

set_option maxRecDepth 100000 in
set_option maxHeartbeats 2000000 in
theorem net_any {w : World} {g : Nat} {c : Cw} {q : Nat → Value} {nt : Value} (H : CwAt w g 70 c q nt) (hl : c.net.length ≤ 2000) :
    Calls Try.prog 17 #[.pointer (some ⟨g, 0, none⟩)] w fun e w' => ∃ nt', e = .returned nt' ∧ w'.ownsRow w.heap.size 49 7 nt' c.net.length (lesCells c.net) ∧ Below w.heap.size w w' := by
  have c0 := H.slice
  have hcl := cloneL_any c.net nt 0 w H.net hl
  go_enter Try.func17, Try.ntmps17
  go_wp2_with (first
    | (go_at_call 32; refine hcl.mono ?_; clear hcl; rintro e w2 ⟨nt', rfl, hown, L2⟩))
  go_ret
  exact ⟨nt', rfl, hown, L2⟩
set_option maxHeartbeats 2000000 in
theorem net_zero (w : World) : Calls Try.prog 17 #[.pointer none] w fun e w' => e = .returned (.slice none 0 0) ∧ w' = w := by
  go_enter Try.func17, Try.ntmps17
  go_wp2
  go_ret
  exact ⟨rfl, rfl⟩
end Go.Proofs.Ytmmgaonlmpajbac
