/-
  The landed package crowd: read.
  The landed package crowd: New, Node, Net.
  The landed package crowd: Do.
  The landed package crowd: Do, of every act; what it comes to in plain words; a crowd of good nodes stays one.
-/
import Derived.Test.YtmmgaonlmpajbacGreatCDo
namespace Go.Proofs.YtmmgaonlmpajbacGreat
open Go.RowKit

/-- A row of the sixteen numbers is stored over: the world behind is a letter. -/
theorem lcells_set (l : Nat → Nat → Int) (i : Nat) (hi : i < 4) (f : Nat → Int) {W : World} {b : Nat} {t : TypeId} (B : Blk W b (lcells l) t) : Blk (W.setCells b (i * 4) (four f).toList) b (lcells fun k h => if k = i then f h else l k h) t := by
  refine B.setMid _ _ (by rw [lcells_size]; show i * 4 + 4 ≤ 16; omega) (fun j => ?_)
  show _ = if i * 4 ≤ j ∧ j < i * 4 + 4 then _ else _
  by_cases hj : j < 16
  · have e : j = j / 4 * 4 + j % 4 := by omega
    by_cases c : i * 4 ≤ j ∧ j < i * 4 + 4
    · rw [if_pos c, Array.getElem?_toList, four_at f _ (by omega)]
      rw [e, lcells_at _ _ _ (by omega) (by omega), if_pos (by omega)]
      rw [show j / 4 * 4 + j % 4 - i * 4 = j % 4 by omega]
    · rw [if_neg c, e, lcells_at _ _ _ (by omega) (by omega), lcells_at _ _ _ (by omega) (by omega), if_neg (by omega)]
  · rw [if_neg (by omega), Array.getElem?_eq_none (by rw [lcells_size]; omega), Array.getElem?_eq_none (by rw [lcells_size]; omega)]
theorem wpList_store_row {P : Program} {ops : Array Oper} {rest : List Oper} {op : Oper} {a : Act} {w : World} {Q : Exit → Act → World → Prop} (hgd : op.guard = none) (ty : TypeId) (x y : Operand) (ho : op.op = .store ty x y)
    (b i : Nat) (l : Nat → Nat → Int) (f : Nat → Int) (t : TypeId) (hx : a.eval x = .pointer (some ⟨b, i * 4, none⟩)) (hy : a.eval y = .agg (four f)) (hi : i < 4) (hB : Blk w b (lcells l) t) (hty : (P.info? ty).map (·.size) = some (four f).size)
    (h : ∀ w', Blk w' b (lcells fun k h => if k = i then f h else l k h) t → Kept b w w' → wpList P ops Q rest (a.put op.dst undef) w') : wpList P ops Q (op :: rest) a w :=
  wpList_store_mid hgd ty x y ho b (i * 4) (four f) hx hy (hB.there_mid _ _ (by rw [lcells_size]; show i * 4 + 4 ≤ 16; omega)) hty (four_one f) (h _ (lcells_set l i hi f hB) (kept_setCells b _ _ w))
theorem lcells_congr {l m : Nat → Nat → Int} (h : ∀ i k, i < 4 → k < 4 → l i k = m i k) : lcells l = lcells m := by
  apply Array.ext_getElem?
  intro j
  by_cases hj : j < 16
  · have e : j = j / 4 * 4 + j % 4 := by omega
    rw [e, lcells_at _ _ _ (by omega) (by omega), lcells_at _ _ _ (by omega) (by omega), h _ _ (by omega) (by omega)]
  · rw [Array.getElem?_eq_none (by rw [lcells_size]; omega), Array.getElem?_eq_none (by rw [lcells_size]; omega)]

/-- What is settled at a node of the crowd. -/
theorem settled_range {W : World} {g : Nat} {n : Nat → NI} {nt : Value} {liar acts : Int} {t : TypeId} (B : Blk W g (ccells n nt liar acts) t) (i : Nat) (hi : i < 4) : W.rangeAt g (i * 282 + 277) (four (n i).settled).toList := by
  intro j u hu
  have hj : j < 4 := by
    by_cases hlt : j < 4
    · exact hlt
    · rw [List.getElem?_eq_none (by show (four (n i).settled).toList.length ≤ j; simp [four]; omega)] at hu; cases hu
  rw [B.cell, show i * 282 + 277 + j = i * 282 + (277 + j) by omega, ccells_node _ _ _ _ i (277 + j) hi (by omega)]
  rw [Array.getElem?_toList, four_at _ j hj] at hu
  have e : ncellAt (n i) (277 + j) = .int .i64 ((n i).settled j) := by
    unfold ncellAt
    rw [if_neg (by omega), if_neg (by omega), if_neg (by omega), if_pos (by omega), show 277 + j - 277 = j by omega]
  rw [e]; exact hu

/-- What a client is told. -/
def toldC (c : Cw) (lies : Bool) (tell : Nat → Int) (i h : Nat) : Int := if lies = true ∧ c.liar = (i : Int) then tell h else (c.nd i).settled h

theorem build_read (W : World) (f : Nat → Int) : Sem.run Tryz.prog (Instr.build 33 #[(2, .agg (four f))]) W = .ok (.agg (rcells 0 0 f)) W := by show _ = _; kernel_rfl

set_option maxRecDepth 100000 in
set_option maxHeartbeats 4000000 in
theorem read_any {w : World} {g : Nat} {c : Cw} {q : Nat → Value} {nt : Value} (G : CG c) (H : CwAt w g 62 c q nt) (lies : Bool) (tell : Nat → Int) :
    Calls Tryz.prog 23 #[.pointer (some ⟨g, 0, none⟩), .bool lies, .agg (four tell)] w fun e w' => e = .returned (.agg (rcells 0 0 (takeV (toldC c lies tell)))) ∧ Below w.heap.size w w' := by
  have hi := info_rep 0 0 (takeV (toldC c lies tell))
  have ho := one_rep 0 0 (takeV (toldC c lies tell))
  have hi4 : ∀ f : Nat → Int, (Tryz.prog.info? 31).map (·.size) = some (four f).size := fun f => by show _ = some 4; kernel_rfl
  have hz : (lcells fun _ _ => 0) = #[.int .i64 0, .int .i64 0, .int .i64 0, .int .i64 0, .int .i64 0, .int .i64 0, .int .i64 0, .int .i64 0, .int .i64 0, .int .i64 0, .int .i64 0, .int .i64 0, .int .i64 0, .int .i64 0, .int .i64 0, .int .i64 0] := by kernel_rfl
  have E0 : Blk (((w.alloc (.cells (four tell) 31)).alloc (.cells zR 33)).alloc (.cells #[.int .i64 0, .int .i64 0, .int .i64 0, .int .i64 0, .int .i64 0, .int .i64 0, .int .i64 0, .int .i64 0, .int .i64 0, .int .i64 0, .int .i64 0, .int .i64 0, .int .i64 0, .int .i64 0, .int .i64 0, .int .i64 0] 80)) w.heap.size (four tell) 31 := ((Blk.new w _ _).alloc _).alloc _
  have Z0 : Blk (((w.alloc (.cells (four tell) 31)).alloc (.cells zR 33)).alloc (.cells #[.int .i64 0, .int .i64 0, .int .i64 0, .int .i64 0, .int .i64 0, .int .i64 0, .int .i64 0, .int .i64 0, .int .i64 0, .int .i64 0, .int .i64 0, .int .i64 0, .int .i64 0, .int .i64 0, .int .i64 0, .int .i64 0] 80)) (w.heap.size + 1) zR 33 := (Blk.new1 w _ _ _).alloc _
  have A0 : Blk (((w.alloc (.cells (four tell) 31)).alloc (.cells zR 33)).alloc (.cells #[.int .i64 0, .int .i64 0, .int .i64 0, .int .i64 0, .int .i64 0, .int .i64 0, .int .i64 0, .int .i64 0, .int .i64 0, .int .i64 0, .int .i64 0, .int .i64 0, .int .i64 0, .int .i64 0, .int .i64 0, .int .i64 0] 80)) (w.heap.size + 1 + 1) (lcells fun _ _ => 0) 80 := by rw [hz]; exact Blk.new2 w _ _ _ _
  have L0 : Below w.heap.size w (((w.alloc (.cells (four tell) 31)).alloc (.cells zR 33)).alloc (.cells #[.int .i64 0, .int .i64 0, .int .i64 0, .int .i64 0, .int .i64 0, .int .i64 0, .int .i64 0, .int .i64 0, .int .i64 0, .int .i64 0, .int .i64 0, .int .i64 0, .int .i64 0, .int .i64 0, .int .i64 0, .int .i64 0] 80)) := by go_grown
  have H0 := H.keep L0
  have hgw := H.blk.lt
  have hlr := G.liar
  clear H hz
  go_enter Tryz.func23, Tryz.ntmps23
  go_upto_region 2 with fail
  generalize (((w.alloc (.cells (four tell) 31)).alloc (.cells zR 33)).alloc (.cells #[.int .i64 0, .int .i64 0, .int .i64 0, .int .i64 0, .int .i64 0, .int .i64 0, .int .i64 0, .int .i64 0, .int .i64 0, .int .i64 0, .int .i64 0, .int .i64 0, .int .i64 0, .int .i64 0, .int .i64 0, .int .i64 0] 80)) = w0 at E0 Z0 A0 L0 H0 ⊢
  go_wp2
  go_loopw [9] (fun i W => ∃ k : Nat, k ≤ 4 ∧ i = .int .i64 (k : Int) ∧ CwAt W g 62 c q nt ∧ Blk W w.heap.size (four tell) 31 ∧ Blk W (w.heap.size + 1) zR 33 ∧ Blk W (w.heap.size + 1 + 1) (lcells fun i h => if i < k then (c.nd i).settled h else 0) 80 ∧ Below w.heap.size w W) (fun i _ => 4 - (intOf i).toNat)
  case atStart => exact ⟨0, by omega, rfl, H0, E0, Z0, A0, L0⟩
  case round =>
    clear E0 Z0 A0 L0 H0
    obtain ⟨k, hk, rfl, H1, E1, Z1, A1, hB⟩ := hrel
    by_cases hlt : k < 4
    · have hr := settled_range H1.blk k hlt
      have hkI : (k : Int) < 4 := by omega
      go_wp2_with (first
        | (refine wpList_load_part (by rfl) 31 _ rfl g (k * 282 + 277) (by first | rfl | simp) (four (c.nd k).settled) _ hr Tryz.underlying31 rfl (hi4 _) ?_)
        | (refine wpList_store_row rfl 31 _ _ rfl (w.heap.size + 1 + 1) k _ (c.nd k).settled 80 (by first | rfl | simp) rfl hlt A1 (hi4 _) ?_; rintro w2 A2 K2))
      go_roundw
      case measure => simp [intOf]; omega
      case rel =>
        have e : (lcells fun i h => if i = k then (c.nd k).settled h else if i < k then (c.nd i).settled h else 0) = lcells fun i h => if i < k + 1 then (c.nd i).settled h else 0 := lcells_congr (fun i h _ _ => by
          by_cases c1 : i = k
          · rw [if_pos c1, if_pos (by omega), c1]
          · rw [if_neg c1]
            by_cases c2 : i < k
            · rw [if_pos c2, if_pos (by omega)]
            · rw [if_neg c2, if_neg (by omega)])
        rw [e] at A2
        exact ⟨k + 1, by omega, by go_num, H1.kept K2 A1 (by decide) (by decide) (by decide), K2.blk _ _ _ (by omega) E1, K2.blk _ _ _ (by omega) Z1, A2, K2.bel _ _ (by omega) hB⟩
    · have e : (lcells fun i h => if i < k then (c.nd i).settled h else 0) = lcells fun i h => (c.nd i).settled h := lcells_congr (fun i h _ _ => by rw [if_pos (by omega)])
      rw [e] at A1
      clear e
      have hl16 : ∀ l : Nat → Nat → Int, (Tryz.prog.info? 80).map (·.size) = some (lcells l).size := fun l => by rw [lcells_size]; kernel_rfl
      have e2 := H1.liar
      by_cases hl : lies = true ∧ c.liar ≠ -1
      · obtain ⟨j, hj⟩ : ∃ j : Nat, c.liar = (j : Int) := ⟨c.liar.toNat, by omega⟩
        have hj4 : j < 4 := by omega
        have hjI : (j : Int) < 4 := by omega
        have hne : ((j : Int) != -1) = true := bne_iff_ne.2 (by omega)
        have hl1 := hl.1
        have e3 : Hid ((lcells fun i h => if i = j then tell h else (c.nd i).settled h) = lcells (toldC c lies tell)) := show _ = _ from lcells_congr (fun i h _ _ => by
          unfold toldC
          by_cases ci : i = j
          · rw [if_pos ci, if_pos ⟨hl1, by omega⟩]
          · rw [if_neg ci, if_neg (fun hh => ci (by have := hh.2; omega))])
        have HL : Hid (lies = true) := hl1
        have HJ : Hid (c.liar = (j : Int)) := hj
        rw [hj] at e2
        have hi4t := hi4 tell
        rw [HL.out]
        clear hl hl1 hj hlr
        go_wp2_with fail
        rename World => w1
        refine held_region (fun W => W.cell? ⟨g, 1129, none⟩ = some (.int .i64 (j : Int)) ∧ Blk W w.heap.size (four tell) 31) [] [(0, 0), (1, 0), (2, 0), (3, 1), (4, 1), (5, 0), (6, 2)] (by kernel_rfl) (by kernel_rfl) (by kernel_rfl) rfl (fun _ _ d _ _ h => by cases d <;> exact h) ⟨e2, E1.drew⟩ ?_
        repeat (first
          | (refine ord_run0_ex rfl (by rfl) ?_
             apply Exists.intro
             refine ⟨fun w0 => ?_, ?_⟩
             · go_simp; rfl
             simp only [Act.put, List.setIfInBounds_toArray, List.set_cons_zero, List.set_cons_succ])
          | (refine ord_load rfl (by rfl) 31 _ rfl w.heap.size 0 rfl (four tell) _ (fun W H => H.2.range) Tryz.underlying31 rfl hi4t ?_; simp only [Act.put, List.setIfInBounds_toArray, List.set_cons_zero, List.set_cons_succ])
          | (refine ord_run1_ex rfl (by rfl) ?_
             apply Exists.intro
             refine ⟨fun w0 hC => ?_, ?_⟩
             · have e0 := hC.1; clear hC; go_simp; rfl
             simp only [Act.put, List.setIfInBounds_toArray, List.set_cons_zero, List.set_cons_succ]))
        refine ord_do rfl ?_
        refine wpList_store_row rfl 31 _ _ rfl (w.heap.size + 1 + 1) j _ tell 80 (by first | rfl | simp) rfl hj4 A1.drew hi4t ?_
        rintro w2 A2 K2
        have C2 := H1.drew.kept K2 A1.drew (by decide) (by decide) (by decide)
        have hB2 : Below w.heap.size w w2 := K2.bel _ _ (by omega) (below_drew' hB)
        refine ⟨fun _ => ⟨by rw [C2.liar, HJ.out], K2.blk _ _ _ (by omega) E1.drew⟩, ?_⟩
        have Z2 := K2.blk _ _ _ (by omega) Z1.drew
        rw [e3.out] at A2
        show wpOrd _ _ _ _ _ [] _ _ _
        unfold wpOrd
        rw [← HL.out]
        go_wp2_with (first
          | (refine wpList_load_part (by rfl) 80 _ rfl (w.heap.size + 1 + 1) 0 rfl (lcells (toldC c lies tell)) _ A2.range Tryz.underlying80 rfl (hl16 _) ?_)
          | (go_at_call 45; refine (take_any (toldC c lies tell) _).mono ?_; rintro e w5 ⟨rfl, L5⟩; have Z5 := Z2.below L5)
          | (refine wpList_build_eq rfl 33 _ rfl (rcells 0 0 (takeV (toldC c lies tell))) (by simp only [List.map_toArray, List.map_cons, List.map_nil]; exact build_read _ _) ?_; simp only [Act.put, List.setIfInBounds_toArray, List.set_cons_zero, List.set_cons_succ])
          | (refine wpList_store_blk rfl 33 _ _ rfl (w.heap.size + 1) zR (rcells 0 0 (takeV (toldC c lies tell))) 33 rfl rfl Z5 rfl hi ho ?_; rintro w6 B6 K6))
        exact bodyPost_ret (result_rep rfl _ _ (w.heap.size + 1) _ _ _ rfl B6) rfl ⟨rfl, K6.bel _ _ (by omega) (bel_trans hB2 L5)⟩
      · have e3 : Hid (lcells (fun i h => (c.nd i).settled h) = lcells (toldC c lies tell)) := show _ = _ from lcells_congr (fun i h _ _ => by unfold toldC; rw [if_neg (fun hh => hl ⟨hh.1, by omega⟩)])
        rw [e3.out] at A1
        cases hls : lies
        · rw [hls] at A1 e3 hi ho
          go_wp2_with (first
            | (refine wpList_load_part (by rfl) 80 _ rfl (w.heap.size + 1 + 1) 0 rfl (lcells (toldC c false tell)) _ A1.range Tryz.underlying80 rfl (hl16 _) ?_)
            | (go_at_call 45; refine (take_any (toldC c false tell) _).mono ?_; rintro e w5 ⟨rfl, L5⟩; have Z5 := Z1.below L5)
            | (refine wpList_build_eq rfl 33 _ rfl (rcells 0 0 (takeV (toldC c false tell))) (by simp only [List.map_toArray, List.map_cons, List.map_nil]; exact build_read _ _) ?_; simp only [Act.put, List.setIfInBounds_toArray, List.set_cons_zero, List.set_cons_succ])
            | (refine wpList_store_blk rfl 33 _ _ rfl (w.heap.size + 1) zR (rcells 0 0 (takeV (toldC c false tell))) 33 rfl rfl Z5 rfl hi ho ?_; rintro w6 B6 K6))
          exact bodyPost_ret (result_rep rfl _ _ (w.heap.size + 1) _ _ _ rfl B6) rfl ⟨by rw [hls], K6.bel _ _ (by omega) (bel_trans hB L5)⟩
        · have h1 : (c.liar != -1) = false := by
            have : c.liar = -1 := by
              by_cases h : c.liar = -1
              · exact h
              · exact absurd ⟨hls, h⟩ hl
            simpa using this
          rw [hls] at A1 e3 hi ho
          go_wp2_with (first
            | (refine wpList_load_part (by rfl) 80 _ rfl (w.heap.size + 1 + 1) 0 rfl (lcells (toldC c true tell)) _ A1.range Tryz.underlying80 rfl (hl16 _) ?_)
            | (go_at_call 45; refine (take_any (toldC c true tell) _).mono ?_; rintro e w5 ⟨rfl, L5⟩; have Z5 := Z1.below L5)
            | (refine wpList_build_eq rfl 33 _ rfl (rcells 0 0 (takeV (toldC c true tell))) (by simp only [List.map_toArray, List.map_cons, List.map_nil]; exact build_read _ _) ?_; simp only [Act.put, List.setIfInBounds_toArray, List.set_cons_zero, List.set_cons_succ])
            | (refine wpList_store_blk rfl 33 _ _ rfl (w.heap.size + 1) zR (rcells 0 0 (takeV (toldC c true tell))) 33 rfl rfl Z5 rfl hi ho ?_; rintro w6 B6 K6))
          exact bodyPost_ret (result_rep rfl _ _ (w.heap.size + 1) _ _ _ rfl B6) rfl ⟨by rw [hls], K6.bel _ _ (by omega) (bel_trans hB L5)⟩
end Go.Proofs.YtmmgaonlmpajbacGreat
namespace Go.Proofs.YtmmgaonlmpajbacGreat
open Go.RowKit

/-- The crowd to which nothing was done. -/
def newC (liar : Int) : Cw := ⟨fun _ => newN.nd [], [], liar, 0⟩
theorem newN_beyond : Beyond noSh ⟨newN.nd [], []⟩ := ⟨by show 0 ≤ 4; omega, fun g hg => by show (if g < 4 then _ else noSh) = noSh; rw [if_neg (by omega)]⟩
theorem newN_whole : Whole (newN.nd []) := ⟨(gn_of newN_good).1, newN_beyond⟩
theorem newC_good {liar : Int} (h : -1 ≤ liar ∧ liar ≤ 3) : CG (newC liar) := ⟨fun _ _ => newN_whole, by show 0 ≤ 2000; omega, fun x hx => absurd hx (List.not_mem_nil), by show 0 ≤ 600; omega, h⟩
theorem newN_cells : ((newN.nd []).ni (.slice none 0 0)).cells = newN.cells := cells_nd rfl rfl rfl _

set_option maxHeartbeats 2000000 in
theorem new_bad (liar : Int) (h : ¬ (-1 ≤ liar ∧ liar ≤ 3)) (w : World) : Calls Tryz.prog 4 #[.int .i64 liar] w fun e w' => e = .returned (.tuple #[.pointer none, .int .i64 2]) ∧ w' = w := by
  have h1 : (liar != -1) = true := bne_iff_ne.2 (by omega)
  have h2 : win liar 0 3 = false := by
    cases hw : win liar 0 3
    · rfl
    · have := win_iff.1 hw; omega
  clear h
  go_enter Tryz.func4, Tryz.ntmps4
  go_wp2_with (first | (go_at_call 13; refine (bnode_any _ _).mono ?_; rw [h2]; rintro e w' ⟨rfl, hw'⟩; obtain rfl := hw'.symm))
  go_ret2
  exact ⟨rfl, rfl⟩

/-- The cells of a crowd as it is made. -/
theorem build_crowd (liar : Int) (W : World) : Sem.run Tryz.prog (Instr.build 62 #[(2, .int .i64 liar)]) W = .ok (.agg (ccells (fun _ => zN) (.slice none 0 0) liar 0)) W := by show _ = _; kernel_rfl

theorem ccells_congr {n m : Nat → NI} {nt : Value} {liar acts : Int} (h : ∀ i, i < 4 → (n i).cells = (m i).cells) : ccells n nt liar acts = ccells m nt liar acts := by
  apply Array.ext_getElem?
  intro j
  by_cases hj : j < 1131
  · rw [ccells_at _ _ _ _ j hj, ccells_at _ _ _ _ j hj]
    congr 1
    unfold ccellAt
    by_cases c : j < 1128
    · rw [if_pos c, if_pos c]
      have h1 := h (j / 282) (by omega)
      have h2 := ncells_at (n (j / 282)) (j % 282) (by omega)
      rw [h1, ncells_at (m (j / 282)) (j % 282) (by omega)] at h2
      exact (Option.some.inj h2).symm
    · rw [if_neg c, if_neg c]
  · rw [Array.getElem?_eq_none (by rw [ccells_size]; omega), Array.getElem?_eq_none (by rw [ccells_size]; omega)]

set_option maxRecDepth 100000 in
set_option maxHeartbeats 4000000 in
theorem new_good (liar : Int) (h : -1 ≤ liar ∧ liar ≤ 3) (w : World) : Calls Tryz.prog 4 #[.int .i64 liar] w fun e w' => e = .returned (.tuple #[.pointer (some ⟨w.heap.size, 0, none⟩), .int .i64 0]) ∧ CwAt w' w.heap.size 62 (newC liar) (fun _ => .slice none 0 0) (.slice none 0 0) ∧ Below w.heap.size w w' := by
  have hiN := infoN newN
  by_cases h1 : liar = -1
  · have h1' : (liar != -1) = false := by simpa using h1
    clear h h1
    go_enter Tryz.func4, Tryz.ntmps4
    go_wp2_with (first
      | (refine wpList_build_eq rfl 62 _ rfl (ccells (fun _ => zN) (.slice none 0 0) liar 0) (by simp only [List.map_toArray, List.map_cons, List.map_nil]; exact build_crowd liar _) ?_; simp only [Act.put, List.setIfInBounds_toArray, List.set_cons_zero, List.set_cons_succ]))
    go_loopw [16] (fun i W => ∃ k : Nat, k ≤ 4 ∧ i = .int .i64 (k : Int) ∧ Blk W w.heap.size (ccells (fun i => if i < k then newN else zN) (.slice none 0 0) liar 0) 62 ∧ Below w.heap.size w W) (fun i _ => 4 - (intOf i).toNat)
    case atStart => exact ⟨0, by omega, rfl, Blk.new w _ _, by go_grown⟩
    case round =>
      obtain ⟨k, hk, rfl, B1, hB⟩ := hrel
      by_cases hlt : k < 4
      · have hkI : (k : Int) < 4 := by omega
        have hs := hB.size
        have hB1 := B1.lt
        go_wp2_with fail
        rename World => w1
        refine held_region (fun _ => True) [] [(0, 0), (1, 0), (3, 0), (4, 0), (2, 2), (5, 0), (6, 2)] (by kernel_rfl) (by kernel_rfl) (by kernel_rfl) rfl (fun _ _ d _ _ h => by cases d <;> exact h) trivial ?_
        repeat (first
          | (refine ord_run0_ex rfl (by rfl) ?_
             apply Exists.intro
             refine ⟨fun w0 => ?_, ?_⟩
             · go_simp; rfl
             simp only [Act.put, List.setIfInBounds_toArray, List.set_cons_zero, List.set_cons_succ]))
        refine ord_call_ex rfl (by rfl) ⟨14, #[], by go_simp, (nnew_any _).mono ?_⟩
        rintro e w2 ⟨rfl, L2⟩
        refine ⟨_, rfl, fun _ => trivial, ?_⟩
        simp only [Act.put, List.setIfInBounds_toArray, List.set_cons_zero, List.set_cons_succ]
        repeat (first
          | (refine ord_run0_ex rfl (by rfl) ?_
             apply Exists.intro
             refine ⟨fun w0 => ?_, ?_⟩
             · go_simp; rfl
             simp only [Act.put, List.setIfInBounds_toArray, List.set_cons_zero, List.set_cons_succ]))
        have B2 := B1.drew.below L2
        refine ord_do rfl ?_
        refine wpList_store_node rfl 50 _ _ rfl w.heap.size k _ (.slice none 0 0) liar 0 newN 62 (by first | rfl | simp) rfl hlt B2 hiN (one_cellN _ rfl) ?_
        rintro w3 B3 G3 hs3
        refine ⟨fun _ => trivial, ?_⟩
        show wpOrd _ _ _ _ _ [] _ _ _
        unfold wpOrd
        go_wp2
        go_roundw
        case measure => simp [intOf]; omega
        case rel =>
          have e : (fun i => if i = k then newN else if i < k then newN else zN) = fun i => if i < k + 1 then newN else zN := by
            funext i
            by_cases c1 : i = k
            · rw [if_pos c1, if_pos (by omega)]
            · rw [if_neg c1]
              by_cases c2 : i < k
              · rw [if_pos c2, if_pos (by omega)]
              · rw [if_neg c2, if_neg (by omega)]
          rw [e] at B3
          exact ⟨k + 1, by omega, by go_num, B3, bel_seq (bel_trans (below_drew' hB) L2) (below_of_grown G3 (Nat.le_refl _) (by have := L2.size; have : w1.drew.heap.size = w1.heap.size := rfl; omega))⟩
      · go_wp2
        go_ret2
        refine ⟨rfl, ⟨?_, fun i hi => World.ownsRow_nil _ _ _ _, World.ownsRow_nil _ _ _ _⟩, hB⟩
        have e : ccells (fun i => if i < k then newN else zN) (.slice none 0 0) liar 0 = ccells (fun i => ((newC liar).nd i).ni (.slice none 0 0)) (.slice none 0 0) liar 0 := ccells_congr (fun i hi => by
          rw [if_pos (by omega)]
          exact newN_cells.symm)
        rw [e] at B1
        exact B1
  · have h1' : (liar != -1) = true := bne_iff_ne.2 h1
    have h2 : win liar 0 3 = true := win_iff.2 (by omega)
    clear h h1
    go_enter Tryz.func4, Tryz.ntmps4
    go_wp2_with (first
      | (go_at_call 13; refine (bnode_any _ _).mono ?_; rw [h2]; rintro e w' ⟨rfl, hw'⟩; obtain rfl := hw'.symm)
      | (refine wpList_build_eq rfl 62 _ rfl (ccells (fun _ => zN) (.slice none 0 0) liar 0) (by simp only [List.map_toArray, List.map_cons, List.map_nil]; exact build_crowd liar _) ?_; simp only [Act.put, List.setIfInBounds_toArray, List.set_cons_zero, List.set_cons_succ]))
    go_loopw [16] (fun i W => ∃ k : Nat, k ≤ 4 ∧ i = .int .i64 (k : Int) ∧ Blk W w.heap.size (ccells (fun i => if i < k then newN else zN) (.slice none 0 0) liar 0) 62 ∧ Below w.heap.size w W) (fun i _ => 4 - (intOf i).toNat)
    case atStart => exact ⟨0, by omega, rfl, Blk.new w _ _, by go_grown⟩
    case round =>
      obtain ⟨k, hk, rfl, B1, hB⟩ := hrel
      by_cases hlt : k < 4
      · have hkI : (k : Int) < 4 := by omega
        have hs := hB.size
        have hB1 := B1.lt
        go_wp2_with fail
        rename World => w1
        refine held_region (fun _ => True) [] [(0, 0), (1, 0), (3, 0), (4, 0), (2, 2), (5, 0), (6, 2)] (by kernel_rfl) (by kernel_rfl) (by kernel_rfl) rfl (fun _ _ d _ _ h => by cases d <;> exact h) trivial ?_
        repeat (first
          | (refine ord_run0_ex rfl (by rfl) ?_
             apply Exists.intro
             refine ⟨fun w0 => ?_, ?_⟩
             · go_simp; rfl
             simp only [Act.put, List.setIfInBounds_toArray, List.set_cons_zero, List.set_cons_succ]))
        refine ord_call_ex rfl (by rfl) ⟨14, #[], by go_simp, (nnew_any _).mono ?_⟩
        rintro e w2 ⟨rfl, L2⟩
        refine ⟨_, rfl, fun _ => trivial, ?_⟩
        simp only [Act.put, List.setIfInBounds_toArray, List.set_cons_zero, List.set_cons_succ]
        repeat (first
          | (refine ord_run0_ex rfl (by rfl) ?_
             apply Exists.intro
             refine ⟨fun w0 => ?_, ?_⟩
             · go_simp; rfl
             simp only [Act.put, List.setIfInBounds_toArray, List.set_cons_zero, List.set_cons_succ]))
        have B2 := B1.drew.below L2
        refine ord_do rfl ?_
        refine wpList_store_node rfl 50 _ _ rfl w.heap.size k _ (.slice none 0 0) liar 0 newN 62 (by first | rfl | simp) rfl hlt B2 hiN (one_cellN _ rfl) ?_
        rintro w3 B3 G3 hs3
        refine ⟨fun _ => trivial, ?_⟩
        show wpOrd _ _ _ _ _ [] _ _ _
        unfold wpOrd
        go_wp2
        go_roundw
        case measure => simp [intOf]; omega
        case rel =>
          have e : (fun i => if i = k then newN else if i < k then newN else zN) = fun i => if i < k + 1 then newN else zN := by
            funext i
            by_cases c1 : i = k
            · rw [if_pos c1, if_pos (by omega)]
            · rw [if_neg c1]
              by_cases c2 : i < k
              · rw [if_pos c2, if_pos (by omega)]
              · rw [if_neg c2, if_neg (by omega)]
          rw [e] at B3
          exact ⟨k + 1, by omega, by go_num, B3, bel_seq (bel_trans (below_drew' hB) L2) (below_of_grown G3 (Nat.le_refl _) (by have := L2.size; have : w1.drew.heap.size = w1.heap.size := rfl; omega))⟩
      · go_wp2
        go_ret2
        refine ⟨rfl, ⟨?_, fun i hi => World.ownsRow_nil _ _ _ _, World.ownsRow_nil _ _ _ _⟩, hB⟩
        have e : ccells (fun i => if i < k then newN else zN) (.slice none 0 0) liar 0 = ccells (fun i => ((newC liar).nd i).ni (.slice none 0 0)) (.slice none 0 0) liar 0 := ccells_congr (fun i hi => by
          rw [if_pos (by omega)]
          exact newN_cells.symm)
        rw [e] at B1
        exact B1

/-! ### Node, Net -/
set_option maxRecDepth 100000 in
set_option maxHeartbeats 4000000 in
theorem node_any {w : World} {g : Nat} {c : Cw} {q : Nat → Value} {nt : Value} (H : CwAt w g 62 c q nt) (i : Nat) (hi : i < 4) (hl : (c.nd i).queue.length ≤ 6) :
    Calls Tryz.prog 10 #[.pointer (some ⟨g, 0, none⟩), .int .i64 (i : Int)] w fun e w' => ∃ q', e = .returned (.agg ((c.nd i).ni q').cells) ∧ w'.ownsRow w.heap.size 3 1 q' (c.nd i).queue.length ((c.nd i).queue.map (Value.int .i64)) ∧ Below w.heap.size w w' := by
  have hz := run_zeroN
  have hwin : win (i : Int) 0 3 = true := win_iff.2 ⟨by omega, by omega⟩
  have hiI : (i : Int) < 4 := by omega
  have hiN := infoN ((c.nd i).ni (q i))
  have Z : Blk (w.alloc (.cells zN.cells 50)) w.heap.size zN.cells 50 := Blk.new w _ _
  have L0 : Below w.heap.size w (w.alloc (.cells zN.cells 50)) := by go_grown
  have H0 := H.keep L0
  clear H
  go_enter Tryz.func10, Tryz.ntmps10
  go_upto_region 1 with fail
  generalize (w.alloc (.cells zN.cells 50)) = w0 at Z L0 H0 ⊢
  have hr := H0.node i hi
  have hq := H0.ints i hi
  have hone := one_cellN ((c.nd i).ni (q i)) (own_one (H0.que i hi))
  have N1 : Blk (w0.alloc (.cells zN.cells 50)) w0.heap.size zN.cells 50 := Blk.new w0 _ _
  have La : Below w0.heap.size w0 (w0.alloc (.cells zN.cells 50)) := by go_grown
  have hzl := Z.lt
  go_wp2_with (first
    | (go_at_call 13; refine (bnode_any _ _).mono ?_; rw [hwin]; rintro e w' ⟨rfl, hw'⟩; obtain rfl := hw'.symm)
    | (refine wpList_load_part (by rfl) 50 _ rfl g (i * 282) (by first | rfl | simp) ((c.nd i).ni (q i)).cells _ hr Tryz.underlying50 rfl hiN ?_)
    | (refine wpList_store_blk rfl 50 _ _ rfl w0.heap.size zN.cells ((c.nd i).ni (q i)).cells 50 rfl rfl N1 (by rw [ncells_size, ncells_size]) hiN hone ?_; rintro w1 B1 K1; have L1 := K1.bel _ _ (Nat.le_refl _) La; have c1 := B1.cell 281; rw [ncells_q] at c1; have Z1 := Z.below L1; have hq1 := hq.keep L1)
    | (go_at_call 30; refine (clone_any (c.nd i).queue (q i) _ hq1 (by omega)).mono ?_; rintro e w2 ⟨q', rfl, hown, L2⟩; obtain ⟨qa, qc, hqv⟩ := own_shape hown; subst hqv; have B2 := B1.below L2; have c2 := B2.cell 281; rw [ncells_q] at c2; have f2 := B2.free 281; have B3 := B2.setCell 281 (.slice qa (c.nd i).queue.length qc); rw [set_q] at B3; have Z3 := (Z1.below L2).setCell_other ⟨w0.heap.size, 281, none⟩ (.slice qa (c.nd i).queue.length qc) (by show w.heap.size ≠ w0.heap.size; omega); have hi3 := infoN ((c.nd i).ni (.slice qa (c.nd i).queue.length qc)); have ho3 := one_cellN ((c.nd i).ni (.slice qa (c.nd i).queue.length qc)) rfl)
    | (refine wpList_load_part (by rfl) 50 _ rfl w0.heap.size 0 rfl ((c.nd i).ni (.slice qa (c.nd i).queue.length qc)).cells _ B3.range Tryz.underlying50 rfl hi3 ?_)
    | (refine wpList_store_blk rfl 50 _ _ rfl w.heap.size zN.cells ((c.nd i).ni (.slice qa (c.nd i).queue.length qc)).cells 50 rfl rfl Z3 (by rw [ncells_size, ncells_size]) hi3 ho3 ?_; rintro w4 B4 K4))
  refine bodyPost_ret (result_node rfl _ _ w.heap.size _ rfl B4) rfl ⟨_, rfl, ?_, ?_⟩
  · have hb := L1.size
    have h3 := own_grown hown (grown_setCell w2 w0.heap.size 281 (.slice qa (c.nd i).queue.length qc)) (by have := B1.lt; omega)
    exact own_mono (own_kept h3 K4 (by omega)) (by omega)
  · exact K4.bel _ _ (Nat.le_refl _) ((bel_trans (bel_trans L0 L1) L2).setCell (by show w.heap.size ≤ w0.heap.size; omega) _)

set_option maxRecDepth 100000 in
set_option maxHeartbeats 2000000 in
theorem node_zero (g : Option Addr) (i : Int) (h : g = none ∨ win i 0 3 = false) (w : World) :
    Calls Tryz.prog 10 #[.pointer g, .int .i64 i] w fun e w' => e = .returned (.agg zN.cells) ∧ Below w.heap.size w w' := by
  have hz := run_zeroN
  have hiN := infoN zN
  have Z : Blk (w.alloc (.cells zN.cells 50)) w.heap.size zN.cells 50 := Blk.new w _ _
  have L0 : Below w.heap.size w (w.alloc (.cells zN.cells 50)) := by go_grown
  have hb : ∀ W, Sem.run Tryz.prog (Instr.build 50 #[]) W = .ok (.agg zN.cells) W := fun W => by show _ = _; kernel_rfl
  cases g with
  | none =>
    clear h
    go_enter Tryz.func10, Tryz.ntmps10
    go_upto_region 1 with fail
    generalize (w.alloc (.cells zN.cells 50)) = w0 at Z L0 ⊢
    go_wp2_with (first
      | (refine wpList_build_eq rfl 50 _ rfl zN.cells (by simp only [List.map_toArray, List.map_nil]; exact hb _) ?_; simp only [Act.put, List.setIfInBounds_toArray, List.set_cons_zero, List.set_cons_succ])
      | (refine wpList_store_blk rfl 50 _ _ rfl w.heap.size zN.cells zN.cells 50 rfl rfl Z rfl hiN (one_cellN _ rfl) ?_; rintro w4 B4 K4))
    exact bodyPost_ret (result_node rfl _ _ w.heap.size _ rfl B4) rfl ⟨rfl, K4.bel _ _ (Nat.le_refl _) L0⟩
  | some a =>
    have hw : win i 0 3 = false := h.resolve_left (by simp)
    clear h
    go_enter Tryz.func10, Tryz.ntmps10
    go_upto_region 1 with fail
    generalize (w.alloc (.cells zN.cells 50)) = w0 at Z L0 ⊢
    go_wp2_with (first
      | (go_at_call 13; refine (bnode_any _ _).mono ?_; rw [hw]; rintro e w' ⟨rfl, hw'⟩; obtain rfl := hw'.symm)
      | (refine wpList_build_eq rfl 50 _ rfl zN.cells (by simp only [List.map_toArray, List.map_nil]; exact hb _) ?_; simp only [Act.put, List.setIfInBounds_toArray, List.set_cons_zero, List.set_cons_succ])
      | (refine wpList_store_blk rfl 50 _ _ rfl w.heap.size zN.cells zN.cells 50 rfl rfl Z rfl hiN (one_cellN _ rfl) ?_; rintro w4 B4 K4))
    exact bodyPost_ret (result_node rfl _ _ w.heap.size _ rfl B4) rfl ⟨rfl, K4.bel _ _ (Nat.le_refl _) L0⟩

set_option maxRecDepth 100000 in
set_option maxHeartbeats 2000000 in
theorem net_any {w : World} {g : Nat} {c : Cw} {q : Nat → Value} {nt : Value} (H : CwAt w g 62 c q nt) (hl : c.net.length ≤ 2000) :
    Calls Tryz.prog 12 #[.pointer (some ⟨g, 0, none⟩)] w fun e w' => ∃ nt', e = .returned nt' ∧ w'.ownsRow w.heap.size 79 7 nt' c.net.length (lesCells c.net) ∧ Below w.heap.size w w' := by
  have c0 := H.slice
  have hcl := cloneL_any c.net nt 0 w H.net hl
  go_enter Tryz.func12, Tryz.ntmps12
  go_wp2_with (first
    | (go_at_call 31; refine hcl.mono ?_; clear hcl; rintro e w2 ⟨nt', rfl, hown, L2⟩))
  go_ret
  exact ⟨nt', rfl, hown, L2⟩
set_option maxHeartbeats 2000000 in
theorem net_zero (w : World) : Calls Tryz.prog 12 #[.pointer none] w fun e w' => e = .returned (.slice none 0 0) ∧ w' = w := by
  go_enter Tryz.func12, Tryz.ntmps12
  go_wp2
  go_ret
  exact ⟨rfl, rfl⟩
end Go.Proofs.YtmmgaonlmpajbacGreat
namespace Go.Proofs.YtmmgaonlmpajbacGreat
open Go.RowKit

/-- An act. -/
structure Ac where
  kind : Int
  node : Int
  n : Int
  value : Int
  word : Wd
  tell : Nat → Int
def acArr (a : Ac) : Array Value := #[.int .i64 a.kind, .int .i64 a.node, .int .i64 a.n, .int .i64 a.value, .int .i64 a.word.k, .int .i64 a.word.f, .int .i64 a.word.h, .int .i64 a.word.r, .int .i64 a.word.v, .int .i64 a.word.x, .int .i64 (a.tell 0), .int .i64 (a.tell 1), .int .i64 (a.tell 2), .int .i64 (a.tell 3)]
theorem act_word {W : World} {b : Nat} {a : Ac} {t : TypeId} (B : Blk W b (acArr a) t) : W.rangeAt b 4 (wdArr a.word).toList := by
  intro j u hu
  have hj : j < 6 := by
    by_cases hlt : j < 6
    · exact hlt
    · rw [List.getElem?_eq_none (by show (wdArr a.word).toList.length ≤ j; simp [wdArr]; omega)] at hu; cases hu
  rw [B.cell]
  have : j = 0 ∨ j = 1 ∨ j = 2 ∨ j = 3 ∨ j = 4 ∨ j = 5 := by omega
  rcases this with rfl | rfl | rfl | rfl | rfl | rfl <;> simpa [acArr, wdArr] using hu
theorem act_tell {W : World} {b : Nat} {a : Ac} {t : TypeId} (B : Blk W b (acArr a) t) : W.rangeAt b 10 (four a.tell).toList := by
  intro j u hu
  have hj : j < 4 := by
    by_cases hlt : j < 4
    · exact hlt
    · rw [List.getElem?_eq_none (by show (four a.tell).toList.length ≤ j; simp [four]; omega)] at hu; cases hu
  rw [B.cell]
  have : j = 0 ∨ j = 1 ∨ j = 2 ∨ j = 3 := by omega
  rcases this with rfl | rfl | rfl | rfl <;> simpa [acArr, four] using hu

/-- One act more was done. -/
def Cw.more (c : Cw) : Cw := { c with acts := c.acts + 1 }
theorem CG.more {c : Cw} (G : CG c) (h : c.acts ≠ 600) : CG c.more := ⟨G.nd, G.net, G.dest, by show c.acts + 1 ≤ 600; have := G.acts; omega, G.liar⟩
theorem CwAt.more {W : World} {g : Nat} {t : TypeId} {c : Cw} {q : Nat → Value} {nt : Value} (h : CwAt W g t c q nt) (h1 : 3 ≠ t) (h2 : 79 ≠ t) : CwAt (W.setCell ⟨g, 1130, none⟩ (.int .i64 ((c.acts : Int) + 1))) g t c.more q nt := by
  have B := h.blk.setCell 1130 (.int .i64 ((c.acts : Int) + 1))
  rw [ccells_set_acts] at B
  exact ⟨B, fun i hi => (h.que i hi).kept (grown_setCell W g 1130 _) (Or.inr (own_not h.blk (h.que i hi) h1)), h.net.kept (grown_setCell W g 1130 _) (Or.inr (own_not h.blk h.net h2))⟩

set_option maxRecDepth 100000 in
set_option maxHeartbeats 2000000 in
theorem do_nil (a : Ac) (w : World) : Calls Tryz.prog 7 #[.pointer none, .agg (acArr a)] w fun e w' => e = .returned (.agg (refused 4)) ∧ Below w.heap.size w w' := by
  have hi := info_rep 4 0 fun _ => 0
  have ho := one_rep 4 0 fun _ => 0
  have Z : Blk ((w.alloc (.cells (acArr a) 38)).alloc (.cells zR 33)) (w.heap.size + 1) zR 33 := Blk.new1 w _ _ _
  have L0 : Below w.heap.size w ((w.alloc (.cells (acArr a) 38)).alloc (.cells zR 33)) := by go_grown
  go_enter Tryz.func7, Tryz.ntmps7
  go_upto_region 1 with fail
  generalize ((w.alloc (.cells (acArr a) 38)).alloc (.cells zR 33)) = w0 at Z L0 ⊢
  go_wp2_with (first
    | (go_at_call 16; refine (crefuse_any 4 _).mono ?_; rintro e w2 ⟨rfl, L2⟩; have Z2 := Z.below L2)
    | (refine wpList_store_blk rfl 33 _ _ rfl (w.heap.size + 1) zR (refused 4) 33 rfl rfl Z2 rfl hi ho ?_; rintro w3 B3 K3))
  exact bodyPost_ret (result_rep rfl _ _ (w.heap.size + 1) _ _ _ rfl B3) rfl ⟨rfl, K3.bel _ _ (by omega) (bel_trans L0 L2)⟩

set_option maxRecDepth 100000 in
set_option maxHeartbeats 2000000 in
theorem do_full {w : World} {g : Nat} {c : Cw} {q : Nat → Value} {nt : Value} (H : CwAt w g 62 c q nt) (a : Ac) (h6 : c.acts = 600) :
    Calls Tryz.prog 7 #[.pointer (some ⟨g, 0, none⟩), .agg (acArr a)] w fun e w' => e = .returned (.agg (refused 5)) ∧ Below w.heap.size w w' := by
  have hi := info_rep 5 0 fun _ => 0
  have ho := one_rep 5 0 fun _ => 0
  have Z : Blk ((w.alloc (.cells (acArr a) 38)).alloc (.cells zR 33)) (w.heap.size + 1) zR 33 := Blk.new1 w _ _ _
  have L0 : Below w.heap.size w ((w.alloc (.cells (acArr a) 38)).alloc (.cells zR 33)) := by go_grown
  have H0 := H.keep L0
  clear H
  go_enter Tryz.func7, Tryz.ntmps7
  go_upto_region 1 with fail
  generalize ((w.alloc (.cells (acArr a) 38)).alloc (.cells zR 33)) = w0 at Z L0 H0 ⊢
  have c0 := H0.acts
  rw [h6] at c0
  replace c0 : w0.cell? ⟨g, 1130, none⟩ = some (.int .i64 600) := c0
  clear h6 H0
  go_wp2_with (first
    | (go_at_call 16; refine (crefuse_any 5 _).mono ?_; rintro e w2 ⟨rfl, L2⟩; have Z2 := Z.below L2)
    | (refine wpList_store_blk rfl 33 _ _ rfl (w.heap.size + 1) zR (refused 5) 33 rfl rfl Z2 rfl hi ho ?_; rintro w3 B3 K3))
  exact bodyPost_ret (result_rep rfl _ _ (w.heap.size + 1) _ _ _ rfl B3) rfl ⟨rfl, K3.bel _ _ (by omega) (bel_trans L0 L2)⟩

set_option maxRecDepth 100000 in
set_option maxHeartbeats 4000000 in
theorem do_deliver {w : World} {g : Nat} {c : Cw} {q : Nat → Value} {nt : Value} (H : CwAt w g 62 c q nt) (a : Ac) (h6 : c.acts < 600) (hk : a.kind = 2) (code nn : Int) (f : Nat → Int) (c' : Cw)
    (HT0 : ∀ W q nt, CwAt W g 62 c.more q nt → Calls Tryz.prog 19 #[.pointer (some ⟨g, 0, none⟩), .int .i64 a.n] W (Did W g nt c' (rcells code nn f))) :
    Calls Tryz.prog 7 #[.pointer (some ⟨g, 0, none⟩), .agg (acArr a)] w (Did w g nt c' (rcells code nn f)) := by
  have hi := info_rep code nn f
  have ho := one_rep code nn f
  have HT : Hid _ := HT0
  clear HT0
  have k1 : (a.kind == 1) = false := by rw [hk]; rfl
  have k2 : (a.kind == 2) = true := by rw [hk]; rfl
  clear hk
  have A : Blk ((w.alloc (.cells (acArr a) 38)).alloc (.cells zR 33)) w.heap.size (acArr a) 38 := (Blk.new w _ _).alloc _
  have Z : Blk ((w.alloc (.cells (acArr a) 38)).alloc (.cells zR 33)) (w.heap.size + 1) zR 33 := Blk.new1 w _ _ _
  have L0 : Below w.heap.size w ((w.alloc (.cells (acArr a) 38)).alloc (.cells zR 33)) := by go_grown
  have H0 := H.keep L0
  have hgw := H.blk.lt
  have hacts : ((c.acts : Int) == 600) = false := beq_eq_false_iff_ne.2 (by omega)
  have hactI : (c.acts : Int) < 600 := by omega
  clear H
  go_enter Tryz.func7, Tryz.ntmps7
  go_upto_region 1 with fail
  generalize ((w.alloc (.cells (acArr a) 38)).alloc (.cells zR 33)) = w0 at A Z L0 H0 ⊢
  have c0 := H0.acts
  have f0 := H0.blk.free 1130
  go_upto_region 6 with fail
  obtain ⟨w1, hw1⟩ : ∃ w1, w1 = w0.setCell ⟨g, 1130, none⟩ (.int .i64 ((c.acts : Int) + 1)) := ⟨_, rfl⟩
  have H1 : CwAt w1 g 62 c.more q nt := by rw [hw1]; exact H0.more (by decide) (by decide)
  have T1 : Touch g nt w w1 := by rw [hw1]; exact (Touch.below L0).trans (Touch.grownB (grown_setCell w0 g 1130 _)) (Next.refl _ _)
  have A1 : Blk w1 w.heap.size (acArr a) 38 := by rw [hw1]; exact A.setCell_other _ _ (by show w.heap.size ≠ g; omega)
  have Z1 : Blk w1 (w.heap.size + 1) zR 33 := by rw [hw1]; exact Z.setCell_other _ _ (by show w.heap.size + 1 ≠ g; omega)
  rw [← hw1]
  clear hw1 c0 f0 H0 A Z L0 hacts hactI h6
  have a0 := A1.cell 0
  have a1 := A1.cell 1
  have a2 := A1.cell 2
  have a3 := A1.cell 3
  rw [show (acArr a)[0]? = some (.int .i64 a.kind) from rfl] at a0
  rw [show (acArr a)[1]? = some (.int .i64 a.node) from rfl] at a1
  rw [show (acArr a)[2]? = some (.int .i64 a.n) from rfl] at a2
  rw [show (acArr a)[3]? = some (.int .i64 a.value) from rfl] at a3
  go_wp2_with (first
    | (go_at_call 19; refine (HT.out w1 q nt H1).mono ?_; rintro e w4 ⟨rfl, q', nt', C4, T4, N4⟩; have Z4 := T4.blk H1.blk H1.net Z1 (by decide) (by decide))
    | (refine wpList_store_blk rfl 33 _ _ rfl (w.heap.size + 1) zR (rcells code nn f) 33 rfl rfl Z4 rfl hi ho ?_; rintro w5 B5 K5))
  exact bodyPost_ret (result_rep rfl _ _ (w.heap.size + 1) _ _ _ rfl B5) rfl ⟨rfl, q', nt', C4.kept K5 Z4 (by decide) (by decide) (by decide), (T1.trans T4 (Next.refl _ _)).more (K5.bel _ _ (Nat.le_refl _) (Below.refl _ _)) (by omega), (Next.refl _ w).trans N4 T1.size⟩

set_option maxRecDepth 100000 in
set_option maxHeartbeats 4000000 in
theorem do_drop {w : World} {g : Nat} {c : Cw} {q : Nat → Value} {nt : Value} (H : CwAt w g 62 c q nt) (a : Ac) (h6 : c.acts < 600) (hk : a.kind = 3) (code nn : Int) (f : Nat → Int) (c' : Cw)
    (HT0 : ∀ W q nt, CwAt W g 62 c.more q nt → Calls Tryz.prog 20 #[.pointer (some ⟨g, 0, none⟩), .int .i64 a.n] W (Did W g nt c' (rcells code nn f))) :
    Calls Tryz.prog 7 #[.pointer (some ⟨g, 0, none⟩), .agg (acArr a)] w (Did w g nt c' (rcells code nn f)) := by
  have hi := info_rep code nn f
  have ho := one_rep code nn f
  have HT : Hid _ := HT0
  clear HT0
  have k1 : (a.kind == 1) = false := by rw [hk]; rfl
  have k2 : (a.kind == 2) = false := by rw [hk]; rfl
  have k3 : (a.kind == 3) = true := by rw [hk]; rfl
  clear hk
  have A : Blk ((w.alloc (.cells (acArr a) 38)).alloc (.cells zR 33)) w.heap.size (acArr a) 38 := (Blk.new w _ _).alloc _
  have Z : Blk ((w.alloc (.cells (acArr a) 38)).alloc (.cells zR 33)) (w.heap.size + 1) zR 33 := Blk.new1 w _ _ _
  have L0 : Below w.heap.size w ((w.alloc (.cells (acArr a) 38)).alloc (.cells zR 33)) := by go_grown
  have H0 := H.keep L0
  have hgw := H.blk.lt
  have hacts : ((c.acts : Int) == 600) = false := beq_eq_false_iff_ne.2 (by omega)
  have hactI : (c.acts : Int) < 600 := by omega
  clear H
  go_enter Tryz.func7, Tryz.ntmps7
  go_upto_region 1 with fail
  generalize ((w.alloc (.cells (acArr a) 38)).alloc (.cells zR 33)) = w0 at A Z L0 H0 ⊢
  have c0 := H0.acts
  have f0 := H0.blk.free 1130
  go_upto_region 6 with fail
  obtain ⟨w1, hw1⟩ : ∃ w1, w1 = w0.setCell ⟨g, 1130, none⟩ (.int .i64 ((c.acts : Int) + 1)) := ⟨_, rfl⟩
  have H1 : CwAt w1 g 62 c.more q nt := by rw [hw1]; exact H0.more (by decide) (by decide)
  have T1 : Touch g nt w w1 := by rw [hw1]; exact (Touch.below L0).trans (Touch.grownB (grown_setCell w0 g 1130 _)) (Next.refl _ _)
  have A1 : Blk w1 w.heap.size (acArr a) 38 := by rw [hw1]; exact A.setCell_other _ _ (by show w.heap.size ≠ g; omega)
  have Z1 : Blk w1 (w.heap.size + 1) zR 33 := by rw [hw1]; exact Z.setCell_other _ _ (by show w.heap.size + 1 ≠ g; omega)
  rw [← hw1]
  clear hw1 c0 f0 H0 A Z L0 hacts hactI h6
  have a0 := A1.cell 0
  have a1 := A1.cell 1
  have a2 := A1.cell 2
  have a3 := A1.cell 3
  rw [show (acArr a)[0]? = some (.int .i64 a.kind) from rfl] at a0
  rw [show (acArr a)[1]? = some (.int .i64 a.node) from rfl] at a1
  rw [show (acArr a)[2]? = some (.int .i64 a.n) from rfl] at a2
  rw [show (acArr a)[3]? = some (.int .i64 a.value) from rfl] at a3
  go_wp2_with (first
    | (go_at_call 20; refine (HT.out w1 q nt H1).mono ?_; rintro e w4 ⟨rfl, q', nt', C4, T4, N4⟩; have Z4 := T4.blk H1.blk H1.net Z1 (by decide) (by decide))
    | (refine wpList_store_blk rfl 33 _ _ rfl (w.heap.size + 1) zR (rcells code nn f) 33 rfl rfl Z4 rfl hi ho ?_; rintro w5 B5 K5))
  exact bodyPost_ret (result_rep rfl _ _ (w.heap.size + 1) _ _ _ rfl B5) rfl ⟨rfl, q', nt', C4.kept K5 Z4 (by decide) (by decide) (by decide), (T1.trans T4 (Next.refl _ _)).more (K5.bel _ _ (Nat.le_refl _) (Below.refl _ _)) (by omega), (Next.refl _ w).trans N4 T1.size⟩

set_option maxRecDepth 100000 in
set_option maxHeartbeats 4000000 in
theorem do_time {w : World} {g : Nat} {c : Cw} {q : Nat → Value} {nt : Value} (H : CwAt w g 62 c q nt) (a : Ac) (h6 : c.acts < 600) (hk : a.kind = 4) (code nn : Int) (f : Nat → Int) (c' : Cw)
    (HT0 : ∀ W q nt, CwAt W g 62 c.more q nt → Calls Tryz.prog 17 #[.pointer (some ⟨g, 0, none⟩), .int .i64 a.node, .func (.func 21) #[] #[]] W (Did W g nt c' (rcells code nn f))) :
    Calls Tryz.prog 7 #[.pointer (some ⟨g, 0, none⟩), .agg (acArr a)] w (Did w g nt c' (rcells code nn f)) := by
  have hi := info_rep code nn f
  have ho := one_rep code nn f
  have HT : Hid _ := HT0
  clear HT0
  have k1 : (a.kind == 1) = false := by rw [hk]; rfl
  have k2 : (a.kind == 2) = false := by rw [hk]; rfl
  have k3 : (a.kind == 3) = false := by rw [hk]; rfl
  have k4 : (a.kind == 4) = true := by rw [hk]; rfl
  clear hk
  have A : Blk ((w.alloc (.cells (acArr a) 38)).alloc (.cells zR 33)) w.heap.size (acArr a) 38 := (Blk.new w _ _).alloc _
  have Z : Blk ((w.alloc (.cells (acArr a) 38)).alloc (.cells zR 33)) (w.heap.size + 1) zR 33 := Blk.new1 w _ _ _
  have L0 : Below w.heap.size w ((w.alloc (.cells (acArr a) 38)).alloc (.cells zR 33)) := by go_grown
  have H0 := H.keep L0
  have hgw := H.blk.lt
  have hacts : ((c.acts : Int) == 600) = false := beq_eq_false_iff_ne.2 (by omega)
  have hactI : (c.acts : Int) < 600 := by omega
  clear H
  go_enter Tryz.func7, Tryz.ntmps7
  go_upto_region 1 with fail
  generalize ((w.alloc (.cells (acArr a) 38)).alloc (.cells zR 33)) = w0 at A Z L0 H0 ⊢
  have c0 := H0.acts
  have f0 := H0.blk.free 1130
  go_upto_region 6 with fail
  obtain ⟨w1, hw1⟩ : ∃ w1, w1 = w0.setCell ⟨g, 1130, none⟩ (.int .i64 ((c.acts : Int) + 1)) := ⟨_, rfl⟩
  have H1 : CwAt w1 g 62 c.more q nt := by rw [hw1]; exact H0.more (by decide) (by decide)
  have T1 : Touch g nt w w1 := by rw [hw1]; exact (Touch.below L0).trans (Touch.grownB (grown_setCell w0 g 1130 _)) (Next.refl _ _)
  have A1 : Blk w1 w.heap.size (acArr a) 38 := by rw [hw1]; exact A.setCell_other _ _ (by show w.heap.size ≠ g; omega)
  have Z1 : Blk w1 (w.heap.size + 1) zR 33 := by rw [hw1]; exact Z.setCell_other _ _ (by show w.heap.size + 1 ≠ g; omega)
  rw [← hw1]
  clear hw1 c0 f0 H0 A Z L0 hacts hactI h6
  have a0 := A1.cell 0
  have a1 := A1.cell 1
  have a2 := A1.cell 2
  have a3 := A1.cell 3
  rw [show (acArr a)[0]? = some (.int .i64 a.kind) from rfl] at a0
  rw [show (acArr a)[1]? = some (.int .i64 a.node) from rfl] at a1
  rw [show (acArr a)[2]? = some (.int .i64 a.n) from rfl] at a2
  rw [show (acArr a)[3]? = some (.int .i64 a.value) from rfl] at a3
  go_wp2_with (first
    | (go_at_call 17; refine (HT.out w1 q nt H1).mono ?_; rintro e w4 ⟨rfl, q', nt', C4, T4, N4⟩; have Z4 := T4.blk H1.blk H1.net Z1 (by decide) (by decide))
    | (refine wpList_store_blk rfl 33 _ _ rfl (w.heap.size + 1) zR (rcells code nn f) 33 rfl rfl Z4 rfl hi ho ?_; rintro w5 B5 K5))
  exact bodyPost_ret (result_rep rfl _ _ (w.heap.size + 1) _ _ _ rfl B5) rfl ⟨rfl, q', nt', C4.kept K5 Z4 (by decide) (by decide) (by decide), (T1.trans T4 (Next.refl _ _)).more (K5.bel _ _ (Nat.le_refl _) (Below.refl _ _)) (by omega), (Next.refl _ w).trans N4 T1.size⟩

set_option maxRecDepth 100000 in
set_option maxHeartbeats 4000000 in
theorem do_lie {w : World} {g : Nat} {c : Cw} {q : Nat → Value} {nt : Value} (H : CwAt w g 62 c q nt) (a : Ac) (h6 : c.acts < 600) (hk : a.kind = 5) (code nn : Int) (f : Nat → Int) (c' : Cw)
    (HT0 : ∀ W q nt, CwAt W g 62 c.more q nt → Calls Tryz.prog 22 #[.pointer (some ⟨g, 0, none⟩), .int .i64 a.node, .agg (wdArr a.word)] W (Did W g nt c' (rcells code nn f))) :
    Calls Tryz.prog 7 #[.pointer (some ⟨g, 0, none⟩), .agg (acArr a)] w (Did w g nt c' (rcells code nn f)) := by
  have hi := info_rep code nn f
  have ho := one_rep code nn f
  have HT : Hid _ := HT0
  clear HT0
  have k1 : (a.kind == 1) = false := by rw [hk]; rfl
  have k2 : (a.kind == 2) = false := by rw [hk]; rfl
  have k3 : (a.kind == 3) = false := by rw [hk]; rfl
  have k4 : (a.kind == 4) = false := by rw [hk]; rfl
  have k5 : (a.kind == 5) = true := by rw [hk]; rfl
  clear hk
  have hi6 : (Tryz.prog.info? 36).map (·.size) = some (wdArr a.word).size := by show _ = some 6; kernel_rfl
  have A : Blk ((w.alloc (.cells (acArr a) 38)).alloc (.cells zR 33)) w.heap.size (acArr a) 38 := (Blk.new w _ _).alloc _
  have Z : Blk ((w.alloc (.cells (acArr a) 38)).alloc (.cells zR 33)) (w.heap.size + 1) zR 33 := Blk.new1 w _ _ _
  have L0 : Below w.heap.size w ((w.alloc (.cells (acArr a) 38)).alloc (.cells zR 33)) := by go_grown
  have H0 := H.keep L0
  have hgw := H.blk.lt
  have hacts : ((c.acts : Int) == 600) = false := beq_eq_false_iff_ne.2 (by omega)
  have hactI : (c.acts : Int) < 600 := by omega
  clear H
  go_enter Tryz.func7, Tryz.ntmps7
  go_upto_region 1 with fail
  generalize ((w.alloc (.cells (acArr a) 38)).alloc (.cells zR 33)) = w0 at A Z L0 H0 ⊢
  have c0 := H0.acts
  have f0 := H0.blk.free 1130
  go_upto_region 6 with fail
  obtain ⟨w1, hw1⟩ : ∃ w1, w1 = w0.setCell ⟨g, 1130, none⟩ (.int .i64 ((c.acts : Int) + 1)) := ⟨_, rfl⟩
  have H1 : CwAt w1 g 62 c.more q nt := by rw [hw1]; exact H0.more (by decide) (by decide)
  have T1 : Touch g nt w w1 := by rw [hw1]; exact (Touch.below L0).trans (Touch.grownB (grown_setCell w0 g 1130 _)) (Next.refl _ _)
  have A1 : Blk w1 w.heap.size (acArr a) 38 := by rw [hw1]; exact A.setCell_other _ _ (by show w.heap.size ≠ g; omega)
  have Z1 : Blk w1 (w.heap.size + 1) zR 33 := by rw [hw1]; exact Z.setCell_other _ _ (by show w.heap.size + 1 ≠ g; omega)
  rw [← hw1]
  clear hw1 c0 f0 H0 A Z L0 hacts hactI h6
  have a0 := A1.cell 0
  have a1 := A1.cell 1
  have a2 := A1.cell 2
  have a3 := A1.cell 3
  rw [show (acArr a)[0]? = some (.int .i64 a.kind) from rfl] at a0
  rw [show (acArr a)[1]? = some (.int .i64 a.node) from rfl] at a1
  rw [show (acArr a)[2]? = some (.int .i64 a.n) from rfl] at a2
  rw [show (acArr a)[3]? = some (.int .i64 a.value) from rfl] at a3
  go_wp2_with (first
    | (refine wpList_load_part (by rfl) 36 _ rfl w.heap.size 4 rfl (wdArr a.word) _ (act_word A1) Tryz.underlying36 rfl hi6 ?_)
    | (go_at_call 22; refine (HT.out w1 q nt H1).mono ?_; rintro e w4 ⟨rfl, q', nt', C4, T4, N4⟩; have Z4 := T4.blk H1.blk H1.net Z1 (by decide) (by decide))
    | (refine wpList_store_blk rfl 33 _ _ rfl (w.heap.size + 1) zR (rcells code nn f) 33 rfl rfl Z4 rfl hi ho ?_; rintro w5 B5 K5))
  exact bodyPost_ret (result_rep rfl _ _ (w.heap.size + 1) _ _ _ rfl B5) rfl ⟨rfl, q', nt', C4.kept K5 Z4 (by decide) (by decide) (by decide), (T1.trans T4 (Next.refl _ _)).more (K5.bel _ _ (Nat.le_refl _) (Below.refl _ _)) (by omega), (Next.refl _ w).trans N4 T1.size⟩

set_option maxRecDepth 100000 in
set_option maxHeartbeats 4000000 in
theorem do_read {w : World} {g : Nat} {c : Cw} {q : Nat → Value} {nt : Value} (H : CwAt w g 62 c q nt) (a : Ac) (h6 : c.acts < 600) (hk : a.kind = 6) (code nn : Int) (f : Nat → Int) (c' : Cw)
    (HT0 : ∀ W q nt, CwAt W g 62 c.more q nt → Calls Tryz.prog 23 #[.pointer (some ⟨g, 0, none⟩), .bool (a.n != 0), .agg (four a.tell)] W (Did W g nt c' (rcells code nn f))) :
    Calls Tryz.prog 7 #[.pointer (some ⟨g, 0, none⟩), .agg (acArr a)] w (Did w g nt c' (rcells code nn f)) := by
  have hi := info_rep code nn f
  have ho := one_rep code nn f
  have HT : Hid _ := HT0
  clear HT0
  have k1 : (a.kind == 1) = false := by rw [hk]; rfl
  have k2 : (a.kind == 2) = false := by rw [hk]; rfl
  have k3 : (a.kind == 3) = false := by rw [hk]; rfl
  have k4 : (a.kind == 4) = false := by rw [hk]; rfl
  have k5 : (a.kind == 5) = false := by rw [hk]; rfl
  have k6 : (a.kind == 6) = true := by rw [hk]; rfl
  clear hk
  have hi4 : (Tryz.prog.info? 31).map (·.size) = some (four a.tell).size := by show _ = some 4; kernel_rfl
  have A : Blk ((w.alloc (.cells (acArr a) 38)).alloc (.cells zR 33)) w.heap.size (acArr a) 38 := (Blk.new w _ _).alloc _
  have Z : Blk ((w.alloc (.cells (acArr a) 38)).alloc (.cells zR 33)) (w.heap.size + 1) zR 33 := Blk.new1 w _ _ _
  have L0 : Below w.heap.size w ((w.alloc (.cells (acArr a) 38)).alloc (.cells zR 33)) := by go_grown
  have H0 := H.keep L0
  have hgw := H.blk.lt
  have hacts : ((c.acts : Int) == 600) = false := beq_eq_false_iff_ne.2 (by omega)
  have hactI : (c.acts : Int) < 600 := by omega
  clear H
  go_enter Tryz.func7, Tryz.ntmps7
  go_upto_region 1 with fail
  generalize ((w.alloc (.cells (acArr a) 38)).alloc (.cells zR 33)) = w0 at A Z L0 H0 ⊢
  have c0 := H0.acts
  have f0 := H0.blk.free 1130
  go_upto_region 6 with fail
  obtain ⟨w1, hw1⟩ : ∃ w1, w1 = w0.setCell ⟨g, 1130, none⟩ (.int .i64 ((c.acts : Int) + 1)) := ⟨_, rfl⟩
  have H1 : CwAt w1 g 62 c.more q nt := by rw [hw1]; exact H0.more (by decide) (by decide)
  have T1 : Touch g nt w w1 := by rw [hw1]; exact (Touch.below L0).trans (Touch.grownB (grown_setCell w0 g 1130 _)) (Next.refl _ _)
  have A1 : Blk w1 w.heap.size (acArr a) 38 := by rw [hw1]; exact A.setCell_other _ _ (by show w.heap.size ≠ g; omega)
  have Z1 : Blk w1 (w.heap.size + 1) zR 33 := by rw [hw1]; exact Z.setCell_other _ _ (by show w.heap.size + 1 ≠ g; omega)
  rw [← hw1]
  clear hw1 c0 f0 H0 A Z L0 hacts hactI h6
  have a0 := A1.cell 0
  have a1 := A1.cell 1
  have a2 := A1.cell 2
  have a3 := A1.cell 3
  rw [show (acArr a)[0]? = some (.int .i64 a.kind) from rfl] at a0
  rw [show (acArr a)[1]? = some (.int .i64 a.node) from rfl] at a1
  rw [show (acArr a)[2]? = some (.int .i64 a.n) from rfl] at a2
  rw [show (acArr a)[3]? = some (.int .i64 a.value) from rfl] at a3
  go_wp2_with (first
    | (refine wpList_load_part (by rfl) 31 _ rfl w.heap.size 10 rfl (four a.tell) _ (act_tell A1) Tryz.underlying31 rfl hi4 ?_)
    | (go_at_call 23; refine (HT.out w1 q nt H1).mono ?_; rintro e w4 ⟨rfl, q', nt', C4, T4, N4⟩; have Z4 := T4.blk H1.blk H1.net Z1 (by decide) (by decide))
    | (refine wpList_store_blk rfl 33 _ _ rfl (w.heap.size + 1) zR (rcells code nn f) 33 rfl rfl Z4 rfl hi ho ?_; rintro w5 B5 K5))
  exact bodyPost_ret (result_rep rfl _ _ (w.heap.size + 1) _ _ _ rfl B5) rfl ⟨rfl, q', nt', C4.kept K5 Z4 (by decide) (by decide) (by decide), (T1.trans T4 (Next.refl _ _)).more (K5.bel _ _ (Nat.le_refl _) (Below.refl _ _)) (by omega), (Next.refl _ w).trans N4 T1.size⟩

set_option maxRecDepth 100000 in
set_option maxHeartbeats 4000000 in
theorem do_submit {w : World} {g : Nat} {c : Cw} {q : Nat → Value} {nt : Value} (H : CwAt w g 62 c q nt) (a : Ac) (h6 : c.acts < 600) (hk : a.kind = 1) (code nn : Int) (f : Nat → Int) (c' : Cw)
    (HT0 : ∀ W q nt b, CwAt W g 62 c.more q nt → W.cell? ⟨b, 0, none⟩ = some (.int .i64 a.value) → Calls Tryz.prog 17 #[.pointer (some ⟨g, 0, none⟩), .int .i64 a.node, .func (.func 34) #[] #[.pointer (some ⟨b, 0, none⟩)]] W (Did W g nt c' (rcells code nn f))) :
    Calls Tryz.prog 7 #[.pointer (some ⟨g, 0, none⟩), .agg (acArr a)] w (Did w g nt c' (rcells code nn f)) := by
  have hi := info_rep code nn f
  have ho := one_rep code nn f
  have HT : Hid _ := HT0
  clear HT0
  have k1 : (a.kind == 1) = true := by rw [hk]; rfl
  clear hk
  have A : Blk ((w.alloc (.cells (acArr a) 38)).alloc (.cells zR 33)) w.heap.size (acArr a) 38 := (Blk.new w _ _).alloc _
  have Z : Blk ((w.alloc (.cells (acArr a) 38)).alloc (.cells zR 33)) (w.heap.size + 1) zR 33 := Blk.new1 w _ _ _
  have L0 : Below w.heap.size w ((w.alloc (.cells (acArr a) 38)).alloc (.cells zR 33)) := by go_grown
  have H0 := H.keep L0
  have hgw := H.blk.lt
  have hacts : ((c.acts : Int) == 600) = false := beq_eq_false_iff_ne.2 (by omega)
  have hactI : (c.acts : Int) < 600 := by omega
  clear H
  go_enter Tryz.func7, Tryz.ntmps7
  go_upto_region 1 with fail
  generalize ((w.alloc (.cells (acArr a) 38)).alloc (.cells zR 33)) = w0 at A Z L0 H0 ⊢
  have c0 := H0.acts
  have f0 := H0.blk.free 1130
  go_upto_region 6 with fail
  obtain ⟨w1, hw1⟩ : ∃ w1, w1 = w0.setCell ⟨g, 1130, none⟩ (.int .i64 ((c.acts : Int) + 1)) := ⟨_, rfl⟩
  have H1 : CwAt w1 g 62 c.more q nt := by rw [hw1]; exact H0.more (by decide) (by decide)
  have T1 : Touch g nt w w1 := by rw [hw1]; exact (Touch.below L0).trans (Touch.grownB (grown_setCell w0 g 1130 _)) (Next.refl _ _)
  have A1 : Blk w1 w.heap.size (acArr a) 38 := by rw [hw1]; exact A.setCell_other _ _ (by show w.heap.size ≠ g; omega)
  have Z1 : Blk w1 (w.heap.size + 1) zR 33 := by rw [hw1]; exact Z.setCell_other _ _ (by show w.heap.size + 1 ≠ g; omega)
  rw [← hw1]
  clear hw1 c0 f0 H0 A Z L0 hacts hactI h6
  have a0 := A1.cell 0
  have a1 := A1.cell 1
  have a2 := A1.cell 2
  have a3 := A1.cell 3
  rw [show (acArr a)[0]? = some (.int .i64 a.kind) from rfl] at a0
  rw [show (acArr a)[1]? = some (.int .i64 a.node) from rfl] at a1
  rw [show (acArr a)[2]? = some (.int .i64 a.n) from rfl] at a2
  rw [show (acArr a)[3]? = some (.int .i64 a.value) from rfl] at a3
  go_wp2_with fail
  refine held_region (fun W => W.cell? ⟨w.heap.size, 1, none⟩ = some (.int .i64 a.node) ∧ W.cell? ⟨w.heap.size, 3, none⟩ = some (.int .i64 a.value)) [] [(0, 0), (1, 0), (2, 1), (3, 0), (4, 1), (5, 2), (6, 2), (7, 2)] (by kernel_rfl) (by kernel_rfl) (by kernel_rfl) rfl (fun _ _ d _ _ h => by cases d <;> exact h) ⟨a1, a3⟩ ?_
  repeat (first
    | (refine ord_run0_ex rfl (by rfl) ?_
       apply Exists.intro
       refine ⟨fun w0 => ?_, ?_⟩
       · go_simp; rfl
       simp only [Act.put, List.setIfInBounds_toArray, List.set_cons_zero, List.set_cons_succ])
    | (refine ord_run1_ex rfl (by rfl) ?_
       apply Exists.intro
       refine ⟨fun w0 hC => ?_, ?_⟩
       · obtain ⟨e0, e1⟩ := hC; go_simp; rfl
       simp only [Act.put, List.setIfInBounds_toArray, List.set_cons_zero, List.set_cons_succ]))
  refine ord_call_ex rfl (by rfl) ⟨18, #[.int .i64 a.value], by go_simp, (submits_any a.value _).mono ?_⟩
  rintro e w2 ⟨rfl, hw2⟩
  have Lw : Below w1.heap.size w1 w2 := by rw [hw2]; exact Below.alloc (below_drew' (Below.refl _ w1)) (Nat.le_refl _) _
  have Bw : w2.cell? ⟨w1.drew.heap.size, 0, none⟩ = some (.int .i64 a.value) := by rw [hw2]; exact (Blk.new w1.drew #[.int .i64 a.value] 3).cell 0
  clear hw2
  have A2 := A1.below Lw
  have H2 := H1.keep Lw
  have Z2 := Z1.below Lw
  refine ⟨_, rfl, fun _ => ⟨cell_on a1 Lw, cell_on a3 Lw⟩, ?_⟩
  simp only [Act.put, List.setIfInBounds_toArray, List.set_cons_zero, List.set_cons_succ]
  refine ord_call_ex rfl (by rfl) ⟨17, #[.pointer (some ⟨g, 0, none⟩), .int .i64 a.node, .func (.func 34) #[] #[.pointer (some ⟨w1.drew.heap.size, 0, none⟩)]], by go_simp, (HT.out w2 q nt w1.drew.heap.size H2 Bw).mono ?_⟩
  rintro e w4 ⟨rfl, q', nt', C4, T4, N4⟩
  have A4 := T4.blk H2.blk H2.net A2 (by decide) (by decide)
  have Z4 := T4.blk H2.blk H2.net Z2 (by decide) (by decide)
  have b1 := A4.cell 1
  have b3 := A4.cell 3
  rw [show (acArr a)[1]? = some (.int .i64 a.node) from rfl] at b1
  rw [show (acArr a)[3]? = some (.int .i64 a.value) from rfl] at b3
  refine ⟨_, rfl, fun _ => ⟨b1, b3⟩, ?_⟩
  simp only [Act.put, List.setIfInBounds_toArray, List.set_cons_zero, List.set_cons_succ]
  refine ord_do rfl ?_
  refine wpList_store_blk rfl 33 _ _ rfl (w.heap.size + 1) zR (rcells code nn f) 33 rfl rfl Z4 rfl hi ho ?_
  rintro w5 B5 K5
  have A5 := K5.blk _ _ _ (by omega) A4
  have d1 := A5.cell 1
  have d3 := A5.cell 3
  rw [show (acArr a)[1]? = some (.int .i64 a.node) from rfl] at d1
  rw [show (acArr a)[3]? = some (.int .i64 a.value) from rfl] at d3
  refine ⟨fun _ => ⟨d1, d3⟩, ?_⟩
  show wpOrd _ _ _ _ _ [] _ _ _
  unfold wpOrd
  go_wp2
  exact bodyPost_ret (result_rep rfl _ _ (w.heap.size + 1) _ _ _ rfl B5) rfl ⟨rfl, q', nt', C4.kept K5 Z4 (by decide) (by decide) (by decide), ((T1.trans (Touch.below Lw) (Next.refl _ _)).trans T4 (Next.refl _ _)).more (K5.bel _ _ (Nat.le_refl _) (Below.refl _ _)) (by omega), (Next.refl _ w).trans N4 (Nat.le_trans T1.size Lw.size)⟩

set_option maxRecDepth 100000 in
set_option maxHeartbeats 4000000 in
theorem do_none {w : World} {g : Nat} {c : Cw} {q : Nat → Value} {nt : Value} (H : CwAt w g 62 c q nt) (a : Ac) (h6 : c.acts < 600)
    (hk : a.kind ≠ 1 ∧ a.kind ≠ 2 ∧ a.kind ≠ 3 ∧ a.kind ≠ 4 ∧ a.kind ≠ 5 ∧ a.kind ≠ 6) :
    Calls Tryz.prog 7 #[.pointer (some ⟨g, 0, none⟩), .agg (acArr a)] w (Did w g nt c.more (refused 3)) := by
  have hi := info_rep 3 0 fun _ => 0
  have ho := one_rep 3 0 fun _ => 0
  have k1 : (a.kind == 1) = false := beq_eq_false_iff_ne.2 (by omega)
  have k2 : (a.kind == 2) = false := beq_eq_false_iff_ne.2 (by omega)
  have k3 : (a.kind == 3) = false := beq_eq_false_iff_ne.2 (by omega)
  have k4 : (a.kind == 4) = false := beq_eq_false_iff_ne.2 (by omega)
  have k5 : (a.kind == 5) = false := beq_eq_false_iff_ne.2 (by omega)
  have k6 : (a.kind == 6) = false := beq_eq_false_iff_ne.2 (by omega)
  clear hk
  have A : Blk ((w.alloc (.cells (acArr a) 38)).alloc (.cells zR 33)) w.heap.size (acArr a) 38 := (Blk.new w _ _).alloc _
  have Z : Blk ((w.alloc (.cells (acArr a) 38)).alloc (.cells zR 33)) (w.heap.size + 1) zR 33 := Blk.new1 w _ _ _
  have L0 : Below w.heap.size w ((w.alloc (.cells (acArr a) 38)).alloc (.cells zR 33)) := by go_grown
  have H0 := H.keep L0
  have hgw := H.blk.lt
  have hacts : ((c.acts : Int) == 600) = false := beq_eq_false_iff_ne.2 (by omega)
  have hactI : (c.acts : Int) < 600 := by omega
  clear H
  go_enter Tryz.func7, Tryz.ntmps7
  go_upto_region 1 with fail
  generalize ((w.alloc (.cells (acArr a) 38)).alloc (.cells zR 33)) = w0 at A Z L0 H0 ⊢
  have c0 := H0.acts
  have f0 := H0.blk.free 1130
  go_upto_region 6 with fail
  obtain ⟨w1, hw1⟩ : ∃ w1, w1 = w0.setCell ⟨g, 1130, none⟩ (.int .i64 ((c.acts : Int) + 1)) := ⟨_, rfl⟩
  have H1 : CwAt w1 g 62 c.more q nt := by rw [hw1]; exact H0.more (by decide) (by decide)
  have T1 : Touch g nt w w1 := by rw [hw1]; exact (Touch.below L0).trans (Touch.grownB (grown_setCell w0 g 1130 _)) (Next.refl _ _)
  have A1 : Blk w1 w.heap.size (acArr a) 38 := by rw [hw1]; exact A.setCell_other _ _ (by show w.heap.size ≠ g; omega)
  have Z1 : Blk w1 (w.heap.size + 1) zR 33 := by rw [hw1]; exact Z.setCell_other _ _ (by show w.heap.size + 1 ≠ g; omega)
  rw [← hw1]
  clear hw1 c0 f0 H0 A Z L0 hacts hactI h6
  have a0 := A1.cell 0
  have a1 := A1.cell 1
  have a2 := A1.cell 2
  have a3 := A1.cell 3
  rw [show (acArr a)[0]? = some (.int .i64 a.kind) from rfl] at a0
  rw [show (acArr a)[1]? = some (.int .i64 a.node) from rfl] at a1
  rw [show (acArr a)[2]? = some (.int .i64 a.n) from rfl] at a2
  rw [show (acArr a)[3]? = some (.int .i64 a.value) from rfl] at a3
  go_wp2_with (first
    | (go_at_call 16; refine (crefuse_any 3 _).mono ?_; rintro e w4 ⟨rfl, L4⟩; have Z4 := Z1.below L4; have C4 := H1.keep L4)
    | (refine wpList_store_blk rfl 33 _ _ rfl (w.heap.size + 1) zR (refused 3) 33 rfl rfl Z4 rfl hi ho ?_; rintro w5 B5 K5))
  exact bodyPost_ret (result_rep rfl _ _ (w.heap.size + 1) _ _ _ rfl B5) rfl ⟨rfl, q, nt, C4.kept K5 Z4 (by decide) (by decide) (by decide), (T1.trans (Touch.below L4) (Next.refl _ _)).more (K5.bel _ _ (Nat.le_refl _) (Below.refl _ _)) (by omega), Next.refl _ _⟩
end Go.Proofs.YtmmgaonlmpajbacGreat
namespace Go.Proofs.YtmmgaonlmpajbacGreat
open Go.RowKit

/-- The reply to what a node did. -/
def didRep (c : Cw) (i : Nat) (a : At) : Array Value := rcells 0 (((sendAll i a.words c.net).length : Int) - (c.net.length : Int)) fun _ => 0
def subC (c : Cw) (i y : Int) : Cw × Array Value :=
  if win i 0 3 = true then (if subCode (c.nd i.toNat) y = 0 then (c.did i.toNat (submitN i.toNat (c.nd i.toNat) y), didRep c i.toNat (submitN i.toNat (c.nd i.toNat) y)) else (c, refused (subCode (c.nd i.toNat) y))) else (c, refused 2)
def timeC (c : Cw) (i : Int) : Cw × Array Value :=
  if win i 0 3 = true then (c.did i.toNat (timeN i.toNat (c.nd i.toNat)), didRep c i.toNat (timeN i.toNat (c.nd i.toNat))) else (c, refused 2)
def readC (c : Cw) (a : Ac) : Cw × Array Value := (c, rcells 0 0 (takeV (toldC c (a.n != 0) a.tell)))
/-- What comes of an act. -/
def doC (c : Cw) (a : Ac) : Cw × Array Value :=
  if c.acts = 600 then (c, refused 5)
  else if a.kind = 1 then subC c.more a.node a.value
  else if a.kind = 2 then deliverC c.more a.n
  else if a.kind = 3 then dropC c.more a.n
  else if a.kind = 4 then timeC c.more a.node
  else if a.kind = 5 then lieC c.more a.node a.word
  else if a.kind = 6 then readC c.more a
  else (c.more, refused 3)

/-- A reply has its form. -/
def IsRep (D : Array Value) : Prop := ∃ code n f, D = rcells code n f
theorem isRep_of (code n : Int) (f : Nat → Int) : IsRep (rcells code n f) := ⟨_, _, _, rfl⟩
theorem isRep_refused (code : Int) : IsRep (refused code) := ⟨_, _, _, rfl⟩
theorem isRep_did (c : Cw) (i : Nat) (a : At) : IsRep (didRep c i a) := ⟨_, _, _, rfl⟩
theorem isRep_hear (c : Cw) (i : Nat) (v : Wd) : IsRep (hearC c i v).2 := by
  obtain ⟨x, y, h⟩ := hearC_rep c i v
  exact ⟨x, y, _, h⟩
theorem isRep_deliver (c : Cw) (n : Int) : IsRep (deliverC c n).2 := by
  unfold deliverC
  split
  · split
    · exact isRep_hear _ _ _
    · exact isRep_refused _
  · exact isRep_refused _
theorem isRep_drop (c : Cw) (n : Int) : IsRep (dropC c n).2 := by
  unfold dropC
  split
  · exact isRep_of 0 0 fun _ => 0
  · exact isRep_refused _
theorem isRep_lie (c : Cw) (i : Int) (v : Wd) : IsRep (lieC c i v).2 := by
  unfold lieC
  split
  · split
    · split
      · exact isRep_hear _ _ _
      · exact isRep_refused _
    · exact isRep_refused _
  · exact isRep_refused _
theorem isRep_sub (c : Cw) (i y : Int) : IsRep (subC c i y).2 := by
  unfold subC
  split
  · split
    · exact isRep_did _ _ _
    · exact isRep_refused _
  · exact isRep_refused _
theorem isRep_time (c : Cw) (i : Int) : IsRep (timeC c i).2 := by
  unfold timeC
  split
  · exact isRep_did _ _ _
  · exact isRep_refused _

theorem did_of {w : World} {g : Nat} {c : Cw} {q : Nat → Value} {nt : Value} {D : Array Value} (H : CwAt w g 62 c q nt) {e : Ending} {w' : World} (h : e = .returned (.agg D) ∧ Below w.heap.size w w') : Did w g nt c D e w' :=
  ⟨h.1, q, nt, H.keep h.2, Touch.below h.2, Next.refl _ _⟩

theorem turn_submits {w : World} {g : Nat} {c : Cw} {q : Nat → Value} {nt : Value} (G : CG c) (H : CwAt w g 62 c q nt) (i y : Int) (b : Nat) (hb : w.cell? ⟨b, 0, none⟩ = some (.int .i64 y)) :
    Calls Tryz.prog 17 #[.pointer (some ⟨g, 0, none⟩), .int .i64 i, .func (.func 34) #[] #[.pointer (some ⟨b, 0, none⟩)]] w (Did w g nt (subC c i y).1 (subC c i y).2) := by
  unfold subC
  cases hi : win i 0 3
  · rw [if_neg (by simp)]
    exact (turn_range i hi g _ w).mono fun e w' h => did_of H h
  · rw [if_pos rfl]
    have hi' := win_iff.1 hi
    have h4 : i.toNat < 4 := by omega
    have hw := G.nd i.toNat h4
    have ei : (i.toNat : Int) = i := by omega
    by_cases hs : subCode (c.nd i.toNat) y = 0
    · rw [if_pos hs]
      have hy : win y 1 9 = true := by
        cases hy : win y 1 9
        · unfold subCode at hs; rw [hy] at hs; simp at hs
        · rfl
      have h6 : (c.nd i.toNat).queue.length < 6 := by
        unfold subCode at hs
        rw [if_pos hy] at hs
        by_cases h6 : (c.nd i.toNat).queue.length = 6
        · rw [if_pos h6] at hs; cases hs
        · have := hw.good.qlen; omega
      have h1 := turn_submit_yes H i.toNat h4 b y hb _ (submit_whole hw i.toNat hy h6).2 G.net (fun W hW => submit_yes hw.good hw.beyond h4 hy h6 _ W hW)
      rw [ei] at h1
      exact h1
    · rw [if_neg hs]
      have h1 := turn_submit_no H i.toNat h4 b y hb _ hs (fun W hW => submit_no hw.good h4 hs _ W hW)
      rw [ei] at h1
      exact h1.mono fun e w' h => did_of H h
theorem turn_times {w : World} {g : Nat} {c : Cw} {q : Nat → Value} {nt : Value} (G : CG c) (H : CwAt w g 62 c q nt) (i : Int) :
    Calls Tryz.prog 17 #[.pointer (some ⟨g, 0, none⟩), .int .i64 i, .func (.func 21) #[] #[]] w (Did w g nt (timeC c i).1 (timeC c i).2) := by
  unfold timeC
  cases hi : win i 0 3
  · rw [if_neg (by simp)]
    exact (turn_range i hi g _ w).mono fun e w' h => did_of H h
  · rw [if_pos rfl]
    have hi' := win_iff.1 hi
    have h4 : i.toNat < 4 := by omega
    have hw := G.nd i.toNat h4
    have h1 := turn_time_yes H i.toNat h4 _ (time_whole hw i.toNat).2 G.net (fun W hW => time_yes hw.good hw.beyond h4 _ W hW)
    rw [show (i.toNat : Int) = i by omega] at h1
    exact h1

theorem do_any {w : World} {g : Nat} {c : Cw} {q : Nat → Value} {nt : Value} (G : CG c) (H : CwAt w g 62 c q nt) (a : Ac) :
    Calls Tryz.prog 7 #[.pointer (some ⟨g, 0, none⟩), .agg (acArr a)] w (Did w g nt (doC c a).1 (doC c a).2) := by
  unfold doC
  by_cases h6 : c.acts = 600
  · rw [if_pos h6]
    exact (do_full H a h6).mono fun e w' h => did_of H h
  · rw [if_neg h6]
    have G1 := G.more h6
    have hlt : c.acts < 600 := by have := G.acts; omega
    by_cases k1 : a.kind = 1
    · rw [if_pos k1]
      obtain ⟨x, y, f, hr⟩ := isRep_sub c.more a.node a.value
      have hT := fun W q nt b (hW : CwAt W g 62 c.more q nt) hb => turn_submits G1 hW a.node a.value b hb
      rw [hr] at hT ⊢
      exact do_submit H a hlt k1 x y f _ hT
    · rw [if_neg k1]
      by_cases k2 : a.kind = 2
      · rw [if_pos k2]
        obtain ⟨x, y, f, hr⟩ := isRep_deliver c.more a.n
        have hT := fun W q nt (hW : CwAt W g 62 c.more q nt) => deliver_any G1 hW a.n
        rw [hr] at hT ⊢
        exact do_deliver H a hlt k2 x y f _ hT
      · rw [if_neg k2]
        by_cases k3 : a.kind = 3
        · rw [if_pos k3]
          obtain ⟨x, y, f, hr⟩ := isRep_drop c.more a.n
          have hT := fun W q nt (hW : CwAt W g 62 c.more q nt) => drop_any G1 hW a.n
          rw [hr] at hT ⊢
          exact do_drop H a hlt k3 x y f _ hT
        · rw [if_neg k3]
          by_cases k4 : a.kind = 4
          · rw [if_pos k4]
            obtain ⟨x, y, f, hr⟩ := isRep_time c.more a.node
            have hT := fun W q nt (hW : CwAt W g 62 c.more q nt) => turn_times G1 hW a.node
            rw [hr] at hT ⊢
            exact do_time H a hlt k4 x y f _ hT
          · rw [if_neg k4]
            by_cases k5 : a.kind = 5
            · rw [if_pos k5]
              obtain ⟨x, y, f, hr⟩ := isRep_lie c.more a.node a.word
              have hT := fun W q nt (hW : CwAt W g 62 c.more q nt) => lie_any G1 hW a.node a.word
              rw [hr] at hT ⊢
              exact do_lie H a hlt k5 x y f _ hT
            · rw [if_neg k5]
              by_cases k6 : a.kind = 6
              · rw [if_pos k6]
                exact do_read H a hlt k6 _ _ _ _ (fun W q nt hW => (read_any G1 hW (a.n != 0) a.tell).mono fun e w' h => did_of hW h)
              · rw [if_neg k6]
                exact do_none H a hlt ⟨k1, k2, k3, k4, k5, k6⟩

/-! ### A crowd of good nodes stays one -/
theorem sendTo_mem (fr : Nat) (w : Wd) (net : List (Nat × Wd)) : ∀ k, k ≤ 4 → ∀ x, x ∈ sendTo fr w net k → x ∈ net ∨ (x.1 < 4 ∧ x.1 ≠ fr ∧ x.2 = w)
  | 0, _, x, hx => Or.inl hx
  | k + 1, hk, x, hx => by
    unfold sendTo at hx
    split at hx
    · rename_i c
      rcases List.mem_append.1 hx with h | h
      · exact sendTo_mem fr w net k (by omega) x h
      · obtain rfl := List.mem_singleton.1 h
        exact Or.inr ⟨by show k < 4; omega, c.1, rfl⟩
    · exact sendTo_mem fr w net k (by omega) x hx
theorem sendAll_mem (fr : Nat) : ∀ (ws : List Wd) (net : List (Nat × Wd)) (x : Nat × Wd), x ∈ sendAll fr ws net → x ∈ net ∨ (x.1 < 4 ∧ x.1 ≠ fr ∧ x.2 ∈ ws)
  | [], net, x, hx => Or.inl hx
  | w :: ws, net, x, hx => by
    have hx' : x ∈ sendAll fr ws (sendTo fr w net 4) := hx
    rcases sendAll_mem fr ws _ x hx' with h | ⟨h1, h2, h3⟩
    · rcases sendTo_mem fr w net 4 (Nat.le_refl _) x h with h | ⟨h1, h2, h3⟩
      · exact Or.inl h
      · exact Or.inr ⟨h1, h2, by rw [h3]; exact List.mem_cons_self ..⟩
    · exact Or.inr ⟨h1, h2, List.mem_cons_of_mem _ h3⟩
theorem CG.did {c : Cw} (G : CG c) {i : Nat} {a : At} (h : Whole a.n) : CG (c.did i a) := by
  refine ⟨fun k hk => ?_, (sendAll_len i a.words c.net G.net).2, fun x hx => ?_, G.acts, G.liar⟩
  · show Whole (if k = i then a.n else c.nd k)
    split
    · exact h
    · exact G.nd k hk
  · rcases sendAll_mem i a.words c.net x hx with h | h
    · exact G.dest x h
    · exact h.1
theorem CG.hear {c : Cw} (G : CG c) {i : Nat} (hi : i < 4) (v : Wd) : CG (hearC c i v).1 := by
  unfold hearC
  split
  · rename_i gv
    exact G.did (hear_whole (G.nd i hi) i gv).1
  · exact G
theorem do_good {c : Cw} (G : CG c) (a : Ac) : CG (doC c a).1 := by
  unfold doC
  split
  · exact G
  · rename_i h6
    have G1 := G.more h6
    split
    · unfold subC
      split
      · rename_i hi
        have hi' := win_iff.1 hi
        split
        · rename_i hs
          have hw := G1.nd a.node.toNat (by omega)
          have hy : win a.value 1 9 = true := by
            cases hy : win a.value 1 9
            · unfold subCode at hs; rw [hy] at hs; simp at hs
            · rfl
          have h6 : (c.more.nd a.node.toNat).queue.length < 6 := by
            unfold subCode at hs
            rw [if_pos hy] at hs
            by_cases h6 : (c.more.nd a.node.toNat).queue.length = 6
            · rw [if_pos h6] at hs; cases hs
            · have := hw.good.qlen; omega
          exact G1.did (submit_whole hw _ hy h6).1
        · exact G1
      · exact G1
    · split
      · unfold deliverC
        split
        · rename_i x hx
          split
          · exact G1.hear (G1.dest x (List.mem_of_getElem? hx)) _
          · exact G1
        · exact G1
      · split
        · unfold dropC
          split
          · refine ⟨G1.nd, ?_, fun x hx => G1.dest x (List.mem_of_mem_eraseIdx hx), G1.acts, G1.liar⟩
            show (c.more.net.eraseIdx _).length ≤ 2000
            have := List.length_eraseIdx_le c.more.net a.n.toNat
            have := G1.net
            omega
          · exact G1
        · split
          · unfold timeC
            split
            · rename_i hi
              have hi' := win_iff.1 hi
              exact G1.did (time_whole (G1.nd a.node.toNat (by omega)) _).1
            · exact G1
          · split
            · unfold lieC
              split
              · split
                · split
                  · rename_i hi
                    have hi' := win_iff.1 hi
                    exact G1.hear (by omega) _
                  · exact G1
                · exact G1
              · exact G1
            · split
              · exact G1
              · exact G1
theorem do_isRep (c : Cw) (a : Ac) : IsRep (doC c a).2 := by
  unfold doC
  split
  · exact isRep_refused _
  · split
    · exact isRep_sub _ _ _
    · split
      · exact isRep_deliver _ _
      · split
        · exact isRep_drop _ _
        · split
          · exact isRep_time _ _
          · split
            · exact isRep_lie _ _ _
            · split
              · exact isRep_of _ _ _
              · exact isRep_refused _
end Go.Proofs.YtmmgaonlmpajbacGreat
