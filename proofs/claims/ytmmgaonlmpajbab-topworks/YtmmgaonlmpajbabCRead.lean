/-
  The landed package crowd: read.
-/
import Derived.Test.YtmmgaonlmpajbabCDo
namespace Go.Proofs.Ytmmgaonlmpajbab
open Go.RowKit

/-- A row of the sixteen numbers is stored over: the world behind is a letter. -/
theorem lcells_set (l : Nat → Nat → Int) (i : Nat) (hi : i < 4) (f : Nat → Int) {W : World} {b : Nat} {t : TypeId} (B : Blk W b (lcells l) t) : Blk (W.setCells b (i * 4) (four f).toList) b (lcells fun k h => if k = i then f h else l k h) t := by
  refine B.setMid _ _ (by rw [lcells_size]; show i * 4 + 4 ≤ 16; omega) (fun j => ?_)
  show _ = if i * 4 ≤ j ∧ j < i * 4 + 4 then _ else _
  by_cases hj : j < 16
  · have e : j = j / 4 * 4 + j % 4 := by omega
    by_cases c : i * 4 ≤ j ∧ j < i * 4 + 4
    · rw [if_pos c, Array.getElem?_toList, four_at f _ (by omega)]
      rw [e, lcells_at _ _ _ (by omega) (by omega), if_pos (by omega)]
      rw [show j / 4 * 4 + j % 4 - i * 4 = j % 4 by omega]
    · rw [if_neg c, e, lcells_at _ _ _ (by omega) (by omega), lcells_at _ _ _ (by omega) (by omega), if_neg (by omega)]
  · rw [if_neg (by omega), Array.getElem?_eq_none (by rw [lcells_size]; omega), Array.getElem?_eq_none (by rw [lcells_size]; omega)]
theorem wpList_store_row {P : Program} {ops : Array Oper} {rest : List Oper} {op : Oper} {a : Act} {w : World} {Q : Exit → Act → World → Prop} (hgd : op.guard = none) (ty : TypeId) (x y : Operand) (ho : op.op = .store ty x y)
    (b i : Nat) (l : Nat → Nat → Int) (f : Nat → Int) (t : TypeId) (hx : a.eval x = .pointer (some ⟨b, i * 4, none⟩)) (hy : a.eval y = .agg (four f)) (hi : i < 4) (hB : Blk w b (lcells l) t) (hty : (P.info? ty).map (·.size) = some (four f).size)
    (h : ∀ w', Blk w' b (lcells fun k h => if k = i then f h else l k h) t → Kept b w w' → wpList P ops Q rest (a.put op.dst undef) w') : wpList P ops Q (op :: rest) a w :=
  wpList_store_mid hgd ty x y ho b (i * 4) (four f) hx hy (hB.there_mid _ _ (by rw [lcells_size]; show i * 4 + 4 ≤ 16; omega)) hty (four_one f) (h _ (lcells_set l i hi f hB) (kept_setCells b _ _ w))
theorem lcells_congr {l m : Nat → Nat → Int} (h : ∀ i k, i < 4 → k < 4 → l i k = m i k) : lcells l = lcells m := by
  apply Array.ext_getElem?
  intro j
  by_cases hj : j < 16
  · have e : j = j / 4 * 4 + j % 4 := by omega
    rw [e, lcells_at _ _ _ (by omega) (by omega), lcells_at _ _ _ (by omega) (by omega), h _ _ (by omega) (by omega)]
  · rw [Array.getElem?_eq_none (by rw [lcells_size]; omega), Array.getElem?_eq_none (by rw [lcells_size]; omega)]

/-- What is settled at a node of the crowd. -/
theorem settled_range {W : World} {g : Nat} {n : Nat → NI} {nt : Value} {liar acts : Int} {t : TypeId} (B : Blk W g (ccells n nt liar acts) t) (i : Nat) (hi : i < 4) : W.rangeAt g (i * 282 + 277) (four (n i).settled).toList := by
  intro j u hu
  have hj : j < 4 := by
    by_cases hlt : j < 4
    · exact hlt
    · rw [List.getElem?_eq_none (by show (four (n i).settled).toList.length ≤ j; simp [four]; omega)] at hu; cases hu
  rw [B.cell, show i * 282 + 277 + j = i * 282 + (277 + j) by omega, ccells_node _ _ _ _ i (277 + j) hi (by omega)]
  rw [Array.getElem?_toList, four_at _ j hj] at hu
  have e : ncellAt (n i) (277 + j) = .int .i64 ((n i).settled j) := by
    unfold ncellAt
    rw [if_neg (by omega), if_neg (by omega), if_neg (by omega), if_pos (by omega), show 277 + j - 277 = j by omega]
  rw [e]; exact hu

/-- What a client is told. -/
def toldC (c : Cw) (lies : Bool) (tell : Nat → Int) (i h : Nat) : Int := if lies = true ∧ c.liar = (i : Int) then tell h else (c.nd i).settled h

theorem build_read (W : World) (f : Nat → Int) : Sem.run Try.prog (Instr.build 52 #[(2, .agg (four f))]) W = .ok (.agg (rcells 0 0 f)) W := by show _ = _; kernel_rfl

set_option maxRecDepth 100000 in
set_option maxHeartbeats 4000000 in
theorem read_any {w : World} {g : Nat} {c : Cw} {q : Nat → Value} {nt : Value} (G : CG c) (H : CwAt w g 93 c q nt) (lies : Bool) (tell : Nat → Int) :
    Calls Try.prog 54 #[.pointer (some ⟨g, 0, none⟩), .bool lies, .agg (four tell)] w fun e w' => e = .returned (.agg (rcells 0 0 (takeV (toldC c lies tell)))) ∧ Below w.heap.size w w' := by
  have hi := info_rep 0 0 (takeV (toldC c lies tell))
  have ho := one_rep 0 0 (takeV (toldC c lies tell))
  have hi4 : ∀ f : Nat → Int, (Try.prog.info? 26).map (·.size) = some (four f).size := fun f => by show _ = some 4; kernel_rfl
  have hz : (lcells fun _ _ => 0) = #[.int .i64 0, .int .i64 0, .int .i64 0, .int .i64 0, .int .i64 0, .int .i64 0, .int .i64 0, .int .i64 0, .int .i64 0, .int .i64 0, .int .i64 0, .int .i64 0, .int .i64 0, .int .i64 0, .int .i64 0, .int .i64 0] := by kernel_rfl
  have E0 : Blk (((w.alloc (.cells (four tell) 26)).alloc (.cells zR 52)).alloc (.cells #[.int .i64 0, .int .i64 0, .int .i64 0, .int .i64 0, .int .i64 0, .int .i64 0, .int .i64 0, .int .i64 0, .int .i64 0, .int .i64 0, .int .i64 0, .int .i64 0, .int .i64 0, .int .i64 0, .int .i64 0, .int .i64 0] 45)) w.heap.size (four tell) 26 := ((Blk.new w _ _).alloc _).alloc _
  have Z0 : Blk (((w.alloc (.cells (four tell) 26)).alloc (.cells zR 52)).alloc (.cells #[.int .i64 0, .int .i64 0, .int .i64 0, .int .i64 0, .int .i64 0, .int .i64 0, .int .i64 0, .int .i64 0, .int .i64 0, .int .i64 0, .int .i64 0, .int .i64 0, .int .i64 0, .int .i64 0, .int .i64 0, .int .i64 0] 45)) (w.heap.size + 1) zR 52 := (Blk.new1 w _ _ _).alloc _
  have A0 : Blk (((w.alloc (.cells (four tell) 26)).alloc (.cells zR 52)).alloc (.cells #[.int .i64 0, .int .i64 0, .int .i64 0, .int .i64 0, .int .i64 0, .int .i64 0, .int .i64 0, .int .i64 0, .int .i64 0, .int .i64 0, .int .i64 0, .int .i64 0, .int .i64 0, .int .i64 0, .int .i64 0, .int .i64 0] 45)) (w.heap.size + 1 + 1) (lcells fun _ _ => 0) 45 := by rw [hz]; exact Blk.new2 w _ _ _ _
  have L0 : Below w.heap.size w (((w.alloc (.cells (four tell) 26)).alloc (.cells zR 52)).alloc (.cells #[.int .i64 0, .int .i64 0, .int .i64 0, .int .i64 0, .int .i64 0, .int .i64 0, .int .i64 0, .int .i64 0, .int .i64 0, .int .i64 0, .int .i64 0, .int .i64 0, .int .i64 0, .int .i64 0, .int .i64 0, .int .i64 0] 45)) := by go_grown
  have H0 := H.keep L0
  have hgw := H.blk.lt
  have hlr := G.liar
  clear H hz
  go_enter Try.func54, Try.ntmps54
  go_upto_region 2 with fail
  generalize (((w.alloc (.cells (four tell) 26)).alloc (.cells zR 52)).alloc (.cells #[.int .i64 0, .int .i64 0, .int .i64 0, .int .i64 0, .int .i64 0, .int .i64 0, .int .i64 0, .int .i64 0, .int .i64 0, .int .i64 0, .int .i64 0, .int .i64 0, .int .i64 0, .int .i64 0, .int .i64 0, .int .i64 0] 45)) = w0 at E0 Z0 A0 L0 H0 ⊢
  go_wp2
  go_loopw [9] (fun i W => ∃ k : Nat, k ≤ 4 ∧ i = .int .i64 (k : Int) ∧ CwAt W g 93 c q nt ∧ Blk W w.heap.size (four tell) 26 ∧ Blk W (w.heap.size + 1) zR 52 ∧ Blk W (w.heap.size + 1 + 1) (lcells fun i h => if i < k then (c.nd i).settled h else 0) 45 ∧ Below w.heap.size w W) (fun i _ => 4 - (intOf i).toNat)
  case atStart => exact ⟨0, by omega, rfl, H0, E0, Z0, A0, L0⟩
  case round =>
    clear E0 Z0 A0 L0 H0
    obtain ⟨k, hk, rfl, H1, E1, Z1, A1, hB⟩ := hrel
    by_cases hlt : k < 4
    · have hr := settled_range H1.blk k hlt
      have hkI : (k : Int) < 4 := by omega
      go_wp2_with (first
        | (refine wpList_load_part (by rfl) 26 _ rfl g (k * 282 + 277) (by first | rfl | simp) (four (c.nd k).settled) _ hr Try.underlying26 rfl (hi4 _) ?_)
        | (refine wpList_store_row rfl 26 _ _ rfl (w.heap.size + 1 + 1) k _ (c.nd k).settled 45 (by first | rfl | simp) rfl hlt A1 (hi4 _) ?_; rintro w2 A2 K2))
      go_roundw
      case measure => simp [intOf]; omega
      case rel =>
        have e : (lcells fun i h => if i = k then (c.nd k).settled h else if i < k then (c.nd i).settled h else 0) = lcells fun i h => if i < k + 1 then (c.nd i).settled h else 0 := lcells_congr (fun i h _ _ => by
          by_cases c1 : i = k
          · rw [if_pos c1, if_pos (by omega), c1]
          · rw [if_neg c1]
            by_cases c2 : i < k
            · rw [if_pos c2, if_pos (by omega)]
            · rw [if_neg c2, if_neg (by omega)])
        rw [e] at A2
        exact ⟨k + 1, by omega, by go_num, H1.kept K2 A1 (by decide) (by decide) (by decide), K2.blk _ _ _ (by omega) E1, K2.blk _ _ _ (by omega) Z1, A2, K2.bel _ _ (by omega) hB⟩
    · have e : (lcells fun i h => if i < k then (c.nd i).settled h else 0) = lcells fun i h => (c.nd i).settled h := lcells_congr (fun i h _ _ => by rw [if_pos (by omega)])
      rw [e] at A1
      clear e
      have hl16 : ∀ l : Nat → Nat → Int, (Try.prog.info? 45).map (·.size) = some (lcells l).size := fun l => by rw [lcells_size]; kernel_rfl
      have e2 := H1.liar
      by_cases hl : lies = true ∧ c.liar ≠ -1
      · obtain ⟨j, hj⟩ : ∃ j : Nat, c.liar = (j : Int) := ⟨c.liar.toNat, by omega⟩
        have hj4 : j < 4 := by omega
        have hjI : (j : Int) < 4 := by omega
        have hne : ((j : Int) != -1) = true := bne_iff_ne.2 (by omega)
        have hl1 := hl.1
        have e3 : Hid ((lcells fun i h => if i = j then tell h else (c.nd i).settled h) = lcells (toldC c lies tell)) := show _ = _ from lcells_congr (fun i h _ _ => by
          unfold toldC
          by_cases ci : i = j
          · rw [if_pos ci, if_pos ⟨hl1, by omega⟩]
          · rw [if_neg ci, if_neg (fun hh => ci (by have := hh.2; omega))])
        have HL : Hid (lies = true) := hl1
        have HJ : Hid (c.liar = (j : Int)) := hj
        rw [hj] at e2
        have hi4t := hi4 tell
        rw [HL.out]
        clear hl hl1 hj hlr
        go_wp2_with fail
        rename World => w1
        refine held_region (fun W => W.cell? ⟨g, 1129, none⟩ = some (.int .i64 (j : Int)) ∧ Blk W w.heap.size (four tell) 26) [] [(0, 0), (1, 0), (2, 0), (3, 1), (4, 1), (5, 0), (6, 2)] (by kernel_rfl) (by kernel_rfl) (by kernel_rfl) rfl (fun _ _ d _ _ h => by cases d <;> exact h) ⟨e2, E1.drew⟩ ?_
        repeat (first
          | (refine ord_run0_ex rfl (by rfl) ?_
             apply Exists.intro
             refine ⟨fun w0 => ?_, ?_⟩
             · go_simp; rfl
             simp only [Act.put, List.setIfInBounds_toArray, List.set_cons_zero, List.set_cons_succ])
          | (refine ord_load rfl (by rfl) 26 _ rfl w.heap.size 0 rfl (four tell) _ (fun W H => H.2.range) Try.underlying26 rfl hi4t ?_; simp only [Act.put, List.setIfInBounds_toArray, List.set_cons_zero, List.set_cons_succ])
          | (refine ord_run1_ex rfl (by rfl) ?_
             apply Exists.intro
             refine ⟨fun w0 hC => ?_, ?_⟩
             · have e0 := hC.1; clear hC; go_simp; rfl
             simp only [Act.put, List.setIfInBounds_toArray, List.set_cons_zero, List.set_cons_succ]))
        refine ord_do rfl ?_
        refine wpList_store_row rfl 26 _ _ rfl (w.heap.size + 1 + 1) j _ tell 45 (by first | rfl | simp) rfl hj4 A1.drew hi4t ?_
        rintro w2 A2 K2
        have C2 := H1.drew.kept K2 A1.drew (by decide) (by decide) (by decide)
        have hB2 : Below w.heap.size w w2 := K2.bel _ _ (by omega) (below_drew' hB)
        refine ⟨fun _ => ⟨by rw [C2.liar, HJ.out], K2.blk _ _ _ (by omega) E1.drew⟩, ?_⟩
        have Z2 := K2.blk _ _ _ (by omega) Z1.drew
        rw [e3.out] at A2
        show wpOrd _ _ _ _ _ [] _ _ _
        unfold wpOrd
        rw [← HL.out]
        go_wp2_with (first
          | (refine wpList_load_part (by rfl) 45 _ rfl (w.heap.size + 1 + 1) 0 rfl (lcells (toldC c lies tell)) _ A2.range Try.underlying45 rfl (hl16 _) ?_)
          | (go_at_call 18; refine (take_any (toldC c lies tell) _).mono ?_; rintro e w5 ⟨rfl, L5⟩; have Z5 := Z2.below L5)
          | (refine wpList_build_eq rfl 52 _ rfl (rcells 0 0 (takeV (toldC c lies tell))) (by simp only [List.map_toArray, List.map_cons, List.map_nil]; exact build_read _ _) ?_; simp only [Act.put, List.setIfInBounds_toArray, List.set_cons_zero, List.set_cons_succ])
          | (refine wpList_store_blk rfl 52 _ _ rfl (w.heap.size + 1) zR (rcells 0 0 (takeV (toldC c lies tell))) 52 rfl rfl Z5 rfl hi ho ?_; rintro w6 B6 K6))
        exact bodyPost_ret (result_rep rfl _ _ (w.heap.size + 1) _ _ _ rfl B6) rfl ⟨rfl, K6.bel _ _ (by omega) (bel_trans hB2 L5)⟩
      · have e3 : Hid (lcells (fun i h => (c.nd i).settled h) = lcells (toldC c lies tell)) := show _ = _ from lcells_congr (fun i h _ _ => by unfold toldC; rw [if_neg (fun hh => hl ⟨hh.1, by omega⟩)])
        rw [e3.out] at A1
        cases hls : lies
        · rw [hls] at A1 e3 hi ho
          go_wp2_with (first
            | (refine wpList_load_part (by rfl) 45 _ rfl (w.heap.size + 1 + 1) 0 rfl (lcells (toldC c false tell)) _ A1.range Try.underlying45 rfl (hl16 _) ?_)
            | (go_at_call 18; refine (take_any (toldC c false tell) _).mono ?_; rintro e w5 ⟨rfl, L5⟩; have Z5 := Z1.below L5)
            | (refine wpList_build_eq rfl 52 _ rfl (rcells 0 0 (takeV (toldC c false tell))) (by simp only [List.map_toArray, List.map_cons, List.map_nil]; exact build_read _ _) ?_; simp only [Act.put, List.setIfInBounds_toArray, List.set_cons_zero, List.set_cons_succ])
            | (refine wpList_store_blk rfl 52 _ _ rfl (w.heap.size + 1) zR (rcells 0 0 (takeV (toldC c false tell))) 52 rfl rfl Z5 rfl hi ho ?_; rintro w6 B6 K6))
          exact bodyPost_ret (result_rep rfl _ _ (w.heap.size + 1) _ _ _ rfl B6) rfl ⟨by rw [hls], K6.bel _ _ (by omega) (bel_trans hB L5)⟩
        · have h1 : (c.liar != -1) = false := by
            have : c.liar = -1 := by
              by_cases h : c.liar = -1
              · exact h
              · exact absurd ⟨hls, h⟩ hl
            simpa using this
          rw [hls] at A1 e3 hi ho
          go_wp2_with (first
            | (refine wpList_load_part (by rfl) 45 _ rfl (w.heap.size + 1 + 1) 0 rfl (lcells (toldC c true tell)) _ A1.range Try.underlying45 rfl (hl16 _) ?_)
            | (go_at_call 18; refine (take_any (toldC c true tell) _).mono ?_; rintro e w5 ⟨rfl, L5⟩; have Z5 := Z1.below L5)
            | (refine wpList_build_eq rfl 52 _ rfl (rcells 0 0 (takeV (toldC c true tell))) (by simp only [List.map_toArray, List.map_cons, List.map_nil]; exact build_read _ _) ?_; simp only [Act.put, List.setIfInBounds_toArray, List.set_cons_zero, List.set_cons_succ])
            | (refine wpList_store_blk rfl 52 _ _ rfl (w.heap.size + 1) zR (rcells 0 0 (takeV (toldC c true tell))) 52 rfl rfl Z5 rfl hi ho ?_; rintro w6 B6 K6))
          exact bodyPost_ret (result_rep rfl _ _ (w.heap.size + 1) _ _ _ rfl B6) rfl ⟨by rw [hls], K6.bel _ _ (by omega) (bel_trans hB L5)⟩
end Go.Proofs.Ytmmgaonlmpajbab
