/-
  The document's node at work: sheet, tell.
-/
import Derived.Test.YtmmgaonlmpajbacGreatTurnA
import Derived.Test.YtmmgaonlmpajbacGreatDoc0
import Derived.Test.YtmmgaonlmpajbacGreatHears
namespace Go.Proofs.YtmmgaonlmpajbacGreat
open Go.RowKit

set_option maxRecDepth 100000 in
set_option maxHeartbeats 2000000 in
theorem rsheet_any {w : World} {g : Nat} {n : Nd} {q sd : Value} {who : Int} (B : Blk w g (tcells (n.ni q) who sd) 98) (hh : n.height < 4) :
    Calls Tryz.prog 49 #[.pointer (some ⟨g, 0, none⟩)] w fun e w' => e = .returned (.agg (n.heard n.height).cells) ∧ Below w.heap.size w w' := by
  have hi := infoS (n.heard n.height)
  have hone : (n.heard n.height).cells.all (·.oneCell') = true := one_cell _
  have hz := run_zero
  have B0 := B.alloc (.cells zS.cells 46)
  have Z0 : Blk (w.alloc (.cells zS.cells 46)) w.heap.size zS.cells 46 := Blk.new w _ _
  have L0 : Below w.heap.size w (w.alloc (.cells zS.cells 46)) := by go_grown
  have hhi : (n.height : Int) < 4 := by omega
  clear B
  go_enter Tryz.func49, Tryz.ntmps49
  go_upto_region 1 with fail
  generalize (w.alloc (.cells zS.cells 46)) = w1 at B0 Z0 L0 ⊢
  refine held_region (fun W => Blk W g (tcells (n.ni q) who sd) 98) [11] [(0, 0), (1, 0), (2, 0), (3, 0), (4, 0), (5, 1), (6, 0), (7, 0), (8, 0), (9, 0), (10, 1), (11, 2)] (by kernel_rfl) (by kernel_rfl) (by kernel_rfl) rfl (fun _ _ d _ _ h => by cases d <;> exact h) B0.drew ?_
  repeat (first
    | (refine ord_load rfl (by rfl) 46 _ rfl g (13 + n.height * 66) rfl (n.heard n.height).cells _ (fun W H => heard_range H (n.heard n.height) (fun j hj => tcells_heard _ _ _ n.height j hh hj)) Tryz.underlying46 rfl hi ?_; simp only [Act.put, List.setIfInBounds_toArray, List.set_cons_zero, List.set_cons_succ])
    | (refine ord_run0_ex rfl (by rfl) ?_
       apply Exists.intro
       refine ⟨fun w0 => ?_, ?_⟩
       · go_simp; first | rfl | (rw [if_pos hhi])
       simp only [Act.put, List.setIfInBounds_toArray, List.set_cons_zero, List.set_cons_succ])
    | (refine ord_run1_ex rfl (by rfl) ?_
       apply Exists.intro
       refine ⟨fun w0 hC => ?_, ?_⟩
       · have e0 := hC.cell 0; rw [tcells_num _ _ _ 0 (by omega)] at e0; simp only [NI.num, Nd.ni] at e0; clear hC; go_simp; rfl
       simp only [Act.put, List.setIfInBounds_toArray, List.set_cons_zero, List.set_cons_succ]))
  refine ord_do rfl ?_
  refine wpList_store_blk rfl 46 _ _ rfl w.heap.size zS.cells (n.heard n.height).cells 46 rfl rfl Z0.drew (sizes _ _) hi hone ?_
  rintro w2 B2 K2
  refine ⟨fun hc => absurd hc (by decide), ?_⟩
  simp only [Act.put]
  show wpOrd _ _ _ _ _ [] _ _ _
  unfold wpOrd
  go_wp2
  exact bodyPost_ret (v := .agg (n.heard n.height).cells) (result_sheet rfl _ _ w.heap.size _ rfl B2) rfl ⟨rfl, K2.bel _ _ (Nat.le_refl _) (below_drew' L0)⟩

/-- What holds as the word is made: the node's block, and all that was there. -/
def HeldR (w : World) (g : Nat) (C : Array Value) (W : World) : Prop := Blk W g C 98 ∧ Below w.heap.size w W

set_option maxRecDepth 100000 in
set_option maxHeartbeats 4000000 in
theorem rtell_any {bb : Nat} {w : World} {g who : Nat} {a : At} {q sd : Value} (H : Sr bb w g 98 who a q sd) (hh : a.n.height < 4) (hlen : a.words.length < 100000) (kind value valid : Int) :
    Calls Tryz.prog 50 #[.pointer (some ⟨g, 0, none⟩), .int .i64 kind, .int .i64 value, .int .i64 valid] w fun e w' => e = .returned (.tuple #[]) ∧ ∃ sd', Sr bb w' g 98 who (tell who a kind value valid) q sd' ∧ Below g w w' := by
  obtain ⟨sa, sc, hsd⟩ := own_shape H.said
  subst hsd
  have B := H.blk
  have HS : HeldR w g (tcells (a.n.ni q) who (.slice sa a.words.length sc)) w := ⟨B, Below.refl _ _⟩
  have hglt := B.lt
  have hw6 := info_word
  have cc : ∀ W : World, HeldR w g (tcells (a.n.ni q) who (.slice sa a.words.length sc)) W → W.cell? ⟨g, 0, none⟩ = some (.int .i64 (a.n.height : Int)) ∧ W.cell? ⟨g, 1, none⟩ = some (.int .i64 (a.n.round : Int)) ∧ W.cell? ⟨g, 282, none⟩ = some (.int .i64 (who : Int)) := fun W hC =>
    ⟨by rw [hC.1.cell 0, tcells_num _ _ _ 0 (by omega)]; rfl, by rw [hC.1.cell 1, tcells_num _ _ _ 1 (by omega)]; rfl, by rw [hC.1.cell 282, tcells_who]⟩
  go_enter Tryz.func50, Tryz.ntmps50
  go_wp2_with fail
  refine held_region (HeldR w g (tcells (a.n.ni q) who (.slice sa a.words.length sc))) [] [(0, 0), (1, 0), (2, 0), (3, 0), (4, 1), (5, 0), (6, 0), (7, 0), (8, 0), (9, 1), (10, 0), (11, 0), (12, 0), (13, 0), (14, 1), (15, 0), (16, 0), (17, 0), (18, 2), (19, 2)] (by kernel_rfl) (by kernel_rfl) (by kernel_rfl) rfl (fun _ _ d _ _ h => by cases d <;> exact h) ⟨HS.1.drew, below_drew' HS.2⟩ ?_
  repeat (first
    | (refine ord_run0_ex rfl (by rfl) ?_
       apply Exists.intro
       refine ⟨fun w0 => ?_, ?_⟩
       · go_simp; rfl
       simp only [Act.put, List.setIfInBounds_toArray, List.set_cons_zero, List.set_cons_succ])
    | (refine ord_run1_ex rfl (by rfl) ?_
       apply Exists.intro
       refine ⟨fun w0 hC => ?_, ?_⟩
       · obtain ⟨e0, e1, e2⟩ := cc w0 hC; clear hC; go_simp; rfl
       simp only [Act.put, List.setIfInBounds_toArray, List.set_cons_zero, List.set_cons_succ]))
  refine ord_do rfl ?_
  go_wp2_with fail
  refine ⟨fun _ => ⟨(B.alloc _).drew, below_drew' (by go_grown)⟩, ?_⟩
  refine ord_do rfl ?_
  go_wp2_with fail
  refine ⟨fun _ => ⟨(B.alloc _).drew, below_drew' (by go_grown)⟩, ?_⟩
  show wpOrd _ _ _ _ _ [] _ _ _
  unfold wpOrd
  obtain ⟨W1, hW1⟩ : ∃ W1, W1 = (w.alloc (.cells #[.int .i64 kind, .int .i64 (who : Int), .int .i64 (a.n.height : Int), .int .i64 (a.n.round : Int), .int .i64 value, .int .i64 valid] 36)).drew := ⟨_, rfl⟩
  have B1 : Blk W1 g (tcells (a.n.ni q) who (.slice sa a.words.length sc)) 98 := by rw [hW1]; exact (B.alloc _).drew
  have D1 : Blk W1 w.heap.size #[.int .i64 kind, .int .i64 (who : Int), .int .i64 (a.n.height : Int), .int .i64 (a.n.round : Int), .int .i64 value, .int .i64 valid] 36 := by rw [hW1]; exact (Blk.new w _ _).drew
  have L1 : Below w.heap.size w W1 := by rw [hW1]; exact below_drew' (by go_grown)
  rw [← hW1]
  clear hW1
  have B2 := B1
  have D2 := D1
  have O2 := own_below H.own L1
  have S2 := own_below H.said L1
  have L2 : Below g w W1 := L1.mono (by omega)
  have hsz2 : w.heap.size < W1.heap.size := D2.lt
  clear D1 B1 L1
  generalize W1 = w2 at *
  obtain ⟨i0, hi, hz0, hz1, hz2⟩ := info_wd
  go_wp2_with fail
  refine held_region (fun W => Blk W g (tcells (a.n.ni q) who (.slice sa a.words.length sc)) 98 ∧ Blk W w.heap.size #[.int .i64 kind, .int .i64 (who : Int), .int .i64 (a.n.height : Int), .int .i64 (a.n.round : Int), .int .i64 value, .int .i64 valid] 36) [10] [(0, 0), (1, 0), (2, 0), (3, 0), (4, 1), (5, 1), (6, 2), (7, 2), (8, 0), (9, 0), (10, 2)] (by kernel_rfl) (by kernel_rfl) (by kernel_rfl) rfl (fun _ _ d _ _ h => by cases d <;> exact h) ⟨B2.drew, D2.drew⟩ ?_
  repeat (first
    | (refine ord_run0_ex rfl (by rfl) ?_
       apply Exists.intro
       refine ⟨fun w0 => ?_, ?_⟩
       · go_simp; rfl
       simp only [Act.put, List.setIfInBounds_toArray, List.set_cons_zero, List.set_cons_succ])
    | (refine ord_load rfl (by rfl) 36 _ rfl w.heap.size 0 rfl #[.int .i64 kind, .int .i64 (who : Int), .int .i64 (a.n.height : Int), .int .i64 (a.n.round : Int), .int .i64 value, .int .i64 valid] _ (fun W H => H.2.range) Tryz.underlying36 rfl hw6 ?_; simp only [Act.put, List.setIfInBounds_toArray, List.set_cons_zero, List.set_cons_succ])
    | (refine ord_run1_ex rfl (by rfl) ?_
       apply Exists.intro
       refine ⟨fun w0 hC => ?_, ?_⟩
       · have e0 := hC.1.cell 283; rw [tcells_sd] at e0; clear hC; go_simp; rfl
       simp only [Act.put, List.setIfInBounds_toArray, List.set_cons_zero, List.set_cons_succ]))
  refine ord_do rfl ?_
  go_wp2_with fail
  refine ⟨fun _ => ⟨(B2.alloc _).drew, (D2.alloc _).drew⟩, ?_⟩
  obtain ⟨W3, hW3⟩ : ∃ W3, W3 = (w2.alloc (.cells #[.int .i64 kind, .int .i64 (who : Int), .int .i64 (a.n.height : Int), .int .i64 (a.n.round : Int), .int .i64 value, .int .i64 valid] 36)).drew := ⟨_, rfl⟩
  have B3 := B2.alloc (.cells #[.int .i64 kind, .int .i64 (who : Int), .int .i64 (a.n.height : Int), .int .i64 (a.n.round : Int), .int .i64 value, .int .i64 valid] 36)
  have D3 := D2.alloc (.cells #[.int .i64 kind, .int .i64 (who : Int), .int .i64 (a.n.height : Int), .int .i64 (a.n.round : Int), .int .i64 value, .int .i64 valid] 36)
  have N3 : Blk W3 w2.heap.size #[.int .i64 kind, .int .i64 (who : Int), .int .i64 (a.n.height : Int), .int .i64 (a.n.round : Int), .int .i64 value, .int .i64 valid] 36 := by rw [hW3]; exact (Blk.new w2 _ _).drew
  replace B3 := B3.drew
  replace D3 := D3.drew
  rw [← hW3] at B3 D3
  have L3 : Below w2.heap.size w2 W3 := by rw [hW3]; exact below_drew' (by go_grown)
  have O3 := own_below O2 L3
  have S3 := own_below S2 L3
  have hnews : ∀ (j : Nat) (u : Value), (wdCells (sayW who a.n kind value valid))[j]? = some u → W3.cell? ((⟨w2.heap.size, 0, none⟩ : Addr).add j) = some u := fun j u hu => by
    rw [Addr.add_mid, Nat.zero_add, N3.cell j]
    simpa [wdCells, sayW] using hu
  have hone : ∀ u : Value, u ∈ wdCells (sayW who a.n kind value valid) → u.oneCell' = true := fun u hu => by
    simp only [wdCells, List.mem_cons, List.not_mem_nil, or_false] at hu
    rcases hu with rfl | rfl | rfl | rfl | rfl | rfl <;> rfl
  have h63 : a.words.length + 1 ≤ maxLen := by unfold maxLen; omega
  have hsz3 := L3.size
  rw [← hW3]
  clear hW3 N3 B2 D2 O2 S2
  refine ord_do rfl ?_
  refine wpList_append_own _ rfl _ _ 73 rfl (g + 1) 36 i0 _ 6 48 Tryz.underlying73 hi hz0 hz1 hz2 rfl (by decide) (.slice sa a.words.length sc) a.words.length (wdsCells a.words) rfl S3 ⟨w2.heap.size, 0, none⟩ 1 1 (wdCells (sayW who a.n kind value valid)) rfl rfl hnews hone h63 (by omega) (by omega) ?_
  intro v' w4 hown hgrow hnil
  obtain ⟨sb, sc', hv⟩ := own_shape hown
  subst hv
  have hg1 : some g ≠ (Value.slice sa a.words.length sc).ownBlock := fun h => by have := (own_block S3 g h.symm).1; omega
  have hg2 : some w.heap.size ≠ (Value.slice sa a.words.length sc).ownBlock := fun h => by have := (own_block H.said w.heap.size h.symm).2.1; omega
  have B4 := blk_grown B3 hgrow hg1
  have D4 := blk_grown D3 hgrow hg2
  refine ⟨fun _ => ⟨B4, D4⟩, ?_⟩
  simp only [Act.put, List.setIfInBounds_toArray, List.set_cons_zero, List.set_cons_succ]
  repeat (first
    | (refine ord_run0_ex rfl (by rfl) ?_
       apply Exists.intro
       refine ⟨fun w0 => ?_, ?_⟩
       · go_simp; rfl
       simp only [Act.put, List.setIfInBounds_toArray, List.set_cons_zero, List.set_cons_succ]))
  have e4 := B4.cell 283
  have f4 := B4.free 283
  rw [tcells_sd] at e4
  refine ord_do rfl ?_
  go_wp2_with fail
  refine ⟨fun hc => absurd hc (by decide), ?_⟩
  show wpOrd _ _ _ _ _ [] _ _ _
  unfold wpOrd
  have B5 := B4.setCell 283 (.slice sb (a.words.length + 1) sc')
  rw [tcells_set_sd] at B5
  have G5 := grown_setCell w4 g 283 (.slice sb (a.words.length + 1) sc')
  have D5 := D4.grown G5 (by omega)
  have O5 := own_grown2 (own_apart O3 S3 (by decide) hgrow) G5 H.ap
  have S5 := own_grown hown G5 (by omega)
  have hw : wdsCells (a.words ++ [sayW who a.n kind value valid]) = wdsCells a.words ++ wdCells (sayW who a.n kind value valid) := by simp [wdsCells]
  have L5 : Below g w (w4.setCell ⟨g, 283, none⟩ (.slice sb (a.words.length + 1) sc')) := bel_seq (bel_seq L2 (L3.mono (by omega))) (bel_seq (below_own S3 hgrow (by omega) (by omega)) (below_of_grown G5 (Nat.le_refl _) (by have := hgrow.size; omega)))
  have hsz5 : w.heap.size < (w4.setCell ⟨g, 283, none⟩ (.slice sb (a.words.length + 1) sc')).heap.size := D5.lt
  clear B4 D4 hgrow hnil hown O3 S3 L2 L3 B3 D3 hnews hone h63 e4 f4 hg1 hg2 G5 hsz3 hsz2
  go_upto_region 2 with fail
  generalize (w4.setCell ⟨g, 283, none⟩ (.slice sb (a.words.length + 1) sc')) = w5 at *
  have hiS := infoS (a.n.heard a.n.height)
  have hi2 := infoS (hearS (a.n.heard a.n.height) kind who a.n.height a.n.round value valid)
  have hone2 : (hearS (a.n.heard a.n.height) kind who a.n.height a.n.round value valid).cells.all (·.oneCell') = true := one_cell _
  have hhi : (a.n.height : Int) < 4 := by omega
  refine held_region (fun W => Blk W g (tcells (a.n.ni q) who (.slice sb (a.words.length + 1) sc')) 98 ∧ Blk W w.heap.size #[.int .i64 kind, .int .i64 (who : Int), .int .i64 (a.n.height : Int), .int .i64 (a.n.round : Int), .int .i64 value, .int .i64 valid] 36) [23] [(0, 0), (1, 0), (2, 0), (3, 0), (4, 0), (5, 1), (6, 0), (7, 0), (8, 0), (9, 0), (10, 0), (11, 1), (12, 0), (13, 0), (14, 0), (15, 0), (16, 1), (17, 1), (19, 0), (20, 0), (21, 0), (18, 2), (22, 0), (23, 2)] (by kernel_rfl) (by kernel_rfl) (by kernel_rfl) rfl (fun _ _ d _ _ h => by cases d <;> exact h) ⟨B5.drew, D5.drew⟩ ?_
  repeat (first
    | (refine ord_load rfl (by rfl) 46 _ rfl g (13 + a.n.height * 66) rfl (a.n.heard a.n.height).cells _ (fun W H => heard_range H.1 (a.n.heard a.n.height) (fun j hj => tcells_heard _ _ _ a.n.height j hh hj)) Tryz.underlying46 rfl hiS ?_; simp only [Act.put, List.setIfInBounds_toArray, List.set_cons_zero, List.set_cons_succ])
    | (refine ord_load rfl (by rfl) 36 _ rfl w.heap.size 0 rfl #[.int .i64 kind, .int .i64 (who : Int), .int .i64 (a.n.height : Int), .int .i64 (a.n.round : Int), .int .i64 value, .int .i64 valid] _ (fun W H => H.2.range) Tryz.underlying36 rfl hw6 ?_; simp only [Act.put, List.setIfInBounds_toArray, List.set_cons_zero, List.set_cons_succ])
    | (refine ord_run0_ex rfl (by rfl) ?_
       apply Exists.intro
       refine ⟨fun w0 => ?_, ?_⟩
       · go_simp; first | rfl | (rw [if_pos hhi])
       simp only [Act.put, List.setIfInBounds_toArray, List.set_cons_zero, List.set_cons_succ])
    | (refine ord_run1_ex rfl (by rfl) ?_
       apply Exists.intro
       refine ⟨fun w0 hC => ?_, ?_⟩
       · have e0 := hC.1.cell 0; rw [tcells_num _ _ _ 0 (by omega)] at e0; simp only [NI.num, Nd.ni] at e0; clear hC; go_simp; rfl
       simp only [Act.put, List.setIfInBounds_toArray, List.set_cons_zero, List.set_cons_succ]))
  refine ord_call_ex rfl (by rfl) ?_
  apply Exists.intro
  apply Exists.intro
  refine ⟨?_, ?_⟩
  · go_simp; exact ⟨rfl, rfl⟩
  refine (hearSheet_any (a.n.heard a.n.height) kind who a.n.height a.n.round value valid _).mono ?_
  rintro e w6 ⟨rfl, hb6⟩
  have B6 := B5.drew.below hb6
  have D6 := D5.drew.below hb6
  refine ⟨_, rfl, fun _ => ⟨B6, D6⟩, ?_⟩
  simp only [Act.put, List.setIfInBounds_toArray, List.set_cons_zero, List.set_cons_succ]
  refine ord_run0_ex rfl (by rfl) ?_
  apply Exists.intro
  refine ⟨fun w0 => ?_, ?_⟩
  · go_simp; first | rfl | (rw [if_pos hhi])
  simp only [Act.put, List.setIfInBounds_toArray, List.set_cons_zero, List.set_cons_succ]
  refine ord_step rfl (by rfl) ?_
  refine wp_store_mid _ _ _ rfl g (13 + a.n.height * 66) (hearS (a.n.heard a.n.height) kind who a.n.height a.n.round value valid).cells rfl rfl (B6.there_mid _ _ (by rw [tcells_size, cells_size]; omega)) hi2 hone2 ?_
  refine ⟨fun hc => absurd hc (by decide), ?_⟩
  have B7 := B6.setSheet a.n.height hh (hearS (a.n.heard a.n.height) kind who a.n.height a.n.round value valid)
  have G7 := grown_setCells w6 g (13 + a.n.height * 66) (hearS (a.n.heard a.n.height) kind who a.n.height a.n.round value valid).cells.toList
  have O7 := own_grown2 (own_below (W := w5.drew) O5 hb6) G7 H.ap
  have S7 := own_grown (own_below (W := w5.drew) S5 hb6) G7 (by omega)
  have L7 : Below g w (w6.setCells g (13 + a.n.height * 66) (hearS (a.n.heard a.n.height) kind who a.n.height a.n.round value valid).cells.toList) := bel_seq (bel_seq (below_drew' L5) (hb6.mono (by show g ≤ w5.heap.size; omega))) (below_of_grown G7 (Nat.le_refl _) (by have h1 : w5.heap.size ≤ w6.heap.size := hb6.size; omega))
  generalize (w6.setCells g (13 + a.n.height * 66) (hearS (a.n.heard a.n.height) kind who a.n.height a.n.round value valid).cells.toList) = w7 at *
  show wpOrd _ _ _ _ _ [] _ _ _
  unfold wpOrd
  go_wp2
  go_end0
  refine ⟨rfl, ⟨_, B7, O7, ?_, H.le, H.ap⟩, L7⟩
  show World.ownsRow _ _ _ _ _ (a.words ++ [sayW who a.n kind value valid]).length (wdsCells (a.words ++ [sayW who a.n kind value valid]))
  rw [hw, List.length_append]
  exact S7
end Go.Proofs.YtmmgaonlmpajbacGreat
