/-
  The statement VotesGood.
-/
import Derived.Test.YtmmgaonlmpajbaaVMeetLaw
import Derived.Test.YtmmgaonlmpajbaaVHearLaw
import Derived.Test.YtmmgaonlmpajbaaPlainN
namespace Go.Proofs.Ytmmgaonlmpajbaa
open Go.RowKit

/-- A whole block is loaded where a guard wants it. -/
theorem wpList_load_blk_g {P : Program} {ops : Array Oper} {rest : List Oper} {op : Oper} {a : Act} {w : World} {Q : Exit → Act → World → Prop} (hw : Region.wanted op (yielded ops a.tmps) = true) (ty : TypeId) (x : Operand) (ho : op.op = .load ty x)
    (g : Nat) (hx : a.eval x = .pointer (some ⟨g, 0, none⟩)) (t : TypeId) (D : Array Value) (d : TypeDesc) (hB : Blk w g D t)
    (hu : P.underlying ty = some d) (hd : d.isRow = true) (hi : (P.info? ty).map (·.size) = some D.size)
    (h : wpList P ops Q rest (a.put op.dst (.agg D)) w) : wpList P ops Q (op :: rest) a w :=
  BigFrame.wpList_want hw fun _ hK => wp_load_mid ty x ho g 0 hx D.toList d hB.range hu hd (by simpa using hi) (hK _ _ (by simpa using h))

theorem vhear_to' {S T : Sh} {k f h r v x : Int} (w : World) (hT : hearS S k f h r v x = T) :
    Calls Try.prog 33 #[.agg S.cells, .agg #[.int .i64 k, .int .i64 f, .int .i64 h, .int .i64 r, .int .i64 v, .int .i64 x]] w fun e w' => e = .returned (.agg T.cells) ∧ Below w.heap.size w w' := by
  rw [← hT]; exact vhear_any S k f h r v x w

/-- Blocks b and y have sheets. -/
def HeldG (S X : Sh) (b y : Nat) (w W : World) : Prop :=
  Blk W b S.cells 49 ∧ Blk W y X.cells 49 ∧ Below w.heap.size w W
theorem keepG {S X : Sh} {b y : Nat} {w W W' : World} (H : HeldG S X b y w W) (hb : Below W.heap.size W W') : HeldG S X b y w W' :=
  ⟨H.1.below hb, H.2.1.below hb, bel_trans H.2.2 hb⟩
theorem keepG_drew {S X : Sh} {b y : Nat} {w W : World} (H : HeldG S X b y w W) : HeldG S X b y w W.drew :=
  ⟨H.1.drew, H.2.1.drew, below_drew' H.2.2⟩

theorem row_wi {W : World} {g : Nat} {S : Sh} (B : Blk W g S.cells 49) (r : Nat) (hr : r < 6) : W.rangeAt g (18 + r * 4) [.int .i64 (S.wi r 0), .int .i64 (S.wi r 1), .int .i64 (S.wi r 2), .int .i64 (S.wi r 3)] := by
  intro j u hu
  have hj : j < 4 := by
    by_cases hlt : j < 4
    · exact hlt
    · rw [List.getElem?_eq_none (by simp; omega)] at hu; cases hu
  rw [B.cell, cells_wi S r j hr hj, ← hu]
  have hj' : j = 0 ∨ j = 1 ∨ j = 2 ∨ j = 3 := by omega
  rcases hj' with rfl | rfl | rfl | rfl <;> rfl

set_option maxRecDepth 100000 in
set_option maxHeartbeats 2000000 in
theorem good_walk (S X : Sh) (k f h r v x : Int) (w : World) (HX : Hid (hearS S k f h r v x = X)) (hH : Hid (∀ n : Int, heardN S n ≤ heardN X n)) (hA : Hid (∀ n : Nat, allV (S.wi n) ≤ allV (X.wi n))) (hGd : goodS S = false ∨ (goodS S = true ∧ goodS X = true)) :
    Calls Try.prog 10 #[.agg S.cells, .agg #[.int .i64 k, .int .i64 f, .int .i64 h, .int .i64 r, .int .i64 v, .int .i64 x]] w fun e w' => e = .returned (.bool true) ∧ Below w.heap.size w w' := by
  have hz := run_zero
  have hiS := info37 S
  have hiX := info37 X
  have hi36 : (Try.prog.info? 36).map (·.size) = some 4 := by kernel_rfl
  have B0 : Blk ((w.alloc (.cells S.cells 49)).alloc (.cells #[.int .i64 k, .int .i64 f, .int .i64 h, .int .i64 r, .int .i64 v, .int .i64 x] 23)) w.heap.size S.cells 49 := (Blk.new w _ _).alloc _
  go_enter Try.func10, Try.ntmps10
  go_wp2_with (first | (refine wpList_load_blk rfl 49 _ rfl w.heap.size rfl 49 S.cells _ B0 Try.underlying49 rfl hiS ?_))
  refine (vhear_to' _ HX.out).mono ?_
  rintro e w1 ⟨rfl, hb1⟩
  have hsz : w.heap.size + 1 < w1.heap.size := by have := hb1.size; simp at this; omega
  have D0 := (B0.below hb1).alloc (.cells zS.cells 49)
  have DX := Blk.new w1 zS.cells 49
  have hbb : Below w.heap.size w (w1.alloc (.cells zS.cells 49)) := (below_past (below_past hb1)).alloc (by omega) _
  clear B0 hb1
  go_wp2_with (first | (refine wpList_store_blk rfl 49 _ _ rfl w1.heap.size zS.cells X.cells 49 rfl rfl DX (sizes zS X) hiX (one_cell X) ?_; rintro w2 B3 K2; have HO : HeldG S X w.heap.size w1.heap.size w w2 := ⟨K2.blk _ _ _ (by omega) D0, B3, K2.bel _ _ (by omega) hbb⟩))
  clear D0 DX hbb B3 K2 hz
  go_loopw [10] (fun i W => ∃ m : Nat, m ≤ 6 ∧ i = .int .i64 (m : Int) ∧ HeldG S X w.heap.size w1.heap.size w W) (fun i _ => 6 - (intOf i).toNat)
  case atStart => exact ⟨0, by omega, rfl, HO⟩
  case round =>
    clear HO
    rename_i W
    obtain ⟨m, hm, rfl, HG⟩ := hrel
    by_cases hlt : m < 6
    · have l1 : decide (heardN X (m : Int) < heardN S (m : Int)) = false := by
        have := hH.out (m : Int)
        exact decide_eq_false (by omega)
      have l2 : decide (allV (X.wi m) < allV (S.wi m)) = false := by
        have := hA.out m
        exact decide_eq_false (by omega)
      go_wp2_with fail
      refine steady_region (C := HeldG S X w.heap.size w1.heap.size w) (by kernel_rfl) (by kernel_rfl) (keepG_drew HG) ?_
      repeat (first
        | (refine steady_skip (by rfl) ?_; simp only [Act.put, List.setIfInBounds_toArray, List.set_cons_zero, List.set_cons_succ])
        | (refine steady_move (by rfl) _ rfl ?_; simp only [Act.put, List.setIfInBounds_toArray, List.set_cons_zero, List.set_cons_succ])
        | (refine steady_assign (by rfl) _ rfl ?_; simp only [Act.put, List.setIfInBounds_toArray, List.set_cons_zero, List.set_cons_succ])
        | (refine steady_load (by rfl) 49 _ rfl w1.heap.size rfl 49 X.cells _ (fun _ H => H.2.1) Try.underlying49 rfl hiX ?_; simp only [Act.put, List.setIfInBounds_toArray, List.set_cons_zero, List.set_cons_succ])
        | (refine steady_load (by rfl) 49 _ rfl w.heap.size rfl 49 S.cells _ (fun _ H => H.1) Try.underlying49 rfl hiS ?_; simp only [Act.put, List.setIfInBounds_toArray, List.set_cons_zero, List.set_cons_succ])
        | (refine steady_load_mid (by rfl) 36 _ rfl w1.heap.size (18 + m * 4) rfl _ _ (fun _ H => row_wi H.2.1 m hlt) Try.underlying36 rfl hi36 ?_; simp only [Act.put, List.setIfInBounds_toArray, List.set_cons_zero, List.set_cons_succ])
        | (refine steady_load_mid (by rfl) 36 _ rfl w.heap.size (18 + m * 4) rfl _ _ (fun _ H => row_wi H.1 m hlt) Try.underlying36 rfl hi36 ?_; simp only [Act.put, List.setIfInBounds_toArray, List.set_cons_zero, List.set_cons_succ])
        | (refine steady_call_ex (by rfl) ?_
           apply Exists.intro
           apply Exists.intro
           apply Exists.intro
           refine ⟨fun w0 hC => ?_, fun w0 hC => ?_, ?_⟩
           · go_simp; first | with_reducible rfl | exact ⟨rfl, rfl⟩
           · first | (go_at_call_of 35 (Sh.cells X); exact (heard_any X _ _).mono (fun e w' ⟨he, hb⟩ => ⟨he, keepG hC hb⟩)) | (go_at_call_of 35 (Sh.cells S); exact (heard_any S _ _).mono (fun e w' ⟨he, hb⟩ => ⟨he, keepG hC hb⟩)) | (go_at_call_of 30 (X.wi m 0); exact (all_lit (X.wi m) _).mono (fun e w' ⟨he, hb⟩ => ⟨he, keepG hC hb⟩)) | (go_at_call_of 30 (S.wi m 0); exact (all_lit (S.wi m) _).mono (fun e w' ⟨he, hb⟩ => ⟨he, keepG hC hb⟩))
           simp only [Act.put, List.setIfInBounds_toArray, List.set_cons_zero, List.set_cons_succ])
        | (refine steady_run_ex (by rfl) ?_
           apply Exists.intro
           refine ⟨fun w0 hC => ?_, ?_⟩
           · go_simp; rfl
           simp only [Act.put, List.setIfInBounds_toArray, List.set_cons_zero, List.set_cons_succ]))
      refine wpQuiet_nil ?_
      intro w5 hC
      go_wp2
      go_roundw
      case rel => exact ⟨m + 1, by omega, by go_num, hC⟩
      case measure => simp [intOf]; omega
    · have B1 := HG.1
      rcases hGd with g1 | ⟨g1, g2⟩
      · go_wp2_with (first | (refine wpList_load_blk rfl 49 _ rfl w.heap.size rfl 49 S.cells _ B1 Try.underlying49 rfl hiS ?_))
        refine (vgood_any S _).mono ?_
        rintro e w3 ⟨rfl, hb3⟩
        rw [g1]
        go_wp2_with (first | (go_at_call 39; refine (kcounts_any _).mono ?_; rintro e w6 ⟨rfl, hb6⟩))
        go_ret
        exact ⟨rfl, bel_trans (bel_trans HG.2.2 hb3) hb6⟩
      · go_wp2_with (first | (refine wpList_load_blk rfl 49 _ rfl w.heap.size rfl 49 S.cells _ B1 Try.underlying49 rfl hiS ?_))
        refine (vgood_any S _).mono ?_
        rintro e w3 ⟨rfl, hb3⟩
        rw [g1]
        have B2 := HG.2.1.below hb3
        go_wp2_with (first | (refine wpList_load_blk_g rfl 49 _ rfl w1.heap.size rfl 49 X.cells _ B2 Try.underlying49 rfl hiX ?_))
        refine (vgood_any X _).mono ?_
        rintro e w4 ⟨rfl, hb4⟩
        rw [g2]
        go_wp2_with (first | (go_at_call 39; refine (kcounts_any _).mono ?_; rintro e w6 ⟨rfl, hb6⟩))
        go_ret
        exact ⟨rfl, bel_trans (bel_trans (bel_trans HG.2.2 hb3) hb4) hb6⟩

theorem votesGood_any (S : Sh) (k f h r v x : Int) (w : World) :
    Calls Try.prog 10 #[.agg S.cells, .agg #[.int .i64 k, .int .i64 f, .int .i64 h, .int .i64 r, .int .i64 v, .int .i64 x]] w fun e w' => e = .returned (.bool true) ∧ Below w.heap.size w w' := by
  refine good_walk S _ k f h r v x w rfl (fun n => heardN_mono S ⟨k, f, h, r, v, x⟩ n) (fun n => allV_mono S ⟨k, f, h, r, v, x⟩ n) ?_
  cases hg : goodS S
  · exact Or.inl rfl
  · exact Or.inr ⟨rfl, goodS_hear S ⟨k, f, h, r, v, x⟩ hg⟩
end Go.Proofs.Ytmmgaonlmpajbaa
