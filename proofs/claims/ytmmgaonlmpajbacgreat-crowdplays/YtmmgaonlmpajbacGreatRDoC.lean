/-
  The document's crowd: Do, where it is refused.
  The document's crowd: Do, a letter that is lost.
-/
import Derived.Test.YtmmgaonlmpajbacGreatRCrowd
import Derived.Test.YtmmgaonlmpajbacGreatRNode
import Derived.Test.YtmmgaonlmpajbacGreatRDoT
namespace Go.Proofs.YtmmgaonlmpajbacGreat
open Go.RowKit

set_option maxRecDepth 100000 in
set_option maxHeartbeats 8000000 in
theorem rdo_full {w : World} {g : Nat} {c : Cw} {q : Nat → Value} {nt : Value} (H : CwAt w g 54 c q nt) (a : Ac) (h6 : c.acts = 600) :
    Calls Tryz.prog 8 #[.pointer (some ⟨g, 0, none⟩), .agg (acArr a)] w fun e w' => e = .returned (.agg (refused 5)) ∧ Below w.heap.size w w' := by
  have hi := info_rep (5) 0 fun _ => 0
  have ho := one_rep (5) 0 fun _ => 0
  have Z : Blk ((w.alloc (.cells (acArr a) 38)).alloc (.cells zR 33)) (w.heap.size + 1) zR 33 := Blk.new1 w _ _ _
  have L0 : Below w.heap.size w ((w.alloc (.cells (acArr a) 38)).alloc (.cells zR 33)) := by go_grown
  have H0 := H.keep L0
  clear H
  go_enter Tryz.func8, Tryz.ntmps8
  go_upto_region 1 with fail
  generalize ((w.alloc (.cells (acArr a) 38)).alloc (.cells zR 33)) = w0 at Z L0 H0 ⊢
  have c0 := H0.acts
  rw [h6] at c0
  replace c0 : w0.cell? ⟨g, 1130, none⟩ = some (.int .i64 600) := c0
  clear h6 H0
  go_wp2_with (first
    | (go_at_call 24; refine (no_any 5 _).mono ?_; rintro e w2 ⟨rfl, L2⟩; have Z2 := Z.below L2)
    | (refine wpList_store_blk rfl 33 _ _ rfl (w.heap.size + 1) zR (refused 5) 33 rfl rfl Z2 rfl hi ho ?_; rintro w3 B3 K3))
  exact bodyPost_ret (result_rep rfl _ _ (w.heap.size + 1) _ _ _ rfl B3) rfl ⟨rfl, K3.bel _ _ (by omega) (bel_trans L0 L2)⟩

set_option maxRecDepth 100000 in
set_option maxHeartbeats 8000000 in
theorem rdo_none {w : World} {g : Nat} {c : Cw} {q : Nat → Value} {nt : Value} (H : CwAt w g 54 c q nt) (a : Ac) (h6 : c.acts < 600) {d : Cw} (hd : c.more = d) (hk : a.kind ≠ 1 ∧ a.kind ≠ 2 ∧ a.kind ≠ 3 ∧ a.kind ≠ 4 ∧ a.kind ≠ 5 ∧ a.kind ≠ 6) :
    Calls Tryz.prog 8 #[.pointer (some ⟨g, 0, none⟩), .agg (acArr a)] w (DidR w g nt d (refused 3)) := by
  have hi := info_rep (3) 0 fun _ => 0
  have ho := one_rep (3) 0 fun _ => 0
  have hz := run_zeroN
  have A : Blk ((w.alloc (.cells (acArr a) 38)).alloc (.cells zR 33)) w.heap.size (acArr a) 38 := (Blk.new w _ _).alloc _
  have Z : Blk ((w.alloc (.cells (acArr a) 38)).alloc (.cells zR 33)) (w.heap.size + 1) zR 33 := Blk.new1 w _ _ _
  have L0 : Below w.heap.size w ((w.alloc (.cells (acArr a) 38)).alloc (.cells zR 33)) := by go_grown
  have H0 := H.keep L0
  have hgw := H.blk.lt
  have hacts : ((c.acts : Int) == 600) = false := beq_eq_false_iff_ne.2 (by omega)
  have hactI : (c.acts : Int) < 600 := by omega
  clear H
  go_enter Tryz.func8, Tryz.ntmps8
  go_upto_region 1 with fail
  generalize ((w.alloc (.cells (acArr a) 38)).alloc (.cells zR 33)) = w0 at A Z L0 H0 ⊢
  have c0 := H0.acts
  have f0 := H0.blk.free 1130
  go_upto_region 5 with fail
  obtain ⟨w1, hw1⟩ : ∃ w1, w1 = w0.setCell ⟨g, 1130, none⟩ (.int .i64 ((c.acts : Int) + 1)) := ⟨_, rfl⟩
  have H1 : CwAt w1 g 54 d q nt := by rw [hw1, ← hd]; exact H0.more (by decide) (by decide)
  have T1 : Touch g nt w w1 := by rw [hw1]; exact (Touch.below L0).trans (Touch.grownB (grown_setCell w0 g 1130 _)) (Next.refl _ _)
  have A1 : Blk w1 w.heap.size (acArr a) 38 := by rw [hw1]; exact A.setCell_other _ _ (by show w.heap.size ≠ g; omega)
  have Z1 : Blk w1 (w.heap.size + 1) zR 33 := by rw [hw1]; exact Z.setCell_other _ _ (by show w.heap.size + 1 ≠ g; omega)
  rw [← hw1]
  clear hw1 c0 f0 H0 A Z L0 hacts hactI h6 hd
  have a1 := A1.cell 1
  rw [show (acArr a)[1]? = some (.int .i64 a.node) from rfl] at a1
  have N2 : Blk (w1.alloc (.cells zN.cells 50)) w1.heap.size zN.cells 50 := Blk.new w1 _ _
  have L2 : Below w1.heap.size w1 (w1.alloc (.cells zN.cells 50)) := by go_grown
  have hp0 := Z1.lt
  go_upto_region 9 with fail
  generalize (w1.alloc (.cells zN.cells 50)) = w2 at N2 L2 ⊢
  have H2 := H1.keep L2
  have A2 := A1.below L2
  have Z2 := Z1.below L2
  have T2 : Touch g nt w w2 := T1.trans (Touch.below L2) (Next.refl _ _)
  have hp2 := N2.lt
  clear H1 A1 Z1 T1 L2 a1
  generalize w1.heap.size = ps at N2 hp0 hp2 ⊢
  have a0 := A2.cell 0
  rw [show (acArr a)[0]? = some (.int .i64 a.kind) from rfl] at a0
  obtain ⟨j1, j2, j3, j4, j5, j6⟩ := hk
  have k1 : (a.kind == 1) = false := beq_eq_false_iff_ne.2 j1
  have k2 : (a.kind == 2) = false := beq_eq_false_iff_ne.2 j2
  have k3 : (a.kind == 3) = false := beq_eq_false_iff_ne.2 j3
  have k4 : (a.kind == 4) = false := beq_eq_false_iff_ne.2 j4
  have k5 : (a.kind == 5) = false := beq_eq_false_iff_ne.2 j5
  have k6 : (a.kind == 6) = false := beq_eq_false_iff_ne.2 j6
  clear j1 j2 j3 j4 j5 j6 A2 N2
  go_wp2_with (first
    | (go_at_call 24; refine (no_any 3 _).mono ?_; rintro e w8 ⟨rfl, L8⟩; have Z8 := Z2.below L8)
    | (refine wpList_store_blk rfl 33 _ _ rfl (w.heap.size + 1) zR (refused 3) 33 rfl rfl Z8 rfl hi ho ?_; rintro w9 B9 K9))
  exact bodyPost_ret (result_rep rfl _ _ (w.heap.size + 1) _ _ _ rfl B9) rfl ⟨rfl, q, nt, (H2.keep L8).kept K9 Z8 (by decide) (by decide) (by decide), (T2.more L8 (by omega)).more (K9.bel _ _ (Nat.le_refl _) (Below.refl _ _)) (by omega), Next.refl _ _⟩

set_option maxRecDepth 100000 in
set_option maxHeartbeats 8000000 in
theorem rdo_submit_range {w : World} {g : Nat} {c : Cw} {q : Nat → Value} {nt : Value} (H : CwAt w g 54 c q nt) (a : Ac) (h6 : c.acts < 600) {d : Cw} (hd : c.more = d) (hk : a.kind = 1) (hw : win a.node 0 3 = false) :
    Calls Tryz.prog 8 #[.pointer (some ⟨g, 0, none⟩), .agg (acArr a)] w (DidR w g nt d (refused 2)) := by
  have hi := info_rep (2) 0 fun _ => 0
  have ho := one_rep (2) 0 fun _ => 0
  have hz := run_zeroN
  have A : Blk ((w.alloc (.cells (acArr a) 38)).alloc (.cells zR 33)) w.heap.size (acArr a) 38 := (Blk.new w _ _).alloc _
  have Z : Blk ((w.alloc (.cells (acArr a) 38)).alloc (.cells zR 33)) (w.heap.size + 1) zR 33 := Blk.new1 w _ _ _
  have L0 : Below w.heap.size w ((w.alloc (.cells (acArr a) 38)).alloc (.cells zR 33)) := by go_grown
  have H0 := H.keep L0
  have hgw := H.blk.lt
  have hacts : ((c.acts : Int) == 600) = false := beq_eq_false_iff_ne.2 (by omega)
  have hactI : (c.acts : Int) < 600 := by omega
  clear H
  go_enter Tryz.func8, Tryz.ntmps8
  go_upto_region 1 with fail
  generalize ((w.alloc (.cells (acArr a) 38)).alloc (.cells zR 33)) = w0 at A Z L0 H0 ⊢
  have c0 := H0.acts
  have f0 := H0.blk.free 1130
  go_upto_region 5 with fail
  obtain ⟨w1, hw1⟩ : ∃ w1, w1 = w0.setCell ⟨g, 1130, none⟩ (.int .i64 ((c.acts : Int) + 1)) := ⟨_, rfl⟩
  have H1 : CwAt w1 g 54 d q nt := by rw [hw1, ← hd]; exact H0.more (by decide) (by decide)
  have T1 : Touch g nt w w1 := by rw [hw1]; exact (Touch.below L0).trans (Touch.grownB (grown_setCell w0 g 1130 _)) (Next.refl _ _)
  have A1 : Blk w1 w.heap.size (acArr a) 38 := by rw [hw1]; exact A.setCell_other _ _ (by show w.heap.size ≠ g; omega)
  have Z1 : Blk w1 (w.heap.size + 1) zR 33 := by rw [hw1]; exact Z.setCell_other _ _ (by show w.heap.size + 1 ≠ g; omega)
  rw [← hw1]
  clear hw1 c0 f0 H0 A Z L0 hacts hactI h6 hd
  have a1 := A1.cell 1
  rw [show (acArr a)[1]? = some (.int .i64 a.node) from rfl] at a1
  have N2 : Blk (w1.alloc (.cells zN.cells 50)) w1.heap.size zN.cells 50 := Blk.new w1 _ _
  have L2 : Below w1.heap.size w1 (w1.alloc (.cells zN.cells 50)) := by go_grown
  have hp0 := Z1.lt
  go_upto_region 9 with fail
  generalize (w1.alloc (.cells zN.cells 50)) = w2 at N2 L2 ⊢
  have H2 := H1.keep L2
  have A2 := A1.below L2
  have Z2 := Z1.below L2
  have T2 : Touch g nt w w2 := T1.trans (Touch.below L2) (Next.refl _ _)
  have hp2 := N2.lt
  clear H1 A1 Z1 T1 L2 a1
  generalize w1.heap.size = ps at N2 hp0 hp2 ⊢
  have a0 := A2.cell 0
  rw [show (acArr a)[0]? = some (.int .i64 a.kind) from rfl] at a0
  have k1 : (a.kind == 1) = true := by rw [hk]; rfl
  have k5 : (a.kind == 5) = false := by rw [hk]; rfl
  clear hk
  clear A2 N2
  go_wp2_with (first
    | (go_at_call 15; refine (rwithin_any _ _ _ _).mono ?_; rw [hw]; rintro e w' ⟨rfl, hw'⟩; obtain rfl := hw'.symm)
    | (go_at_call 24; refine (no_any 2 _).mono ?_; rintro e w8 ⟨rfl, L8⟩; have Z8 := Z2.below L8)
    | (refine wpList_store_blk rfl 33 _ _ rfl (w.heap.size + 1) zR (refused 2) 33 rfl rfl Z8 rfl hi ho ?_; rintro w9 B9 K9))
  exact bodyPost_ret (result_rep rfl _ _ (w.heap.size + 1) _ _ _ rfl B9) rfl ⟨rfl, q, nt, (H2.keep L8).kept K9 Z8 (by decide) (by decide) (by decide), (T2.more L8 (by omega)).more (K9.bel _ _ (Nat.le_refl _) (Below.refl _ _)) (by omega), Next.refl _ _⟩

set_option maxRecDepth 100000 in
set_option maxHeartbeats 8000000 in
theorem rdo_time_range {w : World} {g : Nat} {c : Cw} {q : Nat → Value} {nt : Value} (H : CwAt w g 54 c q nt) (a : Ac) (h6 : c.acts < 600) {d : Cw} (hd : c.more = d) (hk : a.kind = 4) (hw : win a.node 0 3 = false) :
    Calls Tryz.prog 8 #[.pointer (some ⟨g, 0, none⟩), .agg (acArr a)] w (DidR w g nt d (refused 2)) := by
  have hi := info_rep (2) 0 fun _ => 0
  have ho := one_rep (2) 0 fun _ => 0
  have hz := run_zeroN
  have A : Blk ((w.alloc (.cells (acArr a) 38)).alloc (.cells zR 33)) w.heap.size (acArr a) 38 := (Blk.new w _ _).alloc _
  have Z : Blk ((w.alloc (.cells (acArr a) 38)).alloc (.cells zR 33)) (w.heap.size + 1) zR 33 := Blk.new1 w _ _ _
  have L0 : Below w.heap.size w ((w.alloc (.cells (acArr a) 38)).alloc (.cells zR 33)) := by go_grown
  have H0 := H.keep L0
  have hgw := H.blk.lt
  have hacts : ((c.acts : Int) == 600) = false := beq_eq_false_iff_ne.2 (by omega)
  have hactI : (c.acts : Int) < 600 := by omega
  clear H
  go_enter Tryz.func8, Tryz.ntmps8
  go_upto_region 1 with fail
  generalize ((w.alloc (.cells (acArr a) 38)).alloc (.cells zR 33)) = w0 at A Z L0 H0 ⊢
  have c0 := H0.acts
  have f0 := H0.blk.free 1130
  go_upto_region 5 with fail
  obtain ⟨w1, hw1⟩ : ∃ w1, w1 = w0.setCell ⟨g, 1130, none⟩ (.int .i64 ((c.acts : Int) + 1)) := ⟨_, rfl⟩
  have H1 : CwAt w1 g 54 d q nt := by rw [hw1, ← hd]; exact H0.more (by decide) (by decide)
  have T1 : Touch g nt w w1 := by rw [hw1]; exact (Touch.below L0).trans (Touch.grownB (grown_setCell w0 g 1130 _)) (Next.refl _ _)
  have A1 : Blk w1 w.heap.size (acArr a) 38 := by rw [hw1]; exact A.setCell_other _ _ (by show w.heap.size ≠ g; omega)
  have Z1 : Blk w1 (w.heap.size + 1) zR 33 := by rw [hw1]; exact Z.setCell_other _ _ (by show w.heap.size + 1 ≠ g; omega)
  rw [← hw1]
  clear hw1 c0 f0 H0 A Z L0 hacts hactI h6 hd
  have a1 := A1.cell 1
  rw [show (acArr a)[1]? = some (.int .i64 a.node) from rfl] at a1
  have N2 : Blk (w1.alloc (.cells zN.cells 50)) w1.heap.size zN.cells 50 := Blk.new w1 _ _
  have L2 : Below w1.heap.size w1 (w1.alloc (.cells zN.cells 50)) := by go_grown
  have hp0 := Z1.lt
  go_upto_region 9 with fail
  generalize (w1.alloc (.cells zN.cells 50)) = w2 at N2 L2 ⊢
  have H2 := H1.keep L2
  have A2 := A1.below L2
  have Z2 := Z1.below L2
  have T2 : Touch g nt w w2 := T1.trans (Touch.below L2) (Next.refl _ _)
  have hp2 := N2.lt
  clear H1 A1 Z1 T1 L2 a1
  generalize w1.heap.size = ps at N2 hp0 hp2 ⊢
  have a0 := A2.cell 0
  rw [show (acArr a)[0]? = some (.int .i64 a.kind) from rfl] at a0
  have k1 : (a.kind == 1) = false := by rw [hk]; rfl
  have k4 : (a.kind == 4) = true := by rw [hk]; rfl
  have k5 : (a.kind == 5) = false := by rw [hk]; rfl
  clear hk
  clear A2 N2
  go_wp2_with (first
    | (go_at_call 15; refine (rwithin_any _ _ _ _).mono ?_; rw [hw]; rintro e w' ⟨rfl, hw'⟩; obtain rfl := hw'.symm)
    | (go_at_call 24; refine (no_any 2 _).mono ?_; rintro e w8 ⟨rfl, L8⟩; have Z8 := Z2.below L8)
    | (refine wpList_store_blk rfl 33 _ _ rfl (w.heap.size + 1) zR (refused 2) 33 rfl rfl Z8 rfl hi ho ?_; rintro w9 B9 K9))
  exact bodyPost_ret (result_rep rfl _ _ (w.heap.size + 1) _ _ _ rfl B9) rfl ⟨rfl, q, nt, (H2.keep L8).kept K9 Z8 (by decide) (by decide) (by decide), (T2.more L8 (by omega)).more (K9.bel _ _ (Nat.le_refl _) (Below.refl _ _)) (by omega), Next.refl _ _⟩

set_option maxRecDepth 100000 in
set_option maxHeartbeats 8000000 in
theorem rdo_lie_bad {w : World} {g : Nat} {c : Cw} {q : Nat → Value} {nt : Value} (H : CwAt w g 54 c q nt) (a : Ac) (h6 : c.acts < 600) {d : Cw} (hd : c.more = d) (hk : a.kind = 5) (code : Int) (hc : goodC a.word.k a.word.f a.word.h a.word.r a.word.v a.word.x = code) (hne : code ≠ 0) :
    Calls Tryz.prog 8 #[.pointer (some ⟨g, 0, none⟩), .agg (acArr a)] w (DidR w g nt d (refused code)) := by
  have hi := info_rep (code) 0 fun _ => 0
  have ho := one_rep (code) 0 fun _ => 0
  have hi6 : (Tryz.prog.info? 36).map (·.size) = some (wdArr a.word).size := by show _ = some 6; kernel_rfl
  have hwg : ∀ W, Calls Tryz.prog 25 #[.agg (wdArr a.word)] W fun e w' => e = .returned (.int .i64 code) ∧ Below W.heap.size W w' := fun W => by have := wordError_any a.word.k a.word.f a.word.h a.word.r a.word.v a.word.x W; rwa [hc] at this
  have hc2 : (code != 0) = true := by simpa using hne
  clear hc hne
  have hz := run_zeroN
  have A : Blk ((w.alloc (.cells (acArr a) 38)).alloc (.cells zR 33)) w.heap.size (acArr a) 38 := (Blk.new w _ _).alloc _
  have Z : Blk ((w.alloc (.cells (acArr a) 38)).alloc (.cells zR 33)) (w.heap.size + 1) zR 33 := Blk.new1 w _ _ _
  have L0 : Below w.heap.size w ((w.alloc (.cells (acArr a) 38)).alloc (.cells zR 33)) := by go_grown
  have H0 := H.keep L0
  have hgw := H.blk.lt
  have hacts : ((c.acts : Int) == 600) = false := beq_eq_false_iff_ne.2 (by omega)
  have hactI : (c.acts : Int) < 600 := by omega
  clear H
  go_enter Tryz.func8, Tryz.ntmps8
  go_upto_region 1 with fail
  generalize ((w.alloc (.cells (acArr a) 38)).alloc (.cells zR 33)) = w0 at A Z L0 H0 ⊢
  have c0 := H0.acts
  have f0 := H0.blk.free 1130
  go_upto_region 5 with fail
  obtain ⟨w1, hw1⟩ : ∃ w1, w1 = w0.setCell ⟨g, 1130, none⟩ (.int .i64 ((c.acts : Int) + 1)) := ⟨_, rfl⟩
  have H1 : CwAt w1 g 54 d q nt := by rw [hw1, ← hd]; exact H0.more (by decide) (by decide)
  have T1 : Touch g nt w w1 := by rw [hw1]; exact (Touch.below L0).trans (Touch.grownB (grown_setCell w0 g 1130 _)) (Next.refl _ _)
  have A1 : Blk w1 w.heap.size (acArr a) 38 := by rw [hw1]; exact A.setCell_other _ _ (by show w.heap.size ≠ g; omega)
  have Z1 : Blk w1 (w.heap.size + 1) zR 33 := by rw [hw1]; exact Z.setCell_other _ _ (by show w.heap.size + 1 ≠ g; omega)
  rw [← hw1]
  clear hw1 c0 f0 H0 A Z L0 hacts hactI h6 hd
  have a1 := A1.cell 1
  rw [show (acArr a)[1]? = some (.int .i64 a.node) from rfl] at a1
  have N2 : Blk (w1.alloc (.cells zN.cells 50)) w1.heap.size zN.cells 50 := Blk.new w1 _ _
  have L2 : Below w1.heap.size w1 (w1.alloc (.cells zN.cells 50)) := by go_grown
  have hp0 := Z1.lt
  go_upto_region 9 with fail
  generalize (w1.alloc (.cells zN.cells 50)) = w2 at N2 L2 ⊢
  have H2 := H1.keep L2
  have A2 := A1.below L2
  have Z2 := Z1.below L2
  have T2 : Touch g nt w w2 := T1.trans (Touch.below L2) (Next.refl _ _)
  have hp2 := N2.lt
  clear H1 A1 Z1 T1 L2 a1
  generalize w1.heap.size = ps at N2 hp0 hp2 ⊢
  have a0 := A2.cell 0
  rw [show (acArr a)[0]? = some (.int .i64 a.kind) from rfl] at a0
  have k1 : (a.kind == 1) = false := by rw [hk]; rfl
  have k4 : (a.kind == 4) = false := by rw [hk]; rfl
  have k5 : (a.kind == 5) = true := by rw [hk]; rfl
  clear hk
  clear N2
  go_wp2_with (first
    | (refine wpList_load_part (by rfl) 36 _ rfl w.heap.size 4 (by first | rfl | simp) (wdArr a.word) _ (act_word A2) Tryz.underlying36 rfl hi6 ?_)
    | (go_at_call 25; refine (hwg _).mono ?_; rintro e w3 ⟨rfl, L3⟩; have Z3 := Z2.below L3; have H3 := H2.keep L3; have T3 := T2.more L3 (by omega); have A3 := A2.below L3; have hs23 := L3.size)
    | (go_at_call 24; refine (no_any code _).mono ?_; rintro e w8 ⟨rfl, L8⟩; have Z8 := Z3.below L8)
    | (refine wpList_store_blk rfl 33 _ _ rfl (w.heap.size + 1) zR (refused code) 33 rfl rfl Z8 rfl hi ho ?_; rintro w9 B9 K9))
  exact bodyPost_ret (result_rep rfl _ _ (w.heap.size + 1) _ _ _ rfl B9) rfl ⟨rfl, q, nt, (H3.keep L8).kept K9 Z8 (by decide) (by decide) (by decide), (T3.more L8 (by omega)).more (K9.bel _ _ (Nat.le_refl _) (Below.refl _ _)) (by omega), Next.refl _ _⟩

set_option maxRecDepth 100000 in
set_option maxHeartbeats 8000000 in
theorem rdo_lie_true {w : World} {g : Nat} {c : Cw} {q : Nat → Value} {nt : Value} (H : CwAt w g 54 c q nt) (a : Ac) (h6 : c.acts < 600) {d : Cw} (hd : c.more = d) (hk : a.kind = 5) (hc : goodC a.word.k a.word.f a.word.h a.word.r a.word.v a.word.x = 0) (hf : a.word.f ≠ c.liar) :
    Calls Tryz.prog 8 #[.pointer (some ⟨g, 0, none⟩), .agg (acArr a)] w (DidR w g nt d (refused 6)) := by
  have hi := info_rep (6) 0 fun _ => 0
  have ho := one_rep (6) 0 fun _ => 0
  have hi6 : (Tryz.prog.info? 36).map (·.size) = some (wdArr a.word).size := by show _ = some 6; kernel_rfl
  have hwg : ∀ W, Calls Tryz.prog 25 #[.agg (wdArr a.word)] W fun e w' => e = .returned (.int .i64 0) ∧ Below W.heap.size W w' := fun W => by have := wordError_any a.word.k a.word.f a.word.h a.word.r a.word.v a.word.x W; rwa [hc] at this
  have hf2 : (a.word.f != d.liar) = true := by rw [← hd]; show (a.word.f != c.liar) = _; simpa using hf
  clear hc hf
  have hz := run_zeroN
  have A : Blk ((w.alloc (.cells (acArr a) 38)).alloc (.cells zR 33)) w.heap.size (acArr a) 38 := (Blk.new w _ _).alloc _
  have Z : Blk ((w.alloc (.cells (acArr a) 38)).alloc (.cells zR 33)) (w.heap.size + 1) zR 33 := Blk.new1 w _ _ _
  have L0 : Below w.heap.size w ((w.alloc (.cells (acArr a) 38)).alloc (.cells zR 33)) := by go_grown
  have H0 := H.keep L0
  have hgw := H.blk.lt
  have hacts : ((c.acts : Int) == 600) = false := beq_eq_false_iff_ne.2 (by omega)
  have hactI : (c.acts : Int) < 600 := by omega
  clear H
  go_enter Tryz.func8, Tryz.ntmps8
  go_upto_region 1 with fail
  generalize ((w.alloc (.cells (acArr a) 38)).alloc (.cells zR 33)) = w0 at A Z L0 H0 ⊢
  have c0 := H0.acts
  have f0 := H0.blk.free 1130
  go_upto_region 5 with fail
  obtain ⟨w1, hw1⟩ : ∃ w1, w1 = w0.setCell ⟨g, 1130, none⟩ (.int .i64 ((c.acts : Int) + 1)) := ⟨_, rfl⟩
  have H1 : CwAt w1 g 54 d q nt := by rw [hw1, ← hd]; exact H0.more (by decide) (by decide)
  have T1 : Touch g nt w w1 := by rw [hw1]; exact (Touch.below L0).trans (Touch.grownB (grown_setCell w0 g 1130 _)) (Next.refl _ _)
  have A1 : Blk w1 w.heap.size (acArr a) 38 := by rw [hw1]; exact A.setCell_other _ _ (by show w.heap.size ≠ g; omega)
  have Z1 : Blk w1 (w.heap.size + 1) zR 33 := by rw [hw1]; exact Z.setCell_other _ _ (by show w.heap.size + 1 ≠ g; omega)
  rw [← hw1]
  clear hw1 c0 f0 H0 A Z L0 hacts hactI h6 hd
  have a1 := A1.cell 1
  rw [show (acArr a)[1]? = some (.int .i64 a.node) from rfl] at a1
  have N2 : Blk (w1.alloc (.cells zN.cells 50)) w1.heap.size zN.cells 50 := Blk.new w1 _ _
  have L2 : Below w1.heap.size w1 (w1.alloc (.cells zN.cells 50)) := by go_grown
  have hp0 := Z1.lt
  go_upto_region 9 with fail
  generalize (w1.alloc (.cells zN.cells 50)) = w2 at N2 L2 ⊢
  have H2 := H1.keep L2
  have A2 := A1.below L2
  have Z2 := Z1.below L2
  have T2 : Touch g nt w w2 := T1.trans (Touch.below L2) (Next.refl _ _)
  have hp2 := N2.lt
  clear H1 A1 Z1 T1 L2 a1
  generalize w1.heap.size = ps at N2 hp0 hp2 ⊢
  have a0 := A2.cell 0
  rw [show (acArr a)[0]? = some (.int .i64 a.kind) from rfl] at a0
  have k1 : (a.kind == 1) = false := by rw [hk]; rfl
  have k4 : (a.kind == 4) = false := by rw [hk]; rfl
  have k5 : (a.kind == 5) = true := by rw [hk]; rfl
  clear hk
  clear N2
  go_upto_region 18 with (first
    | (refine wpList_load_part (by rfl) 36 _ rfl w.heap.size 4 (by first | rfl | simp) (wdArr a.word) _ (act_word A2) Tryz.underlying36 rfl hi6 ?_)
    | (go_at_call 25; refine (hwg _).mono ?_; rintro e w3 ⟨rfl, L3⟩; have Z3 := Z2.below L3; have H3 := H2.keep L3; have T3 := T2.more L3 (by omega); have A3 := A2.below L3; have hs23 := L3.size))
  have e1 := A3.cell 5
  rw [show (acArr a)[5]? = some (.int .i64 a.word.f) from rfl] at e1
  have e2 := H3.liar
  clear A2 A3
  go_quiet (fail)
  have Z4 := Z3.drewN nq
  have H4 : CwAt (w3.drewN nq) g 54 d q nt := H3.keep (below_drewN' (Below.refl _ w3) nq)
  have T4 := T3.more (below_drewN' (Below.refl w3.heap.size w3) nq) (by omega)
  have hs34 := (below_drewN' (Below.refl w3.heap.size w3) nq).size
  go_wp2_with (first
    | (go_at_call 24; refine (no_any 6 _).mono ?_; rintro e w8 ⟨rfl, L8⟩; have Z8 := Z4.below L8)
    | (refine wpList_store_blk rfl 33 _ _ rfl (w.heap.size + 1) zR (refused 6) 33 rfl rfl Z8 rfl hi ho ?_; rintro w9 B9 K9))
  exact bodyPost_ret (result_rep rfl _ _ (w.heap.size + 1) _ _ _ rfl B9) rfl ⟨rfl, q, nt, (H4.keep L8).kept K9 Z8 (by decide) (by decide) (by decide), (T4.more L8 (by omega)).more (K9.bel _ _ (Nat.le_refl _) (Below.refl _ _)) (by omega), Next.refl _ _⟩

set_option maxRecDepth 100000 in
set_option maxHeartbeats 8000000 in
theorem rdo_lie_range {w : World} {g : Nat} {c : Cw} {q : Nat → Value} {nt : Value} (H : CwAt w g 54 c q nt) (a : Ac) (h6 : c.acts < 600) {d : Cw} (hd : c.more = d) (hk : a.kind = 5) (hc : goodC a.word.k a.word.f a.word.h a.word.r a.word.v a.word.x = 0) (hf : a.word.f = c.liar) (hw : win a.node 0 3 = false) :
    Calls Tryz.prog 8 #[.pointer (some ⟨g, 0, none⟩), .agg (acArr a)] w (DidR w g nt d (refused 2)) := by
  have hi := info_rep (2) 0 fun _ => 0
  have ho := one_rep (2) 0 fun _ => 0
  have hi6 : (Tryz.prog.info? 36).map (·.size) = some (wdArr a.word).size := by show _ = some 6; kernel_rfl
  have hwg : ∀ W, Calls Tryz.prog 25 #[.agg (wdArr a.word)] W fun e w' => e = .returned (.int .i64 0) ∧ Below W.heap.size W w' := fun W => by have := wordError_any a.word.k a.word.f a.word.h a.word.r a.word.v a.word.x W; rwa [hc] at this
  have hf2 : (a.word.f != d.liar) = false := by rw [← hd]; show (a.word.f != c.liar) = _; simpa using hf
  clear hc hf
  have hz := run_zeroN
  have A : Blk ((w.alloc (.cells (acArr a) 38)).alloc (.cells zR 33)) w.heap.size (acArr a) 38 := (Blk.new w _ _).alloc _
  have Z : Blk ((w.alloc (.cells (acArr a) 38)).alloc (.cells zR 33)) (w.heap.size + 1) zR 33 := Blk.new1 w _ _ _
  have L0 : Below w.heap.size w ((w.alloc (.cells (acArr a) 38)).alloc (.cells zR 33)) := by go_grown
  have H0 := H.keep L0
  have hgw := H.blk.lt
  have hacts : ((c.acts : Int) == 600) = false := beq_eq_false_iff_ne.2 (by omega)
  have hactI : (c.acts : Int) < 600 := by omega
  clear H
  go_enter Tryz.func8, Tryz.ntmps8
  go_upto_region 1 with fail
  generalize ((w.alloc (.cells (acArr a) 38)).alloc (.cells zR 33)) = w0 at A Z L0 H0 ⊢
  have c0 := H0.acts
  have f0 := H0.blk.free 1130
  go_upto_region 5 with fail
  obtain ⟨w1, hw1⟩ : ∃ w1, w1 = w0.setCell ⟨g, 1130, none⟩ (.int .i64 ((c.acts : Int) + 1)) := ⟨_, rfl⟩
  have H1 : CwAt w1 g 54 d q nt := by rw [hw1, ← hd]; exact H0.more (by decide) (by decide)
  have T1 : Touch g nt w w1 := by rw [hw1]; exact (Touch.below L0).trans (Touch.grownB (grown_setCell w0 g 1130 _)) (Next.refl _ _)
  have A1 : Blk w1 w.heap.size (acArr a) 38 := by rw [hw1]; exact A.setCell_other _ _ (by show w.heap.size ≠ g; omega)
  have Z1 : Blk w1 (w.heap.size + 1) zR 33 := by rw [hw1]; exact Z.setCell_other _ _ (by show w.heap.size + 1 ≠ g; omega)
  rw [← hw1]
  clear hw1 c0 f0 H0 A Z L0 hacts hactI h6 hd
  have a1 := A1.cell 1
  rw [show (acArr a)[1]? = some (.int .i64 a.node) from rfl] at a1
  have N2 : Blk (w1.alloc (.cells zN.cells 50)) w1.heap.size zN.cells 50 := Blk.new w1 _ _
  have L2 : Below w1.heap.size w1 (w1.alloc (.cells zN.cells 50)) := by go_grown
  have hp0 := Z1.lt
  go_upto_region 9 with fail
  generalize (w1.alloc (.cells zN.cells 50)) = w2 at N2 L2 ⊢
  have H2 := H1.keep L2
  have A2 := A1.below L2
  have Z2 := Z1.below L2
  have T2 : Touch g nt w w2 := T1.trans (Touch.below L2) (Next.refl _ _)
  have hp2 := N2.lt
  clear H1 A1 Z1 T1 L2 a1
  generalize w1.heap.size = ps at N2 hp0 hp2 ⊢
  have a0 := A2.cell 0
  rw [show (acArr a)[0]? = some (.int .i64 a.kind) from rfl] at a0
  have k1 : (a.kind == 1) = false := by rw [hk]; rfl
  have k4 : (a.kind == 4) = false := by rw [hk]; rfl
  have k5 : (a.kind == 5) = true := by rw [hk]; rfl
  clear hk
  clear N2
  go_upto_region 18 with (first
    | (refine wpList_load_part (by rfl) 36 _ rfl w.heap.size 4 (by first | rfl | simp) (wdArr a.word) _ (act_word A2) Tryz.underlying36 rfl hi6 ?_)
    | (go_at_call 25; refine (hwg _).mono ?_; rintro e w3 ⟨rfl, L3⟩; have Z3 := Z2.below L3; have H3 := H2.keep L3; have T3 := T2.more L3 (by omega); have A3 := A2.below L3; have hs23 := L3.size))
  have e1 := A3.cell 5
  rw [show (acArr a)[5]? = some (.int .i64 a.word.f) from rfl] at e1
  have e2 := H3.liar
  clear A2 A3
  go_quiet (fail)
  have Z4 := Z3.drewN nq
  have H4 : CwAt (w3.drewN nq) g 54 d q nt := H3.keep (below_drewN' (Below.refl _ w3) nq)
  have T4 := T3.more (below_drewN' (Below.refl w3.heap.size w3) nq) (by omega)
  have hs34 := (below_drewN' (Below.refl w3.heap.size w3) nq).size
  go_wp2_with (first
    | (go_at_call 15; refine (rwithin_any _ _ _ _).mono ?_; rw [hw]; rintro e w' ⟨rfl, hw'⟩; obtain rfl := hw'.symm)
    | (go_at_call 24; refine (no_any 2 _).mono ?_; rintro e w8 ⟨rfl, L8⟩; have Z8 := Z4.below L8)
    | (refine wpList_store_blk rfl 33 _ _ rfl (w.heap.size + 1) zR (refused 2) 33 rfl rfl Z8 rfl hi ho ?_; rintro w9 B9 K9))
  exact bodyPost_ret (result_rep rfl _ _ (w.heap.size + 1) _ _ _ rfl B9) rfl ⟨rfl, q, nt, (H4.keep L8).kept K9 Z8 (by decide) (by decide) (by decide), (T4.more L8 (by omega)).more (K9.bel _ _ (Nat.le_refl _) (Below.refl _ _)) (by omega), Next.refl _ _⟩

set_option maxRecDepth 100000 in
set_option maxHeartbeats 8000000 in
theorem rdo_deliver_none {w : World} {g : Nat} {c : Cw} {q : Nat → Value} {nt : Value} (H : CwAt w g 54 c q nt) (a : Ac) (h6 : c.acts < 600) {d : Cw} (hd : c.more = d) (hk : a.kind = 2) (hn : win a.n 0 ((d.net.length : Int) - 1) = false) (hnet : d.net.length ≤ 2000) :
    Calls Tryz.prog 8 #[.pointer (some ⟨g, 0, none⟩), .agg (acArr a)] w (DidR w g nt d (refused 4)) := by
  have hi := info_rep (4) 0 fun _ => 0
  have ho := one_rep (4) 0 fun _ => 0
  have hz := run_zeroN
  have A : Blk ((w.alloc (.cells (acArr a) 38)).alloc (.cells zR 33)) w.heap.size (acArr a) 38 := (Blk.new w _ _).alloc _
  have Z : Blk ((w.alloc (.cells (acArr a) 38)).alloc (.cells zR 33)) (w.heap.size + 1) zR 33 := Blk.new1 w _ _ _
  have L0 : Below w.heap.size w ((w.alloc (.cells (acArr a) 38)).alloc (.cells zR 33)) := by go_grown
  have H0 := H.keep L0
  have hgw := H.blk.lt
  have hacts : ((c.acts : Int) == 600) = false := beq_eq_false_iff_ne.2 (by omega)
  have hactI : (c.acts : Int) < 600 := by omega
  clear H
  go_enter Tryz.func8, Tryz.ntmps8
  go_upto_region 1 with fail
  generalize ((w.alloc (.cells (acArr a) 38)).alloc (.cells zR 33)) = w0 at A Z L0 H0 ⊢
  have c0 := H0.acts
  have f0 := H0.blk.free 1130
  go_upto_region 5 with fail
  obtain ⟨w1, hw1⟩ : ∃ w1, w1 = w0.setCell ⟨g, 1130, none⟩ (.int .i64 ((c.acts : Int) + 1)) := ⟨_, rfl⟩
  have H1 : CwAt w1 g 54 d q nt := by rw [hw1, ← hd]; exact H0.more (by decide) (by decide)
  have T1 : Touch g nt w w1 := by rw [hw1]; exact (Touch.below L0).trans (Touch.grownB (grown_setCell w0 g 1130 _)) (Next.refl _ _)
  have A1 : Blk w1 w.heap.size (acArr a) 38 := by rw [hw1]; exact A.setCell_other _ _ (by show w.heap.size ≠ g; omega)
  have Z1 : Blk w1 (w.heap.size + 1) zR 33 := by rw [hw1]; exact Z.setCell_other _ _ (by show w.heap.size + 1 ≠ g; omega)
  rw [← hw1]
  clear hw1 c0 f0 H0 A Z L0 hacts hactI h6 hd
  have a1 := A1.cell 1
  rw [show (acArr a)[1]? = some (.int .i64 a.node) from rfl] at a1
  have N2 : Blk (w1.alloc (.cells zN.cells 50)) w1.heap.size zN.cells 50 := Blk.new w1 _ _
  have L2 : Below w1.heap.size w1 (w1.alloc (.cells zN.cells 50)) := by go_grown
  have hp0 := Z1.lt
  go_upto_region 9 with fail
  generalize (w1.alloc (.cells zN.cells 50)) = w2 at N2 L2 ⊢
  have H2 := H1.keep L2
  have A2 := A1.below L2
  have Z2 := Z1.below L2
  have T2 : Touch g nt w w2 := T1.trans (Touch.below L2) (Next.refl _ _)
  have hp2 := N2.lt
  clear H1 A1 Z1 T1 L2 a1
  generalize w1.heap.size = ps at N2 hp0 hp2 ⊢
  have a0 := A2.cell 0
  rw [show (acArr a)[0]? = some (.int .i64 a.kind) from rfl] at a0
  have k1 : (a.kind == 1) = false := by rw [hk]; rfl
  have k2 : (a.kind == 2) = true := by rw [hk]; rfl
  have k4 : (a.kind == 4) = false := by rw [hk]; rfl
  have k5 : (a.kind == 5) = false := by rw [hk]; rfl
  clear hk
  obtain ⟨na, nc, hnv⟩ := own_shape H2.net
  have e1 := A2.cell 2
  rw [show (acArr a)[2]? = some (.int .i64 a.n) from rfl] at e1
  have e2 := H2.slice
  rw [hnv] at e2
  have HV : Hid (nt = .slice na d.net.length nc) := hnv
  clear hnv
  have hwr : IntKind.i64.wrap ((d.net.length : Int) - 1) = (d.net.length : Int) - 1 := IntWalk.i64_in _ (by omega)
  go_upto_region 30 with fail
  refine q_region (C := fun W => W.cell? ⟨w.heap.size, 2, none⟩ = some (.int .i64 a.n) ∧ W.cell? ⟨g, 1128, none⟩ = some (.slice na d.net.length nc) ∧ Below w2.heap.size w2 W) (by kernel_rfl) (by kernel_rfl) ⟨e1, e2, below_drew' (Below.refl _ _)⟩ ?_
  repeat (first
    | (refine q_run_ex (by rfl) ?_
       apply Exists.intro
       refine ⟨fun w0 hC => ?_, ?_⟩
       · have z1 := hC.1; have z2 := hC.2.1; clear hC; go_simp; rfl
       simp only [Act.put, List.setIfInBounds_toArray, List.set_cons_zero, List.set_cons_succ])
    | (refine q_call_ex (by rfl) ?_
       apply Exists.intro
       apply Exists.intro
       apply Exists.intro
       refine ⟨fun w0 hC => ?_, fun w0 hC => ?_, ?_⟩
       · clear hC; go_simp; exact ⟨rfl, rfl⟩
       · refine (rwithin_any _ _ _ _).mono ?_
         rintro e w' ⟨rfl, hw'⟩
         rw [hn, hw']
         exact ⟨rfl, hC⟩
       simp only [Act.put, List.setIfInBounds_toArray, List.set_cons_zero, List.set_cons_succ]))
  refine q_nil ?_
  intro w3 hC3
  have L3 := hC3.2.2
  have hs23 := L3.size
  clear e1 e2 hC3
  have Z3 := Z2.below L3
  have H3 := H2.keep L3
  have A3 := A2.below L3
  have N3 := N2.below L3
  have T3 := T2.more L3 (by omega)
  clear A2 A3 N2 N3 Z2 H2 T2
  go_wp2_with (first
    | (go_at_call 24; refine (no_any 4 _).mono ?_; rintro e w8 ⟨rfl, L8⟩; have Z8 := Z3.below L8)
    | (refine wpList_store_blk rfl 33 _ _ rfl (w.heap.size + 1) zR (refused 4) 33 rfl rfl Z8 rfl hi ho ?_; rintro w9 B9 K9))
  exact bodyPost_ret (result_rep rfl _ _ (w.heap.size + 1) _ _ _ rfl B9) rfl ⟨rfl, q, nt, (H3.keep L8).kept K9 Z8 (by decide) (by decide) (by decide), (T3.more L8 (by omega)).more (K9.bel _ _ (Nat.le_refl _) (Below.refl _ _)) (by omega), Next.refl _ _⟩

set_option maxRecDepth 100000 in
set_option maxHeartbeats 8000000 in
theorem rdo_drop_none {w : World} {g : Nat} {c : Cw} {q : Nat → Value} {nt : Value} (H : CwAt w g 54 c q nt) (a : Ac) (h6 : c.acts < 600) {d : Cw} (hd : c.more = d) (hk : a.kind = 3) (hn : win a.n 0 ((d.net.length : Int) - 1) = false) (hnet : d.net.length ≤ 2000) :
    Calls Tryz.prog 8 #[.pointer (some ⟨g, 0, none⟩), .agg (acArr a)] w (DidR w g nt d (refused 4)) := by
  have hi := info_rep (4) 0 fun _ => 0
  have ho := one_rep (4) 0 fun _ => 0
  have hz := run_zeroN
  have A : Blk ((w.alloc (.cells (acArr a) 38)).alloc (.cells zR 33)) w.heap.size (acArr a) 38 := (Blk.new w _ _).alloc _
  have Z : Blk ((w.alloc (.cells (acArr a) 38)).alloc (.cells zR 33)) (w.heap.size + 1) zR 33 := Blk.new1 w _ _ _
  have L0 : Below w.heap.size w ((w.alloc (.cells (acArr a) 38)).alloc (.cells zR 33)) := by go_grown
  have H0 := H.keep L0
  have hgw := H.blk.lt
  have hacts : ((c.acts : Int) == 600) = false := beq_eq_false_iff_ne.2 (by omega)
  have hactI : (c.acts : Int) < 600 := by omega
  clear H
  go_enter Tryz.func8, Tryz.ntmps8
  go_upto_region 1 with fail
  generalize ((w.alloc (.cells (acArr a) 38)).alloc (.cells zR 33)) = w0 at A Z L0 H0 ⊢
  have c0 := H0.acts
  have f0 := H0.blk.free 1130
  go_upto_region 5 with fail
  obtain ⟨w1, hw1⟩ : ∃ w1, w1 = w0.setCell ⟨g, 1130, none⟩ (.int .i64 ((c.acts : Int) + 1)) := ⟨_, rfl⟩
  have H1 : CwAt w1 g 54 d q nt := by rw [hw1, ← hd]; exact H0.more (by decide) (by decide)
  have T1 : Touch g nt w w1 := by rw [hw1]; exact (Touch.below L0).trans (Touch.grownB (grown_setCell w0 g 1130 _)) (Next.refl _ _)
  have A1 : Blk w1 w.heap.size (acArr a) 38 := by rw [hw1]; exact A.setCell_other _ _ (by show w.heap.size ≠ g; omega)
  have Z1 : Blk w1 (w.heap.size + 1) zR 33 := by rw [hw1]; exact Z.setCell_other _ _ (by show w.heap.size + 1 ≠ g; omega)
  rw [← hw1]
  clear hw1 c0 f0 H0 A Z L0 hacts hactI h6 hd
  have a1 := A1.cell 1
  rw [show (acArr a)[1]? = some (.int .i64 a.node) from rfl] at a1
  have N2 : Blk (w1.alloc (.cells zN.cells 50)) w1.heap.size zN.cells 50 := Blk.new w1 _ _
  have L2 : Below w1.heap.size w1 (w1.alloc (.cells zN.cells 50)) := by go_grown
  have hp0 := Z1.lt
  go_upto_region 9 with fail
  generalize (w1.alloc (.cells zN.cells 50)) = w2 at N2 L2 ⊢
  have H2 := H1.keep L2
  have A2 := A1.below L2
  have Z2 := Z1.below L2
  have T2 : Touch g nt w w2 := T1.trans (Touch.below L2) (Next.refl _ _)
  have hp2 := N2.lt
  clear H1 A1 Z1 T1 L2 a1
  generalize w1.heap.size = ps at N2 hp0 hp2 ⊢
  have a0 := A2.cell 0
  rw [show (acArr a)[0]? = some (.int .i64 a.kind) from rfl] at a0
  have k1 : (a.kind == 1) = false := by rw [hk]; rfl
  have k2 : (a.kind == 2) = false := by rw [hk]; rfl
  have k3 : (a.kind == 3) = true := by rw [hk]; rfl
  have k4 : (a.kind == 4) = false := by rw [hk]; rfl
  have k5 : (a.kind == 5) = false := by rw [hk]; rfl
  clear hk
  obtain ⟨na, nc, hnv⟩ := own_shape H2.net
  have e1 := A2.cell 2
  rw [show (acArr a)[2]? = some (.int .i64 a.n) from rfl] at e1
  have e2 := H2.slice
  rw [hnv] at e2
  have HV : Hid (nt = .slice na d.net.length nc) := hnv
  clear hnv
  have hwr : IntKind.i64.wrap ((d.net.length : Int) - 1) = (d.net.length : Int) - 1 := IntWalk.i64_in _ (by omega)
  go_upto_region 30 with fail
  refine q_region (C := fun W => W.cell? ⟨w.heap.size, 2, none⟩ = some (.int .i64 a.n) ∧ W.cell? ⟨g, 1128, none⟩ = some (.slice na d.net.length nc) ∧ Below w2.heap.size w2 W) (by kernel_rfl) (by kernel_rfl) ⟨e1, e2, below_drew' (Below.refl _ _)⟩ ?_
  repeat (first
    | (refine q_run_ex (by rfl) ?_
       apply Exists.intro
       refine ⟨fun w0 hC => ?_, ?_⟩
       · have z1 := hC.1; have z2 := hC.2.1; clear hC; go_simp; rfl
       simp only [Act.put, List.setIfInBounds_toArray, List.set_cons_zero, List.set_cons_succ])
    | (refine q_call_ex (by rfl) ?_
       apply Exists.intro
       apply Exists.intro
       apply Exists.intro
       refine ⟨fun w0 hC => ?_, fun w0 hC => ?_, ?_⟩
       · clear hC; go_simp; exact ⟨rfl, rfl⟩
       · refine (rwithin_any _ _ _ _).mono ?_
         rintro e w' ⟨rfl, hw'⟩
         rw [hn, hw']
         exact ⟨rfl, hC⟩
       simp only [Act.put, List.setIfInBounds_toArray, List.set_cons_zero, List.set_cons_succ]))
  refine q_nil ?_
  intro w3 hC3
  have L3 := hC3.2.2
  have hs23 := L3.size
  clear e1 e2 hC3
  have Z3 := Z2.below L3
  have H3 := H2.keep L3
  have A3 := A2.below L3
  have N3 := N2.below L3
  have T3 := T2.more L3 (by omega)
  clear A2 A3 N2 N3 Z2 H2 T2
  go_wp2_with (first
    | (go_at_call 24; refine (no_any 4 _).mono ?_; rintro e w8 ⟨rfl, L8⟩; have Z8 := Z3.below L8)
    | (refine wpList_store_blk rfl 33 _ _ rfl (w.heap.size + 1) zR (refused 4) 33 rfl rfl Z8 rfl hi ho ?_; rintro w9 B9 K9))
  exact bodyPost_ret (result_rep rfl _ _ (w.heap.size + 1) _ _ _ rfl B9) rfl ⟨rfl, q, nt, (H3.keep L8).kept K9 Z8 (by decide) (by decide) (by decide), (T3.more L8 (by omega)).more (K9.bel _ _ (Nat.le_refl _) (Below.refl _ _)) (by omega), Next.refl _ _⟩

end Go.Proofs.YtmmgaonlmpajbacGreat
namespace Go.Proofs.YtmmgaonlmpajbacGreat
open Go.RowKit

theorem below_row {B : Nat} {W W' : World} {row : Option Nat} (h : W.grownBy W' row) (hr : ∀ k, row = some k → B ≤ k) (hB : B ≤ W.heap.size) : Below B W W' :=
  ⟨h.os, h.tape, h.output, h.size, fun k hk => h.block k (by omega) (fun e => by have := hr k e.symm; omega)⟩
theorem les_split (net : List (Nat × Wd)) (x : Nat) : lesCells net = lesCells (net.take x) ++ lesCells (net.drop x) := by unfold lesCells; rw [← List.flatMap_append, List.take_append_drop]
theorem les_erase (net : List (Nat × Wd)) (x : Nat) : lesCells (net.eraseIdx x) = lesCells (net.take x) ++ lesCells (net.drop (x + 1)) := by rw [List.eraseIdx_eq_take_drop_succ]; unfold lesCells; rw [List.flatMap_append]
theorem les_take_at (net : List (Nat × Wd)) (x j : Nat) (u : Value) (h : (lesCells (net.take x))[j]? = some u) : (lesCells net)[j]? = some u := by
  rw [les_split net x, List.getElem?_append_left]
  · exact h
  · by_cases hlt : j < (lesCells (net.take x)).length
    · exact hlt
    · rw [List.getElem?_eq_none (by omega)] at h; cases h
theorem les_drop_at (net : List (Nat × Wd)) (x : Nat) (hx : x ≤ net.length) (j : Nat) : (lesCells (net.drop x))[j]? = (lesCells net)[x * 7 + j]? := by
  have e2 : (lesCells (net.take x)).length = x * 7 := by rw [lesCells_length, List.length_take, Nat.min_eq_left hx]
  rw [les_split net x, List.getElem?_append_right (by omega), e2, show x * 7 + j - x * 7 = j by omega]

set_option maxRecDepth 100000 in
set_option maxHeartbeats 8000000 in
theorem rdo_drop_yes {w : World} {g : Nat} {c : Cw} {q : Nat → Value} {nt : Value} (H : CwAt w g 54 c q nt) (a : Ac) (h6 : c.acts < 600) {d : Cw} (hd : c.more = d) (hk : a.kind = 3) (hnet : d.net.length ≤ 2000) (x k : Nat) (hlen : d.net.length = x + 1 + k) (hax : (x : Int) = a.n) :
    Calls Tryz.prog 8 #[.pointer (some ⟨g, 0, none⟩), .agg (acArr a)] w (DidR w g nt { d with net := d.net.eraseIdx x } (rcells 0 0 fun _ => 0)) := by
  have hi := info_rep (0) 0 fun _ => 0
  have ho := one_rep (0) 0 fun _ => 0
  obtain ⟨⟨who, lv⟩, hx⟩ : ∃ l, d.net[x]? = some l := ⟨d.net[x]'(by omega), List.getElem?_eq_getElem (by omega)⟩
  have HL : Hid (d.net.length = x + 1 + k) := hlen
  have hxl : x < d.net.length := by
    by_cases hlt : x < d.net.length
    · exact hlt
    · rw [List.getElem?_eq_none (by omega)] at hx; cases hx
  have hwx : win (x : Int) 0 ((d.net.length : Int) - 1) = true := win_iff.2 ⟨by omega, by omega⟩
  have hxI : (x : Int) < (d.net.length : Int) := by omega
  have hx2 : (acArr a)[2]? = some (.int .i64 (x : Int)) := by rw [hax]; rfl
  clear hax
  clear hlen
  have hz := run_zeroN
  have A : Blk ((w.alloc (.cells (acArr a) 38)).alloc (.cells zR 33)) w.heap.size (acArr a) 38 := (Blk.new w _ _).alloc _
  have Z : Blk ((w.alloc (.cells (acArr a) 38)).alloc (.cells zR 33)) (w.heap.size + 1) zR 33 := Blk.new1 w _ _ _
  have L0 : Below w.heap.size w ((w.alloc (.cells (acArr a) 38)).alloc (.cells zR 33)) := by go_grown
  have H0 := H.keep L0
  have hgw := H.blk.lt
  have hacts : ((c.acts : Int) == 600) = false := beq_eq_false_iff_ne.2 (by omega)
  have hactI : (c.acts : Int) < 600 := by omega
  clear H
  go_enter Tryz.func8, Tryz.ntmps8
  go_upto_region 1 with fail
  generalize ((w.alloc (.cells (acArr a) 38)).alloc (.cells zR 33)) = w0 at A Z L0 H0 ⊢
  have c0 := H0.acts
  have f0 := H0.blk.free 1130
  go_upto_region 5 with fail
  obtain ⟨w1, hw1⟩ : ∃ w1, w1 = w0.setCell ⟨g, 1130, none⟩ (.int .i64 ((c.acts : Int) + 1)) := ⟨_, rfl⟩
  have H1 : CwAt w1 g 54 d q nt := by rw [hw1, ← hd]; exact H0.more (by decide) (by decide)
  have T1 : Touch g nt w w1 := by rw [hw1]; exact (Touch.below L0).trans (Touch.grownB (grown_setCell w0 g 1130 _)) (Next.refl _ _)
  have A1 : Blk w1 w.heap.size (acArr a) 38 := by rw [hw1]; exact A.setCell_other _ _ (by show w.heap.size ≠ g; omega)
  have Z1 : Blk w1 (w.heap.size + 1) zR 33 := by rw [hw1]; exact Z.setCell_other _ _ (by show w.heap.size + 1 ≠ g; omega)
  rw [← hw1]
  clear hw1 c0 f0 H0 A Z L0 hacts hactI h6 hd
  have a1 := A1.cell 1
  rw [show (acArr a)[1]? = some (.int .i64 a.node) from rfl] at a1
  have N2 : Blk (w1.alloc (.cells zN.cells 50)) w1.heap.size zN.cells 50 := Blk.new w1 _ _
  have L2 : Below w1.heap.size w1 (w1.alloc (.cells zN.cells 50)) := by go_grown
  have hp0 := Z1.lt
  go_upto_region 9 with fail
  generalize (w1.alloc (.cells zN.cells 50)) = w2 at N2 L2 ⊢
  have H2 := H1.keep L2
  have A2 := A1.below L2
  have Z2 := Z1.below L2
  have T2 : Touch g nt w w2 := T1.trans (Touch.below L2) (Next.refl _ _)
  have hp2 := N2.lt
  clear H1 A1 Z1 T1 L2 a1
  generalize w1.heap.size = ps at N2 hp0 hp2 ⊢
  have a0 := A2.cell 0
  rw [show (acArr a)[0]? = some (.int .i64 a.kind) from rfl] at a0
  have k1 : (a.kind == 1) = false := by rw [hk]; rfl
  have k2 : (a.kind == 2) = false := by rw [hk]; rfl
  have k3 : (a.kind == 3) = true := by rw [hk]; rfl
  have k4 : (a.kind == 4) = false := by rw [hk]; rfl
  have k5 : (a.kind == 5) = false := by rw [hk]; rfl
  clear hk
  obtain ⟨na, nc, hnv⟩ := own_shape H2.net
  have e1 := A2.cell 2
  rw [show (acArr a)[2]? = some (.int .i64 (x : Int)) from hx2] at e1
  have e2 := H2.slice
  rw [hnv] at e2
  have HV : Hid (nt = .slice na d.net.length nc) := hnv
  clear hnv
  have hwr : IntKind.i64.wrap ((d.net.length : Int) - 1) = (d.net.length : Int) - 1 := IntWalk.i64_in _ (by omega)
  go_upto_region 30 with fail
  refine q_region (C := fun W => W.cell? ⟨w.heap.size, 2, none⟩ = some (.int .i64 (x : Int)) ∧ W.cell? ⟨g, 1128, none⟩ = some (.slice na d.net.length nc) ∧ Below w2.heap.size w2 W) (by kernel_rfl) (by kernel_rfl) ⟨e1, e2, below_drew' (Below.refl _ _)⟩ ?_
  repeat (first
    | (refine q_run_ex (by rfl) ?_
       apply Exists.intro
       refine ⟨fun w0 hC => ?_, ?_⟩
       · have z1 := hC.1; have z2 := hC.2.1; clear hC; go_simp; rfl
       simp only [Act.put, List.setIfInBounds_toArray, List.set_cons_zero, List.set_cons_succ])
    | (refine q_call_ex (by rfl) ?_
       apply Exists.intro
       apply Exists.intro
       apply Exists.intro
       refine ⟨fun w0 hC => ?_, fun w0 hC => ?_, ?_⟩
       · clear hC; go_simp; exact ⟨rfl, rfl⟩
       · refine (rwithin_any _ _ _ _).mono ?_
         rintro e w' ⟨rfl, hw'⟩
         rw [hwx, hw']
         exact ⟨rfl, hC⟩
       simp only [Act.put, List.setIfInBounds_toArray, List.set_cons_zero, List.set_cons_succ]))
  refine q_nil ?_
  intro w3 hC3
  have L3 := hC3.2.2
  have hs23 := L3.size
  clear e1 e2 hC3
  have Z3 := Z2.below L3
  have H3 := H2.keep L3
  have A3 := A2.below L3
  have N3 := N2.below L3
  have T3 := T2.more L3 (by omega)
  obtain ⟨nb, nc', hnv', hnb⟩ := own_at H3.net (by omega)
  have hv : (.slice na d.net.length nc : Value) = .slice (some ⟨nb, 0, none⟩) d.net.length nc' := HV.out.symm.trans hnv'
  injection hv with hv1 hv2 hv3
  subst hv1 hv3
  clear hnv'
  have HK : Hid (∀ W, CwAt W g 54 d q nt → W.cell? ⟨g, 1128, none⟩ = some (.slice (some ⟨nb, 0, none⟩) d.net.length nc) ∧ W.rangeAt nb (x * 7) (leArr (who, lv)).toList) := fun W hW => ⟨by rw [hW.slice, HV.out], le_range (by have h := hW.net; rw [HV.out] at h; exact h) hx⟩
  obtain ⟨s3, hr3⟩ := HK.out w3 H3
  have hi7 := info_leArr (who, lv)
  have ho7 := one_leArr (who, lv)
  have hp3 := L3.size
  clear A2 H2 Z2 T2 N2 L3
  go_upto_region 32 with fail
  refine held_region (fun W => Blk W w.heap.size (acArr a) 38 ∧ W.cell? ⟨g, 1128, none⟩ = some (.slice (some ⟨nb, 0, none⟩) d.net.length nc) ∧ W.rangeAt nb (x * 7) (leArr (who, lv)).toList) [] [(0, 0), (1, 0), (2, 0), (3, 1), (4, 0), (5, 1), (6, 0), (7, 1), (8, 2), (9, 2)] (by kernel_rfl) (by kernel_rfl) (by kernel_rfl) rfl (fun _ _ d _ _ h => by cases d <;> exact h) ⟨A3.drew, s3, hr3⟩ ?_
  repeat (first
    | (refine ord_run0_ex rfl (by rfl) ?_
       apply Exists.intro
       refine ⟨fun w0 => ?_, ?_⟩
       · go_simp; rfl
       simp only [Act.put, List.setIfInBounds_toArray, List.set_cons_zero, List.set_cons_succ])
    | (refine ord_load rfl (by rfl) 79 _ rfl nb (x * 7) (by first | rfl | simp) (leArr (who, lv)) _ (fun W H => H.2.2) Tryz.underlying79 rfl hi7 ?_; simp only [Act.put, List.setIfInBounds_toArray, List.set_cons_zero, List.set_cons_succ])
    | (refine ord_run1_ex rfl (by rfl) ?_
       apply Exists.intro
       refine ⟨fun w0 hC => ?_, ?_⟩
       · have z1 := hC.1.cell 2; rw [hx2] at z1; have z2 := hC.2.1; clear hC; go_simp; rfl
       simp only [Act.put, List.setIfInBounds_toArray, List.set_cons_zero, List.set_cons_succ]))
  refine ord_do rfl ?_
  go_wp2_with fail
  obtain ⟨w4, hw4⟩ : ∃ w4, w4 = (w3.alloc (.cells #[.int .i64 0, .int .i64 0, .int .i64 0, .int .i64 0, .int .i64 0, .int .i64 0, .int .i64 0] 79)).drew := ⟨_, rfl⟩
  have L4 : Below w3.heap.size w3 w4 := by rw [hw4]; exact below_drew' (by go_grown)
  have Y4 : Blk w4 w3.heap.size #[.int .i64 0, .int .i64 0, .int .i64 0, .int .i64 0, .int .i64 0, .int .i64 0, .int .i64 0] 79 := by rw [hw4]; exact (Blk.new w3 _ _).drew
  have A4 := A3.below L4
  have H4 := H3.keep L4
  have Z4 := Z3.below L4
  have N4 := N3.below L4
  have T4 := T3.more L4 (by omega)
  have hp4 := N3.lt
  rw [← hw4]
  have L30 : Hid (∀ W, Below w3.heap.size w3 W → CwAt W g 54 d q nt ∧ Blk W w.heap.size (acArr a) 38 ∧ Blk W (w.heap.size + 1) zR 33 ∧ Touch g nt w W) := fun W hW => ⟨H3.keep hW, A3.below hW, Z3.below hW, T3.more hW (by omega)⟩
  clear hw4 A3 H3 Z3 N3 T3 hr3 s3
  refine ⟨fun _ => ⟨A4, HK.out _ H4⟩, ?_⟩
  try simp only [Act.put, List.setIfInBounds_toArray, List.set_cons_zero, List.set_cons_succ]
  refine ord_do rfl ?_
  refine wpList_store_blk rfl 79 _ _ rfl w3.heap.size #[.int .i64 0, .int .i64 0, .int .i64 0, .int .i64 0, .int .i64 0, .int .i64 0, .int .i64 0] (leArr (who, lv)) 79 rfl rfl Y4 rfl hi7 ho7 ?_
  rintro w6 X6 K6
  have L6 : Below w3.heap.size w4 w6 := K6.bel _ _ (Nat.le_refl _) (Below.refl _ _)
  have L36 : Below w3.heap.size w3 w6 := bel_seq L4 L6
  obtain ⟨H6, A6, Z6, T6⟩ := L30.out w6 L36
  refine ⟨fun _ => ⟨A6, HK.out _ H6⟩, ?_⟩
  try simp only [Act.put]
  show wpOrd _ _ _ _ _ [] _ _ _
  unfold wpOrd
  have a0 := A6.cell 0
  rw [show (acArr a)[0]? = some (.int .i64 a.kind) from rfl] at a0
  have hs6 := L36.size
  have hs46 := K6.size
  have hN6 : w6.ownsRow 0 79 7 (.slice (some ⟨nb, 0, none⟩) d.net.length nc) d.net.length (lesCells d.net) := by have h := H6.net; rw [HV.out] at h; exact h
  have s6 := (HK.out _ H6).1
  clear A4 H4 Z4 N4 T4 Y4 K6 L6 L36 L4 L30 HK X6
  go_upto_region 34 with fail
  have hlen := HL.out
  have hcap : d.net.length ≤ nc := by
    rcases hN6.2 with ⟨h, _⟩ | ⟨g', cap', cur, h, _, _, hc, _⟩
    · cases h
    · injection h with _ _ h; omega
  have hs1 := sliceH nb d.net.length nc x (by omega)
  obtain ⟨off, c2, hs2, hnews2⟩ : ∃ off c2, (∀ W, Sem.run Tryz.prog (Instr.slice 52 (.slice (some ⟨nb, 0, none⟩) d.net.length nc) (some (.int .i64 ((x : Int) + 1))) none none) W = .ok (.slice (some ⟨nb, off, none⟩) k c2) W) ∧ ∀ j u, (lesCells (d.net.drop (x + 1)))[j]? = some u → ∀ W, CwAt W g 54 d q nt → W.cell? ((⟨nb, off, none⟩ : Addr).add j) = some u := by
    have hdl : (lesCells (d.net.drop (x + 1))).length = k * 7 := by rw [lesCells_length, List.length_drop, hlen, show x + 1 + k - (x + 1) = k by omega]
    by_cases hc : nc = x + 1
    · have hk0 : k = 0 := by omega
      refine ⟨0, 0, fun W => ?_, fun j u hu => ?_⟩
      · have := sliceE nb d.net.length nc (by omega) (by omega) W
        rw [hk0, show ((x : Int) + 1) = (nc : Int) by omega]
        exact this
      · rw [List.getElem?_eq_none (by omega)] at hu; cases hu
    · refine ⟨(x + 1) * 7, nc - (x + 1), fun W => ?_, fun j u hu W hW => ?_⟩
      · have := sliceL nb d.net.length nc (x + 1) (by omega) (by omega) (by omega) W
        rw [show d.net.length - (x + 1) = k by omega] at this
        exact this
      · have h := hW.net
        rw [HV.out] at h
        rw [les_drop_at _ _ (by omega)] at hu
        have h1 := h.cells (g := nb) rfl ((x + 1) * 7 + j) u hu
        rw [Addr.add_mid, Nat.zero_add] at h1
        rw [Addr.add_mid]
        exact h1
  have hnews1 : ∀ j u, (lesCells (d.net.take x))[j]? = some u → w6.drew.cell? ((⟨nb, 0, none⟩ : Addr).add j) = some u := fun j u hu => hN6.cells (g := nb) rfl j u (les_take_at _ _ _ _ hu)
  have hl1 : (lesCells (d.net.take x)).length = x * 7 := by rw [lesCells_length, List.length_take, Nat.min_eq_left (by omega)]
  have hl2 : (lesCells (d.net.drop (x + 1))).length = k * 7 := by rw [lesCells_length, List.length_drop, hlen, show x + 1 + k - (x + 1) = k by omega]
  obtain ⟨i0, hi0, hz0, hz1, hz2⟩ := info_le
  have hone1 := one_les (d.net.take x)
  have hone2 := one_les (d.net.drop (x + 1))
  have hx20 : (x : Int) ≤ 2000 := by omega
  have hxk : x + k ≤ 2000 := by omega
  have hwx1 : IntKind.i64.wrap ((x : Int) + 1) = (x : Int) + 1 := IntWalk.i64_in _ (by omega)
  have HW2 : Hid _ := hnews2
  clear hlen a0 hnews2
  refine held_region (fun W => Blk W w.heap.size (acArr a) 38 ∧ W.cell? ⟨g, 1128, none⟩ = some (.slice (some ⟨nb, 0, none⟩) d.net.length nc)) [20] [(0, 0), (1, 0), (2, 0), (3, 0), (4, 1), (5, 0), (6, 1), (7, 0), (9, 0), (10, 0), (11, 0), (12, 1), (13, 0), (14, 1), (15, 0), (16, 0), (8, 2), (17, 2), (18, 0), (19, 0), (20, 2)] (by kernel_rfl) (by kernel_rfl) (by kernel_rfl) rfl (fun _ _ d _ _ h => by cases d <;> exact h) ⟨A6.drew, s6⟩ ?_
  repeat (first
    | (refine ord_run0_ex rfl (by rfl) ?_
       apply Exists.intro
       refine ⟨fun w0 => ?_, ?_⟩
       · go_simp; first | rfl | exact hs1 _ | exact hs2 _
       simp only [Act.put, List.setIfInBounds_toArray, List.set_cons_zero, List.set_cons_succ])
    | (refine ord_run1_ex rfl (by rfl) ?_
       apply Exists.intro
       refine ⟨fun w0 hC => ?_, ?_⟩
       · have z1 := hC.1.cell 2; rw [hx2] at z1; have z2 := hC.2; clear hC; go_simp; rfl
       simp only [Act.put, List.setIfInBounds_toArray, List.set_cons_zero, List.set_cons_succ]))
  refine ord_do rfl ?_
  refine wpList_append_next rfl _ _ 52 rfl w6.heap.size 79 i0 _ 7 56 Tryz.underlying52 hi0 hz0 hz1 hz2 rfl (by decide) (.slice none 0 0) 0 [] rfl (World.ownsRow_nil _ _ _ _) ⟨nb, 0, none⟩ x nc (lesCells (d.net.take x)) rfl hl1 hnews1 hone1 (by unfold maxLen; omega) (by omega) (Nat.le_refl _) ?_
  intro v1 w7 hown1 hgrow1 _
  simp only [Nat.zero_add, List.nil_append] at hown1
  have L7' : Below w6.drew.heap.size w6.drew w7 := below_grown hgrow1
  have L7 : Below w6.heap.size w6 w7 := bel_seq (below_drew' (Below.refl _ w6)) L7'
  have H7 := H6.keep L7
  have A7 := A6.below L7
  have Z7 := Z6.below L7
  have T7 := T6.more L7 (by omega)
  have s7 : w7.cell? ⟨g, 1128, none⟩ = some (.slice (some ⟨nb, 0, none⟩) d.net.length nc) := by rw [H7.slice, HV.out]
  refine ⟨fun _ => ⟨A7, s7⟩, ?_⟩
  try simp only [Act.put, List.setIfInBounds_toArray, List.set_cons_zero, List.set_cons_succ]
  have hsz7 := L7.size
  refine ord_do rfl ?_
  refine wpList_append_next rfl _ _ 52 rfl w6.heap.size 79 i0 _ 7 56 Tryz.underlying52 hi0 hz0 hz1 hz2 rfl (by decide) v1 x (lesCells (d.net.take x)) rfl hown1 ⟨nb, off, none⟩ k c2 (lesCells (d.net.drop (x + 1))) rfl hl2 (fun j u hu => HW2.out j u hu w7 H7) hone2 (by unfold maxLen; omega) (by omega) hsz7 ?_
  intro v2 w8 hown2 hgrow2 _
  have L8 : Below w6.heap.size w7 w8 := below_row hgrow2 (fun k hk => (own_block hown1 k hk).1) hsz7
  have L68 : Below w6.heap.size w6 w8 := bel_seq L7 L8
  have H8 := H6.keep L68
  have A8 := A6.below L68
  have Z8 := Z6.below L68
  have T8 := T6.more L68 (by omega)
  have s8 : w8.cell? ⟨g, 1128, none⟩ = some (.slice (some ⟨nb, 0, none⟩) d.net.length nc) := by rw [H8.slice, HV.out]
  refine ⟨fun _ => ⟨A8, s8⟩, ?_⟩
  try simp only [Act.put, List.setIfInBounds_toArray, List.set_cons_zero, List.set_cons_succ]
  repeat (first
    | (refine ord_run0_ex rfl (by rfl) ?_
       apply Exists.intro
       refine ⟨fun w0 => ?_, ?_⟩
       · go_simp; rfl
       simp only [Act.put, List.setIfInBounds_toArray, List.set_cons_zero, List.set_cons_succ]))
  obtain ⟨va, vc, hv2⟩ := own_shape hown2
  subst hv2
  have f8 := H8.blk.free 1128
  refine ord_do rfl ?_
  go_wp2_with fail
  refine ⟨fun hc => absurd hc (by decide), ?_⟩
  show wpOrd _ _ _ _ _ [] _ _ _
  unfold wpOrd
  obtain ⟨w9, hw9⟩ : ∃ w9, w9 = w8.setCell ⟨g, 1128, none⟩ (.slice va (x + k) vc) := ⟨_, rfl⟩
  have B9 : Blk w9 g (ccells (fun i => (d.nd i).ni (q i)) (.slice va (x + k) vc) d.liar (d.acts : Int)) 54 := by
    have h := (H8.blk.setCell 1128 (.slice va (x + k) vc))
    rw [ccells_set_nt] at h
    rw [hw9]; exact h
  have T89 : Touch g nt w8 w9 := by rw [hw9]; exact Touch.grownB (grown_setCell w8 g 1128 _)
  have T9 : Touch g nt w w9 := T8.trans T89 (Next.refl _ _)
  have C9 : CwAt w9 g 54 { d with net := d.net.eraseIdx x } q (.slice va (x + k) vc) := by
    refine ⟨B9, fun i hi => T89.own H8.blk H8.net (H8.que i hi) (by decide) (by decide), ?_⟩
    have hle : (d.net.eraseIdx x).length = x + k := by rw [List.length_eraseIdx, HL.out, if_pos (by omega)]; omega
    show World.ownsRow _ _ _ _ _ (d.net.eraseIdx x).length (lesCells (d.net.eraseIdx x))
    rw [les_erase, hle, hw9]
    exact (own_mono hown2 (Nat.zero_le _)).kept (grown_setCell w8 g 1128 _) (Or.inr (own_not H8.blk hown2 (by decide)))
  have Z9 := T89.blk H8.blk H8.net Z8 (by decide) (by decide)
  have hNx : Next nt (.slice va (x + k) vc) w := Or.inr fun k hk => by have := (own_block hown2 k hk).1; have := T6.size; omega
  have hs9 := T9.size
  rw [← hw9]
  clear hw9 B9 T89 T8 H8 A8 Z8 s8 f8 hown1 hown2 hgrow1 hgrow2 L7 L7' L8 L68 H7 A7 Z7 T7 s7 H6 A6 Z6 T6 hN6 s6 hnews1 HW2 hs1 hs2
  go_wp2_with (first
    | (go_at_call 24; refine (no_any 0 _).mono ?_; rintro e wa ⟨rfl, La⟩; have Za := Z9.below La)
    | (refine wpList_store_blk rfl 33 _ _ rfl (w.heap.size + 1) zR (refused 0) 33 rfl rfl Za rfl hi ho ?_; rintro wb Bb Kb))
  exact bodyPost_ret (result_rep rfl _ _ (w.heap.size + 1) _ _ _ rfl Bb) rfl ⟨rfl, q, _, (C9.keep La).kept Kb Za (by decide) (by decide) (by decide), (T9.more La (by omega)).more (Kb.bel _ _ (Nat.le_refl _) (Below.refl _ _)) (by omega), hNx⟩
end Go.Proofs.YtmmgaonlmpajbacGreat
