/-
  The landed package crowd: Do.
-/
import Derived.Test.YtmmgaonlmpajbacCRead
import Derived.Test.YtmmgaonlmpajbacCNew
namespace Go.Proofs.Ytmmgaonlmpajbac
open Go.RowKit

/-- An act. -/
structure Ac where
  kind : Int
  node : Int
  n : Int
  value : Int
  word : Wd
  tell : Nat → Int
def acArr (a : Ac) : Array Value := #[.int .i64 a.kind, .int .i64 a.node, .int .i64 a.n, .int .i64 a.value, .int .i64 a.word.k, .int .i64 a.word.f, .int .i64 a.word.h, .int .i64 a.word.r, .int .i64 a.word.v, .int .i64 a.word.x, .int .i64 (a.tell 0), .int .i64 (a.tell 1), .int .i64 (a.tell 2), .int .i64 (a.tell 3)]
theorem act_word {W : World} {b : Nat} {a : Ac} {t : TypeId} (B : Blk W b (acArr a) t) : W.rangeAt b 4 (wdArr a.word).toList := by
  intro j u hu
  have hj : j < 6 := by
    by_cases hlt : j < 6
    · exact hlt
    · rw [List.getElem?_eq_none (by show (wdArr a.word).toList.length ≤ j; simp [wdArr]; omega)] at hu; cases hu
  rw [B.cell]
  have : j = 0 ∨ j = 1 ∨ j = 2 ∨ j = 3 ∨ j = 4 ∨ j = 5 := by omega
  rcases this with rfl | rfl | rfl | rfl | rfl | rfl <;> simpa [acArr, wdArr] using hu
theorem act_tell {W : World} {b : Nat} {a : Ac} {t : TypeId} (B : Blk W b (acArr a) t) : W.rangeAt b 10 (four a.tell).toList := by
  intro j u hu
  have hj : j < 4 := by
    by_cases hlt : j < 4
    · exact hlt
    · rw [List.getElem?_eq_none (by show (four a.tell).toList.length ≤ j; simp [four]; omega)] at hu; cases hu
  rw [B.cell]
  have : j = 0 ∨ j = 1 ∨ j = 2 ∨ j = 3 := by omega
  rcases this with rfl | rfl | rfl | rfl <;> simpa [acArr, four] using hu

/-- One act more was done. -/
def Cw.more (c : Cw) : Cw := { c with acts := c.acts + 1 }
theorem CG.more {c : Cw} (G : CG c) (h : c.acts ≠ 600) : CG c.more := ⟨G.nd, G.net, G.dest, by show c.acts + 1 ≤ 600; have := G.acts; omega, G.liar⟩
theorem CwAt.more {W : World} {g : Nat} {t : TypeId} {c : Cw} {q : Nat → Value} {nt : Value} (h : CwAt W g t c q nt) (h1 : 3 ≠ t) (h2 : 49 ≠ t) : CwAt (W.setCell ⟨g, 1130, none⟩ (.int .i64 ((c.acts : Int) + 1))) g t c.more q nt := by
  have B := h.blk.setCell 1130 (.int .i64 ((c.acts : Int) + 1))
  rw [ccells_set_acts] at B
  exact ⟨B, fun i hi => (h.que i hi).kept (grown_setCell W g 1130 _) (Or.inr (own_not h.blk (h.que i hi) h1)), h.net.kept (grown_setCell W g 1130 _) (Or.inr (own_not h.blk h.net h2))⟩

set_option maxRecDepth 100000 in
set_option maxHeartbeats 2000000 in
theorem do_nil (a : Ac) (w : World) : Calls Try.prog 11 #[.pointer none, .agg (acArr a)] w fun e w' => e = .returned (.agg (refused 4)) ∧ Below w.heap.size w w' := by
  have hi := info_rep 4 0 fun _ => 0
  have ho := one_rep 4 0 fun _ => 0
  have Z : Blk ((w.alloc (.cells (acArr a) 27)).alloc (.cells zR 35)) (w.heap.size + 1) zR 35 := Blk.new1 w _ _ _
  have L0 : Below w.heap.size w ((w.alloc (.cells (acArr a) 27)).alloc (.cells zR 35)) := by go_grown
  go_enter Try.func11, Try.ntmps11
  go_upto_region 1 with fail
  generalize ((w.alloc (.cells (acArr a) 27)).alloc (.cells zR 35)) = w0 at Z L0 ⊢
  go_wp2_with (first
    | (go_at_call 22; refine (crefuse_any 4 _).mono ?_; rintro e w2 ⟨rfl, L2⟩; have Z2 := Z.below L2)
    | (refine wpList_store_blk rfl 35 _ _ rfl (w.heap.size + 1) zR (refused 4) 35 rfl rfl Z2 rfl hi ho ?_; rintro w3 B3 K3))
  exact bodyPost_ret (result_rep rfl _ _ (w.heap.size + 1) _ _ _ rfl B3) rfl ⟨rfl, K3.bel _ _ (by omega) (bel_trans L0 L2)⟩

set_option maxRecDepth 100000 in
set_option maxHeartbeats 2000000 in
theorem do_full {w : World} {g : Nat} {c : Cw} {q : Nat → Value} {nt : Value} (H : CwAt w g 70 c q nt) (a : Ac) (h6 : c.acts = 600) :
    Calls Try.prog 11 #[.pointer (some ⟨g, 0, none⟩), .agg (acArr a)] w fun e w' => e = .returned (.agg (refused 5)) ∧ Below w.heap.size w w' := by
  have hi := info_rep 5 0 fun _ => 0
  have ho := one_rep 5 0 fun _ => 0
  have Z : Blk ((w.alloc (.cells (acArr a) 27)).alloc (.cells zR 35)) (w.heap.size + 1) zR 35 := Blk.new1 w _ _ _
  have L0 : Below w.heap.size w ((w.alloc (.cells (acArr a) 27)).alloc (.cells zR 35)) := by go_grown
  have H0 := H.keep L0
  clear H
  go_enter Try.func11, Try.ntmps11
  go_upto_region 1 with fail
  generalize ((w.alloc (.cells (acArr a) 27)).alloc (.cells zR 35)) = w0 at Z L0 H0 ⊢
  have c0 := H0.acts
  rw [h6] at c0
  replace c0 : w0.cell? ⟨g, 1130, none⟩ = some (.int .i64 600) := c0
  clear h6 H0
  go_wp2_with (first
    | (go_at_call 22; refine (crefuse_any 5 _).mono ?_; rintro e w2 ⟨rfl, L2⟩; have Z2 := Z.below L2)
    | (refine wpList_store_blk rfl 35 _ _ rfl (w.heap.size + 1) zR (refused 5) 35 rfl rfl Z2 rfl hi ho ?_; rintro w3 B3 K3))
  exact bodyPost_ret (result_rep rfl _ _ (w.heap.size + 1) _ _ _ rfl B3) rfl ⟨rfl, K3.bel _ _ (by omega) (bel_trans L0 L2)⟩

set_option maxRecDepth 100000 in
set_option maxHeartbeats 4000000 in
theorem do_deliver {w : World} {g : Nat} {c : Cw} {q : Nat → Value} {nt : Value} (H : CwAt w g 70 c q nt) (a : Ac) (h6 : c.acts < 600) (hk : a.kind = 2) (code nn : Int) (f : Nat → Int) (c' : Cw)
    (HT0 : ∀ W q nt, CwAt W g 70 c.more q nt → Calls Try.prog 25 #[.pointer (some ⟨g, 0, none⟩), .int .i64 a.n] W (Did W g nt c' (rcells code nn f))) :
    Calls Try.prog 11 #[.pointer (some ⟨g, 0, none⟩), .agg (acArr a)] w (Did w g nt c' (rcells code nn f)) := by
  have hi := info_rep code nn f
  have ho := one_rep code nn f
  have HT : Hid _ := HT0
  clear HT0
  have k1 : (a.kind == 1) = false := by rw [hk]; rfl
  have k2 : (a.kind == 2) = true := by rw [hk]; rfl
  clear hk
  have A : Blk ((w.alloc (.cells (acArr a) 27)).alloc (.cells zR 35)) w.heap.size (acArr a) 27 := (Blk.new w _ _).alloc _
  have Z : Blk ((w.alloc (.cells (acArr a) 27)).alloc (.cells zR 35)) (w.heap.size + 1) zR 35 := Blk.new1 w _ _ _
  have L0 : Below w.heap.size w ((w.alloc (.cells (acArr a) 27)).alloc (.cells zR 35)) := by go_grown
  have H0 := H.keep L0
  have hgw := H.blk.lt
  have hacts : ((c.acts : Int) == 600) = false := beq_eq_false_iff_ne.2 (by omega)
  have hactI : (c.acts : Int) < 600 := by omega
  clear H
  go_enter Try.func11, Try.ntmps11
  go_upto_region 1 with fail
  generalize ((w.alloc (.cells (acArr a) 27)).alloc (.cells zR 35)) = w0 at A Z L0 H0 ⊢
  have c0 := H0.acts
  have f0 := H0.blk.free 1130
  go_upto_region 6 with fail
  obtain ⟨w1, hw1⟩ : ∃ w1, w1 = w0.setCell ⟨g, 1130, none⟩ (.int .i64 ((c.acts : Int) + 1)) := ⟨_, rfl⟩
  have H1 : CwAt w1 g 70 c.more q nt := by rw [hw1]; exact H0.more (by decide) (by decide)
  have T1 : Touch g nt w w1 := by rw [hw1]; exact (Touch.below L0).trans (Touch.grownB (grown_setCell w0 g 1130 _)) (Next.refl _ _)
  have A1 : Blk w1 w.heap.size (acArr a) 27 := by rw [hw1]; exact A.setCell_other _ _ (by show w.heap.size ≠ g; omega)
  have Z1 : Blk w1 (w.heap.size + 1) zR 35 := by rw [hw1]; exact Z.setCell_other _ _ (by show w.heap.size + 1 ≠ g; omega)
  rw [← hw1]
  clear hw1 c0 f0 H0 A Z L0 hacts hactI h6
  have a0 := A1.cell 0
  have a1 := A1.cell 1
  have a2 := A1.cell 2
  have a3 := A1.cell 3
  rw [show (acArr a)[0]? = some (.int .i64 a.kind) from rfl] at a0
  rw [show (acArr a)[1]? = some (.int .i64 a.node) from rfl] at a1
  rw [show (acArr a)[2]? = some (.int .i64 a.n) from rfl] at a2
  rw [show (acArr a)[3]? = some (.int .i64 a.value) from rfl] at a3
  go_wp2_with (first
    | (go_at_call 25; refine (HT.out w1 q nt H1).mono ?_; rintro e w4 ⟨rfl, q', nt', C4, T4, N4⟩; have Z4 := T4.blk H1.blk H1.net Z1 (by decide) (by decide))
    | (refine wpList_store_blk rfl 35 _ _ rfl (w.heap.size + 1) zR (rcells code nn f) 35 rfl rfl Z4 rfl hi ho ?_; rintro w5 B5 K5))
  exact bodyPost_ret (result_rep rfl _ _ (w.heap.size + 1) _ _ _ rfl B5) rfl ⟨rfl, q', nt', C4.kept K5 Z4 (by decide) (by decide) (by decide), (T1.trans T4 (Next.refl _ _)).more (K5.bel _ _ (Nat.le_refl _) (Below.refl _ _)) (by omega), (Next.refl _ w).trans N4 T1.size⟩

set_option maxRecDepth 100000 in
set_option maxHeartbeats 4000000 in
theorem do_drop {w : World} {g : Nat} {c : Cw} {q : Nat → Value} {nt : Value} (H : CwAt w g 70 c q nt) (a : Ac) (h6 : c.acts < 600) (hk : a.kind = 3) (code nn : Int) (f : Nat → Int) (c' : Cw)
    (HT0 : ∀ W q nt, CwAt W g 70 c.more q nt → Calls Try.prog 26 #[.pointer (some ⟨g, 0, none⟩), .int .i64 a.n] W (Did W g nt c' (rcells code nn f))) :
    Calls Try.prog 11 #[.pointer (some ⟨g, 0, none⟩), .agg (acArr a)] w (Did w g nt c' (rcells code nn f)) := by
  have hi := info_rep code nn f
  have ho := one_rep code nn f
  have HT : Hid _ := HT0
  clear HT0
  have k1 : (a.kind == 1) = false := by rw [hk]; rfl
  have k2 : (a.kind == 2) = false := by rw [hk]; rfl
  have k3 : (a.kind == 3) = true := by rw [hk]; rfl
  clear hk
  have A : Blk ((w.alloc (.cells (acArr a) 27)).alloc (.cells zR 35)) w.heap.size (acArr a) 27 := (Blk.new w _ _).alloc _
  have Z : Blk ((w.alloc (.cells (acArr a) 27)).alloc (.cells zR 35)) (w.heap.size + 1) zR 35 := Blk.new1 w _ _ _
  have L0 : Below w.heap.size w ((w.alloc (.cells (acArr a) 27)).alloc (.cells zR 35)) := by go_grown
  have H0 := H.keep L0
  have hgw := H.blk.lt
  have hacts : ((c.acts : Int) == 600) = false := beq_eq_false_iff_ne.2 (by omega)
  have hactI : (c.acts : Int) < 600 := by omega
  clear H
  go_enter Try.func11, Try.ntmps11
  go_upto_region 1 with fail
  generalize ((w.alloc (.cells (acArr a) 27)).alloc (.cells zR 35)) = w0 at A Z L0 H0 ⊢
  have c0 := H0.acts
  have f0 := H0.blk.free 1130
  go_upto_region 6 with fail
  obtain ⟨w1, hw1⟩ : ∃ w1, w1 = w0.setCell ⟨g, 1130, none⟩ (.int .i64 ((c.acts : Int) + 1)) := ⟨_, rfl⟩
  have H1 : CwAt w1 g 70 c.more q nt := by rw [hw1]; exact H0.more (by decide) (by decide)
  have T1 : Touch g nt w w1 := by rw [hw1]; exact (Touch.below L0).trans (Touch.grownB (grown_setCell w0 g 1130 _)) (Next.refl _ _)
  have A1 : Blk w1 w.heap.size (acArr a) 27 := by rw [hw1]; exact A.setCell_other _ _ (by show w.heap.size ≠ g; omega)
  have Z1 : Blk w1 (w.heap.size + 1) zR 35 := by rw [hw1]; exact Z.setCell_other _ _ (by show w.heap.size + 1 ≠ g; omega)
  rw [← hw1]
  clear hw1 c0 f0 H0 A Z L0 hacts hactI h6
  have a0 := A1.cell 0
  have a1 := A1.cell 1
  have a2 := A1.cell 2
  have a3 := A1.cell 3
  rw [show (acArr a)[0]? = some (.int .i64 a.kind) from rfl] at a0
  rw [show (acArr a)[1]? = some (.int .i64 a.node) from rfl] at a1
  rw [show (acArr a)[2]? = some (.int .i64 a.n) from rfl] at a2
  rw [show (acArr a)[3]? = some (.int .i64 a.value) from rfl] at a3
  go_wp2_with (first
    | (go_at_call 26; refine (HT.out w1 q nt H1).mono ?_; rintro e w4 ⟨rfl, q', nt', C4, T4, N4⟩; have Z4 := T4.blk H1.blk H1.net Z1 (by decide) (by decide))
    | (refine wpList_store_blk rfl 35 _ _ rfl (w.heap.size + 1) zR (rcells code nn f) 35 rfl rfl Z4 rfl hi ho ?_; rintro w5 B5 K5))
  exact bodyPost_ret (result_rep rfl _ _ (w.heap.size + 1) _ _ _ rfl B5) rfl ⟨rfl, q', nt', C4.kept K5 Z4 (by decide) (by decide) (by decide), (T1.trans T4 (Next.refl _ _)).more (K5.bel _ _ (Nat.le_refl _) (Below.refl _ _)) (by omega), (Next.refl _ w).trans N4 T1.size⟩

set_option maxRecDepth 100000 in
set_option maxHeartbeats 4000000 in
theorem do_time {w : World} {g : Nat} {c : Cw} {q : Nat → Value} {nt : Value} (H : CwAt w g 70 c q nt) (a : Ac) (h6 : c.acts < 600) (hk : a.kind = 4) (code nn : Int) (f : Nat → Int) (c' : Cw)
    (HT0 : ∀ W q nt, CwAt W g 70 c.more q nt → Calls Try.prog 23 #[.pointer (some ⟨g, 0, none⟩), .int .i64 a.node, .func (.func 27) #[] #[]] W (Did W g nt c' (rcells code nn f))) :
    Calls Try.prog 11 #[.pointer (some ⟨g, 0, none⟩), .agg (acArr a)] w (Did w g nt c' (rcells code nn f)) := by
  have hi := info_rep code nn f
  have ho := one_rep code nn f
  have HT : Hid _ := HT0
  clear HT0
  have k1 : (a.kind == 1) = false := by rw [hk]; rfl
  have k2 : (a.kind == 2) = false := by rw [hk]; rfl
  have k3 : (a.kind == 3) = false := by rw [hk]; rfl
  have k4 : (a.kind == 4) = true := by rw [hk]; rfl
  clear hk
  have A : Blk ((w.alloc (.cells (acArr a) 27)).alloc (.cells zR 35)) w.heap.size (acArr a) 27 := (Blk.new w _ _).alloc _
  have Z : Blk ((w.alloc (.cells (acArr a) 27)).alloc (.cells zR 35)) (w.heap.size + 1) zR 35 := Blk.new1 w _ _ _
  have L0 : Below w.heap.size w ((w.alloc (.cells (acArr a) 27)).alloc (.cells zR 35)) := by go_grown
  have H0 := H.keep L0
  have hgw := H.blk.lt
  have hacts : ((c.acts : Int) == 600) = false := beq_eq_false_iff_ne.2 (by omega)
  have hactI : (c.acts : Int) < 600 := by omega
  clear H
  go_enter Try.func11, Try.ntmps11
  go_upto_region 1 with fail
  generalize ((w.alloc (.cells (acArr a) 27)).alloc (.cells zR 35)) = w0 at A Z L0 H0 ⊢
  have c0 := H0.acts
  have f0 := H0.blk.free 1130
  go_upto_region 6 with fail
  obtain ⟨w1, hw1⟩ : ∃ w1, w1 = w0.setCell ⟨g, 1130, none⟩ (.int .i64 ((c.acts : Int) + 1)) := ⟨_, rfl⟩
  have H1 : CwAt w1 g 70 c.more q nt := by rw [hw1]; exact H0.more (by decide) (by decide)
  have T1 : Touch g nt w w1 := by rw [hw1]; exact (Touch.below L0).trans (Touch.grownB (grown_setCell w0 g 1130 _)) (Next.refl _ _)
  have A1 : Blk w1 w.heap.size (acArr a) 27 := by rw [hw1]; exact A.setCell_other _ _ (by show w.heap.size ≠ g; omega)
  have Z1 : Blk w1 (w.heap.size + 1) zR 35 := by rw [hw1]; exact Z.setCell_other _ _ (by show w.heap.size + 1 ≠ g; omega)
  rw [← hw1]
  clear hw1 c0 f0 H0 A Z L0 hacts hactI h6
  have a0 := A1.cell 0
  have a1 := A1.cell 1
  have a2 := A1.cell 2
  have a3 := A1.cell 3
  rw [show (acArr a)[0]? = some (.int .i64 a.kind) from rfl] at a0
  rw [show (acArr a)[1]? = some (.int .i64 a.node) from rfl] at a1
  rw [show (acArr a)[2]? = some (.int .i64 a.n) from rfl] at a2
  rw [show (acArr a)[3]? = some (.int .i64 a.value) from rfl] at a3
  go_wp2_with (first
    | (go_at_call 23; refine (HT.out w1 q nt H1).mono ?_; rintro e w4 ⟨rfl, q', nt', C4, T4, N4⟩; have Z4 := T4.blk H1.blk H1.net Z1 (by decide) (by decide))
    | (refine wpList_store_blk rfl 35 _ _ rfl (w.heap.size + 1) zR (rcells code nn f) 35 rfl rfl Z4 rfl hi ho ?_; rintro w5 B5 K5))
  exact bodyPost_ret (result_rep rfl _ _ (w.heap.size + 1) _ _ _ rfl B5) rfl ⟨rfl, q', nt', C4.kept K5 Z4 (by decide) (by decide) (by decide), (T1.trans T4 (Next.refl _ _)).more (K5.bel _ _ (Nat.le_refl _) (Below.refl _ _)) (by omega), (Next.refl _ w).trans N4 T1.size⟩

set_option maxRecDepth 100000 in
set_option maxHeartbeats 4000000 in
theorem do_lie {w : World} {g : Nat} {c : Cw} {q : Nat → Value} {nt : Value} (H : CwAt w g 70 c q nt) (a : Ac) (h6 : c.acts < 600) (hk : a.kind = 5) (code nn : Int) (f : Nat → Int) (c' : Cw)
    (HT0 : ∀ W q nt, CwAt W g 70 c.more q nt → Calls Try.prog 28 #[.pointer (some ⟨g, 0, none⟩), .int .i64 a.node, .agg (wdArr a.word)] W (Did W g nt c' (rcells code nn f))) :
    Calls Try.prog 11 #[.pointer (some ⟨g, 0, none⟩), .agg (acArr a)] w (Did w g nt c' (rcells code nn f)) := by
  have hi := info_rep code nn f
  have ho := one_rep code nn f
  have HT : Hid _ := HT0
  clear HT0
  have k1 : (a.kind == 1) = false := by rw [hk]; rfl
  have k2 : (a.kind == 2) = false := by rw [hk]; rfl
  have k3 : (a.kind == 3) = false := by rw [hk]; rfl
  have k4 : (a.kind == 4) = false := by rw [hk]; rfl
  have k5 : (a.kind == 5) = true := by rw [hk]; rfl
  clear hk
  have hi6 : (Try.prog.info? 24).map (·.size) = some (wdArr a.word).size := by show _ = some 6; kernel_rfl
  have A : Blk ((w.alloc (.cells (acArr a) 27)).alloc (.cells zR 35)) w.heap.size (acArr a) 27 := (Blk.new w _ _).alloc _
  have Z : Blk ((w.alloc (.cells (acArr a) 27)).alloc (.cells zR 35)) (w.heap.size + 1) zR 35 := Blk.new1 w _ _ _
  have L0 : Below w.heap.size w ((w.alloc (.cells (acArr a) 27)).alloc (.cells zR 35)) := by go_grown
  have H0 := H.keep L0
  have hgw := H.blk.lt
  have hacts : ((c.acts : Int) == 600) = false := beq_eq_false_iff_ne.2 (by omega)
  have hactI : (c.acts : Int) < 600 := by omega
  clear H
  go_enter Try.func11, Try.ntmps11
  go_upto_region 1 with fail
  generalize ((w.alloc (.cells (acArr a) 27)).alloc (.cells zR 35)) = w0 at A Z L0 H0 ⊢
  have c0 := H0.acts
  have f0 := H0.blk.free 1130
  go_upto_region 6 with fail
  obtain ⟨w1, hw1⟩ : ∃ w1, w1 = w0.setCell ⟨g, 1130, none⟩ (.int .i64 ((c.acts : Int) + 1)) := ⟨_, rfl⟩
  have H1 : CwAt w1 g 70 c.more q nt := by rw [hw1]; exact H0.more (by decide) (by decide)
  have T1 : Touch g nt w w1 := by rw [hw1]; exact (Touch.below L0).trans (Touch.grownB (grown_setCell w0 g 1130 _)) (Next.refl _ _)
  have A1 : Blk w1 w.heap.size (acArr a) 27 := by rw [hw1]; exact A.setCell_other _ _ (by show w.heap.size ≠ g; omega)
  have Z1 : Blk w1 (w.heap.size + 1) zR 35 := by rw [hw1]; exact Z.setCell_other _ _ (by show w.heap.size + 1 ≠ g; omega)
  rw [← hw1]
  clear hw1 c0 f0 H0 A Z L0 hacts hactI h6
  have a0 := A1.cell 0
  have a1 := A1.cell 1
  have a2 := A1.cell 2
  have a3 := A1.cell 3
  rw [show (acArr a)[0]? = some (.int .i64 a.kind) from rfl] at a0
  rw [show (acArr a)[1]? = some (.int .i64 a.node) from rfl] at a1
  rw [show (acArr a)[2]? = some (.int .i64 a.n) from rfl] at a2
  rw [show (acArr a)[3]? = some (.int .i64 a.value) from rfl] at a3
  go_wp2_with (first
    | (refine wpList_load_part (by rfl) 24 _ rfl w.heap.size 4 rfl (wdArr a.word) _ (act_word A1) Try.underlying24 rfl hi6 ?_)
    | (go_at_call 28; refine (HT.out w1 q nt H1).mono ?_; rintro e w4 ⟨rfl, q', nt', C4, T4, N4⟩; have Z4 := T4.blk H1.blk H1.net Z1 (by decide) (by decide))
    | (refine wpList_store_blk rfl 35 _ _ rfl (w.heap.size + 1) zR (rcells code nn f) 35 rfl rfl Z4 rfl hi ho ?_; rintro w5 B5 K5))
  exact bodyPost_ret (result_rep rfl _ _ (w.heap.size + 1) _ _ _ rfl B5) rfl ⟨rfl, q', nt', C4.kept K5 Z4 (by decide) (by decide) (by decide), (T1.trans T4 (Next.refl _ _)).more (K5.bel _ _ (Nat.le_refl _) (Below.refl _ _)) (by omega), (Next.refl _ w).trans N4 T1.size⟩

set_option maxRecDepth 100000 in
set_option maxHeartbeats 4000000 in
theorem do_read {w : World} {g : Nat} {c : Cw} {q : Nat → Value} {nt : Value} (H : CwAt w g 70 c q nt) (a : Ac) (h6 : c.acts < 600) (hk : a.kind = 6) (code nn : Int) (f : Nat → Int) (c' : Cw)
    (HT0 : ∀ W q nt, CwAt W g 70 c.more q nt → Calls Try.prog 29 #[.pointer (some ⟨g, 0, none⟩), .bool (a.n != 0), .agg (four a.tell)] W (Did W g nt c' (rcells code nn f))) :
    Calls Try.prog 11 #[.pointer (some ⟨g, 0, none⟩), .agg (acArr a)] w (Did w g nt c' (rcells code nn f)) := by
  have hi := info_rep code nn f
  have ho := one_rep code nn f
  have HT : Hid _ := HT0
  clear HT0
  have k1 : (a.kind == 1) = false := by rw [hk]; rfl
  have k2 : (a.kind == 2) = false := by rw [hk]; rfl
  have k3 : (a.kind == 3) = false := by rw [hk]; rfl
  have k4 : (a.kind == 4) = false := by rw [hk]; rfl
  have k5 : (a.kind == 5) = false := by rw [hk]; rfl
  have k6 : (a.kind == 6) = true := by rw [hk]; rfl
  clear hk
  have hi4 : (Try.prog.info? 25).map (·.size) = some (four a.tell).size := by show _ = some 4; kernel_rfl
  have A : Blk ((w.alloc (.cells (acArr a) 27)).alloc (.cells zR 35)) w.heap.size (acArr a) 27 := (Blk.new w _ _).alloc _
  have Z : Blk ((w.alloc (.cells (acArr a) 27)).alloc (.cells zR 35)) (w.heap.size + 1) zR 35 := Blk.new1 w _ _ _
  have L0 : Below w.heap.size w ((w.alloc (.cells (acArr a) 27)).alloc (.cells zR 35)) := by go_grown
  have H0 := H.keep L0
  have hgw := H.blk.lt
  have hacts : ((c.acts : Int) == 600) = false := beq_eq_false_iff_ne.2 (by omega)
  have hactI : (c.acts : Int) < 600 := by omega
  clear H
  go_enter Try.func11, Try.ntmps11
  go_upto_region 1 with fail
  generalize ((w.alloc (.cells (acArr a) 27)).alloc (.cells zR 35)) = w0 at A Z L0 H0 ⊢
  have c0 := H0.acts
  have f0 := H0.blk.free 1130
  go_upto_region 6 with fail
  obtain ⟨w1, hw1⟩ : ∃ w1, w1 = w0.setCell ⟨g, 1130, none⟩ (.int .i64 ((c.acts : Int) + 1)) := ⟨_, rfl⟩
  have H1 : CwAt w1 g 70 c.more q nt := by rw [hw1]; exact H0.more (by decide) (by decide)
  have T1 : Touch g nt w w1 := by rw [hw1]; exact (Touch.below L0).trans (Touch.grownB (grown_setCell w0 g 1130 _)) (Next.refl _ _)
  have A1 : Blk w1 w.heap.size (acArr a) 27 := by rw [hw1]; exact A.setCell_other _ _ (by show w.heap.size ≠ g; omega)
  have Z1 : Blk w1 (w.heap.size + 1) zR 35 := by rw [hw1]; exact Z.setCell_other _ _ (by show w.heap.size + 1 ≠ g; omega)
  rw [← hw1]
  clear hw1 c0 f0 H0 A Z L0 hacts hactI h6
  have a0 := A1.cell 0
  have a1 := A1.cell 1
  have a2 := A1.cell 2
  have a3 := A1.cell 3
  rw [show (acArr a)[0]? = some (.int .i64 a.kind) from rfl] at a0
  rw [show (acArr a)[1]? = some (.int .i64 a.node) from rfl] at a1
  rw [show (acArr a)[2]? = some (.int .i64 a.n) from rfl] at a2
  rw [show (acArr a)[3]? = some (.int .i64 a.value) from rfl] at a3
  go_wp2_with (first
    | (refine wpList_load_part (by rfl) 25 _ rfl w.heap.size 10 rfl (four a.tell) _ (act_tell A1) Try.underlying25 rfl hi4 ?_)
    | (go_at_call 29; refine (HT.out w1 q nt H1).mono ?_; rintro e w4 ⟨rfl, q', nt', C4, T4, N4⟩; have Z4 := T4.blk H1.blk H1.net Z1 (by decide) (by decide))
    | (refine wpList_store_blk rfl 35 _ _ rfl (w.heap.size + 1) zR (rcells code nn f) 35 rfl rfl Z4 rfl hi ho ?_; rintro w5 B5 K5))
  exact bodyPost_ret (result_rep rfl _ _ (w.heap.size + 1) _ _ _ rfl B5) rfl ⟨rfl, q', nt', C4.kept K5 Z4 (by decide) (by decide) (by decide), (T1.trans T4 (Next.refl _ _)).more (K5.bel _ _ (Nat.le_refl _) (Below.refl _ _)) (by omega), (Next.refl _ w).trans N4 T1.size⟩

set_option maxRecDepth 100000 in
set_option maxHeartbeats 4000000 in
theorem do_submit {w : World} {g : Nat} {c : Cw} {q : Nat → Value} {nt : Value} (H : CwAt w g 70 c q nt) (a : Ac) (h6 : c.acts < 600) (hk : a.kind = 1) (code nn : Int) (f : Nat → Int) (c' : Cw)
    (HT0 : ∀ W q nt b, CwAt W g 70 c.more q nt → W.cell? ⟨b, 0, none⟩ = some (.int .i64 a.value) → Calls Try.prog 23 #[.pointer (some ⟨g, 0, none⟩), .int .i64 a.node, .func (.func 42) #[] #[.pointer (some ⟨b, 0, none⟩)]] W (Did W g nt c' (rcells code nn f))) :
    Calls Try.prog 11 #[.pointer (some ⟨g, 0, none⟩), .agg (acArr a)] w (Did w g nt c' (rcells code nn f)) := by
  have hi := info_rep code nn f
  have ho := one_rep code nn f
  have HT : Hid _ := HT0
  clear HT0
  have k1 : (a.kind == 1) = true := by rw [hk]; rfl
  clear hk
  have A : Blk ((w.alloc (.cells (acArr a) 27)).alloc (.cells zR 35)) w.heap.size (acArr a) 27 := (Blk.new w _ _).alloc _
  have Z : Blk ((w.alloc (.cells (acArr a) 27)).alloc (.cells zR 35)) (w.heap.size + 1) zR 35 := Blk.new1 w _ _ _
  have L0 : Below w.heap.size w ((w.alloc (.cells (acArr a) 27)).alloc (.cells zR 35)) := by go_grown
  have H0 := H.keep L0
  have hgw := H.blk.lt
  have hacts : ((c.acts : Int) == 600) = false := beq_eq_false_iff_ne.2 (by omega)
  have hactI : (c.acts : Int) < 600 := by omega
  clear H
  go_enter Try.func11, Try.ntmps11
  go_upto_region 1 with fail
  generalize ((w.alloc (.cells (acArr a) 27)).alloc (.cells zR 35)) = w0 at A Z L0 H0 ⊢
  have c0 := H0.acts
  have f0 := H0.blk.free 1130
  go_upto_region 6 with fail
  obtain ⟨w1, hw1⟩ : ∃ w1, w1 = w0.setCell ⟨g, 1130, none⟩ (.int .i64 ((c.acts : Int) + 1)) := ⟨_, rfl⟩
  have H1 : CwAt w1 g 70 c.more q nt := by rw [hw1]; exact H0.more (by decide) (by decide)
  have T1 : Touch g nt w w1 := by rw [hw1]; exact (Touch.below L0).trans (Touch.grownB (grown_setCell w0 g 1130 _)) (Next.refl _ _)
  have A1 : Blk w1 w.heap.size (acArr a) 27 := by rw [hw1]; exact A.setCell_other _ _ (by show w.heap.size ≠ g; omega)
  have Z1 : Blk w1 (w.heap.size + 1) zR 35 := by rw [hw1]; exact Z.setCell_other _ _ (by show w.heap.size + 1 ≠ g; omega)
  rw [← hw1]
  clear hw1 c0 f0 H0 A Z L0 hacts hactI h6
  have a0 := A1.cell 0
  have a1 := A1.cell 1
  have a2 := A1.cell 2
  have a3 := A1.cell 3
  rw [show (acArr a)[0]? = some (.int .i64 a.kind) from rfl] at a0
  rw [show (acArr a)[1]? = some (.int .i64 a.node) from rfl] at a1
  rw [show (acArr a)[2]? = some (.int .i64 a.n) from rfl] at a2
  rw [show (acArr a)[3]? = some (.int .i64 a.value) from rfl] at a3
  go_wp2_with fail
  refine held_region (fun W => W.cell? ⟨w.heap.size, 1, none⟩ = some (.int .i64 a.node) ∧ W.cell? ⟨w.heap.size, 3, none⟩ = some (.int .i64 a.value)) [] [(0, 0), (1, 0), (2, 1), (3, 0), (4, 1), (5, 2), (6, 2), (7, 2)] (by kernel_rfl) (by kernel_rfl) (by kernel_rfl) rfl (fun _ _ d _ _ h => by cases d <;> exact h) ⟨a1, a3⟩ ?_
  repeat (first
    | (refine ord_run0_ex rfl (by rfl) ?_
       apply Exists.intro
       refine ⟨fun w0 => ?_, ?_⟩
       · go_simp; rfl
       simp only [Act.put, List.setIfInBounds_toArray, List.set_cons_zero, List.set_cons_succ])
    | (refine ord_run1_ex rfl (by rfl) ?_
       apply Exists.intro
       refine ⟨fun w0 hC => ?_, ?_⟩
       · obtain ⟨e0, e1⟩ := hC; go_simp; rfl
       simp only [Act.put, List.setIfInBounds_toArray, List.set_cons_zero, List.set_cons_succ]))
  refine ord_call_ex rfl (by rfl) ⟨24, #[.int .i64 a.value], by go_simp, (submits_any a.value _).mono ?_⟩
  rintro e w2 ⟨rfl, hw2⟩
  have Lw : Below w1.heap.size w1 w2 := by rw [hw2]; exact Below.alloc (below_drew' (Below.refl _ w1)) (Nat.le_refl _) _
  have Bw : w2.cell? ⟨w1.drew.heap.size, 0, none⟩ = some (.int .i64 a.value) := by rw [hw2]; exact (Blk.new w1.drew #[.int .i64 a.value] 3).cell 0
  clear hw2
  have A2 := A1.below Lw
  have H2 := H1.keep Lw
  have Z2 := Z1.below Lw
  refine ⟨_, rfl, fun _ => ⟨cell_on a1 Lw, cell_on a3 Lw⟩, ?_⟩
  simp only [Act.put, List.setIfInBounds_toArray, List.set_cons_zero, List.set_cons_succ]
  refine ord_call_ex rfl (by rfl) ⟨23, #[.pointer (some ⟨g, 0, none⟩), .int .i64 a.node, .func (.func 42) #[] #[.pointer (some ⟨w1.drew.heap.size, 0, none⟩)]], by go_simp, (HT.out w2 q nt w1.drew.heap.size H2 Bw).mono ?_⟩
  rintro e w4 ⟨rfl, q', nt', C4, T4, N4⟩
  have A4 := T4.blk H2.blk H2.net A2 (by decide) (by decide)
  have Z4 := T4.blk H2.blk H2.net Z2 (by decide) (by decide)
  have b1 := A4.cell 1
  have b3 := A4.cell 3
  rw [show (acArr a)[1]? = some (.int .i64 a.node) from rfl] at b1
  rw [show (acArr a)[3]? = some (.int .i64 a.value) from rfl] at b3
  refine ⟨_, rfl, fun _ => ⟨b1, b3⟩, ?_⟩
  simp only [Act.put, List.setIfInBounds_toArray, List.set_cons_zero, List.set_cons_succ]
  refine ord_do rfl ?_
  refine wpList_store_blk rfl 35 _ _ rfl (w.heap.size + 1) zR (rcells code nn f) 35 rfl rfl Z4 rfl hi ho ?_
  rintro w5 B5 K5
  have A5 := K5.blk _ _ _ (by omega) A4
  have d1 := A5.cell 1
  have d3 := A5.cell 3
  rw [show (acArr a)[1]? = some (.int .i64 a.node) from rfl] at d1
  rw [show (acArr a)[3]? = some (.int .i64 a.value) from rfl] at d3
  refine ⟨fun _ => ⟨d1, d3⟩, ?_⟩
  show wpOrd _ _ _ _ _ [] _ _ _
  unfold wpOrd
  go_wp2
  exact bodyPost_ret (result_rep rfl _ _ (w.heap.size + 1) _ _ _ rfl B5) rfl ⟨rfl, q', nt', C4.kept K5 Z4 (by decide) (by decide) (by decide), ((T1.trans (Touch.below Lw) (Next.refl _ _)).trans T4 (Next.refl _ _)).more (K5.bel _ _ (Nat.le_refl _) (Below.refl _ _)) (by omega), (Next.refl _ w).trans N4 (Nat.le_trans T1.size Lw.size)⟩

set_option maxRecDepth 100000 in
set_option maxHeartbeats 4000000 in
theorem do_none {w : World} {g : Nat} {c : Cw} {q : Nat → Value} {nt : Value} (H : CwAt w g 70 c q nt) (a : Ac) (h6 : c.acts < 600)
    (hk : a.kind ≠ 1 ∧ a.kind ≠ 2 ∧ a.kind ≠ 3 ∧ a.kind ≠ 4 ∧ a.kind ≠ 5 ∧ a.kind ≠ 6) :
    Calls Try.prog 11 #[.pointer (some ⟨g, 0, none⟩), .agg (acArr a)] w (Did w g nt c.more (refused 3)) := by
  have hi := info_rep 3 0 fun _ => 0
  have ho := one_rep 3 0 fun _ => 0
  have k1 : (a.kind == 1) = false := beq_eq_false_iff_ne.2 (by omega)
  have k2 : (a.kind == 2) = false := beq_eq_false_iff_ne.2 (by omega)
  have k3 : (a.kind == 3) = false := beq_eq_false_iff_ne.2 (by omega)
  have k4 : (a.kind == 4) = false := beq_eq_false_iff_ne.2 (by omega)
  have k5 : (a.kind == 5) = false := beq_eq_false_iff_ne.2 (by omega)
  have k6 : (a.kind == 6) = false := beq_eq_false_iff_ne.2 (by omega)
  clear hk
  have A : Blk ((w.alloc (.cells (acArr a) 27)).alloc (.cells zR 35)) w.heap.size (acArr a) 27 := (Blk.new w _ _).alloc _
  have Z : Blk ((w.alloc (.cells (acArr a) 27)).alloc (.cells zR 35)) (w.heap.size + 1) zR 35 := Blk.new1 w _ _ _
  have L0 : Below w.heap.size w ((w.alloc (.cells (acArr a) 27)).alloc (.cells zR 35)) := by go_grown
  have H0 := H.keep L0
  have hgw := H.blk.lt
  have hacts : ((c.acts : Int) == 600) = false := beq_eq_false_iff_ne.2 (by omega)
  have hactI : (c.acts : Int) < 600 := by omega
  clear H
  go_enter Try.func11, Try.ntmps11
  go_upto_region 1 with fail
  generalize ((w.alloc (.cells (acArr a) 27)).alloc (.cells zR 35)) = w0 at A Z L0 H0 ⊢
  have c0 := H0.acts
  have f0 := H0.blk.free 1130
  go_upto_region 6 with fail
  obtain ⟨w1, hw1⟩ : ∃ w1, w1 = w0.setCell ⟨g, 1130, none⟩ (.int .i64 ((c.acts : Int) + 1)) := ⟨_, rfl⟩
  have H1 : CwAt w1 g 70 c.more q nt := by rw [hw1]; exact H0.more (by decide) (by decide)
  have T1 : Touch g nt w w1 := by rw [hw1]; exact (Touch.below L0).trans (Touch.grownB (grown_setCell w0 g 1130 _)) (Next.refl _ _)
  have A1 : Blk w1 w.heap.size (acArr a) 27 := by rw [hw1]; exact A.setCell_other _ _ (by show w.heap.size ≠ g; omega)
  have Z1 : Blk w1 (w.heap.size + 1) zR 35 := by rw [hw1]; exact Z.setCell_other _ _ (by show w.heap.size + 1 ≠ g; omega)
  rw [← hw1]
  clear hw1 c0 f0 H0 A Z L0 hacts hactI h6
  have a0 := A1.cell 0
  have a1 := A1.cell 1
  have a2 := A1.cell 2
  have a3 := A1.cell 3
  rw [show (acArr a)[0]? = some (.int .i64 a.kind) from rfl] at a0
  rw [show (acArr a)[1]? = some (.int .i64 a.node) from rfl] at a1
  rw [show (acArr a)[2]? = some (.int .i64 a.n) from rfl] at a2
  rw [show (acArr a)[3]? = some (.int .i64 a.value) from rfl] at a3
  go_wp2_with (first
    | (go_at_call 22; refine (crefuse_any 3 _).mono ?_; rintro e w4 ⟨rfl, L4⟩; have Z4 := Z1.below L4; have C4 := H1.keep L4)
    | (refine wpList_store_blk rfl 35 _ _ rfl (w.heap.size + 1) zR (refused 3) 35 rfl rfl Z4 rfl hi ho ?_; rintro w5 B5 K5))
  exact bodyPost_ret (result_rep rfl _ _ (w.heap.size + 1) _ _ _ rfl B5) rfl ⟨rfl, q, nt, C4.kept K5 Z4 (by decide) (by decide) (by decide), (T1.trans (Touch.below L4) (Next.refl _ _)).more (K5.bel _ _ (Nat.le_refl _) (Below.refl _ _)) (by omega), Next.refl _ _⟩
end Go.Proofs.Ytmmgaonlmpajbac
