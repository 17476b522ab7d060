/-
  The statement VotesOnce.
-/
import Derived.Test.YtmmgaonlmpajbaaVMeetLaw
import Derived.Test.YtmmgaonlmpajbaaVHearLaw
import Derived.Test.YtmmgaonlmpajbaaPlainN
namespace Go.Proofs.Ytmmgaonlmpajbaa
open Go.RowKit

/-- Blocks b and x have sheets, blocks c and d words. -/
def HeldO (S X : Sh) (A B : Array Value) (b c d x : Nat) (w W : World) : Prop :=
  Blk W b S.cells 49 ∧ Blk W c A 23 ∧ Blk W d B 23 ∧ Blk W x X.cells 49 ∧ Below w.heap.size w W
theorem keepO {S X : Sh} {A B : Array Value} {b c d x : Nat} {w W W' : World} (H : HeldO S X A B b c d x w W) (hb : Below W.heap.size W W') : HeldO S X A B b c d x w W' :=
  ⟨H.1.below hb, H.2.1.below hb, H.2.2.1.below hb, H.2.2.2.1.below hb, bel_trans H.2.2.2.2 hb⟩
theorem keepO_drew {S X : Sh} {A B : Array Value} {b c d x : Nat} {w W : World} (H : HeldO S X A B b c d x w W) : HeldO S X A B b c d x w W.drew :=
  ⟨H.1.drew, H.2.1.drew, H.2.2.1.drew, H.2.2.2.1.drew, below_drew' H.2.2.2.2⟩

theorem vhear_to {S T : Sh} {k f h r v x : Int} (w : World) (hT : hearS S k f h r v x = T) :
    Calls Try.prog 33 #[.agg S.cells, .agg #[.int .i64 k, .int .i64 f, .int .i64 h, .int .i64 r, .int .i64 v, .int .i64 x]] w fun e w' => e = .returned (.agg T.cells) ∧ Below w.heap.size w w' := by
  rw [← hT]; exact vhear_any S k f h r v x w

theorem eq_t {x y : Int} (h : x = y) : (x == y) = true := by simp [h]
theorem eq_f {x y : Int} (h : ¬ x = y) : (x == y) = false := by simp [h]

/-- Where two words part first. -/
theorem once_cases (S : Sh) (ak af ah ar av ax bk bf bh br bv bx : Int) :
    ((((ak == bk) = true ∧ (af == bf) = true ∧ (ah == bh) = true ∧ (ar == br) = true) ∧ (goodC ak af ah ar av ax != 0) = true) ∨
    (((ak == bk) = true ∧ (af == bf) = true ∧ (ah == bh) = true ∧ (ar == br) = true) ∧ (goodC ak af ah ar av ax != 0) = false ∧ hearS (hearS S ak af ah ar av ax) bk bf bh br bv bx = hearS S ak af ah ar av ax)) ∨
    ((((ak == bk) = false) ∨ ((ak == bk) = true ∧ (af == bf) = false) ∨ ((ak == bk) = true ∧ (af == bf) = true ∧ (ah == bh) = false) ∨ ((ak == bk) = true ∧ (af == bf) = true ∧ (ah == bh) = true ∧ (ar == br) = false)) ∧
      ((ah != bh) = true ∨ ((ah != bh) = false ∧ hearS (hearS S ak af ah ar av ax) bk bf bh br bv bx = hearS (hearS S bk bf bh br bv bx) ak af ah ar av ax))) := by
  have comm : ah = bh → ¬ (ak = bk ∧ af = bf ∧ ar = br) → hearS (hearS S ak af ah ar av ax) bk bf bh br bv bx = hearS (hearS S bk bf bh br bv bx) ak af ah ar av ax := fun h1 h2 =>
    hear_comm S ⟨ak, af, ah, ar, av, ax⟩ ⟨bk, bf, bh, br, bv, bx⟩ h1 h2
  have tail : ¬ (ak = bk ∧ af = bf ∧ ar = br) → ((ah != bh) = true ∨ ((ah != bh) = false ∧ hearS (hearS S ak af ah ar av ax) bk bf bh br bv bx = hearS (hearS S bk bf bh br bv bx) ak af ah ar av ax)) := fun h2 => by
    by_cases hh : ah = bh
    · exact Or.inr ⟨neq_f hh, comm hh h2⟩
    · exact Or.inl (neq_t hh)
  by_cases h0 : ak = bk
  · by_cases h1 : af = bf
    · by_cases h2 : ah = bh
      · by_cases h3 : ar = br
        · by_cases hg : goodC ak af ah ar av ax = 0
          · exact Or.inl (Or.inr ⟨⟨eq_t h0, eq_t h1, eq_t h2, eq_t h3⟩, neq_f hg, hear_twice S ⟨ak, af, ah, ar, av, ax⟩ ⟨bk, bf, bh, br, bv, bx⟩ hg h0 h1 h2 h3⟩)
          · exact Or.inl (Or.inl ⟨⟨eq_t h0, eq_t h1, eq_t h2, eq_t h3⟩, neq_t hg⟩)
        · exact Or.inr ⟨Or.inr (Or.inr (Or.inr ⟨eq_t h0, eq_t h1, eq_t h2, eq_f h3⟩)), tail (fun hh => h3 hh.2.2)⟩
      · exact Or.inr ⟨Or.inr (Or.inr (Or.inl ⟨eq_t h0, eq_t h1, eq_f h2⟩)), Or.inl (neq_t h2)⟩
    · exact Or.inr ⟨Or.inr (Or.inl ⟨eq_t h0, eq_f h1⟩), tail (fun hh => h1 hh.2.1)⟩
  · exact Or.inr ⟨Or.inl (eq_f h0), tail (fun hh => h0 hh.1)⟩

set_option maxRecDepth 100000 in
set_option maxHeartbeats 1000000 in
theorem once_c1 (S X : Sh) (ak af ah ar av ax bk bf bh br bv bx : Int) (w : World) (HX : Hid (hearS S ak af ah ar av ax = X)) (e0 : (ak == bk) = true) (e1 : (af == bf) = true) (e2 : (ah == bh) = true) (e3 : (ar == br) = true) (hg : (goodC ak af ah ar av ax != 0) = true) :
    Calls Try.prog 9 #[.agg S.cells, .agg #[.int .i64 ak, .int .i64 af, .int .i64 ah, .int .i64 ar, .int .i64 av, .int .i64 ax], .agg #[.int .i64 bk, .int .i64 bf, .int .i64 bh, .int .i64 br, .int .i64 bv, .int .i64 bx]] w fun e w' => e = .returned (.bool true) ∧ Below w.heap.size w w' := by
  have hz := run_zero
  have hiS := info37 S
  have hiX := info37 X
  have hi23 : (Try.prog.info? 23).map (·.size) = some 6 := by kernel_rfl
  have heq : ∀ T : Sh, ∀ W, Sem.run Try.prog (Op.equalIn 10000 49 (.agg T.cells) (.agg T.cells)) W = .ok true W := eq_sheet
  have B0 : Blk (((w.alloc (.cells S.cells 49)).alloc (.cells #[.int .i64 ak, .int .i64 af, .int .i64 ah, .int .i64 ar, .int .i64 av, .int .i64 ax] 23)).alloc (.cells #[.int .i64 bk, .int .i64 bf, .int .i64 bh, .int .i64 br, .int .i64 bv, .int .i64 bx] 23)) w.heap.size S.cells 49 := ((Blk.new w _ _).alloc _).alloc _
  have B1 : Blk (((w.alloc (.cells S.cells 49)).alloc (.cells #[.int .i64 ak, .int .i64 af, .int .i64 ah, .int .i64 ar, .int .i64 av, .int .i64 ax] 23)).alloc (.cells #[.int .i64 bk, .int .i64 bf, .int .i64 bh, .int .i64 br, .int .i64 bv, .int .i64 bx] 23)) (w.heap.size + 1) #[.int .i64 ak, .int .i64 af, .int .i64 ah, .int .i64 ar, .int .i64 av, .int .i64 ax] 23 := (Blk.new1 w _ _ _).alloc _
  have B2 : Blk (((w.alloc (.cells S.cells 49)).alloc (.cells #[.int .i64 ak, .int .i64 af, .int .i64 ah, .int .i64 ar, .int .i64 av, .int .i64 ax] 23)).alloc (.cells #[.int .i64 bk, .int .i64 bf, .int .i64 bh, .int .i64 br, .int .i64 bv, .int .i64 bx] 23)) (w.heap.size + 1 + 1) #[.int .i64 bk, .int .i64 bf, .int .i64 bh, .int .i64 br, .int .i64 bv, .int .i64 bx] 23 := Blk.new2 w _ _ _ _
  go_enter Try.func9, Try.ntmps9
  go_wp2_with (first | (refine wpList_load_blk rfl 49 _ rfl w.heap.size rfl 49 S.cells _ B0 Try.underlying49 rfl hiS ?_))
  refine (vhear_to _ HX.out).mono ?_
  rintro e w1 ⟨rfl, hb1⟩
  have hsz : w.heap.size + 1 + 1 < w1.heap.size := by have := hb1.size; simp at this; omega
  have D0 := (B0.below hb1).alloc (.cells zS.cells 49)
  have D1 := (B1.below hb1).alloc (.cells zS.cells 49)
  have D2 := (B2.below hb1).alloc (.cells zS.cells 49)
  have DX := Blk.new w1 zS.cells 49
  have hbb : Below w.heap.size w (w1.alloc (.cells zS.cells 49)) := (below_past (below_past (below_past hb1))).alloc (by omega) _
  clear B0 B1 B2 hb1
  go_wp2_with (first | (refine wpList_store_blk rfl 49 _ _ rfl w1.heap.size zS.cells X.cells 49 rfl rfl DX (sizes zS X) hiX (one_cell X) ?_; rintro w2 B3 K2; have HO : HeldO S X #[.int .i64 ak, .int .i64 af, .int .i64 ah, .int .i64 ar, .int .i64 av, .int .i64 ax] #[.int .i64 bk, .int .i64 bf, .int .i64 bh, .int .i64 br, .int .i64 bv, .int .i64 bx] w.heap.size (w.heap.size + 1) (w.heap.size + 1 + 1) w1.heap.size w w2 := ⟨K2.blk _ _ _ (by omega) D0, K2.blk _ _ _ (by omega) D1, K2.blk _ _ _ (by omega) D2, B3, K2.bel _ _ (by omega) hbb⟩; obtain ⟨p0, p1, p2, p3, p4, p5⟩ := wcell HO.2.1; obtain ⟨q0, q1, q2, q3, q4, q5⟩ := wcell HO.2.2.1) | (go_at_call 39; refine (kcounts_any _).mono ?_; rintro e w6 ⟨rfl, hb6⟩))
  first
  | (go_ret; exact ⟨rfl, bel_trans HO.2.2.2.2 hb6⟩)
  | (clear p0 p1 p2 p3 p4 p5 q0 q1 q2 q3 q4 q5
     refine steady_region (C := HeldO S X #[.int .i64 ak, .int .i64 af, .int .i64 ah, .int .i64 ar, .int .i64 av, .int .i64 ax] #[.int .i64 bk, .int .i64 bf, .int .i64 bh, .int .i64 br, .int .i64 bv, .int .i64 bx] w.heap.size (w.heap.size + 1) (w.heap.size + 1 + 1) w1.heap.size w) (by kernel_rfl) (by kernel_rfl) (keepO_drew HO) ?_
     repeat (first
      | (refine steady_skip (by rfl) ?_; simp only [Act.put, List.setIfInBounds_toArray, List.set_cons_zero, List.set_cons_succ])
      | (refine steady_move (by rfl) _ rfl ?_; simp only [Act.put, List.setIfInBounds_toArray, List.set_cons_zero, List.set_cons_succ])
      | (refine steady_assign (by rfl) _ rfl ?_; simp only [Act.put, List.setIfInBounds_toArray, List.set_cons_zero, List.set_cons_succ])
      | (refine steady_load (by rfl) 49 _ rfl w1.heap.size rfl 49 X.cells _ (fun _ H => H.2.2.2.1) Try.underlying49 rfl hiX ?_; simp only [Act.put, List.setIfInBounds_toArray, List.set_cons_zero, List.set_cons_succ])
      | (refine steady_load (by rfl) 49 _ rfl w.heap.size rfl 49 S.cells _ (fun _ H => H.1) Try.underlying49 rfl hiS ?_; simp only [Act.put, List.setIfInBounds_toArray, List.set_cons_zero, List.set_cons_succ])
      | (refine steady_load (by rfl) 23 _ rfl (w.heap.size + 1) rfl 23 #[.int .i64 ak, .int .i64 af, .int .i64 ah, .int .i64 ar, .int .i64 av, .int .i64 ax] _ (fun _ H => H.2.1) Try.underlying23 rfl hi23 ?_; simp only [Act.put, List.setIfInBounds_toArray, List.set_cons_zero, List.set_cons_succ])
      | (refine steady_load (by rfl) 23 _ rfl (w.heap.size + 1 + 1) rfl 23 #[.int .i64 bk, .int .i64 bf, .int .i64 bh, .int .i64 br, .int .i64 bv, .int .i64 bx] _ (fun _ H => H.2.2.1) Try.underlying23 rfl hi23 ?_; simp only [Act.put, List.setIfInBounds_toArray, List.set_cons_zero, List.set_cons_succ])
      | (refine steady_call_ex (by rfl) ?_
         apply Exists.intro
         apply Exists.intro
         apply Exists.intro
         refine ⟨fun w0 hC => ?_, fun w0 hC => ?_, ?_⟩
         · go_simp; first | with_reducible rfl | exact ⟨rfl, rfl⟩
         · first | (go_at_call 19; exact (good_any ak af ah ar av ax _).mono (fun e w' ⟨he, hb⟩ => ⟨he, keepO hC hb⟩)) | (go_at_call 39; exact (kcounts_any _).mono (fun e w' ⟨he, hb⟩ => ⟨he, keepO hC hb⟩))
         simp only [Act.put, List.setIfInBounds_toArray, List.set_cons_zero, List.set_cons_succ])
      | (refine steady_run_ex (by rfl) ?_
         apply Exists.intro
         refine ⟨fun w0 hC => ?_, ?_⟩
         · go_simp; rfl
         simp only [Act.put, List.setIfInBounds_toArray, List.set_cons_zero, List.set_cons_succ]))
     refine wpQuiet_nil ?_
     intro w5 hC
     go_wp2
     go_ret
     exact ⟨rfl, hC.2.2.2.2⟩)

set_option maxRecDepth 100000 in
set_option maxHeartbeats 1000000 in
theorem once_c2 (S X : Sh) (ak af ah ar av ax bk bf bh br bv bx : Int) (w : World) (HX : Hid (hearS S ak af ah ar av ax = X)) (e0 : (ak == bk) = true) (e1 : (af == bf) = true) (e2 : (ah == bh) = true) (e3 : (ar == br) = true) (hg : (goodC ak af ah ar av ax != 0) = false) (HT : Hid (hearS X bk bf bh br bv bx = X)) :
    Calls Try.prog 9 #[.agg S.cells, .agg #[.int .i64 ak, .int .i64 af, .int .i64 ah, .int .i64 ar, .int .i64 av, .int .i64 ax], .agg #[.int .i64 bk, .int .i64 bf, .int .i64 bh, .int .i64 br, .int .i64 bv, .int .i64 bx]] w fun e w' => e = .returned (.bool true) ∧ Below w.heap.size w w' := by
  have hz := run_zero
  have hiS := info37 S
  have hiX := info37 X
  have hi23 : (Try.prog.info? 23).map (·.size) = some 6 := by kernel_rfl
  have heq : ∀ T : Sh, ∀ W, Sem.run Try.prog (Op.equalIn 10000 49 (.agg T.cells) (.agg T.cells)) W = .ok true W := eq_sheet
  have B0 : Blk (((w.alloc (.cells S.cells 49)).alloc (.cells #[.int .i64 ak, .int .i64 af, .int .i64 ah, .int .i64 ar, .int .i64 av, .int .i64 ax] 23)).alloc (.cells #[.int .i64 bk, .int .i64 bf, .int .i64 bh, .int .i64 br, .int .i64 bv, .int .i64 bx] 23)) w.heap.size S.cells 49 := ((Blk.new w _ _).alloc _).alloc _
  have B1 : Blk (((w.alloc (.cells S.cells 49)).alloc (.cells #[.int .i64 ak, .int .i64 af, .int .i64 ah, .int .i64 ar, .int .i64 av, .int .i64 ax] 23)).alloc (.cells #[.int .i64 bk, .int .i64 bf, .int .i64 bh, .int .i64 br, .int .i64 bv, .int .i64 bx] 23)) (w.heap.size + 1) #[.int .i64 ak, .int .i64 af, .int .i64 ah, .int .i64 ar, .int .i64 av, .int .i64 ax] 23 := (Blk.new1 w _ _ _).alloc _
  have B2 : Blk (((w.alloc (.cells S.cells 49)).alloc (.cells #[.int .i64 ak, .int .i64 af, .int .i64 ah, .int .i64 ar, .int .i64 av, .int .i64 ax] 23)).alloc (.cells #[.int .i64 bk, .int .i64 bf, .int .i64 bh, .int .i64 br, .int .i64 bv, .int .i64 bx] 23)) (w.heap.size + 1 + 1) #[.int .i64 bk, .int .i64 bf, .int .i64 bh, .int .i64 br, .int .i64 bv, .int .i64 bx] 23 := Blk.new2 w _ _ _ _
  go_enter Try.func9, Try.ntmps9
  go_wp2_with (first | (refine wpList_load_blk rfl 49 _ rfl w.heap.size rfl 49 S.cells _ B0 Try.underlying49 rfl hiS ?_))
  refine (vhear_to _ HX.out).mono ?_
  rintro e w1 ⟨rfl, hb1⟩
  have hsz : w.heap.size + 1 + 1 < w1.heap.size := by have := hb1.size; simp at this; omega
  have D0 := (B0.below hb1).alloc (.cells zS.cells 49)
  have D1 := (B1.below hb1).alloc (.cells zS.cells 49)
  have D2 := (B2.below hb1).alloc (.cells zS.cells 49)
  have DX := Blk.new w1 zS.cells 49
  have hbb : Below w.heap.size w (w1.alloc (.cells zS.cells 49)) := (below_past (below_past (below_past hb1))).alloc (by omega) _
  clear B0 B1 B2 hb1
  go_wp2_with (first | (refine wpList_store_blk rfl 49 _ _ rfl w1.heap.size zS.cells X.cells 49 rfl rfl DX (sizes zS X) hiX (one_cell X) ?_; rintro w2 B3 K2; have HO : HeldO S X #[.int .i64 ak, .int .i64 af, .int .i64 ah, .int .i64 ar, .int .i64 av, .int .i64 ax] #[.int .i64 bk, .int .i64 bf, .int .i64 bh, .int .i64 br, .int .i64 bv, .int .i64 bx] w.heap.size (w.heap.size + 1) (w.heap.size + 1 + 1) w1.heap.size w w2 := ⟨K2.blk _ _ _ (by omega) D0, K2.blk _ _ _ (by omega) D1, K2.blk _ _ _ (by omega) D2, B3, K2.bel _ _ (by omega) hbb⟩; obtain ⟨p0, p1, p2, p3, p4, p5⟩ := wcell HO.2.1; obtain ⟨q0, q1, q2, q3, q4, q5⟩ := wcell HO.2.2.1) | (go_at_call 39; refine (kcounts_any _).mono ?_; rintro e w6 ⟨rfl, hb6⟩))
  first
  | (go_ret; exact ⟨rfl, bel_trans HO.2.2.2.2 hb6⟩)
  | (clear p0 p1 p2 p3 p4 p5 q0 q1 q2 q3 q4 q5
     refine steady_region (C := HeldO S X #[.int .i64 ak, .int .i64 af, .int .i64 ah, .int .i64 ar, .int .i64 av, .int .i64 ax] #[.int .i64 bk, .int .i64 bf, .int .i64 bh, .int .i64 br, .int .i64 bv, .int .i64 bx] w.heap.size (w.heap.size + 1) (w.heap.size + 1 + 1) w1.heap.size w) (by kernel_rfl) (by kernel_rfl) (keepO_drew HO) ?_
     repeat (first
      | (refine steady_skip (by rfl) ?_; simp only [Act.put, List.setIfInBounds_toArray, List.set_cons_zero, List.set_cons_succ])
      | (refine steady_move (by rfl) _ rfl ?_; simp only [Act.put, List.setIfInBounds_toArray, List.set_cons_zero, List.set_cons_succ])
      | (refine steady_assign (by rfl) _ rfl ?_; simp only [Act.put, List.setIfInBounds_toArray, List.set_cons_zero, List.set_cons_succ])
      | (refine steady_load (by rfl) 49 _ rfl w1.heap.size rfl 49 X.cells _ (fun _ H => H.2.2.2.1) Try.underlying49 rfl hiX ?_; simp only [Act.put, List.setIfInBounds_toArray, List.set_cons_zero, List.set_cons_succ])
      | (refine steady_load (by rfl) 49 _ rfl w.heap.size rfl 49 S.cells _ (fun _ H => H.1) Try.underlying49 rfl hiS ?_; simp only [Act.put, List.setIfInBounds_toArray, List.set_cons_zero, List.set_cons_succ])
      | (refine steady_load (by rfl) 23 _ rfl (w.heap.size + 1) rfl 23 #[.int .i64 ak, .int .i64 af, .int .i64 ah, .int .i64 ar, .int .i64 av, .int .i64 ax] _ (fun _ H => H.2.1) Try.underlying23 rfl hi23 ?_; simp only [Act.put, List.setIfInBounds_toArray, List.set_cons_zero, List.set_cons_succ])
      | (refine steady_load (by rfl) 23 _ rfl (w.heap.size + 1 + 1) rfl 23 #[.int .i64 bk, .int .i64 bf, .int .i64 bh, .int .i64 br, .int .i64 bv, .int .i64 bx] _ (fun _ H => H.2.2.1) Try.underlying23 rfl hi23 ?_; simp only [Act.put, List.setIfInBounds_toArray, List.set_cons_zero, List.set_cons_succ])
      | (refine steady_call_ex (by rfl) ?_
         apply Exists.intro
         apply Exists.intro
         apply Exists.intro
         refine ⟨fun w0 hC => ?_, fun w0 hC => ?_, ?_⟩
         · go_simp; first | with_reducible rfl | exact ⟨rfl, rfl⟩
         · first | (go_at_call 19; exact (good_any ak af ah ar av ax _).mono (fun e w' ⟨he, hb⟩ => ⟨he, keepO hC hb⟩)) | (go_at_call_of 33 (Sh.cells X); exact (vhear_to _ HT.out).mono (fun e w' ⟨he, hb⟩ => ⟨he, keepO hC hb⟩)) | (go_at_call 39; exact (kcounts_any _).mono (fun e w' ⟨he, hb⟩ => ⟨he, keepO hC hb⟩))
         simp only [Act.put, List.setIfInBounds_toArray, List.set_cons_zero, List.set_cons_succ])
      | (refine steady_run_ex (by rfl) ?_
         apply Exists.intro
         refine ⟨fun w0 hC => ?_, ?_⟩
         · go_simp; rfl
         simp only [Act.put, List.setIfInBounds_toArray, List.set_cons_zero, List.set_cons_succ]))
     refine wpQuiet_nil ?_
     intro w5 hC
     go_wp2
     go_ret
     exact ⟨rfl, hC.2.2.2.2⟩)

set_option maxRecDepth 100000 in
set_option maxHeartbeats 1000000 in
theorem once_d0 (S X : Sh) (ak af ah ar av ax bk bf bh br bv bx : Int) (w : World) (HX : Hid (hearS S ak af ah ar av ax = X)) (e0 : (ak == bk) = false) (hh : (ah != bh) = true) :
    Calls Try.prog 9 #[.agg S.cells, .agg #[.int .i64 ak, .int .i64 af, .int .i64 ah, .int .i64 ar, .int .i64 av, .int .i64 ax], .agg #[.int .i64 bk, .int .i64 bf, .int .i64 bh, .int .i64 br, .int .i64 bv, .int .i64 bx]] w fun e w' => e = .returned (.bool true) ∧ Below w.heap.size w w' := by
  have hz := run_zero
  have hiS := info37 S
  have hiX := info37 X
  have hi23 : (Try.prog.info? 23).map (·.size) = some 6 := by kernel_rfl
  have heq : ∀ T : Sh, ∀ W, Sem.run Try.prog (Op.equalIn 10000 49 (.agg T.cells) (.agg T.cells)) W = .ok true W := eq_sheet
  have B0 : Blk (((w.alloc (.cells S.cells 49)).alloc (.cells #[.int .i64 ak, .int .i64 af, .int .i64 ah, .int .i64 ar, .int .i64 av, .int .i64 ax] 23)).alloc (.cells #[.int .i64 bk, .int .i64 bf, .int .i64 bh, .int .i64 br, .int .i64 bv, .int .i64 bx] 23)) w.heap.size S.cells 49 := ((Blk.new w _ _).alloc _).alloc _
  have B1 : Blk (((w.alloc (.cells S.cells 49)).alloc (.cells #[.int .i64 ak, .int .i64 af, .int .i64 ah, .int .i64 ar, .int .i64 av, .int .i64 ax] 23)).alloc (.cells #[.int .i64 bk, .int .i64 bf, .int .i64 bh, .int .i64 br, .int .i64 bv, .int .i64 bx] 23)) (w.heap.size + 1) #[.int .i64 ak, .int .i64 af, .int .i64 ah, .int .i64 ar, .int .i64 av, .int .i64 ax] 23 := (Blk.new1 w _ _ _).alloc _
  have B2 : Blk (((w.alloc (.cells S.cells 49)).alloc (.cells #[.int .i64 ak, .int .i64 af, .int .i64 ah, .int .i64 ar, .int .i64 av, .int .i64 ax] 23)).alloc (.cells #[.int .i64 bk, .int .i64 bf, .int .i64 bh, .int .i64 br, .int .i64 bv, .int .i64 bx] 23)) (w.heap.size + 1 + 1) #[.int .i64 bk, .int .i64 bf, .int .i64 bh, .int .i64 br, .int .i64 bv, .int .i64 bx] 23 := Blk.new2 w _ _ _ _
  go_enter Try.func9, Try.ntmps9
  go_wp2_with (first | (refine wpList_load_blk rfl 49 _ rfl w.heap.size rfl 49 S.cells _ B0 Try.underlying49 rfl hiS ?_))
  refine (vhear_to _ HX.out).mono ?_
  rintro e w1 ⟨rfl, hb1⟩
  have hsz : w.heap.size + 1 + 1 < w1.heap.size := by have := hb1.size; simp at this; omega
  have D0 := (B0.below hb1).alloc (.cells zS.cells 49)
  have D1 := (B1.below hb1).alloc (.cells zS.cells 49)
  have D2 := (B2.below hb1).alloc (.cells zS.cells 49)
  have DX := Blk.new w1 zS.cells 49
  have hbb : Below w.heap.size w (w1.alloc (.cells zS.cells 49)) := (below_past (below_past (below_past hb1))).alloc (by omega) _
  clear B0 B1 B2 hb1
  go_wp2_with (first | (refine wpList_store_blk rfl 49 _ _ rfl w1.heap.size zS.cells X.cells 49 rfl rfl DX (sizes zS X) hiX (one_cell X) ?_; rintro w2 B3 K2; have HO : HeldO S X #[.int .i64 ak, .int .i64 af, .int .i64 ah, .int .i64 ar, .int .i64 av, .int .i64 ax] #[.int .i64 bk, .int .i64 bf, .int .i64 bh, .int .i64 br, .int .i64 bv, .int .i64 bx] w.heap.size (w.heap.size + 1) (w.heap.size + 1 + 1) w1.heap.size w w2 := ⟨K2.blk _ _ _ (by omega) D0, K2.blk _ _ _ (by omega) D1, K2.blk _ _ _ (by omega) D2, B3, K2.bel _ _ (by omega) hbb⟩; obtain ⟨p0, p1, p2, p3, p4, p5⟩ := wcell HO.2.1; obtain ⟨q0, q1, q2, q3, q4, q5⟩ := wcell HO.2.2.1) | (go_at_call 39; refine (kcounts_any _).mono ?_; rintro e w6 ⟨rfl, hb6⟩))
  first
  | (go_ret; exact ⟨rfl, bel_trans HO.2.2.2.2 hb6⟩)
  | (clear p0 p1 p2 p3 p4 p5 q0 q1 q2 q3 q4 q5
     refine steady_region (C := HeldO S X #[.int .i64 ak, .int .i64 af, .int .i64 ah, .int .i64 ar, .int .i64 av, .int .i64 ax] #[.int .i64 bk, .int .i64 bf, .int .i64 bh, .int .i64 br, .int .i64 bv, .int .i64 bx] w.heap.size (w.heap.size + 1) (w.heap.size + 1 + 1) w1.heap.size w) (by kernel_rfl) (by kernel_rfl) (keepO_drew HO) ?_
     repeat (first
      | (refine steady_skip (by rfl) ?_; simp only [Act.put, List.setIfInBounds_toArray, List.set_cons_zero, List.set_cons_succ])
      | (refine steady_move (by rfl) _ rfl ?_; simp only [Act.put, List.setIfInBounds_toArray, List.set_cons_zero, List.set_cons_succ])
      | (refine steady_assign (by rfl) _ rfl ?_; simp only [Act.put, List.setIfInBounds_toArray, List.set_cons_zero, List.set_cons_succ])
      | (refine steady_load (by rfl) 49 _ rfl w1.heap.size rfl 49 X.cells _ (fun _ H => H.2.2.2.1) Try.underlying49 rfl hiX ?_; simp only [Act.put, List.setIfInBounds_toArray, List.set_cons_zero, List.set_cons_succ])
      | (refine steady_load (by rfl) 49 _ rfl w.heap.size rfl 49 S.cells _ (fun _ H => H.1) Try.underlying49 rfl hiS ?_; simp only [Act.put, List.setIfInBounds_toArray, List.set_cons_zero, List.set_cons_succ])
      | (refine steady_load (by rfl) 23 _ rfl (w.heap.size + 1) rfl 23 #[.int .i64 ak, .int .i64 af, .int .i64 ah, .int .i64 ar, .int .i64 av, .int .i64 ax] _ (fun _ H => H.2.1) Try.underlying23 rfl hi23 ?_; simp only [Act.put, List.setIfInBounds_toArray, List.set_cons_zero, List.set_cons_succ])
      | (refine steady_load (by rfl) 23 _ rfl (w.heap.size + 1 + 1) rfl 23 #[.int .i64 bk, .int .i64 bf, .int .i64 bh, .int .i64 br, .int .i64 bv, .int .i64 bx] _ (fun _ H => H.2.2.1) Try.underlying23 rfl hi23 ?_; simp only [Act.put, List.setIfInBounds_toArray, List.set_cons_zero, List.set_cons_succ])
      | (refine steady_call_ex (by rfl) ?_
         apply Exists.intro
         apply Exists.intro
         apply Exists.intro
         refine ⟨fun w0 hC => ?_, fun w0 hC => ?_, ?_⟩
         · go_simp; first | with_reducible rfl | exact ⟨rfl, rfl⟩
         · first | (go_at_call 39; exact (kcounts_any _).mono (fun e w' ⟨he, hb⟩ => ⟨he, keepO hC hb⟩))
         simp only [Act.put, List.setIfInBounds_toArray, List.set_cons_zero, List.set_cons_succ])
      | (refine steady_run_ex (by rfl) ?_
         apply Exists.intro
         refine ⟨fun w0 hC => ?_, ?_⟩
         · go_simp; rfl
         simp only [Act.put, List.setIfInBounds_toArray, List.set_cons_zero, List.set_cons_succ]))
     refine wpQuiet_nil ?_
     intro w5 hC
     go_wp2
     go_ret
     exact ⟨rfl, hC.2.2.2.2⟩)

set_option maxRecDepth 100000 in
set_option maxHeartbeats 1000000 in
theorem once_d1 (S X : Sh) (ak af ah ar av ax bk bf bh br bv bx : Int) (w : World) (HX : Hid (hearS S ak af ah ar av ax = X)) (e0 : (ak == bk) = true) (e1 : (af == bf) = false) (hh : (ah != bh) = true) :
    Calls Try.prog 9 #[.agg S.cells, .agg #[.int .i64 ak, .int .i64 af, .int .i64 ah, .int .i64 ar, .int .i64 av, .int .i64 ax], .agg #[.int .i64 bk, .int .i64 bf, .int .i64 bh, .int .i64 br, .int .i64 bv, .int .i64 bx]] w fun e w' => e = .returned (.bool true) ∧ Below w.heap.size w w' := by
  have hz := run_zero
  have hiS := info37 S
  have hiX := info37 X
  have hi23 : (Try.prog.info? 23).map (·.size) = some 6 := by kernel_rfl
  have heq : ∀ T : Sh, ∀ W, Sem.run Try.prog (Op.equalIn 10000 49 (.agg T.cells) (.agg T.cells)) W = .ok true W := eq_sheet
  have B0 : Blk (((w.alloc (.cells S.cells 49)).alloc (.cells #[.int .i64 ak, .int .i64 af, .int .i64 ah, .int .i64 ar, .int .i64 av, .int .i64 ax] 23)).alloc (.cells #[.int .i64 bk, .int .i64 bf, .int .i64 bh, .int .i64 br, .int .i64 bv, .int .i64 bx] 23)) w.heap.size S.cells 49 := ((Blk.new w _ _).alloc _).alloc _
  have B1 : Blk (((w.alloc (.cells S.cells 49)).alloc (.cells #[.int .i64 ak, .int .i64 af, .int .i64 ah, .int .i64 ar, .int .i64 av, .int .i64 ax] 23)).alloc (.cells #[.int .i64 bk, .int .i64 bf, .int .i64 bh, .int .i64 br, .int .i64 bv, .int .i64 bx] 23)) (w.heap.size + 1) #[.int .i64 ak, .int .i64 af, .int .i64 ah, .int .i64 ar, .int .i64 av, .int .i64 ax] 23 := (Blk.new1 w _ _ _).alloc _
  have B2 : Blk (((w.alloc (.cells S.cells 49)).alloc (.cells #[.int .i64 ak, .int .i64 af, .int .i64 ah, .int .i64 ar, .int .i64 av, .int .i64 ax] 23)).alloc (.cells #[.int .i64 bk, .int .i64 bf, .int .i64 bh, .int .i64 br, .int .i64 bv, .int .i64 bx] 23)) (w.heap.size + 1 + 1) #[.int .i64 bk, .int .i64 bf, .int .i64 bh, .int .i64 br, .int .i64 bv, .int .i64 bx] 23 := Blk.new2 w _ _ _ _
  go_enter Try.func9, Try.ntmps9
  go_wp2_with (first | (refine wpList_load_blk rfl 49 _ rfl w.heap.size rfl 49 S.cells _ B0 Try.underlying49 rfl hiS ?_))
  refine (vhear_to _ HX.out).mono ?_
  rintro e w1 ⟨rfl, hb1⟩
  have hsz : w.heap.size + 1 + 1 < w1.heap.size := by have := hb1.size; simp at this; omega
  have D0 := (B0.below hb1).alloc (.cells zS.cells 49)
  have D1 := (B1.below hb1).alloc (.cells zS.cells 49)
  have D2 := (B2.below hb1).alloc (.cells zS.cells 49)
  have DX := Blk.new w1 zS.cells 49
  have hbb : Below w.heap.size w (w1.alloc (.cells zS.cells 49)) := (below_past (below_past (below_past hb1))).alloc (by omega) _
  clear B0 B1 B2 hb1
  go_wp2_with (first | (refine wpList_store_blk rfl 49 _ _ rfl w1.heap.size zS.cells X.cells 49 rfl rfl DX (sizes zS X) hiX (one_cell X) ?_; rintro w2 B3 K2; have HO : HeldO S X #[.int .i64 ak, .int .i64 af, .int .i64 ah, .int .i64 ar, .int .i64 av, .int .i64 ax] #[.int .i64 bk, .int .i64 bf, .int .i64 bh, .int .i64 br, .int .i64 bv, .int .i64 bx] w.heap.size (w.heap.size + 1) (w.heap.size + 1 + 1) w1.heap.size w w2 := ⟨K2.blk _ _ _ (by omega) D0, K2.blk _ _ _ (by omega) D1, K2.blk _ _ _ (by omega) D2, B3, K2.bel _ _ (by omega) hbb⟩; obtain ⟨p0, p1, p2, p3, p4, p5⟩ := wcell HO.2.1; obtain ⟨q0, q1, q2, q3, q4, q5⟩ := wcell HO.2.2.1) | (go_at_call 39; refine (kcounts_any _).mono ?_; rintro e w6 ⟨rfl, hb6⟩))
  first
  | (go_ret; exact ⟨rfl, bel_trans HO.2.2.2.2 hb6⟩)
  | (clear p0 p1 p2 p3 p4 p5 q0 q1 q2 q3 q4 q5
     refine steady_region (C := HeldO S X #[.int .i64 ak, .int .i64 af, .int .i64 ah, .int .i64 ar, .int .i64 av, .int .i64 ax] #[.int .i64 bk, .int .i64 bf, .int .i64 bh, .int .i64 br, .int .i64 bv, .int .i64 bx] w.heap.size (w.heap.size + 1) (w.heap.size + 1 + 1) w1.heap.size w) (by kernel_rfl) (by kernel_rfl) (keepO_drew HO) ?_
     repeat (first
      | (refine steady_skip (by rfl) ?_; simp only [Act.put, List.setIfInBounds_toArray, List.set_cons_zero, List.set_cons_succ])
      | (refine steady_move (by rfl) _ rfl ?_; simp only [Act.put, List.setIfInBounds_toArray, List.set_cons_zero, List.set_cons_succ])
      | (refine steady_assign (by rfl) _ rfl ?_; simp only [Act.put, List.setIfInBounds_toArray, List.set_cons_zero, List.set_cons_succ])
      | (refine steady_load (by rfl) 49 _ rfl w1.heap.size rfl 49 X.cells _ (fun _ H => H.2.2.2.1) Try.underlying49 rfl hiX ?_; simp only [Act.put, List.setIfInBounds_toArray, List.set_cons_zero, List.set_cons_succ])
      | (refine steady_load (by rfl) 49 _ rfl w.heap.size rfl 49 S.cells _ (fun _ H => H.1) Try.underlying49 rfl hiS ?_; simp only [Act.put, List.setIfInBounds_toArray, List.set_cons_zero, List.set_cons_succ])
      | (refine steady_load (by rfl) 23 _ rfl (w.heap.size + 1) rfl 23 #[.int .i64 ak, .int .i64 af, .int .i64 ah, .int .i64 ar, .int .i64 av, .int .i64 ax] _ (fun _ H => H.2.1) Try.underlying23 rfl hi23 ?_; simp only [Act.put, List.setIfInBounds_toArray, List.set_cons_zero, List.set_cons_succ])
      | (refine steady_load (by rfl) 23 _ rfl (w.heap.size + 1 + 1) rfl 23 #[.int .i64 bk, .int .i64 bf, .int .i64 bh, .int .i64 br, .int .i64 bv, .int .i64 bx] _ (fun _ H => H.2.2.1) Try.underlying23 rfl hi23 ?_; simp only [Act.put, List.setIfInBounds_toArray, List.set_cons_zero, List.set_cons_succ])
      | (refine steady_call_ex (by rfl) ?_
         apply Exists.intro
         apply Exists.intro
         apply Exists.intro
         refine ⟨fun w0 hC => ?_, fun w0 hC => ?_, ?_⟩
         · go_simp; first | with_reducible rfl | exact ⟨rfl, rfl⟩
         · first | (go_at_call 39; exact (kcounts_any _).mono (fun e w' ⟨he, hb⟩ => ⟨he, keepO hC hb⟩))
         simp only [Act.put, List.setIfInBounds_toArray, List.set_cons_zero, List.set_cons_succ])
      | (refine steady_run_ex (by rfl) ?_
         apply Exists.intro
         refine ⟨fun w0 hC => ?_, ?_⟩
         · go_simp; rfl
         simp only [Act.put, List.setIfInBounds_toArray, List.set_cons_zero, List.set_cons_succ]))
     refine wpQuiet_nil ?_
     intro w5 hC
     go_wp2
     go_ret
     exact ⟨rfl, hC.2.2.2.2⟩)

set_option maxRecDepth 100000 in
set_option maxHeartbeats 1000000 in
theorem once_d2 (S X : Sh) (ak af ah ar av ax bk bf bh br bv bx : Int) (w : World) (HX : Hid (hearS S ak af ah ar av ax = X)) (e0 : (ak == bk) = true) (e1 : (af == bf) = true) (e2 : (ah == bh) = false) (hh : (ah != bh) = true) :
    Calls Try.prog 9 #[.agg S.cells, .agg #[.int .i64 ak, .int .i64 af, .int .i64 ah, .int .i64 ar, .int .i64 av, .int .i64 ax], .agg #[.int .i64 bk, .int .i64 bf, .int .i64 bh, .int .i64 br, .int .i64 bv, .int .i64 bx]] w fun e w' => e = .returned (.bool true) ∧ Below w.heap.size w w' := by
  have hz := run_zero
  have hiS := info37 S
  have hiX := info37 X
  have hi23 : (Try.prog.info? 23).map (·.size) = some 6 := by kernel_rfl
  have heq : ∀ T : Sh, ∀ W, Sem.run Try.prog (Op.equalIn 10000 49 (.agg T.cells) (.agg T.cells)) W = .ok true W := eq_sheet
  have B0 : Blk (((w.alloc (.cells S.cells 49)).alloc (.cells #[.int .i64 ak, .int .i64 af, .int .i64 ah, .int .i64 ar, .int .i64 av, .int .i64 ax] 23)).alloc (.cells #[.int .i64 bk, .int .i64 bf, .int .i64 bh, .int .i64 br, .int .i64 bv, .int .i64 bx] 23)) w.heap.size S.cells 49 := ((Blk.new w _ _).alloc _).alloc _
  have B1 : Blk (((w.alloc (.cells S.cells 49)).alloc (.cells #[.int .i64 ak, .int .i64 af, .int .i64 ah, .int .i64 ar, .int .i64 av, .int .i64 ax] 23)).alloc (.cells #[.int .i64 bk, .int .i64 bf, .int .i64 bh, .int .i64 br, .int .i64 bv, .int .i64 bx] 23)) (w.heap.size + 1) #[.int .i64 ak, .int .i64 af, .int .i64 ah, .int .i64 ar, .int .i64 av, .int .i64 ax] 23 := (Blk.new1 w _ _ _).alloc _
  have B2 : Blk (((w.alloc (.cells S.cells 49)).alloc (.cells #[.int .i64 ak, .int .i64 af, .int .i64 ah, .int .i64 ar, .int .i64 av, .int .i64 ax] 23)).alloc (.cells #[.int .i64 bk, .int .i64 bf, .int .i64 bh, .int .i64 br, .int .i64 bv, .int .i64 bx] 23)) (w.heap.size + 1 + 1) #[.int .i64 bk, .int .i64 bf, .int .i64 bh, .int .i64 br, .int .i64 bv, .int .i64 bx] 23 := Blk.new2 w _ _ _ _
  go_enter Try.func9, Try.ntmps9
  go_wp2_with (first | (refine wpList_load_blk rfl 49 _ rfl w.heap.size rfl 49 S.cells _ B0 Try.underlying49 rfl hiS ?_))
  refine (vhear_to _ HX.out).mono ?_
  rintro e w1 ⟨rfl, hb1⟩
  have hsz : w.heap.size + 1 + 1 < w1.heap.size := by have := hb1.size; simp at this; omega
  have D0 := (B0.below hb1).alloc (.cells zS.cells 49)
  have D1 := (B1.below hb1).alloc (.cells zS.cells 49)
  have D2 := (B2.below hb1).alloc (.cells zS.cells 49)
  have DX := Blk.new w1 zS.cells 49
  have hbb : Below w.heap.size w (w1.alloc (.cells zS.cells 49)) := (below_past (below_past (below_past hb1))).alloc (by omega) _
  clear B0 B1 B2 hb1
  go_wp2_with (first | (refine wpList_store_blk rfl 49 _ _ rfl w1.heap.size zS.cells X.cells 49 rfl rfl DX (sizes zS X) hiX (one_cell X) ?_; rintro w2 B3 K2; have HO : HeldO S X #[.int .i64 ak, .int .i64 af, .int .i64 ah, .int .i64 ar, .int .i64 av, .int .i64 ax] #[.int .i64 bk, .int .i64 bf, .int .i64 bh, .int .i64 br, .int .i64 bv, .int .i64 bx] w.heap.size (w.heap.size + 1) (w.heap.size + 1 + 1) w1.heap.size w w2 := ⟨K2.blk _ _ _ (by omega) D0, K2.blk _ _ _ (by omega) D1, K2.blk _ _ _ (by omega) D2, B3, K2.bel _ _ (by omega) hbb⟩; obtain ⟨p0, p1, p2, p3, p4, p5⟩ := wcell HO.2.1; obtain ⟨q0, q1, q2, q3, q4, q5⟩ := wcell HO.2.2.1) | (go_at_call 39; refine (kcounts_any _).mono ?_; rintro e w6 ⟨rfl, hb6⟩))
  first
  | (go_ret; exact ⟨rfl, bel_trans HO.2.2.2.2 hb6⟩)
  | (clear p0 p1 p2 p3 p4 p5 q0 q1 q2 q3 q4 q5
     refine steady_region (C := HeldO S X #[.int .i64 ak, .int .i64 af, .int .i64 ah, .int .i64 ar, .int .i64 av, .int .i64 ax] #[.int .i64 bk, .int .i64 bf, .int .i64 bh, .int .i64 br, .int .i64 bv, .int .i64 bx] w.heap.size (w.heap.size + 1) (w.heap.size + 1 + 1) w1.heap.size w) (by kernel_rfl) (by kernel_rfl) (keepO_drew HO) ?_
     repeat (first
      | (refine steady_skip (by rfl) ?_; simp only [Act.put, List.setIfInBounds_toArray, List.set_cons_zero, List.set_cons_succ])
      | (refine steady_move (by rfl) _ rfl ?_; simp only [Act.put, List.setIfInBounds_toArray, List.set_cons_zero, List.set_cons_succ])
      | (refine steady_assign (by rfl) _ rfl ?_; simp only [Act.put, List.setIfInBounds_toArray, List.set_cons_zero, List.set_cons_succ])
      | (refine steady_load (by rfl) 49 _ rfl w1.heap.size rfl 49 X.cells _ (fun _ H => H.2.2.2.1) Try.underlying49 rfl hiX ?_; simp only [Act.put, List.setIfInBounds_toArray, List.set_cons_zero, List.set_cons_succ])
      | (refine steady_load (by rfl) 49 _ rfl w.heap.size rfl 49 S.cells _ (fun _ H => H.1) Try.underlying49 rfl hiS ?_; simp only [Act.put, List.setIfInBounds_toArray, List.set_cons_zero, List.set_cons_succ])
      | (refine steady_load (by rfl) 23 _ rfl (w.heap.size + 1) rfl 23 #[.int .i64 ak, .int .i64 af, .int .i64 ah, .int .i64 ar, .int .i64 av, .int .i64 ax] _ (fun _ H => H.2.1) Try.underlying23 rfl hi23 ?_; simp only [Act.put, List.setIfInBounds_toArray, List.set_cons_zero, List.set_cons_succ])
      | (refine steady_load (by rfl) 23 _ rfl (w.heap.size + 1 + 1) rfl 23 #[.int .i64 bk, .int .i64 bf, .int .i64 bh, .int .i64 br, .int .i64 bv, .int .i64 bx] _ (fun _ H => H.2.2.1) Try.underlying23 rfl hi23 ?_; simp only [Act.put, List.setIfInBounds_toArray, List.set_cons_zero, List.set_cons_succ])
      | (refine steady_call_ex (by rfl) ?_
         apply Exists.intro
         apply Exists.intro
         apply Exists.intro
         refine ⟨fun w0 hC => ?_, fun w0 hC => ?_, ?_⟩
         · go_simp; first | with_reducible rfl | exact ⟨rfl, rfl⟩
         · first | (go_at_call 39; exact (kcounts_any _).mono (fun e w' ⟨he, hb⟩ => ⟨he, keepO hC hb⟩))
         simp only [Act.put, List.setIfInBounds_toArray, List.set_cons_zero, List.set_cons_succ])
      | (refine steady_run_ex (by rfl) ?_
         apply Exists.intro
         refine ⟨fun w0 hC => ?_, ?_⟩
         · go_simp; rfl
         simp only [Act.put, List.setIfInBounds_toArray, List.set_cons_zero, List.set_cons_succ]))
     refine wpQuiet_nil ?_
     intro w5 hC
     go_wp2
     go_ret
     exact ⟨rfl, hC.2.2.2.2⟩)

set_option maxRecDepth 100000 in
set_option maxHeartbeats 1000000 in
theorem once_d3 (S X : Sh) (ak af ah ar av ax bk bf bh br bv bx : Int) (w : World) (HX : Hid (hearS S ak af ah ar av ax = X)) (e0 : (ak == bk) = true) (e1 : (af == bf) = true) (e2 : (ah == bh) = true) (e3 : (ar == br) = false) (hh : (ah != bh) = true) :
    Calls Try.prog 9 #[.agg S.cells, .agg #[.int .i64 ak, .int .i64 af, .int .i64 ah, .int .i64 ar, .int .i64 av, .int .i64 ax], .agg #[.int .i64 bk, .int .i64 bf, .int .i64 bh, .int .i64 br, .int .i64 bv, .int .i64 bx]] w fun e w' => e = .returned (.bool true) ∧ Below w.heap.size w w' := by
  have hz := run_zero
  have hiS := info37 S
  have hiX := info37 X
  have hi23 : (Try.prog.info? 23).map (·.size) = some 6 := by kernel_rfl
  have heq : ∀ T : Sh, ∀ W, Sem.run Try.prog (Op.equalIn 10000 49 (.agg T.cells) (.agg T.cells)) W = .ok true W := eq_sheet
  have B0 : Blk (((w.alloc (.cells S.cells 49)).alloc (.cells #[.int .i64 ak, .int .i64 af, .int .i64 ah, .int .i64 ar, .int .i64 av, .int .i64 ax] 23)).alloc (.cells #[.int .i64 bk, .int .i64 bf, .int .i64 bh, .int .i64 br, .int .i64 bv, .int .i64 bx] 23)) w.heap.size S.cells 49 := ((Blk.new w _ _).alloc _).alloc _
  have B1 : Blk (((w.alloc (.cells S.cells 49)).alloc (.cells #[.int .i64 ak, .int .i64 af, .int .i64 ah, .int .i64 ar, .int .i64 av, .int .i64 ax] 23)).alloc (.cells #[.int .i64 bk, .int .i64 bf, .int .i64 bh, .int .i64 br, .int .i64 bv, .int .i64 bx] 23)) (w.heap.size + 1) #[.int .i64 ak, .int .i64 af, .int .i64 ah, .int .i64 ar, .int .i64 av, .int .i64 ax] 23 := (Blk.new1 w _ _ _).alloc _
  have B2 : Blk (((w.alloc (.cells S.cells 49)).alloc (.cells #[.int .i64 ak, .int .i64 af, .int .i64 ah, .int .i64 ar, .int .i64 av, .int .i64 ax] 23)).alloc (.cells #[.int .i64 bk, .int .i64 bf, .int .i64 bh, .int .i64 br, .int .i64 bv, .int .i64 bx] 23)) (w.heap.size + 1 + 1) #[.int .i64 bk, .int .i64 bf, .int .i64 bh, .int .i64 br, .int .i64 bv, .int .i64 bx] 23 := Blk.new2 w _ _ _ _
  go_enter Try.func9, Try.ntmps9
  go_wp2_with (first | (refine wpList_load_blk rfl 49 _ rfl w.heap.size rfl 49 S.cells _ B0 Try.underlying49 rfl hiS ?_))
  refine (vhear_to _ HX.out).mono ?_
  rintro e w1 ⟨rfl, hb1⟩
  have hsz : w.heap.size + 1 + 1 < w1.heap.size := by have := hb1.size; simp at this; omega
  have D0 := (B0.below hb1).alloc (.cells zS.cells 49)
  have D1 := (B1.below hb1).alloc (.cells zS.cells 49)
  have D2 := (B2.below hb1).alloc (.cells zS.cells 49)
  have DX := Blk.new w1 zS.cells 49
  have hbb : Below w.heap.size w (w1.alloc (.cells zS.cells 49)) := (below_past (below_past (below_past hb1))).alloc (by omega) _
  clear B0 B1 B2 hb1
  go_wp2_with (first | (refine wpList_store_blk rfl 49 _ _ rfl w1.heap.size zS.cells X.cells 49 rfl rfl DX (sizes zS X) hiX (one_cell X) ?_; rintro w2 B3 K2; have HO : HeldO S X #[.int .i64 ak, .int .i64 af, .int .i64 ah, .int .i64 ar, .int .i64 av, .int .i64 ax] #[.int .i64 bk, .int .i64 bf, .int .i64 bh, .int .i64 br, .int .i64 bv, .int .i64 bx] w.heap.size (w.heap.size + 1) (w.heap.size + 1 + 1) w1.heap.size w w2 := ⟨K2.blk _ _ _ (by omega) D0, K2.blk _ _ _ (by omega) D1, K2.blk _ _ _ (by omega) D2, B3, K2.bel _ _ (by omega) hbb⟩; obtain ⟨p0, p1, p2, p3, p4, p5⟩ := wcell HO.2.1; obtain ⟨q0, q1, q2, q3, q4, q5⟩ := wcell HO.2.2.1) | (go_at_call 39; refine (kcounts_any _).mono ?_; rintro e w6 ⟨rfl, hb6⟩))
  first
  | (go_ret; exact ⟨rfl, bel_trans HO.2.2.2.2 hb6⟩)
  | (clear p0 p1 p2 p3 p4 p5 q0 q1 q2 q3 q4 q5
     refine steady_region (C := HeldO S X #[.int .i64 ak, .int .i64 af, .int .i64 ah, .int .i64 ar, .int .i64 av, .int .i64 ax] #[.int .i64 bk, .int .i64 bf, .int .i64 bh, .int .i64 br, .int .i64 bv, .int .i64 bx] w.heap.size (w.heap.size + 1) (w.heap.size + 1 + 1) w1.heap.size w) (by kernel_rfl) (by kernel_rfl) (keepO_drew HO) ?_
     repeat (first
      | (refine steady_skip (by rfl) ?_; simp only [Act.put, List.setIfInBounds_toArray, List.set_cons_zero, List.set_cons_succ])
      | (refine steady_move (by rfl) _ rfl ?_; simp only [Act.put, List.setIfInBounds_toArray, List.set_cons_zero, List.set_cons_succ])
      | (refine steady_assign (by rfl) _ rfl ?_; simp only [Act.put, List.setIfInBounds_toArray, List.set_cons_zero, List.set_cons_succ])
      | (refine steady_load (by rfl) 49 _ rfl w1.heap.size rfl 49 X.cells _ (fun _ H => H.2.2.2.1) Try.underlying49 rfl hiX ?_; simp only [Act.put, List.setIfInBounds_toArray, List.set_cons_zero, List.set_cons_succ])
      | (refine steady_load (by rfl) 49 _ rfl w.heap.size rfl 49 S.cells _ (fun _ H => H.1) Try.underlying49 rfl hiS ?_; simp only [Act.put, List.setIfInBounds_toArray, List.set_cons_zero, List.set_cons_succ])
      | (refine steady_load (by rfl) 23 _ rfl (w.heap.size + 1) rfl 23 #[.int .i64 ak, .int .i64 af, .int .i64 ah, .int .i64 ar, .int .i64 av, .int .i64 ax] _ (fun _ H => H.2.1) Try.underlying23 rfl hi23 ?_; simp only [Act.put, List.setIfInBounds_toArray, List.set_cons_zero, List.set_cons_succ])
      | (refine steady_load (by rfl) 23 _ rfl (w.heap.size + 1 + 1) rfl 23 #[.int .i64 bk, .int .i64 bf, .int .i64 bh, .int .i64 br, .int .i64 bv, .int .i64 bx] _ (fun _ H => H.2.2.1) Try.underlying23 rfl hi23 ?_; simp only [Act.put, List.setIfInBounds_toArray, List.set_cons_zero, List.set_cons_succ])
      | (refine steady_call_ex (by rfl) ?_
         apply Exists.intro
         apply Exists.intro
         apply Exists.intro
         refine ⟨fun w0 hC => ?_, fun w0 hC => ?_, ?_⟩
         · go_simp; first | with_reducible rfl | exact ⟨rfl, rfl⟩
         · first | (go_at_call 39; exact (kcounts_any _).mono (fun e w' ⟨he, hb⟩ => ⟨he, keepO hC hb⟩))
         simp only [Act.put, List.setIfInBounds_toArray, List.set_cons_zero, List.set_cons_succ])
      | (refine steady_run_ex (by rfl) ?_
         apply Exists.intro
         refine ⟨fun w0 hC => ?_, ?_⟩
         · go_simp; rfl
         simp only [Act.put, List.setIfInBounds_toArray, List.set_cons_zero, List.set_cons_succ]))
     refine wpQuiet_nil ?_
     intro w5 hC
     go_wp2
     go_ret
     exact ⟨rfl, hC.2.2.2.2⟩)

set_option maxRecDepth 100000 in
set_option maxHeartbeats 1000000 in
theorem once_e0 (S X Y Z : Sh) (ak af ah ar av ax bk bf bh br bv bx : Int) (w : World) (HX : Hid (hearS S ak af ah ar av ax = X)) (e0 : (ak == bk) = false) (hh : (ah != bh) = false) (HY : Hid (hearS S bk bf bh br bv bx = Y)) (HT : Hid (hearS X bk bf bh br bv bx = Z)) (HU : Hid (hearS Y ak af ah ar av ax = Z)) :
    Calls Try.prog 9 #[.agg S.cells, .agg #[.int .i64 ak, .int .i64 af, .int .i64 ah, .int .i64 ar, .int .i64 av, .int .i64 ax], .agg #[.int .i64 bk, .int .i64 bf, .int .i64 bh, .int .i64 br, .int .i64 bv, .int .i64 bx]] w fun e w' => e = .returned (.bool true) ∧ Below w.heap.size w w' := by
  have hz := run_zero
  have hiS := info37 S
  have hiX := info37 X
  have hi23 : (Try.prog.info? 23).map (·.size) = some 6 := by kernel_rfl
  have heq : ∀ T : Sh, ∀ W, Sem.run Try.prog (Op.equalIn 10000 49 (.agg T.cells) (.agg T.cells)) W = .ok true W := eq_sheet
  have B0 : Blk (((w.alloc (.cells S.cells 49)).alloc (.cells #[.int .i64 ak, .int .i64 af, .int .i64 ah, .int .i64 ar, .int .i64 av, .int .i64 ax] 23)).alloc (.cells #[.int .i64 bk, .int .i64 bf, .int .i64 bh, .int .i64 br, .int .i64 bv, .int .i64 bx] 23)) w.heap.size S.cells 49 := ((Blk.new w _ _).alloc _).alloc _
  have B1 : Blk (((w.alloc (.cells S.cells 49)).alloc (.cells #[.int .i64 ak, .int .i64 af, .int .i64 ah, .int .i64 ar, .int .i64 av, .int .i64 ax] 23)).alloc (.cells #[.int .i64 bk, .int .i64 bf, .int .i64 bh, .int .i64 br, .int .i64 bv, .int .i64 bx] 23)) (w.heap.size + 1) #[.int .i64 ak, .int .i64 af, .int .i64 ah, .int .i64 ar, .int .i64 av, .int .i64 ax] 23 := (Blk.new1 w _ _ _).alloc _
  have B2 : Blk (((w.alloc (.cells S.cells 49)).alloc (.cells #[.int .i64 ak, .int .i64 af, .int .i64 ah, .int .i64 ar, .int .i64 av, .int .i64 ax] 23)).alloc (.cells #[.int .i64 bk, .int .i64 bf, .int .i64 bh, .int .i64 br, .int .i64 bv, .int .i64 bx] 23)) (w.heap.size + 1 + 1) #[.int .i64 bk, .int .i64 bf, .int .i64 bh, .int .i64 br, .int .i64 bv, .int .i64 bx] 23 := Blk.new2 w _ _ _ _
  go_enter Try.func9, Try.ntmps9
  go_wp2_with (first | (refine wpList_load_blk rfl 49 _ rfl w.heap.size rfl 49 S.cells _ B0 Try.underlying49 rfl hiS ?_))
  refine (vhear_to _ HX.out).mono ?_
  rintro e w1 ⟨rfl, hb1⟩
  have hsz : w.heap.size + 1 + 1 < w1.heap.size := by have := hb1.size; simp at this; omega
  have D0 := (B0.below hb1).alloc (.cells zS.cells 49)
  have D1 := (B1.below hb1).alloc (.cells zS.cells 49)
  have D2 := (B2.below hb1).alloc (.cells zS.cells 49)
  have DX := Blk.new w1 zS.cells 49
  have hbb : Below w.heap.size w (w1.alloc (.cells zS.cells 49)) := (below_past (below_past (below_past hb1))).alloc (by omega) _
  clear B0 B1 B2 hb1
  go_wp2_with (first | (refine wpList_store_blk rfl 49 _ _ rfl w1.heap.size zS.cells X.cells 49 rfl rfl DX (sizes zS X) hiX (one_cell X) ?_; rintro w2 B3 K2; have HO : HeldO S X #[.int .i64 ak, .int .i64 af, .int .i64 ah, .int .i64 ar, .int .i64 av, .int .i64 ax] #[.int .i64 bk, .int .i64 bf, .int .i64 bh, .int .i64 br, .int .i64 bv, .int .i64 bx] w.heap.size (w.heap.size + 1) (w.heap.size + 1 + 1) w1.heap.size w w2 := ⟨K2.blk _ _ _ (by omega) D0, K2.blk _ _ _ (by omega) D1, K2.blk _ _ _ (by omega) D2, B3, K2.bel _ _ (by omega) hbb⟩; obtain ⟨p0, p1, p2, p3, p4, p5⟩ := wcell HO.2.1; obtain ⟨q0, q1, q2, q3, q4, q5⟩ := wcell HO.2.2.1) | (go_at_call 39; refine (kcounts_any _).mono ?_; rintro e w6 ⟨rfl, hb6⟩))
  first
  | (go_ret; exact ⟨rfl, bel_trans HO.2.2.2.2 hb6⟩)
  | (clear p0 p1 p2 p3 p4 p5 q0 q1 q2 q3 q4 q5
     refine steady_region (C := HeldO S X #[.int .i64 ak, .int .i64 af, .int .i64 ah, .int .i64 ar, .int .i64 av, .int .i64 ax] #[.int .i64 bk, .int .i64 bf, .int .i64 bh, .int .i64 br, .int .i64 bv, .int .i64 bx] w.heap.size (w.heap.size + 1) (w.heap.size + 1 + 1) w1.heap.size w) (by kernel_rfl) (by kernel_rfl) (keepO_drew HO) ?_
     repeat (first
      | (refine steady_skip (by rfl) ?_; simp only [Act.put, List.setIfInBounds_toArray, List.set_cons_zero, List.set_cons_succ])
      | (refine steady_move (by rfl) _ rfl ?_; simp only [Act.put, List.setIfInBounds_toArray, List.set_cons_zero, List.set_cons_succ])
      | (refine steady_assign (by rfl) _ rfl ?_; simp only [Act.put, List.setIfInBounds_toArray, List.set_cons_zero, List.set_cons_succ])
      | (refine steady_load (by rfl) 49 _ rfl w1.heap.size rfl 49 X.cells _ (fun _ H => H.2.2.2.1) Try.underlying49 rfl hiX ?_; simp only [Act.put, List.setIfInBounds_toArray, List.set_cons_zero, List.set_cons_succ])
      | (refine steady_load (by rfl) 49 _ rfl w.heap.size rfl 49 S.cells _ (fun _ H => H.1) Try.underlying49 rfl hiS ?_; simp only [Act.put, List.setIfInBounds_toArray, List.set_cons_zero, List.set_cons_succ])
      | (refine steady_load (by rfl) 23 _ rfl (w.heap.size + 1) rfl 23 #[.int .i64 ak, .int .i64 af, .int .i64 ah, .int .i64 ar, .int .i64 av, .int .i64 ax] _ (fun _ H => H.2.1) Try.underlying23 rfl hi23 ?_; simp only [Act.put, List.setIfInBounds_toArray, List.set_cons_zero, List.set_cons_succ])
      | (refine steady_load (by rfl) 23 _ rfl (w.heap.size + 1 + 1) rfl 23 #[.int .i64 bk, .int .i64 bf, .int .i64 bh, .int .i64 br, .int .i64 bv, .int .i64 bx] _ (fun _ H => H.2.2.1) Try.underlying23 rfl hi23 ?_; simp only [Act.put, List.setIfInBounds_toArray, List.set_cons_zero, List.set_cons_succ])
      | (refine steady_call_ex (by rfl) ?_
         apply Exists.intro
         apply Exists.intro
         apply Exists.intro
         refine ⟨fun w0 hC => ?_, fun w0 hC => ?_, ?_⟩
         · go_simp; first | with_reducible rfl | exact ⟨rfl, rfl⟩
         · first | (go_at_call_of 33 (Sh.cells X); exact (vhear_to _ HT.out).mono (fun e w' ⟨he, hb⟩ => ⟨he, keepO hC hb⟩)) | (go_at_call_of 33 (Sh.cells S); exact (vhear_to _ HY.out).mono (fun e w' ⟨he, hb⟩ => ⟨he, keepO hC hb⟩)) | (go_at_call_of 33 (Sh.cells Y); exact (vhear_to _ HU.out).mono (fun e w' ⟨he, hb⟩ => ⟨he, keepO hC hb⟩)) | (go_at_call 39; exact (kcounts_any _).mono (fun e w' ⟨he, hb⟩ => ⟨he, keepO hC hb⟩))
         simp only [Act.put, List.setIfInBounds_toArray, List.set_cons_zero, List.set_cons_succ])
      | (refine steady_run_ex (by rfl) ?_
         apply Exists.intro
         refine ⟨fun w0 hC => ?_, ?_⟩
         · go_simp; rfl
         simp only [Act.put, List.setIfInBounds_toArray, List.set_cons_zero, List.set_cons_succ]))
     refine wpQuiet_nil ?_
     intro w5 hC
     go_wp2
     go_ret
     exact ⟨rfl, hC.2.2.2.2⟩)

set_option maxRecDepth 100000 in
set_option maxHeartbeats 1000000 in
theorem once_e1 (S X Y Z : Sh) (ak af ah ar av ax bk bf bh br bv bx : Int) (w : World) (HX : Hid (hearS S ak af ah ar av ax = X)) (e0 : (ak == bk) = true) (e1 : (af == bf) = false) (hh : (ah != bh) = false) (HY : Hid (hearS S bk bf bh br bv bx = Y)) (HT : Hid (hearS X bk bf bh br bv bx = Z)) (HU : Hid (hearS Y ak af ah ar av ax = Z)) :
    Calls Try.prog 9 #[.agg S.cells, .agg #[.int .i64 ak, .int .i64 af, .int .i64 ah, .int .i64 ar, .int .i64 av, .int .i64 ax], .agg #[.int .i64 bk, .int .i64 bf, .int .i64 bh, .int .i64 br, .int .i64 bv, .int .i64 bx]] w fun e w' => e = .returned (.bool true) ∧ Below w.heap.size w w' := by
  have hz := run_zero
  have hiS := info37 S
  have hiX := info37 X
  have hi23 : (Try.prog.info? 23).map (·.size) = some 6 := by kernel_rfl
  have heq : ∀ T : Sh, ∀ W, Sem.run Try.prog (Op.equalIn 10000 49 (.agg T.cells) (.agg T.cells)) W = .ok true W := eq_sheet
  have B0 : Blk (((w.alloc (.cells S.cells 49)).alloc (.cells #[.int .i64 ak, .int .i64 af, .int .i64 ah, .int .i64 ar, .int .i64 av, .int .i64 ax] 23)).alloc (.cells #[.int .i64 bk, .int .i64 bf, .int .i64 bh, .int .i64 br, .int .i64 bv, .int .i64 bx] 23)) w.heap.size S.cells 49 := ((Blk.new w _ _).alloc _).alloc _
  have B1 : Blk (((w.alloc (.cells S.cells 49)).alloc (.cells #[.int .i64 ak, .int .i64 af, .int .i64 ah, .int .i64 ar, .int .i64 av, .int .i64 ax] 23)).alloc (.cells #[.int .i64 bk, .int .i64 bf, .int .i64 bh, .int .i64 br, .int .i64 bv, .int .i64 bx] 23)) (w.heap.size + 1) #[.int .i64 ak, .int .i64 af, .int .i64 ah, .int .i64 ar, .int .i64 av, .int .i64 ax] 23 := (Blk.new1 w _ _ _).alloc _
  have B2 : Blk (((w.alloc (.cells S.cells 49)).alloc (.cells #[.int .i64 ak, .int .i64 af, .int .i64 ah, .int .i64 ar, .int .i64 av, .int .i64 ax] 23)).alloc (.cells #[.int .i64 bk, .int .i64 bf, .int .i64 bh, .int .i64 br, .int .i64 bv, .int .i64 bx] 23)) (w.heap.size + 1 + 1) #[.int .i64 bk, .int .i64 bf, .int .i64 bh, .int .i64 br, .int .i64 bv, .int .i64 bx] 23 := Blk.new2 w _ _ _ _
  go_enter Try.func9, Try.ntmps9
  go_wp2_with (first | (refine wpList_load_blk rfl 49 _ rfl w.heap.size rfl 49 S.cells _ B0 Try.underlying49 rfl hiS ?_))
  refine (vhear_to _ HX.out).mono ?_
  rintro e w1 ⟨rfl, hb1⟩
  have hsz : w.heap.size + 1 + 1 < w1.heap.size := by have := hb1.size; simp at this; omega
  have D0 := (B0.below hb1).alloc (.cells zS.cells 49)
  have D1 := (B1.below hb1).alloc (.cells zS.cells 49)
  have D2 := (B2.below hb1).alloc (.cells zS.cells 49)
  have DX := Blk.new w1 zS.cells 49
  have hbb : Below w.heap.size w (w1.alloc (.cells zS.cells 49)) := (below_past (below_past (below_past hb1))).alloc (by omega) _
  clear B0 B1 B2 hb1
  go_wp2_with (first | (refine wpList_store_blk rfl 49 _ _ rfl w1.heap.size zS.cells X.cells 49 rfl rfl DX (sizes zS X) hiX (one_cell X) ?_; rintro w2 B3 K2; have HO : HeldO S X #[.int .i64 ak, .int .i64 af, .int .i64 ah, .int .i64 ar, .int .i64 av, .int .i64 ax] #[.int .i64 bk, .int .i64 bf, .int .i64 bh, .int .i64 br, .int .i64 bv, .int .i64 bx] w.heap.size (w.heap.size + 1) (w.heap.size + 1 + 1) w1.heap.size w w2 := ⟨K2.blk _ _ _ (by omega) D0, K2.blk _ _ _ (by omega) D1, K2.blk _ _ _ (by omega) D2, B3, K2.bel _ _ (by omega) hbb⟩; obtain ⟨p0, p1, p2, p3, p4, p5⟩ := wcell HO.2.1; obtain ⟨q0, q1, q2, q3, q4, q5⟩ := wcell HO.2.2.1) | (go_at_call 39; refine (kcounts_any _).mono ?_; rintro e w6 ⟨rfl, hb6⟩))
  first
  | (go_ret; exact ⟨rfl, bel_trans HO.2.2.2.2 hb6⟩)
  | (clear p0 p1 p2 p3 p4 p5 q0 q1 q2 q3 q4 q5
     refine steady_region (C := HeldO S X #[.int .i64 ak, .int .i64 af, .int .i64 ah, .int .i64 ar, .int .i64 av, .int .i64 ax] #[.int .i64 bk, .int .i64 bf, .int .i64 bh, .int .i64 br, .int .i64 bv, .int .i64 bx] w.heap.size (w.heap.size + 1) (w.heap.size + 1 + 1) w1.heap.size w) (by kernel_rfl) (by kernel_rfl) (keepO_drew HO) ?_
     repeat (first
      | (refine steady_skip (by rfl) ?_; simp only [Act.put, List.setIfInBounds_toArray, List.set_cons_zero, List.set_cons_succ])
      | (refine steady_move (by rfl) _ rfl ?_; simp only [Act.put, List.setIfInBounds_toArray, List.set_cons_zero, List.set_cons_succ])
      | (refine steady_assign (by rfl) _ rfl ?_; simp only [Act.put, List.setIfInBounds_toArray, List.set_cons_zero, List.set_cons_succ])
      | (refine steady_load (by rfl) 49 _ rfl w1.heap.size rfl 49 X.cells _ (fun _ H => H.2.2.2.1) Try.underlying49 rfl hiX ?_; simp only [Act.put, List.setIfInBounds_toArray, List.set_cons_zero, List.set_cons_succ])
      | (refine steady_load (by rfl) 49 _ rfl w.heap.size rfl 49 S.cells _ (fun _ H => H.1) Try.underlying49 rfl hiS ?_; simp only [Act.put, List.setIfInBounds_toArray, List.set_cons_zero, List.set_cons_succ])
      | (refine steady_load (by rfl) 23 _ rfl (w.heap.size + 1) rfl 23 #[.int .i64 ak, .int .i64 af, .int .i64 ah, .int .i64 ar, .int .i64 av, .int .i64 ax] _ (fun _ H => H.2.1) Try.underlying23 rfl hi23 ?_; simp only [Act.put, List.setIfInBounds_toArray, List.set_cons_zero, List.set_cons_succ])
      | (refine steady_load (by rfl) 23 _ rfl (w.heap.size + 1 + 1) rfl 23 #[.int .i64 bk, .int .i64 bf, .int .i64 bh, .int .i64 br, .int .i64 bv, .int .i64 bx] _ (fun _ H => H.2.2.1) Try.underlying23 rfl hi23 ?_; simp only [Act.put, List.setIfInBounds_toArray, List.set_cons_zero, List.set_cons_succ])
      | (refine steady_call_ex (by rfl) ?_
         apply Exists.intro
         apply Exists.intro
         apply Exists.intro
         refine ⟨fun w0 hC => ?_, fun w0 hC => ?_, ?_⟩
         · go_simp; first | with_reducible rfl | exact ⟨rfl, rfl⟩
         · first | (go_at_call_of 33 (Sh.cells X); exact (vhear_to _ HT.out).mono (fun e w' ⟨he, hb⟩ => ⟨he, keepO hC hb⟩)) | (go_at_call_of 33 (Sh.cells S); exact (vhear_to _ HY.out).mono (fun e w' ⟨he, hb⟩ => ⟨he, keepO hC hb⟩)) | (go_at_call_of 33 (Sh.cells Y); exact (vhear_to _ HU.out).mono (fun e w' ⟨he, hb⟩ => ⟨he, keepO hC hb⟩)) | (go_at_call 39; exact (kcounts_any _).mono (fun e w' ⟨he, hb⟩ => ⟨he, keepO hC hb⟩))
         simp only [Act.put, List.setIfInBounds_toArray, List.set_cons_zero, List.set_cons_succ])
      | (refine steady_run_ex (by rfl) ?_
         apply Exists.intro
         refine ⟨fun w0 hC => ?_, ?_⟩
         · go_simp; rfl
         simp only [Act.put, List.setIfInBounds_toArray, List.set_cons_zero, List.set_cons_succ]))
     refine wpQuiet_nil ?_
     intro w5 hC
     go_wp2
     go_ret
     exact ⟨rfl, hC.2.2.2.2⟩)

set_option maxRecDepth 100000 in
set_option maxHeartbeats 1000000 in
theorem once_e2 (S X Y Z : Sh) (ak af ah ar av ax bk bf bh br bv bx : Int) (w : World) (HX : Hid (hearS S ak af ah ar av ax = X)) (e0 : (ak == bk) = true) (e1 : (af == bf) = true) (e2 : (ah == bh) = false) (hh : (ah != bh) = false) (HY : Hid (hearS S bk bf bh br bv bx = Y)) (HT : Hid (hearS X bk bf bh br bv bx = Z)) (HU : Hid (hearS Y ak af ah ar av ax = Z)) :
    Calls Try.prog 9 #[.agg S.cells, .agg #[.int .i64 ak, .int .i64 af, .int .i64 ah, .int .i64 ar, .int .i64 av, .int .i64 ax], .agg #[.int .i64 bk, .int .i64 bf, .int .i64 bh, .int .i64 br, .int .i64 bv, .int .i64 bx]] w fun e w' => e = .returned (.bool true) ∧ Below w.heap.size w w' := by
  have hz := run_zero
  have hiS := info37 S
  have hiX := info37 X
  have hi23 : (Try.prog.info? 23).map (·.size) = some 6 := by kernel_rfl
  have heq : ∀ T : Sh, ∀ W, Sem.run Try.prog (Op.equalIn 10000 49 (.agg T.cells) (.agg T.cells)) W = .ok true W := eq_sheet
  have B0 : Blk (((w.alloc (.cells S.cells 49)).alloc (.cells #[.int .i64 ak, .int .i64 af, .int .i64 ah, .int .i64 ar, .int .i64 av, .int .i64 ax] 23)).alloc (.cells #[.int .i64 bk, .int .i64 bf, .int .i64 bh, .int .i64 br, .int .i64 bv, .int .i64 bx] 23)) w.heap.size S.cells 49 := ((Blk.new w _ _).alloc _).alloc _
  have B1 : Blk (((w.alloc (.cells S.cells 49)).alloc (.cells #[.int .i64 ak, .int .i64 af, .int .i64 ah, .int .i64 ar, .int .i64 av, .int .i64 ax] 23)).alloc (.cells #[.int .i64 bk, .int .i64 bf, .int .i64 bh, .int .i64 br, .int .i64 bv, .int .i64 bx] 23)) (w.heap.size + 1) #[.int .i64 ak, .int .i64 af, .int .i64 ah, .int .i64 ar, .int .i64 av, .int .i64 ax] 23 := (Blk.new1 w _ _ _).alloc _
  have B2 : Blk (((w.alloc (.cells S.cells 49)).alloc (.cells #[.int .i64 ak, .int .i64 af, .int .i64 ah, .int .i64 ar, .int .i64 av, .int .i64 ax] 23)).alloc (.cells #[.int .i64 bk, .int .i64 bf, .int .i64 bh, .int .i64 br, .int .i64 bv, .int .i64 bx] 23)) (w.heap.size + 1 + 1) #[.int .i64 bk, .int .i64 bf, .int .i64 bh, .int .i64 br, .int .i64 bv, .int .i64 bx] 23 := Blk.new2 w _ _ _ _
  go_enter Try.func9, Try.ntmps9
  go_wp2_with (first | (refine wpList_load_blk rfl 49 _ rfl w.heap.size rfl 49 S.cells _ B0 Try.underlying49 rfl hiS ?_))
  refine (vhear_to _ HX.out).mono ?_
  rintro e w1 ⟨rfl, hb1⟩
  have hsz : w.heap.size + 1 + 1 < w1.heap.size := by have := hb1.size; simp at this; omega
  have D0 := (B0.below hb1).alloc (.cells zS.cells 49)
  have D1 := (B1.below hb1).alloc (.cells zS.cells 49)
  have D2 := (B2.below hb1).alloc (.cells zS.cells 49)
  have DX := Blk.new w1 zS.cells 49
  have hbb : Below w.heap.size w (w1.alloc (.cells zS.cells 49)) := (below_past (below_past (below_past hb1))).alloc (by omega) _
  clear B0 B1 B2 hb1
  go_wp2_with (first | (refine wpList_store_blk rfl 49 _ _ rfl w1.heap.size zS.cells X.cells 49 rfl rfl DX (sizes zS X) hiX (one_cell X) ?_; rintro w2 B3 K2; have HO : HeldO S X #[.int .i64 ak, .int .i64 af, .int .i64 ah, .int .i64 ar, .int .i64 av, .int .i64 ax] #[.int .i64 bk, .int .i64 bf, .int .i64 bh, .int .i64 br, .int .i64 bv, .int .i64 bx] w.heap.size (w.heap.size + 1) (w.heap.size + 1 + 1) w1.heap.size w w2 := ⟨K2.blk _ _ _ (by omega) D0, K2.blk _ _ _ (by omega) D1, K2.blk _ _ _ (by omega) D2, B3, K2.bel _ _ (by omega) hbb⟩; obtain ⟨p0, p1, p2, p3, p4, p5⟩ := wcell HO.2.1; obtain ⟨q0, q1, q2, q3, q4, q5⟩ := wcell HO.2.2.1) | (go_at_call 39; refine (kcounts_any _).mono ?_; rintro e w6 ⟨rfl, hb6⟩))
  first
  | (go_ret; exact ⟨rfl, bel_trans HO.2.2.2.2 hb6⟩)
  | (clear p0 p1 p2 p3 p4 p5 q0 q1 q2 q3 q4 q5
     refine steady_region (C := HeldO S X #[.int .i64 ak, .int .i64 af, .int .i64 ah, .int .i64 ar, .int .i64 av, .int .i64 ax] #[.int .i64 bk, .int .i64 bf, .int .i64 bh, .int .i64 br, .int .i64 bv, .int .i64 bx] w.heap.size (w.heap.size + 1) (w.heap.size + 1 + 1) w1.heap.size w) (by kernel_rfl) (by kernel_rfl) (keepO_drew HO) ?_
     repeat (first
      | (refine steady_skip (by rfl) ?_; simp only [Act.put, List.setIfInBounds_toArray, List.set_cons_zero, List.set_cons_succ])
      | (refine steady_move (by rfl) _ rfl ?_; simp only [Act.put, List.setIfInBounds_toArray, List.set_cons_zero, List.set_cons_succ])
      | (refine steady_assign (by rfl) _ rfl ?_; simp only [Act.put, List.setIfInBounds_toArray, List.set_cons_zero, List.set_cons_succ])
      | (refine steady_load (by rfl) 49 _ rfl w1.heap.size rfl 49 X.cells _ (fun _ H => H.2.2.2.1) Try.underlying49 rfl hiX ?_; simp only [Act.put, List.setIfInBounds_toArray, List.set_cons_zero, List.set_cons_succ])
      | (refine steady_load (by rfl) 49 _ rfl w.heap.size rfl 49 S.cells _ (fun _ H => H.1) Try.underlying49 rfl hiS ?_; simp only [Act.put, List.setIfInBounds_toArray, List.set_cons_zero, List.set_cons_succ])
      | (refine steady_load (by rfl) 23 _ rfl (w.heap.size + 1) rfl 23 #[.int .i64 ak, .int .i64 af, .int .i64 ah, .int .i64 ar, .int .i64 av, .int .i64 ax] _ (fun _ H => H.2.1) Try.underlying23 rfl hi23 ?_; simp only [Act.put, List.setIfInBounds_toArray, List.set_cons_zero, List.set_cons_succ])
      | (refine steady_load (by rfl) 23 _ rfl (w.heap.size + 1 + 1) rfl 23 #[.int .i64 bk, .int .i64 bf, .int .i64 bh, .int .i64 br, .int .i64 bv, .int .i64 bx] _ (fun _ H => H.2.2.1) Try.underlying23 rfl hi23 ?_; simp only [Act.put, List.setIfInBounds_toArray, List.set_cons_zero, List.set_cons_succ])
      | (refine steady_call_ex (by rfl) ?_
         apply Exists.intro
         apply Exists.intro
         apply Exists.intro
         refine ⟨fun w0 hC => ?_, fun w0 hC => ?_, ?_⟩
         · go_simp; first | with_reducible rfl | exact ⟨rfl, rfl⟩
         · first | (go_at_call_of 33 (Sh.cells X); exact (vhear_to _ HT.out).mono (fun e w' ⟨he, hb⟩ => ⟨he, keepO hC hb⟩)) | (go_at_call_of 33 (Sh.cells S); exact (vhear_to _ HY.out).mono (fun e w' ⟨he, hb⟩ => ⟨he, keepO hC hb⟩)) | (go_at_call_of 33 (Sh.cells Y); exact (vhear_to _ HU.out).mono (fun e w' ⟨he, hb⟩ => ⟨he, keepO hC hb⟩)) | (go_at_call 39; exact (kcounts_any _).mono (fun e w' ⟨he, hb⟩ => ⟨he, keepO hC hb⟩))
         simp only [Act.put, List.setIfInBounds_toArray, List.set_cons_zero, List.set_cons_succ])
      | (refine steady_run_ex (by rfl) ?_
         apply Exists.intro
         refine ⟨fun w0 hC => ?_, ?_⟩
         · go_simp; rfl
         simp only [Act.put, List.setIfInBounds_toArray, List.set_cons_zero, List.set_cons_succ]))
     refine wpQuiet_nil ?_
     intro w5 hC
     go_wp2
     go_ret
     exact ⟨rfl, hC.2.2.2.2⟩)

set_option maxRecDepth 100000 in
set_option maxHeartbeats 1000000 in
theorem once_e3 (S X Y Z : Sh) (ak af ah ar av ax bk bf bh br bv bx : Int) (w : World) (HX : Hid (hearS S ak af ah ar av ax = X)) (e0 : (ak == bk) = true) (e1 : (af == bf) = true) (e2 : (ah == bh) = true) (e3 : (ar == br) = false) (hh : (ah != bh) = false) (HY : Hid (hearS S bk bf bh br bv bx = Y)) (HT : Hid (hearS X bk bf bh br bv bx = Z)) (HU : Hid (hearS Y ak af ah ar av ax = Z)) :
    Calls Try.prog 9 #[.agg S.cells, .agg #[.int .i64 ak, .int .i64 af, .int .i64 ah, .int .i64 ar, .int .i64 av, .int .i64 ax], .agg #[.int .i64 bk, .int .i64 bf, .int .i64 bh, .int .i64 br, .int .i64 bv, .int .i64 bx]] w fun e w' => e = .returned (.bool true) ∧ Below w.heap.size w w' := by
  have hz := run_zero
  have hiS := info37 S
  have hiX := info37 X
  have hi23 : (Try.prog.info? 23).map (·.size) = some 6 := by kernel_rfl
  have heq : ∀ T : Sh, ∀ W, Sem.run Try.prog (Op.equalIn 10000 49 (.agg T.cells) (.agg T.cells)) W = .ok true W := eq_sheet
  have B0 : Blk (((w.alloc (.cells S.cells 49)).alloc (.cells #[.int .i64 ak, .int .i64 af, .int .i64 ah, .int .i64 ar, .int .i64 av, .int .i64 ax] 23)).alloc (.cells #[.int .i64 bk, .int .i64 bf, .int .i64 bh, .int .i64 br, .int .i64 bv, .int .i64 bx] 23)) w.heap.size S.cells 49 := ((Blk.new w _ _).alloc _).alloc _
  have B1 : Blk (((w.alloc (.cells S.cells 49)).alloc (.cells #[.int .i64 ak, .int .i64 af, .int .i64 ah, .int .i64 ar, .int .i64 av, .int .i64 ax] 23)).alloc (.cells #[.int .i64 bk, .int .i64 bf, .int .i64 bh, .int .i64 br, .int .i64 bv, .int .i64 bx] 23)) (w.heap.size + 1) #[.int .i64 ak, .int .i64 af, .int .i64 ah, .int .i64 ar, .int .i64 av, .int .i64 ax] 23 := (Blk.new1 w _ _ _).alloc _
  have B2 : Blk (((w.alloc (.cells S.cells 49)).alloc (.cells #[.int .i64 ak, .int .i64 af, .int .i64 ah, .int .i64 ar, .int .i64 av, .int .i64 ax] 23)).alloc (.cells #[.int .i64 bk, .int .i64 bf, .int .i64 bh, .int .i64 br, .int .i64 bv, .int .i64 bx] 23)) (w.heap.size + 1 + 1) #[.int .i64 bk, .int .i64 bf, .int .i64 bh, .int .i64 br, .int .i64 bv, .int .i64 bx] 23 := Blk.new2 w _ _ _ _
  go_enter Try.func9, Try.ntmps9
  go_wp2_with (first | (refine wpList_load_blk rfl 49 _ rfl w.heap.size rfl 49 S.cells _ B0 Try.underlying49 rfl hiS ?_))
  refine (vhear_to _ HX.out).mono ?_
  rintro e w1 ⟨rfl, hb1⟩
  have hsz : w.heap.size + 1 + 1 < w1.heap.size := by have := hb1.size; simp at this; omega
  have D0 := (B0.below hb1).alloc (.cells zS.cells 49)
  have D1 := (B1.below hb1).alloc (.cells zS.cells 49)
  have D2 := (B2.below hb1).alloc (.cells zS.cells 49)
  have DX := Blk.new w1 zS.cells 49
  have hbb : Below w.heap.size w (w1.alloc (.cells zS.cells 49)) := (below_past (below_past (below_past hb1))).alloc (by omega) _
  clear B0 B1 B2 hb1
  go_wp2_with (first | (refine wpList_store_blk rfl 49 _ _ rfl w1.heap.size zS.cells X.cells 49 rfl rfl DX (sizes zS X) hiX (one_cell X) ?_; rintro w2 B3 K2; have HO : HeldO S X #[.int .i64 ak, .int .i64 af, .int .i64 ah, .int .i64 ar, .int .i64 av, .int .i64 ax] #[.int .i64 bk, .int .i64 bf, .int .i64 bh, .int .i64 br, .int .i64 bv, .int .i64 bx] w.heap.size (w.heap.size + 1) (w.heap.size + 1 + 1) w1.heap.size w w2 := ⟨K2.blk _ _ _ (by omega) D0, K2.blk _ _ _ (by omega) D1, K2.blk _ _ _ (by omega) D2, B3, K2.bel _ _ (by omega) hbb⟩; obtain ⟨p0, p1, p2, p3, p4, p5⟩ := wcell HO.2.1; obtain ⟨q0, q1, q2, q3, q4, q5⟩ := wcell HO.2.2.1) | (go_at_call 39; refine (kcounts_any _).mono ?_; rintro e w6 ⟨rfl, hb6⟩))
  first
  | (go_ret; exact ⟨rfl, bel_trans HO.2.2.2.2 hb6⟩)
  | (clear p0 p1 p2 p3 p4 p5 q0 q1 q2 q3 q4 q5
     refine steady_region (C := HeldO S X #[.int .i64 ak, .int .i64 af, .int .i64 ah, .int .i64 ar, .int .i64 av, .int .i64 ax] #[.int .i64 bk, .int .i64 bf, .int .i64 bh, .int .i64 br, .int .i64 bv, .int .i64 bx] w.heap.size (w.heap.size + 1) (w.heap.size + 1 + 1) w1.heap.size w) (by kernel_rfl) (by kernel_rfl) (keepO_drew HO) ?_
     repeat (first
      | (refine steady_skip (by rfl) ?_; simp only [Act.put, List.setIfInBounds_toArray, List.set_cons_zero, List.set_cons_succ])
      | (refine steady_move (by rfl) _ rfl ?_; simp only [Act.put, List.setIfInBounds_toArray, List.set_cons_zero, List.set_cons_succ])
      | (refine steady_assign (by rfl) _ rfl ?_; simp only [Act.put, List.setIfInBounds_toArray, List.set_cons_zero, List.set_cons_succ])
      | (refine steady_load (by rfl) 49 _ rfl w1.heap.size rfl 49 X.cells _ (fun _ H => H.2.2.2.1) Try.underlying49 rfl hiX ?_; simp only [Act.put, List.setIfInBounds_toArray, List.set_cons_zero, List.set_cons_succ])
      | (refine steady_load (by rfl) 49 _ rfl w.heap.size rfl 49 S.cells _ (fun _ H => H.1) Try.underlying49 rfl hiS ?_; simp only [Act.put, List.setIfInBounds_toArray, List.set_cons_zero, List.set_cons_succ])
      | (refine steady_load (by rfl) 23 _ rfl (w.heap.size + 1) rfl 23 #[.int .i64 ak, .int .i64 af, .int .i64 ah, .int .i64 ar, .int .i64 av, .int .i64 ax] _ (fun _ H => H.2.1) Try.underlying23 rfl hi23 ?_; simp only [Act.put, List.setIfInBounds_toArray, List.set_cons_zero, List.set_cons_succ])
      | (refine steady_load (by rfl) 23 _ rfl (w.heap.size + 1 + 1) rfl 23 #[.int .i64 bk, .int .i64 bf, .int .i64 bh, .int .i64 br, .int .i64 bv, .int .i64 bx] _ (fun _ H => H.2.2.1) Try.underlying23 rfl hi23 ?_; simp only [Act.put, List.setIfInBounds_toArray, List.set_cons_zero, List.set_cons_succ])
      | (refine steady_call_ex (by rfl) ?_
         apply Exists.intro
         apply Exists.intro
         apply Exists.intro
         refine ⟨fun w0 hC => ?_, fun w0 hC => ?_, ?_⟩
         · go_simp; first | with_reducible rfl | exact ⟨rfl, rfl⟩
         · first | (go_at_call_of 33 (Sh.cells X); exact (vhear_to _ HT.out).mono (fun e w' ⟨he, hb⟩ => ⟨he, keepO hC hb⟩)) | (go_at_call_of 33 (Sh.cells S); exact (vhear_to _ HY.out).mono (fun e w' ⟨he, hb⟩ => ⟨he, keepO hC hb⟩)) | (go_at_call_of 33 (Sh.cells Y); exact (vhear_to _ HU.out).mono (fun e w' ⟨he, hb⟩ => ⟨he, keepO hC hb⟩)) | (go_at_call 39; exact (kcounts_any _).mono (fun e w' ⟨he, hb⟩ => ⟨he, keepO hC hb⟩))
         simp only [Act.put, List.setIfInBounds_toArray, List.set_cons_zero, List.set_cons_succ])
      | (refine steady_run_ex (by rfl) ?_
         apply Exists.intro
         refine ⟨fun w0 hC => ?_, ?_⟩
         · go_simp; rfl
         simp only [Act.put, List.setIfInBounds_toArray, List.set_cons_zero, List.set_cons_succ]))
     refine wpQuiet_nil ?_
     intro w5 hC
     go_wp2
     go_ret
     exact ⟨rfl, hC.2.2.2.2⟩)

theorem votesOnce_any (S : Sh) (ak af ah ar av ax bk bf bh br bv bx : Int) (w : World) :
    Calls Try.prog 9 #[.agg S.cells, .agg #[.int .i64 ak, .int .i64 af, .int .i64 ah, .int .i64 ar, .int .i64 av, .int .i64 ax], .agg #[.int .i64 bk, .int .i64 bf, .int .i64 bh, .int .i64 br, .int .i64 bv, .int .i64 bx]] w fun e w' => e = .returned (.bool true) ∧ Below w.heap.size w w' := by
  rcases once_cases S ak af ah ar av ax bk bf bh br bv bx with (⟨⟨e0, e1, e2, e3⟩, hg⟩ | ⟨⟨e0, e1, e2, e3⟩, hg, hT⟩) | ⟨e0 | ⟨e0, e1⟩ | ⟨e0, e1, e2⟩ | ⟨e0, e1, e2, e3⟩, hh | ⟨hh, hT⟩⟩
  · exact once_c1 S _ ak af ah ar av ax bk bf bh br bv bx w rfl e0 e1 e2 e3 hg
  · exact once_c2 S _ ak af ah ar av ax bk bf bh br bv bx w rfl e0 e1 e2 e3 hg hT
  · exact once_d0 S _ ak af ah ar av ax bk bf bh br bv bx w rfl e0 hh
  · exact once_e0 S _ _ _ ak af ah ar av ax bk bf bh br bv bx w rfl e0 hh rfl hT rfl
  · exact once_d1 S _ ak af ah ar av ax bk bf bh br bv bx w rfl e0 e1 hh
  · exact once_e1 S _ _ _ ak af ah ar av ax bk bf bh br bv bx w rfl e0 e1 hh rfl hT rfl
  · exact once_d2 S _ ak af ah ar av ax bk bf bh br bv bx w rfl e0 e1 e2 hh
  · exact once_e2 S _ _ _ ak af ah ar av ax bk bf bh br bv bx w rfl e0 e1 e2 hh rfl hT rfl
  · exact once_d3 S _ ak af ah ar av ax bk bf bh br bv bx w rfl e0 e1 e2 e3 hh
  · exact once_e3 S _ _ _ ak af ah ar av ax bk bf bh br bv bx w rfl e0 e1 e2 e3 hh rfl hT rfl
end Go.Proofs.Ytmmgaonlmpajbaa
