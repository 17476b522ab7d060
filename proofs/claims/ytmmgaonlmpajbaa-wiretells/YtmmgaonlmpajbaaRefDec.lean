/-
  What the document's own answer says of a text: DecodeWord.
-/
import Derived.Test.YtmmgaonlmpajbaaRefEnc
import Derived.Deep.DeepCutAuto
namespace Go.Proofs.Ytmmgaonlmpajbaa
open Go.RowKit

def numc (c : UInt8) : Int := if c.toNat = 45 then -1 else (c.toNat : Int) - 48

theorem numc_sgn (n : Int) (h0 : -1 ≤ n) (h1 : n ≤ 9) : numc (sgn n) = n := by
  have hc : n = -1 ∨ n = 0 ∨ n = 1 ∨ n = 2 ∨ n = 3 ∨ n = 4 ∨ n = 5 ∨ n = 6 ∨ n = 7 ∨ n = 8 ∨ n = 9 := by omega
  rcases hc with rfl | rfl | rfl | rfl | rfl | rfl | rfl | rfl | rfl | rfl | rfl <;> decide

theorem numc_any (c : UInt8) (w : World) :
    Calls Try.prog 57 #[.int .u8 (c.toNat : Int)] w fun e w' => e = .returned (.int .i64 (numc c)) ∧ w' = w := num_any c w

set_option maxHeartbeats 400000 in
theorem decodeWord_len (s : ByteArray) (w : World) (hs : s.size ≠ 6) (_hm : s.size ≤ maxLen) :
    Calls Try.prog 18 #[.string s] w fun e w' => e = .returned (.tuple #[.agg #[.int .i64 0, .int .i64 0, .int .i64 0, .int .i64 0, .int .i64 0, .int .i64 0], .int .i64 1]) ∧ Below w.heap.size w w' := by
  have h6 : ((s.size : Int) == 6) = false := by rw [beq_eq_false_iff_ne]; omega
  clear hs
  go_enter Try.func18, Try.ntmps18
  go_wp2
  refine bodyPost_ret (v := .tuple #[.agg #[.int .i64 0, .int .i64 0, .int .i64 0, .int .i64 0, .int .i64 0, .int .i64 0], .int .i64 1]) (by simp [results, Try.results18, go_sem]) rfl ⟨rfl, ?_⟩
  go_grown

theorem below_undrew {X w2 : World} (h : Below X.drew.heap.size X.drew w2) : Below X.heap.size X w2 := ⟨h.os, h.tape, h.output, h.size, h.block⟩

theorem num_of_six {c0 c1 c2 c3 c4 c5 : UInt8} {k f h r v x : Int} (hg : goodC k f h r v x = 0) (hs : (⟨#[c0, c1, c2, c3, c4, c5]⟩ : ByteArray) = encB k f h r v x) :
    numc c0 = k ∧ numc c1 = f ∧ numc c2 = h ∧ numc c3 = r ∧ numc c4 = v ∧ numc c5 = x := by
  obtain ⟨b1, b2, b3, b4, b5, b6, b7, b8, b9, b10, b11, b12⟩ := goodC_bounds hg
  simp [encB] at hs
  obtain ⟨rfl, rfl, rfl, rfl, rfl, rfl⟩ := hs
  exact ⟨numc_sgn k (by omega) (by omega), numc_sgn f (by omega) (by omega), numc_sgn h (by omega) (by omega), numc_sgn r (by omega) (by omega), numc_sgn v (by omega) (by omega), numc_sgn x (by omega) (by omega)⟩

theorem dec_num_bad {c0 c1 c2 c3 c4 c5 : UInt8} (hn : goodC (numc c0) (numc c1) (numc c2) (numc c3) (numc c4) (numc c5) ≠ 0) : Dec ⟨#[c0, c1, c2, c3, c4, c5]⟩ 0 0 0 0 0 0 1 := by
  refine Or.inr ⟨rfl, rfl, rfl, rfl, rfl, rfl, rfl, ?_⟩
  intro k f h r v x hg hs
  obtain ⟨e0, e1, e2, e3, e4, e5⟩ := num_of_six hg hs
  rw [e0, e1, e2, e3, e4, e5] at hn
  exact hn hg

theorem dec_num_not {c0 c1 c2 c3 c4 c5 : UInt8} (hn : (⟨#[c0, c1, c2, c3, c4, c5]⟩ : ByteArray) ≠ encB (numc c0) (numc c1) (numc c2) (numc c3) (numc c4) (numc c5)) : Dec ⟨#[c0, c1, c2, c3, c4, c5]⟩ 0 0 0 0 0 0 1 := by
  refine Or.inr ⟨rfl, rfl, rfl, rfl, rfl, rfl, rfl, ?_⟩
  intro k f h r v x hg hs
  obtain ⟨e0, e1, e2, e3, e4, e5⟩ := num_of_six hg hs
  rw [e0, e1, e2, e3, e4, e5] at hn
  exact hn hs

set_option maxHeartbeats 4000000 in
theorem decodeWord_six (c0 c1 c2 c3 c4 c5 : UInt8) (w : World) :
    Calls Try.prog 18 #[.string ⟨#[c0, c1, c2, c3, c4, c5]⟩] w fun e w' => ∃ k f h r v x c, e = .returned (.tuple #[.agg #[.int .i64 k, .int .i64 f, .int .i64 h, .int .i64 r, .int .i64 v, .int .i64 x], .int .i64 c]) ∧ Dec ⟨#[c0, c1, c2, c3, c4, c5]⟩ k f h r v x c ∧ Below w.heap.size w w' := by
  have i0 : ∀ w, (Instr.index 9 (.string ⟨#[c0, c1, c2, c3, c4, c5]⟩) (.int .i64 0)).run Try.prog w = .ok (.int .u8 (c0.toNat : Int)) w := fun _ => by kernel_rfl
  have i1 : ∀ w, (Instr.index 9 (.string ⟨#[c0, c1, c2, c3, c4, c5]⟩) (.int .i64 1)).run Try.prog w = .ok (.int .u8 (c1.toNat : Int)) w := fun _ => by kernel_rfl
  have i2 : ∀ w, (Instr.index 9 (.string ⟨#[c0, c1, c2, c3, c4, c5]⟩) (.int .i64 2)).run Try.prog w = .ok (.int .u8 (c2.toNat : Int)) w := fun _ => by kernel_rfl
  have i3 : ∀ w, (Instr.index 9 (.string ⟨#[c0, c1, c2, c3, c4, c5]⟩) (.int .i64 3)).run Try.prog w = .ok (.int .u8 (c3.toNat : Int)) w := fun _ => by kernel_rfl
  have i4 : ∀ w, (Instr.index 9 (.string ⟨#[c0, c1, c2, c3, c4, c5]⟩) (.int .i64 4)).run Try.prog w = .ok (.int .u8 (c4.toNat : Int)) w := fun _ => by kernel_rfl
  have i5 : ∀ w, (Instr.index 9 (.string ⟨#[c0, c1, c2, c3, c4, c5]⟩) (.int .i64 5)).run Try.prog w = .ok (.int .u8 (c5.toNat : Int)) w := fun _ => by kernel_rfl
  go_enter Try.func18, Try.ntmps18
  go_upto_region 3 with fail
  go_cut [5] (fun s W => s = .pointer (some ⟨w.heap.size + 1, 0, none⟩) ∧ W = ((w.alloc (.cells #[.int .i64 0, .int .i64 0, .int .i64 0, .int .i64 0, .int .i64 0, .int .i64 0] 23)).alloc (.cells #[.int .i64 (numc c0), .int .i64 (numc c1), .int .i64 (numc c2), .int .i64 (numc c3), .int .i64 (numc c4), .int .i64 (numc c5)] 23)).drew)
  case first =>
    refine wp_region_held_drew (S := fun _ => True) (by kernel_rfl) trivial (fun _ => ?_)
    refine wpAnyH_take (i := 0) (v := .func (.func 57) #[] #[]) rfl (by kernel_rfl) (by kernel_rfl) (by kernel_rfl) (fun _ _ _ h => h) (Or.inl ⟨by rfl, ?_⟩) trivial ?_
    · intro w' _; go_simp
    simp only [Act.put, List.setIfInBounds_toArray]
    refine wpAnyH_take (i := 1) (v := .string ⟨#[c0, c1, c2, c3, c4, c5]⟩) rfl (by kernel_rfl) (by kernel_rfl) (by kernel_rfl) (fun _ _ _ h => h) (Or.inl ⟨by rfl, ?_⟩) trivial ?_
    · intro w' _; go_simp
    simp only [Act.put]
    refine wpAnyH_take (i := 2) (v := .int .u8 (c0.toNat : Int)) rfl (by kernel_rfl) (by kernel_rfl) (by kernel_rfl) (fun _ _ _ h => h) (Or.inl ⟨by rfl, ?_⟩) trivial ?_
    · intro w' _; go_simp
    simp only [Act.put]
    refine wpAnyH_take (i := 4) (v := .func (.func 57) #[] #[]) rfl (by kernel_rfl) (by kernel_rfl) (by kernel_rfl) (fun _ _ _ h => h) (Or.inl ⟨by rfl, ?_⟩) trivial ?_
    · intro w' _; go_simp
    simp only [Act.put]
    refine wpAnyH_take (i := 5) (v := .string ⟨#[c0, c1, c2, c3, c4, c5]⟩) rfl (by kernel_rfl) (by kernel_rfl) (by kernel_rfl) (fun _ _ _ h => h) (Or.inl ⟨by rfl, ?_⟩) trivial ?_
    · intro w' _; go_simp
    simp only [Act.put]
    refine wpAnyH_take (i := 6) (v := .int .u8 (c1.toNat : Int)) rfl (by kernel_rfl) (by kernel_rfl) (by kernel_rfl) (fun _ _ _ h => h) (Or.inl ⟨by rfl, ?_⟩) trivial ?_
    · intro w' _; go_simp
    simp only [Act.put]
    refine wpAnyH_take (i := 8) (v := .func (.func 57) #[] #[]) rfl (by kernel_rfl) (by kernel_rfl) (by kernel_rfl) (fun _ _ _ h => h) (Or.inl ⟨by rfl, ?_⟩) trivial ?_
    · intro w' _; go_simp
    simp only [Act.put]
    refine wpAnyH_take (i := 9) (v := .string ⟨#[c0, c1, c2, c3, c4, c5]⟩) rfl (by kernel_rfl) (by kernel_rfl) (by kernel_rfl) (fun _ _ _ h => h) (Or.inl ⟨by rfl, ?_⟩) trivial ?_
    · intro w' _; go_simp
    simp only [Act.put]
    refine wpAnyH_take (i := 10) (v := .int .u8 (c2.toNat : Int)) rfl (by kernel_rfl) (by kernel_rfl) (by kernel_rfl) (fun _ _ _ h => h) (Or.inl ⟨by rfl, ?_⟩) trivial ?_
    · intro w' _; go_simp
    simp only [Act.put]
    refine wpAnyH_take (i := 12) (v := .func (.func 57) #[] #[]) rfl (by kernel_rfl) (by kernel_rfl) (by kernel_rfl) (fun _ _ _ h => h) (Or.inl ⟨by rfl, ?_⟩) trivial ?_
    · intro w' _; go_simp
    simp only [Act.put]
    refine wpAnyH_take (i := 13) (v := .string ⟨#[c0, c1, c2, c3, c4, c5]⟩) rfl (by kernel_rfl) (by kernel_rfl) (by kernel_rfl) (fun _ _ _ h => h) (Or.inl ⟨by rfl, ?_⟩) trivial ?_
    · intro w' _; go_simp
    simp only [Act.put]
    refine wpAnyH_take (i := 14) (v := .int .u8 (c3.toNat : Int)) rfl (by kernel_rfl) (by kernel_rfl) (by kernel_rfl) (fun _ _ _ h => h) (Or.inl ⟨by rfl, ?_⟩) trivial ?_
    · intro w' _; go_simp
    simp only [Act.put]
    refine wpAnyH_take (i := 16) (v := .func (.func 57) #[] #[]) rfl (by kernel_rfl) (by kernel_rfl) (by kernel_rfl) (fun _ _ _ h => h) (Or.inl ⟨by rfl, ?_⟩) trivial ?_
    · intro w' _; go_simp
    simp only [Act.put]
    refine wpAnyH_take (i := 17) (v := .string ⟨#[c0, c1, c2, c3, c4, c5]⟩) rfl (by kernel_rfl) (by kernel_rfl) (by kernel_rfl) (fun _ _ _ h => h) (Or.inl ⟨by rfl, ?_⟩) trivial ?_
    · intro w' _; go_simp
    simp only [Act.put]
    refine wpAnyH_take (i := 18) (v := .int .u8 (c4.toNat : Int)) rfl (by kernel_rfl) (by kernel_rfl) (by kernel_rfl) (fun _ _ _ h => h) (Or.inl ⟨by rfl, ?_⟩) trivial ?_
    · intro w' _; go_simp
    simp only [Act.put]
    refine wpAnyH_take (i := 20) (v := .func (.func 57) #[] #[]) rfl (by kernel_rfl) (by kernel_rfl) (by kernel_rfl) (fun _ _ _ h => h) (Or.inl ⟨by rfl, ?_⟩) trivial ?_
    · intro w' _; go_simp
    simp only [Act.put]
    refine wpAnyH_take (i := 21) (v := .string ⟨#[c0, c1, c2, c3, c4, c5]⟩) rfl (by kernel_rfl) (by kernel_rfl) (by kernel_rfl) (fun _ _ _ h => h) (Or.inl ⟨by rfl, ?_⟩) trivial ?_
    · intro w' _; go_simp
    simp only [Act.put]
    refine wpAnyH_take (i := 22) (v := .int .u8 (c5.toNat : Int)) rfl (by kernel_rfl) (by kernel_rfl) (by kernel_rfl) (fun _ _ _ h => h) (Or.inl ⟨by rfl, ?_⟩) trivial ?_
    · intro w' _; go_simp
    simp only [Act.put]
    refine wpAnyH_ready (rs := [3, 25]) (by kernel_rfl) (by simp) ?_
    refine AllReadyH.cons rfl (fun K hK => ?_) (AllReadyH.cons rfl (fun K hK => ?_) AllReadyH.nil)
    rotate_left
    · go_simp
      refine hK.out _ _ trivial (fun _ => ?_)
      clear hK K
      refine wpAnyH_ready (rs := [3]) (by kernel_rfl) (by simp) ?_
      refine AllReadyH.cons rfl (fun K hK => ?_) AllReadyH.nil
      go_simp
      go_wp2_with (go_at_call 57; refine (numc_any _ _).mono ?_; rintro e w2 ⟨rfl, rfl⟩)
      refine hK.out _ _ trivial (fun _ => ?_)
      clear hK K
      refine wpAnyH_ready (rs := [7]) (by kernel_rfl) (by simp) ?_
      refine AllReadyH.cons rfl (fun K hK => ?_) AllReadyH.nil
      go_simp
      go_wp2_with (go_at_call 57; refine (numc_any _ _).mono ?_; rintro e w2 ⟨rfl, rfl⟩)
      refine hK.out _ _ trivial (fun _ => ?_)
      clear hK K
      refine wpAnyH_ready (rs := [11]) (by kernel_rfl) (by simp) ?_
      refine AllReadyH.cons rfl (fun K hK => ?_) AllReadyH.nil
      go_simp
      go_wp2_with (go_at_call 57; refine (numc_any _ _).mono ?_; rintro e w2 ⟨rfl, rfl⟩)
      refine hK.out _ _ trivial (fun _ => ?_)
      clear hK K
      refine wpAnyH_ready (rs := [15]) (by kernel_rfl) (by simp) ?_
      refine AllReadyH.cons rfl (fun K hK => ?_) AllReadyH.nil
      go_simp
      go_wp2_with (go_at_call 57; refine (numc_any _ _).mono ?_; rintro e w2 ⟨rfl, rfl⟩)
      refine hK.out _ _ trivial (fun _ => ?_)
      clear hK K
      refine wpAnyH_ready (rs := [19]) (by kernel_rfl) (by simp) ?_
      refine AllReadyH.cons rfl (fun K hK => ?_) AllReadyH.nil
      go_simp
      go_wp2_with (go_at_call 57; refine (numc_any _ _).mono ?_; rintro e w2 ⟨rfl, rfl⟩)
      refine hK.out _ _ trivial (fun _ => ?_)
      clear hK K
      refine wpAnyH_ready (rs := [23]) (by kernel_rfl) (by simp) ?_
      refine AllReadyH.cons rfl (fun K hK => ?_) AllReadyH.nil
      go_simp
      go_wp2_with (go_at_call 57; refine (numc_any _ _).mono ?_; rintro e w2 ⟨rfl, rfl⟩)
      refine hK.out _ _ trivial (fun _ => ?_)
      clear hK K
      refine wpAnyH_take (i := 24) (v := .agg #[.int .i64 (numc c0), .int .i64 (numc c1), .int .i64 (numc c2), .int .i64 (numc c3), .int .i64 (numc c4), .int .i64 (numc c5)]) rfl (by kernel_rfl) (by kernel_rfl) (by kernel_rfl) (fun _ _ _ h => h) (Or.inl ⟨by rfl, ?_⟩) trivial ?_
      · intro w' _; go_simp
      simp only [Act.put, List.setIfInBounds_toArray]
      refine wpAnyH_ready (rs := [26]) (by kernel_rfl) (by simp) ?_
      refine AllReadyH.cons rfl (fun K hK => ?_) AllReadyH.nil
      go_simp
      refine hK.out _ _ trivial (fun _ => ?_)
      clear hK K
      refine wpAnyH_done (by kernel_rfl) ?_ _
      go_wp2_with fail
      go_meet
      exact ⟨rfl, rfl⟩
    go_simp
    go_wp2_with (go_at_call 57; refine (numc_any _ _).mono ?_; rintro e w2 ⟨rfl, rfl⟩)
    refine hK.out _ _ trivial (fun _ => ?_)
    clear hK K
    refine wpAnyH_ready (rs := [7, 25]) (by kernel_rfl) (by simp) ?_
    refine AllReadyH.cons rfl (fun K hK => ?_) (AllReadyH.cons rfl (fun K hK => ?_) AllReadyH.nil)
    rotate_left
    · go_simp
      refine hK.out _ _ trivial (fun _ => ?_)
      clear hK K
      refine wpAnyH_ready (rs := [7]) (by kernel_rfl) (by simp) ?_
      refine AllReadyH.cons rfl (fun K hK => ?_) AllReadyH.nil
      go_simp
      go_wp2_with (go_at_call 57; refine (numc_any _ _).mono ?_; rintro e w2 ⟨rfl, rfl⟩)
      refine hK.out _ _ trivial (fun _ => ?_)
      clear hK K
      refine wpAnyH_ready (rs := [11]) (by kernel_rfl) (by simp) ?_
      refine AllReadyH.cons rfl (fun K hK => ?_) AllReadyH.nil
      go_simp
      go_wp2_with (go_at_call 57; refine (numc_any _ _).mono ?_; rintro e w2 ⟨rfl, rfl⟩)
      refine hK.out _ _ trivial (fun _ => ?_)
      clear hK K
      refine wpAnyH_ready (rs := [15]) (by kernel_rfl) (by simp) ?_
      refine AllReadyH.cons rfl (fun K hK => ?_) AllReadyH.nil
      go_simp
      go_wp2_with (go_at_call 57; refine (numc_any _ _).mono ?_; rintro e w2 ⟨rfl, rfl⟩)
      refine hK.out _ _ trivial (fun _ => ?_)
      clear hK K
      refine wpAnyH_ready (rs := [19]) (by kernel_rfl) (by simp) ?_
      refine AllReadyH.cons rfl (fun K hK => ?_) AllReadyH.nil
      go_simp
      go_wp2_with (go_at_call 57; refine (numc_any _ _).mono ?_; rintro e w2 ⟨rfl, rfl⟩)
      refine hK.out _ _ trivial (fun _ => ?_)
      clear hK K
      refine wpAnyH_ready (rs := [23]) (by kernel_rfl) (by simp) ?_
      refine AllReadyH.cons rfl (fun K hK => ?_) AllReadyH.nil
      go_simp
      go_wp2_with (go_at_call 57; refine (numc_any _ _).mono ?_; rintro e w2 ⟨rfl, rfl⟩)
      refine hK.out _ _ trivial (fun _ => ?_)
      clear hK K
      refine wpAnyH_take (i := 24) (v := .agg #[.int .i64 (numc c0), .int .i64 (numc c1), .int .i64 (numc c2), .int .i64 (numc c3), .int .i64 (numc c4), .int .i64 (numc c5)]) rfl (by kernel_rfl) (by kernel_rfl) (by kernel_rfl) (fun _ _ _ h => h) (Or.inl ⟨by rfl, ?_⟩) trivial ?_
      · intro w' _; go_simp
      simp only [Act.put, List.setIfInBounds_toArray]
      refine wpAnyH_ready (rs := [26]) (by kernel_rfl) (by simp) ?_
      refine AllReadyH.cons rfl (fun K hK => ?_) AllReadyH.nil
      go_simp
      refine hK.out _ _ trivial (fun _ => ?_)
      clear hK K
      refine wpAnyH_done (by kernel_rfl) ?_ _
      go_wp2_with fail
      go_meet
      exact ⟨rfl, rfl⟩
    go_simp
    go_wp2_with (go_at_call 57; refine (numc_any _ _).mono ?_; rintro e w2 ⟨rfl, rfl⟩)
    refine hK.out _ _ trivial (fun _ => ?_)
    clear hK K
    refine wpAnyH_ready (rs := [11, 25]) (by kernel_rfl) (by simp) ?_
    refine AllReadyH.cons rfl (fun K hK => ?_) (AllReadyH.cons rfl (fun K hK => ?_) AllReadyH.nil)
    rotate_left
    · go_simp
      refine hK.out _ _ trivial (fun _ => ?_)
      clear hK K
      refine wpAnyH_ready (rs := [11]) (by kernel_rfl) (by simp) ?_
      refine AllReadyH.cons rfl (fun K hK => ?_) AllReadyH.nil
      go_simp
      go_wp2_with (go_at_call 57; refine (numc_any _ _).mono ?_; rintro e w2 ⟨rfl, rfl⟩)
      refine hK.out _ _ trivial (fun _ => ?_)
      clear hK K
      refine wpAnyH_ready (rs := [15]) (by kernel_rfl) (by simp) ?_
      refine AllReadyH.cons rfl (fun K hK => ?_) AllReadyH.nil
      go_simp
      go_wp2_with (go_at_call 57; refine (numc_any _ _).mono ?_; rintro e w2 ⟨rfl, rfl⟩)
      refine hK.out _ _ trivial (fun _ => ?_)
      clear hK K
      refine wpAnyH_ready (rs := [19]) (by kernel_rfl) (by simp) ?_
      refine AllReadyH.cons rfl (fun K hK => ?_) AllReadyH.nil
      go_simp
      go_wp2_with (go_at_call 57; refine (numc_any _ _).mono ?_; rintro e w2 ⟨rfl, rfl⟩)
      refine hK.out _ _ trivial (fun _ => ?_)
      clear hK K
      refine wpAnyH_ready (rs := [23]) (by kernel_rfl) (by simp) ?_
      refine AllReadyH.cons rfl (fun K hK => ?_) AllReadyH.nil
      go_simp
      go_wp2_with (go_at_call 57; refine (numc_any _ _).mono ?_; rintro e w2 ⟨rfl, rfl⟩)
      refine hK.out _ _ trivial (fun _ => ?_)
      clear hK K
      refine wpAnyH_take (i := 24) (v := .agg #[.int .i64 (numc c0), .int .i64 (numc c1), .int .i64 (numc c2), .int .i64 (numc c3), .int .i64 (numc c4), .int .i64 (numc c5)]) rfl (by kernel_rfl) (by kernel_rfl) (by kernel_rfl) (fun _ _ _ h => h) (Or.inl ⟨by rfl, ?_⟩) trivial ?_
      · intro w' _; go_simp
      simp only [Act.put, List.setIfInBounds_toArray]
      refine wpAnyH_ready (rs := [26]) (by kernel_rfl) (by simp) ?_
      refine AllReadyH.cons rfl (fun K hK => ?_) AllReadyH.nil
      go_simp
      refine hK.out _ _ trivial (fun _ => ?_)
      clear hK K
      refine wpAnyH_done (by kernel_rfl) ?_ _
      go_wp2_with fail
      go_meet
      exact ⟨rfl, rfl⟩
    go_simp
    go_wp2_with (go_at_call 57; refine (numc_any _ _).mono ?_; rintro e w2 ⟨rfl, rfl⟩)
    refine hK.out _ _ trivial (fun _ => ?_)
    clear hK K
    refine wpAnyH_ready (rs := [15, 25]) (by kernel_rfl) (by simp) ?_
    refine AllReadyH.cons rfl (fun K hK => ?_) (AllReadyH.cons rfl (fun K hK => ?_) AllReadyH.nil)
    rotate_left
    · go_simp
      refine hK.out _ _ trivial (fun _ => ?_)
      clear hK K
      refine wpAnyH_ready (rs := [15]) (by kernel_rfl) (by simp) ?_
      refine AllReadyH.cons rfl (fun K hK => ?_) AllReadyH.nil
      go_simp
      go_wp2_with (go_at_call 57; refine (numc_any _ _).mono ?_; rintro e w2 ⟨rfl, rfl⟩)
      refine hK.out _ _ trivial (fun _ => ?_)
      clear hK K
      refine wpAnyH_ready (rs := [19]) (by kernel_rfl) (by simp) ?_
      refine AllReadyH.cons rfl (fun K hK => ?_) AllReadyH.nil
      go_simp
      go_wp2_with (go_at_call 57; refine (numc_any _ _).mono ?_; rintro e w2 ⟨rfl, rfl⟩)
      refine hK.out _ _ trivial (fun _ => ?_)
      clear hK K
      refine wpAnyH_ready (rs := [23]) (by kernel_rfl) (by simp) ?_
      refine AllReadyH.cons rfl (fun K hK => ?_) AllReadyH.nil
      go_simp
      go_wp2_with (go_at_call 57; refine (numc_any _ _).mono ?_; rintro e w2 ⟨rfl, rfl⟩)
      refine hK.out _ _ trivial (fun _ => ?_)
      clear hK K
      refine wpAnyH_take (i := 24) (v := .agg #[.int .i64 (numc c0), .int .i64 (numc c1), .int .i64 (numc c2), .int .i64 (numc c3), .int .i64 (numc c4), .int .i64 (numc c5)]) rfl (by kernel_rfl) (by kernel_rfl) (by kernel_rfl) (fun _ _ _ h => h) (Or.inl ⟨by rfl, ?_⟩) trivial ?_
      · intro w' _; go_simp
      simp only [Act.put, List.setIfInBounds_toArray]
      refine wpAnyH_ready (rs := [26]) (by kernel_rfl) (by simp) ?_
      refine AllReadyH.cons rfl (fun K hK => ?_) AllReadyH.nil
      go_simp
      refine hK.out _ _ trivial (fun _ => ?_)
      clear hK K
      refine wpAnyH_done (by kernel_rfl) ?_ _
      go_wp2_with fail
      go_meet
      exact ⟨rfl, rfl⟩
    go_simp
    go_wp2_with (go_at_call 57; refine (numc_any _ _).mono ?_; rintro e w2 ⟨rfl, rfl⟩)
    refine hK.out _ _ trivial (fun _ => ?_)
    clear hK K
    refine wpAnyH_ready (rs := [19, 25]) (by kernel_rfl) (by simp) ?_
    refine AllReadyH.cons rfl (fun K hK => ?_) (AllReadyH.cons rfl (fun K hK => ?_) AllReadyH.nil)
    rotate_left
    · go_simp
      refine hK.out _ _ trivial (fun _ => ?_)
      clear hK K
      refine wpAnyH_ready (rs := [19]) (by kernel_rfl) (by simp) ?_
      refine AllReadyH.cons rfl (fun K hK => ?_) AllReadyH.nil
      go_simp
      go_wp2_with (go_at_call 57; refine (numc_any _ _).mono ?_; rintro e w2 ⟨rfl, rfl⟩)
      refine hK.out _ _ trivial (fun _ => ?_)
      clear hK K
      refine wpAnyH_ready (rs := [23]) (by kernel_rfl) (by simp) ?_
      refine AllReadyH.cons rfl (fun K hK => ?_) AllReadyH.nil
      go_simp
      go_wp2_with (go_at_call 57; refine (numc_any _ _).mono ?_; rintro e w2 ⟨rfl, rfl⟩)
      refine hK.out _ _ trivial (fun _ => ?_)
      clear hK K
      refine wpAnyH_take (i := 24) (v := .agg #[.int .i64 (numc c0), .int .i64 (numc c1), .int .i64 (numc c2), .int .i64 (numc c3), .int .i64 (numc c4), .int .i64 (numc c5)]) rfl (by kernel_rfl) (by kernel_rfl) (by kernel_rfl) (fun _ _ _ h => h) (Or.inl ⟨by rfl, ?_⟩) trivial ?_
      · intro w' _; go_simp
      simp only [Act.put, List.setIfInBounds_toArray]
      refine wpAnyH_ready (rs := [26]) (by kernel_rfl) (by simp) ?_
      refine AllReadyH.cons rfl (fun K hK => ?_) AllReadyH.nil
      go_simp
      refine hK.out _ _ trivial (fun _ => ?_)
      clear hK K
      refine wpAnyH_done (by kernel_rfl) ?_ _
      go_wp2_with fail
      go_meet
      exact ⟨rfl, rfl⟩
    go_simp
    go_wp2_with (go_at_call 57; refine (numc_any _ _).mono ?_; rintro e w2 ⟨rfl, rfl⟩)
    refine hK.out _ _ trivial (fun _ => ?_)
    clear hK K
    refine wpAnyH_ready (rs := [23, 25]) (by kernel_rfl) (by simp) ?_
    refine AllReadyH.cons rfl (fun K hK => ?_) (AllReadyH.cons rfl (fun K hK => ?_) AllReadyH.nil)
    rotate_left
    · go_simp
      refine hK.out _ _ trivial (fun _ => ?_)
      clear hK K
      refine wpAnyH_ready (rs := [23]) (by kernel_rfl) (by simp) ?_
      refine AllReadyH.cons rfl (fun K hK => ?_) AllReadyH.nil
      go_simp
      go_wp2_with (go_at_call 57; refine (numc_any _ _).mono ?_; rintro e w2 ⟨rfl, rfl⟩)
      refine hK.out _ _ trivial (fun _ => ?_)
      clear hK K
      refine wpAnyH_take (i := 24) (v := .agg #[.int .i64 (numc c0), .int .i64 (numc c1), .int .i64 (numc c2), .int .i64 (numc c3), .int .i64 (numc c4), .int .i64 (numc c5)]) rfl (by kernel_rfl) (by kernel_rfl) (by kernel_rfl) (fun _ _ _ h => h) (Or.inl ⟨by rfl, ?_⟩) trivial ?_
      · intro w' _; go_simp
      simp only [Act.put, List.setIfInBounds_toArray]
      refine wpAnyH_ready (rs := [26]) (by kernel_rfl) (by simp) ?_
      refine AllReadyH.cons rfl (fun K hK => ?_) AllReadyH.nil
      go_simp
      refine hK.out _ _ trivial (fun _ => ?_)
      clear hK K
      refine wpAnyH_done (by kernel_rfl) ?_ _
      go_wp2_with fail
      go_meet
      exact ⟨rfl, rfl⟩
    go_simp
    go_wp2_with (go_at_call 57; refine (numc_any _ _).mono ?_; rintro e w2 ⟨rfl, rfl⟩)
    refine hK.out _ _ trivial (fun _ => ?_)
    clear hK K
    refine wpAnyH_take (i := 24) (v := .agg #[.int .i64 (numc c0), .int .i64 (numc c1), .int .i64 (numc c2), .int .i64 (numc c3), .int .i64 (numc c4), .int .i64 (numc c5)]) rfl (by kernel_rfl) (by kernel_rfl) (by kernel_rfl) (fun _ _ _ h => h) (Or.inl ⟨by rfl, ?_⟩) trivial ?_
    · intro w' _; go_simp
    simp only [Act.put, List.setIfInBounds_toArray]
    refine wpAnyH_ready (rs := [25]) (by kernel_rfl) (by simp) ?_
    refine AllReadyH.cons rfl (fun K hK => ?_) AllReadyH.nil
    go_simp
    refine hK.out _ _ trivial (fun _ => ?_)
    clear hK K
    refine wpAnyH_ready (rs := [26]) (by kernel_rfl) (by simp) ?_
    refine AllReadyH.cons rfl (fun K hK => ?_) AllReadyH.nil
    go_simp
    refine hK.out _ _ trivial (fun _ => ?_)
    clear hK K
    refine wpAnyH_done (by kernel_rfl) ?_ _
    go_wp2_with fail
    go_meet
    exact ⟨rfl, rfl⟩
  case rest =>
    obtain ⟨rfl, rfl⟩ := hcut
    clear i0 i1 i2 i3 i4 i5
    go_wp2_with fail
    by_cases hg : goodC (numc c0) (numc c1) (numc c2) (numc c3) (numc c4) (numc c5) = 0
    · by_cases hs : (⟨#[c0, c1, c2, c3, c4, c5]⟩ : ByteArray) = encB (numc c0) (numc c1) (numc c2) (numc c3) (numc c4) (numc c5)
      · have HD : Dec ⟨#[c0, c1, c2, c3, c4, c5]⟩ (numc c0) (numc c1) (numc c2) (numc c3) (numc c4) (numc c5) 0 := Or.inl ⟨rfl, hg, hs⟩
        have hq : ((encB (numc c0) (numc c1) (numc c2) (numc c3) (numc c4) (numc c5)).toList == [c0, c1, c2, c3, c4, c5]) = true := by rw [← hs]; simp
        clear hs
        refine (encodeWord_good _ _ _ _ _ _ _ hg).mono ?_
        rintro e w2 ⟨rfl, hb⟩
        obtain ⟨hc, hf⟩ := bcell hb
        go_wp2
        have q0 : w2.cell? ⟨w.heap.size, 0, none⟩ = some (.int .i64 0) := (hc _ 0 (by simp; omega)).trans (by simp [go_sem])
        have q1 : w2.cell? ⟨w.heap.size, 1, none⟩ = some (.int .i64 0) := (hc _ 1 (by simp; omega)).trans (by simp [go_sem])
        have q2 : w2.cell? ⟨w.heap.size, 2, none⟩ = some (.int .i64 0) := (hc _ 2 (by simp; omega)).trans (by simp [go_sem])
        have q3 : w2.cell? ⟨w.heap.size, 3, none⟩ = some (.int .i64 0) := (hc _ 3 (by simp; omega)).trans (by simp [go_sem])
        have q4 : w2.cell? ⟨w.heap.size, 4, none⟩ = some (.int .i64 0) := (hc _ 4 (by simp; omega)).trans (by simp [go_sem])
        have q5 : w2.cell? ⟨w.heap.size, 5, none⟩ = some (.int .i64 0) := (hc _ 5 (by simp; omega)).trans (by simp [go_sem])
        have hb4 := below_past (below_past (below_undrew hb))
        refine bodyPost_ret (v := .tuple #[.agg #[.int .i64 (numc c0), .int .i64 (numc c1), .int .i64 (numc c2), .int .i64 (numc c3), .int .i64 (numc c4), .int .i64 (numc c5)], .int .i64 0]) (by simp [results, Try.results18, go_sem, q0, q1, q2, q3, q4, q5]) rfl ⟨numc c0, numc c1, numc c2, numc c3, numc c4, numc c5, 0, rfl, HD, ?_⟩
        clear hb hc hf
        go_grown
      · have HD := dec_num_not hs
        have hq : ((encB (numc c0) (numc c1) (numc c2) (numc c3) (numc c4) (numc c5)).toList == [c0, c1, c2, c3, c4, c5]) = false := by
          rw [beq_eq_false_iff_ne]
          intro h
          apply hs
          simpa [encB, eq_comm] using h
        clear hs
        refine (encodeWord_good _ _ _ _ _ _ _ hg).mono ?_
        rintro e w2 ⟨rfl, hb⟩
        obtain ⟨hc, hf⟩ := bcell hb
        go_wp2
        have q0 : w2.cell? ⟨w.heap.size, 0, none⟩ = some (.int .i64 0) := (hc _ 0 (by simp; omega)).trans (by simp [go_sem])
        have q1 : w2.cell? ⟨w.heap.size, 1, none⟩ = some (.int .i64 0) := (hc _ 1 (by simp; omega)).trans (by simp [go_sem])
        have q2 : w2.cell? ⟨w.heap.size, 2, none⟩ = some (.int .i64 0) := (hc _ 2 (by simp; omega)).trans (by simp [go_sem])
        have q3 : w2.cell? ⟨w.heap.size, 3, none⟩ = some (.int .i64 0) := (hc _ 3 (by simp; omega)).trans (by simp [go_sem])
        have q4 : w2.cell? ⟨w.heap.size, 4, none⟩ = some (.int .i64 0) := (hc _ 4 (by simp; omega)).trans (by simp [go_sem])
        have q5 : w2.cell? ⟨w.heap.size, 5, none⟩ = some (.int .i64 0) := (hc _ 5 (by simp; omega)).trans (by simp [go_sem])
        have hb4 := below_past (below_past (below_undrew hb))
        refine bodyPost_ret (v := .tuple #[.agg #[.int .i64 0, .int .i64 0, .int .i64 0, .int .i64 0, .int .i64 0, .int .i64 0], .int .i64 1]) (by simp [results, Try.results18, go_sem, q0, q1, q2, q3, q4, q5]) rfl ⟨0, 0, 0, 0, 0, 0, 1, rfl, HD, ?_⟩
        clear hb hc hf
        go_grown
    · have HD := dec_num_bad hg
      have hg1 : (goodC (numc c0) (numc c1) (numc c2) (numc c3) (numc c4) (numc c5) != 0) = true := by rw [bne_iff_ne]; exact hg
      have hg2 : (goodC (numc c0) (numc c1) (numc c2) (numc c3) (numc c4) (numc c5) == 0) = false := by rw [beq_eq_false_iff_ne]; exact hg
      clear hg
      refine (encodeWord_bad _ _ _ _ _ _ _ hg1).mono ?_
      rintro e w2 ⟨rfl, hb⟩
      obtain ⟨hc, hf⟩ := bcell hb
      go_wp2
      have q0 : w2.cell? ⟨w.heap.size, 0, none⟩ = some (.int .i64 0) := (hc _ 0 (by simp; omega)).trans (by simp [go_sem])
      have q1 : w2.cell? ⟨w.heap.size, 1, none⟩ = some (.int .i64 0) := (hc _ 1 (by simp; omega)).trans (by simp [go_sem])
      have q2 : w2.cell? ⟨w.heap.size, 2, none⟩ = some (.int .i64 0) := (hc _ 2 (by simp; omega)).trans (by simp [go_sem])
      have q3 : w2.cell? ⟨w.heap.size, 3, none⟩ = some (.int .i64 0) := (hc _ 3 (by simp; omega)).trans (by simp [go_sem])
      have q4 : w2.cell? ⟨w.heap.size, 4, none⟩ = some (.int .i64 0) := (hc _ 4 (by simp; omega)).trans (by simp [go_sem])
      have q5 : w2.cell? ⟨w.heap.size, 5, none⟩ = some (.int .i64 0) := (hc _ 5 (by simp; omega)).trans (by simp [go_sem])
      have hb4 := below_past (below_past (below_undrew hb))
      refine bodyPost_ret (v := .tuple #[.agg #[.int .i64 0, .int .i64 0, .int .i64 0, .int .i64 0, .int .i64 0, .int .i64 0], .int .i64 1]) (by simp [results, Try.results18, go_sem, q0, q1, q2, q3, q4, q5]) rfl ⟨0, 0, 0, 0, 0, 0, 1, rfl, HD, ?_⟩
      clear hb hc hf
      go_grown

theorem decodeWord_any (s : ByteArray) (w : World) (hm : s.size ≤ maxLen) :
    Calls Try.prog 18 #[.string s] w fun e w' => ∃ k f h r v x c, e = .returned (.tuple #[.agg #[.int .i64 k, .int .i64 f, .int .i64 h, .int .i64 r, .int .i64 v, .int .i64 x], .int .i64 c]) ∧ Dec s k f h r v x c ∧ Below w.heap.size w w' := by
  by_cases hs : s.size = 6
  · obtain ⟨d⟩ := s
    obtain ⟨c0, c1, c2, c3, c4, c5, rfl⟩ := array6 (cs := d) hs
    exact decodeWord_six c0 c1 c2 c3 c4 c5 w
  · refine (decodeWord_len s w hs hm).mono ?_
    rintro e w' ⟨rfl, hb⟩
    exact ⟨0, 0, 0, 0, 0, 0, 1, rfl, dec_len s hs, hb⟩

theorem decodeWord_back (k f h r v x : Int) (w : World) (hg : goodC k f h r v x = 0) :
    Calls Try.prog 18 #[.string (encB k f h r v x)] w fun e w' => e = .returned (.tuple #[.agg #[.int .i64 k, .int .i64 f, .int .i64 h, .int .i64 r, .int .i64 v, .int .i64 x], .int .i64 0]) ∧ Below w.heap.size w w' := by
  refine (decodeWord_any (encB k f h r v x) w (by show 6 ≤ maxLen; decide)).mono ?_
  rintro e w' ⟨k', f', h', r', v', x', c, rfl, hd, hb⟩
  obtain ⟨rfl, rfl, rfl, rfl, rfl, rfl, rfl⟩ := dec_back hg hd
  exact ⟨rfl, hb⟩

theorem decodeWord_none (s : ByteArray) (w : World) (hm : s.size ≤ maxLen) (hn : ∀ k f h r v x, goodC k f h r v x = 0 → s ≠ encB k f h r v x) :
    Calls Try.prog 18 #[.string s] w fun e w' => e = .returned (.tuple #[.agg #[.int .i64 0, .int .i64 0, .int .i64 0, .int .i64 0, .int .i64 0, .int .i64 0], .int .i64 1]) ∧ Below w.heap.size w w' := by
  refine (decodeWord_any s w hm).mono ?_
  rintro e w' ⟨k', f', h', r', v', x', c, rfl, hd, hb⟩
  obtain ⟨rfl, rfl, rfl, rfl, rfl, rfl, rfl⟩ := dec_none hn hd
  exact ⟨rfl, hb⟩
end Go.Proofs.Ytmmgaonlmpajbaa
