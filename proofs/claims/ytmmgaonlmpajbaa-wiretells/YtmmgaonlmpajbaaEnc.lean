/-
  What package wire's Encode answers.
-/
import Derived.Test.YtmmgaonlmpajbaaLead
namespace Go.Proofs.Ytmmgaonlmpajbaa
open Go.RowKit

theorem size_past {w w1 : World} {o : Obj} (hb : Below (w.alloc o).heap.size (w.alloc o) w1) : w.heap.size < w1.heap.size := by
  have := hb.size; simp at this; omega

theorem goodC_bounds {k f h r v x : Int} (hg : goodC k f h r v x = 0) :
    1 ≤ k ∧ k ≤ 3 ∧ 0 ≤ f ∧ f ≤ 3 ∧ 0 ≤ h ∧ h ≤ 3 ∧ 0 ≤ r ∧ r ≤ 5 ∧ 0 ≤ v ∧ v ≤ 9 ∧ -1 ≤ x ∧ x ≤ 4 := by
  unfold goodC at hg
  split at hg
  · omega
  · split at hg
    · omega
    · split at hg
      · omega
      · rename_i h1 h2 h3
        simp [win, inb] at h1 h2
        by_cases hk : k = 1
        · simp [hk] at h2 ⊢; omega
        · simp [hk] at h2 h3 ⊢; omega

/-- A number's sign: a minus is -1. -/
def sgn (n : Int) : UInt8 := if n < 0 then 45 else (48 + n.toNat).toUInt8

theorem run_sign (n : Int) (w : World) (h0 : -1 ≤ n) (h1 : n ≤ 9) :
    (Instr.index 9 (.string ⟨#[45, 48, 49, 50, 51, 52, 53, 54, 55, 56, 57]⟩) (.int .i64 (n + 1))).run Try.prog w = .ok (.int .u8 (sgn n).toNat) w := by
  have hn : n = -1 ∨ n = 0 ∨ n = 1 ∨ n = 2 ∨ n = 3 ∨ n = 4 ∨ n = 5 ∨ n = 6 ∨ n = 7 ∨ n = 8 ∨ n = 9 := by omega
  rcases hn with rfl | rfl | rfl | rfl | rfl | rfl | rfl | rfl | rfl | rfl | rfl
  all_goals (show _ = _; kernel_rfl)

theorem conv6 (a b c d e g : UInt8) (B : Nat) (W : World) (h0 : W.cell? ⟨B, 0, none⟩ = some (.int .u8 a.toNat)) (h1 : W.cell? ⟨B, 1, none⟩ = some (.int .u8 b.toNat)) (h2 : W.cell? ⟨B, 2, none⟩ = some (.int .u8 c.toNat))
    (h3 : W.cell? ⟨B, 3, none⟩ = some (.int .u8 d.toNat)) (h4 : W.cell? ⟨B, 4, none⟩ = some (.int .u8 e.toNat)) (h5 : W.cell? ⟨B, 5, none⟩ = some (.int .u8 g.toNat)) :
    (convert 75 9 (.slice (some ⟨B, 0, none⟩) 6 6)).run Try.prog W = .ok (.string ⟨#[a, b, c, d, e, g]⟩) W := by
  refine run_convert_bytes_back W 75 9 5 ⟨B, 0, none⟩ 6 [a, b, c, d, e, g] Try.underlying75 Try.underlying5 Try.underlying9 ?_
  intro j hj
  have hj' : j = 0 ∨ j = 1 ∨ j = 2 ∨ j = 3 ∨ j = 4 ∨ j = 5 := by simp at hj; omega
  rcases hj' with rfl | rfl | rfl | rfl | rfl | rfl
  · exact h0
  · exact h1
  · exact h2
  · exact h3
  · exact h4
  · exact h5

/-- A word's text. -/
def encB (k f h r v x : Int) : ByteArray := ⟨#[sgn k, sgn f, sgn h, sgn r, sgn v, sgn x]⟩

set_option maxHeartbeats 1000000 in
theorem encode_bad (k f h r v x : Int) (w : World) (hg : (goodC k f h r v x != 0) = true) :
    Calls Try.prog 15 #[.agg #[.int .i64 k, .int .i64 f, .int .i64 h, .int .i64 r, .int .i64 v, .int .i64 x]] w fun e w' => e = .returned (.tuple #[.string ⟨#[]⟩, .int .i64 (goodC k f h r v x)]) ∧ Below w.heap.size w w' := by
  go_enter Try.func15, Try.ntmps15
  go_wp2_with (go_at_call 19; refine (good_any _ _ _ _ _ _ _).mono ?_; rintro e w1 ⟨rfl, hb⟩)
  go_ret2
  exact ⟨rfl, below_past hb⟩

set_option maxHeartbeats 1000000 in
theorem encode_good (k f h r v x : Int) (w : World) (hg : goodC k f h r v x = 0) :
    Calls Try.prog 15 #[.agg #[.int .i64 k, .int .i64 f, .int .i64 h, .int .i64 r, .int .i64 v, .int .i64 x]] w fun e w' => e = .returned (.tuple #[.string (encB k f h r v x), .int .i64 0]) ∧ Below w.heap.size w w' := by
  have hmk : ∀ w, (Instr.makeSlice 75 (.int .i64 0) (.int .i64 6)).run Try.prog w = .ok (.slice (some ⟨w.heap.size, 0, none⟩) 0 6) (w.alloc (.cells #[.int .u8 0, .int .u8 0, .int .u8 0, .int .u8 0, .int .u8 0, .int .u8 0] 5)) := fun _ => by kernel_rfl
  have i0 : ∀ w, (Instr.index 76 (.agg #[.int .i64 k, .int .i64 f, .int .i64 h, .int .i64 r, .int .i64 v, .int .i64 x]) (.int .i64 0)).run Try.prog w = .ok (.int .i64 k) w := fun _ => by kernel_rfl
  have i1 : ∀ w, (Instr.index 76 (.agg #[.int .i64 k, .int .i64 f, .int .i64 h, .int .i64 r, .int .i64 v, .int .i64 x]) (.int .i64 1)).run Try.prog w = .ok (.int .i64 f) w := fun _ => by kernel_rfl
  have i2 : ∀ w, (Instr.index 76 (.agg #[.int .i64 k, .int .i64 f, .int .i64 h, .int .i64 r, .int .i64 v, .int .i64 x]) (.int .i64 2)).run Try.prog w = .ok (.int .i64 h) w := fun _ => by kernel_rfl
  have i3 : ∀ w, (Instr.index 76 (.agg #[.int .i64 k, .int .i64 f, .int .i64 h, .int .i64 r, .int .i64 v, .int .i64 x]) (.int .i64 3)).run Try.prog w = .ok (.int .i64 r) w := fun _ => by kernel_rfl
  have i4 : ∀ w, (Instr.index 76 (.agg #[.int .i64 k, .int .i64 f, .int .i64 h, .int .i64 r, .int .i64 v, .int .i64 x]) (.int .i64 4)).run Try.prog w = .ok (.int .i64 v) w := fun _ => by kernel_rfl
  have i5 : ∀ w, (Instr.index 76 (.agg #[.int .i64 k, .int .i64 f, .int .i64 h, .int .i64 r, .int .i64 v, .int .i64 x]) (.int .i64 5)).run Try.prog w = .ok (.int .i64 x) w := fun _ => by kernel_rfl
  go_enter Try.func15, Try.ntmps15
  go_wp2_with (go_at_call 19; refine (good_any _ _ _ _ _ _ _).mono ?_; rintro e w1 ⟨rfl, hb⟩; obtain ⟨hc, hf⟩ := bcell hb; have hz : w.heap.size < w1.heap.size := size_past hb)
  have hbd := goodC_bounds hg
  obtain ⟨b1, b2, b3, b4, b5, b6, b7, b8, b9, b10, b11, b12⟩ := hbd
  have s0 := fun w => run_sign k w (by omega) (by omega)
  have s1 := fun w => run_sign f w (by omega) (by omega)
  have s2 := fun w => run_sign h w (by omega) (by omega)
  have s3 := fun w => run_sign r w (by omega) (by omega)
  have s4 := fun w => run_sign v w (by omega) (by omega)
  have s5 := fun w => run_sign x w (by omega) (by omega)
  have cv := fun o1 o2 o3 o4 o5 o6 : Obj => conv6 (sgn k) (sgn f) (sgn h) (sgn r) (sgn v) (sgn x) w1.heap.size
    (((((((w1.alloc (.cells #[.int .u8 (sgn k).toNat, .int .u8 (sgn f).toNat, .int .u8 (sgn h).toNat, .int .u8 (sgn r).toNat, .int .u8 (sgn v).toNat, .int .u8 (sgn x).toNat] 5)).alloc o1).alloc o2).alloc o3).alloc o4).alloc o5).alloc o6)
    (by simp [go_sem]) (by simp [go_sem]) (by simp [go_sem]) (by simp [go_sem]) (by simp [go_sem]) (by simp [go_sem])
  refine wp_loop_rounds 7 ?_
  rw [rounds_succ]
  go_wp2
  rw [rounds_succ]
  go_wp2
  rw [rounds_succ]
  go_wp2
  rw [rounds_succ]
  go_wp2
  rw [rounds_succ]
  go_wp2
  rw [rounds_succ]
  go_wp2
  rw [rounds_succ]
  go_wp2
  go_ret2
  refine ⟨rfl, ?_⟩
  have hb' := below_past hb
  go_grown
end Go.Proofs.Ytmmgaonlmpajbaa
