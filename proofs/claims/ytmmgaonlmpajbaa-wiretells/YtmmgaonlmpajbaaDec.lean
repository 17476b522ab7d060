/-
  What package wire's Decode answers.
-/
import Derived.Test.YtmmgaonlmpajbaaEnc
import Derived.Lib.Bytealg
namespace Go.Proofs.Ytmmgaonlmpajbaa
open Go.RowKit

/-- Where a byte stands among the signs, from 0 on; -1: nowhere. -/
def signAt (c : UInt8) : Int := Lib.indexByte [45, 48, 49, 50, 51, 52, 53, 54, 55, 56, 57] c

theorem run_index (c : UInt8) (w : World) :
    Sem.run Try.prog (callFunc 104 #[.string ⟨#[45, 48, 49, 50, 51, 52, 53, 54, 55, 56, 57]⟩, .int .u8 (c.toNat : Int)]) w = .ok (.value (.int .i64 (signAt c))) w := by
  have hx := Lib.run_indexByteString (P := Try.prog) ⟨#[45, 48, 49, 50, 51, 52, 53, 54, 55, 56, 57]⟩ (c.toNat : Int) w
  have hc : ((c.toNat : Int)).toNat.toUInt8 = c := by simp
  rw [hc] at hx
  rw [run_callFunc_extern Try.func104 (by kernel_rfl) (by kernel_rfl) (by kernel_rfl) (e := Extern.BytealgIndexByte.indexByte) (by kernel_rfl), hx]
  rfl

set_option maxHeartbeats 400000 in
theorem index_any (c : UInt8) (w : World) :
    Calls Try.prog 56 #[.string ⟨#[45, 48, 49, 50, 51, 52, 53, 54, 55, 56, 57]⟩, .int .u8 (c.toNat : Int)] w fun e w' => e = .returned (.int .i64 (signAt c)) ∧ w' = w := by
  have hx := fun w => run_index c w
  go_enter Try.func56, Try.ntmps56
  go_wp2
  go_ret
  exact ⟨rfl, rfl⟩

theorem signAt_of (c : UInt8) : (signAt c = -1 ∧ ∀ n, -1 ≤ n → n ≤ 9 → sgn n ≠ c) ∨ (0 ≤ signAt c ∧ signAt c ≤ 10 ∧ sgn (signAt c - 1) = c) := by
  by_cases h : c = 45 ∨ c = 48 ∨ c = 49 ∨ c = 50 ∨ c = 51 ∨ c = 52 ∨ c = 53 ∨ c = 54 ∨ c = 55 ∨ c = 56 ∨ c = 57
  · right
    rcases h with rfl | rfl | rfl | rfl | rfl | rfl | rfl | rfl | rfl | rfl | rfl <;> decide
  · left
    simp only [not_or] at h
    obtain ⟨h0, h1, h2, h3, h4, h5, h6, h7, h8, h9, h10⟩ := h
    constructor
    · simp [signAt, Lib.indexByte, Ne.symm h0, Ne.symm h1, Ne.symm h2, Ne.symm h3, Ne.symm h4, Ne.symm h5, Ne.symm h6, Ne.symm h7, Ne.symm h8, Ne.symm h9, Ne.symm h10]
    · intro n hn hn'
      have hc : n = -1 ∨ n = 0 ∨ n = 1 ∨ n = 2 ∨ n = 3 ∨ n = 4 ∨ n = 5 ∨ n = 6 ∨ n = 7 ∨ n = 8 ∨ n = 9 := by omega
      rcases hc with rfl | rfl | rfl | rfl | rfl | rfl | rfl | rfl | rfl | rfl | rfl
      · exact Ne.symm h0
      · exact Ne.symm h1
      · exact Ne.symm h2
      · exact Ne.symm h3
      · exact Ne.symm h4
      · exact Ne.symm h5
      · exact Ne.symm h6
      · exact Ne.symm h7
      · exact Ne.symm h8
      · exact Ne.symm h9
      · exact Ne.symm h10

theorem signAt_sgn (n : Int) (h0 : -1 ≤ n) (h1 : n ≤ 9) : signAt (sgn n) = n + 1 := by
  have hc : n = -1 ∨ n = 0 ∨ n = 1 ∨ n = 2 ∨ n = 3 ∨ n = 4 ∨ n = 5 ∨ n = 6 ∨ n = 7 ∨ n = 8 ∨ n = 9 := by omega
  rcases hc with rfl | rfl | rfl | rfl | rfl | rfl | rfl | rfl | rfl | rfl | rfl <;> decide

/-- The word and the error of a text: the good word of which it is the text; else none. -/
def Dec (s : ByteArray) (k f h r v x e : Int) : Prop :=
  (e = 0 ∧ goodC k f h r v x = 0 ∧ s = encB k f h r v x) ∨
  (e = 1 ∧ k = 0 ∧ f = 0 ∧ h = 0 ∧ r = 0 ∧ v = 0 ∧ x = 0 ∧ ∀ k f h r v x, goodC k f h r v x = 0 → s ≠ encB k f h r v x)

theorem dec_len (s : ByteArray) (hs : s.size ≠ 6) : Dec s 0 0 0 0 0 0 1 := by
  refine Or.inr ⟨rfl, rfl, rfl, rfl, rfl, rfl, rfl, ?_⟩
  intro k f h r v x _ hs'
  rw [hs'] at hs
  exact hs rfl

set_option maxHeartbeats 400000 in
theorem decode_len (s : ByteArray) (w : World) (hs : s.size ≠ 6) (_hm : s.size ≤ maxLen) :
    Calls Try.prog 17 #[.string s] w fun e w' => ∃ k f h r v x c, e = .returned (.tuple #[.agg #[.int .i64 k, .int .i64 f, .int .i64 h, .int .i64 r, .int .i64 v, .int .i64 x], .int .i64 c]) ∧ Dec s k f h r v x c ∧ Below w.heap.size w w' := by
  have h6 : ((s.size : Int) != 6) = true := by rw [bne_iff_ne]; omega
  have HD := dec_len s hs
  clear hs
  go_enter Try.func17, Try.ntmps17
  go_wp2
  refine bodyPost_ret (v := .tuple #[.agg #[.int .i64 0, .int .i64 0, .int .i64 0, .int .i64 0, .int .i64 0, .int .i64 0], .int .i64 1]) (by simp [results, Try.results17, go_sem]) rfl ⟨0, 0, 0, 0, 0, 0, 1, rfl, HD, ?_⟩
  go_grown
theorem six_of {c0 c1 c2 c3 c4 c5 : UInt8} {k f h r v x : Int} (hg : goodC k f h r v x = 0) (hs : (⟨#[c0, c1, c2, c3, c4, c5]⟩ : ByteArray) = encB k f h r v x) :
    signAt c0 = k + 1 ∧ signAt c1 = f + 1 ∧ signAt c2 = h + 1 ∧ signAt c3 = r + 1 ∧ signAt c4 = v + 1 ∧ signAt c5 = x + 1 := by
  obtain ⟨b1, b2, b3, b4, b5, b6, b7, b8, b9, b10, b11, b12⟩ := goodC_bounds hg
  simp [encB] at hs
  obtain ⟨rfl, rfl, rfl, rfl, rfl, rfl⟩ := hs
  exact ⟨signAt_sgn k (by omega) (by omega), signAt_sgn f (by omega) (by omega), signAt_sgn h (by omega) (by omega), signAt_sgn r (by omega) (by omega), signAt_sgn v (by omega) (by omega), signAt_sgn x (by omega) (by omega)⟩

theorem dec_sign {c0 c1 c2 c3 c4 c5 : UInt8} (hn : signAt c0 < 0 ∨ signAt c1 < 0 ∨ signAt c2 < 0 ∨ signAt c3 < 0 ∨ signAt c4 < 0 ∨ signAt c5 < 0) : Dec ⟨#[c0, c1, c2, c3, c4, c5]⟩ 0 0 0 0 0 0 1 := by
  refine Or.inr ⟨rfl, rfl, rfl, rfl, rfl, rfl, rfl, ?_⟩
  intro k f h r v x hg hs
  have h6 := six_of hg hs
  have hb := goodC_bounds hg
  omega

theorem dec_not {c0 c1 c2 c3 c4 c5 : UInt8} (hn : goodC (signAt c0 - 1) (signAt c1 - 1) (signAt c2 - 1) (signAt c3 - 1) (signAt c4 - 1) (signAt c5 - 1) ≠ 0) : Dec ⟨#[c0, c1, c2, c3, c4, c5]⟩ 0 0 0 0 0 0 1 := by
  refine Or.inr ⟨rfl, rfl, rfl, rfl, rfl, rfl, rfl, ?_⟩
  intro k f h r v x hg hs
  obtain ⟨e0, e1, e2, e3, e4, e5⟩ := six_of hg hs
  rw [e0, e1, e2, e3, e4, e5] at hn
  simp only [Int.add_sub_cancel] at hn
  exact hn hg

theorem dec_yes {c0 c1 c2 c3 c4 c5 : UInt8} (h0 : ¬ signAt c0 < 0) (h1 : ¬ signAt c1 < 0) (h2 : ¬ signAt c2 < 0) (h3 : ¬ signAt c3 < 0) (h4 : ¬ signAt c4 < 0) (h5 : ¬ signAt c5 < 0)
    (hg : goodC (signAt c0 - 1) (signAt c1 - 1) (signAt c2 - 1) (signAt c3 - 1) (signAt c4 - 1) (signAt c5 - 1) = 0) :
    Dec ⟨#[c0, c1, c2, c3, c4, c5]⟩ (signAt c0 - 1) (signAt c1 - 1) (signAt c2 - 1) (signAt c3 - 1) (signAt c4 - 1) (signAt c5 - 1) 0 := by
  refine Or.inl ⟨rfl, hg, ?_⟩
  have s := fun c (h : ¬ signAt c < 0) => (signAt_of c).resolve_left (fun hh => h (by omega))
  unfold encB
  rw [(s c0 h0).2.2, (s c1 h1).2.2, (s c2 h2).2.2, (s c3 h3).2.2, (s c4 h4).2.2, (s c5 h5).2.2]

theorem signAt_le (c : UInt8) : -1 ≤ signAt c ∧ signAt c ≤ 10 := by
  rcases signAt_of c with h | h <;> omega

set_option maxHeartbeats 4000000 in
theorem decode_sign (c0 c1 c2 c3 c4 c5 : UInt8) (w : World) (hcs : (signAt c0 < 0) ∨ (0 ≤ signAt c0 ∧ signAt c1 < 0) ∨ (0 ≤ signAt c0 ∧ 0 ≤ signAt c1 ∧ signAt c2 < 0) ∨ (0 ≤ signAt c0 ∧ 0 ≤ signAt c1 ∧ 0 ≤ signAt c2 ∧ signAt c3 < 0) ∨ (0 ≤ signAt c0 ∧ 0 ≤ signAt c1 ∧ 0 ≤ signAt c2 ∧ 0 ≤ signAt c3 ∧ signAt c4 < 0) ∨ (0 ≤ signAt c0 ∧ 0 ≤ signAt c1 ∧ 0 ≤ signAt c2 ∧ 0 ≤ signAt c3 ∧ 0 ≤ signAt c4 ∧ signAt c5 < 0)) :
    Calls Try.prog 17 #[.string ⟨#[c0, c1, c2, c3, c4, c5]⟩] w fun e w' => ∃ k f h r v x c, e = .returned (.tuple #[.agg #[.int .i64 k, .int .i64 f, .int .i64 h, .int .i64 r, .int .i64 v, .int .i64 x], .int .i64 c]) ∧ Dec ⟨#[c0, c1, c2, c3, c4, c5]⟩ k f h r v x c ∧ Below w.heap.size w w' := by
  have i0 : ∀ w, (Instr.index 9 (.string ⟨#[c0, c1, c2, c3, c4, c5]⟩) (.int .i64 0)).run Try.prog w = .ok (.int .u8 (c0.toNat : Int)) w := fun _ => by kernel_rfl
  have i1 : ∀ w, (Instr.index 9 (.string ⟨#[c0, c1, c2, c3, c4, c5]⟩) (.int .i64 1)).run Try.prog w = .ok (.int .u8 (c1.toNat : Int)) w := fun _ => by kernel_rfl
  have i2 : ∀ w, (Instr.index 9 (.string ⟨#[c0, c1, c2, c3, c4, c5]⟩) (.int .i64 2)).run Try.prog w = .ok (.int .u8 (c2.toNat : Int)) w := fun _ => by kernel_rfl
  have i3 : ∀ w, (Instr.index 9 (.string ⟨#[c0, c1, c2, c3, c4, c5]⟩) (.int .i64 3)).run Try.prog w = .ok (.int .u8 (c3.toNat : Int)) w := fun _ => by kernel_rfl
  have i4 : ∀ w, (Instr.index 9 (.string ⟨#[c0, c1, c2, c3, c4, c5]⟩) (.int .i64 4)).run Try.prog w = .ok (.int .u8 (c4.toNat : Int)) w := fun _ => by kernel_rfl
  have i5 : ∀ w, (Instr.index 9 (.string ⟨#[c0, c1, c2, c3, c4, c5]⟩) (.int .i64 5)).run Try.prog w = .ok (.int .u8 (c5.toNat : Int)) w := fun _ => by kernel_rfl
  obtain ⟨l0, u0⟩ := signAt_le c0
  obtain ⟨l1, u1⟩ := signAt_le c1
  obtain ⟨l2, u2⟩ := signAt_le c2
  obtain ⟨l3, u3⟩ := signAt_le c3
  obtain ⟨l4, u4⟩ := signAt_le c4
  obtain ⟨l5, u5⟩ := signAt_le c5
  have HD : Dec ⟨#[c0, c1, c2, c3, c4, c5]⟩ 0 0 0 0 0 0 1 := dec_sign (by omega)
  rcases hcs with a0 | ⟨a0, a1⟩ | ⟨a0, a1, a2⟩ | ⟨a0, a1, a2, a3⟩ | ⟨a0, a1, a2, a3, a4⟩ | ⟨a0, a1, a2, a3, a4, a5⟩
  all_goals
    go_enter Try.func17, Try.ntmps17
    go_wp2
    refine wp_loop_rounds 7 ?_
    repeat (rw [rounds_succ]; go_wp2_with (first | (go_at_call 56; refine (index_any _ _).mono ?_; rintro e w' ⟨rfl, rfl⟩)))
    refine bodyPost_ret (v := .tuple #[.agg #[.int .i64 0, .int .i64 0, .int .i64 0, .int .i64 0, .int .i64 0, .int .i64 0], .int .i64 1]) (by simp [results, Try.results17, go_sem]) rfl ⟨0, 0, 0, 0, 0, 0, 1, rfl, HD, ?_⟩
    go_grown

set_option maxHeartbeats 4000000 in
theorem decode_signs (c0 c1 c2 c3 c4 c5 : UInt8) (w : World) (a0 : 0 ≤ signAt c0) (a1 : 0 ≤ signAt c1) (a2 : 0 ≤ signAt c2) (a3 : 0 ≤ signAt c3) (a4 : 0 ≤ signAt c4) (a5 : 0 ≤ signAt c5) :
    Calls Try.prog 17 #[.string ⟨#[c0, c1, c2, c3, c4, c5]⟩] w fun e w' => ∃ k f h r v x c, e = .returned (.tuple #[.agg #[.int .i64 k, .int .i64 f, .int .i64 h, .int .i64 r, .int .i64 v, .int .i64 x], .int .i64 c]) ∧ Dec ⟨#[c0, c1, c2, c3, c4, c5]⟩ k f h r v x c ∧ Below w.heap.size w w' := by
  have i0 : ∀ w, (Instr.index 9 (.string ⟨#[c0, c1, c2, c3, c4, c5]⟩) (.int .i64 0)).run Try.prog w = .ok (.int .u8 (c0.toNat : Int)) w := fun _ => by kernel_rfl
  have i1 : ∀ w, (Instr.index 9 (.string ⟨#[c0, c1, c2, c3, c4, c5]⟩) (.int .i64 1)).run Try.prog w = .ok (.int .u8 (c1.toNat : Int)) w := fun _ => by kernel_rfl
  have i2 : ∀ w, (Instr.index 9 (.string ⟨#[c0, c1, c2, c3, c4, c5]⟩) (.int .i64 2)).run Try.prog w = .ok (.int .u8 (c2.toNat : Int)) w := fun _ => by kernel_rfl
  have i3 : ∀ w, (Instr.index 9 (.string ⟨#[c0, c1, c2, c3, c4, c5]⟩) (.int .i64 3)).run Try.prog w = .ok (.int .u8 (c3.toNat : Int)) w := fun _ => by kernel_rfl
  have i4 : ∀ w, (Instr.index 9 (.string ⟨#[c0, c1, c2, c3, c4, c5]⟩) (.int .i64 4)).run Try.prog w = .ok (.int .u8 (c4.toNat : Int)) w := fun _ => by kernel_rfl
  have i5 : ∀ w, (Instr.index 9 (.string ⟨#[c0, c1, c2, c3, c4, c5]⟩) (.int .i64 5)).run Try.prog w = .ok (.int .u8 (c5.toNat : Int)) w := fun _ => by kernel_rfl
  obtain ⟨l0, u0⟩ := signAt_le c0
  obtain ⟨l1, u1⟩ := signAt_le c1
  obtain ⟨l2, u2⟩ := signAt_le c2
  obtain ⟨l3, u3⟩ := signAt_le c3
  obtain ⟨l4, u4⟩ := signAt_le c4
  obtain ⟨l5, u5⟩ := signAt_le c5
  by_cases hg : goodC (signAt c0 - 1) (signAt c1 - 1) (signAt c2 - 1) (signAt c3 - 1) (signAt c4 - 1) (signAt c5 - 1) = 0
  · have HD := dec_yes (by omega) (by omega) (by omega) (by omega) (by omega) (by omega) hg
    go_enter Try.func17, Try.ntmps17
    go_wp2
    refine wp_loop_rounds 7 ?_
    repeat (rw [rounds_succ]; go_wp2_with (first | (go_at_call 56; refine (index_any _ _).mono ?_; rintro e w' ⟨rfl, rfl⟩) | (go_at_call 19; refine (good_any _ _ _ _ _ _ _).mono ?_; rintro e w1 ⟨rfl, hb⟩; obtain ⟨hc, hf⟩ := bcell hb)))
    have hb3 := below_past (below_past (below_past hb))
    have q0 : w1.cell? ⟨w.heap.size, 0, none⟩ = some (.int .i64 0) := (hc _ 0 (by simp; omega)).trans (by simp [go_sem])
    have q1 : w1.cell? ⟨w.heap.size, 1, none⟩ = some (.int .i64 0) := (hc _ 1 (by simp; omega)).trans (by simp [go_sem])
    have q2 : w1.cell? ⟨w.heap.size, 2, none⟩ = some (.int .i64 0) := (hc _ 2 (by simp; omega)).trans (by simp [go_sem])
    have q3 : w1.cell? ⟨w.heap.size, 3, none⟩ = some (.int .i64 0) := (hc _ 3 (by simp; omega)).trans (by simp [go_sem])
    have q4 : w1.cell? ⟨w.heap.size, 4, none⟩ = some (.int .i64 0) := (hc _ 4 (by simp; omega)).trans (by simp [go_sem])
    have q5 : w1.cell? ⟨w.heap.size, 5, none⟩ = some (.int .i64 0) := (hc _ 5 (by simp; omega)).trans (by simp [go_sem])
    refine bodyPost_ret (v := .tuple #[.agg #[.int .i64 (signAt c0 - 1), .int .i64 (signAt c1 - 1), .int .i64 (signAt c2 - 1), .int .i64 (signAt c3 - 1), .int .i64 (signAt c4 - 1), .int .i64 (signAt c5 - 1)], .int .i64 0]) (by simp [results, Try.results17, go_sem, q0, q1, q2, q3, q4, q5]) rfl ⟨signAt c0 - 1, signAt c1 - 1, signAt c2 - 1, signAt c3 - 1, signAt c4 - 1, signAt c5 - 1, 0, rfl, HD, ?_⟩
    clear hb hc hf
    go_grown
  · have hg' : (goodC (signAt c0 - 1) (signAt c1 - 1) (signAt c2 - 1) (signAt c3 - 1) (signAt c4 - 1) (signAt c5 - 1) != 0) = true := by rw [bne_iff_ne]; exact hg
    have HD := dec_not hg
    clear hg
    go_enter Try.func17, Try.ntmps17
    go_wp2
    refine wp_loop_rounds 7 ?_
    repeat (rw [rounds_succ]; go_wp2_with (first | (go_at_call 56; refine (index_any _ _).mono ?_; rintro e w' ⟨rfl, rfl⟩) | (go_at_call 19; refine (good_any _ _ _ _ _ _ _).mono ?_; rintro e w1 ⟨rfl, hb⟩; obtain ⟨hc, hf⟩ := bcell hb)))
    have hb3 := below_past (below_past (below_past hb))
    have q0 : w1.cell? ⟨w.heap.size, 0, none⟩ = some (.int .i64 0) := (hc _ 0 (by simp; omega)).trans (by simp [go_sem])
    have q1 : w1.cell? ⟨w.heap.size, 1, none⟩ = some (.int .i64 0) := (hc _ 1 (by simp; omega)).trans (by simp [go_sem])
    have q2 : w1.cell? ⟨w.heap.size, 2, none⟩ = some (.int .i64 0) := (hc _ 2 (by simp; omega)).trans (by simp [go_sem])
    have q3 : w1.cell? ⟨w.heap.size, 3, none⟩ = some (.int .i64 0) := (hc _ 3 (by simp; omega)).trans (by simp [go_sem])
    have q4 : w1.cell? ⟨w.heap.size, 4, none⟩ = some (.int .i64 0) := (hc _ 4 (by simp; omega)).trans (by simp [go_sem])
    have q5 : w1.cell? ⟨w.heap.size, 5, none⟩ = some (.int .i64 0) := (hc _ 5 (by simp; omega)).trans (by simp [go_sem])
    refine bodyPost_ret (v := .tuple #[.agg #[.int .i64 0, .int .i64 0, .int .i64 0, .int .i64 0, .int .i64 0, .int .i64 0], .int .i64 1]) (by simp [results, Try.results17, go_sem, q0, q1, q2, q3, q4, q5]) rfl ⟨0, 0, 0, 0, 0, 0, 1, rfl, HD, ?_⟩
    clear hb hc hf
    go_grown
theorem array6 {α : Type} {cs : Array α} (h : cs.size = 6) : ∃ c0 c1 c2 c3 c4 c5, cs = #[c0, c1, c2, c3, c4, c5] := by
  obtain ⟨l⟩ := cs
  match l, h with
  | [c0, c1, c2, c3, c4, c5], _ => exact ⟨c0, c1, c2, c3, c4, c5, rfl⟩

theorem decode_any (s : ByteArray) (w : World) (hm : s.size ≤ maxLen) :
    Calls Try.prog 17 #[.string s] w fun e w' => ∃ k f h r v x c, e = .returned (.tuple #[.agg #[.int .i64 k, .int .i64 f, .int .i64 h, .int .i64 r, .int .i64 v, .int .i64 x], .int .i64 c]) ∧ Dec s k f h r v x c ∧ Below w.heap.size w w' := by
  by_cases hs : s.size = 6
  · obtain ⟨d⟩ := s
    obtain ⟨c0, c1, c2, c3, c4, c5, rfl⟩ := array6 (cs := d) hs
    have hd : ((signAt c0 < 0) ∨ (0 ≤ signAt c0 ∧ signAt c1 < 0) ∨ (0 ≤ signAt c0 ∧ 0 ≤ signAt c1 ∧ signAt c2 < 0) ∨ (0 ≤ signAt c0 ∧ 0 ≤ signAt c1 ∧ 0 ≤ signAt c2 ∧ signAt c3 < 0) ∨ (0 ≤ signAt c0 ∧ 0 ≤ signAt c1 ∧ 0 ≤ signAt c2 ∧ 0 ≤ signAt c3 ∧ signAt c4 < 0) ∨ (0 ≤ signAt c0 ∧ 0 ≤ signAt c1 ∧ 0 ≤ signAt c2 ∧ 0 ≤ signAt c3 ∧ 0 ≤ signAt c4 ∧ signAt c5 < 0)) ∨
        (0 ≤ signAt c0 ∧ 0 ≤ signAt c1 ∧ 0 ≤ signAt c2 ∧ 0 ≤ signAt c3 ∧ 0 ≤ signAt c4 ∧ 0 ≤ signAt c5) := by omega
    rcases hd with hd | ⟨a0, a1, a2, a3, a4, a5⟩
    · exact decode_sign c0 c1 c2 c3 c4 c5 w hd
    · exact decode_signs c0 c1 c2 c3 c4 c5 w a0 a1 a2 a3 a4 a5
  · exact decode_len s w hs hm
end Go.Proofs.Ytmmgaonlmpajbaa
