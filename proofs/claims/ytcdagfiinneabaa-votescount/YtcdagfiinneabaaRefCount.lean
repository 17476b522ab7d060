/-
  What the document's own answer says of votes: CountOf, said, AllOf, MostOf.
-/
import Derived.Test.YtcdagfiinneabaaRefSheet
namespace Go.Proofs.Ytcdagfiinneabaa
open Go.RowKit

/-- The four cells of votes. -/
def vcells (V : Nat → Int) : Array Value := ((List.range 4).map fun i => Value.int .i64 (V i)).toArray
theorem vcells_at (V : Nat → Int) (k : Nat) (h : k < 4) : (vcells V)[k]? = some (.int .i64 (V k)) := by simp [vcells, h]
theorem vcells_eq (V : Nat → Int) : vcells V = #[.int .i64 (V 0), .int .i64 (V 1), .int .i64 (V 2), .int .i64 (V 3)] := rfl

/-- Each of the four is a number of 64 bits. -/
def VBd (V : Nat → Int) : Prop := ∀ i, i < 4 → -9223372036854775808 ≤ V i ∧ V i ≤ 9223372036854775807

/-- How many of the first n have said something that p holds of. -/
def cntTo (V : Nat → Int) (p : Int → Bool) : Nat → Int
  | 0 => 0
  | n + 1 => cntTo V p n + if 1 ≤ V n ∧ p (V n - 1) = true then 1 else 0

theorem cntTo_le (V : Nat → Int) (p : Int → Bool) (n : Nat) : 0 ≤ cntTo V p n ∧ cntTo V p n ≤ n := by
  induction n with
  | zero => simp [cntTo]
  | succ n ih => simp only [cntTo]; split <;> omega

set_option maxHeartbeats 400000 in
theorem all1_any (x : Int) (w : World) : Calls Try.prog 45 #[.int .i64 x] w fun e w' => e = .returned (.bool true) ∧ w' = w := by
  go_enter Try.func45, Try.ntmps45
  go_wp2
  go_ret
  exact ⟨rfl, rfl⟩

set_option maxHeartbeats 1000000 in
theorem countOf_all (V : Nat → Int) (hV : VBd V) (w : World) :
    Calls Try.prog 24 #[.agg (vcells V), .func (.func 45) #[] #[]] w fun e w' => e = .returned (.int .i64 (cntTo V (fun _ => true) 4)) ∧ Below w.heap.size w w' := by
  go_enter Try.func24, Try.ntmps24
  go_wp2
  go_loop [5, 7] (fun n i => ∃ k : Nat, k ≤ 4 ∧ i = .int .i64 (k : Int) ∧ n = .int .i64 (cntTo V (fun _ => true) k)) (fun _ i => 4 - (intOf i).toNat)
  case atStart => exact ⟨0, by omega, rfl, rfl⟩
  case round =>
    obtain ⟨k, hk, rfl, rfl⟩ := hrel
    have hd := cntTo_le V (fun _ => true) k
    by_cases hlt : k < 4
    · have c0 := vcells_at V k hlt
      obtain ⟨hlo, hhi⟩ := hV k hlt
      have HS : Hid (cntTo V (fun _ => true) (k + 1) = cntTo V (fun _ => true) k + if 1 ≤ V k ∧ (fun _ : Int => true) (V k - 1) = true then 1 else 0) := rfl
      clear hV
      go_wp2_with (first | (go_at_call 45; refine (all1_any _ _).mono ?_; rintro e w' ⟨rfl, rfl⟩))
      all_goals
        go_round
        case rel => exact ⟨k + 1, by omega, by go_num, by rw [HS.out]; first | rw [if_pos (by simp; omega)] | (rw [if_neg (by simp; omega)]; go_num)⟩
        case measure => simp [intOf]; omega
    · go_wp2
      go_ret
      exact ⟨ret_int (by rw [show k = 4 by omega]), by go_grown⟩

set_option maxHeartbeats 400000 in
theorem is_any35 (x value : Int) (b : Nat) (w : World) (hp : w.cell? ⟨b, 0, none⟩ = some (.int .i64 value)) : Calls Try.prog 55 #[.int .i64 x, .pointer (some ⟨b, 0, none⟩)] w fun e w' => e = .returned (.bool (x == value)) ∧ w' = w := by
  go_enter Try.func55, Try.ntmps55
  go_wp2
  go_ret
  exact ⟨rfl, rfl⟩

set_option maxHeartbeats 1000000 in
theorem countOf_is35 (V : Nat → Int) (hV : VBd V) (value : Int) (b : Nat) (w : World) (hp : w.cell? ⟨b, 0, none⟩ = some (.int .i64 value)) :
    Calls Try.prog 24 #[.agg (vcells V), .func (.func 55) #[] #[.pointer (some ⟨b, 0, none⟩)]] w fun e w' => e = .returned (.int .i64 (cntTo V (fun x => x == value) 4)) ∧ Below w.heap.size w w' := by
  have hb : b < w.heap.size := World.block_lt_of_cell? w _ hp
  have hp1 : (w.alloc (.cells (vcells V) 36)).cell? ⟨b, 0, none⟩ = some (.int .i64 value) := by rw [World.cell?_alloc_lt _ _ _ hb]; exact hp
  clear hp
  go_enter Try.func24, Try.ntmps24
  go_wp2
  go_loop [5, 7] (fun n i => ∃ k : Nat, k ≤ 4 ∧ i = .int .i64 (k : Int) ∧ n = .int .i64 (cntTo V (fun x => x == value) k)) (fun _ i => 4 - (intOf i).toNat)
  case atStart => exact ⟨0, by omega, rfl, rfl⟩
  case round =>
    obtain ⟨k, hk, rfl, rfl⟩ := hrel
    have hd := cntTo_le V (fun x => x == value) k
    by_cases hlt : k < 4
    · have c0 := vcells_at V k hlt
      obtain ⟨hlo, hhi⟩ := hV k hlt
      have HS : Hid (cntTo V (fun x => x == value) (k + 1) = cntTo V (fun x => x == value) k + if 1 ≤ V k ∧ (fun x : Int => x == value) (V k - 1) = true then 1 else 0) := rfl
      clear hV
      by_cases h1 : 1 ≤ V k
      · by_cases h2 : V k - 1 = value
        · have h2' : (V k - 1 == value) = true := by simp [h2]
          have HV : Hid (V k - 1 = value) := h2
          clear h2
          go_wp2_with (first | (go_at_call 55; refine (is_any35 _ _ _ _ hp1).mono ?_; rintro e w' ⟨rfl, rfl⟩))
          go_round
          case rel => exact ⟨k + 1, by omega, by go_num, by rw [HS.out, if_pos ⟨h1, h2'⟩]⟩
          case measure => simp [intOf]; omega
        · have h2' : (V k - 1 == value) = false := by simp [h2]
          clear h2
          go_wp2_with (first | (go_at_call 55; refine (is_any35 _ _ _ _ hp1).mono ?_; rintro e w' ⟨rfl, rfl⟩))
          go_round
          case rel => exact ⟨k + 1, by omega, by go_num, by rw [HS.out, if_neg (fun hh => by rw [h2'] at hh; exact Bool.false_ne_true hh.2)]; go_num⟩
          case measure => simp [intOf]; omega
      · go_wp2
        go_round
        case rel => exact ⟨k + 1, by omega, by go_num, by rw [HS.out, if_neg (fun hh => h1 hh.1)]; go_num⟩
        case measure => simp [intOf]; omega
    · go_wp2
      go_ret
      exact ⟨ret_int (by rw [show k = 4 by omega]), by go_grown⟩

set_option maxHeartbeats 400000 in
theorem is_any12 (x value : Int) (b : Nat) (w : World) (hp : w.cell? ⟨b, 0, none⟩ = some (.int .i64 value)) : Calls Try.prog 25 #[.int .i64 x, .pointer (some ⟨b, 0, none⟩)] w fun e w' => e = .returned (.bool (x == value)) ∧ w' = w := by
  go_enter Try.func25, Try.ntmps25
  go_wp2
  go_ret
  exact ⟨rfl, rfl⟩

set_option maxHeartbeats 1000000 in
theorem countOf_is12 (V : Nat → Int) (hV : VBd V) (value : Int) (b : Nat) (w : World) (hp : w.cell? ⟨b, 0, none⟩ = some (.int .i64 value)) :
    Calls Try.prog 24 #[.agg (vcells V), .func (.func 25) #[] #[.pointer (some ⟨b, 0, none⟩)]] w fun e w' => e = .returned (.int .i64 (cntTo V (fun x => x == value) 4)) ∧ Below w.heap.size w w' := by
  have hb : b < w.heap.size := World.block_lt_of_cell? w _ hp
  have hp1 : (w.alloc (.cells (vcells V) 36)).cell? ⟨b, 0, none⟩ = some (.int .i64 value) := by rw [World.cell?_alloc_lt _ _ _ hb]; exact hp
  clear hp
  go_enter Try.func24, Try.ntmps24
  go_wp2
  go_loop [5, 7] (fun n i => ∃ k : Nat, k ≤ 4 ∧ i = .int .i64 (k : Int) ∧ n = .int .i64 (cntTo V (fun x => x == value) k)) (fun _ i => 4 - (intOf i).toNat)
  case atStart => exact ⟨0, by omega, rfl, rfl⟩
  case round =>
    obtain ⟨k, hk, rfl, rfl⟩ := hrel
    have hd := cntTo_le V (fun x => x == value) k
    by_cases hlt : k < 4
    · have c0 := vcells_at V k hlt
      obtain ⟨hlo, hhi⟩ := hV k hlt
      have HS : Hid (cntTo V (fun x => x == value) (k + 1) = cntTo V (fun x => x == value) k + if 1 ≤ V k ∧ (fun x : Int => x == value) (V k - 1) = true then 1 else 0) := rfl
      clear hV
      by_cases h1 : 1 ≤ V k
      · by_cases h2 : V k - 1 = value
        · have h2' : (V k - 1 == value) = true := by simp [h2]
          have HV : Hid (V k - 1 = value) := h2
          clear h2
          go_wp2_with (first | (go_at_call 25; refine (is_any12 _ _ _ _ hp1).mono ?_; rintro e w' ⟨rfl, rfl⟩))
          go_round
          case rel => exact ⟨k + 1, by omega, by go_num, by rw [HS.out, if_pos ⟨h1, h2'⟩]⟩
          case measure => simp [intOf]; omega
        · have h2' : (V k - 1 == value) = false := by simp [h2]
          clear h2
          go_wp2_with (first | (go_at_call 25; refine (is_any12 _ _ _ _ hp1).mono ?_; rintro e w' ⟨rfl, rfl⟩))
          go_round
          case rel => exact ⟨k + 1, by omega, by go_num, by rw [HS.out, if_neg (fun hh => by rw [h2'] at hh; exact Bool.false_ne_true hh.2)]; go_num⟩
          case measure => simp [intOf]; omega
      · go_wp2
        go_round
        case rel => exact ⟨k + 1, by omega, by go_num, by rw [HS.out, if_neg (fun hh => h1 hh.1)]; go_num⟩
        case measure => simp [intOf]; omega
    · go_wp2
      go_ret
      exact ⟨ret_int (by rw [show k = 4 by omega]), by go_grown⟩

/-- How many have said a value; how many have said something. -/
def cntV (V : Nat → Int) (value : Int) : Int := cntTo V (fun x => x == value) 4
def allV (V : Nat → Int) : Int := cntTo V (fun _ => true) 4

set_option maxHeartbeats 1000000 in
theorem allOf_any (V : Nat → Int) (hV : VBd V) (w : World) :
    Calls Try.prog 27 #[.agg (vcells V)] w fun e w' => e = .returned (.int .i64 (allV V)) ∧ Below w.heap.size w w' := by
  go_enter Try.func27, Try.ntmps27
  go_wp2_with (first | (refine wpList_load_row rfl 36 _ rfl w.heap.size rfl 36 (vcells V) (0, 0) _ (heap_alloc_new w _) Try.underlying36 rfl (by kernel_rfl) ?_) | (go_at_call 24; refine (countOf_all V hV _).mono ?_; rintro e w' ⟨rfl, hb⟩))
  go_ret
  exact ⟨rfl, below_past hb⟩

set_option maxHeartbeats 1000000 in
theorem said_any (V : Nat → Int) (hV : VBd V) (value : Int) (w : World) :
    Calls Try.prog 43 #[.agg (vcells V), .int .i64 value] w fun e w' => e = .returned (.int .i64 (cntV V value)) ∧ Below w.heap.size w w' := by
  go_enter Try.func43, Try.ntmps43
  go_wp2_with (first | (refine wpList_load_row rfl 36 _ rfl w.heap.size rfl 36 (vcells V) (0, 0) _ (heap_alloc2_old w _ _) Try.underlying36 rfl (by kernel_rfl) ?_) | (go_at_call 24; refine (countOf_is35 V hV value (w.heap.size + 1) _ (by simp [go_sem])).mono ?_; rintro e w' ⟨rfl, hb⟩))
  go_ret
  exact ⟨rfl, below_past (below_past hb)⟩

/-- What a quorum has said. -/
def mostV (V : Nat → Int) : Int × Bool :=
  if win (V 0) 1 10 = true ∧ 3 ≤ cntV V (V 0 - 1) then (V 0 - 1, true) else if win (V 1) 1 10 = true ∧ 3 ≤ cntV V (V 1 - 1) then (V 1 - 1, true) else (0, false)

theorem win_less (x : Int) (h0 : -9223372036854775808 ≤ x) (h1 : x ≤ 9223372036854775807) : win (wrap64 (x - 1)) 0 9 = win x 1 10 := by
  have : wrap64 (x - 1) = x - 1 ∨ (x = -9223372036854775808 ∧ wrap64 (x - 1) = 9223372036854775807) := by unfold wrap64; omega
  rcases this with h | ⟨rfl, h⟩
  · rw [h]; unfold win; rw [decide_eq_decide]; omega
  · rw [h]; rfl

theorem bel_trans {a b c : World} (h : Below a.heap.size a b) (k : Below b.heap.size b c) : Below a.heap.size a c := h.trans (k.mono h.size)

theorem said_lit (V : Nat → Int) (hV : VBd V) (value : Int) (w : World) :
    Calls Try.prog 43 #[.agg #[.int .i64 (V 0), .int .i64 (V 1), .int .i64 (V 2), .int .i64 (V 3)], .int .i64 value] w fun e w' => e = .returned (.int .i64 (cntV V value)) ∧ Below w.heap.size w w' := said_any V hV value w

theorem wrap_of_win {x : Int} (h0 : -9223372036854775808 ≤ x) (h1 : x ≤ 9223372036854775807) (h : win x 1 10 = true) : wrap64 (x - 1) = x - 1 := by
  simp [win] at h; unfold wrap64; omega

theorem most_a {V : Nat → Int} (hw : win (V 0) 1 10 = true → wrap64 (V 0 - 1) = V 0 - 1) (h : win (V 0) 1 10 = true) (c : 3 ≤ cntV V (wrap64 (V 0 - 1))) : mostV V = (wrap64 (V 0 - 1), true) := by
  rw [hw h] at c ⊢; unfold mostV; rw [if_pos ⟨h, c⟩]
theorem most_0 {V : Nat → Int} (hw0 : win (V 0) 1 10 = true → wrap64 (V 0 - 1) = V 0 - 1) (h0 : ¬ win (V 0) 1 10 = true ∨ cntV V (wrap64 (V 0 - 1)) < 3) : ¬ (win (V 0) 1 10 = true ∧ 3 ≤ cntV V (V 0 - 1)) := by
  rintro ⟨a, b⟩
  rcases h0 with h0 | h0
  · exact h0 a
  · rw [hw0 a] at h0; omega
theorem most_b {V : Nat → Int} (hw0 : win (V 0) 1 10 = true → wrap64 (V 0 - 1) = V 0 - 1) (hw1 : win (V 1) 1 10 = true → wrap64 (V 1 - 1) = V 1 - 1) (h0 : ¬ win (V 0) 1 10 = true ∨ cntV V (wrap64 (V 0 - 1)) < 3)
    (h : win (V 1) 1 10 = true) (c : 3 ≤ cntV V (wrap64 (V 1 - 1))) : mostV V = (wrap64 (V 1 - 1), true) := by
  rw [hw1 h] at c ⊢; unfold mostV; rw [if_neg (most_0 hw0 h0), if_pos ⟨h, c⟩]
theorem most_c {V : Nat → Int} (hw0 : win (V 0) 1 10 = true → wrap64 (V 0 - 1) = V 0 - 1) (hw1 : win (V 1) 1 10 = true → wrap64 (V 1 - 1) = V 1 - 1) (h0 : ¬ win (V 0) 1 10 = true ∨ cntV V (wrap64 (V 0 - 1)) < 3)
    (h1 : ¬ win (V 1) 1 10 = true ∨ cntV V (wrap64 (V 1 - 1)) < 3) : mostV V = (0, false) := by
  have h1' : ¬ (win (V 1) 1 10 = true ∧ 3 ≤ cntV V (V 1 - 1)) := by
    rintro ⟨a, b⟩
    rcases h1 with h1 | h1
    · exact h1 a
    · rw [hw1 a] at h1; omega
  unfold mostV; rw [if_neg (most_0 hw0 h0), if_neg h1']

set_option maxHeartbeats 2000000 in
theorem mostOf_any (V : Nat → Int) (hV : VBd V) (w : World) :
    Calls Try.prog 22 #[.agg (vcells V)] w fun e w' => e = .returned (.tuple #[.int .i64 (mostV V).1, .bool (mostV V).2]) ∧ Below w.heap.size w w' := by
  have c0 := vcells_at V 0 (by omega)
  have c1 := vcells_at V 1 (by omega)
  have c2 := vcells_at V 2 (by omega)
  have c3 := vcells_at V 3 (by omega)
  obtain ⟨l0, u0⟩ := hV 0 (by omega)
  obtain ⟨l1, u1⟩ := hV 1 (by omega)
  have e0 := win_less (V 0) l0 u0
  have e1 := win_less (V 1) l1 u1
  have HV : Hid (VBd V) := hV
  have W0 : Hid (win (V 0) 1 10 = true → wrap64 (V 0 - 1) = V 0 - 1) := wrap_of_win l0 u0
  have W1 : Hid (win (V 1) 1 10 = true → wrap64 (V 1 - 1) = V 1 - 1) := wrap_of_win l1 u1
  clear hV l0 u0 l1 u1
  go_enter Try.func22, Try.ntmps22
  go_wp2
  refine wp_loop_rounds 3 ?_
  rw [rounds_succ]
  go_wp2_with (first | (go_at_call 41; refine (rwithin_any _ _ _ _).mono ?_; rintro e w' ⟨rfl, rfl⟩) | (go_at_call 43; refine (said_lit V HV.out _ _).mono ?_; rintro e w1 ⟨rfl, hb1⟩; obtain ⟨hc1, hf1⟩ := bcell hb1))
  all_goals try (rw [rounds_succ]; go_wp2_with (first | (go_at_call 41; refine (rwithin_any _ _ _ _).mono ?_; rintro e w' ⟨rfl, rfl⟩) | (go_at_call 43; refine (said_lit V HV.out _ _).mono ?_; rintro e w2 ⟨rfl, hb2⟩; obtain ⟨hc2, hf2⟩ := bcell hb2)))
  all_goals try (rw [rounds_succ]; go_wp2)
  all_goals go_ret2
  all_goals first
    | (rw [most_a W0.out ‹_› ‹_›])
    | (rw [most_b W0.out W1.out (Or.inr ‹_›) ‹_› ‹_›])
    | (rw [most_b W0.out W1.out (Or.inl ‹_›) ‹_› ‹_›])
    | (rw [most_c W0.out W1.out (Or.inr ‹_›) (Or.inr ‹_›)])
    | (rw [most_c W0.out W1.out (Or.inr ‹_›) (Or.inl ‹_›)])
    | (rw [most_c W0.out W1.out (Or.inl ‹_›) (Or.inr ‹_›)])
    | (rw [most_c W0.out W1.out (Or.inl ‹_›) (Or.inl ‹_›)])
  all_goals refine ⟨rfl, ?_⟩
  all_goals first | exact bel_trans (below_past hb1) hb2 | exact below_past hb1 | exact below_past hb2 | go_grown
end Go.Proofs.Ytcdagfiinneabaa
