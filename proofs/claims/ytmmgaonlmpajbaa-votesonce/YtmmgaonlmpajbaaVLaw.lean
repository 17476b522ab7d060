/-
  The statements on votes: counts, VotesCount.
-/
import Derived.Test.YtmmgaonlmpajbaaVMost
import Derived.Test.YtmmgaonlmpajbaaRefCountL
import Derived.Test.YtmmgaonlmpajbaaRefMost
import Derived.Deep.RegionHeld
import Derived.Deep.QuietTactic
import Derived.BigQuiet
namespace Go.Proofs.Ytmmgaonlmpajbaa
open Go.RowKit

def v3 : Nat → Int := fun i => if i = 1 then 0 else 3
theorem v3_bd : VBd v3 := by intro i _; unfold v3; split <;> omega
theorem v3_most : mostV v3 = (2, true) := by decide
theorem v3_all : allV v3 = 3 := by decide

theorem count_lit (V : Nat → Int) (hV : VBd V) (value : Int) (w : World) :
    Calls Try.prog 27 #[.agg #[.int .i64 (V 0), .int .i64 (V 1), .int .i64 (V 2), .int .i64 (V 3)], .int .i64 value] w fun e w' => e = .returned (.int .i64 (cntV V value)) ∧ Below w.heap.size w w' := count_any V hV value w
theorem all_lit (V : Nat → Int) (w : World) :
    Calls Try.prog 30 #[.agg #[.int .i64 (V 0), .int .i64 (V 1), .int .i64 (V 2), .int .i64 (V 3)]] w fun e w' => e = .returned (.int .i64 (allV V)) ∧ Below w.heap.size w w' := all_any V w
theorem most_lit (V : Nat → Int) (hV : VBd V) (w : World) :
    Calls Try.prog 25 #[.agg #[.int .i64 (V 0), .int .i64 (V 1), .int .i64 (V 2), .int .i64 (V 3)]] w fun e w' => e = .returned (.tuple #[.int .i64 (mostV V).1, .bool (mostV V).2]) ∧ Below w.heap.size w w' := most_any V hV w
theorem most_v3 (w : World) :
    Calls Try.prog 25 #[.agg #[.int .i64 3, .int .i64 0, .int .i64 3, .int .i64 3]] w fun e w' => e = .returned (.tuple #[.int .i64 2, .bool true]) ∧ Below w.heap.size w w' := by
  have := most_any v3 v3_bd w
  rw [v3_most] at this
  exact this
theorem all_v3 (w : World) :
    Calls Try.prog 30 #[.agg #[.int .i64 3, .int .i64 0, .int .i64 3, .int .i64 3]] w fun e w' => e = .returned (.int .i64 3) ∧ Below w.heap.size w w' := by
  have := all_any v3 w
  rw [v3_all] at this
  exact this

set_option maxHeartbeats 1000000 in
theorem lcounts_any (w : World) :
    Calls Try.prog 32 #[] w fun e w' => e = .returned (.bool true) ∧ Below w.heap.size w w' := by
  go_enter Try.func32, Try.ntmps32
  go_wp2_with (first | (go_at_call 25; refine (most_v3 _).mono ?_; rintro e w1 ⟨rfl, hb1⟩) | (go_at_call 30; refine (all_v3 _).mono ?_; rintro e w2 ⟨rfl, hb2⟩))
  go_ret
  exact ⟨rfl, bel_trans hb1 hb2⟩

theorem cell_keep {W W' : World} {b o : Nat} {v : Value} (h : W.cell? ⟨b, o, none⟩ = some v) (hb : Below W.heap.size W W') : W'.cell? ⟨b, o, none⟩ = some v := by
  rw [(bcell hb).1 b o (World.block_lt_of_cell? W _ h)]; exact h

/-- Block b holds four numbers, block c one. -/
theorem keepV {V : Nat → Int} {value : Int} {b c : Nat} {w W W' : World} (h : (W.cell? ⟨b, 0, none⟩ = some (.int .i64 (V 0)) ∧ W.cell? ⟨b, 1, none⟩ = some (.int .i64 (V 1)) ∧ W.cell? ⟨b, 2, none⟩ = some (.int .i64 (V 2)) ∧ W.cell? ⟨b, 3, none⟩ = some (.int .i64 (V 3))) ∧ W.cell? ⟨c, 0, none⟩ = some (.int .i64 value) ∧ Below w.heap.size w W) (hb : Below W.heap.size W W') :
    (W'.cell? ⟨b, 0, none⟩ = some (.int .i64 (V 0)) ∧ W'.cell? ⟨b, 1, none⟩ = some (.int .i64 (V 1)) ∧ W'.cell? ⟨b, 2, none⟩ = some (.int .i64 (V 2)) ∧ W'.cell? ⟨b, 3, none⟩ = some (.int .i64 (V 3))) ∧ W'.cell? ⟨c, 0, none⟩ = some (.int .i64 value) ∧ Below w.heap.size w W' :=
  ⟨⟨cell_keep h.1.1 hb, cell_keep h.1.2.1 hb, cell_keep h.1.2.2.1 hb, cell_keep h.1.2.2.2 hb⟩, cell_keep h.2.1 hb, bel_trans h.2.2 hb⟩
theorem keepV_drew {V : Nat → Int} {value : Int} {b c : Nat} {w W : World} (h : (W.cell? ⟨b, 0, none⟩ = some (.int .i64 (V 0)) ∧ W.cell? ⟨b, 1, none⟩ = some (.int .i64 (V 1)) ∧ W.cell? ⟨b, 2, none⟩ = some (.int .i64 (V 2)) ∧ W.cell? ⟨b, 3, none⟩ = some (.int .i64 (V 3))) ∧ W.cell? ⟨c, 0, none⟩ = some (.int .i64 value) ∧ Below w.heap.size w W) :
    (W.drew.cell? ⟨b, 0, none⟩ = some (.int .i64 (V 0)) ∧ W.drew.cell? ⟨b, 1, none⟩ = some (.int .i64 (V 1)) ∧ W.drew.cell? ⟨b, 2, none⟩ = some (.int .i64 (V 2)) ∧ W.drew.cell? ⟨b, 3, none⟩ = some (.int .i64 (V 3))) ∧ W.drew.cell? ⟨c, 0, none⟩ = some (.int .i64 value) ∧ Below w.heap.size w W.drew :=
  ⟨h.1, h.2.1, ⟨h.2.2.os, h.2.2.tape, h.2.2.output, h.2.2.size, h.2.2.block⟩⟩

theorem countOf_lit (V : Nat → Int) (hV : VBd V) (value : Int) (b : Nat) (w : World) (hp : w.cell? ⟨b, 0, none⟩ = some (.int .i64 value)) :
    Calls Try.prog 28 #[.agg #[.int .i64 (V 0), .int .i64 (V 1), .int .i64 (V 2), .int .i64 (V 3)], .func (.func 29) #[] #[.pointer (some ⟨b, 0, none⟩)]] w fun e w' => e = .returned (.int .i64 (cntV V value)) ∧ Below w.heap.size w w' := countOf_is12 V hV value b w hp
theorem allOf_lit (V : Nat → Int) (hV : VBd V) (w : World) :
    Calls Try.prog 31 #[.agg #[.int .i64 (V 0), .int .i64 (V 1), .int .i64 (V 2), .int .i64 (V 3)]] w fun e w' => e = .returned (.int .i64 (allV V)) ∧ Below w.heap.size w w' := allOf_any V hV w
theorem mostOf_lit (V : Nat → Int) (hV : VBd V) (w : World) :
    Calls Try.prog 26 #[.agg #[.int .i64 (V 0), .int .i64 (V 1), .int .i64 (V 2), .int .i64 (V 3)]] w fun e w' => e = .returned (.tuple #[.int .i64 (mostV V).1, .bool (mostV V).2]) ∧ Below w.heap.size w w' := mostOf_any V hV w

theorem vnew (w : World) (V : Nat → Int) (value : Int) :
    ((((w.alloc (.cells (vcells V) 36)).alloc (.cells #[.int .i64 value] 3)).cell? ⟨w.heap.size, 0, none⟩ = some (.int .i64 (V 0)) ∧ ((w.alloc (.cells (vcells V) 36)).alloc (.cells #[.int .i64 value] 3)).cell? ⟨w.heap.size, 1, none⟩ = some (.int .i64 (V 1)) ∧ ((w.alloc (.cells (vcells V) 36)).alloc (.cells #[.int .i64 value] 3)).cell? ⟨w.heap.size, 2, none⟩ = some (.int .i64 (V 2)) ∧ ((w.alloc (.cells (vcells V) 36)).alloc (.cells #[.int .i64 value] 3)).cell? ⟨w.heap.size, 3, none⟩ = some (.int .i64 (V 3))) ∧ ((w.alloc (.cells (vcells V) 36)).alloc (.cells #[.int .i64 value] 3)).cell? ⟨w.heap.size + 1, 0, none⟩ = some (.int .i64 value)) ∧ Below w.heap.size w ((w.alloc (.cells (vcells V) 36)).alloc (.cells #[.int .i64 value] 3)) := by
  have h : ∀ j, j < 4 → ((w.alloc (.cells (vcells V) 36)).alloc (.cells #[.int .i64 value] 3)).cell? ⟨w.heap.size, j, none⟩ = some (.int .i64 (V j)) := fun j hj => by
    rw [cell_of_row _ w.heap.size j (vcells V) 36 (0, 0) (heap_alloc2_old w _ _), vcells_at V j hj]
  exact ⟨⟨⟨h 0 (by omega), h 1 (by omega), h 2 (by omega), h 3 (by omega)⟩, by simp [go_sem]⟩, by go_grown⟩

set_option maxHeartbeats 2000000 in
theorem votesCount_any (V : Nat → Int) (hV : VBd V) (value : Int) (w : World) :
    Calls Try.prog 6 #[.agg (vcells V), .int .i64 value] w fun e w' => e = .returned (.bool true) ∧ Below w.heap.size w w' := by
  have HV : Hid (VBd V) := hV
  clear hV
  obtain ⟨⟨N1, N2⟩, N3⟩ := vnew w V value
  go_enter Try.func6, Try.ntmps6
  go_wp2_with fail
  refine (most_lit V HV.out _).mono ?_
  rintro e w1 ⟨rfl, hb1⟩
  obtain ⟨⟨a0, a1, a2, a3⟩, a4, a5⟩ := keepV (w := w) ⟨N1, N2, N3⟩ hb1
  clear hb1 N1 N2 N3
  go_wp2_with fail
  refine (mostOf_lit V HV.out _).mono ?_
  rintro e w2 ⟨rfl, hb2⟩
  have hS := keepV (w := w) ⟨⟨a0, a1, a2, a3⟩, a4, a5⟩ hb2
  clear hb2 a0 a1 a2 a3 a4 a5
  go_wp2_with fail
  go_region_held (fun W => (W.cell? ⟨w.heap.size, 0, none⟩ = some (.int .i64 (V 0)) ∧ W.cell? ⟨w.heap.size, 1, none⟩ = some (.int .i64 (V 1)) ∧ W.cell? ⟨w.heap.size, 2, none⟩ = some (.int .i64 (V 2)) ∧ W.cell? ⟨w.heap.size, 3, none⟩ = some (.int .i64 (V 3))) ∧ W.cell? ⟨w.heap.size + 1, 0, none⟩ = some (.int .i64 value) ∧ Below w.heap.size w W) (first | exact keepV_drew hS | exact keepV (by assumption) hb5 | assumption) ((first | (go_at_call 27; refine (count_lit V HV.out _ _).mono ?_; rintro e w5 ⟨rfl, hb5⟩) | (go_at_call 28; refine (countOf_lit V HV.out value _ _ (by first | assumption | simp [*])).mono ?_; rintro e w5 ⟨rfl, hb5⟩) | (go_at_call 30; refine (all_lit V _).mono ?_; rintro e w5 ⟨rfl, hb5⟩) | (go_at_call 31; refine (allOf_lit V HV.out _).mono ?_; rintro e w5 ⟨rfl, hb5⟩) | (go_at_call 32; refine (lcounts_any _).mono ?_; rintro e w5 ⟨rfl, hb5⟩)))
  all_goals try go_wp2
  all_goals go_ret
  all_goals rename_i hh
  all_goals exact ⟨rfl, hh.2.2⟩
end Go.Proofs.Ytmmgaonlmpajbaa
