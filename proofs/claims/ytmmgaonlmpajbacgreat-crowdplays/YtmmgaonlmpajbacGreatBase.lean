/-
  What package bounds answers, and package wire's Leader, inBounds and Good, and plain lemmas on numbers.
  A sheet as plain numbers, and its 66 cells.
  What the document's own answer says of words: within, WordError, LeaderOf.
  What the document's own answer says: IsSheet.
  What the document's own answer says of votes: CountOf, said, AllOf.
  A block of cells, read and written whole or cell by cell. No program is named here but for its namespace.
  Plain facts on votes: two quorums meet.
  What the document's own answer says: HeardIn.
  A region that draws its order, walked in ONE order that the prover names. Three kinds: 0: what yields its value in whatever world; 1: what yields its value in every world that meets S; 2: what writes, makes memory or calls: it alone may come up there, and S is shown anew behind it, as long as none of Z has come up; those of Z wait for all of kind 1. No program is named here but for its namespace.
  A region that draws its order, walked once in the order of the text, in a class of worlds: each operation has one value in every world of the class, and a call leaves a world of the class. No program is named here but for its namespace.
  What package votes answers: said, Count, All, Most.
  The steady walk (template Steady) behind a lid, so that no tactic looks into the goal by running it. No program is named here but for its namespace.
  What package votes answers: Heard.
  Votes and sheets that came in by value, as plain numbers.
-/
import Derived.Test.YtmmgaonlmpajbacGreatRows
import Derived.WalkKit
import Derived.WalkSpells
import Derived.WalkLawsBesides
import Derived.Handy
import Derived.Deep.MidRow
import Derived.Deep.RegionHeld
import Derived.BigQuiet
import Derived.Deep.QuietTactic
import Derived.ProofKit
import Derived.OpenShut
import Derived.ShutString
import Derived.ChangeOld
import Derived.Below
namespace Go.Proofs.YtmmgaonlmpajbacGreat
open Go.RowKit

theorem and3 (n : Int) : bits .and .i64 n 3 = n % 4 := by
  have h3 : (BitVec.ofInt 64 3).toNat = 2 ^ 2 - 1 := by decide
  have key : (BitVec.ofInt 64 n &&& BitVec.ofInt 64 3).toNat = (n % ((2 ^ 64 : Nat) : Int)).toNat % 2 ^ 2 := by
    rw [BitVec.toNat_and, BitVec.toNat_ofInt, h3, Nat.and_two_pow_sub_one_eq_mod]
  show IntKind.i64.wrap ((BitVec.ofInt 64 n &&& BitVec.ofInt 64 3).toNat : Nat) = n % 4
  rw [key, IntKind.wrap_i64]
  omega

def lead (h r : Int) : Int := (h + r) % 4

set_option maxHeartbeats 400000 in
theorem leader_any (h r : Int) (w : World) :
    Calls Tryz.prog 75 #[.int .i64 h, .int .i64 r] w fun e w' => e = .returned (.int .i64 (lead h r)) ∧ w' = w := by
  have a0 := and3 h
  have a1 := and3 r
  have a2 := and3 (h % 4 + r % 4)
  go_enter Tryz.func75, Tryz.ntmps75
  go_wp2
  go_ret
  exact ⟨rfl, rfl⟩

theorem ret_bool {a b : Bool} (h : a = b) : Ending.returned (.bool a) = .returned (.bool b) := by rw [h]
theorem ret_int {k : IntKind} {a b : Int} (h : a = b) : Ending.returned (.int k a) = .returned (.int k b) := by rw [h]

theorem bcell {W w1 : World} (hb : Below W.heap.size W w1) : (∀ b o, b < W.heap.size → w1.cell? ⟨b, o, none⟩ = W.cell? ⟨b, o, none⟩) ∧ (∀ b o, b < W.heap.size → w1.frozen? ⟨b, o, none⟩ = W.frozen? ⟨b, o, none⟩) :=
  ⟨fun b o h => hb.cell (p := ⟨b, o, none⟩) h, fun b o h => hb.frozen (p := ⟨b, o, none⟩) h⟩

theorem below_past {w w1 : World} {o : Obj} (hb : Below (w.alloc o).heap.size (w.alloc o) w1) : Below w.heap.size w w1 :=
  ((Below.refl _ _).alloc (Nat.le_refl _) o).trans (hb.mono (by simp))

def win (n a b : Int) : Bool := decide (a ≤ n ∧ n ≤ b)

set_option maxHeartbeats 400000 in
theorem within_any (n a b : Int) (w : World) :
    Calls Tryz.prog 32 #[.int .i64 n, .int .i64 a, .int .i64 b] w fun e w' => e = .returned (.bool (win n a b)) ∧ w' = w := by
  by_cases h1 : a ≤ n
  · go_enter Tryz.func32, Tryz.ntmps32
    go_wp2
    go_ret
    refine ⟨?_, rfl⟩
    simp [win, h1]
  · go_enter Tryz.func32, Tryz.ntmps32
    go_wp2
    go_ret
    refine ⟨?_, rfl⟩
    simp [win]; omega

def inb (k f h r v x : Int) : Bool :=
  win f 0 3 && (win h 0 3 && (win r 0 5 && (if k = 1 then win v 1 9 && win x (-1) (r - 1) else win v 0 9)))

set_option maxHeartbeats 400000 in
theorem bnode_any (n : Int) (w : World) :
    Calls Tryz.prog 13 #[.int .i64 n] w fun e w' => e = .returned (.bool (win n 0 3)) ∧ w' = w := by
  go_enter Tryz.func13, Tryz.ntmps13
  go_wp2_with (first | (go_at_call 32; refine (within_any _ _ _ _).mono ?_; rintro e w' ⟨rfl, rfl⟩))
  go_ret
  exact ⟨rfl, rfl⟩

set_option maxHeartbeats 400000 in
theorem bheight_any (n : Int) (w : World) :
    Calls Tryz.prog 87 #[.int .i64 n] w fun e w' => e = .returned (.bool (win n 0 3)) ∧ w' = w := by
  go_enter Tryz.func87, Tryz.ntmps87
  go_wp2_with (first | (go_at_call 32; refine (within_any _ _ _ _).mono ?_; rintro e w' ⟨rfl, rfl⟩))
  go_ret
  exact ⟨rfl, rfl⟩

set_option maxHeartbeats 400000 in
theorem bround_any (n : Int) (w : World) :
    Calls Tryz.prog 62 #[.int .i64 n] w fun e w' => e = .returned (.bool (win n 0 5)) ∧ w' = w := by
  go_enter Tryz.func62, Tryz.ntmps62
  go_wp2_with (first | (go_at_call 32; refine (within_any _ _ _ _).mono ?_; rintro e w' ⟨rfl, rfl⟩))
  go_ret
  exact ⟨rfl, rfl⟩

set_option maxHeartbeats 400000 in
theorem bvalue_any (n : Int) (w : World) :
    Calls Tryz.prog 53 #[.int .i64 n] w fun e w' => e = .returned (.bool (win n 1 9)) ∧ w' = w := by
  go_enter Tryz.func53, Tryz.ntmps53
  go_wp2_with (first | (go_at_call 32; refine (within_any _ _ _ _).mono ?_; rintro e w' ⟨rfl, rfl⟩))
  go_ret
  exact ⟨rfl, rfl⟩

set_option maxHeartbeats 1000000 in
theorem inBounds_any (k f h r v x : Int) (w : World) :
    Calls Tryz.prog 67 #[.agg #[.int .i64 k, .int .i64 f, .int .i64 h, .int .i64 r, .int .i64 v, .int .i64 x]] w fun e w' => e = .returned (.bool (inb k f h r v x)) ∧ Below w.heap.size w w' := by
  have hcase : (0 ≤ r ∧ r ≤ 5 ∧ win r 0 5 = true) ∨ win r 0 5 = false := by
    by_cases hr : 0 ≤ r ∧ r ≤ 5
    · exact Or.inl ⟨hr.1, hr.2, by simp [win, hr]⟩
    · exact Or.inr (by simp only [win, hr, decide_false])
  rcases hcase with ⟨hr0, hr5, hw⟩ | hw
  all_goals go_enter Tryz.func67, Tryz.ntmps67
  all_goals go_wp2_with (first | (go_at_call 13; refine (bnode_any _ _).mono ?_; rintro e w' ⟨rfl, rfl⟩) | (go_at_call 87; refine (bheight_any _ _).mono ?_; rintro e w' ⟨rfl, rfl⟩) | (go_at_call 62; refine (bround_any _ _).mono ?_; rintro e w' ⟨rfl, rfl⟩) | (go_at_call 53; refine (bvalue_any _ _).mono ?_; rintro e w' ⟨rfl, rfl⟩) | (go_at_call 32; refine (within_any _ _ _ _).mono ?_; rintro e w' ⟨rfl, rfl⟩))
  all_goals (go_ret; refine ⟨ret_bool ?_, by go_grown⟩)
  all_goals simp_all [inb]

def goodC (k f h r v x : Int) : Int :=
  if win k 1 3 = false then 3 else if inb k f h r v x = false then 2 else if k ≠ 1 ∧ x ≠ 0 then 1 else 0

set_option maxHeartbeats 1000000 in
theorem good_any (k f h r v x : Int) (w : World) :
    Calls Tryz.prog 44 #[.agg #[.int .i64 k, .int .i64 f, .int .i64 h, .int .i64 r, .int .i64 v, .int .i64 x]] w fun e w' => e = .returned (.int .i64 (goodC k f h r v x)) ∧ Below w.heap.size w w' := by
  go_enter Tryz.func44, Tryz.ntmps44
  go_wp2_with (first | (go_at_call 32; refine (within_any _ _ _ _).mono ?_; rintro e w' ⟨rfl, rfl⟩) | (go_at_call 67; refine (inBounds_any _ _ _ _ _ _ _).mono ?_; rintro e w1 ⟨rfl, hb⟩; obtain ⟨hc, hf⟩ := bcell hb))
  all_goals go_ret
  all_goals refine ⟨ret_int ?_, ?_⟩
  all_goals first | exact below_past hb | go_grown | skip
  all_goals simp_all [goodC]
end Go.Proofs.YtmmgaonlmpajbacGreat
namespace Go.Proofs.YtmmgaonlmpajbacGreat
open Go.RowKit

/-- What a sheet holds: calls, wishes and promises, by round and node. -/
structure Sh where
  is : Nat → Bool
  val : Nat → Int
  vld : Nat → Int
  wi : Nat → Nat → Int
  pr : Nat → Nat → Int

/-- The cell at place j. -/
def cellAt (S : Sh) (j : Nat) : Value :=
  if j < 18 then (if j % 3 = 0 then .bool (S.is (j / 3)) else if j % 3 = 1 then .int .i64 (S.val (j / 3)) else .int .i64 (S.vld (j / 3)))
  else if j < 42 then .int .i64 (S.wi ((j - 18) / 4) ((j - 18) % 4)) else .int .i64 (S.pr ((j - 42) / 4) ((j - 42) % 4))

def Sh.cells (S : Sh) : Array Value := ((List.range 66).map (cellAt S)).toArray

theorem cells_size (S : Sh) : S.cells.size = 66 := by simp [Sh.cells]
theorem cells_at (S : Sh) (j : Nat) (hj : j < 66) : S.cells[j]? = some (cellAt S j) := by simp [Sh.cells, hj]

theorem cellAt_is (S : Sh) (r : Nat) (h : r < 6) : cellAt S (r * 3) = .bool (S.is r) := by
  unfold cellAt; rw [if_pos (by omega), if_pos (by omega), show r * 3 / 3 = r by omega]
theorem cellAt_val (S : Sh) (r : Nat) (h : r < 6) : cellAt S (r * 3 + 1) = .int .i64 (S.val r) := by
  unfold cellAt; rw [if_pos (by omega), if_neg (by omega), if_pos (by omega), show (r * 3 + 1) / 3 = r by omega]
theorem cellAt_vld (S : Sh) (r : Nat) (h : r < 6) : cellAt S (r * 3 + 2) = .int .i64 (S.vld r) := by
  unfold cellAt; rw [if_pos (by omega), if_neg (by omega), if_neg (by omega), show (r * 3 + 2) / 3 = r by omega]
theorem cellAt_wi (S : Sh) (r i : Nat) (h : r < 6) (hi : i < 4) : cellAt S (18 + r * 4 + i) = .int .i64 (S.wi r i) := by
  unfold cellAt; rw [if_neg (by omega), if_pos (by omega), show (18 + r * 4 + i - 18) / 4 = r by omega, show (18 + r * 4 + i - 18) % 4 = i by omega]
theorem cellAt_pr (S : Sh) (r i : Nat) (h : r < 6) (hi : i < 4) : cellAt S (42 + r * 4 + i) = .int .i64 (S.pr r i) := by
  unfold cellAt; rw [if_neg (by omega), if_neg (by omega), show (42 + r * 4 + i - 42) / 4 = r by omega, show (42 + r * 4 + i - 42) % 4 = i by omega]

/-- The block b holds the sheet S. -/
def SheetAt (W : World) (b : Nat) (S : Sh) : Prop := W.heap[b]? = some (.cells S.cells 46)

theorem SheetAt.cell {W : World} {b : Nat} {S : Sh} (h : SheetAt W b S) (j : Nat) (hj : j < 66) : W.cell? ⟨b, j, none⟩ = some (cellAt S j) := by
  rw [cell_of_row W b j S.cells 46 (0, 0) h, cells_at S j hj]
theorem SheetAt.wi {W : World} {b : Nat} {S : Sh} (h : SheetAt W b S) (r i : Nat) (hr : r < 6) (hi : i < 4) : W.cell? ⟨b, 18 + r * 4 + i, none⟩ = some (.int .i64 (S.wi r i)) := by
  rw [h.cell _ (by omega), cellAt_wi S r i hr hi]
theorem SheetAt.pr {W : World} {b : Nat} {S : Sh} (h : SheetAt W b S) (r i : Nat) (hr : r < 6) (hi : i < 4) : W.cell? ⟨b, 42 + r * 4 + i, none⟩ = some (.int .i64 (S.pr r i)) := by
  rw [h.cell _ (by omega), cellAt_pr S r i hr hi]
theorem sheet_new (w : World) (S : Sh) : SheetAt (w.alloc (.cells S.cells 46)) w.heap.size S := heap_alloc_new w _
theorem sheet_below {W W' : World} {b : Nat} {S : Sh} (h : SheetAt W b S) (hb : Below W.heap.size W W') : SheetAt W' b S := by
  have hlt : b < W.heap.size := by
    by_cases hlt : b < W.heap.size
    · exact hlt
    · unfold SheetAt at h; rw [Array.getElem?_eq_none (by omega)] at h; cases h
  unfold SheetAt; rw [hb.block b hlt]; exact h

theorem cells_wi (S : Sh) (r i : Nat) (hr : r < 6) (hi : i < 4) : S.cells[18 + r * 4 + i]? = some (.int .i64 (S.wi r i)) := by
  rw [cells_at S _ (by omega), cellAt_wi S r i hr hi]
theorem cells_pr (S : Sh) (r i : Nat) (hr : r < 6) (hi : i < 4) : S.cells[42 + r * 4 + i]? = some (.int .i64 (S.pr r i)) := by
  rw [cells_at S _ (by omega), cellAt_pr S r i hr hi]
theorem cells_is (S : Sh) (r : Nat) (hr : r < 6) : S.cells[r * 3]? = some (.bool (S.is r)) := by
  rw [cells_at S _ (by omega), cellAt_is S r hr]
theorem cells_val (S : Sh) (r : Nat) (hr : r < 6) : S.cells[r * 3 + 1]? = some (.int .i64 (S.val r)) := by
  rw [cells_at S _ (by omega), cellAt_val S r hr]
theorem cells_vld (S : Sh) (r : Nat) (hr : r < 6) : S.cells[r * 3 + 2]? = some (.int .i64 (S.vld r)) := by
  rw [cells_at S _ (by omega), cellAt_vld S r hr]
end Go.Proofs.YtmmgaonlmpajbacGreat
namespace Go.Proofs.YtmmgaonlmpajbacGreat
open Go.RowKit

set_option maxHeartbeats 400000 in
theorem rwithin_any (n a b : Int) (w : World) :
    Calls Tryz.prog 15 #[.int .i64 n, .int .i64 a, .int .i64 b] w fun e w' => e = .returned (.bool (win n a b)) ∧ w' = w := by
  by_cases h1 : a ≤ n
  · go_enter Tryz.func15, Tryz.ntmps15
    go_wp2
    go_ret
    refine ⟨?_, rfl⟩
    simp [win, h1]
  · go_enter Tryz.func15, Tryz.ntmps15
    go_wp2
    go_ret
    refine ⟨?_, rfl⟩
    simp [win]; omega

set_option maxHeartbeats 2000000 in
theorem wordError_any (k f h r v x : Int) (w : World) :
    Calls Tryz.prog 25 #[.agg #[.int .i64 k, .int .i64 f, .int .i64 h, .int .i64 r, .int .i64 v, .int .i64 x]] w fun e w' => e = .returned (.int .i64 (goodC k f h r v x)) ∧ Below w.heap.size w w' := by
  by_cases hr5 : r ≤ 5
  all_goals go_enter Tryz.func25, Tryz.ntmps25
  all_goals go_wp2
  all_goals (go_ret; refine ⟨ret_int ?_, by go_grown⟩)
  all_goals (simp_all [goodC, inb, win] <;> omega)

theorem tmod4 (n : Int) : n.tmod 4 = if 0 ≤ n then n % 4 else -((-n) % 4) := by
  by_cases h : 0 ≤ n
  · rw [if_pos h]; exact Int.tmod_eq_emod_of_nonneg h
  · rw [if_neg h]
    have h1 := Int.neg_tmod (-n) 4
    rw [Int.neg_neg] at h1
    rw [h1, Int.tmod_eq_emod_of_nonneg (by omega)]

theorem low_eq (n : Int) : (wrap64 (n.tmod 4 + 4)).tmod 4 = n % 4 := by
  have hb : -3 ≤ n.tmod 4 ∧ n.tmod 4 ≤ 3 := by rw [tmod4]; split <;> omega
  rw [IntWalk.wrap64_in _ (by omega), tmod4, if_pos (by omega), tmod4]
  split <;> omega

set_option maxHeartbeats 400000 in
theorem low_any (n : Int) (w : World) :
    Calls Tryz.prog 89 #[.int .i64 n] w fun e w' => e = .returned (.int .i64 (n % 4)) ∧ w' = w := by
  go_enter Tryz.func89, Tryz.ntmps89
  go_wp2
  go_ret
  exact ⟨ret_int (low_eq n), rfl⟩

set_option maxHeartbeats 400000 in
theorem leaderOf_any (h r : Int) (w : World) :
    Calls Tryz.prog 71 #[.int .i64 h, .int .i64 r] w fun e w' => e = .returned (.int .i64 (lead h r)) ∧ w' = w := by
  go_enter Tryz.func71, Tryz.ntmps71
  go_wp2_with (first | (go_at_call 89; refine (low_any _ _).mono ?_; rintro e w' ⟨rfl, rfl⟩))
  go_ret
  exact ⟨ret_int (by unfold lead; omega), rfl⟩
end Go.Proofs.YtmmgaonlmpajbacGreat
namespace Go.Proofs.YtmmgaonlmpajbacGreat
open Go.RowKit

def okCall (S : Sh) (r : Nat) : Bool := if S.is r then win (S.val r) 1 9 && win (S.vld r) (-1) ((r : Int) - 1) else S.val r == 0 && S.vld r == 0
def okVote (S : Sh) (r i : Nat) : Bool := win (S.wi r i) 0 10 && win (S.pr r i) 0 10
def okVotes (S : Sh) (r : Nat) : Nat → Bool
  | 0 => true
  | n + 1 => okVotes S r n && okVote S r n
def okTo (S : Sh) : Nat → Bool
  | 0 => true
  | n + 1 => okTo S n && okCall S n && okVotes S n 4
/-- Is it a sheet? -/
def goodS (S : Sh) : Bool := okTo S 6

theorem SheetAt.is {W : World} {b : Nat} {S : Sh} (h : SheetAt W b S) (r : Nat) (hr : r < 6) : W.cell? ⟨b, r * 3, none⟩ = some (.bool (S.is r)) := by
  rw [h.cell _ (by omega), cellAt_is S r hr]
theorem SheetAt.val {W : World} {b : Nat} {S : Sh} (h : SheetAt W b S) (r : Nat) (hr : r < 6) : W.cell? ⟨b, r * 3 + 1, none⟩ = some (.int .i64 (S.val r)) := by
  rw [h.cell _ (by omega), cellAt_val S r hr]
theorem SheetAt.vld {W : World} {b : Nat} {S : Sh} (h : SheetAt W b S) (r : Nat) (hr : r < 6) : W.cell? ⟨b, r * 3 + 2, none⟩ = some (.int .i64 (S.vld r)) := by
  rw [h.cell _ (by omega), cellAt_vld S r hr]

def okIn (S : Sh) (k m : Nat) : Bool := okTo S k && okCall S k && okVotes S k m
theorem okIn_succ (S : Sh) (k m : Nat) : okIn S k (m + 1) = (okIn S k m && okVote S k m) := by
  simp [okIn, okVotes, Bool.and_assoc]
theorem SheetAt.lt {W : World} {b : Nat} {S : Sh} (h : SheetAt W b S) : b < W.heap.size := World.block_lt_of_cell? W _ (h.cell 0 (by omega))

set_option maxHeartbeats 2000000 in
theorem isSheet_any (S : Sh) (w : World) :
    Calls Tryz.prog 88 #[.agg S.cells] w fun e w' => e = .returned (.bool (goodS S)) ∧ Below w.heap.size w w' := by
  have hS0 := sheet_new w S
  go_enter Tryz.func88, Tryz.ntmps88
  go_wp2
  go_loopw [3, 7] (fun ok i W => ∃ k : Nat, k ≤ 6 ∧ i = .int .i64 (k : Int) ∧ ok = .bool (okTo S k) ∧ SheetAt W w.heap.size S ∧ Below w.heap.size w W) (fun _ i _ => 6 - (intOf i).toNat)
  case atStart => exact ⟨0, by omega, rfl, rfl, hS0, by go_grown⟩
  case round =>
    obtain ⟨k, hk, rfl, rfl, hS, hB⟩ := hrel
    by_cases hlt : k < 6
    · have c0 := hS.is k hlt
      have c1 := hS.val k hlt
      have c2 := hS.vld k hlt
      go_wp2_with (first | (go_at_call 15; refine (rwithin_any _ _ _ _).mono ?_; rintro e w' ⟨rfl, rfl⟩))
      all_goals
        go_loop [3, 40] (fun ok i => ∃ m : Nat, m ≤ 4 ∧ i = .int .i64 (m : Int) ∧ ok = .bool (okIn S k m)) (fun _ i => 4 - (intOf i).toNat)
        case atStart => exact ⟨0, by omega, rfl, congrArg Value.bool (by simp_all [okIn, okCall, okVotes])⟩
        case round =>
          obtain ⟨m, hm, rfl, rfl⟩ := hrel
          have hz := hS.lt
          by_cases hml : m < 4
          · have c3 := hS.wi k m hlt hml
            have c4 := hS.pr k m hlt hml
            have HS : Hid (okIn S k (m + 1) = (okIn S k m && okVote S k m)) := okIn_succ S k m
            go_wp2_with (first | (go_at_call 15; refine (rwithin_any _ _ _ _).mono ?_; rintro e w' ⟨rfl, rfl⟩))
            all_goals
              go_round
              case rel => exact ⟨m + 1, by omega, by go_num, congrArg Value.bool (by rw [HS.out]; simp_all [okVote])⟩
              case measure => simp [intOf]; omega
          · go_wp2
            go_roundw
            case rel => exact ⟨k + 1, by omega, by go_num, congrArg Value.bool (by rw [show m = 4 by omega]; rfl), sheet_below hS (by go_grown), by go_grown⟩
            case measure => simp [intOf]; omega
    · go_wp2
      go_ret
      exact ⟨ret_bool (by unfold goodS; rw [show k = 6 by omega]), hB⟩
end Go.Proofs.YtmmgaonlmpajbacGreat
namespace Go.Proofs.YtmmgaonlmpajbacGreat
open Go.RowKit

/-- The four cells of votes. -/
def vcells (V : Nat → Int) : Array Value := ((List.range 4).map fun i => Value.int .i64 (V i)).toArray
theorem vcells_at (V : Nat → Int) (k : Nat) (h : k < 4) : (vcells V)[k]? = some (.int .i64 (V k)) := by simp [vcells, h]
theorem vcells_eq (V : Nat → Int) : vcells V = #[.int .i64 (V 0), .int .i64 (V 1), .int .i64 (V 2), .int .i64 (V 3)] := rfl

/-- Each of the four is a number of 64 bits. -/
def VBd (V : Nat → Int) : Prop := ∀ i, i < 4 → -9223372036854775808 ≤ V i ∧ V i ≤ 9223372036854775807

/-- How many of the first n have said something that p holds of. -/
def cntTo (V : Nat → Int) (p : Int → Bool) : Nat → Int
  | 0 => 0
  | n + 1 => cntTo V p n + if 1 ≤ V n ∧ p (V n - 1) = true then 1 else 0

theorem cntTo_le (V : Nat → Int) (p : Int → Bool) (n : Nat) : 0 ≤ cntTo V p n ∧ cntTo V p n ≤ n := by
  induction n with
  | zero => simp [cntTo]
  | succ n ih => simp only [cntTo]; split <;> omega

set_option maxHeartbeats 400000 in
theorem all1_any (x : Int) (w : World) : Calls Tryz.prog 74 #[.int .i64 x] w fun e w' => e = .returned (.bool true) ∧ w' = w := by
  go_enter Tryz.func74, Tryz.ntmps74
  go_wp2
  go_ret
  exact ⟨rfl, rfl⟩

set_option maxHeartbeats 1000000 in
theorem countOf_all (V : Nat → Int) (hV : VBd V) (w : World) :
    Calls Tryz.prog 73 #[.agg (vcells V), .func (.func 74) #[] #[]] w fun e w' => e = .returned (.int .i64 (cntTo V (fun _ => true) 4)) ∧ Below w.heap.size w w' := by
  go_enter Tryz.func73, Tryz.ntmps73
  go_wp2
  go_loop [5, 7] (fun n i => ∃ k : Nat, k ≤ 4 ∧ i = .int .i64 (k : Int) ∧ n = .int .i64 (cntTo V (fun _ => true) k)) (fun _ i => 4 - (intOf i).toNat)
  case atStart => exact ⟨0, by omega, rfl, rfl⟩
  case round =>
    obtain ⟨k, hk, rfl, rfl⟩ := hrel
    have hd := cntTo_le V (fun _ => true) k
    by_cases hlt : k < 4
    · have c0 := vcells_at V k hlt
      obtain ⟨hlo, hhi⟩ := hV k hlt
      have HS : Hid (cntTo V (fun _ => true) (k + 1) = cntTo V (fun _ => true) k + if 1 ≤ V k ∧ (fun _ : Int => true) (V k - 1) = true then 1 else 0) := rfl
      clear hV
      go_wp2_with (first | (go_at_call 74; refine (all1_any _ _).mono ?_; rintro e w' ⟨rfl, rfl⟩))
      all_goals
        go_round
        case rel => exact ⟨k + 1, by omega, by go_num, by rw [HS.out]; first | rw [if_pos (by simp; omega)] | (rw [if_neg (by simp; omega)]; go_num)⟩
        case measure => simp [intOf]; omega
    · go_wp2
      go_ret
      exact ⟨ret_int (by rw [show k = 4 by omega]), by go_grown⟩

set_option maxHeartbeats 400000 in
theorem is_any35 (x value : Int) (b : Nat) (w : World) (hp : w.cell? ⟨b, 0, none⟩ = some (.int .i64 value)) : Calls Tryz.prog 99 #[.int .i64 x, .pointer (some ⟨b, 0, none⟩)] w fun e w' => e = .returned (.bool (x == value)) ∧ w' = w := by
  go_enter Tryz.func99, Tryz.ntmps99
  go_wp2
  go_ret
  exact ⟨rfl, rfl⟩

set_option maxHeartbeats 1000000 in
theorem countOf_is35 (V : Nat → Int) (hV : VBd V) (value : Int) (b : Nat) (w : World) (hp : w.cell? ⟨b, 0, none⟩ = some (.int .i64 value)) :
    Calls Tryz.prog 73 #[.agg (vcells V), .func (.func 99) #[] #[.pointer (some ⟨b, 0, none⟩)]] w fun e w' => e = .returned (.int .i64 (cntTo V (fun x => x == value) 4)) ∧ Below w.heap.size w w' := by
  have hb : b < w.heap.size := World.block_lt_of_cell? w _ hp
  have hp1 : (w.alloc (.cells (vcells V) 43)).cell? ⟨b, 0, none⟩ = some (.int .i64 value) := by rw [World.cell?_alloc_lt _ _ _ hb]; exact hp
  clear hp
  go_enter Tryz.func73, Tryz.ntmps73
  go_wp2
  go_loop [5, 7] (fun n i => ∃ k : Nat, k ≤ 4 ∧ i = .int .i64 (k : Int) ∧ n = .int .i64 (cntTo V (fun x => x == value) k)) (fun _ i => 4 - (intOf i).toNat)
  case atStart => exact ⟨0, by omega, rfl, rfl⟩
  case round =>
    obtain ⟨k, hk, rfl, rfl⟩ := hrel
    have hd := cntTo_le V (fun x => x == value) k
    by_cases hlt : k < 4
    · have c0 := vcells_at V k hlt
      obtain ⟨hlo, hhi⟩ := hV k hlt
      have HS : Hid (cntTo V (fun x => x == value) (k + 1) = cntTo V (fun x => x == value) k + if 1 ≤ V k ∧ (fun x : Int => x == value) (V k - 1) = true then 1 else 0) := rfl
      clear hV
      by_cases h1 : 1 ≤ V k
      · by_cases h2 : V k - 1 = value
        · have h2' : (V k - 1 == value) = true := by simp [h2]
          have HV : Hid (V k - 1 = value) := h2
          clear h2
          go_wp2_with (first | (go_at_call 99; refine (is_any35 _ _ _ _ hp1).mono ?_; rintro e w' ⟨rfl, rfl⟩))
          go_round
          case rel => exact ⟨k + 1, by omega, by go_num, by rw [HS.out, if_pos ⟨h1, h2'⟩]⟩
          case measure => simp [intOf]; omega
        · have h2' : (V k - 1 == value) = false := by simp [h2]
          clear h2
          go_wp2_with (first | (go_at_call 99; refine (is_any35 _ _ _ _ hp1).mono ?_; rintro e w' ⟨rfl, rfl⟩))
          go_round
          case rel => exact ⟨k + 1, by omega, by go_num, by rw [HS.out, if_neg (fun hh => by rw [h2'] at hh; exact Bool.false_ne_true hh.2)]; go_num⟩
          case measure => simp [intOf]; omega
      · go_wp2
        go_round
        case rel => exact ⟨k + 1, by omega, by go_num, by rw [HS.out, if_neg (fun hh => h1 hh.1)]; go_num⟩
        case measure => simp [intOf]; omega
    · go_wp2
      go_ret
      exact ⟨ret_int (by rw [show k = 4 by omega]), by go_grown⟩

/-- How many have said a value; how many have said something. -/
def cntV (V : Nat → Int) (value : Int) : Int := cntTo V (fun x => x == value) 4
def allV (V : Nat → Int) : Int := cntTo V (fun _ => true) 4

set_option maxHeartbeats 1000000 in
theorem allOf_any (V : Nat → Int) (hV : VBd V) (w : World) :
    Calls Tryz.prog 51 #[.agg (vcells V)] w fun e w' => e = .returned (.int .i64 (allV V)) ∧ Below w.heap.size w w' := by
  go_enter Tryz.func51, Tryz.ntmps51
  go_wp2_with (first | (refine wpList_load_row rfl 43 _ rfl w.heap.size rfl 43 (vcells V) (0, 0) _ (heap_alloc_new w _) Tryz.underlying43 rfl (by kernel_rfl) ?_) | (go_at_call 73; refine (countOf_all V hV _).mono ?_; rintro e w' ⟨rfl, hb⟩))
  go_ret
  exact ⟨rfl, below_past hb⟩

set_option maxHeartbeats 1000000 in
theorem said_any (V : Nat → Int) (hV : VBd V) (value : Int) (w : World) :
    Calls Tryz.prog 90 #[.agg (vcells V), .int .i64 value] w fun e w' => e = .returned (.int .i64 (cntV V value)) ∧ Below w.heap.size w w' := by
  go_enter Tryz.func90, Tryz.ntmps90
  go_wp2_with (first | (refine wpList_load_row rfl 43 _ rfl w.heap.size rfl 43 (vcells V) (0, 0) _ (heap_alloc2_old w _ _) Tryz.underlying43 rfl (by kernel_rfl) ?_) | (go_at_call 73; refine (countOf_is35 V hV value (w.heap.size + 1) _ (by simp [go_sem])).mono ?_; rintro e w' ⟨rfl, hb⟩))
  go_ret
  exact ⟨rfl, below_past (below_past hb)⟩

/-- What a quorum has said. -/
def mostV (V : Nat → Int) : Int × Bool :=
  if win (V 0) 1 10 = true ∧ 3 ≤ cntV V (V 0 - 1) then (V 0 - 1, true) else if win (V 1) 1 10 = true ∧ 3 ≤ cntV V (V 1 - 1) then (V 1 - 1, true) else (0, false)

theorem win_less (x : Int) (h0 : -9223372036854775808 ≤ x) (h1 : x ≤ 9223372036854775807) : win (wrap64 (x - 1)) 0 9 = win x 1 10 := by
  have : wrap64 (x - 1) = x - 1 ∨ (x = -9223372036854775808 ∧ wrap64 (x - 1) = 9223372036854775807) := by unfold wrap64; omega
  rcases this with h | ⟨rfl, h⟩
  · rw [h]; unfold win; rw [decide_eq_decide]; omega
  · rw [h]; rfl

theorem bel_trans {a b c : World} (h : Below a.heap.size a b) (k : Below b.heap.size b c) : Below a.heap.size a c := h.trans (k.mono h.size)

theorem said_lit (V : Nat → Int) (hV : VBd V) (value : Int) (w : World) :
    Calls Tryz.prog 90 #[.agg #[.int .i64 (V 0), .int .i64 (V 1), .int .i64 (V 2), .int .i64 (V 3)], .int .i64 value] w fun e w' => e = .returned (.int .i64 (cntV V value)) ∧ Below w.heap.size w w' := said_any V hV value w

theorem wrap_of_win {x : Int} (h0 : -9223372036854775808 ≤ x) (h1 : x ≤ 9223372036854775807) (h : win x 1 10 = true) : wrap64 (x - 1) = x - 1 := by
  simp [win] at h; unfold wrap64; omega

theorem most_a {V : Nat → Int} (hw : win (V 0) 1 10 = true → wrap64 (V 0 - 1) = V 0 - 1) (h : win (V 0) 1 10 = true) (c : 3 ≤ cntV V (wrap64 (V 0 - 1))) : mostV V = (wrap64 (V 0 - 1), true) := by
  rw [hw h] at c ⊢; unfold mostV; rw [if_pos ⟨h, c⟩]
theorem most_0 {V : Nat → Int} (hw0 : win (V 0) 1 10 = true → wrap64 (V 0 - 1) = V 0 - 1) (h0 : ¬ win (V 0) 1 10 = true ∨ cntV V (wrap64 (V 0 - 1)) < 3) : ¬ (win (V 0) 1 10 = true ∧ 3 ≤ cntV V (V 0 - 1)) := by
  rintro ⟨a, b⟩
  rcases h0 with h0 | h0
  · exact h0 a
  · rw [hw0 a] at h0; omega
theorem most_b {V : Nat → Int} (hw0 : win (V 0) 1 10 = true → wrap64 (V 0 - 1) = V 0 - 1) (hw1 : win (V 1) 1 10 = true → wrap64 (V 1 - 1) = V 1 - 1) (h0 : ¬ win (V 0) 1 10 = true ∨ cntV V (wrap64 (V 0 - 1)) < 3)
    (h : win (V 1) 1 10 = true) (c : 3 ≤ cntV V (wrap64 (V 1 - 1))) : mostV V = (wrap64 (V 1 - 1), true) := by
  rw [hw1 h] at c ⊢; unfold mostV; rw [if_neg (most_0 hw0 h0), if_pos ⟨h, c⟩]
theorem most_c {V : Nat → Int} (hw0 : win (V 0) 1 10 = true → wrap64 (V 0 - 1) = V 0 - 1) (hw1 : win (V 1) 1 10 = true → wrap64 (V 1 - 1) = V 1 - 1) (h0 : ¬ win (V 0) 1 10 = true ∨ cntV V (wrap64 (V 0 - 1)) < 3)
    (h1 : ¬ win (V 1) 1 10 = true ∨ cntV V (wrap64 (V 1 - 1)) < 3) : mostV V = (0, false) := by
  have h1' : ¬ (win (V 1) 1 10 = true ∧ 3 ≤ cntV V (V 1 - 1)) := by
    rintro ⟨a, b⟩
    rcases h1 with h1 | h1
    · exact h1 a
    · rw [hw1 a] at h1; omega
  unfold mostV; rw [if_neg (most_0 hw0 h0), if_neg h1']
end Go.Proofs.YtmmgaonlmpajbacGreat
namespace Go.Proofs.YtmmgaonlmpajbacGreat
open Go.RowKit

/-- Block g holds the cells C, of type t; none is frozen. -/
def Blk (W : World) (g : Nat) (C : Array Value) (t : TypeId) : Prop := W.heap[g]? = some (.cells C t)

theorem Blk.lt {W : World} {g : Nat} {C : Array Value} {t : TypeId} (h : Blk W g C t) : g < W.heap.size := by
  by_cases hlt : g < W.heap.size
  · exact hlt
  · unfold Blk at h; rw [Array.getElem?_eq_none (by omega)] at h; cases h
theorem Blk.cell {W : World} {g : Nat} {C : Array Value} {t : TypeId} (h : Blk W g C t) (j : Nat) : W.cell? ⟨g, j, none⟩ = C[j]? := cell_of_row W g j C t (0, 0) h
theorem Blk.free {W : World} {g : Nat} {C : Array Value} {t : TypeId} (h : Blk W g C t) (j : Nat) : W.frozen? ⟨g, j, none⟩ = false := frozen_of_row W g j C t h
theorem Blk.new (w : World) (C : Array Value) (t : TypeId) : Blk (w.alloc (.cells C t)) w.heap.size C t := heap_alloc_new w _
theorem Blk.new1 (w : World) (o : Obj) (C : Array Value) (t : TypeId) : Blk ((w.alloc o).alloc (.cells C t)) (w.heap.size + 1) C t := by
  have := Blk.new (w.alloc o) C t; rwa [World.size_alloc] at this
theorem Blk.new2 (w : World) (o o' : Obj) (C : Array Value) (t : TypeId) : Blk (((w.alloc o).alloc o').alloc (.cells C t)) (w.heap.size + 1 + 1) C t := by
  have := Blk.new ((w.alloc o).alloc o') C t; rwa [World.size_alloc, World.size_alloc] at this
theorem Blk.alloc {W : World} {g : Nat} {C : Array Value} {t : TypeId} (h : Blk W g C t) (o : Obj) : Blk (W.alloc o) g C t := by
  unfold Blk; rw [Below.heap_alloc W o g h.lt]; exact h
theorem Blk.below {W W' : World} {g : Nat} {C : Array Value} {t : TypeId} (h : Blk W g C t) (hb : Below W.heap.size W W') : Blk W' g C t := by
  unfold Blk; rw [hb.block g h.lt]; exact h
theorem Blk.drew {W : World} {g : Nat} {C : Array Value} {t : TypeId} (h : Blk W g C t) : Blk W.drew g C t := h
theorem Blk.drewN {W : World} {g : Nat} {C : Array Value} {t : TypeId} (h : Blk W g C t) (n : Nat) : Blk (W.drewN n) g C t := h
theorem below_drewN' {B : Nat} {a W : World} (h : Below B a W) (n : Nat) : Below B a (W.drewN n) := ⟨h.os, h.tape, h.output, h.size, h.block⟩
theorem Blk.there {W : World} {g : Nat} {C : Array Value} {t : TypeId} (h : Blk W g C t) : W.there g 0 C.size := fun j hj =>
  ⟨by rw [Nat.zero_add, h.cell j, Array.getElem?_eq_getElem hj]; rfl, by rw [Nat.zero_add]; exact h.free j⟩
theorem Blk.range {W : World} {g : Nat} {C : Array Value} {t : TypeId} (h : Blk W g C t) : W.rangeAt g 0 C.toList := fun j v hv => by
  rw [Nat.zero_add, h.cell j]; simpa using hv
theorem Blk.setCell {W : World} {g : Nat} {C : Array Value} {t : TypeId} (h : Blk W g C t) (j : Nat) (v : Value) : Blk (W.setCell ⟨g, j, none⟩ v) g (C.setIfInBounds j v) t := by
  unfold Blk; rw [heap_setCell_same W g j C t v h]
theorem Blk.setCell_other {W : World} {g : Nat} {C : Array Value} {t : TypeId} (h : Blk W g C t) (a : Addr) (v : Value) (ha : g ≠ a.block) : Blk (W.setCell a v) g C t := by
  unfold Blk; rw [heap_setCell_other W a g v ha]; exact h

theorem Blk.setCells_gen {g : Nat} {t : TypeId} : ∀ (vs : List Value) (o : Nat) (W : World) (A B : List Value), Blk W g (A ++ B).toArray t → A.length = o → B.length = vs.length →
    Blk (W.setCells g o vs) g (A ++ vs).toArray t
  | [], o, W, A, B, h, _, hB => by
    have : B = [] := List.eq_nil_of_length_eq_zero hB
    subst this
    exact h
  | v :: vs, o, W, A, B, h, hA, hB => by
    match B, hB with
    | b :: B, hB =>
      have h1 := h.setCell o v
      have e : ((A ++ b :: B).toArray.setIfInBounds o v) = ((A ++ [v]) ++ B).toArray := by
        subst hA
        simp
      rw [e] at h1
      have := Blk.setCells_gen vs (o + 1) (W.setCell ⟨g, o, none⟩ v) (A ++ [v]) B h1 (by simp [hA]) (by simpa using hB)
      simpa [World.setCells] using this

theorem Blk.setAll {W : World} {g : Nat} {C : Array Value} {t : TypeId} (h : Blk W g C t) (D : Array Value) (hs : C.size = D.size) : Blk (W.setCells g 0 D.toList) g D t := by
  have := Blk.setCells_gen (g := g) (t := t) D.toList 0 W [] C.toList (by simpa using h) rfl (by simpa using hs)
  simpa using this

theorem Below.setCells' {B : Nat} {a : World} {g : Nat} (hg : B ≤ g) : ∀ (vs : List Value) (o : Nat) (W : World), Below B a W → Below B a (W.setCells g o vs)
  | [], _, _, h => h
  | v :: vs, o, W, h => Below.setCells' hg vs (o + 1) (W.setCell ⟨g, o, none⟩ v) (h.setCell hg v)

theorem Blk.setCells_other {g g' : Nat} {C : Array Value} {t : TypeId} (hne : g ≠ g') : ∀ (vs : List Value) (o : Nat) (W : World), Blk W g C t → Blk (W.setCells g' o vs) g C t
  | [], _, _, h => h
  | v :: vs, o, W, h => Blk.setCells_other hne vs (o + 1) (W.setCell ⟨g', o, none⟩ v) (h.setCell_other _ v hne)

theorem size_setCells (g : Nat) : ∀ (vs : List Value) (o : Nat) (W : World), (W.setCells g o vs).heap.size = W.heap.size
  | [], _, _ => rfl
  | v :: vs, o, W => by rw [World.setCells, size_setCells g vs (o + 1)]; simp

/-- What a store into block g keeps. -/
structure Kept (g : Nat) (w w' : World) : Prop where
  blk : ∀ g' C t, g' ≠ g → Blk w g' C t → Blk w' g' C t
  bel : ∀ B a, B ≤ g → Below B a w → Below B a w'
  size : w'.heap.size = w.heap.size

theorem kept_setCells (g : Nat) (vs : List Value) (o : Nat) (W : World) : Kept g W (W.setCells g o vs) :=
  ⟨fun _ _ _ hne h => Blk.setCells_other hne vs o W h, fun _ _ hg h => Below.setCells' hg vs o W h, size_setCells g vs o W⟩
theorem kept_setCell (g j : Nat) (v : Value) (W : World) : Kept g W (W.setCell ⟨g, j, none⟩ v) :=
  ⟨fun _ _ _ hne h => h.setCell_other _ v hne, fun _ _ hg h => h.setCell hg v, by simp⟩

section
variable {P : Program}
/-- A whole block is stored over: the world behind is a letter. -/
theorem wpList_store_blk {ops : Array Oper} {rest : List Oper} {op : Oper} {a : Act} {w : World} {Q : Exit → Act → World → Prop} (hgd : op.guard = none) (ty : TypeId) (x y : Operand) (ho : op.op = .store ty x y)
    (g : Nat) (C D : Array Value) (t : TypeId) (hx : a.eval x = .pointer (some ⟨g, 0, none⟩)) (hy : a.eval y = .agg D) (hB : Blk w g C t) (hs : C.size = D.size) (hi : (P.info? ty).map (·.size) = some D.size) (h1 : D.all (·.oneCell') = true)
    (h : ∀ w', Blk w' g D t → Kept g w w' → wpList P ops Q rest (a.put op.dst undef) w') : wpList P ops Q (op :: rest) a w :=
  wpList_store_mid hgd ty x y ho g 0 D hx hy (hs ▸ hB.there) hi h1 (h _ (hB.setAll D hs) (kept_setCells g _ 0 w))
/-- A whole block is loaded. -/
theorem wpList_load_blk {ops : Array Oper} {rest : List Oper} {op : Oper} {a : Act} {w : World} {Q : Exit → Act → World → Prop} (hgd : op.guard = none) (ty : TypeId) (x : Operand) (ho : op.op = .load ty x)
    (g : Nat) (hx : a.eval x = .pointer (some ⟨g, 0, none⟩)) (t : TypeId) (C : Array Value) (d : TypeDesc) (hB : Blk w g C t)
    (hu : P.underlying ty = some d) (hd : (match d with | .struct _ | .array _ _ => true | _ => false) = true) (hi : (P.info? ty).map (·.size) = some C.size)
    (h : wpList P ops Q rest (a.put op.dst (.agg C)) w) : wpList P ops Q (op :: rest) a w :=
  wpList_load_row hgd ty x ho g hx t C (0, 0) d hB hu hd hi h
end
end Go.Proofs.YtmmgaonlmpajbacGreat
namespace Go.Proofs.YtmmgaonlmpajbacGreat

theorem cnt3 {V : Nat → Int} {x : Int} (h : 3 ≤ cntV V x) : ∀ i j, i < 4 → j < 4 → i ≠ j → V i = x + 1 ∨ V j = x + 1 := by
  have key : ∀ i j, i < 4 → j < 4 → i < j → V i = x + 1 ∨ V j = x + 1 := by
    intro i j hi hj hij
    by_cases hVi : V i = x + 1
    · exact Or.inl hVi
    · by_cases hVj : V j = x + 1
      · exact Or.inr hVj
      · exfalso
        have one : ∀ k, (if 1 ≤ V k ∧ (V k - 1 == x) = true then (1 : Int) else 0) ≤ 1 ∧ ((V k ≠ x + 1) → (if 1 ≤ V k ∧ (V k - 1 == x) = true then (1 : Int) else 0) = 0) := by
          intro k
          constructor
          · split <;> omega
          · intro hne
            rw [if_neg]
            rintro ⟨_, hh⟩
            have := eq_of_beq hh
            omega
        have e0 := one 0
        have e1 := one 1
        have e2 := one 2
        have e3 := one 3
        have zi := (one i).2 hVi
        have zj := (one j).2 hVj
        simp only [cntV, cntTo] at h
        have hij' : (i = 0 ∧ j = 1) ∨ (i = 0 ∧ j = 2) ∨ (i = 0 ∧ j = 3) ∨ (i = 1 ∧ j = 2) ∨ (i = 1 ∧ j = 3) ∨ (i = 2 ∧ j = 3) := by omega
        rcases hij' with ⟨rfl, rfl⟩ | ⟨rfl, rfl⟩ | ⟨rfl, rfl⟩ | ⟨rfl, rfl⟩ | ⟨rfl, rfl⟩ | ⟨rfl, rfl⟩ <;> omega
  intro i j hi hj hne
  by_cases hlt : i < j
  · exact key i j hi hj hlt
  · exact (key j i hj hi (by omega)).symm

theorem most_is {V : Nat → Int} (h : (mostV V).2 = true) : 0 ≤ (mostV V).1 ∧ (mostV V).1 ≤ 9 ∧ 3 ≤ cntV V (mostV V).1 := by
  unfold mostV at h ⊢
  split
  · rename_i hh
    have : win (V 0) 1 10 = true := hh.1
    simp [win] at this
    exact ⟨by show 0 ≤ V 0 - 1; omega, by show V 0 - 1 ≤ 9; omega, hh.2⟩
  · split
    · rename_i _ hh
      have : win (V 1) 1 10 = true := hh.1
      simp [win] at this
      exact ⟨by show 0 ≤ V 1 - 1; omega, by show V 1 - 1 ≤ 9; omega, hh.2⟩
    · rename_i h1 h2
      rw [if_neg h1, if_neg h2] at h
      cases h

theorem cnt_but {V : Nat → Int} {x : Int} (h : 3 ≤ cntV V x) : ∃ m : Nat, ∀ i, i < 4 → i ≠ m → V i = x + 1 := by
  have q := cnt3 h
  by_cases h0 : V 0 = x + 1
  · by_cases h1 : V 1 = x + 1
    · by_cases h2 : V 2 = x + 1
      · refine ⟨3, fun i hi hne => ?_⟩
        have : i = 0 ∨ i = 1 ∨ i = 2 := by omega
        rcases this with rfl | rfl | rfl <;> assumption
      · exact ⟨2, fun i hi hne => (q i 2 hi (by omega) hne).resolve_right h2⟩
    · exact ⟨1, fun i hi hne => (q i 1 hi (by omega) hne).resolve_right h1⟩
  · exact ⟨0, fun i hi hne => (q i 0 hi (by omega) hne).resolve_right h0⟩

/-- Two quorums meet. -/
theorem meet {a b : Nat → Int} {liar : Int} (ha : (mostV a).2 = true) (hb : (mostV b).2 = true) (h : ∀ i : Nat, i < 4 → (i : Int) ≠ liar → 0 < a i → 0 < b i → a i = b i) : (mostV a).1 = (mostV b).1 := by
  obtain ⟨a0, _, a2⟩ := most_is ha
  obtain ⟨b0, _, b2⟩ := most_is hb
  generalize (mostV a).1 = x at *
  generalize (mostV b).1 = y at *
  obtain ⟨m, hm⟩ := cnt_but a2
  obtain ⟨n, hn⟩ := cnt_but b2
  have both : ∃ i : Nat, i < 4 ∧ (i : Int) ≠ liar ∧ i ≠ m ∧ i ≠ n := by
    by_cases c0 : (0 : Int) ≠ liar ∧ 0 ≠ m ∧ 0 ≠ n
    · exact ⟨0, by omega, c0.1, c0.2.1, c0.2.2⟩
    · by_cases c1 : (1 : Int) ≠ liar ∧ 1 ≠ m ∧ 1 ≠ n
      · exact ⟨1, by omega, c1.1, c1.2.1, c1.2.2⟩
      · by_cases c2 : (2 : Int) ≠ liar ∧ 2 ≠ m ∧ 2 ≠ n
        · exact ⟨2, by omega, c2.1, c2.2.1, c2.2.2⟩
        · exact ⟨3, by omega, by omega, by omega, by omega⟩
  obtain ⟨i, hi, hl, h1, h2⟩ := both
  have e1 := hm i hi h1
  have e2 := hn i hi h2
  have := h i hi hl (by omega) (by omega)
  omega

theorem cnt_self {V : Nat → Int} {x y : Int} (h : 3 ≤ cntV V x) (k : 3 ≤ cntV V y) : x = y := by
  have a := cnt3 h
  have b := cnt3 k
  have a01 := a 0 1 (by omega) (by omega) (by omega)
  have a02 := a 0 2 (by omega) (by omega) (by omega)
  have a12 := a 1 2 (by omega) (by omega) (by omega)
  have b01 := b 0 1 (by omega) (by omega) (by omega)
  have b02 := b 0 2 (by omega) (by omega) (by omega)
  have b12 := b 1 2 (by omega) (by omega) (by omega)
  omega

theorem most_found {V : Nat → Int} {x : Int} (h0 : 0 ≤ x) (h9 : x ≤ 9) (h : 3 ≤ cntV V x) : mostV V = (x, true) := by
  unfold mostV
  have hw : ∀ i, V i = x + 1 → win (V i) 1 10 = true ∧ V i - 1 = x := fun i hi => ⟨by simp [win]; omega, by omega⟩
  split
  · rename_i hh
    rw [cnt_self hh.2 h]
  · rename_i hn
    have h1 : V 1 = x + 1 := by
      rcases cnt3 h 0 1 (by omega) (by omega) (by omega) with h1 | h1
      · obtain ⟨a, b⟩ := hw 0 h1
        exact absurd ⟨a, by rw [b]; exact h⟩ hn
      · exact h1
    obtain ⟨a, b⟩ := hw 1 h1
    rw [if_pos ⟨a, by rw [b]; exact h⟩, b]

theorem most_none {V : Nat → Int} (h : ∀ j : Nat, j < 10 → cntV V j < 3) : mostV V = (0, false) := by
  have key : ∀ i, ¬ (win (V i) 1 10 = true ∧ 3 ≤ cntV V (V i - 1)) := by
    rintro i ⟨a, b⟩
    simp [win] at a
    obtain ⟨n, hn⟩ := Int.eq_ofNat_of_zero_le (show 0 ≤ V i - 1 by omega)
    rw [hn] at b
    have := h n (by omega)
    omega
  unfold mostV
  rw [if_neg (key 0), if_neg (key 1)]
end Go.Proofs.YtmmgaonlmpajbacGreat
namespace Go.Proofs.YtmmgaonlmpajbacGreat
open Go.RowKit

/-- Has the node i a wish or a promise in round r? -/
def cnt (S : Sh) (r i : Nat) : Int := if 0 < S.wi r i ∨ 0 < S.pr r i then 1 else 0
def heardTo (S : Sh) (r : Nat) : Nat → Int
  | 0 => 0
  | n + 1 => heardTo S r n + cnt S r n
/-- How many have a wish or a promise in a round. -/
def heardN (S : Sh) (r : Int) : Int := if 0 ≤ r ∧ r ≤ 5 then heardTo S r.toNat 4 else 0

theorem heardTo_le (S : Sh) (r n : Nat) : 0 ≤ heardTo S r n ∧ heardTo S r n ≤ n := by
  induction n with
  | zero => simp [heardTo]
  | succ n ih => simp only [heardTo, cnt]; split <;> omega

set_option maxHeartbeats 1000000 in
theorem heardIn_in (S : Sh) (r : Nat) (hr : r < 6) (w : World) :
    Calls Tryz.prog 91 #[.agg S.cells, .int .i64 (r : Int)] w fun e w' => e = .returned (.int .i64 (heardTo S r 4)) ∧ Below w.heap.size w w' := by
  go_enter Tryz.func91, Tryz.ntmps91
  go_wp2
  go_loop [5, 6] (fun n i => ∃ k : Nat, k ≤ 4 ∧ i = .int .i64 (k : Int) ∧ n = .int .i64 (heardTo S r k)) (fun _ i => 4 - (intOf i).toNat)
  case atStart => exact ⟨0, by omega, rfl, rfl⟩
  case round =>
    obtain ⟨k, hk, rfl, rfl⟩ := hrel
    have hd := heardTo_le S r k
    by_cases hlt : k < 4
    · have c0 := cells_wi S r k hr hlt
      have d0 := cells_pr S r k hr hlt
      have HS : Hid (heardTo S r (k + 1) = heardTo S r k + cnt S r k) := rfl
      go_wp2
      all_goals
        go_round
        case rel => exact ⟨k + 1, by omega, by go_num, by rw [HS.out]; simp only [cnt]; first | rw [if_pos (by omega)] | (rw [if_neg (by omega)]; go_num)⟩
        case measure => simp [intOf]; omega
    · go_wp2
      go_ret
      exact ⟨ret_int (by rw [show k = 4 by omega]), by go_grown⟩

set_option maxHeartbeats 1000000 in
theorem heardIn_out (S : Sh) (r : Int) (hr : r < 0 ∨ 5 < r) (w : World) :
    Calls Tryz.prog 91 #[.agg S.cells, .int .i64 r] w fun e w' => e = .returned (.int .i64 0) ∧ Below w.heap.size w w' := by
  rcases hr with hr | hr
  all_goals
    go_enter Tryz.func91, Tryz.ntmps91
    go_wp2
    refine wp_loop_rounds 1 ?_
    rw [rounds_succ]
    go_wp2
    go_ret
    exact ⟨rfl, by go_grown⟩

theorem heardIn_any (S : Sh) (r : Int) (w : World) :
    Calls Tryz.prog 91 #[.agg S.cells, .int .i64 r] w fun e w' => e = .returned (.int .i64 (heardN S r)) ∧ Below w.heap.size w w' := by
  by_cases hr : 0 ≤ r ∧ r ≤ 5
  · obtain ⟨n, rfl⟩ := Int.eq_ofNat_of_zero_le hr.1
    have := heardIn_in S n (by omega) w
    simpa [heardN, hr] using this
  · have := heardIn_out S r (by omega) w
    simpa [heardN, hr] using this
end Go.Proofs.YtmmgaonlmpajbacGreat
namespace Go.Proofs.YtmmgaonlmpajbacGreat
open Go.RowKit

/-- The way on behind one operation: as K says; all other exits as Q says. -/
def ordQ (Q : Exit → Act → World → Prop) (K : Act → World → Prop) : Exit → Act → World → Prop
  | .normal, a, w => K a w
  | e, a, w => Q e a w

/-- None of Z has come up. -/
def clearZ (Z : List Nat) (listed : Array Bool) : Bool := Z.all fun z => listed.getD z true == false

theorem clear_set {Z : List Nat} {l : Array Bool} {i : Nat} (h : clearZ Z (l.setIfInBounds i true) = true) : clearZ Z l = true := by
  simp only [clearZ, List.all_eq_true, beq_iff_eq] at h ⊢
  intro z hz
  have := h z hz
  by_cases hi : i = z
  · subst hi
    by_cases hlt : i < l.size
    · simp [hlt] at this
    · simp [Array.getD, hlt] at this
  · rwa [getD_set_ne true hi] at this
theorem clear_keep {Z : List Nat} {l : Array Bool} {i : Nat} (h : clearZ Z l = true) (hi : i ∉ Z) : clearZ Z (l.setIfInBounds i true) = true := by
  simp only [clearZ, List.all_eq_true, beq_iff_eq] at h ⊢
  intro z hz
  have hne : i ≠ z := fun e => hi (e ▸ hz)
  rw [getD_set_ne true hne]; exact h z hz

section
variable {P : Program} {ops : Array Oper} {md : Region.Mode} {S : World → Prop} {Q : Exit → Act → World → Prop} {Z : List Nat}

/-- Whatever order is picked; S holds behind every operation as long as none of Z has come up. -/
def wpAnyL (P : Program) (md : Region.Mode) (ops : Array Oper) (Q : Exit → Act → World → Prop) (S : World → Prop) (Z : List Nat) : Nat → Array Bool → Act → World → Prop
  | 0, listed, a, w => Region.ready md ops listed = [] ∧ Q .normal a w
  | m + 1, listed, a, w => (Region.ready md ops listed = [] → Q .normal a w) ∧
    ∀ i ∈ Region.ready md ops listed, wpOp P ops Q i (fun a' w' => (clearZ Z (listed.setIfInBounds i true) = true → S w') ∧ wpAnyL P md ops Q S Z m (listed.setIfInBounds i true) a' w') a w

theorem any_of_L : ∀ (m : Nat) (listed : Array Bool) (a : Act) (w : World), wpAnyL P md ops Q S Z m listed a w → wpAny P md ops Q m listed a w
  | 0, _, _, _, h => h
  | m + 1, _, _, _, h => ⟨h.1, fun i hi => wpOp_mono (fun a' w' h' => any_of_L m _ a' w' h'.2) (h.2 i hi)⟩

/-- What yields its value under S0 may be taken first, if what is kept (I) gives S0, and stays behind all that may come ahead of it. -/
theorem L_first {S0 : World → Prop} {I : Array Bool → World → Prop} {i : Nat} {oi : Oper} {v : Value} (hi : ops[i]? = some oi) (hsel : ∀ (j : Nat) (o : Oper) cs b, ops[j]? = some o → o.op ≠ .select cs b)
    (hQ : ∀ c a w, Q (.panic c) (a.put oi.dst v) w → Q (.panic c) a w) (hiZ : i ∉ Z)
    (h0 : ∀ l w, I l w → S0 w) (h1 : ∀ l w, I l w → clearZ Z (l.setIfInBounds i true) = true → S w)
    (h2 : ∀ (j : Nat) (l : Array Bool) (w w' : World), l.getD i true = false → j ∈ Region.ready md ops l → I l w → (clearZ Z (l.setIfInBounds j true) = true → S w') → I (l.setIfInBounds j true) w') :
    ∀ (m : Nat) (listed : Array Bool) (a : Act) (w : World),
      (∀ j oj, ops[j]? = some oj → j ≠ i → listed.getD j true = false → (∀ e ∈ oj.after, Region.binds md e = true → e.on ≠ i) → oi.apart ops oj = true) →
      i ∈ Region.ready md ops listed → YieldsIf P ops S0 oi v a → I listed w →
      wpAnyL P md ops Q S Z m (listed.setIfInBounds i true) (a.put oi.dst v) w → wpAnyL P md ops Q S Z (m + 1) listed a w
  | 0, listed, a, w, _, hr, hy, hI, H => by
    refine ⟨fun h => (by rw [h] at hr; cases hr), fun j hj => ?_⟩
    by_cases hji : j = i
    · subst hji; exact hy.wpOp hi (h0 _ _ hI) ⟨h1 _ _ hI, H⟩
    · have := ready_mono hj hji
      rw [H.1] at this
      cases this
  | m + 1, listed, a, w, hfree, hr, hy, hI, H => by
    refine ⟨fun h => (by rw [h] at hr; cases hr), fun j hj => ?_⟩
    by_cases hji : j = i
    · subst hji; exact hy.wpOp hi (h0 _ _ hI) ⟨h1 _ _ hI, H⟩
    · have hun : listed.getD i true = false := (mem_ready.1 hr).1
      have hj' := H.2 j (ready_mono hj hji)
      obtain ⟨hju, p, hp, hall⟩ := mem_ready.1 hj
      have hno : ∀ e ∈ p.after, Region.binds md e = true → e.on ≠ i := fun e he hb heq => by
        have h2 := hall e he hb
        rw [heq] at h2
        by_cases hlt : i < listed.size
        · simp [hlt] at h2 hun
          rw [h2] at hun; cases hun
        · simp [Array.getElem?_eq_none (Nat.le_of_not_lt hlt)] at h2
      have h3 := wpOp_putIf hp (hfree j p hp hji hju hno) (fun cs b => hsel i oi cs b hi) (fun cs b => hsel j p cs b hp) hQ hy hj'
      have hfree' : ∀ k ok, ops[k]? = some ok → k ≠ i → (listed.setIfInBounds j true).getD k true = false → (∀ e ∈ ok.after, Region.binds md e = true → e.on ≠ i) → oi.apart ops ok = true := fun k ok hk hki hku hkn => by
        refine hfree k ok hk hki ?_ hkn
        by_cases hjk : j = k
        · subst hjk; exact hju
        · rwa [getD_set_ne true hjk] at hku
      refine wpOp_mono (fun a' w' h4 => ?_) h3
      have e := Array.setIfInBounds_comm (xs := listed) true true hji
      rw [← e] at h4
      exact ⟨fun hc => h4.2.1 (clear_keep hc hiZ), L_first hi hsel hQ hiZ h0 h1 h2 m (listed.setIfInBounds j true) a' w' hfree' (ready_mono hr (Ne.symm hji)) h4.1 (h2 j listed w w' hun hj hI (fun hc => h4.2.1 (clear_keep hc hiZ))) h4.2.2⟩

/-- The operations in the named order. -/
def wpOrd (P : Program) (ops : Array Oper) (S : World → Prop) (Q : Exit → Act → World → Prop) (Z : List Nat) : List (Nat × Nat) → Array Bool → Act → World → Prop
  | [], _, a, w => Q .normal a w
  | (k, 0) :: rest, l, a, w => ∃ o v, ops[k]? = some o ∧ YieldsIf P ops (fun _ => True) o v a ∧ wpOrd P ops S Q Z rest (l.setIfInBounds k true) (a.put o.dst v) w
  | (k, 1) :: rest, l, a, w => ∃ o v, ops[k]? = some o ∧ YieldsIf P ops S o v a ∧ wpOrd P ops S Q Z rest (l.setIfInBounds k true) (a.put o.dst v) w
  | (k, _) :: rest, l, a, w => ∃ o, ops[k]? = some o ∧ wpList P ops (ordQ Q fun a' w' => (clearZ Z (l.setIfInBounds k true) = true → S w') ∧ wpOrd P ops S Q Z rest (l.setIfInBounds k true) a' w') [o] a w

/-- All of Z wait for operation i. -/
def waitZ (md : Region.Mode) (ops : Array Oper) (Z : List Nat) (i : Nat) : Bool :=
  Z.all fun z => match ops[z]? with
    | none => false
    | some o => o.after.any fun e => Region.binds md e && (e.on == i)

/-- May the order be so? -/
def ordOK (md : Region.Mode) (ops : Array Oper) (Z : List Nat) : List (Nat × Nat) → Array Bool → Bool
  | [], listed => (Region.ready md ops listed).isEmpty
  | (k, 0) :: rest, listed => (Region.ready md ops listed).contains k && Region.free md ops listed k && !Z.contains k && ordOK md ops Z rest (listed.setIfInBounds k true)
  | (k, 1) :: rest, listed => (Region.ready md ops listed).contains k && Region.free md ops listed k && !Z.contains k && clearZ Z listed && waitZ md ops Z k && ordOK md ops Z rest (listed.setIfInBounds k true)
  | (k, _) :: rest, listed => (Region.ready md ops listed == [k]) && ordOK md ops Z rest (listed.setIfInBounds k true)

theorem wp_ordQ {o : Oper} {a : Act} {w : World} {K : Act → World → Prop} (hh : o.wp P a w (wpList P ops (ordQ Q K) []) (ordQ Q K)) : o.wp P a w K Q := by
  unfold Oper.wp at *
  generalize (execOp a.eval o).run P w = r at *
  cases r with
  | ok n w' =>
    cases n <;> simp only [Oper.upon] at hh ⊢
    case value => exact hh
    case skip => exact hh
    case defer => exact hh
    case enter => exact Calls.mono hh (fun e w'' he => by cases e <;> exact he)
    case row => exact Rows.mono hh (fun _ _ he => he)
  | halt x w' => cases x <;> simp only [Oper.upon] at hh ⊢ <;> exact hh

theorem op_of_list {k : Nat} {o : Oper} {a : Act} {w : World} {K : Act → World → Prop} (ho : ops[k]? = some o) (h : wpList P ops (ordQ Q K) [o] a w) : wpOp P ops Q k K a w := by
  unfold wpOp
  simp only [ho]
  unfold wpList at h
  split
  · rename_i hw
    rw [if_pos hw] at h
    rcases h with h | ⟨h1, h2⟩
    · exact Or.inl (wp_ordQ h)
    · exact Or.inr ⟨h1, h2⟩
  · rename_i hw
    rw [if_neg hw] at h
    exact h

theorem wait_spec {i : Nat} (h : waitZ md ops Z i = true) (l : Array Bool) (hu : l.getD i true = false) (z : Nat) (hz : z ∈ Z) : z ∉ Region.ready md ops l := by
  intro hm
  obtain ⟨_, o, ho, hall⟩ := mem_ready.1 hm
  simp only [waitZ, List.all_eq_true] at h
  have h1 := h z hz
  simp only [ho] at h1
  obtain ⟨e, he, hb⟩ := Array.any_eq_true'.1 h1
  simp only [Bool.and_eq_true, beq_iff_eq] at hb
  have h2 := hall e he hb.1
  rw [hb.2] at h2
  by_cases hlt : i < l.size
  · simp [hlt] at h2 hu
    rw [h2] at hu; cases hu
  · simp [Array.getElem?_eq_none (Nat.le_of_not_lt hlt)] at h2

theorem L_of_ord (hs : Region.noSelect ops = true) (hQ : ∀ c a d v w, Q (.panic c) (Act.put a d v) w → Q (.panic c) a w) : ∀ (ord : List (Nat × Nat)) (listed : Array Bool) (a : Act) (w : World), ordOK md ops Z ord listed = true → (clearZ Z listed = true → S w) → wpOrd P ops S Q Z ord listed a w → wpAnyL P md ops Q S Z ord.length listed a w
  | [], listed, a, w, hB, _, h => by
    simp only [ordOK, List.isEmpty_iff] at hB
    exact ⟨hB, h⟩
  | (k, 0) :: rest, listed, a, w, hB, hS, h => by
    simp only [ordOK, Bool.and_eq_true, Bool.not_eq_true', List.contains_eq_mem, decide_eq_false_iff_not, decide_eq_true_eq] at hB
    obtain ⟨⟨⟨hr, hf⟩, hz⟩, hB'⟩ := hB
    obtain ⟨o, v, ho, hy, hk⟩ := h
    exact L_first (S0 := fun _ => True) (I := fun l w => clearZ Z l = true → S w) ho (Region.noSelect_spec hs) (fun c a w => hQ c a o.dst v w) hz (fun _ _ _ => trivial) (fun _ _ hI hc => hI (clear_set hc)) (fun _ _ _ _ _ _ _ hI => hI) rest.length listed a w (Region.free_spec ho hf) hr hy hS
      (L_of_ord hs hQ rest _ _ _ hB' (fun hc => hS (clear_set hc)) hk)
  | (k, 1) :: rest, listed, a, w, hB, hS, h => by
    simp only [ordOK, Bool.and_eq_true, Bool.not_eq_true', List.contains_eq_mem, decide_eq_false_iff_not, decide_eq_true_eq] at hB
    obtain ⟨⟨⟨⟨⟨hr, hf⟩, hz⟩, hc⟩, hwz⟩, hB'⟩ := hB
    obtain ⟨o, v, ho, hy, hk⟩ := h
    exact L_first (S0 := S) (I := fun l w => clearZ Z l = true ∧ S w) ho (Region.noSelect_spec hs) (fun c a w => hQ c a o.dst v w) hz (fun _ _ h => h.2) (fun _ _ hI _ => hI.2)
      (fun j l w w' hun hj hI hS' => have hjz : j ∉ Z := fun hm => wait_spec hwz l hun j hm hj
        ⟨clear_keep hI.1 hjz, hS' (clear_keep hI.1 hjz)⟩) rest.length listed a w (Region.free_spec ho hf) hr hy ⟨hc, hS hc⟩
      (L_of_ord hs hQ rest _ _ _ hB' (fun hc => hS (clear_set hc)) hk)
  | (k, n + 2) :: rest, listed, a, w, hB, hS, h => by
    simp only [ordOK, Bool.and_eq_true, beq_iff_eq] at hB
    obtain ⟨o, ho, hl⟩ := h
    refine ⟨fun h0 => (by rw [hB.1] at h0; cases h0), fun i hi => ?_⟩
    rw [hB.1] at hi
    obtain rfl : i = k := by simpa using hi
    exact wpOp_mono (fun a' w' h' => ⟨h'.1, L_of_ord hs hQ rest _ _ _ hB.2 h'.1 h'.2⟩) (op_of_list ho hl)

theorem held_region {id : Nat} {a : Act} {w : World} (S : World → Prop) (Z : List Nat) (ord : List (Nat × Nat)) (hm : P.follows .mixedOrders = true) (hs : Region.noSelect ops = true) (hB : ordOK .any ops Z ord (Array.replicate ops.size false) = true) (hl : ops.size = ord.length) (hQ : ∀ c a d v w, Q (.panic c) (Act.put a d v) w → Q (.panic c) a w)
    (hS : S w.drew) (h : wpOrd P ops S Q Z ord (Array.replicate ops.size false) a w.drew) : (Code.region id ops true).wp P Q a w := by
  refine wp_region_any hm ?_
  have h1 := any_of_L _ _ _ _ (L_of_ord (md := .any) hs hQ ord (Array.replicate ops.size false) a w.drew hB (fun _ => hS) h)
  rw [← hl] at h1
  exact h1

theorem at_of {k : Nat} {o : Oper} (ho : ops.toList[k]? = some o) : ops[k]? = some o := by rw [← Array.getElem?_toList]; exact ho

variable {a : Act} {w : World} {rest : List (Nat × Nat)} {k : Nat} {o : Oper} {l : Array Bool}
theorem ord_skip0 (ho : ops.toList[k]? = some o) (hw : Region.wanted o (yielded ops a.tmps) = false) (h : wpOrd P ops S Q Z rest (l.setIfInBounds k true) (a.put o.dst undef) w) : wpOrd P ops S Q Z ((k, 0) :: rest) l a w :=
  ⟨o, undef, at_of ho, Or.inr ⟨hw, rfl⟩, h⟩
theorem ord_skip1 (ho : ops.toList[k]? = some o) (hw : Region.wanted o (yielded ops a.tmps) = false) (h : wpOrd P ops S Q Z rest (l.setIfInBounds k true) (a.put o.dst undef) w) : wpOrd P ops S Q Z ((k, 1) :: rest) l a w :=
  ⟨o, undef, at_of ho, Or.inr ⟨hw, rfl⟩, h⟩
theorem ord_run0 {v : Value} (ho : ops.toList[k]? = some o) (hw : Region.wanted o (yielded ops a.tmps) = true) (hv : ∀ w, (execOp a.eval o).run P w = .ok (.value v) w) (h : wpOrd P ops S Q Z rest (l.setIfInBounds k true) (a.put o.dst v) w) : wpOrd P ops S Q Z ((k, 0) :: rest) l a w :=
  ⟨o, v, at_of ho, Or.inl ⟨hw, fun w _ => hv w⟩, h⟩
theorem ord_run0_ex (ho : ops.toList[k]? = some o) (hw : Region.wanted o (yielded ops a.tmps) = true) (h : ∃ v, (∀ w, (execOp a.eval o).run P w = .ok (.value v) w) ∧ wpOrd P ops S Q Z rest (l.setIfInBounds k true) (a.put o.dst v) w) : wpOrd P ops S Q Z ((k, 0) :: rest) l a w :=
  let ⟨_, hv, hk⟩ := h
  ord_run0 ho hw hv hk
theorem ord_run1 {v : Value} (ho : ops.toList[k]? = some o) (hw : Region.wanted o (yielded ops a.tmps) = true) (hv : ∀ w, S w → (execOp a.eval o).run P w = .ok (.value v) w) (h : wpOrd P ops S Q Z rest (l.setIfInBounds k true) (a.put o.dst v) w) : wpOrd P ops S Q Z ((k, 1) :: rest) l a w :=
  ⟨o, v, at_of ho, Or.inl ⟨hw, hv⟩, h⟩
theorem ord_run1_ex (ho : ops.toList[k]? = some o) (hw : Region.wanted o (yielded ops a.tmps) = true) (h : ∃ v, (∀ w, S w → (execOp a.eval o).run P w = .ok (.value v) w) ∧ wpOrd P ops S Q Z rest (l.setIfInBounds k true) (a.put o.dst v) w) : wpOrd P ops S Q Z ((k, 1) :: rest) l a w :=
  let ⟨_, hv, hk⟩ := h
  ord_run1 ho hw hv hk
theorem ord_move (ho : ops.toList[k]? = some o) (hw : Region.wanted o (yielded ops a.tmps) = true) (x : Operand) (hx : o.op = .move x) (h : wpOrd P ops S Q Z rest (l.setIfInBounds k true) (a.put o.dst (a.eval x)) w) : wpOrd P ops S Q Z ((k, 0) :: rest) l a w :=
  ord_run0 ho hw (fun w => by rw [BigFrame.run_move x hx]) h
theorem ord_assign (ho : ops.toList[k]? = some o) (hw : Region.wanted o (yielded ops a.tmps) = true) (x : Operand) (hx : o.op = .assign x) (h : wpOrd P ops S Q Z rest (l.setIfInBounds k true) (a.put o.dst (a.eval x)) w) : wpOrd P ops S Q Z ((k, 0) :: rest) l a w :=
  ord_run0 ho hw (fun w => by rw [BigFrame.run_assign x hx]) h
theorem ord_load (ho : ops.toList[k]? = some o) (hw : Region.wanted o (yielded ops a.tmps) = true) (ty : TypeId) (x : Operand) (hx0 : o.op = .load ty x) (g off : Nat) (hx : a.eval x = .pointer (some ⟨g, off, none⟩)) (D : Array Value) (d : TypeDesc) (hB : ∀ w, S w → w.rangeAt g off D.toList)
    (hu : P.underlying ty = some d) (hd : d.isRow = true) (hi : (P.info? ty).map (·.size) = some D.size)
    (h : wpOrd P ops S Q Z rest (l.setIfInBounds k true) (a.put o.dst (.agg D)) w) : wpOrd P ops S Q Z ((k, 1) :: rest) l a w :=
  ord_run1 ho hw (fun w hC => by
    have e := run_loadVar_mid w g off ty D.toList d (hB w hC) hu hd (by simpa using hi)
    unfold execOp
    simp only [hx0, hx, Instr.loadAt, Instr.sureAddr, Sem.run_bind, Sem.run_pure, Result.andThen_ok, e, Array.toArray_toList]) h
theorem ord_do (ho : ops.toList[k]? = some o) (h : wpList P ops (ordQ Q fun a' w' => (clearZ Z (l.setIfInBounds k true) = true → S w') ∧ wpOrd P ops S Q Z rest (l.setIfInBounds k true) a' w') [o] a w) : wpOrd P ops S Q Z ((k, 2) :: rest) l a w :=
  ⟨o, at_of ho, h⟩
theorem wp_toQ {o : Oper} {a : Act} {w : World} {K : Act → World → Prop} (hh : o.wp P a w K Q) : o.wp P a w (wpList P ops (ordQ Q K) []) (ordQ Q K) := by
  unfold Oper.wp at *
  generalize (execOp a.eval o).run P w = r at *
  cases r with
  | ok n w' =>
    cases n <;> simp only [Oper.upon] at hh ⊢
    case value => exact hh
    case skip => exact hh
    case defer => exact hh
    case enter => exact Calls.mono hh (fun e w'' he => by cases e <;> exact he)
    case row => exact Rows.mono hh (fun _ _ he => he)
  | halt x w' => cases x <;> simp only [Oper.upon] at hh ⊢ <;> exact hh
theorem ord_step (ho : ops.toList[k]? = some o) (hw : Region.wanted o (yielded ops a.tmps) = true) (h : o.wp P a w (fun a' w' => (clearZ Z (l.setIfInBounds k true) = true → S w') ∧ wpOrd P ops S Q Z rest (l.setIfInBounds k true) a' w') Q) : wpOrd P ops S Q Z ((k, 2) :: rest) l a w :=
  ord_do ho (by unfold wpList; rw [if_pos hw]; exact Or.inl (wp_toQ h))
theorem ord_call_ex (ho : ops.toList[k]? = some o) (hw : Region.wanted o (yielded ops a.tmps) = true) (h : ∃ f args, (execOp a.eval o).run P w = .ok (.enter f args) w ∧ Calls P f args w (fun e w' => ∃ v, e = .returned v ∧ (clearZ Z (l.setIfInBounds k true) = true → S w') ∧ wpOrd P ops S Q Z rest (l.setIfInBounds k true) (a.put o.dst v) w')) : wpOrd P ops S Q Z ((k, 2) :: rest) l a w := by
  obtain ⟨f, args, hv, hc⟩ := h
  refine ord_step ho hw ?_
  unfold Oper.wp
  rw [hv]
  refine Calls.mono hc ?_
  rintro e w' ⟨v, rfl, hk⟩
  exact hk
theorem ord_skip2 (ho : ops.toList[k]? = some o) (hw : Region.wanted o (yielded ops a.tmps) = false) (hS : clearZ Z (l.setIfInBounds k true) = true → S w) (h : wpOrd P ops S Q Z rest (l.setIfInBounds k true) (a.put o.dst undef) w) : wpOrd P ops S Q Z ((k, 2) :: rest) l a w :=
  ord_do ho (by unfold wpList; rw [if_neg (by rw [hw]; simp)]; exact ⟨hS, h⟩)
theorem ord_on {K : Act → World → Prop} (h : K a w) : wpList P ops (ordQ Q K) [] a w := h
end
end Go.Proofs.YtmmgaonlmpajbacGreat
namespace Go.Proofs.YtmmgaonlmpajbacGreat
open Go.RowKit

section
variable {P : Program} {ops : Array Oper} {C : World → Prop} {Q : Act → Prop} {a : Act} {o : Oper} {rest : List Oper}

theorem steady_skip (hw : Region.wanted o (yielded ops a.tmps) = false) (h : wpQuiet P ops C Q rest (a.put o.dst undef)) : wpQuiet P ops C Q (o :: rest) a :=
  BigFrame.wpQuiet_skip hw h
theorem steady_move (hw : Region.wanted o (yielded ops a.tmps) = true) (x : Operand) (ho : o.op = .move x) (h : wpQuiet P ops C Q rest (a.put o.dst (a.eval x))) : wpQuiet P ops C Q (o :: rest) a :=
  BigFrame.wpQuiet_want hw fun _ hK => BigFrame.quiet_move x ho (hK _ h)
theorem steady_assign (hw : Region.wanted o (yielded ops a.tmps) = true) (x : Operand) (ho : o.op = .assign x) (h : wpQuiet P ops C Q rest (a.put o.dst (a.eval x))) : wpQuiet P ops C Q (o :: rest) a :=
  BigFrame.wpQuiet_want hw fun _ hK => BigFrame.quiet_assign x ho (hK _ h)
theorem steady_run {v : Value} (hw : Region.wanted o (yielded ops a.tmps) = true) (hv : ∀ w, C w → (execOp a.eval o).run P w = .ok (.value v) w) (h : wpQuiet P ops C Q rest (a.put o.dst v)) : wpQuiet P ops C Q (o :: rest) a :=
  BigFrame.wpQuiet_want hw fun _ hK => ⟨v, fun w hC => by unfold Oper.quietAt; rw [hv w hC]; exact ⟨rfl, rfl⟩, hK _ h⟩
theorem steady_call {f : FuncId} {args : Array Value} {v : Value} (hw : Region.wanted o (yielded ops a.tmps) = true) (hv : ∀ w, C w → (execOp a.eval o).run P w = .ok (.enter f args) w)
    (hc : ∀ w, C w → Calls P f args w (fun e w' => e = .returned v ∧ C w')) (h : wpQuiet P ops C Q rest (a.put o.dst v)) : wpQuiet P ops C Q (o :: rest) a :=
  BigFrame.wpQuiet_want hw fun _ hK => ⟨v, fun w hC => by unfold Oper.quietAt; rw [hv w hC]; exact ⟨rfl, hc w hC⟩, hK _ h⟩
theorem steady_run_ex (hw : Region.wanted o (yielded ops a.tmps) = true) (h : ∃ v, (∀ w, C w → (execOp a.eval o).run P w = .ok (.value v) w) ∧ wpQuiet P ops C Q rest (a.put o.dst v)) : wpQuiet P ops C Q (o :: rest) a :=
  let ⟨_, hv, hk⟩ := h
  steady_run hw hv hk
theorem steady_call_ex (hw : Region.wanted o (yielded ops a.tmps) = true) (h : ∃ f args v, (∀ w, C w → (execOp a.eval o).run P w = .ok (.enter f args) w) ∧ (∀ w, C w → Calls P f args w (fun e w' => e = .returned v ∧ C w')) ∧ wpQuiet P ops C Q rest (a.put o.dst v)) : wpQuiet P ops C Q (o :: rest) a :=
  let ⟨_, _, _, hv, hc, hk⟩ := h
  steady_call hw hv hc hk
theorem steady_load (hw : Region.wanted o (yielded ops a.tmps) = true) (ty : TypeId) (x : Operand) (ho : o.op = .load ty x) (g : Nat) (hx : a.eval x = .pointer (some ⟨g, 0, none⟩)) (t : TypeId) (D : Array Value) (d : TypeDesc) (hB : ∀ w, C w → Blk w g D t)
    (hu : P.underlying ty = some d) (hd : (match d with | .struct _ | .array _ _ => true | _ => false) = true) (hi : (P.info? ty).map (·.size) = some D.size)
    (h : wpQuiet P ops C Q rest (a.put o.dst (.agg D))) : wpQuiet P ops C Q (o :: rest) a :=
  steady_run hw (fun w hC => by
    unfold execOp
    simp only [ho, hx, Instr.loadAt, Instr.sureAddr, Sem.run_bind, Sem.run_pure, Result.andThen_ok, run_loadVar_row w g t ty D (0, 0) d (hB w hC) hu hd hi]) h
theorem steady_load_mid (hw : Region.wanted o (yielded ops a.tmps) = true) (ty : TypeId) (x : Operand) (ho : o.op = .load ty x) (g off : Nat) (hx : a.eval x = .pointer (some ⟨g, off, none⟩)) (cs : List Value) (d : TypeDesc) (hB : ∀ w, C w → w.rangeAt g off cs)
    (hu : P.underlying ty = some d) (hd : d.isRow = true) (hi : (P.info? ty).map (·.size) = some cs.length)
    (h : wpQuiet P ops C Q rest (a.put o.dst (.agg cs.toArray))) : wpQuiet P ops C Q (o :: rest) a :=
  steady_run hw (fun w hC => by
    unfold execOp
    simp only [ho, hx, Instr.loadAt, Instr.sureAddr, Sem.run_bind, Sem.run_pure, Result.andThen_ok, run_loadVar_mid w g off ty cs d (hB w hC) hu hd hi]) h
end

theorem steady_region {P : Program} {C : World → Prop} {id : Nat} {Q : Exit → Act → World → Prop} {a : Act} {w : World} {l : List Oper} (hm : P.follows .mixedOrders = true) (hB : Region.lexB .any l.toArray = true) (hC : C w.drew)
    (h : wpQuiet P l.toArray C (fun a' => ∀ w', C w' → Q .normal a' w') l a) : (Code.region id l.toArray true).wp P Q a w :=
  wp_region_quiet (C := C) hm hB hC (by simpa using h)
end Go.Proofs.YtmmgaonlmpajbacGreat
namespace Go.Proofs.YtmmgaonlmpajbacGreat
open Go.RowKit

theorem vindex (V : Nat → Int) (k : Nat) (h : k < 4) (W : World) : Sem.run Tryz.prog (Instr.index 43 (.agg (vcells V)) (.int .i64 (k : Int))) W = .ok (.int .i64 (V k)) W := by
  have hk : k = 0 ∨ k = 1 ∨ k = 2 ∨ k = 3 := by omega
  rcases hk with rfl | rfl | rfl | rfl
  · show _ = _; kernel_rfl
  · show _ = _; kernel_rfl
  · show _ = _; kernel_rfl
  · show _ = _; kernel_rfl

set_option maxHeartbeats 400000 in
theorem vsaid_any (x : Int) (w : World) : Calls Tryz.prog 82 #[.int .i64 x] w fun e w' => e = .returned (.bool (decide (0 < x))) ∧ w' = w := by
  go_enter Tryz.func82, Tryz.ntmps82
  go_wp2
  go_ret
  exact ⟨rfl, rfl⟩

set_option maxHeartbeats 1000000 in
theorem count_any (V : Nat → Int) (hV : VBd V) (value : Int) (w : World) :
    Calls Tryz.prog 98 #[.agg (vcells V), .int .i64 value] w fun e w' => e = .returned (.int .i64 (cntV V value)) ∧ Below w.heap.size w w' := by
  go_enter Tryz.func98, Tryz.ntmps98
  go_wp2_with (first | (refine wpList_load_row rfl 43 _ rfl w.heap.size rfl 43 (vcells V) (0, 0) _ (heap_alloc_new w _) Tryz.underlying43 rfl (by kernel_rfl) ?_))
  go_loop [5, 9] (fun n i => ∃ k : Nat, k ≤ 4 ∧ i = .int .i64 (k : Int) ∧ n = .int .i64 (cntTo V (fun x => x == value) k)) (fun _ i => 4 - (intOf i).toNat)
  case atStart => exact ⟨0, by omega, rfl, rfl⟩
  case round =>
    obtain ⟨k, hk, rfl, rfl⟩ := hrel
    have hd := cntTo_le V (fun x => x == value) k
    by_cases hlt : k < 4
    · have c0 := vindex V k hlt
      obtain ⟨hlo, hhi⟩ := hV k hlt
      have HS : Hid (cntTo V (fun x => x == value) (k + 1) = cntTo V (fun x => x == value) k + if 1 ≤ V k ∧ (fun x : Int => x == value) (V k - 1) = true then 1 else 0) := rfl
      clear hV
      by_cases h1 : 0 < V k
      · have h1' : decide (0 < V k) = true := by simp [h1]
        by_cases h2 : V k - 1 = value
        · have h2' : (V k - 1 == value) = true := by simp [h2]
          have HV : Hid (V k - 1 = value) := h2
          clear h2
          go_wp2_with (first | (go_at_call 82; refine (vsaid_any _ _).mono ?_; rintro e w' ⟨rfl, rfl⟩; rw [h1']))
          go_round
          case rel => exact ⟨k + 1, by omega, by go_num, by rw [HS.out, if_pos ⟨h1, h2'⟩]⟩
          case measure => simp [intOf]; omega
        · have h2' : (V k - 1 == value) = false := by simp [h2]
          clear h2
          go_wp2_with (first | (go_at_call 82; refine (vsaid_any _ _).mono ?_; rintro e w' ⟨rfl, rfl⟩; rw [h1']))
          go_round
          case rel => exact ⟨k + 1, by omega, by go_num, by rw [HS.out, if_neg (fun hh => by rw [h2'] at hh; exact Bool.false_ne_true hh.2)]; go_num⟩
          case measure => simp [intOf]; omega
      · have h1' : decide (0 < V k) = false := by simp [h1]
        go_wp2_with (first | (go_at_call 82; refine (vsaid_any _ _).mono ?_; rintro e w' ⟨rfl, rfl⟩; rw [h1']))
        go_round
        case rel => exact ⟨k + 1, by omega, by go_num, by rw [HS.out, if_neg (fun hh => by have := hh.1; omega)]; go_num⟩
        case measure => simp [intOf]; omega
    · go_wp2
      go_ret
      exact ⟨ret_int (by rw [show k = 4 by omega]; rfl), by go_grown⟩

set_option maxHeartbeats 1000000 in
theorem all_any (V : Nat → Int) (w : World) :
    Calls Tryz.prog 60 #[.agg (vcells V)] w fun e w' => e = .returned (.int .i64 (allV V)) ∧ Below w.heap.size w w' := by
  go_enter Tryz.func60, Tryz.ntmps60
  go_wp2_with (first | (refine wpList_load_row rfl 43 _ rfl w.heap.size rfl 43 (vcells V) (0, 0) _ (heap_alloc_new w _) Tryz.underlying43 rfl (by kernel_rfl) ?_))
  go_loop [3, 7] (fun n i => ∃ k : Nat, k ≤ 4 ∧ i = .int .i64 (k : Int) ∧ n = .int .i64 (cntTo V (fun _ => true) k)) (fun _ i => 4 - (intOf i).toNat)
  case atStart => exact ⟨0, by omega, rfl, rfl⟩
  case round =>
    obtain ⟨k, hk, rfl, rfl⟩ := hrel
    have hd := cntTo_le V (fun _ => true) k
    by_cases hlt : k < 4
    · have c0 := vindex V k hlt
      have HS : Hid (cntTo V (fun _ => true) (k + 1) = cntTo V (fun _ => true) k + if 1 ≤ V k ∧ (fun _ : Int => true) (V k - 1) = true then 1 else 0) := rfl
      by_cases h1 : 0 < V k
      · have h1' : decide (0 < V k) = true := by simp [h1]
        go_wp2_with (first | (go_at_call 82; refine (vsaid_any _ _).mono ?_; rintro e w' ⟨rfl, rfl⟩; rw [h1']))
        go_round
        case rel => exact ⟨k + 1, by omega, by go_num, by rw [HS.out, if_pos (by simp; omega)]⟩
        case measure => simp [intOf]; omega
      · have h1' : decide (0 < V k) = false := by simp [h1]
        go_wp2_with (first | (go_at_call 82; refine (vsaid_any _ _).mono ?_; rintro e w' ⟨rfl, rfl⟩; rw [h1']))
        go_round
        case rel => exact ⟨k + 1, by omega, by go_num, by rw [HS.out, if_neg (fun hh => by have := hh.1; omega)]; go_num⟩
        case measure => simp [intOf]; omega
    · go_wp2
      go_ret
      exact ⟨ret_int (by rw [show k = 4 by omega]; rfl), by go_grown⟩
end Go.Proofs.YtmmgaonlmpajbacGreat
namespace Go.Proofs.YtmmgaonlmpajbacGreat
open Go.RowKit

structure WQ (P : Program) (ops : Array Oper) (C : World → Prop) (Q : Act → Prop) (l : List Oper) (a : Act) : Prop where
  out : wpQuiet P ops C Q l a

section
variable {P : Program} {ops : Array Oper} {C : World → Prop} {Q : Act → Prop} {a : Act} {o : Oper} {rest : List Oper}

theorem q_skip (hw : Region.wanted o (yielded ops a.tmps) = false) (h : WQ P ops C Q rest (a.put o.dst undef)) : WQ P ops C Q (o :: rest) a := ⟨steady_skip hw h.out⟩
theorem q_run_ex (hw : Region.wanted o (yielded ops a.tmps) = true) (h : ∃ v, (∀ w, C w → (execOp a.eval o).run P w = .ok (.value v) w) ∧ WQ P ops C Q rest (a.put o.dst v)) : WQ P ops C Q (o :: rest) a :=
  let ⟨_, hv, hk⟩ := h
  ⟨steady_run hw hv hk.out⟩
theorem q_call_ex (hw : Region.wanted o (yielded ops a.tmps) = true) (h : ∃ f args v, (∀ w, C w → (execOp a.eval o).run P w = .ok (.enter f args) w) ∧ (∀ w, C w → Calls P f args w (fun e w' => e = .returned v ∧ C w')) ∧ WQ P ops C Q rest (a.put o.dst v)) : WQ P ops C Q (o :: rest) a :=
  let ⟨_, _, _, hv, hc, hk⟩ := h
  ⟨steady_call hw hv hc hk.out⟩
theorem q_load (hw : Region.wanted o (yielded ops a.tmps) = true) (ty : TypeId) (x : Operand) (ho : o.op = .load ty x) (g off : Nat) (hx : a.eval x = .pointer (some ⟨g, off, none⟩)) (D : Array Value) (d : TypeDesc) (hB : ∀ w, C w → w.rangeAt g off D.toList)
    (hu : P.underlying ty = some d) (hd : d.isRow = true) (hi : (P.info? ty).map (·.size) = some D.size)
    (h : WQ P ops C Q rest (a.put o.dst (.agg D))) : WQ P ops C Q (o :: rest) a :=
  ⟨steady_load_mid hw ty x ho g off hx D.toList d hB hu hd (by simpa using hi) (by simpa using h.out)⟩
theorem q_nil (h : Q a) : WQ P ops C Q [] a := ⟨wpQuiet_nil h⟩
end

theorem q_region {P : Program} {C : World → Prop} {id : Nat} {Q : Exit → Act → World → Prop} {a : Act} {w : World} {l : List Oper} (hm : P.follows .mixedOrders = true) (hB : Region.lexB .any l.toArray = true) (hC : C w.drew)
    (h : WQ P l.toArray C (fun a' => ∀ w', C w' → Q .normal a' w') l a) : (Code.region id l.toArray true).wp P Q a w := steady_region hm hB hC h.out
end Go.Proofs.YtmmgaonlmpajbacGreat
namespace Go.Proofs.YtmmgaonlmpajbacGreat
open Go.RowKit

set_option maxHeartbeats 400000 in
theorem hsaid_any (x : Int) (w : World) : Calls Tryz.prog 82 #[.int .i64 x] w fun e w' => e = .returned (.bool (decide (0 < x))) ∧ w' = w := by
  go_enter Tryz.func82, Tryz.ntmps82
  go_wp2
  go_ret
  exact ⟨rfl, rfl⟩

set_option maxHeartbeats 1000000 in
theorem heard_in (S : Sh) (r : Nat) (hr : r < 6) (w : World) :
    Calls Tryz.prog 85 #[.agg S.cells, .int .i64 (r : Int)] w fun e w' => e = .returned (.int .i64 (heardTo S r 4)) ∧ Below w.heap.size w w' := by
  have hw : win (r : Int) 0 5 = true := by simp [win]; omega
  go_enter Tryz.func85, Tryz.ntmps85
  go_wp2_with (first | (go_at_call 62; refine (bround_any _ _).mono ?_; rintro e w' ⟨rfl, rfl⟩))
  go_quiet (fail)
  go_wp2
  go_loop [7, 18] (fun n i => ∃ k : Nat, k ≤ 4 ∧ i = .int .i64 (k : Int) ∧ n = .int .i64 (heardTo S r k)) (fun _ i => 4 - (intOf i).toNat)
  case atStart => exact ⟨0, by omega, rfl, rfl⟩
  case round =>
    obtain ⟨k, hk, rfl, rfl⟩ := hrel
    have hd := heardTo_le S r k
    by_cases hlt : k < 4
    · have c0 := cells_wi S r k hr hlt
      have d0 := cells_pr S r k hr hlt
      have HS : Hid (heardTo S r (k + 1) = heardTo S r k + cnt S r k) := rfl
      by_cases h1 : 0 < S.wi r k
      · have h1' : decide (0 < S.wi r k) = true := by simp [h1]
        go_wp2_with (first | (go_at_call 82; refine (hsaid_any _ _).mono ?_; rintro e w' ⟨rfl, rfl⟩; rw [h1']))
        go_round
        case rel => exact ⟨k + 1, by omega, by go_num, by rw [HS.out]; simp only [cnt]; rw [if_pos (by omega)]⟩
        case measure => simp [intOf]; omega
      · have h1' : decide (0 < S.wi r k) = false := by simp [h1]
        by_cases h2 : 0 < S.pr r k
        · have h2' : decide (0 < S.pr r k) = true := by simp [h2]
          go_wp2_with (first | (go_at_call 82; refine (hsaid_any _ _).mono ?_; rintro e w' ⟨rfl, rfl⟩; first | rw [h1'] | rw [h2']))
          go_round
          case rel => exact ⟨k + 1, by omega, by go_num, by rw [HS.out]; simp only [cnt]; rw [if_pos (by omega)]⟩
          case measure => simp [intOf]; omega
        · have h2' : decide (0 < S.pr r k) = false := by simp [h2]
          go_wp2_with (first | (go_at_call 82; refine (hsaid_any _ _).mono ?_; rintro e w' ⟨rfl, rfl⟩; first | rw [h1'] | rw [h2']))
          go_round
          case rel => exact ⟨k + 1, by omega, by go_num, by rw [HS.out]; simp only [cnt]; rw [if_neg (by omega)]; go_num⟩
          case measure => simp [intOf]; omega
    · go_wp2
      go_ret
      have hgr : Below w.heap.size w (w.alloc (.cells S.cells 46)) := by go_grown
      exact ⟨ret_int (by rw [show k = 4 by omega]), ⟨hgr.os, hgr.tape, hgr.output, hgr.size, hgr.block⟩⟩

set_option maxHeartbeats 1000000 in
theorem heard_out (S : Sh) (r : Int) (hr : ¬ (0 ≤ r ∧ r ≤ 5)) (w : World) :
    Calls Tryz.prog 85 #[.agg S.cells, .int .i64 r] w fun e w' => e = .returned (.int .i64 0) ∧ Below w.heap.size w w' := by
  have hw : win r 0 5 = false := by simp only [win, hr, decide_false]
  clear hr
  go_enter Tryz.func85, Tryz.ntmps85
  go_wp2_with (first | (go_at_call 62; refine (bround_any _ _).mono ?_; rintro e w' ⟨rfl, rfl⟩))
  go_ret
  exact ⟨rfl, by go_grown⟩

theorem heard_any (S : Sh) (r : Int) (w : World) :
    Calls Tryz.prog 85 #[.agg S.cells, .int .i64 r] w fun e w' => e = .returned (.int .i64 (heardN S r)) ∧ Below w.heap.size w w' := by
  by_cases hr : 0 ≤ r ∧ r ≤ 5
  · obtain ⟨n, rfl⟩ := Int.eq_ofNat_of_zero_le hr.1
    have := heard_in S n (by omega) w
    simpa [heardN, hr] using this
  · have := heard_out S r hr w
    simpa [heardN, hr] using this
end Go.Proofs.YtmmgaonlmpajbacGreat
namespace Go.Proofs.YtmmgaonlmpajbacGreat
open Go.ChangeShapes Go.WideShapes Go.ChangeAt Go.RowKit
set_option maxRecDepth 100000

theorem at_of_take {l : List Value} {a : Nat} {x : Value} (h : (l.drop a).take 1 = [x]) : l[a]? = some x := by
  have := congrArg (fun m : List Value => m[0]?) h
  simpa [List.getElem?_take, List.getElem?_drop] using this

def intAt (C : Array Value) (j : Nat) : Int := match C[j]? with
  | some (.int _ n) => n
  | _ => 0
def boolAt (C : Array Value) (j : Nat) : Bool := match C[j]? with
  | some (.bool b) => b
  | _ => false

section
variable {H : Type} {enc : TypeId × Value → H} {w : World} {base : Nat} {spare : Nat → Bool} {held : Bool}

/-- Votes that are read: each of the four is a number of 64 bits. -/
theorem votes_cells {fuel : Nat} {cs : List Value} {x : DataW H × List MemPlace} (h : DataW.trod enc Tryz.prog w base spare held fuel 43 cs = some x) :
    cs.length = 4 ∧ ∀ i, i < 4 → ∃ n, cs[i]? = some (.int .i64 n) ∧ (Lit.int .i64 n).wf = true := by
  obtain ⟨xs, m, _, _, hl, hn, hx⟩ := DataW.trod_array Tryz.underlying43 h
  refine ⟨by rw [hl]; kernel_rfl, ?_⟩
  intro i hi
  have h1 := hx i hi
  rw [show Tryz.prog.cellsOf 3 = 1 by kernel_rfl, Nat.mul_one] at h1
  have hsome : xs[i]? = some xs[i] := List.getElem?_eq_getElem (by omega)
  rw [hsome] at h1
  obtain ⟨n, e, _, hw⟩ := DataW.trod_int Tryz.underlying3 h1
  exact ⟨n, at_of_take e, hw⟩

theorem call_cells {fuel : Nat} {cs : List Value} {x : DataW H × List MemPlace} (h : DataW.trod enc Tryz.prog w base spare held fuel 41 cs = some x) :
    (∃ b, cs[0]? = some (.bool b)) ∧ (∃ n, cs[1]? = some (.int .i64 n) ∧ (Lit.int .i64 n).wf = true) ∧ (∃ n, cs[2]? = some (.int .i64 n) ∧ (Lit.int .i64 n).wf = true) := by
  obtain ⟨xs, n, _, _, hl, hlen, hfs⟩ := DataW.trod_struct Tryz.underlying41 h
  match xs, hlen with
  | [y0, y1, y2], _ =>
    have g0 : DataW.trod enc Tryz.prog w base spare held n 4 ((cs.drop 0).take (Tryz.prog.cellsOf 4)) = some y0 := hfs 0 _ rfl
    have g1 : DataW.trod enc Tryz.prog w base spare held n 3 ((cs.drop 1).take (Tryz.prog.cellsOf 3)) = some y1 := hfs 1 _ rfl
    have g2 : DataW.trod enc Tryz.prog w base spare held n 3 ((cs.drop 2).take (Tryz.prog.cellsOf 3)) = some y2 := hfs 2 _ rfl
    rw [show Tryz.prog.cellsOf 4 = 1 by kernel_rfl] at g0
    rw [show Tryz.prog.cellsOf 3 = 1 by kernel_rfl] at g1 g2
    obtain ⟨b, e0, _⟩ := DataW.trod_bool Tryz.underlying4 g0
    obtain ⟨p, e1, _, w1⟩ := DataW.trod_int Tryz.underlying3 g1
    obtain ⟨q, e2, _, w2⟩ := DataW.trod_int Tryz.underlying3 g2
    exact ⟨⟨b, at_of_take e0⟩, ⟨p, at_of_take e1, w1⟩, ⟨q, at_of_take e2, w2⟩⟩

theorem rows_cells {fuel : Nat} {cs : List Value} {x : DataW H × List MemPlace} (h : DataW.trod enc Tryz.prog w base spare held fuel 44 cs = some x) :
    ∀ r i, r < 6 → i < 4 → ∃ n, cs[r * 4 + i]? = some (.int .i64 n) ∧ (Lit.int .i64 n).wf = true := by
  obtain ⟨xs, m, _, _, hl, hn, hx⟩ := DataW.trod_array Tryz.underlying44 h
  intro r i hr hi
  have h1 := hx r hr
  rw [show Tryz.prog.cellsOf 43 = 4 by kernel_rfl] at h1
  have hsome : xs[r]? = some xs[r] := List.getElem?_eq_getElem (by omega)
  rw [hsome] at h1
  obtain ⟨_, hv⟩ := votes_cells h1
  obtain ⟨n, e, hw⟩ := hv i hi
  rw [List.getElem?_take, if_pos hi, List.getElem?_drop] at e
  exact ⟨n, e, hw⟩

theorem calls_cells {fuel : Nat} {cs : List Value} {x : DataW H × List MemPlace} (h : DataW.trod enc Tryz.prog w base spare held fuel 42 cs = some x) :
    ∀ r, r < 6 → (∃ b, cs[r * 3]? = some (.bool b)) ∧ (∃ n, cs[r * 3 + 1]? = some (.int .i64 n) ∧ (Lit.int .i64 n).wf = true) ∧ (∃ n, cs[r * 3 + 2]? = some (.int .i64 n) ∧ (Lit.int .i64 n).wf = true) := by
  obtain ⟨xs, m, _, _, hl, hn, hx⟩ := DataW.trod_array Tryz.underlying42 h
  intro r hr
  have h1 := hx r hr
  rw [show Tryz.prog.cellsOf 41 = 3 by kernel_rfl] at h1
  have hsome : xs[r]? = some xs[r] := List.getElem?_eq_getElem (by omega)
  rw [hsome] at h1
  obtain ⟨⟨b, e0⟩, ⟨p, e1, w1⟩, ⟨q, e2, w2⟩⟩ := call_cells h1
  rw [List.getElem?_take, if_pos (by omega), List.getElem?_drop] at e0 e1 e2
  exact ⟨⟨b, e0⟩, ⟨p, e1, w1⟩, ⟨q, e2, w2⟩⟩

theorem okWide_arr {P : Program} {W : World} {r : Reach} {b0 : Nat} {t e : TypeId} {n : Nat} {v : Value} (ht : P.underlying t = some (.array n e)) (h : Value.okWide P W r b0 t v) : ∃ cs, v = .agg cs ∧ cs.size = P.cellsOf t := by
  simp only [Value.okWide, ht] at h
  obtain ⟨cs, h1, h2, _⟩ := h
  exact ⟨cs, h1, h2⟩

theorem open_votes {r : Reach} {b0 : Nat} {u : Value} {d : DataW H} {p : List MemPlace} (hv : Value.okWide Tryz.prog w r b0 43 u) (h : DataW.Trod enc Tryz.prog w base spare held 43 u d p) :
    ∃ V, u = .agg (vcells V) ∧ VBd V := by
  obtain ⟨cs, rfl, hsz⟩ := okWide_arr Tryz.underlying43 hv
  obtain ⟨fuel, hf⟩ := h
  obtain ⟨hl, hc⟩ := votes_cells hf
  have hc' : ∀ i, i < 4 → ∃ n, cs[i]? = some (.int .i64 n) ∧ (Lit.int .i64 n).wf = true := fun i hi => by simpa [Value.cells] using hc i hi
  refine ⟨intAt cs, ?_, ?_⟩
  · congr 1
    apply Array.ext_getElem?
    intro i
    by_cases hi : i < 4
    · obtain ⟨n, e, _⟩ := hc' i hi
      rw [vcells_at _ i hi, e]; simp [intAt, e]
    · rw [Array.getElem?_eq_none (by simp [Value.cells] at hl; omega), Array.getElem?_eq_none (by simp [vcells]; omega)]
  · intro i hi
    obtain ⟨n, e, hw⟩ := hc' i hi
    have : intAt cs i = n := by simp [intAt, e]
    rw [this]; exact bounds_i64 hw

/-- Each number of a sheet is one of 64 bits. -/
structure SBd (S : Sh) : Prop where
  val : ∀ r, r < 6 → -9223372036854775808 ≤ S.val r ∧ S.val r ≤ 9223372036854775807
  vld : ∀ r, r < 6 → -9223372036854775808 ≤ S.vld r ∧ S.vld r ≤ 9223372036854775807
  wi : ∀ r, r < 6 → VBd (S.wi r)
  pr : ∀ r, r < 6 → VBd (S.pr r)

/-- The sheet of 66 cells. -/
def shOf (C : Array Value) : Sh := ⟨fun r => boolAt C (r * 3), fun r => intAt C (r * 3 + 1), fun r => intAt C (r * 3 + 2), fun r i => intAt C (18 + r * 4 + i), fun r i => intAt C (42 + r * 4 + i)⟩

theorem open_sheet {r : Reach} {b0 : Nat} {u : Value} {d : DataW H} {p : List MemPlace} (hv : Value.okWide Tryz.prog w r b0 46 u) (h : DataW.Trod enc Tryz.prog w base spare held 46 u d p) :
    ∃ S : Sh, u = .agg S.cells ∧ SBd S := by
  obtain ⟨cs, rfl, hsz⟩ := okWide_struct Tryz.underlying46 hv
  rw [show Tryz.prog.cellsOf 46 = 66 by kernel_rfl] at hsz
  obtain ⟨fuel, hf⟩ := h
  obtain ⟨xs, n, _, _, hl, hlen, hfs⟩ := DataW.trod_struct Tryz.underlying46 hf
  match xs, hlen with
  | [y0, y1, y2], _ =>
    have g0 : DataW.trod enc Tryz.prog w base spare held n 42 ((cs.toList.drop 0).take (Tryz.prog.cellsOf 42)) = some y0 := hfs 0 _ rfl
    have g1 : DataW.trod enc Tryz.prog w base spare held n 44 ((cs.toList.drop 18).take (Tryz.prog.cellsOf 44)) = some y1 := hfs 1 _ rfl
    have g2 : DataW.trod enc Tryz.prog w base spare held n 44 ((cs.toList.drop 42).take (Tryz.prog.cellsOf 44)) = some y2 := hfs 2 _ rfl
    rw [show Tryz.prog.cellsOf 42 = 18 by kernel_rfl] at g0
    rw [show Tryz.prog.cellsOf 44 = 24 by kernel_rfl] at g1 g2
    have c0 := calls_cells g0
    have c1 := rows_cells g1
    have c2 := rows_cells g2
    have k0 : ∀ r, r < 6 → (∃ b, cs[r * 3]? = some (.bool b)) ∧ (∃ n, cs[r * 3 + 1]? = some (.int .i64 n) ∧ (Lit.int .i64 n).wf = true) ∧ (∃ n, cs[r * 3 + 2]? = some (.int .i64 n) ∧ (Lit.int .i64 n).wf = true) := fun r hr => by
      have := c0 r hr
      simp only [List.drop_zero] at this
      rw [List.getElem?_take, List.getElem?_take, List.getElem?_take, if_pos (by omega), if_pos (by omega), if_pos (by omega)] at this
      simpa using this
    have k1 : ∀ r i, r < 6 → i < 4 → ∃ n, cs[18 + r * 4 + i]? = some (.int .i64 n) ∧ (Lit.int .i64 n).wf = true := fun r i hr hi => by
      have := c1 r i hr hi
      rw [List.getElem?_take, if_pos (by omega), List.getElem?_drop] at this
      simpa [Nat.add_assoc] using this
    have k2 : ∀ r i, r < 6 → i < 4 → ∃ n, cs[42 + r * 4 + i]? = some (.int .i64 n) ∧ (Lit.int .i64 n).wf = true := fun r i hr hi => by
      have := c2 r i hr hi
      rw [List.getElem?_take, if_pos (by omega), List.getElem?_drop] at this
      simpa [Nat.add_assoc] using this
    refine ⟨shOf cs, ?_, ⟨?_, ?_, ?_, ?_⟩⟩
    · congr 1
      apply Array.ext_getElem?
      intro j
      by_cases hj : j < 66
      · rw [cells_at _ j hj]
        have hcase : (∃ r, r < 6 ∧ j = r * 3) ∨ (∃ r, r < 6 ∧ j = r * 3 + 1) ∨ (∃ r, r < 6 ∧ j = r * 3 + 2) ∨ (∃ r i, r < 6 ∧ i < 4 ∧ j = 18 + r * 4 + i) ∨ (∃ r i, r < 6 ∧ i < 4 ∧ j = 42 + r * 4 + i) := by
          by_cases h1 : j < 18
          · have : j % 3 = 0 ∨ j % 3 = 1 ∨ j % 3 = 2 := by omega
            rcases this with h3 | h3 | h3
            · exact Or.inl ⟨j / 3, by omega, by omega⟩
            · exact Or.inr (Or.inl ⟨j / 3, by omega, by omega⟩)
            · exact Or.inr (Or.inr (Or.inl ⟨j / 3, by omega, by omega⟩))
          · by_cases h2 : j < 42
            · exact Or.inr (Or.inr (Or.inr (Or.inl ⟨(j - 18) / 4, (j - 18) % 4, by omega, by omega, by omega⟩)))
            · exact Or.inr (Or.inr (Or.inr (Or.inr ⟨(j - 42) / 4, (j - 42) % 4, by omega, by omega, by omega⟩)))
        rcases hcase with ⟨r, hr, rfl⟩ | ⟨r, hr, rfl⟩ | ⟨r, hr, rfl⟩ | ⟨r, i, hr, hi, rfl⟩ | ⟨r, i, hr, hi, rfl⟩
        · obtain ⟨⟨b, e⟩, _, _⟩ := k0 r hr
          rw [cellAt_is _ r hr, e]; simp [shOf, boolAt, e]
        · obtain ⟨_, ⟨n, e, _⟩, _⟩ := k0 r hr
          rw [cellAt_val _ r hr, e]; simp [shOf, intAt, e]
        · obtain ⟨_, _, ⟨n, e, _⟩⟩ := k0 r hr
          rw [cellAt_vld _ r hr, e]; simp [shOf, intAt, e]
        · obtain ⟨n, e, _⟩ := k1 r i hr hi
          rw [cellAt_wi _ r i hr hi, e]; simp [shOf, intAt, e]
        · obtain ⟨n, e, _⟩ := k2 r i hr hi
          rw [cellAt_pr _ r i hr hi, e]; simp [shOf, intAt, e]
      · rw [Array.getElem?_eq_none (by omega), Array.getElem?_eq_none (by rw [cells_size]; omega)]
    · intro r hr
      obtain ⟨_, ⟨n, e, hw⟩, _⟩ := k0 r hr
      have : (shOf cs).val r = n := by simp [shOf, intAt, e]
      rw [this]; exact bounds_i64 hw
    · intro r hr
      obtain ⟨_, _, ⟨n, e, hw⟩⟩ := k0 r hr
      have : (shOf cs).vld r = n := by simp [shOf, intAt, e]
      rw [this]; exact bounds_i64 hw
    · intro r hr i hi
      obtain ⟨n, e, hw⟩ := k1 r i hr hi
      have : (shOf cs).wi r i = n := by simp [shOf, intAt, e]
      rw [this]; exact bounds_i64 hw
    · intro r hr i hi
      obtain ⟨n, e, hw⟩ := k2 r i hr hi
      have : (shOf cs).pr r i = n := by simp [shOf, intAt, e]
      rw [this]; exact bounds_i64 hw
end
end Go.Proofs.YtmmgaonlmpajbacGreat
