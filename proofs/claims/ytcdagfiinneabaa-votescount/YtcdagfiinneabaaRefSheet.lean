/-
  What the document's own answer says: IsSheet.
-/
import Derived.Test.YtcdagfiinneabaaSheet
import Derived.Test.YtcdagfiinneabaaRefWord
namespace Go.Proofs.Ytcdagfiinneabaa
open Go.RowKit

def okCall (S : Sh) (r : Nat) : Bool := if S.is r then win (S.val r) 1 9 && win (S.vld r) (-1) ((r : Int) - 1) else S.val r == 0 && S.vld r == 0
def okVote (S : Sh) (r i : Nat) : Bool := win (S.wi r i) 0 10 && win (S.pr r i) 0 10
def okVotes (S : Sh) (r : Nat) : Nat → Bool
  | 0 => true
  | n + 1 => okVotes S r n && okVote S r n
def okTo (S : Sh) : Nat → Bool
  | 0 => true
  | n + 1 => okTo S n && okCall S n && okVotes S n 4
/-- Is it a sheet? -/
def goodS (S : Sh) : Bool := okTo S 6

theorem SheetAt.is {W : World} {b : Nat} {S : Sh} (h : SheetAt W b S) (r : Nat) (hr : r < 6) : W.cell? ⟨b, r * 3, none⟩ = some (.bool (S.is r)) := by
  rw [h.cell _ (by omega), cellAt_is S r hr]
theorem SheetAt.val {W : World} {b : Nat} {S : Sh} (h : SheetAt W b S) (r : Nat) (hr : r < 6) : W.cell? ⟨b, r * 3 + 1, none⟩ = some (.int .i64 (S.val r)) := by
  rw [h.cell _ (by omega), cellAt_val S r hr]
theorem SheetAt.vld {W : World} {b : Nat} {S : Sh} (h : SheetAt W b S) (r : Nat) (hr : r < 6) : W.cell? ⟨b, r * 3 + 2, none⟩ = some (.int .i64 (S.vld r)) := by
  rw [h.cell _ (by omega), cellAt_vld S r hr]

def okIn (S : Sh) (k m : Nat) : Bool := okTo S k && okCall S k && okVotes S k m
theorem okIn_succ (S : Sh) (k m : Nat) : okIn S k (m + 1) = (okIn S k m && okVote S k m) := by
  simp [okIn, okVotes, Bool.and_assoc]
theorem SheetAt.lt {W : World} {b : Nat} {S : Sh} (h : SheetAt W b S) : b < W.heap.size := World.block_lt_of_cell? W _ (h.cell 0 (by omega))

set_option maxHeartbeats 2000000 in
theorem isSheet_any (S : Sh) (w : World) :
    Calls Try.prog 34 #[.agg S.cells] w fun e w' => e = .returned (.bool (goodS S)) ∧ Below w.heap.size w w' := by
  have hS0 := sheet_new w S
  go_enter Try.func34, Try.ntmps34
  go_wp2
  go_loopw [3, 7] (fun ok i W => ∃ k : Nat, k ≤ 6 ∧ i = .int .i64 (k : Int) ∧ ok = .bool (okTo S k) ∧ SheetAt W w.heap.size S ∧ Below w.heap.size w W) (fun _ i _ => 6 - (intOf i).toNat)
  case atStart => exact ⟨0, by omega, rfl, rfl, hS0, by go_grown⟩
  case round =>
    obtain ⟨k, hk, rfl, rfl, hS, hB⟩ := hrel
    by_cases hlt : k < 6
    · have c0 := hS.is k hlt
      have c1 := hS.val k hlt
      have c2 := hS.vld k hlt
      go_wp2_with (first | (go_at_call 41; refine (rwithin_any _ _ _ _).mono ?_; rintro e w' ⟨rfl, rfl⟩))
      all_goals
        go_loop [3, 40] (fun ok i => ∃ m : Nat, m ≤ 4 ∧ i = .int .i64 (m : Int) ∧ ok = .bool (okIn S k m)) (fun _ i => 4 - (intOf i).toNat)
        case atStart => exact ⟨0, by omega, rfl, congrArg Value.bool (by simp_all [okIn, okCall, okVotes])⟩
        case round =>
          obtain ⟨m, hm, rfl, rfl⟩ := hrel
          have hz := hS.lt
          by_cases hml : m < 4
          · have c3 := hS.wi k m hlt hml
            have c4 := hS.pr k m hlt hml
            have HS : Hid (okIn S k (m + 1) = (okIn S k m && okVote S k m)) := okIn_succ S k m
            go_wp2_with (first | (go_at_call 41; refine (rwithin_any _ _ _ _).mono ?_; rintro e w' ⟨rfl, rfl⟩))
            all_goals
              go_round
              case rel => exact ⟨m + 1, by omega, by go_num, congrArg Value.bool (by rw [HS.out]; simp_all [okVote])⟩
              case measure => simp [intOf]; omega
          · go_wp2
            go_roundw
            case rel => exact ⟨k + 1, by omega, by go_num, congrArg Value.bool (by rw [show m = 4 by omega]; rfl), sheet_below hS (by go_grown), by go_grown⟩
            case measure => simp [intOf]; omega
    · go_wp2
      go_ret
      exact ⟨ret_bool (by unfold goodS; rw [show k = 6 by omega]), hB⟩
end Go.Proofs.Ytcdagfiinneabaa
