/-
  The statement TopAgree.
-/
import Derived.Test.YtmmgaonlmpajbacTPlay
import Derived.Test.YtmmgaonlmpajbacTopInv
namespace Go.Proofs.Ytmmgaonlmpajbac
open Go.RowKit

theorem playC_TI {liar : Int} (hl : -1 ≤ liar ∧ liar ≤ 3) (l : List Ac) : ∀ k, TI (playC liar l k)
  | 0 => new_TI hl
  | k + 1 => by
    cases h : l[k]? with
    | none =>
      have e : playC liar l (k + 1) = playC liar l k := by
        unfold playC
        rw [List.take_add_one, h]; simp
      rw [e]; exact playC_TI hl l k
    | some a => rw [playC_succ h]; exact do_TI (playC_TI hl l k) a

abbrev z4 : Array Value := #[.int .i64 0, .int .i64 0, .int .i64 0, .int .i64 0]

end Go.Proofs.Ytmmgaonlmpajbac
