/-
  No cell of these rows narrows 'for every input' (looked for: loops, veiled, ifaces, maps, wideKeys, modest, calm, conditions, laid).
  DERIVED. THE GIVEN ROWS OF THIS SEAT. 12 by the template 'for every input the law returns true; each argument reads behind the call as it read before'; 0 by the template 'total and deterministic' (their statements: YtmmgaonlmpajbabTotals.lean).
  GIVEN WITH THE SEED: the statements are not yours to turn. If you find one false, say at which input.
  Laid BY PROGRAM, IN A SANDBOX (cutbox-rows.mjs): the forced cells as the released guide's own fill.sh prints them over the translation 8c2ca42a2a03e1da… (all of the seat's roots in one cut). By AI agents, Wed Nov 11 2026. No macro, syntax, notation, axiom, sorry.
-/
import Derived.Test.YtmmgaonlmpajbabChecked
import GoSem.Claim
import GoSem.ClaimJoined
import GoSem.ClaimMapViews
import Derived.JoinedTies
import Derived.KernelRfl
namespace Go.Proofs.Ytmmgaonlmpajbab
/- THE CELL 'sum', in the pinned program and in every row, IS THE sha256 OF THE DUMP (.gsa) THAT YtmmgaonlmpajbabProg.lean LOADS. Nothing in Lean hashes anything: it is a label: what it is worth is what the hold of that sum in a sandbox is worth. -/
noncomputable def Try.pinned : Pinned := { name := "ytmmgaonlmpajbab", sum := "8c2ca42a2a03e1daea44dd8d8cb88de1cff727b61a817a96e7ee69187637a71a", checked := Try.checked }
namespace Rows
def none {H : Type} : Left H := { results := [], args := [] }

/-- 'yokefellowkeep.NodeSettles': WHATEVER THE INPUT: true; the input reads as it did. -/
def nodeSettlesSpec : ChangeSpec := { name := "nodeSettles", fn := fun _ => fun
  | [d1, d2, d3] => { results := [.lit (.bool true)], args := [d1, d2, d3] }
  | _ => none }
def nodeSettlesRow : OpenClaim := { program := "ytmmgaonlmpajbab", sum := "8c2ca42a2a03e1daea44dd8d8cb88de1cff727b61a817a96e7ee69187637a71a", func := "yokefellow/yokefellowkeep.NodeSettles", spec := "nodeSettles", unfollowed := true, recurses := true, plainKeys := false, apart := false }
def NodeSettlesSaid : Prop := nodeSettlesRow.holds Try.pinned (OpenSpec.ofChange nodeSettlesSpec)

/-- ITS FALSE NEIGHBOUR: 'it returns false'. Refute it at one input. -/
def nodeSettlesWrong : ChangeSpec := { name := "nodeSettles", fn := fun _ => fun
  | [d1, d2, d3] => { results := [.lit (.bool false)], args := [d1, d2, d3] }
  | _ => none }
def NodeSettlesWrongFalsely : Prop := nodeSettlesRow.holds Try.pinned (OpenSpec.ofChange nodeSettlesWrong)

/-- 'yokefellowlaw.CrowdTakes': WHATEVER THE INPUT: true; the input reads as it did. -/
def crowdTakesSpec : ChangeSpec := { name := "crowdTakes", fn := fun _ => fun
  | [d] => { results := [.lit (.bool true)], args := [d] }
  | _ => none }
def crowdTakesRow : OpenClaim := { program := "ytmmgaonlmpajbab", sum := "8c2ca42a2a03e1daea44dd8d8cb88de1cff727b61a817a96e7ee69187637a71a", func := "yokefellow/yokefellowlaw.CrowdTakes", spec := "crowdTakes", unfollowed := true, recurses := true, plainKeys := false, apart := false }
def CrowdTakesSaid : Prop := crowdTakesRow.holds Try.pinned (OpenSpec.ofChange crowdTakesSpec)

/-- ITS FALSE NEIGHBOUR: 'it returns false'. Refute it at one input. -/
def crowdTakesWrong : ChangeSpec := { name := "crowdTakes", fn := fun _ => fun
  | [d] => { results := [.lit (.bool false)], args := [d] }
  | _ => none }
def CrowdTakesWrongFalsely : Prop := crowdTakesRow.holds Try.pinned (OpenSpec.ofChange crowdTakesWrong)

/-- 'yokefellowlaw.CrowdNil': WHATEVER THE INPUT: true; the input reads as it did. -/
def crowdNilSpec : ChangeSpec := { name := "crowdNil", fn := fun _ => fun
  | [d1, d2] => { results := [.lit (.bool true)], args := [d1, d2] }
  | _ => none }
def crowdNilRow : OpenClaim := { program := "ytmmgaonlmpajbab", sum := "8c2ca42a2a03e1daea44dd8d8cb88de1cff727b61a817a96e7ee69187637a71a", func := "yokefellow/yokefellowlaw.CrowdNil", spec := "crowdNil", unfollowed := true, recurses := true, plainKeys := false, apart := false }
def CrowdNilSaid : Prop := crowdNilRow.holds Try.pinned (OpenSpec.ofChange crowdNilSpec)

/-- ITS FALSE NEIGHBOUR: 'it returns false'. Refute it at one input. -/
def crowdNilWrong : ChangeSpec := { name := "crowdNil", fn := fun _ => fun
  | [d1, d2] => { results := [.lit (.bool false)], args := [d1, d2] }
  | _ => none }
def CrowdNilWrongFalsely : Prop := crowdNilRow.holds Try.pinned (OpenSpec.ofChange crowdNilWrong)

/-- 'yokefellowkeep.CrowdTrue': WHATEVER THE INPUT: true; the input reads as it did. -/
def crowdTrueSpec : ChangeSpec := { name := "crowdTrue", fn := fun _ => fun
  | [d1, d2, d3, d4] => { results := [.lit (.bool true)], args := [d1, d2, d3, d4] }
  | _ => none }
def crowdTrueRow : OpenClaim := { program := "ytmmgaonlmpajbab", sum := "8c2ca42a2a03e1daea44dd8d8cb88de1cff727b61a817a96e7ee69187637a71a", func := "yokefellow/yokefellowkeep.CrowdTrue", spec := "crowdTrue", unfollowed := true, recurses := true, plainKeys := false, apart := false }
def CrowdTrueSaid : Prop := crowdTrueRow.holds Try.pinned (OpenSpec.ofChange crowdTrueSpec)

/-- ITS FALSE NEIGHBOUR: 'it returns false'. Refute it at one input. -/
def crowdTrueWrong : ChangeSpec := { name := "crowdTrue", fn := fun _ => fun
  | [d1, d2, d3, d4] => { results := [.lit (.bool false)], args := [d1, d2, d3, d4] }
  | _ => none }
def CrowdTrueWrongFalsely : Prop := crowdTrueRow.holds Try.pinned (OpenSpec.ofChange crowdTrueWrong)

/-- 'yokefellowtop.TopAgree': WHATEVER THE INPUT: true; the input reads as it did. -/
def topAgreeSpec : ChangeSpec := { name := "topAgree", fn := fun _ => fun
  | [d1, d2] => { results := [.lit (.bool true)], args := [d1, d2] }
  | _ => none }
def topAgreeRow : OpenClaim := { program := "ytmmgaonlmpajbab", sum := "8c2ca42a2a03e1daea44dd8d8cb88de1cff727b61a817a96e7ee69187637a71a", func := "yokefellow/yokefellowtop.TopAgree", spec := "topAgree", unfollowed := true, recurses := true, plainKeys := false, apart := false }
def TopAgreeSaid : Prop := topAgreeRow.holds Try.pinned (OpenSpec.ofChange topAgreeSpec)

/-- ITS FALSE NEIGHBOUR: 'it returns false'. Refute it at one input. -/
def topAgreeWrong : ChangeSpec := { name := "topAgree", fn := fun _ => fun
  | [d1, d2] => { results := [.lit (.bool false)], args := [d1, d2] }
  | _ => none }
def TopAgreeWrongFalsely : Prop := topAgreeRow.holds Try.pinned (OpenSpec.ofChange topAgreeWrong)

/-- 'yokefellowtop.TopStays': WHATEVER THE INPUT: true; the input reads as it did. -/
def topStaysSpec : ChangeSpec := { name := "topStays", fn := fun _ => fun
  | [d1, d2] => { results := [.lit (.bool true)], args := [d1, d2] }
  | _ => none }
def topStaysRow : OpenClaim := { program := "ytmmgaonlmpajbab", sum := "8c2ca42a2a03e1daea44dd8d8cb88de1cff727b61a817a96e7ee69187637a71a", func := "yokefellow/yokefellowtop.TopStays", spec := "topStays", unfollowed := true, recurses := true, plainKeys := false, apart := false }
def TopStaysSaid : Prop := topStaysRow.holds Try.pinned (OpenSpec.ofChange topStaysSpec)

/-- ITS FALSE NEIGHBOUR: 'it returns false'. Refute it at one input. -/
def topStaysWrong : ChangeSpec := { name := "topStays", fn := fun _ => fun
  | [d1, d2] => { results := [.lit (.bool false)], args := [d1, d2] }
  | _ => none }
def TopStaysWrongFalsely : Prop := topStaysRow.holds Try.pinned (OpenSpec.ofChange topStaysWrong)

/-- 'yokefellowtop.TopClients': WHATEVER THE INPUT: true; the input reads as it did. -/
def topClientsSpec : ChangeSpec := { name := "topClients", fn := fun _ => fun
  | [d1, d2, d3] => { results := [.lit (.bool true)], args := [d1, d2, d3] }
  | _ => none }
def topClientsRow : OpenClaim := { program := "ytmmgaonlmpajbab", sum := "8c2ca42a2a03e1daea44dd8d8cb88de1cff727b61a817a96e7ee69187637a71a", func := "yokefellow/yokefellowtop.TopClients", spec := "topClients", unfollowed := true, recurses := true, plainKeys := false, apart := false }
def TopClientsSaid : Prop := topClientsRow.holds Try.pinned (OpenSpec.ofChange topClientsSpec)

/-- ITS FALSE NEIGHBOUR: 'it returns false'. Refute it at one input. -/
def topClientsWrong : ChangeSpec := { name := "topClients", fn := fun _ => fun
  | [d1, d2, d3] => { results := [.lit (.bool false)], args := [d1, d2, d3] }
  | _ => none }
def TopClientsWrongFalsely : Prop := topClientsRow.holds Try.pinned (OpenSpec.ofChange topClientsWrong)

/-- 'yokefellowtop.TopOrigin': WHATEVER THE INPUT: true; the input reads as it did. -/
def topOriginSpec : ChangeSpec := { name := "topOrigin", fn := fun _ => fun
  | [d1, d2] => { results := [.lit (.bool true)], args := [d1, d2] }
  | _ => none }
def topOriginRow : OpenClaim := { program := "ytmmgaonlmpajbab", sum := "8c2ca42a2a03e1daea44dd8d8cb88de1cff727b61a817a96e7ee69187637a71a", func := "yokefellow/yokefellowtop.TopOrigin", spec := "topOrigin", unfollowed := true, recurses := true, plainKeys := false, apart := false }
def TopOriginSaid : Prop := topOriginRow.holds Try.pinned (OpenSpec.ofChange topOriginSpec)

/-- ITS FALSE NEIGHBOUR: 'it returns false'. Refute it at one input. -/
def topOriginWrong : ChangeSpec := { name := "topOrigin", fn := fun _ => fun
  | [d1, d2] => { results := [.lit (.bool false)], args := [d1, d2] }
  | _ => none }
def TopOriginWrongFalsely : Prop := topOriginRow.holds Try.pinned (OpenSpec.ofChange topOriginWrong)

/-- 'yokefellowtop.TopTrue': WHATEVER THE INPUT: true; the input reads as it did. -/
def topTrueSpec : ChangeSpec := { name := "topTrue", fn := fun _ => fun
  | [d1, d2] => { results := [.lit (.bool true)], args := [d1, d2] }
  | _ => none }
def topTrueRow : OpenClaim := { program := "ytmmgaonlmpajbab", sum := "8c2ca42a2a03e1daea44dd8d8cb88de1cff727b61a817a96e7ee69187637a71a", func := "yokefellow/yokefellowtop.TopTrue", spec := "topTrue", unfollowed := true, recurses := true, plainKeys := false, apart := false }
def TopTrueSaid : Prop := topTrueRow.holds Try.pinned (OpenSpec.ofChange topTrueSpec)

/-- ITS FALSE NEIGHBOUR: 'it returns false'. Refute it at one input. -/
def topTrueWrong : ChangeSpec := { name := "topTrue", fn := fun _ => fun
  | [d1, d2] => { results := [.lit (.bool false)], args := [d1, d2] }
  | _ => none }
def TopTrueWrongFalsely : Prop := topTrueRow.holds Try.pinned (OpenSpec.ofChange topTrueWrong)

/-- 'yokefellowtop.TopBound': WHATEVER THE INPUT: true; the input reads as it did. -/
def topBoundSpec : ChangeSpec := { name := "topBound", fn := fun _ => fun
  | [d1, d2] => { results := [.lit (.bool true)], args := [d1, d2] }
  | _ => none }
def topBoundRow : OpenClaim := { program := "ytmmgaonlmpajbab", sum := "8c2ca42a2a03e1daea44dd8d8cb88de1cff727b61a817a96e7ee69187637a71a", func := "yokefellow/yokefellowtop.TopBound", spec := "topBound", unfollowed := true, recurses := true, plainKeys := false, apart := false }
def TopBoundSaid : Prop := topBoundRow.holds Try.pinned (OpenSpec.ofChange topBoundSpec)

/-- ITS FALSE NEIGHBOUR: 'it returns false'. Refute it at one input. -/
def topBoundWrong : ChangeSpec := { name := "topBound", fn := fun _ => fun
  | [d1, d2] => { results := [.lit (.bool false)], args := [d1, d2] }
  | _ => none }
def TopBoundWrongFalsely : Prop := topBoundRow.holds Try.pinned (OpenSpec.ofChange topBoundWrong)

/-- 'yokefellowtop.TopWorks': WHATEVER THE INPUT: true; the input reads as it did. -/
def topWorksSpec : ChangeSpec := { name := "topWorks", fn := fun _ => fun
  | [d1, d2, d3] => { results := [.lit (.bool true)], args := [d1, d2, d3] }
  | _ => none }
def topWorksRow : OpenClaim := { program := "ytmmgaonlmpajbab", sum := "8c2ca42a2a03e1daea44dd8d8cb88de1cff727b61a817a96e7ee69187637a71a", func := "yokefellow/yokefellowtop.TopWorks", spec := "topWorks", unfollowed := true, recurses := true, plainKeys := false, apart := false }
def TopWorksSaid : Prop := topWorksRow.holds Try.pinned (OpenSpec.ofChange topWorksSpec)

/-- ITS FALSE NEIGHBOUR: 'it returns false'. Refute it at one input. -/
def topWorksWrong : ChangeSpec := { name := "topWorks", fn := fun _ => fun
  | [d1, d2, d3] => { results := [.lit (.bool false)], args := [d1, d2, d3] }
  | _ => none }
def TopWorksWrongFalsely : Prop := topWorksRow.holds Try.pinned (OpenSpec.ofChange topWorksWrong)

/-- 'yokefellowtop.TopAgain': WHATEVER THE INPUT: true; the input reads as it did. -/
def topAgainSpec : ChangeSpec := { name := "topAgain", fn := fun _ => fun
  | [d1, d2, d3] => { results := [.lit (.bool true)], args := [d1, d2, d3] }
  | _ => none }
def topAgainRow : OpenClaim := { program := "ytmmgaonlmpajbab", sum := "8c2ca42a2a03e1daea44dd8d8cb88de1cff727b61a817a96e7ee69187637a71a", func := "yokefellow/yokefellowtop.TopAgain", spec := "topAgain", unfollowed := true, recurses := true, plainKeys := false, apart := false }
def TopAgainSaid : Prop := topAgainRow.holds Try.pinned (OpenSpec.ofChange topAgainSpec)

/-- ITS FALSE NEIGHBOUR: 'it returns false'. Refute it at one input. -/
def topAgainWrong : ChangeSpec := { name := "topAgain", fn := fun _ => fun
  | [d1, d2, d3] => { results := [.lit (.bool false)], args := [d1, d2, d3] }
  | _ => none }
def TopAgainWrongFalsely : Prop := topAgainRow.holds Try.pinned (OpenSpec.ofChange topAgainWrong)

/- THE SECOND FORM. 'bulk': how many values and letters a reading holds, each counted each time it is reached (what is shared counts as often as it is met; a slice's spare places count too). A statement '..UptoSaid' is the law's where the arguments, and the package variables that the reading takes, are together of bulk at most 1048576: NARROWER than '..Said'. Prove '..Said' where nothing that the law and all that it calls make is longer than what came in: it says more and counts as full. Else prove '..UptoSaid'. A law counts once. -/
mutual
def uptoBulk {H : Type} : DataW H → Nat
  | .lit (.string bytes) => bytes.length + 1
  | .lit _ => 1
  | .nil => 1
  | .ptr d => uptoBulk d + 1
  | .slice elems spare => uptoBulkAll elems + uptoBulkAll spare + 1
  | .agg parts => uptoBulkAll parts + 1
  | .iface _ d => uptoBulk d + 1
  | .map entries => uptoBulkEntries entries + 1
  | .held _ => 1
def uptoBulkAll {H : Type} : List (DataW H) → Nat
  | [] => 0
  | d :: r => uptoBulk d + uptoBulkAll r
def uptoBulkEntries {H : Type} : List (Lit × DataW H) → Nat
  | [] => 0
  | x :: r => uptoBulkEntry x + uptoBulkEntries r
def uptoBulkEntry {H : Type} : Lit × DataW H → Nat
  | (.string bytes, d) => bytes.length + uptoBulk d + 1
  | (_, d) => uptoBulk d + 1
 end
def uptoSmall : (H : Type) → List (DataW H) → Bool := fun _ ds => decide (uptoBulkAll ds ≤ 1048576)
def OpenSpec.upto (s : _root_.Go.ChangeSpec) : _root_.Go.OpenSpec := { _root_.Go.OpenSpec.ofChange s with cond := some uptoSmall }

/-- 'yokefellowkeep.NodeSettles', WHERE WHAT IT READS IS OF BULK AT MOST 1048576: true; the input reads as it did. -/
def nodeSettlesUptoRow : OpenClaim := { program := "ytmmgaonlmpajbab", sum := "8c2ca42a2a03e1daea44dd8d8cb88de1cff727b61a817a96e7ee69187637a71a", func := "yokefellow/yokefellowkeep.NodeSettles", spec := "nodeSettles", unfollowed := true, recurses := true, plainKeys := false, apart := false, narrowed := true }
def NodeSettlesUptoSaid : Prop := nodeSettlesUptoRow.holds Try.pinned (OpenSpec.upto nodeSettlesSpec)

/-- 'yokefellowlaw.CrowdTakes', WHERE WHAT IT READS IS OF BULK AT MOST 1048576: true; the input reads as it did. -/
def crowdTakesUptoRow : OpenClaim := { program := "ytmmgaonlmpajbab", sum := "8c2ca42a2a03e1daea44dd8d8cb88de1cff727b61a817a96e7ee69187637a71a", func := "yokefellow/yokefellowlaw.CrowdTakes", spec := "crowdTakes", unfollowed := true, recurses := true, plainKeys := false, apart := false, narrowed := true }
def CrowdTakesUptoSaid : Prop := crowdTakesUptoRow.holds Try.pinned (OpenSpec.upto crowdTakesSpec)

/-- 'yokefellowlaw.CrowdNil', WHERE WHAT IT READS IS OF BULK AT MOST 1048576: true; the input reads as it did. -/
def crowdNilUptoRow : OpenClaim := { program := "ytmmgaonlmpajbab", sum := "8c2ca42a2a03e1daea44dd8d8cb88de1cff727b61a817a96e7ee69187637a71a", func := "yokefellow/yokefellowlaw.CrowdNil", spec := "crowdNil", unfollowed := true, recurses := true, plainKeys := false, apart := false, narrowed := true }
def CrowdNilUptoSaid : Prop := crowdNilUptoRow.holds Try.pinned (OpenSpec.upto crowdNilSpec)

/-- 'yokefellowkeep.CrowdTrue', WHERE WHAT IT READS IS OF BULK AT MOST 1048576: true; the input reads as it did. -/
def crowdTrueUptoRow : OpenClaim := { program := "ytmmgaonlmpajbab", sum := "8c2ca42a2a03e1daea44dd8d8cb88de1cff727b61a817a96e7ee69187637a71a", func := "yokefellow/yokefellowkeep.CrowdTrue", spec := "crowdTrue", unfollowed := true, recurses := true, plainKeys := false, apart := false, narrowed := true }
def CrowdTrueUptoSaid : Prop := crowdTrueUptoRow.holds Try.pinned (OpenSpec.upto crowdTrueSpec)

/-- 'yokefellowtop.TopAgree', WHERE WHAT IT READS IS OF BULK AT MOST 1048576: true; the input reads as it did. -/
def topAgreeUptoRow : OpenClaim := { program := "ytmmgaonlmpajbab", sum := "8c2ca42a2a03e1daea44dd8d8cb88de1cff727b61a817a96e7ee69187637a71a", func := "yokefellow/yokefellowtop.TopAgree", spec := "topAgree", unfollowed := true, recurses := true, plainKeys := false, apart := false, narrowed := true }
def TopAgreeUptoSaid : Prop := topAgreeUptoRow.holds Try.pinned (OpenSpec.upto topAgreeSpec)

/-- 'yokefellowtop.TopStays', WHERE WHAT IT READS IS OF BULK AT MOST 1048576: true; the input reads as it did. -/
def topStaysUptoRow : OpenClaim := { program := "ytmmgaonlmpajbab", sum := "8c2ca42a2a03e1daea44dd8d8cb88de1cff727b61a817a96e7ee69187637a71a", func := "yokefellow/yokefellowtop.TopStays", spec := "topStays", unfollowed := true, recurses := true, plainKeys := false, apart := false, narrowed := true }
def TopStaysUptoSaid : Prop := topStaysUptoRow.holds Try.pinned (OpenSpec.upto topStaysSpec)

/-- 'yokefellowtop.TopClients', WHERE WHAT IT READS IS OF BULK AT MOST 1048576: true; the input reads as it did. -/
def topClientsUptoRow : OpenClaim := { program := "ytmmgaonlmpajbab", sum := "8c2ca42a2a03e1daea44dd8d8cb88de1cff727b61a817a96e7ee69187637a71a", func := "yokefellow/yokefellowtop.TopClients", spec := "topClients", unfollowed := true, recurses := true, plainKeys := false, apart := false, narrowed := true }
def TopClientsUptoSaid : Prop := topClientsUptoRow.holds Try.pinned (OpenSpec.upto topClientsSpec)

/-- 'yokefellowtop.TopOrigin', WHERE WHAT IT READS IS OF BULK AT MOST 1048576: true; the input reads as it did. -/
def topOriginUptoRow : OpenClaim := { program := "ytmmgaonlmpajbab", sum := "8c2ca42a2a03e1daea44dd8d8cb88de1cff727b61a817a96e7ee69187637a71a", func := "yokefellow/yokefellowtop.TopOrigin", spec := "topOrigin", unfollowed := true, recurses := true, plainKeys := false, apart := false, narrowed := true }
def TopOriginUptoSaid : Prop := topOriginUptoRow.holds Try.pinned (OpenSpec.upto topOriginSpec)

/-- 'yokefellowtop.TopTrue', WHERE WHAT IT READS IS OF BULK AT MOST 1048576: true; the input reads as it did. -/
def topTrueUptoRow : OpenClaim := { program := "ytmmgaonlmpajbab", sum := "8c2ca42a2a03e1daea44dd8d8cb88de1cff727b61a817a96e7ee69187637a71a", func := "yokefellow/yokefellowtop.TopTrue", spec := "topTrue", unfollowed := true, recurses := true, plainKeys := false, apart := false, narrowed := true }
def TopTrueUptoSaid : Prop := topTrueUptoRow.holds Try.pinned (OpenSpec.upto topTrueSpec)

/-- 'yokefellowtop.TopBound', WHERE WHAT IT READS IS OF BULK AT MOST 1048576: true; the input reads as it did. -/
def topBoundUptoRow : OpenClaim := { program := "ytmmgaonlmpajbab", sum := "8c2ca42a2a03e1daea44dd8d8cb88de1cff727b61a817a96e7ee69187637a71a", func := "yokefellow/yokefellowtop.TopBound", spec := "topBound", unfollowed := true, recurses := true, plainKeys := false, apart := false, narrowed := true }
def TopBoundUptoSaid : Prop := topBoundUptoRow.holds Try.pinned (OpenSpec.upto topBoundSpec)

/-- 'yokefellowtop.TopWorks', WHERE WHAT IT READS IS OF BULK AT MOST 1048576: true; the input reads as it did. -/
def topWorksUptoRow : OpenClaim := { program := "ytmmgaonlmpajbab", sum := "8c2ca42a2a03e1daea44dd8d8cb88de1cff727b61a817a96e7ee69187637a71a", func := "yokefellow/yokefellowtop.TopWorks", spec := "topWorks", unfollowed := true, recurses := true, plainKeys := false, apart := false, narrowed := true }
def TopWorksUptoSaid : Prop := topWorksUptoRow.holds Try.pinned (OpenSpec.upto topWorksSpec)

/-- 'yokefellowtop.TopAgain', WHERE WHAT IT READS IS OF BULK AT MOST 1048576: true; the input reads as it did. -/
def topAgainUptoRow : OpenClaim := { program := "ytmmgaonlmpajbab", sum := "8c2ca42a2a03e1daea44dd8d8cb88de1cff727b61a817a96e7ee69187637a71a", func := "yokefellow/yokefellowtop.TopAgain", spec := "topAgain", unfollowed := true, recurses := true, plainKeys := false, apart := false, narrowed := true }
def TopAgainUptoSaid : Prop := topAgainUptoRow.holds Try.pinned (OpenSpec.upto topAgainSpec)

end Rows
end Go.Proofs.Ytmmgaonlmpajbab
