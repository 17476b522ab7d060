/-
  keep's same, of nodes that are alike but for the queue's slice.
-/
import Derived.Test.YtmmgaonlmpajbacNodeB
namespace Go.Proofs.Ytmmgaonlmpajbac
open Go.RowKit

end Go.Proofs.Ytmmgaonlmpajbac
