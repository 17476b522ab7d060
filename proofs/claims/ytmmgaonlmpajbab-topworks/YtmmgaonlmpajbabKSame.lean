/-
  keep's same, of nodes that are alike but for the queue's slice.
-/
import Derived.Test.YtmmgaonlmpajbabNodeB
namespace Go.Proofs.Ytmmgaonlmpajbab
open Go.RowKit

end Go.Proofs.Ytmmgaonlmpajbab
