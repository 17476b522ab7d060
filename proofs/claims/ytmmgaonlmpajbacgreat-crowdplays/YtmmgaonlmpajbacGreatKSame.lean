/-
  keep's same, of nodes that are alike but for the queue's slice.
-/
import Derived.Test.YtmmgaonlmpajbacGreatNodeB
namespace Go.Proofs.YtmmgaonlmpajbacGreat
open Go.RowKit

end Go.Proofs.YtmmgaonlmpajbacGreat
