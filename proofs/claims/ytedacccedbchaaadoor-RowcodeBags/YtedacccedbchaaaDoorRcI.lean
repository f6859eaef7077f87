/-
  The walks of (*rowcode.Digest).Add, Sum and Len.
-/
import Derived.Test.YtedacccedbchaaaDoorRcH
import Derived.Deep.RegionWith
namespace Go.Proofs.YtedacccedbchaaaDoor
open Go.RowKit Go.Shelf

end Go.Proofs.YtedacccedbchaaaDoor
