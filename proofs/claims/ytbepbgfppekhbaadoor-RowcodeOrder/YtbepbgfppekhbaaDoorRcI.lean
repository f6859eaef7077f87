/-
  The walks of (*rowcode.Digest).Add, Sum and Len.
-/
import Derived.Test.YtbepbgfppekhbaaDoorRcH
import Derived.Deep.RegionWith
namespace Go.Proofs.YtbepbgfppekhbaaDoor
open Go.RowKit Go.Shelf

end Go.Proofs.YtbepbgfppekhbaaDoor
