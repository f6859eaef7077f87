/-
  The walks of (*rowcode.Digest).Add, Sum and Len.
-/
import Derived.Test.YtlikpomkcfiafaaDoorRcH
import Derived.Deep.RegionWith
namespace Go.Proofs.YtlikpomkcfiafaaDoor
open Go.RowKit Go.Shelf

end Go.Proofs.YtlikpomkcfiafaaDoor
