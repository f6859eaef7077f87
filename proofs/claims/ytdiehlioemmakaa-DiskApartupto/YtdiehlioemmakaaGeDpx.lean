/-
  The walk of locksteplaw04's starts.
-/
import Derived.Test.YtdiehlioemmakaaGeCpx
namespace Go.Proofs.Ytdiehlioemmakaa
open Go.RowKit Go.Maps Go.Joins

end Go.Proofs.Ytdiehlioemmakaa

