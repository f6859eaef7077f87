/-
  The walk of locksteplaw04's starts.
-/
import Derived.Test.YtdiehlioemmakaaGeCqx
namespace Go.Proofs.Ytdiehlioemmakaa
open Go.RowKit Go.Maps Go.Joins

end Go.Proofs.Ytdiehlioemmakaa

