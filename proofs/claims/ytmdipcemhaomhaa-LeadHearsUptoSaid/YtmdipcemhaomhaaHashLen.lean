/- The walk of bits.Len32 at every word, of bits.Len64 at the two words that are all ones. -/
import Derived.Test.YtmdipcemhaomhaaRows
import Derived.Lib.Walk
import Derived.Lib.BitFns
namespace Go.Proofs.Ytmdipcemhaomhaa.hash
end Go.Proofs.Ytmdipcemhaomhaa.hash
