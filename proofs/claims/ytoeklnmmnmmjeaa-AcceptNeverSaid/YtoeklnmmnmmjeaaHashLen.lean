/- The walk of bits.Len32 at every word, of bits.Len64 at the two words that are all ones. -/
import Derived.Test.YtoeklnmmnmmjeaaRows
import Derived.Lib.Walk
import Derived.Lib.BitFns
namespace Go.Proofs.Ytoeklnmmnmmjeaa.hash
end Go.Proofs.Ytoeklnmmnmmjeaa.hash
