/- The walk of bits.Len32 at every word, of bits.Len64 at the two words that are all ones. -/
import Derived.Test.YtcofmfjhgbihkaaRows
import Derived.Lib.Walk
import Derived.Lib.BitFns
namespace Go.Proofs.Ytcofmfjhgbihkaa.hash
end Go.Proofs.Ytcofmfjhgbihkaa.hash
