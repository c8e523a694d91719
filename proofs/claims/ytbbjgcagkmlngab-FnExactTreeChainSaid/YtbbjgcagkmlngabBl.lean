/- The library's bit length, at this program. -/
import Derived.Shelf.Small.Bits
import Derived.Test.YtbbjgcagkmlngabBase
namespace Go.Proofs.Ytbbjgcagkmlngab
open Go.Shelf
end Go.Proofs.Ytbbjgcagkmlngab
