/- The library's bit length, at this program. -/
import Derived.Shelf.Small.Bits
import Derived.Test.YtbbfbccemonihabBase
namespace Go.Proofs.Ytbbfbccemonihab
open Go.Shelf
end Go.Proofs.Ytbbfbccemonihab
