/- The library's bit length, at this program. -/
import Derived.Shelf.Small.Bits
import Derived.Test.YteldndbfopdehabBase
namespace Go.Proofs.Yteldndbfopdehab
open Go.Shelf
end Go.Proofs.Yteldndbfopdehab
