/- The library's bit length, at this program. -/
import Derived.Shelf.Small.Bits
import Derived.Test.YtlkieebmfmiafaaBase
namespace Go.Proofs.Ytlkieebmfmiafaa
open Go.Shelf
end Go.Proofs.Ytlkieebmfmiafaa
