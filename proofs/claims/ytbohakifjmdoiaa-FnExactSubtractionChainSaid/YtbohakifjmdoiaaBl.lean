/- The library's bit length, at this program. -/
import Derived.Shelf.Small.Bits
import Derived.Test.YtbohakifjmdoiaaBase
namespace Go.Proofs.Ytbohakifjmdoiaa
open Go.Shelf
end Go.Proofs.Ytbohakifjmdoiaa
