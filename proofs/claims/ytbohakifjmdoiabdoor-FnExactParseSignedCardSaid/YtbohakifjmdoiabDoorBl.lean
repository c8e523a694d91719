/- The library's bit length, at this program. -/
import Derived.Shelf.Small.Bits
import Derived.Test.YtbohakifjmdoiabDoorBase
namespace Go.Proofs.YtbohakifjmdoiabDoor
open Go.Shelf
end Go.Proofs.YtbohakifjmdoiabDoor
