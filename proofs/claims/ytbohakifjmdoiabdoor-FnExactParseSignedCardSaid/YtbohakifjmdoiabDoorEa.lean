/- What both sides answer to IsPlan. -/
import Derived.Test.YtbohakifjmdoiabDoorMa
import Derived.Test.YtbohakifjmdoiabDoorLb
namespace Go.Proofs.YtbohakifjmdoiabDoor
open Go.RowKit

theorem eqP_refl (p : Pl) : eqP p p = true := by simp [eqP]

end Go.Proofs.YtbohakifjmdoiabDoor
