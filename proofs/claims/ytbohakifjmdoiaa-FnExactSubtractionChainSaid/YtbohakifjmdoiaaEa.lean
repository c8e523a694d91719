/- What both sides answer to IsPlan. -/
import Derived.Test.YtbohakifjmdoiaaMa
import Derived.Test.YtbohakifjmdoiaaLb
namespace Go.Proofs.Ytbohakifjmdoiaa
open Go.RowKit

theorem eqP_refl (p : Pl) : eqP p p = true := by simp [eqP]

end Go.Proofs.Ytbohakifjmdoiaa
