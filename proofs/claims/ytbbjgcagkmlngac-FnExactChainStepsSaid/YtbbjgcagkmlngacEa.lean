/- What both sides answer to IsPlan. -/
import Derived.Test.YtbbjgcagkmlngacMa
import Derived.Test.YtbbjgcagkmlngacLb
namespace Go.Proofs.Ytbbjgcagkmlngac
open Go.RowKit

theorem eqP_refl (p : Pl) : eqP p p = true := by simp [eqP]

end Go.Proofs.Ytbbjgcagkmlngac
