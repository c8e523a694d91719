/- The law FnExactCodeDepth holds: for every argument, valid or not, CodeDepth of the program answers as CodeDepth of the model, writes into no argument, and its answer owns its memory. No condition. -/
import Derived.Test.YtpopomcaknbhnaaCodeDepthK
import Derived.Test.YtpopomcaknbhnaaIo
namespace Go.Proofs.Ytpopomcaknbhnaa
open Go.ChangeShapes Go.WideShapes Go.ChangeAt Go.RowKit Go.Deep Go.Joins

theorem codeDepth_closed : joinedFacts Try.prog 7 Try.f7 Rows.fnExactCodeDepthSpec Rows.fnExactCodeDepthRow = true := by
  unfold joinedFacts
  rw [may_enter, lifts_final, make_cut]
  kernel_rfl
theorem codeDepth_holds : Rows.FnExactCodeDepthSaid :=
  OpenClaim.holds_of_wide 7 Try.f7 rfl rfl rfl rfl rfl rfl rfl ⟨rfl, rfl, rfl, rfl, rfl⟩ rfl rfl rfl rfl rfl (by kernel_rfl) Try.func7 codeDepth_closed
    (of_decide_eq_true (by kernel_rfl)) (by unfold Func.isWrapper; rw [if_neg (of_decide_eq_false (by kernel_rfl))]; exact ⟨rfl, rfl⟩)
    (fun os started H enc _ => codeDepth_lifted os started H enc)
end Go.Proofs.Ytpopomcaknbhnaa
