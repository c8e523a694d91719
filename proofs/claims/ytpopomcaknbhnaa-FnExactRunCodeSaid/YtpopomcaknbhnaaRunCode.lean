/- The law FnExactRunCode holds: for every argument, valid or not, RunCode of the program answers as RunCode of the model, writes into no argument, and its answer owns its memory. No condition. -/
import Derived.Test.YtpopomcaknbhnaaRunCodeK
import Derived.Test.YtpopomcaknbhnaaIo
namespace Go.Proofs.Ytpopomcaknbhnaa
open Go.ChangeShapes Go.WideShapes Go.ChangeAt Go.RowKit Go.Deep Go.Joins

theorem runCode_closed : joinedFacts Try.prog 4 Try.f4 Rows.fnExactRunCodeSpec Rows.fnExactRunCodeRow = true := by
  unfold joinedFacts
  rw [may_enter, lifts_final, make_cut]
  kernel_rfl
theorem runCode_holds : Rows.FnExactRunCodeSaid :=
  OpenClaim.holds_of_wide 4 Try.f4 rfl rfl rfl rfl rfl rfl rfl ⟨rfl, rfl, rfl, rfl, rfl⟩ rfl rfl rfl rfl rfl (by kernel_rfl) Try.func4 runCode_closed
    (of_decide_eq_true (by kernel_rfl)) (by unfold Func.isWrapper; rw [if_neg (of_decide_eq_false (by kernel_rfl))]; exact ⟨rfl, rfl⟩)
    (fun os started H enc _ => runCode_lifted os started H enc)
end Go.Proofs.Ytpopomcaknbhnaa
