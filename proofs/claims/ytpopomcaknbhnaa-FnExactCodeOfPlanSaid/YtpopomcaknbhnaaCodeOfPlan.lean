/- The law FnExactCodeOfPlan holds: for every argument, valid or not, CodeOfPlan of the program answers as CodeOfPlan of the model, writes into no argument, and its answer owns its memory. No condition. -/
import Derived.Test.YtpopomcaknbhnaaCodeOfPlanK
import Derived.Test.YtpopomcaknbhnaaIo
namespace Go.Proofs.Ytpopomcaknbhnaa
open Go.ChangeShapes Go.WideShapes Go.ChangeAt Go.RowKit Go.Deep Go.Joins

theorem codeOfPlan_closed : joinedFacts Try.prog 16 Try.f16 Rows.fnExactCodeOfPlanSpec Rows.fnExactCodeOfPlanRow = true := by
  unfold joinedFacts
  rw [may_enter, lifts_final, make_cut]
  kernel_rfl
theorem codeOfPlan_holds : Rows.FnExactCodeOfPlanSaid :=
  OpenClaim.holds_of_wide 16 Try.f16 rfl rfl rfl rfl rfl rfl rfl ⟨rfl, rfl, rfl, rfl, rfl⟩ rfl rfl rfl rfl rfl (by kernel_rfl) Try.func16 codeOfPlan_closed
    (of_decide_eq_true (by kernel_rfl)) (by unfold Func.isWrapper; rw [if_neg (of_decide_eq_false (by kernel_rfl))]; exact ⟨rfl, rfl⟩)
    (fun os started H enc _ => codeOfPlan_lifted os started H enc)
end Go.Proofs.Ytpopomcaknbhnaa
