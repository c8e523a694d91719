/- The law FnExactWeightOf holds: for every argument, valid or not, WeightOf of the program answers as WeightOf of the model, writes into no argument, and its answer owns its memory. No condition. -/
import Derived.Test.YtbohakifjmdoiaaWeightOfK
namespace Go.Proofs.Ytbohakifjmdoiaa
open Go.ChangeShapes Go.WideShapes Go.ChangeAt Go.RowKit Go.Deep Go.Joins

theorem weightOf_holds : Rows.FnExactWeightOfSaid :=
  OpenClaim.holds_of_wide 6 Try.f6 rfl rfl rfl rfl rfl rfl rfl ⟨rfl, rfl, rfl, rfl, rfl⟩ rfl rfl rfl rfl rfl (by kernel_rfl) Try.func6 (by kernel_rfl)
    (of_decide_eq_true (by kernel_rfl)) (by unfold Func.isWrapper; rw [if_neg (of_decide_eq_false (by kernel_rfl))]; exact ⟨rfl, rfl⟩)
    (fun os started H enc _ => weightOf_lifted os started H enc)
end Go.Proofs.Ytbohakifjmdoiaa
