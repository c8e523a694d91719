/- The law FnExactIsSubtractionChain holds: for every argument, valid or not, IsSubtractionChain of the program answers as IsSubtractionChain of the model, writes into no argument, and its answer owns its memory. No condition. -/
import Derived.Test.YtbohakifjmdoiaaIsSubtractionChainK
namespace Go.Proofs.Ytbohakifjmdoiaa
open Go.ChangeShapes Go.WideShapes Go.ChangeAt Go.RowKit Go.Deep Go.Joins

theorem isSubtractionChain_holds : Rows.FnExactIsSubtractionChainSaid :=
  OpenClaim.holds_of_wide 10 Try.f10 rfl rfl rfl rfl rfl rfl rfl ⟨rfl, rfl, rfl, rfl, rfl⟩ rfl rfl rfl rfl rfl (by kernel_rfl) Try.func10 (by kernel_rfl)
    (of_decide_eq_true (by kernel_rfl)) (by unfold Func.isWrapper; rw [if_neg (of_decide_eq_false (by kernel_rfl))]; exact ⟨rfl, rfl⟩)
    (fun os started H enc _ => isSubtractionChain_lifted os started H enc)
end Go.Proofs.Ytbohakifjmdoiaa
