/- The law FnExactIsAdders holds: for every argument, valid or not, IsAdders of the program answers as IsAdders of the model, writes into no argument, and its answer owns its memory. No condition. -/
import Derived.Test.YtbohakifjmdoiaaIsAddersK
namespace Go.Proofs.Ytbohakifjmdoiaa
open Go.ChangeShapes Go.WideShapes Go.ChangeAt Go.RowKit Go.Deep Go.Joins

theorem isAdders_holds : Rows.FnExactIsAddersSaid :=
  OpenClaim.holds_of_wide 12 Try.f12 rfl rfl rfl rfl rfl rfl rfl ⟨rfl, rfl, rfl, rfl, rfl⟩ rfl rfl rfl rfl rfl (by kernel_rfl) Try.func12 (by kernel_rfl)
    (of_decide_eq_true (by kernel_rfl)) (by unfold Func.isWrapper; rw [if_neg (of_decide_eq_false (by kernel_rfl))]; exact ⟨rfl, rfl⟩)
    (fun os started H enc _ => isAdders_lifted os started H enc)
end Go.Proofs.Ytbohakifjmdoiaa
