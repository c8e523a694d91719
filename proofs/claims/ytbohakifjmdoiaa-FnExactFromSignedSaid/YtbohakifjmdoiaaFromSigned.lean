/- The law FnExactFromSigned holds: for every argument, valid or not, FromSigned of the program answers as FromSigned of the model, writes into no argument, and its answer owns its memory. No condition. -/
import Derived.Test.YtbohakifjmdoiaaFromSignedK
namespace Go.Proofs.Ytbohakifjmdoiaa
open Go.ChangeShapes Go.WideShapes Go.ChangeAt Go.RowKit Go.Deep Go.Joins

theorem fromSigned_holds : Rows.FnExactFromSignedSaid :=
  OpenClaim.holds_of_wide 5 Try.f5 rfl rfl rfl rfl rfl rfl rfl ⟨rfl, rfl, rfl, rfl, rfl⟩ rfl rfl rfl rfl rfl (by kernel_rfl) Try.func5 (by kernel_rfl)
    (of_decide_eq_true (by kernel_rfl)) (by unfold Func.isWrapper; rw [if_neg (of_decide_eq_false (by kernel_rfl))]; exact ⟨rfl, rfl⟩)
    (fun os started H enc _ => fromSigned_lifted os started H enc)
end Go.Proofs.Ytbohakifjmdoiaa
