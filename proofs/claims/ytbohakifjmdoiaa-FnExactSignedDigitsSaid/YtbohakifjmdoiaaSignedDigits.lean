/- The law FnExactSignedDigits holds: for every argument, valid or not, SignedDigits of the program answers as SignedDigits of the model, writes into no argument, and its answer owns its memory. No condition. -/
import Derived.Test.YtbohakifjmdoiaaSignedDigitsK
namespace Go.Proofs.Ytbohakifjmdoiaa
open Go.ChangeShapes Go.WideShapes Go.ChangeAt Go.RowKit Go.Deep Go.Joins

theorem signedDigits_holds : Rows.FnExactSignedDigitsSaid :=
  OpenClaim.holds_of_wide 4 Try.f4 rfl rfl rfl rfl rfl rfl rfl ⟨rfl, rfl, rfl, rfl, rfl⟩ rfl rfl rfl rfl rfl (by kernel_rfl) Try.func4 (by kernel_rfl)
    (of_decide_eq_true (by kernel_rfl)) (by unfold Func.isWrapper; rw [if_neg (of_decide_eq_false (by kernel_rfl))]; exact ⟨rfl, rfl⟩)
    (fun os started H enc _ => signedDigits_lifted os started H enc)
end Go.Proofs.Ytbohakifjmdoiaa
