/- The law FnExactSameCode holds: for every argument, valid or not, SameCode of the program answers as SameCode of the model, writes into no argument, and its answer owns its memory. No condition. -/
import Derived.Test.YtpopomcaknbhnaaSameCodeK
import Derived.Test.YtpopomcaknbhnaaIo
namespace Go.Proofs.Ytpopomcaknbhnaa
open Go.ChangeShapes Go.WideShapes Go.ChangeAt Go.RowKit Go.Deep Go.Joins

theorem sameCode_closed : joinedFacts Try.prog 18 Try.f18 Rows.fnExactSameCodeSpec Rows.fnExactSameCodeRow = true := by
  unfold joinedFacts
  rw [may_enter, lifts_final, make_cut]
  kernel_rfl
theorem sameCode_holds : Rows.FnExactSameCodeSaid :=
  OpenClaim.holds_of_wide 18 Try.f18 rfl rfl rfl rfl rfl rfl rfl ⟨rfl, rfl, rfl, rfl, rfl⟩ rfl rfl rfl rfl rfl (by kernel_rfl) Try.func18 sameCode_closed
    (of_decide_eq_true (by kernel_rfl)) (by unfold Func.isWrapper; rw [if_neg (of_decide_eq_false (by kernel_rfl))]; exact ⟨rfl, rfl⟩)
    (fun os started H enc _ => sameCode_lifted os started H enc)
end Go.Proofs.Ytpopomcaknbhnaa
