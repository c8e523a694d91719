/- The law FnExactPolynomialOf holds: for every argument, valid or not, PolynomialOf of the program answers as PolynomialOf of the model, writes into no argument, and its answer owns its memory. No condition. -/
import Derived.Test.YtpopomcaknbhnaaPolynomialOfK
import Derived.Test.YtpopomcaknbhnaaIo
namespace Go.Proofs.Ytpopomcaknbhnaa
open Go.ChangeShapes Go.WideShapes Go.ChangeAt Go.RowKit Go.Deep Go.Joins

theorem polynomialOf_closed : joinedFacts Try.prog 5 Try.f5 Rows.fnExactPolynomialOfSpec Rows.fnExactPolynomialOfRow = true := by
  unfold joinedFacts
  rw [may_enter, lifts_final, make_cut]
  kernel_rfl
theorem polynomialOf_holds : Rows.FnExactPolynomialOfSaid :=
  OpenClaim.holds_of_wide 5 Try.f5 rfl rfl rfl rfl rfl rfl rfl ⟨rfl, rfl, rfl, rfl, rfl⟩ rfl rfl rfl rfl rfl (by kernel_rfl) Try.func5 polynomialOf_closed
    (of_decide_eq_true (by kernel_rfl)) (by unfold Func.isWrapper; rw [if_neg (of_decide_eq_false (by kernel_rfl))]; exact ⟨rfl, rfl⟩)
    (fun os started H enc _ => polynomialOf_lifted os started H enc)
end Go.Proofs.Ytpopomcaknbhnaa
