/- The frame of a tied card: what the listed table of letters gives. -/
import Derived.Test.YtbohakifjmdoiabDoorN9z
import Derived.Test.YtbohakifjmdoiabDoorTie
import Derived.Test.YtbohakifjmdoiabDoorCards
import Derived.LaidMore
import Derived.MakeChecks
import Derived.OpenVars
import Derived.Lib.LaidTab
import Derived.Lib.LaidU8
import Derived.Stop.Joined
import Derived.SevenTiedAt
namespace Go.Proofs.YtbohakifjmdoiabDoor
open Go.RowKit

theorem lt_of_reads {W : World} (h : Lib.VarReads Tryd.prog W "loop.example/g01098/impl.digitLetters" Rows.laid_loop_example_g01098_impl_digitLetters) : LtT W := by
  obtain ⟨g', t', cs, fuel, p, hg', ht', hvar, hd⟩ := h
  obtain rfl := Option.some.inj ((show Tryd.prog.globalNamed "loop.example/g01098/impl.digitLetters" = some 0 by kernel_rfl).symm.trans hg')
  obtain rfl := Option.some.inj ((show (Tryd.prog.globals[0]?).map (·.type) = some 37 by kernel_rfl).symm.trans ht')
  have h1 : Lib.TabIs Tryd.prog W "loop.example/g01098/impl.digitLetters" .u8 [45, 48, 43] := by
    unfold Lib.TabIs
    rw [hvar, ← Lib.cells_of_tab (k := .u8) (zs := [45, 48, 43]) Tryd.underlying37 Tryd.underlying5 (by kernel_rfl) (by kernel_rfl) hd]
  exact ⟨h1.cell hg' 0 (by decide), h1.cell hg' 1 (by decide), h1.cell hg' 2 (by decide)⟩
end Go.Proofs.YtbohakifjmdoiabDoor
