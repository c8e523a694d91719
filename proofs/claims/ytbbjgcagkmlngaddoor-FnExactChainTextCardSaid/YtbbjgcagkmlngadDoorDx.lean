/- The frame of a tied card: what the listed tables give. -/
import Derived.Test.YtbbjgcagkmlngadDoorTz
import Derived.Test.YtbbjgcagkmlngadDoorQl
import Derived.Test.YtbbjgcagkmlngadDoorTie
import Derived.Test.YtbbjgcagkmlngadDoorCards
import Derived.LaidMore
import Derived.MakeChecks
import Derived.Lib.LaidTab
import Derived.Lib.LaidU8
import Derived.Stop.Joined
import Derived.SevenTiedAt
namespace Go.Proofs.YtbbjgcagkmlngadDoor
open Go.RowKit

theorem tab_of_reads {W : World} (h : Lib.VarReads Tryd.prog W "internal/strconv.uint64pow10" Rows.laid_internal_strconv_uint64pow10) : Tab W := by
  obtain ⟨g', t', cs, fuel, p, hg', ht', hvar, hd⟩ := h
  obtain rfl := Option.some.inj ((show Tryd.prog.globalNamed "internal/strconv.uint64pow10" = some 3 by kernel_rfl).symm.trans hg')
  obtain rfl := Option.some.inj ((show (Tryd.prog.globals[3]?).map (·.type) = some 174 by kernel_rfl).symm.trans ht')
  unfold Tab Lib.TabIs
  rw [hvar, ← Lib.cells_of_tab (k := .u64) (zs := Lib.pow10Tab) Tryd.underlying174 Tryd.underlying144 (by kernel_rfl) (by kernel_rfl) hd]
end Go.Proofs.YtbbjgcagkmlngadDoor
