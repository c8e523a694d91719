/- A number put into a chain. -/
import Derived.Test.YtlkieebmfmiafaaQu
namespace Go.Proofs.Ytlkieebmfmiafaa
open Go.RowKit

theorem mem_putI (l : List Int) (x : Int) : x ∈ putI l x := by
  unfold putI
  split
  · assumption
  · unfold insA
    exact List.mem_append_right _ List.mem_cons_self
theorem chG_mem {r : List Int} {x : Int} (h : chG r = true) (hx : x ∈ r) : isNum x = true := by
  obtain ⟨i, hi, rfl⟩ := List.mem_iff_getElem.1 hx
  have h1 := (chG_chn h).rng i hi
  have e : r.getD i 0 = r[i] := by simp [hi]
  rw [e] at h1
  unfold isNum inB
  simpa using h1
def inG (l : List Int) (x : Int) : Bool := (chG l && !hasI l x) && chG (putI l x)
theorem hasI_not {l : List Int} {x : Int} (h : hasI l x = false) : ¬ x ∈ l := by rw [hasI_mem] at h; simpa using h

end Go.Proofs.Ytlkieebmfmiafaa
