/- The program's values of a plan: inputs, products. -/
import Derived.Test.YtbohakifjmdoiabDoorSc
import Derived.LoopN
namespace Go.Proofs.YtbohakifjmdoiabDoor
open Go.RowKit

def fl6 (rows : List (List Int)) : List Value := rows.flatten.map I
def Six (rows : List (List Int)) : Prop := ∀ r ∈ rows, r.length = 6
def unit6 (i : Nat) : List Int := (List.replicate 6 (0 : Int)).set i 1
def units6 (n : Nat) : List (List Int) := (List.range n).map unit6

theorem flat_length {rows : List (List Int)} (h : Six rows) : rows.flatten.length = rows.length * 6 := by
  induction rows with
  | nil => rfl
  | cons r rows ih =>
    have h1 := h r (by simp)
    have h2 := ih (fun r' hr => h r' (by simp [hr]))
    simp at h2 ⊢
    omega
theorem fl6_length {rows : List (List Int)} (h : Six rows) : (fl6 rows).length = rows.length * 6 := by rw [fl6, List.length_map]; exact flat_length h
theorem flat_at {rows : List (List Int)} (h : Six rows) {k : Nat} (hk : k < rows.length) {j : Nat} (hj : j < 6) : rows.flatten[k * 6 + j]? = some ((rows[k]).getD j 0) := by
  induction rows generalizing k with
  | nil => simp at hk
  | cons r rows ih =>
    have h1 := h r (by simp)
    rw [List.flatten_cons]
    cases k with
    | zero =>
      rw [List.getElem?_append_left (by omega)]
      have hj' : j < r.length := by omega
      simp [hj']
    | succ k =>
      have h2 := ih (fun r' hr => h r' (by simp [hr])) (k := k) (by simpa using hk)
      rw [List.getElem?_append_right (by omega)]
      rw [show (k + 1) * 6 + j - r.length = k * 6 + j from by omega]
      simpa using h2
theorem fl6_at {rows : List (List Int)} (h : Six rows) {k : Nat} (hk : k < rows.length) {j : Nat} (hj : j < 6) : (fl6 rows)[k * 6 + j]? = some (I ((rows[k]).getD j 0)) := by
  rw [fl6, List.getElem?_map, flat_at h hk hj]
  rfl
theorem six_units (n : Nat) : Six (units6 n) := by
  intro r hr
  simp only [units6, List.mem_map] at hr
  obtain ⟨i, _, rfl⟩ := hr
  simp [unit6]

theorem made6 (v : Value) (n : Nat) : (madeCells #[v, v, v, v, v, v] (n * 6)).toList = List.replicate (n * 6) v := by
  apply List.ext_getElem?
  intro j
  by_cases hj : j < n * 6
  · have h6 : j % 6 = 0 ∨ j % 6 = 1 ∨ j % 6 = 2 ∨ j % 6 = 3 ∨ j % 6 = 4 ∨ j % 6 = 5 := by omega
    rcases h6 with h | h | h | h | h | h <;> simp [madeCells, hj, h]
  · simp [madeCells, hj]

end Go.Proofs.YtbohakifjmdoiabDoor
