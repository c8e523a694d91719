/- The exponents of a plan in the model. -/
import Derived.Test.YtbohakifjmdoiabDoorBase2
import Derived.Test.YtbohakifjmdoiabDoorSa
namespace Go.Proofs.YtbohakifjmdoiabDoor
open Go.RowKit

def units (n : Nat) : List (List Int) := (List.range n).map fun i => (List.replicate n (0 : Int)).set i 1
def expStep (out : List (List Int)) (s : Int × Int) : List (List Int) := out ++ [sumL (out.getD s.1.toNat []) (out.getD s.2.toNat [])]
def exps (n : Nat) (s : List (Int × Int)) : List (List Int) := s.foldl expStep (units n)
/-- Each step has two values that stand before it, in order. -/
def OkS (n : Nat) (s : List (Int × Int)) : Prop := ∀ i (h : i < s.length), 0 ≤ (s[i]).1 ∧ (s[i]).1 ≤ (s[i]).2 ∧ (s[i]).2 < n + i
def OkR (n : Nat) (rows : List (List Int)) : Prop := ∀ r ∈ rows, r.length = n ∧ ∀ x ∈ r, 0 ≤ x ∧ x ≤ 1000001

theorem units_length (n : Nat) : (units n).length = n := by simp [units]
theorem exps_take (n : Nat) {s : List (Int × Int)} {k : Nat} (hk : k < s.length) : exps n (s.take (k + 1)) = expStep (exps n (s.take k)) s[k] := by
  unfold exps
  rw [List.take_succ_eq_append_getElem hk, List.foldl_append]
  rfl
theorem foldl_expStep_length (s : List (Int × Int)) : ∀ (out : List (List Int)), (s.foldl expStep out).length = out.length + s.length := by
  induction s with
  | nil => intro out; rfl
  | cons p s ih => intro out; rw [List.foldl_cons, ih]; simp [expStep]; omega
theorem exps_length (n : Nat) (s : List (Int × Int)) : (exps n s).length = n + s.length := by
  unfold exps
  rw [foldl_expStep_length, units_length]
theorem units_ok (n : Nat) : OkR n (units n) := by
  intro r hr
  simp only [units, List.mem_map, List.mem_range] at hr
  obtain ⟨i, hi, rfl⟩ := hr
  refine ⟨by simp, fun x hx => ?_⟩
  rcases List.mem_or_eq_of_mem_set hx with h | h
  · have := List.eq_of_mem_replicate h; omega
  · omega
theorem leastI_le (a b : Int) (h0 : 0 ≤ a) (hb : 0 ≤ b) : 0 ≤ leastI a b ∧ leastI a b ≤ b := by
  unfold leastI; split <;> omega
theorem sumL_ok {n : Nat} {a b : List Int} (ha : a.length = n ∧ ∀ x ∈ a, 0 ≤ x ∧ x ≤ 1000001) (hb : b.length = n ∧ ∀ x ∈ b, 0 ≤ x ∧ x ≤ 1000001) :
    (sumL a b).length = n ∧ ∀ x ∈ sumL a b, 0 ≤ x ∧ x ≤ 1000001 := by
  refine ⟨by rw [sumL_length a b (by omega)]; exact ha.1, fun x hx => ?_⟩
  unfold sumL at hx
  rw [List.mem_iff_getElem] at hx
  obtain ⟨i, hi, rfl⟩ := hx
  simp only [List.length_zipWith] at hi
  rw [List.getElem_zipWith]
  have h1 := ha.2 _ (List.getElem_mem (show i < a.length by omega))
  have h2 := hb.2 _ (List.getElem_mem (show i < b.length by omega))
  exact leastI_le _ _ (by omega) (by omega)
theorem okS_take {n : Nat} {s : List (Int × Int)} (h : OkS n s) (k : Nat) : OkS n (s.take k) := by
  intro i hi
  have hi' : i < s.length := by simp at hi; omega
  rw [List.getElem_take]
  exact h i hi'
theorem getD_ok {n : Nat} {rows : List (List Int)} (h : OkR n rows) {j : Nat} (hj : j < rows.length) : (rows.getD j []).length = n ∧ ∀ x ∈ rows.getD j [], 0 ≤ x ∧ x ≤ 1000001 := by
  have e : rows.getD j [] = rows[j] := by simp [hj]
  rw [e]
  exact h _ (List.getElem_mem hj)
theorem exps_ok {n : Nat} {s : List (Int × Int)} (h : OkS n s) : ∀ k, k ≤ s.length → OkR n (exps n (s.take k)) := by
  intro k
  induction k with
  | zero => intro _; simp only [List.take_zero]; exact units_ok n
  | succ k ih =>
    intro hk
    have hk' : k < s.length := by omega
    have ih := ih (by omega)
    obtain ⟨h1, h2, h3⟩ := h k hk'
    rw [exps_take n hk']
    have hl := exps_length n (s.take k)
    rw [List.length_take, Nat.min_eq_left (by omega)] at hl
    intro r hr
    simp only [expStep, List.mem_append, List.mem_singleton] at hr
    rcases hr with hr | rfl
    · exact ih r hr
    · exact sumL_ok (getD_ok ih (by omega)) (getD_ok ih (by omega))

theorem made_own {w : World} {B : Nat} (n k : Nat) (hn : n ≤ 1000) (hB : B ≤ w.heap.size) :
    OwI (w.alloc (.cells ((madeCells #[Value.int .i64 0] n).setIfInBounds k (.int .i64 1)) 3)) B (.slice (some ⟨w.heap.size, 0, none⟩) n n) ((List.replicate n (0 : Int)).set k 1) := by
  have h := World.ownsRow_lit (base := B) (e := 3) (size := 1) w ((madeCells #[Value.int .i64 0] n).setIfInBounds k (.int .i64 1)) n hB (by unfold maxLen; omega) (by simp [size_madeCells])
  unfold OwI
  simp only [List.length_set, List.length_replicate]
  rw [Array.toList_setIfInBounds, toList_madeCells_one] at h
  rw [List.map_set, List.map_replicate]
  exact h

end Go.Proofs.YtbohakifjmdoiabDoor
