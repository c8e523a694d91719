/- The program's values of a plan: inputs, products. -/
import Derived.Test.YtpopomcaknbhnaaSc
import Derived.LoopN
namespace Go.Proofs.Ytpopomcaknbhnaa
open Go.RowKit

def fl6 (rows : List (List Int)) : List Value := rows.flatten.map I
def Six (rows : List (List Int)) : Prop := ∀ r ∈ rows, r.length = 6
def unit6 (i : Nat) : List Int := (List.replicate 6 (0 : Int)).set i 1
def units6 (n : Nat) : List (List Int) := (List.range n).map unit6

theorem flat_length {rows : List (List Int)} (h : Six rows) : rows.flatten.length = rows.length * 6 := by
  induction rows with
  | nil => rfl
  | cons r rows ih =>
    have h1 := h r (by simp)
    have h2 := ih (fun r' hr => h r' (by simp [hr]))
    simp at h2 ⊢
    omega
theorem fl6_length {rows : List (List Int)} (h : Six rows) : (fl6 rows).length = rows.length * 6 := by rw [fl6, List.length_map]; exact flat_length h
theorem flat_at {rows : List (List Int)} (h : Six rows) {k : Nat} (hk : k < rows.length) {j : Nat} (hj : j < 6) : rows.flatten[k * 6 + j]? = some ((rows[k]).getD j 0) := by
  induction rows generalizing k with
  | nil => simp at hk
  | cons r rows ih =>
    have h1 := h r (by simp)
    rw [List.flatten_cons]
    cases k with
    | zero =>
      rw [List.getElem?_append_left (by omega)]
      have hj' : j < r.length := by omega
      simp [hj']
    | succ k =>
      have h2 := ih (fun r' hr => h r' (by simp [hr])) (k := k) (by simpa using hk)
      rw [List.getElem?_append_right (by omega)]
      rw [show (k + 1) * 6 + j - r.length = k * 6 + j from by omega]
      simpa using h2
theorem fl6_at {rows : List (List Int)} (h : Six rows) {k : Nat} (hk : k < rows.length) {j : Nat} (hj : j < 6) : (fl6 rows)[k * 6 + j]? = some (I ((rows[k]).getD j 0)) := by
  rw [fl6, List.getElem?_map, flat_at h hk hj]
  rfl
theorem six_units (n : Nat) : Six (units6 n) := by
  intro r hr
  simp only [units6, List.mem_map] at hr
  obtain ⟨i, _, rfl⟩ := hr
  simp [unit6]

theorem info_exp : (Try.prog.info? 170).map (fun i => (i.zero, i.size, i.bytes)) = some (some (.agg #[.int .i64 0, .int .i64 0, .int .i64 0, .int .i64 0, .int .i64 0, .int .i64 0]), 6, 48) := by kernel_rfl

theorem made6 (v : Value) (n : Nat) : (madeCells #[v, v, v, v, v, v] (n * 6)).toList = List.replicate (n * 6) v := by
  apply List.ext_getElem?
  intro j
  by_cases hj : j < n * 6
  · have h6 : j % 6 = 0 ∨ j % 6 = 1 ∨ j % 6 = 2 ∨ j % 6 = 3 ∨ j % 6 = 4 ∨ j % 6 = 5 := by omega
    rcases h6 with h | h | h | h | h | h <;> simp [madeCells, hj, h]
  · simp [madeCells, hj]

set_option maxRecDepth 100000 in
set_option maxHeartbeats 2000000 in
theorem inputValues_any (N : Nat) (w : World) (h1 : 1 ≤ N) (h6 : N ≤ 6) :
    Calls Try.prog 151 #[.int .i64 N] w fun e w' =>
      ∃ A c, e = .returned (.agg #[.slice A N c]) ∧ w'.ownsRow w.heap.size 170 6 (.slice A N c) N (fl6 (units6 N)) ∧ Below w.heap.size w w' := by
  obtain ⟨i0, hi, hz0, hz1, hz2⟩ := info_parts info_exp
  have hmk : ∀ W : World, (Instr.makeSlice 139 (.int .i64 (N : Int)) (.int .i64 (N : Int))).run Try.prog W = .ok (.slice (some ⟨W.heap.size, 0, none⟩) N N) (W.alloc (.cells (madeCells #[.int .i64 0, .int .i64 0, .int .i64 0, .int .i64 0, .int .i64 0, .int .i64 0] (N * 6)) 170)) := fun W => by
    have hr := run_make (P := Try.prog) W 139 170 i0 _ Try.underlying139 hi hz0 .i64 .i64 N N (by omega) (Int.le_refl _) (by rw [hz2]; omega) (by omega)
    simp only [Int.toNat_natCast] at hr
    rw [hz1] at hr
    exact hr
  have hst : ∀ k, k < N → ((units6 k ++ List.replicate (N - k) (List.replicate 6 (0 : Int))).flatten).set (k * 6 + k) 1 = (units6 (k + 1) ++ List.replicate (N - (k + 1)) (List.replicate 6 (0 : Int))).flatten ∧
      (fl6 (units6 k ++ List.replicate (N - k) (List.replicate 6 (0 : Int))))[k * 6 + k]? = some (.int .i64 0) := by
    have hN : N = 1 ∨ N = 2 ∨ N = 3 ∨ N = 4 ∨ N = 5 ∨ N = 6 := by omega
    intro k hk
    have hk6 : k = 0 ∨ k = 1 ∨ k = 2 ∨ k = 3 ∨ k = 4 ∨ k = 5 := by omega
    rcases hN with rfl | rfl | rfl | rfl | rfl | rfl <;> rcases hk6 with rfl | rfl | rfl | rfl | rfl | rfl <;> first | omega | exact ⟨by decide, rfl⟩
  have hmade : ∀ W : World, W.heap.size = w.heap.size + 1 → (W.alloc (.cells (madeCells #[.int .i64 0, .int .i64 0, .int .i64 0, .int .i64 0, .int .i64 0, .int .i64 0] (N * 6)) 170)).ownsRow (w.heap.size + 1) 170 6 (.slice (some ⟨w.heap.size + 1, 0, none⟩) N N) N (fl6 (units6 0 ++ List.replicate (N - 0) (List.replicate 6 (0 : Int)))) := fun W hW => by
    have h := World.ownsRow_lit (base := w.heap.size + 1) (e := 170) (size := 6) W (madeCells #[.int .i64 0, .int .i64 0, .int .i64 0, .int .i64 0, .int .i64 0, .int .i64 0] (N * 6)) N (by omega) (by unfold maxLen; omega) (by simp [size_madeCells])
    rw [hW] at h
    have e : (madeCells #[Value.int .i64 0, .int .i64 0, .int .i64 0, .int .i64 0, .int .i64 0, .int .i64 0] (N * 6)).toList = fl6 (units6 0 ++ List.replicate (N - 0) (List.replicate 6 (0 : Int))) := by
      have e1 : (List.replicate N (List.replicate 6 (0 : Int))).flatten = List.replicate (N * 6) 0 := List.flatten_replicate_replicate
      rw [made6, Nat.sub_zero, show units6 0 = [] from rfl, List.nil_append, fl6, e1, List.map_replicate]
    rw [e] at h
    exact h
  have HST := Lib.hid hst
  have HM := Lib.hid hmade
  clear hst hmade hi hz0 hz1 hz2
  go_enter Try.func151, Try.ntmps151
  go_wp2
  clear hmk
  go_loopw [9] (fun i wr => ∃ k : Nat, k ≤ N ∧ i = .int .i64 k ∧ wr.ownsRow (w.heap.size + 1) 170 6 (.slice (some ⟨w.heap.size + 1, 0, none⟩) N N) N (fl6 (units6 k ++ List.replicate (N - k) (List.replicate 6 (0 : Int)))) ∧ Below w.heap.size w wr ∧
      wr.heap[w.heap.size]? = some (.cells #[.slice none 0 0] 141 (0, 0))) (fun i _ => N - (intOf i).toNat)
  case atStart => exact ⟨0, by omega, rfl, HM.out _ (by simp), (((Below.refl _ _).alloc (Nat.le_refl _) _).alloc (by simp) _), by rw [Below.heap_alloc _ _ _ (by simp)]; exact heap_alloc_new w _⟩
  case round =>
    obtain ⟨k, hk, rfl, hown, hbel, hres⟩ := hrel
    have RES := Lib.hid hres
    clear hres
    have OWN := Lib.hid hown
    have HB := Lib.hid hbel
    by_cases hlt : k < N
    · have hc : wr.cell? ⟨w.heap.size + 1, k * 6 + k, none⟩ = some (.int .i64 0) := by rw [hown.cellAt _ (by omega)]; exact (HST.out k hlt).2
      have hf : wr.frozen? ⟨w.heap.size + 1, k * 6 + k, none⟩ = false := hown.frozenAt _
      clear hown hbel
      go_wp2
      go_roundw
      case rel =>
        refine ⟨k + 1, by omega, by go_num, ?_, HB.out.setCell (by simp) _, by rw [Below.heap_setCell _ _ _ _ (by simp)]; exact RES.out⟩
        have h := (OWN.out.stored (k * 6 + k) (.int .i64 1)).1
        rw [fl6, show (Value.int .i64 1) = I 1 from rfl, ← List.map_set, (HST.out k hlt).1] at h
        exact h
      case measure => simp [intOf]; omega
    · clear hown hbel
      have hk' : k = N := by omega
      subst hk'
      have r0 : wr.cell? ⟨w.heap.size, 0, none⟩ = some (.slice none 0 0) := by rw [cell_of_row wr w.heap.size 0 _ _ (0, 0) RES.out]; rfl
      have r1 : wr.frozen? ⟨w.heap.size, 0, none⟩ = false := frozen_of_row wr w.heap.size 0 _ _ RES.out
      have r2 : ∀ v, (wr.setCell ⟨w.heap.size, 0, none⟩ v).cell? ⟨w.heap.size, 0, none⟩ = some v := fun v => cell_set_same r0 v
      go_wp2
      refine bodyPost_ret (v := .agg #[.slice (some ⟨w.heap.size + 1, 0, none⟩) k k]) (by simp [results, Try.results151, go_sem, r2]) rfl ?_
      refine ⟨_, _, rfl, ?_, HB.out.setCell (by simp) _⟩
      have h := ownsRow_setCell_below OWN.out (a := ⟨w.heap.size, 0, none⟩) (by simp) (.slice (some ⟨w.heap.size + 1, 0, none⟩) k k)
      rw [Nat.sub_self, List.replicate_zero, List.append_nil] at h
      exact own_base h (by omega)
end Go.Proofs.Ytpopomcaknbhnaa
