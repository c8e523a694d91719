/- The least number of a value with the same exponents, of the model and of the program. -/
import Derived.Test.YtppfpdobdoaoiaaKc
import Derived.Test.YtppfpdobdoaoiaaMl
import Derived.Test.YtppfpdobdoaoiaaSp
import Derived.ChangeKeysEq
namespace Go.Proofs.Ytppfpdobdoaoiaa
open Go.RowKit

theorem arr_eq (a0 a1 a2 a3 a4 a5 b0 b1 b2 b3 b4 b5 : Int) (W : World) :
    (binOp .eql 110 (.agg #[.int .i64 a0, .int .i64 a1, .int .i64 a2, .int .i64 a3, .int .i64 a4, .int .i64 a5]) (.agg #[.int .i64 b0, .int .i64 b1, .int .i64 b2, .int .i64 b3, .int .i64 b4, .int .i64 b5])).run Try.prog W = .ok (.bool (decide ([a0, a1, a2, a3, a4, a5] = [b0, b1, b2, b3, b4, b5]))) W := by
  obtain ⟨i0, hi, _, _, _⟩ := info_parts info_int
  have hc : Try.prog.cellsOf 3 = 1 := by kernel_rfl
  have hu : Try.prog.underlying 110 = some (.array 6 3) := by kernel_rfl
  have hk : Try.prog.plainKey 3 = true := by kernel_rfl
  rw [run_eql_struct W, run_equalIn_array W 9999 _ _ hu hi, hc]
  have hr : List.range 6 = [0, 1, 2, 3, 4, 5] := by decide
  rw [hr]
  have p0 : ∀ W : World, (part 3 #[.int .i64 a0, .int .i64 a1, .int .i64 a2, .int .i64 a3, .int .i64 a4, .int .i64 a5] 0).run Try.prog W = .ok (.int .i64 a0) W := fun W => run_part_plain W hk rfl
  have q0 : ∀ W : World, (part 3 #[.int .i64 b0, .int .i64 b1, .int .i64 b2, .int .i64 b3, .int .i64 b4, .int .i64 b5] 0).run Try.prog W = .ok (.int .i64 b0) W := fun W => run_part_plain W hk rfl
  have p1 : ∀ W : World, (part 3 #[.int .i64 a0, .int .i64 a1, .int .i64 a2, .int .i64 a3, .int .i64 a4, .int .i64 a5] 1).run Try.prog W = .ok (.int .i64 a1) W := fun W => run_part_plain W hk rfl
  have q1 : ∀ W : World, (part 3 #[.int .i64 b0, .int .i64 b1, .int .i64 b2, .int .i64 b3, .int .i64 b4, .int .i64 b5] 1).run Try.prog W = .ok (.int .i64 b1) W := fun W => run_part_plain W hk rfl
  have p2 : ∀ W : World, (part 3 #[.int .i64 a0, .int .i64 a1, .int .i64 a2, .int .i64 a3, .int .i64 a4, .int .i64 a5] 2).run Try.prog W = .ok (.int .i64 a2) W := fun W => run_part_plain W hk rfl
  have q2 : ∀ W : World, (part 3 #[.int .i64 b0, .int .i64 b1, .int .i64 b2, .int .i64 b3, .int .i64 b4, .int .i64 b5] 2).run Try.prog W = .ok (.int .i64 b2) W := fun W => run_part_plain W hk rfl
  have p3 : ∀ W : World, (part 3 #[.int .i64 a0, .int .i64 a1, .int .i64 a2, .int .i64 a3, .int .i64 a4, .int .i64 a5] 3).run Try.prog W = .ok (.int .i64 a3) W := fun W => run_part_plain W hk rfl
  have q3 : ∀ W : World, (part 3 #[.int .i64 b0, .int .i64 b1, .int .i64 b2, .int .i64 b3, .int .i64 b4, .int .i64 b5] 3).run Try.prog W = .ok (.int .i64 b3) W := fun W => run_part_plain W hk rfl
  have p4 : ∀ W : World, (part 3 #[.int .i64 a0, .int .i64 a1, .int .i64 a2, .int .i64 a3, .int .i64 a4, .int .i64 a5] 4).run Try.prog W = .ok (.int .i64 a4) W := fun W => run_part_plain W hk rfl
  have q4 : ∀ W : World, (part 3 #[.int .i64 b0, .int .i64 b1, .int .i64 b2, .int .i64 b3, .int .i64 b4, .int .i64 b5] 4).run Try.prog W = .ok (.int .i64 b4) W := fun W => run_part_plain W hk rfl
  have p5 : ∀ W : World, (part 3 #[.int .i64 a0, .int .i64 a1, .int .i64 a2, .int .i64 a3, .int .i64 a4, .int .i64 a5] 5).run Try.prog W = .ok (.int .i64 a5) W := fun W => run_part_plain W hk rfl
  have q5 : ∀ W : World, (part 3 #[.int .i64 b0, .int .i64 b1, .int .i64 b2, .int .i64 b3, .int .i64 b4, .int .i64 b5] 5).run Try.prog W = .ok (.int .i64 b5) W := fun W => run_part_plain W hk rfl
  have he : ∀ (a b : Int) (W : World), (Op.equalIn 9999 3 (.int .i64 a) (.int .i64 b)).run Try.prog W = .ok (a == b) W := fun a b W => run_equalIn_int W 9998 3 .i64 .i64 a b Try.underlying3
  simp [Op.eqItems, p0, p1, p2, p3, p4, p5, q0, q1, q2, q3, q4, q5, he]
  by_cases h0 : a0 = b0
  case neg => simp [h0]
  subst h0
  by_cases h1 : a1 = b1
  case neg => simp [h1]
  subst h1
  by_cases h2 : a2 = b2
  case neg => simp [h2]
  subst h2
  by_cases h3 : a3 = b3
  case neg => simp [h3]
  subst h3
  by_cases h4 : a4 = b4
  case neg => simp [h4]
  subst h4
  by_cases h5 : a5 = b5
  case neg => simp [h5]
  subst h5
  simp

def fx (E : List (List Int)) (e : List Int) : Nat := E.findIdx fun r => decide (r = e)
theorem fx_eq {E : List (List Int)} {e : List Int} {k : Nat} (hk : k < E.length) (he : E[k] = e) (hn : ∀ j (h : j < k), ¬ E[j] = e) : fx E e = k := by
  unfold fx
  rw [List.findIdx_eq hk]
  exact ⟨by simpa using he, fun j hj => by simpa using hn j hj⟩
theorem fx_lt {E : List (List Int)} {v : Nat} (hv : v < E.length) : fx E E[v] ≤ v := by
  unfold fx
  rcases Nat.lt_or_ge v (E.findIdx fun r => decide (r = E[v])) with h | h
  · have := List.not_of_lt_findIdx h
    simp at this
  · exact h
theorem fx_at {E : List (List Int)} {v : Nat} (hv : v < E.length) : E[fx E E[v]]'(Nat.lt_of_le_of_lt (fx_lt hv) hv) = E[v] := by
  have h := List.findIdx_getElem (p := fun r => decide (r = E[v])) (xs := E) (w := Nat.lt_of_le_of_lt (fx_lt hv) hv)
  exact of_decide_eq_true h
theorem fx_before {E : List (List Int)} {v : Nat} (hv : v < E.length) {j : Nat} (hj : j < fx E E[v]) : ¬ E[j]'(Nat.lt_trans hj (Nat.lt_of_le_of_lt (fx_lt hv) hv)) = E[v] := by
  have := List.not_of_lt_findIdx hj
  simpa using this
theorem pad_inj {N : Nat} {a b : List Int} (h : pad N a = pad N b) : a = b := List.append_cancel_right h
theorem fx_pad (N : Nat) (E : List (List Int)) {v : Nat} (hv : v < E.length) : fx (E.map (pad N)) ((E.map (pad N))[v]'(by simpa using hv)) = fx E E[v] := by
  have hl := Nat.lt_of_le_of_lt (fx_lt hv) hv
  refine fx_eq (k := fx E E[v]) (by simpa using hl) ?_ ?_
  · rw [List.getElem_map, List.getElem_map, fx_at hv]
  · intro j hj h
    rw [List.getElem_map, List.getElem_map] at h
    exact fx_before hv hj (pad_inj h)
def firstL (E : List (List Int)) : List Int := (List.range E.length).map fun v : Nat => (fx E (E.getD v []) : Int)

theorem six_cells {w : World} {B : Nat} {A : Option Addr} {rows : List (List Int)} (hs : Six rows) (hr : Rd w B 6 A rows.length (fl6 rows)) {k : Nat} (hk : k < rows.length) :
    ∃ b off, A = some ⟨b, off, none⟩ ∧ b < B ∧ ∀ j, j < 6 → w.cell? ⟨b, off + k * 6 + j, none⟩ = some (.int .i64 ((rows[k]).getD j 0)) := by
  obtain ⟨b, off, rfl, hb, hc⟩ := hr.2 (by omega)
  refine ⟨b, off, rfl, hb, fun j hj => ?_⟩
  rw [show off + k * 6 + j = off + (k * 6 + j) by omega, hc _ (by omega), fl6_at hs hk hj]

set_option maxRecDepth 100000 in
set_option maxHeartbeats 2000000 in
theorem index_any (B : Nat) (A : Option Addr) (c : Nat) (rows : List (List Int)) (v : Nat) (e0 e1 e2 e3 e4 e5 : Int) (w : World) (hm : rows.length ≤ 1000) (hB : B ≤ w.heap.size) (hs : Six rows) (hv : v < rows.length) (he : rows[v] = [e0, e1, e2, e3, e4, e5]) (hr : Rd w B 6 A rows.length (fl6 rows)) :
    Calls Try.prog 112 #[.slice A rows.length c, .agg #[.int .i64 e0, .int .i64 e1, .int .i64 e2, .int .i64 e3, .int .i64 e4, .int .i64 e5]] w fun e w' => e = .returned (.int .i64 (fx rows rows[v] : Nat)) ∧ Below w.heap.size w w' := by
  have H := Lib.hid hr
  have HS := Lib.hid hs
  have HE := Lib.hid he
  clear hr hs he
  go_enter Try.func112, Try.ntmps112
  go_wp2
  generalize hw1 : World.alloc w _ = w1
  have hq : w1.heap[w.heap.size]? = some (.cells #[.int .i64 e0, .int .i64 e1, .int .i64 e2, .int .i64 e3, .int .i64 e4, .int .i64 e5] 110 (0, 0)) := by rw [← hw1]; exact heap_alloc_new w _
  have hb1 : Below w.heap.size w w1 := by rw [← hw1]; exact (Below.refl _ _).alloc (Nat.le_refl _) _
  clear hw1
  have HQ := Lib.hid hq
  have HB1 := Lib.hid hb1
  clear hq hb1
  go_loopw [8] (fun i wr => ∃ k n : Nat, k ≤ fx rows rows[v] ∧ i = .int .i64 k ∧ wr = w1.drewN n) (fun i _ => fx rows rows[v] - (intOf i).toNat)
  case atStart => exact ⟨0, 0, by omega, rfl, rfl⟩
  case round =>
    obtain ⟨k, n, hk, rfl, rfl⟩ := hrel
    have hfv := fx_lt hv
    have hkl : k < rows.length := by omega
    have ikl : (k : Int) < (rows.length : Int) := by omega
    obtain ⟨b, off, rfl, hb, hcs⟩ := six_cells HS.out (H.out.below' HB1.out hB) hkl
    obtain ⟨a0, a1, a2, a3, a4, a5, hal⟩ := six_form (HS.out _ (List.getElem_mem hkl))
    rw [hal] at hcs
    have d0 : w1.cell? ⟨b, off + k * 6, none⟩ = some (.int .i64 a0) := hcs 0 (by omega)
    have d1 : w1.cell? ⟨b, off + k * 6 + 1, none⟩ = some (.int .i64 a1) := hcs 1 (by omega)
    have d2 : w1.cell? ⟨b, off + k * 6 + 2, none⟩ = some (.int .i64 a2) := hcs 2 (by omega)
    have d3 : w1.cell? ⟨b, off + k * 6 + 3, none⟩ = some (.int .i64 a3) := hcs 3 (by omega)
    have d4 : w1.cell? ⟨b, off + k * 6 + 4, none⟩ = some (.int .i64 a4) := hcs 4 (by omega)
    have d5 : w1.cell? ⟨b, off + k * 6 + 5, none⟩ = some (.int .i64 a5) := hcs 5 (by omega)
    have x0 : w1.cell? ⟨w.heap.size, 0, none⟩ = some (.int .i64 e0) := by rw [cell_of_row w1 _ 0 _ _ (0, 0) HQ.out]; rfl
    have x1 : w1.cell? ⟨w.heap.size, 1, none⟩ = some (.int .i64 e1) := by rw [cell_of_row w1 _ 1 _ _ (0, 0) HQ.out]; rfl
    have x2 : w1.cell? ⟨w.heap.size, 2, none⟩ = some (.int .i64 e2) := by rw [cell_of_row w1 _ 2 _ _ (0, 0) HQ.out]; rfl
    have x3 : w1.cell? ⟨w.heap.size, 3, none⟩ = some (.int .i64 e3) := by rw [cell_of_row w1 _ 3 _ _ (0, 0) HQ.out]; rfl
    have x4 : w1.cell? ⟨w.heap.size, 4, none⟩ = some (.int .i64 e4) := by rw [cell_of_row w1 _ 4 _ _ (0, 0) HQ.out]; rfl
    have x5 : w1.cell? ⟨w.heap.size, 5, none⟩ = some (.int .i64 e5) := by rw [cell_of_row w1 _ 5 _ _ (0, 0) HQ.out]; rfl
    have harr := arr_eq e0 e1 e2 e3 e4 e5 a0 a1 a2 a3 a4 a5
    clear hcs
    by_cases hkf : k = fx rows rows[v]
    · have heq : ([e0, e1, e2, e3, e4, e5] : List Int) = [a0, a1, a2, a3, a4, a5] := by
        have h := fx_at hv
        have h2 : rows[k] = rows[v] := by
          have : rows[fx rows rows[v]]'(by omega) = rows[k] := by congr 1; exact hkf.symm
          rw [← this]; exact h
        rw [← HE.out, ← hal, h2]
      have hd : decide (([e0, e1, e2, e3, e4, e5] : List Int) = [a0, a1, a2, a3, a4, a5]) = true := by simpa using heq
      rw [hd] at harr
      have KF := Lib.hid hkf
      clear heq hd hal hkf
      go_wp2
      go_quiet (fail)
      go_wp2
      go_ret
      exact ⟨by rw [← KF.out]; rfl, bDrewN (bDrewN HB1.out _) _⟩
    · have hne : ¬ ([e0, e1, e2, e3, e4, e5] : List Int) = [a0, a1, a2, a3, a4, a5] := by
        have h := fx_before hv (j := k) (by omega)
        rw [hal, HE.out] at h
        exact fun hh => h hh.symm
      have hd : decide (([e0, e1, e2, e3, e4, e5] : List Int) = [a0, a1, a2, a3, a4, a5]) = false := by simpa using hne
      rw [hd] at harr
      clear hne hd hal
      go_wp2
      go_quiet (fail)
      go_wp2
      go_roundw
      case rel => exact ⟨k + 1, _, by omega, by go_num, rfl⟩
      case measure => simp [intOf]; omega
end Go.Proofs.Ytppfpdobdoaoiaa
