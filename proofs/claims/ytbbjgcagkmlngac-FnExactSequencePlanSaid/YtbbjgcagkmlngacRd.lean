/- The plan of a chain is a plan: its exponents are the numbers of the chain. -/
import Derived.Test.YtbbjgcagkmlngacRa
import Derived.Test.YtbbjgcagkmlngacTb
import Derived.Test.YtbbjgcagkmlngacQx
namespace Go.Proofs.Ytbbjgcagkmlngac
open Go.RowKit

theorem getLastD_mem {l : List (Int × Int)} (h : l ≠ []) : l.getLastD (0, 0) ∈ l := by
  rw [last_form h]
  exact List.getElem_mem _
/-- The step to the number k + 1. -/
theorem step_form {l : List Int} (hg : chG l = true) {k : Nat} (hk : k + 1 < l.length) : ∃ i j : Nat, (prs l (k + 1) (k + 1)).getLastD (0, 0) = ((i : Int), (j : Int)) ∧ i ≤ j ∧ j < k + 1 ∧ l.getD i 0 + l.getD j 0 = l.getD (k + 1) 0 := by
  have hne := chG_sums hg (k + 1) (by omega) hk
  obtain ⟨i, j, e, h1, h2, h3⟩ := prs_mem (k + 1) _ (getLastD_mem hne)
  exact ⟨i, j, e, h1, h2, h3⟩
theorem getD_take {l : List Int} {n i : Nat} (h : i < n) : (l.take n).getD i 0 = l.getD i 0 := by
  rw [List.getD_eq_getElem?_getD, List.getElem?_take, if_pos h, ← List.getD_eq_getElem?_getD]
theorem ev_stepsK {l : List Int} (hg : chG l = true) : ∀ k, k + 1 ≤ l.length → ev (stepsK l (k + 1)) = l.take (k + 1) := by
  have hch := chG_chn hg
  intro k
  induction k with
  | zero =>
    intro h
    rw [stepsK_one, take_succ_getD (by omega), hch.one]
    rfl
  | succ k ih =>
    intro hk
    obtain ⟨i, j, e, h1, h2, h3⟩ := step_form hg (k := k) (by omega)
    rw [stepsK_succ l (k + 1) (by omega), e]
    unfold ev
    rw [List.foldl_append]
    have ih' := ih (by omega)
    unfold ev at ih'
    rw [ih']
    show evS (l.take (k + 1)) ((i : Int), (j : Int)) = _
    unfold evS
    simp only [Int.toNat_natCast]
    rw [getD_take (by omega), getD_take (by omega), h3, take_succ_getD (l := l) (k := k + 1) (by omega)]
    have := (hch.rng (k + 1) (by omega)).2
    unfold leastI
    rw [if_pos (by omega)]
theorem okS_stepsK {l : List Int} (hg : chG l = true) : OkS 1 (stepsK l l.length) := by
  intro i hi
  rw [stepsK_length] at hi
  obtain ⟨a, b, e, h1, h2, h3⟩ := step_form hg (k := i) (by omega)
  have e' : (stepsK l l.length)[i]'(by rw [stepsK_length]; exact hi) = ((a : Int), (b : Int)) := by
    unfold stepsK
    rw [List.getElem_map, List.getElem_range, e]
  rw [e']
  simp only
  omega
theorem exps_stepsK {l : List Int} (hg : chG l = true) : exps 1 (stepsK l l.length) = l.map fun e => [e] := by
  have h := exps_ev (okS_stepsK hg) (stepsK l l.length).length (Nat.le_refl _)
  rw [List.take_of_length_le (Nat.le_refl _)] at h
  rw [h]
  have hl := (chG_chn hg).pos
  have e := ev_stepsK hg (l.length - 1) (by omega)
  rw [show l.length - 1 + 1 = l.length by omega, List.take_length] at e
  rw [e]
theorem okPre_of {n : Nat} {s : List (Int × Int)} (h : OkS n s) : ∀ k, k ≤ s.length → okPre n s k = true := by
  intro k
  induction k with
  | zero => intro _; rfl
  | succ k ih =>
    intro hk
    rw [okPre_succ _ _ _ (by omega), ih (by omega)]
    obtain ⟨h1, h2, h3⟩ := h k (by omega)
    unfold stepOk inB
    simp only [Bool.true_and, Bool.and_eq_true, decide_eq_true_eq]
    omega
/-- The plan of a chain with given outputs. -/
theorem good_chain {l o : List Int} (hg : chG l = true) (ho : ∀ x ∈ o, 0 ≤ x ∧ x < (l.length : Int)) : good ⟨1, stepsK l l.length, o⟩ = decide (o.length ≤ 6) := by
  have hch := chG_chn hg
  have h1 := hch.pos
  have h2 := hch.most
  unfold good
  simp only
  have e1 : inB 1 1 6 = true := rfl
  have e2 : decide ((stepsK l l.length).length ≤ 40) = true := by rw [stepsK_length]; simp; omega
  have e3 : okPre 1 (stepsK l l.length) (stepsK l l.length).length = true := okPre_of (n := 1) (okS_stepsK hg) _ (Nat.le_refl _)
  have e4 : expsB (exps (1 : Int).toNat (stepsK l l.length)) = true := by
    show expsB (exps 1 (stepsK l l.length)) = true
    rw [exps_stepsK hg]
    unfold expsB
    rw [List.all_eq_true]
    intro r hr
    obtain ⟨x, hx, rfl⟩ := List.mem_map.1 hr
    obtain ⟨i, hi, rfl⟩ := getD_of_mem hx
    have := hch.rng i hi
    simp only [allB, inB, List.all_cons, List.all_nil, Bool.and_true, Bool.and_eq_true, decide_eq_true_eq]
    omega
  have e5 : allB o 0 (1 + ((stepsK l l.length).length : Int) - 1) = true := by
    unfold allB
    rw [List.all_eq_true]
    intro x hx
    have := ho x hx
    rw [stepsK_length]
    unfold inB
    simp only [Bool.and_eq_true, decide_eq_true_eq]
    omega
  rw [e1, e2, e3, e4, e5]
  simp

def sqO (l t : List Int) : List Int := t.map fun x => (cnt l x : Int)
def sqI (l t : List Int) : Bool := t.all fun x => hasI l x
def sqB (l t : List Int) : Bool := (chG l && decide (t.length ≤ 6)) && sqI l t
def sqR (l t : List Int) : Pl := if sqB l t then trimR ⟨1, stepsK l l.length, sqO l t⟩ else zPl
theorem sqR_true {l t : List Int} (h : sqB l t = true) : sqR l t = trimR ⟨1, stepsK l l.length, sqO l t⟩ := by unfold sqR; rw [if_pos h]
theorem sqR_false {l t : List Int} (h : sqB l t = false) : sqR l t = zPl := by unfold sqR; rw [h]; rfl
theorem sqR_len (l t : List Int) : (sqR l t).s.length ≤ 1000 ∧ (sqR l t).o.length ≤ 1000 := by
  cases h : sqB l t with
  | true => rw [sqR_true h]; exact trimR_len _
  | false => rw [sqR_false h]; simp [zPl]
theorem hasI_true {l : List Int} {x : Int} (h : hasI l x = true) : x ∈ l := by rw [hasI_mem] at h; exact of_decide_eq_true h
theorem cnt_lt {l : List Int} (ha : Asc l) {x : Int} (hx : x ∈ l) : cnt l x < l.length := (mem_at_cnt ha hx).1
theorem sqO_rng {l : List Int} (ha : Asc l) (t : List Int) (k : Nat) (h : sqI l (t.take k) = true) : ∀ x ∈ sqO l (t.take k), 0 ≤ x ∧ x < (l.length : Int) := by
  intro x hx
  unfold sqO at hx
  obtain ⟨y, hy, rfl⟩ := List.mem_map.1 hx
  unfold sqI at h
  rw [List.all_eq_true] at h
  have := cnt_lt ha (hasI_true (h y hy))
  omega
theorem sqI_succ {l t : List Int} {k : Nat} (hk : k < t.length) : sqI l (t.take (k + 1)) = (sqI l (t.take k) && hasI l (t.getD k 0)) := by
  unfold sqI
  rw [take_succ_getD hk, List.all_append]
  simp
theorem sqI_false {l t : List Int} {k : Nat} (hk : k < t.length) (h : hasI l (t.getD k 0) = false) : sqI l t = false := by
  unfold sqI
  rw [List.all_eq_false]
  exact ⟨t.getD k 0, mem_getD hk, by rw [h]; decide⟩
theorem sqO_succ {l t : List Int} {k : Nat} (hk : k < t.length) : sqO l (t.take (k + 1)) = sqO l (t.take k) ++ [(cnt l (t.getD k 0) : Int)] := by
  unfold sqO
  rw [take_succ_getD hk, List.map_append]
  rfl
theorem sqO_len (l t : List Int) {k : Nat} (hk : k ≤ t.length) : (sqO l (t.take k)).length = k := by simp [sqO]; omega
end Go.Proofs.Ytbbjgcagkmlngac
