/- The laws' own helpers: sizes, copies, comparison of plans. -/
import Derived.Test.YtodjnafalbbmjaaDoorBase2
import Derived.Test.YtodjnafalbbmjaaDoorSa
namespace Go.Proofs.YtodjnafalbbmjaaDoor
open Go.RowKit

def szR (left : Int) (n : Nat) : Int := if left - n < 0 then -1 else left - n

def szPl (p : Pl) (left : Int) : Int := if szR left p.s.length < 0 then -1 else szR (szR left p.s.length) p.o.length
theorem szR_bd {left : Int} {n : Nat} (h0 : -1 ≤ left) (h1 : left ≤ 1048576) : -1 ≤ szR left n ∧ szR left n ≤ 1048576 := by
  unfold szR; split <;> omega

theorem szPl_ok {p : Pl} (h : ¬ szPl p 1048576 < 0) : p.s.length ≤ 1048576 ∧ p.o.length ≤ 1048576 := by
  unfold szPl szR at h
  by_cases h1 : (1048576 : Int) - p.s.length < 0
  · simp [h1] at h
  · simp only [h1, if_false] at h
    by_cases h2 : (1048576 : Int) - p.s.length - p.o.length < 0
    · simp [h2] at h
    · omega

theorem fill_int (l : List Int) (k : Nat) (hk : k < l.length) : ((l.take k).map I ++ List.replicate (l.length - k) (I 0)).set k (I l[k]) = (l.take (k + 1)).map I ++ List.replicate (l.length - (k + 1)) (I 0) := by
  have hl : ((l.take k).map I).length = k := by simp; omega
  rw [List.set_append_right _ _ (by omega), hl, Nat.sub_self, show l.length - k = (l.length - (k + 1)) + 1 from by omega, List.replicate_succ, List.set_cons_zero, List.take_succ_eq_append_getElem hk, List.map_append]
  simp
theorem fill_step (s : List (Int × Int)) (k : Nat) (hk : k < s.length) : ((fl (s.take k) ++ List.replicate ((s.length - k) * 2) (I 0)).set (k * 2) (I s[k].1)).set (k * 2 + 1) (I s[k].2) = fl (s.take (k + 1)) ++ List.replicate ((s.length - (k + 1)) * 2) (I 0) := by
  have hl : (fl (s.take k)).length = k * 2 := by rw [fl_length]; simp; omega
  rw [List.set_append_right _ _ (by omega), show (s.length - k) * 2 = (s.length - (k + 1)) * 2 + 1 + 1 from by omega, List.replicate_succ, List.replicate_succ, hl, Nat.sub_self, List.set_cons_zero,
    List.set_append_right _ _ (by omega), hl, show k * 2 + 1 - k * 2 = 1 from by omega, List.set_cons_succ, List.set_cons_zero, List.take_succ_eq_append_getElem hk, fl_snoc]
  simp
theorem rep_at {l : List Value} {z : Value} {m j : Nat} (h1 : l.length ≤ j) (h2 : j < l.length + m) : (l ++ List.replicate m z)[j]? = some z := by
  rw [List.getElem?_append_right h1, List.getElem?_replicate, if_pos (by omega)]
theorem made1 (z : Value) (n : Nat) : (madeCells #[z] n).toList = List.replicate n z := toList_madeCells_one z n
theorem made2 (v : Value) (n : Nat) : (madeCells #[v, v] (n * 2)).toList = List.replicate (n * 2) v := by
  apply List.ext_getElem?
  intro j
  by_cases hj : j < n * 2
  · have h6 : j % 2 = 0 ∨ j % 2 = 1 := by omega
    rcases h6 with h | h <;> simp [madeCells, hj, h]
  · simp [madeCells, hj]

end Go.Proofs.YtodjnafalbbmjaaDoor
