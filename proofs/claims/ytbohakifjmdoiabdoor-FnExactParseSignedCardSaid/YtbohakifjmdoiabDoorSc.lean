/- Which plans the model takes as valid. -/
import Derived.Test.YtbohakifjmdoiabDoorSb
namespace Go.Proofs.YtbohakifjmdoiabDoor
open Go.RowKit

def stepOk (n : Int) (i : Nat) (st : Int × Int) : Bool := inB st.1 0 st.2 && decide (st.2 < n + i)
def okPre (n : Int) (s : List (Int × Int)) (k : Nat) : Bool := (List.range k).all fun i => stepOk n i (s.getD i (0, 0))
def expsB (rows : List (List Int)) : Bool := rows.all fun r => allB r 0 1000000
def good (p : Pl) : Bool :=
  inB p.n 1 6 && (decide (p.s.length ≤ 40) && (decide (p.o.length ≤ 6) && (okPre p.n p.s p.s.length && (expsB (exps p.n.toNat p.s) && allB p.o 0 (p.n + p.s.length - 1)))))

theorem okPre_succ (n : Int) (s : List (Int × Int)) (k : Nat) (hk : k < s.length) : okPre n s (k + 1) = (okPre n s k && stepOk n k s[k]) := by
  unfold okPre
  rw [List.range_succ, List.all_append]
  simp [hk]
theorem okPre_false {n : Int} {s : List (Int × Int)} {k : Nat} (hk : k < s.length) (h : stepOk n k s[k] = false) : okPre n s s.length = false := by
  unfold okPre
  rw [List.all_eq_false]
  exact ⟨k, by simpa using hk, by simp [hk, h]⟩
theorem okS_of_pre {n : Nat} {s : List (Int × Int)} (h : okPre n s s.length = true) : OkS n s := by
  intro i hi
  unfold okPre at h
  rw [List.all_eq_true] at h
  have := h i (by simpa using hi)
  simp [hi, stepOk, inB] at this
  omega
theorem expsB_succ (rows : List (List Int)) (k : Nat) (hk : k < rows.length) : expsB (rows.take (k + 1)) = (expsB (rows.take k) && allB rows[k] 0 1000000) := by
  unfold expsB
  rw [List.take_succ_eq_append_getElem hk, List.all_append]
  simp
theorem expsB_false {rows : List (List Int)} {k : Nat} (hk : k < rows.length) (h : allB rows[k] 0 1000000 = false) : expsB rows = false := by
  unfold expsB
  rw [List.all_eq_false]
  exact ⟨_, List.getElem_mem hk, by simp [h]⟩

end Go.Proofs.YtbohakifjmdoiabDoor
