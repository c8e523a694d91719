/- Orders of steps: what they are; the model's. -/
import Derived.Test.YtbbfbccemonihaaPa
import Derived.Test.YtbbfbccemonihaaKd
namespace Go.Proofs.Ytbbfbccemonihaa
open Go.RowKit

def ordAt (N : Nat) (p : Pl) (l : List Int) (i : Nat) : Bool := inB (l.getD i 0) 0 ((p.s.length : Int) - 1) && (!hasI (l.take i) (l.getD i 0) && (nmOk N (l.take i) (stepAt p l i).1 && nmOk N (l.take i) (stepAt p l i).2))
def ordK (N : Nat) (p : Pl) (l : List Int) (k : Nat) : Bool := (List.range k).all (ordAt N p l)
def ordB (N : Nat) (p : Pl) (l : List Int) : Bool := decide (l.length = p.s.length) && ordK N p l l.length
theorem ordK_succ (N : Nat) (p : Pl) (l : List Int) (k : Nat) : ordK N p l (k + 1) = (ordK N p l k && ordAt N p l k) := by
  unfold ordK
  rw [List.range_succ, List.all_append]
  simp
theorem ordB_bad {N : Nat} {p : Pl} {l : List Int} {k : Nat} (hk : k < l.length) (h : ordAt N p l k = false) : ordB N p l = false := by
  unfold ordB ordK
  rw [Bool.and_eq_false_iff]
  right
  rw [List.all_eq_false]
  exact ⟨k, by simpa using hk, by rw [h]; decide⟩
theorem rd_take {w : World} {B n k : Nat} {A : Option Addr} {xs : List Value} (h : Rd w B 1 A n xs) (hk : k ≤ n) : Rd w B 1 A k (xs.take k) := by
  have hl := h.1
  refine ⟨by simp; omega, fun hn => ?_⟩
  obtain ⟨b, off, e, hb, hc⟩ := h.2 (by omega)
  refine ⟨b, off, e, hb, fun j hj => ?_⟩
  rw [hc j (by omega), List.getElem?_take, if_pos (by omega)]

end Go.Proofs.Ytbbfbccemonihaa
