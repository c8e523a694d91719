/- New numbers of values: what they are; the model's small functions. -/
import Derived.Test.YtbbfbccemonihaaAp
namespace Go.Proofs.Ytbbfbccemonihaa
open Go.RowKit

def plc : List Int → Int → Nat → Int
  | [], _, _ => -1
  | x :: l, n, k => if x == n then (k : Int) else plc l n (k + 1)
theorem plc_app (l r : List Int) (n : Int) (k : Nat) : plc (l ++ r) n k = if hasI l n then plc l n k else plc r n (k + l.length) := by
  induction l generalizing k with
  | nil => simp [hasI]
  | cons x l ih =>
    by_cases h : x = n
    · subst h
      simp [plc, hasI]
    · have h1 : (x == n) = false := by simpa using h
      have h2 : hasI (x :: l) n = hasI l n := by
        unfold hasI
        rw [Bool.eq_iff_iff]
        simp
        intro e
        exact absurd e.symm h
      simp only [List.cons_append, plc, h1, h2, Bool.false_eq_true, if_false]
      rw [ih]
      simp only [List.length_cons]
      rw [show k + 1 + l.length = k + (l.length + 1) by omega]
theorem plc_none {l : List Int} {n : Int} (h : hasI l n = false) (k : Nat) : plc l n k = -1 := by
  have h1 := plc_app l [] n k
  rw [List.append_nil, h] at h1
  rw [h1]
  rfl
theorem plc_bd (l : List Int) (n : Int) (k : Nat) : -1 ≤ plc l n k ∧ plc l n k < k + l.length + 1 := by
  induction l generalizing k with
  | nil => simp [plc]; omega
  | cons x l ih =>
    unfold plc
    split
    · simp only [List.length_cons]; omega
    · have := ih (k + 1)
      simp only [List.length_cons]
      omega
theorem plc_nonneg {l : List Int} {n : Int} (h : hasI l n = true) (k : Nat) : (k : Int) ≤ plc l n k := by
  induction l generalizing k with
  | nil => simp [hasI] at h
  | cons x l ih =>
    unfold plc
    split
    · omega
    · rename_i hx
      have h2 : hasI l n = true := by
        unfold hasI at h ⊢
        simp at h hx ⊢
        rcases h with h | h
        · exact absurd h.symm hx
        · exact h
      have := ih h2 (k + 1)
      omega
theorem plc_hit {l : List Int} {n : Int} {k : Nat} (hk : k < l.length) (hq : hasI (l.take k) n = false) (h : (l[k] == n) = true) : plc l n 0 = k := by
  have e : l = l.take k ++ l[k] :: l.drop (k + 1) := by simp
  have h1 := plc_app (l.take k) (l[k] :: l.drop (k + 1)) n 0
  rw [← e, hq] at h1
  rw [h1]
  simp only [Bool.false_eq_true, if_false, plc, h, if_true]
  simp
  omega

def numI (N : Nat) (l : List Int) (v : Int) : Int := if v < N then v else N + plc l (v - N) 0
def stI (a b : Int) : Int × Int := (leastI a b, mostI a b)
def keepS (p : Pl) (N : Nat) (l : List Int) (k : Nat) : List (Int × Int) := (l.take k).map fun i => stI (numI N l (p.s.getD i.toNat (0, 0)).1) (numI N l (p.s.getD i.toNat (0, 0)).2)
def keepO (p : Pl) (N : Nat) (l : List Int) (k : Nat) : List Int := (p.o.take k).map (numI N l)
theorem keepS_len (p : Pl) (N : Nat) (l : List Int) {k : Nat} (hk : k ≤ l.length) : (keepS p N l k).length = k := by simp [keepS]; omega
theorem keepO_len (p : Pl) (N : Nat) (l : List Int) {k : Nat} (hk : k ≤ p.o.length) : (keepO p N l k).length = k := by simp [keepO]; omega
theorem keepS_succ {p : Pl} {N : Nat} {l : List Int} {k n : Nat} (hk : k < l.length) (hn : l[k] = (n : Int)) (hns : n < p.s.length) : keepS p N l (k + 1) = keepS p N l k ++ [stI (numI N l (p.s[n]).1) (numI N l (p.s[n]).2)] := by
  unfold keepS
  rw [List.take_succ_eq_append_getElem hk, List.map_append, hn]
  simp [hns]
theorem keepO_succ {p : Pl} {N : Nat} {l : List Int} {k : Nat} (hk : k < p.o.length) : keepO p N l (k + 1) = keepO p N l k ++ [numI N l p.o[k]] := by
  unfold keepO
  rw [List.take_succ_eq_append_getElem hk, List.map_append]
  rfl
theorem numI_bd {N : Nat} {l : List Int} {v : Int} (h6 : N ≤ 6) (h0 : 0 ≤ v) : -1 ≤ numI N l v ∧ numI N l v ≤ N + l.length := by
  unfold numI
  split
  · omega
  · have := plc_bd l (v - N) 0
    omega

end Go.Proofs.Ytbbfbccemonihaa
