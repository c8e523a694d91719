/- Used steps: what they are, and the model's. -/
import Derived.Test.YtlkieebmfmiafaaUs
namespace Go.Proofs.Ytlkieebmfmiafaa
open Go.RowKit

def needI (N : Nat) (s : List (Int × Int)) (o : List Int) : Nat → List Int
  | 0 => o
  | j + 1 => if hasI (needI N s o j) ((N : Int) + ((s.length - 1 - j : Nat) : Int)) then needI N s o j ++ [(s.getD (s.length - 1 - j) (0, 0)).1, (s.getD (s.length - 1 - j) (0, 0)).2] else needI N s o j
def finI (N : Nat) (s : List (Int × Int)) (o : List Int) (i : Nat) : Bool := hasI (needI N s o s.length) ((N : Int) + (i : Int))
def usT (N : Nat) (s : List (Int × Int)) (o : List Int) (j : Nat) : List Int := ((List.range' (s.length - j) j).filter (finI N s o)).map fun i : Nat => (i : Int)
def usd (N : Nat) (s : List (Int × Int)) (o : List Int) : List Int := usT N s o s.length

theorem hasI_two (l : List Int) (a b x : Int) : hasI (l ++ [a, b]) x = (hasI l x || (x == a || x == b)) := by
  unfold hasI
  rw [Bool.eq_iff_iff]
  simp
theorem need_hit {N : Nat} {s : List (Int × Int)} {o : List Int} {j i : Nat} (hi : i < s.length) (hij : s.length - 1 - j = i) (h : hasI (needI N s o j) ((N : Int) + (i : Int)) = true) : needI N s o (j + 1) = needI N s o j ++ [(s[i]).1, (s[i]).2] := by
  subst hij
  simp only [needI]
  rw [if_pos h]
  simp [hi]
theorem need_miss {N : Nat} {s : List (Int × Int)} {o : List Int} {j i : Nat} (hij : s.length - 1 - j = i) (h : hasI (needI N s o j) ((N : Int) + (i : Int)) = false) : needI N s o (j + 1) = needI N s o j := by
  subst hij
  simp only [needI]
  rw [if_neg (by rw [h]; decide)]
theorem need_len (N : Nat) (s : List (Int × Int)) (o : List Int) : ∀ j, (needI N s o j).length ≤ o.length + 2 * j := by
  intro j
  induction j with
  | zero => simp [needI]
  | succ j ih =>
    simp only [needI]
    split
    · simp; omega
    · omega
theorem need_stable {N : Nat} {s : List (Int × Int)} {o : List Int} (hs : OkS N s) {j i : Nat} (hj : j < s.length) (hij : s.length - 1 - j = i) : ∀ d, j + d ≤ s.length → hasI (needI N s o (j + d)) ((N : Int) + (i : Int)) = hasI (needI N s o j) ((N : Int) + (i : Int)) := by
  intro d
  induction d with
  | zero => intro _; rfl
  | succ d ih =>
    intro hd
    have ih := ih (by omega)
    have hlt : s.length - 1 - (j + d) < s.length := by omega
    obtain ⟨h1, h2, h3⟩ := hs _ hlt
    show hasI (needI N s o (j + d + 1)) _ = _
    cases hq : hasI (needI N s o (j + d)) ((N : Int) + ((s.length - 1 - (j + d) : Nat) : Int)) with
    | true =>
      rw [need_hit hlt rfl hq, hasI_two, ih]
      have e1 : (((N : Int) + (i : Int)) == (s[s.length - 1 - (j + d)]).1) = false := by rw [beq_eq_false_iff_ne]; omega
      have e2 : (((N : Int) + (i : Int)) == (s[s.length - 1 - (j + d)]).2) = false := by rw [beq_eq_false_iff_ne]; omega
      rw [e1, e2]
      simp
    | false => rw [need_miss rfl hq, ih]
theorem fin_at {N : Nat} {s : List (Int × Int)} {o : List Int} (hs : OkS N s) {j i : Nat} (hj : j < s.length) (hij : s.length - 1 - j = i) : finI N s o i = hasI (needI N s o j) ((N : Int) + (i : Int)) := by
  have h := need_stable (o := o) hs hj hij (s.length - j) (by omega)
  rw [show j + (s.length - j) = s.length by omega] at h
  exact h
theorem us_hit {N : Nat} {s : List (Int × Int)} {o : List Int} {j i : Nat} (hj : j < s.length) (hij : s.length - 1 - j = i) (h : finI N s o i = true) : usT N s o (j + 1) = (i : Int) :: usT N s o j := by
  unfold usT
  rw [show s.length - (j + 1) = i by omega, List.range'_succ, show i + 1 = s.length - j by omega, List.filter_cons_of_pos h]
  rfl
theorem us_miss {N : Nat} {s : List (Int × Int)} {o : List Int} {j i : Nat} (hj : j < s.length) (hij : s.length - 1 - j = i) (h : finI N s o i = false) : usT N s o (j + 1) = usT N s o j := by
  unfold usT
  rw [show s.length - (j + 1) = i by omega, List.range'_succ, show i + 1 = s.length - j by omega, List.filter_cons_of_neg (by rw [h]; decide)]
theorem us_gt {N : Nat} {s : List (Int × Int)} {o : List Int} {j i : Nat} (hj : j < s.length) (hij : s.length - 1 - j = i) : ∀ x ∈ usT N s o j, (i : Int) < x := by
  intro x hx
  unfold usT at hx
  simp only [List.mem_map, List.mem_filter, List.mem_range'_1] at hx
  obtain ⟨y, ⟨hy, _⟩, rfl⟩ := hx
  omega
theorem us_len (N : Nat) (s : List (Int × Int)) (o : List Int) (j : Nat) : (usT N s o j).length ≤ j := by
  unfold usT
  rw [List.length_map]
  exact Nat.le_trans (List.length_filter_le _ _) (by simp)
theorem own_cap {w : World} {B e sz n c : Nat} {A : Option Addr} {xs : List Value} (h : w.ownsRow B e sz (.slice A n c) n xs) : n ≤ c := by
  obtain ⟨A0, c0, e0, h0⟩ := own_form h
  injection e0 with _ _ e1
  omega
theorem rd_two {w : World} {g : Nat} {a b : Int} (h0 : w.cell? ⟨g, 0, none⟩ = some (I a)) (h1 : w.cell? ⟨g, 1, none⟩ = some (I b)) : Rd w (g + 1) 1 (some ⟨g, 0, none⟩) 2 ([a, b].map I) :=
  ⟨rfl, fun _ => ⟨g, 0, rfl, by omega, fun j hj => by
    have hj2 : j = 0 ∨ j = 1 := by omega
    rcases hj2 with rfl | rfl
    · exact h0
    · exact h1⟩⟩

end Go.Proofs.Ytlkieebmfmiafaa
