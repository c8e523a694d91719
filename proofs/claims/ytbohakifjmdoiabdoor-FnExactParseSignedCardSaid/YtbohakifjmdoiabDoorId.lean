/- A plan found valid by the program, together with its values. -/
import Derived.Test.YtbohakifjmdoiabDoorIc
namespace Go.Proofs.YtbohakifjmdoiabDoor
open Go.RowKit

def runI (rows : List (List Int)) : List (Int × Int) → Option (List (List Int))
  | [] => some rows
  | s :: r => match mulI rows s.1 s.2 with
    | none => none
    | some v => runI (rows ++ [v]) r
def valsI (p : Pl) : Option (List (List Int)) :=
  if inB p.n 1 6 && (decide (p.s.length ≤ 40) && decide (p.o.length ≤ 6)) then
    match runI (units6 p.n.toNat) p.s with
    | none => none
    | some rows => if hasAllB p.o rows.length then some rows else none
  else none

theorem runI_len {rows rows' : List (List Int)} {s : List (Int × Int)} (h : runI rows s = some rows') : rows'.length = rows.length + s.length := by
  induction s generalizing rows with
  | nil => simp [runI] at h; subst h; rfl
  | cons st s ih =>
    simp only [runI] at h
    split at h
    · cases h
    · rename_i v hv
      have := ih h
      simp at this ⊢
      omega
theorem runI_append (rows : List (List Int)) (s t : List (Int × Int)) : runI rows (s ++ t) = (runI rows s).bind fun r => runI r t := by
  induction s generalizing rows with
  | nil => rfl
  | cons st s ih =>
    simp only [List.cons_append, runI]
    split
    · rfl
    · exact ih _
theorem runI_none {u rows : List (List Int)} {s : List (Int × Int)} {k : Nat} (hk : k < s.length) (h : runI u (s.take k) = some rows) (hm : mulI rows (s[k]).1 (s[k]).2 = none) : runI u s = none := by
  have e : s = s.take k ++ s[k] :: s.drop (k + 1) := by simp
  rw [e, runI_append, h]
  simp [runI, hm]
theorem runI_some {u rows : List (List Int)} {s : List (Int × Int)} {k : Nat} {v : List Int} (hk : k < s.length) (h : runI u (s.take k) = some rows) (hm : mulI rows (s[k]).1 (s[k]).2 = some v) : runI u (s.take (k + 1)) = some (rows ++ [v]) := by
  rw [List.take_succ_eq_append_getElem hk, runI_append, h]
  simp [runI, hm]
/-- All values have six exponents, none out of range. -/
def Rng6 (rows : List (List Int)) : Prop := ∀ r ∈ rows, r.length = 6 ∧ ∀ x ∈ r, 0 ≤ x ∧ x ≤ 1000000
theorem mulI_ok {rows : List (List Int)} {a b : Int} {v : List Int} (h : mulI rows a b = some v) (hr : Rng6 rows) : v.length = 6 ∧ ∀ x ∈ v, 0 ≤ x ∧ x ≤ 1000000 := by
  unfold mulI at h
  split at h
  · rename_i hc
    simp only [hasB, Bool.and_eq_true, decide_eq_true_eq] at hc
    obtain ⟨_, ⟨ha0, ha⟩, hb0, hb⟩ := hc
    have la : a.toNat < rows.length := by omega
    have lb : b.toNat < rows.length := by omega
    have h1 : rows.getD a.toNat [] = rows[a.toNat] := by simp [la]
    have h2 : rows.getD b.toNat [] = rows[b.toNat] := by simp [lb]
    rw [h1, h2] at h
    have r1 := hr _ (List.getElem_mem la)
    have r2 := hr _ (List.getElem_mem lb)
    simp only at h
    split at h
    · rename_i hall
      injection h with h
      subst h
      refine ⟨by simp [r1.1, r2.1], fun x hx => ?_⟩
      unfold allB at hall
      rw [List.all_eq_true] at hall
      have := hall x hx
      simpa [inB] using this
    · cases h
  · cases h
theorem rng6_app {rows : List (List Int)} {v : List Int} (hr : Rng6 rows) (hv : v.length = 6 ∧ ∀ x ∈ v, 0 ≤ x ∧ x ≤ 1000000) : Rng6 (rows ++ [v]) := by
  intro r h
  rcases List.mem_append.1 h with h | h
  · exact hr r h
  · rw [List.mem_singleton] at h; subst h; exact hv
theorem rng6_units (n : Nat) : Rng6 (units6 n) := by
  intro r hr
  simp only [units6, List.mem_map] at hr
  obtain ⟨i, _, rfl⟩ := hr
  refine ⟨by simp [unit6], fun x hx => ?_⟩
  unfold unit6 at hx
  rcases List.mem_or_eq_of_mem_set hx with h | h
  · have := List.eq_of_mem_replicate h; omega
  · omega
theorem Rng6.six {rows : List (List Int)} (h : Rng6 rows) : Six rows := fun r hr => (h r hr).1
theorem Rng6.rng {rows : List (List Int)} (h : Rng6 rows) : ∀ r ∈ rows, ∀ x ∈ r, 0 ≤ x ∧ x ≤ 1000000 := fun r hr => (h r hr).2

end Go.Proofs.YtbohakifjmdoiabDoor
