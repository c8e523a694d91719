/- Used steps: the program's. -/
import Derived.Test.YtlkieebmfmiafaaUt
namespace Go.Proofs.Ytlkieebmfmiafaa
open Go.RowKit

theorem info_bool : (Try.prog.info? 4).map (fun i => (i.zero, i.size, i.bytes)) = some (some (.bool false), 1, 1) := by kernel_rfl
def bools (l : List Int) (R : Nat) : List Value := (List.range R).map fun v : Nat => Value.bool (hasI l (v : Int))
theorem bools_length (l : List Int) (R : Nat) : (bools l R).length = R := by simp [bools]
theorem bools_nil (R : Nat) : bools [] R = List.replicate R (.bool false) := by
  apply List.ext_getElem?
  intro j
  by_cases hj : j < R <;> simp [bools, hj, hasI]
theorem bools_set (l : List Int) {R a : Nat} (ha : a < R) : (bools l R).set a (.bool true) = bools (l ++ [(a : Int)]) R := by
  apply List.ext_getElem?
  intro j
  by_cases hj : j < R
  · by_cases hja : a = j
    · subst hja
      rw [List.getElem?_set_self (by rw [bools_length]; exact ha)]
      simp [bools, ha, hasI]
    · rw [List.getElem?_set_ne hja]
      have : ¬ (j : Int) = (a : Int) := by omega
      simp [bools, hj, hasI, this]
  · rw [List.getElem?_eq_none (by simp [bools]; omega), List.getElem?_eq_none (by simp [bools]; omega)]
theorem bools_at (l : List Int) {R a : Nat} (ha : a < R) : (bools l R)[a]? = some (.bool (hasI l (a : Int))) := by simp [bools, ha]
theorem box4 {w w1 : World} {a b c d : Value} {t : TypeId} (h : w.alloc (.cells #[a, b, c, d] t) = w1) :
    w1.cell? ⟨w.heap.size, 0, none⟩ = some a ∧ w1.cell? ⟨w.heap.size, 1, none⟩ = some b ∧ w1.cell? ⟨w.heap.size, 2, none⟩ = some c ∧ w1.cell? ⟨w.heap.size, 3, none⟩ = some d ∧ w1.heap.size = w.heap.size + 1 ∧ Below w.heap.size w w1 := by
  subst h
  refine ⟨?_, ?_, ?_, ?_, by simp, (Below.refl _ _).alloc (Nat.le_refl _) _⟩ <;> (rw [World.cell?_alloc_at _ _ _ _ rfl]; rfl)
theorem bools_own {w : World} {B : Nat} (n : Nat) (hn : n ≤ 1000) (hB : B ≤ w.heap.size) :
    (w.alloc (.cells (madeCells #[Value.bool false] n) 4)).ownsRow B 4 1 (.slice (some ⟨w.heap.size, 0, none⟩) n n) n (bools [] n) := by
  have h := World.ownsRow_lit (base := B) (e := 4) (size := 1) w (madeCells #[Value.bool false] n) n hB (by unfold maxLen; omega) (by simp [size_madeCells])
  rw [toList_madeCells_one] at h
  rw [bools_nil]
  exact h

/-- A store of true. -/
theorem own_set1 {w : World} {B g R a : Nat} {l : List Int} (h : w.ownsRow B 4 1 (.slice (some ⟨g, 0, none⟩) R R) R (bools l R)) (ha : a < R) :
    w.frozen? ⟨g, a, none⟩ = false ∧ (∃ u, w.cell? ⟨g, a, none⟩ = some (.bool u)) ∧ (w.setCell ⟨g, a, none⟩ (.bool true)).ownsRow B 4 1 (.slice (some ⟨g, 0, none⟩) R R) R (bools (l ++ [(a : Int)]) R) := by
  refine ⟨h.frozenAt _, ⟨_, by rw [h.cellAt _ (by omega)]; exact bools_at _ ha⟩, ?_⟩
  have h1 := (h.stored a (.bool true)).1
  rw [bools_set _ ha] at h1
  exact h1

def usP (N : Nat) (s : List (Int × Int)) (o : List Int) (k : Nat) : List Int := ((List.range k).filter (finI N s o)).map fun i : Nat => (i : Int)
theorem usP_all (N : Nat) (s : List (Int × Int)) (o : List Int) : usP N s o s.length = usd N s o := by
  unfold usP usd usT
  rw [Nat.sub_self, List.range_eq_range']
theorem usP_len (N : Nat) (s : List (Int × Int)) (o : List Int) (k : Nat) : (usP N s o k).length ≤ k := by
  unfold usP
  rw [List.length_map]
  exact Nat.le_trans (List.length_filter_le _ _) (by simp)
theorem usP_hit {N : Nat} {s : List (Int × Int)} {o : List Int} {k : Nat} (h : finI N s o k = true) : usP N s o (k + 1) = usP N s o k ++ [(k : Int)] := by
  unfold usP
  rw [List.range_succ, List.filter_append, List.map_append]
  simp [h]
theorem usP_miss {N : Nat} {s : List (Int × Int)} {o : List Int} {k : Nat} (h : finI N s o k = false) : usP N s o (k + 1) = usP N s o k := by
  unfold usP
  rw [List.range_succ, List.filter_append, List.map_append]
  simp [h]

end Go.Proofs.Ytlkieebmfmiafaa
