/- Numbers read from digits: as data, and by the program. -/
import Derived.Test.YtodjnafalbbmjabBw
import Derived.Test.YtodjnafalbbmjabNa
import Derived.Test.YtodjnafalbbmjabMa
namespace Go.Proofs.Ytodjnafalbbmjab
open Go.RowKit Go.Shelf

attribute [local go_sem] Oper.semAt_some

def fdS (b : Int) (s : Option Int) (x : Nat × Int) : Option Int := s.bind fun n => if x.2 < 0 ∨ b ≤ x.2 then none else if isNum (n * b + x.2) then some (n * b + x.2) else none
def fdF (b : Int) (p : List (Nat × Int)) : Option Int := p.foldl (fdS b) (some 0)
theorem fdF_snoc (b : Int) (p : List (Nat × Int)) (x : Nat × Int) : fdF b (p ++ [x]) = fdS b (fdF b p) x := by simp [fdF]
def fdQ (l : List Int) (b : Int) : Option Int := if inB b 2 64 then fdF b (bwZ l l.length) else none
def fdV (l : List Int) (b : Int) : Int := (fdQ l b).getD 0
def fdB (l : List Int) (b : Int) : Bool := decide (0 < fdV l b)
theorem fdS_none (b : Int) (x : Nat × Int) : fdS b none x = none := rfl
theorem fdF_stays (b : Int) : ∀ (q : List (Nat × Int)), q.foldl (fdS b) none = none := by
  intro q
  induction q with
  | nil => rfl
  | cons x q ih => exact ih
theorem bwZ_split (l : List Int) {k : Nat} (hk : k ≤ l.length) : ∃ q, bwZ l l.length = bwZ l k ++ q := by
  refine ⟨((List.range' k (l.length - k)).map fun j => (l.length - 1 - j, l[l.length - 1 - j]?.getD 0)), ?_⟩
  unfold bwZ bwd
  rw [← List.map_append]
  congr 1
  rw [List.range_eq_range', List.range_eq_range']
  have h := List.range'_append_1 (s := 0) (m := k) (n := l.length - k)
  rw [Nat.zero_add] at h
  rw [h]
  congr 1
  omega
theorem fdF_none {l : List Int} {b : Int} {k : Nat} (hk : k ≤ l.length) (h : fdF b (bwZ l k) = none) : fdF b (bwZ l l.length) = none := by
  obtain ⟨q, e⟩ := bwZ_split l hk
  rw [e]
  unfold fdF at h ⊢
  rw [List.foldl_append, h]
  exact fdF_stays b q
theorem fdS_some {b n : Int} {s : Option Int} {x : Nat × Int} (h : fdS b s x = some n) : ∃ m, s = some m ∧ 0 ≤ x.2 ∧ x.2 < b ∧ isNum (m * b + x.2) = true ∧ n = m * b + x.2 := by
  cases s with
  | none => cases h
  | some m =>
    refine ⟨m, rfl, ?_⟩
    unfold fdS at h
    simp only [Option.bind_some] at h
    split at h
    · cases h
    · split at h
      · cases h
        exact ⟨by omega, by omega, by assumption, rfl⟩
      · cases h
def dgt (l : List Int) (j : Nat) : Int := l[l.length - 1 - j]?.getD 0
theorem bwZ_succ (l : List Int) (k : Nat) : bwZ l (k + 1) = bwZ l k ++ [(l.length - 1 - k, dgt l k)] := bwd_succ _ _ _
theorem fd_facts {l : List Int} {b : Int} (hb : 2 ≤ b) : ∀ k n, fdF b (bwZ l k) = some n → (∀ j, j < k → 0 ≤ dgt l j ∧ dgt l j < b) ∧ (k = 0 → n = 0) ∧ (1 ≤ k → 1 ≤ dgt l 0 ∧ (2 : Int) ^ (k - 1) ≤ n ∧ n ≤ 1000000) := by
  intro k
  induction k with
  | zero =>
    intro n h
    have h0 : n = 0 := by
      have : some (0 : Int) = some n := h
      cases this; rfl
    exact ⟨fun j hj => by omega, fun _ => h0, fun h => by omega⟩
  | succ k ih =>
    intro n h
    rw [bwZ_succ, fdF_snoc] at h
    obtain ⟨m, hm, h1, h2, h3, rfl⟩ := fdS_some h
    obtain ⟨i1, i2, i3⟩ := ih m hm
    have hr := isNum_rng h3
    dsimp only at h1 h2 hr
    refine ⟨fun j hj => ?_, fun h => by omega, fun _ => ?_⟩
    · rcases Nat.lt_or_eq_of_le (Nat.lt_succ_iff.1 hj) with h | h
      · exact i1 j h
      · subst h; exact ⟨h1, h2⟩
    · cases k with
      | zero =>
        have := i2 rfl
        subst this
        simp at hr ⊢
        omega
      | succ k =>
        obtain ⟨j1, j2, j3⟩ := i3 (by omega)
        refine ⟨j1, ?_, hr.2⟩
        have e : (2 : Int) ^ (k + 1 + 1 - 1) = 2 ^ (k + 1 - 1) * 2 := by
          rw [show k + 1 + 1 - 1 = (k + 1 - 1) + 1 by omega, Int.pow_succ]
        rw [e]
        have hp : (0 : Int) < 2 ^ (k + 1 - 1) := Int.pow_pos (by omega)
        have h4 : (2 : Int) ^ (k + 1 - 1) * 2 ≤ m * b := by
          have a1 : (2 : Int) ^ (k + 1 - 1) * 2 ≤ m * 2 := Int.mul_le_mul_of_nonneg_right j2 (by omega)
          have a2 : m * 2 ≤ m * b := Int.mul_le_mul_of_nonneg_left hb (by omega)
          omega
        omega
theorem fdV_none {l : List Int} {b : Int} (h : fdQ l b = none) : fdV l b = 0 ∧ fdB l b = false := by
  have : fdV l b = 0 := by unfold fdV; rw [h]; rfl
  exact ⟨this, by unfold fdB; rw [this]; rfl⟩
theorem fdQ_of {l : List Int} {b : Int} (h : inB b 2 64 = true) : fdQ l b = fdF b (bwZ l l.length) := by unfold fdQ; rw [if_pos h]

theorem blk_own {W W' : World} {row : Option Nat} {x : Nat} {cs : Array Value} {t : TypeId} (h : W.heap[x]? = some (.cells cs t (0, 0))) (hg : W.grownBy W' row) (hr : ∀ r, row = some r → ∃ o : Obj, W.heap[r]? = some o ∧ o.isCells = false) :
    W'.heap[x]? = some (.cells cs t (0, 0)) :=
  (hg.block x (Array.getElem?_eq_some_iff.1 h).1 (fun e => by obtain ⟨o, ho, hc⟩ := hr x e.symm; rw [h] at ho; cases ho; cases hc)).trans h
theorem one_set {w w' : World} {g : Nat} {a u : Value} {t : TypeId} (hb : w.heap[g]? = some (.cells #[a] t (0, 0))) (h : w.setCell ⟨g, 0, none⟩ u = w') : w'.heap[g]? = some (.cells #[u] t (0, 0)) := by
  subst h
  rw [heap_setCell_same w g 0 _ t u hb]
  rfl
theorem one_cell {w : World} {g : Nat} {v : Value} {t : TypeId} (hb : w.heap[g]? = some (.cells #[v] t (0, 0))) : w.cell? ⟨g, 0, none⟩ = some v ∧ w.frozen? ⟨g, 0, none⟩ = false :=
  ⟨by rw [cell_of_row w g 0 _ _ (0, 0) hb]; rfl, frozen_of_row w g 0 _ _ hb⟩
theorem set_other {w : World} {g h : Nat} {u : Value} {k : Nat} (hne : h ≠ g) : (w.setCell ⟨g, k, none⟩ u).heap[h]? = w.heap[h]? := by
  exact heap_setCell_other w ⟨g, k, none⟩ h u hne

/-- The boxes of FromDigits at s: the base, the answers, the number. -/
def Fb (W : World) (s : Nat) (b n : Int) : Prop :=
  W.heap[s]? = some (.cells #[.int .i64 b] 3 (0, 0)) ∧ (∃ v, W.heap[s + 1]? = some (.cells #[v] 3 (0, 0))) ∧ (∃ v, W.heap[s + 2]? = some (.cells #[v] 4 (0, 0))) ∧ W.heap[s + 3]? = some (.cells #[.int .i64 n] 3 (0, 0))
def Fx (W : World) (s : Nat) : Prop :=
  W.heap[s + 1]? = some (.cells #[.int .i64 0] 3 (0, 0)) ∧ W.heap[s + 2]? = some (.cells #[.bool false] 4 (0, 0))
theorem Fb.own {s : Nat} {b n : Int} {W W' : World} {row : Option Nat} (h : Fb W s b n) (hg : W.grownBy W' row) (hr : ∀ r, row = some r → ∃ o : Obj, W.heap[r]? = some o ∧ o.isCells = false) : Fb W' s b n := by
  obtain ⟨h0, ⟨v1, h1⟩, ⟨v2, h2⟩, h3⟩ := h
  exact ⟨blk_own h0 hg hr, ⟨v1, blk_own h1 hg hr⟩, ⟨v2, blk_own h2 hg hr⟩, blk_own h3 hg hr⟩
theorem Fx.own {s : Nat} {W W' : World} {row : Option Nat} (h : Fx W s) (hg : W.grownBy W' row) (hr : ∀ r, row = some r → ∃ o : Obj, W.heap[r]? = some o ∧ o.isCells = false) : Fx W' s :=
  ⟨blk_own h.1 hg hr, blk_own h.2 hg hr⟩
end Go.Proofs.Ytodjnafalbbmjab
