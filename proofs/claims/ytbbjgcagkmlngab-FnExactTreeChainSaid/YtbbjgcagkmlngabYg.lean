/- All ways of the tree are the ways of the run, one for each number. -/
import Derived.Test.YtbbjgcagkmlngabHx
import Derived.Test.YtbbjgcagkmlngabYa
namespace Go.Proofs.Ytbbjgcagkmlngab

theorem lastN_one (c : List Nat) (s : Nat) : lastN (c ++ [s]) = s := lastN_snoc c s
/-- The program's list of ways is the model's run. -/
structure Rl (s : TS) (T : List (List Nat)) : Prop where
  eq : T = s.Q.map s.W
  las : ∀ x ∈ s.Q, lastN (s.W x) = x
theorem Rl.add {s : TS} {T : List (List Nat)} {m a : Nat} (h : Rl s T) (I : TI 400 s) (hm : s.W m ≠ []) : Rl (tA 400 m s a) (addW (s.W m) T a) := by
  have hl : lastN (s.W m) = m := h.las m ((I.mem m).2 hm)
  have hall : T.all (fun q => !(lastN q == m + a)) = true ↔ s.W (m + a) = [] := by
    rw [List.all_eq_true, h.eq]
    constructor
    · intro H
      apply Classical.byContradiction
      intro hne
      have hq := (I.mem (m + a)).2 hne
      have := H _ (List.mem_map_of_mem hq)
      rw [h.las _ hq] at this
      simp at this
    · intro h0 q hq
      obtain ⟨x, hx, rfl⟩ := List.mem_map.1 hq
      rw [h.las x hx]
      have : x ≠ m + a := fun e => (I.mem x).1 hx (by rw [e]; exact h0)
      simpa using this
  unfold addW tA
  rw [hl]
  by_cases hc : m + a ≤ 400 ∧ s.W (m + a) = []
  · rw [if_pos hc, if_pos ⟨hc.1, hall.2 hc.2⟩]
    have hnq : ∀ x ∈ s.Q, x ≠ m + a := fun x hx e => (I.mem x).1 hx (by rw [e]; exact hc.2)
    refine ⟨?_, fun x hx => ?_⟩
    · show T ++ _ = (s.Q ++ [m + a]).map (updW s.W (m + a) (s.W m ++ [m + a]))
      rw [List.map_append, h.eq]
      congr 1
      · refine List.map_congr_left fun x hx => ?_
        unfold updW
        rw [if_neg (hnq x hx)]
      · simp [updW]
    · show lastN (updW s.W (m + a) (s.W m ++ [m + a]) x) = x
      have hx' : x ∈ s.Q ++ [m + a] := hx
      rw [List.mem_append, List.mem_singleton] at hx'
      unfold updW
      rcases hx' with hx' | rfl
      · rw [if_neg (hnq x hx')]
        exact h.las x hx'
      · rw [if_pos rfl, lastN_snoc]
  · rw [if_neg hc, if_neg (fun h' => hc ⟨h'.1, hall.1 h'.2⟩)]
    exact h
theorem Rl.fold {m : Nat} : ∀ (l : List Nat) (s : TS) (T : List (List Nat)) (p : List Nat), Rl s T → TI 400 s → s.W m = p → p ≠ [] → (∀ a ∈ l, 1 ≤ a) → Rl (l.foldl (tA 400 m) s) (l.foldl (addW p) T) := by
  intro l
  induction l with
  | nil => intro s T p h _ _ _ _; exact h
  | cons a l ih =>
    intro s T p h I hp hne h1
    have hm : s.W m ≠ [] := by rw [hp]; exact hne
    have ha := h1 a List.mem_cons_self
    rw [List.foldl_cons, List.foldl_cons]
    refine ih _ _ p ?_ (tA_inv I hm ha) ((tA_keep 400 s ha).trans hp) hne fun b hb => h1 b (List.mem_cons_of_mem _ hb)
    have := h.add (a := a) I hm
    rw [hp] at this
    exact this
theorem Rl.proc {s : TS} {T : List (List Nat)} {i : Nat} (h : Rl s T) (I : TI 400 s) (hi : i < s.Q.length) : Rl (tM 400 (s.Q.getD i 0) s) (procW T i) := by
  have hq := getD_mem hi
  have e : T.getD i [] = s.W (s.Q.getD i 0) := by
    rw [h.eq, List.getD_eq_getElem?_getD, List.getElem?_map, List.getElem?_eq_getElem hi, List.getD_eq_getElem?_getD, List.getElem?_eq_getElem hi]
    rfl
  unfold procW tM
  rw [e]
  exact Rl.fold _ s T _ h I rfl ((I.mem _).1 hq) fun a ha => (I.els _ a ha).1
theorem Rl.run : ∀ (f i : Nat) (T : List (List Nat)), i ≤ (tR 400 i).Q.length → Rl (tR 400 i) T → ∃ t, t ≤ (tR 400 t).Q.length ∧ Rl (tR 400 t) (runW f i T) := by
  intro f
  induction f with
  | zero => intro i T hi h; exact ⟨i, hi, h⟩
  | succ f ih =>
    intro i T hi h
    have hl : T.length = (tR 400 i).Q.length := by rw [h.eq, List.length_map]
    by_cases hlt : i < T.length
    · rw [runW_step hlt]
      refine ih (i + 1) _ ?_ (h.proc (tR_inv (by omega) i) (by omega))
      have := (tR_le (C := 400) (by omega) i 1).qlen
      omega
    · rw [runW_end hlt]
      exact ⟨i, hi, h⟩
/-- Each row of the list is the way to its end. -/
theorem tree_row {i : Nat} (hi : i < treeT.length) : treeT.getD i [] = twN (lastN (treeT.getD i [])) ∧ 1 ≤ lastN (treeT.getD i []) := by
  obtain ⟨t, ht, h⟩ := Rl.run 400 0 [[1]] (Nat.zero_le _) ⟨rfl, fun x hx => by
    have : x = 1 := List.mem_singleton.1 hx
    subst this
    rfl⟩
  have h : Rl (tR 400 t) treeT := h
  have I := tR_inv (C := 400) (by omega) t
  have hlen : treeT.length = (tR 400 t).Q.length := by rw [h.eq, List.length_map]
  have hiq : i < (tR 400 t).Q.length := by omega
  have hq := getD_mem hiq
  have e : treeT.getD i [] = (tR 400 t).W ((tR 400 t).Q.getD i 0) := by
    rw [h.eq, List.getD_eq_getElem?_getD, List.getElem?_map, List.getElem?_eq_getElem hiq, List.getD_eq_getElem?_getD, List.getElem?_eq_getElem hiq]
    rfl
  have hw := (I.mem _).1 hq
  have hr := I.rng _ hw
  rw [e, h.las _ hq]
  exact ⟨tw_impl hr.1 hr.2 ht hw, hr.1⟩
theorem ends_ok : ((List.range 400).all fun n => tL14.any fun q => lastN q == n + 1) = true := by decide +kernel
/-- The first row whose end is n: it is there. -/
theorem tree_has {n : Nat} (h1 : 1 ≤ n) (hn : n ≤ 400) : (treeT.all fun q => !(lastN q == n)) = false := by
  have h := List.all_eq_true.1 ends_ok (n - 1) (by simp; omega)
  rw [show n - 1 + 1 = n by omega, ← treeT_eq, List.any_eq_true] at h
  obtain ⟨q, hq, he⟩ := h
  rw [List.all_eq_false]
  exact ⟨q, hq, by rw [he]; decide⟩
end Go.Proofs.Ytbbjgcagkmlngab
