/- Slices of integers that are cut at the head and appended to, in own blocks; rows that lie apart. -/
import Derived.Test.YtbbjgcagkmlngabAp
import Derived.ArgAppend
namespace Go.Proofs.Ytbbjgcagkmlngab
open Go.RowKit

/-- A slice of integers anywhere in an own block. -/
def QI (w : World) (B g off n cap : Nat) (l : List Int) : Prop :=
  l.length = n ∧ n ≤ cap ∧ B ≤ g ∧ ∃ cur : Array Value, w.heap[g]? = some (.cells cur 3 (0, 0)) ∧ off + cap ≤ cur.size ∧ ∀ j, j < n → cur[off + j]? = some (I (l.getD j 0))
section
variable {w w' : World} {B B' g off n cap : Nat} {l : List Int}
theorem QI.lt (h : QI w B g off n cap l) : g < w.heap.size := by
  obtain ⟨_, _, _, cur, hg, _⟩ := h
  exact (Array.getElem?_eq_some_iff.1 hg).1
theorem QI.at (h : QI w B g off n cap l) {j : Nat} (hj : j < n) : w.cell? ⟨g, off + j, none⟩ = some (I (l.getD j 0)) := by
  obtain ⟨_, _, _, cur, hg, _, hc⟩ := h
  rw [cell_of_row w g _ cur _ _ hg]
  exact hc j hj
theorem QI.keep (h : QI w B g off n cap l) (hk : w'.heap[g]? = w.heap[g]?) : QI w' B g off n cap l := by
  obtain ⟨h1, h2, h3, cur, hg, h4⟩ := h
  exact ⟨h1, h2, h3, cur, hk.trans hg, h4⟩
theorem QI.below (h : QI w B g off n cap l) (hb : Below w.heap.size w w') : QI w' B g off n cap l := h.keep (hb.block g h.lt)
theorem QI.grown {row : Option Nat} (h : QI w B g off n cap l) (hg : w.grownBy w' row) (hne : row ≠ some g) : QI w' B g off n cap l := h.keep (hg.block g h.lt (Ne.symm hne))
theorem QI.tail {x : Int} (h : QI w B g off (n + 1) cap (x :: l)) : (2 ≤ cap → QI w B g (off + 1) n (cap - 1) l) ∧ (cap = 1 → n = 0 ∧ l = [] ∧ QI w B g off 0 0 []) := by
  obtain ⟨h1, h2, h3, cur, hg, h4, h5⟩ := h
  refine ⟨fun _ => ⟨by simpa using h1, by omega, h3, cur, hg, by omega, fun j hj => ?_⟩, fun hc => ?_⟩
  · have := h5 (j + 1) (by omega)
    rw [show off + (j + 1) = off + 1 + j by omega] at this
    simpa using this
  · have hn : n = 0 := by omega
    subst hn
    exact ⟨rfl, by simpa using h1, rfl, by omega, h3, cur, hg, by omega, fun j hj => absurd hj (by omega)⟩
theorem QI.of_own {v : Value} (h : w.ownsRow B 3 1 v n (l.map I)) (hn : 0 < n) : ∃ g cap, v = .slice (some ⟨g, 0, none⟩) n cap ∧ QI w B g 0 n cap l := by
  rcases h.2 with ⟨_, h0⟩ | ⟨g, cap, cur, hv, hb, hg, hnc, _, hcs, htake⟩
  · omega
  · have hl : l.length = n := by have := h.1; simpa using this
    refine ⟨g, cap, hv, hl, hnc, hb, cur, hg, by omega, fun j hj => ?_⟩
    have e : (cur.toList.take (n * 1))[j]? = (l.map I)[j]? := by rw [htake]
    rw [List.getElem?_take_of_lt (by omega), List.getElem?_map, List.getElem?_eq_getElem (l := l) (by omega)] at e
    rw [Nat.zero_add, ← Array.getElem?_toList, e, List.getD_eq_getElem?_getD, List.getElem?_eq_getElem (l := l) (by omega)]
    rfl
theorem QI.store (h : QI w B g off n cap l) (hc : n + 1 ≤ cap) (u : Int) : QI (w.setCell ⟨g, off + n, none⟩ (I u)) B g off (n + 1) cap (l ++ [u]) := by
  obtain ⟨h1, h2, h3, cur, hg, h4, h5⟩ := h
  refine ⟨by simp [h1], hc, h3, _, heap_setCell_same w g (off + n) cur _ (I u) hg, by simpa using h4, fun j hj => ?_⟩
  rw [Array.getElem?_setIfInBounds]
  rcases Nat.lt_or_eq_of_le (Nat.lt_succ_iff.1 hj) with hlt | rfl
  · rw [if_neg (by omega), h5 j hlt, List.getD_eq_getElem?_getD, List.getD_eq_getElem?_getD, List.getElem?_append_left (by omega)]
  · rw [if_pos rfl, if_pos (by omega), List.getD_eq_getElem?_getD, ← h1, List.getElem?_concat_length]
    rfl
end

section
variable {ops : Array Oper} {o : Oper} {a : Act} {Q : Exit → Act → World → Prop} {w : World}
/-- append(v, x) of one integer onto such a slice. -/
theorem wpList_appQ {rest : List Oper} (hgd : o.guard = none) (s x : Operand)
    (ho : o.op = .call { callee := .builtin .append, args := #[s, x], argTypes := #[22, 22] })
    (B g off n cap : Nat) (l : List Int) (hs : a.eval s = .slice (some ⟨g, off, none⟩) n cap) (hq : QI w B g off n cap l) (b c : Nat) (u : Int) (hx : a.eval x = .slice (some ⟨b, 0, none⟩) 1 c)
    (hu : w.cell? ⟨b, 0, none⟩ = some (I u)) (hn : n ≤ 4000000) (hB : B ≤ w.heap.size)
    (h : ∀ g' off' cap' w', QI w' B g' off' (n + 1) cap' (l ++ [u]) → w.grownBy w' (some g) → Below B w w' → (g' = g ∨ w.heap.size ≤ g') → wpList Try.prog ops Q rest (a.put o.dst (.slice (some ⟨g', off', none⟩) (n + 1) cap')) w') :
    wpList Try.prog ops Q (o :: rest) a w := by
  obtain ⟨i0, hi, hz0, hz1, hz2⟩ := info_parts info_int
  have hBg : B ≤ g := hq.2.2.1
  have hlen : l.length = n := hq.1
  have hgl := hq.lt
  refine wpList_append_arg w hgd s x 22 ho 3 i0 _ 1 8 Try.underlying22 hi hz0 hz1 hz2 rfl (by omega) g off n cap (l.map I) hs (by simpa using hlen) ?_ ⟨b, 0, none⟩ 1 c [I u] hx rfl ?_ ?_ ?_ (by unfold maxLen; omega) (by omega) ?_ ?_
  · intro j y hj
    have hjn : j < n := by have := (List.getElem?_eq_some_iff.1 hj).1; simpa [hlen] using this
    rw [hq.at hjn]
    rw [List.getElem?_map, List.getElem?_eq_getElem (by omega)] at hj
    rw [List.getD_eq_getElem?_getD, List.getElem?_eq_getElem (by omega)]
    simpa using hj
  · intro j y hj
    match j, hj with
    | 0, hj => simp at hj; subst hj; simpa [Addr.add] using hu
  · intro y hy; simp at hy; subst hy; rfl
  · intro hroom j hj
    have hj0 : j = 0 := by simpa using hj
    subst hj0
    obtain ⟨_, _, _, cur, hg, h4, _⟩ := hq
    refine ⟨?_, frozen_of_row w g _ cur _ hg⟩
    rw [cell_of_row w g _ cur _ _ hg, Array.getElem?_eq_getElem (by omega)]
    rfl
  · intro hroom
    have e : w.setCells g (off + n * 1) [I u] = w.setCell ⟨g, off + n, none⟩ (I u) := by rw [Nat.mul_one]; rfl
    rw [e]
    exact h g off cap _ (hq.store hroom u) (grown_set (World.grownBy.refl _ _) _) ((Below.refl _ _).setCell hBg _) (.inl rfl)
  · intro hfull v' w' hown hg
    have hown' : w'.ownsRow w.heap.size 3 1 v' (n + 1) ((l ++ [u]).map I) := by rw [List.map_append]; exact hown
    obtain ⟨g', cap', rfl, hq'⟩ := QI.of_own hown' (by omega)
    have hg2 : w.grownBy w' (some g) := ⟨hg.os, hg.tape, hg.output, hg.size, fun k hk _ => hg.block k hk (by simp)⟩
    refine h g' 0 cap' w' ⟨hq'.1, hq'.2.1, by have := hq'.2.2.1; omega, hq'.2.2.2⟩ hg2 ((Below.refl _ _).grown hg hB fun k hk => by cases hk) (.inr hq'.2.2.1)

/-- append(v, x) of one integer onto an own slice, and where the new one lies. -/
theorem wpList_app_intH {rest : List Oper} (hgd : o.guard = none) (s x : Operand)
    (ho : o.op = .call { callee := .builtin .append, args := #[s, x], argTypes := #[22, 22] })
    (B n : Nat) (v : Value) (l : List Int) (hs : a.eval s = v) (hown : OwI w B v l) (hl : l.length = n) (b c : Nat) (u : Int) (hx : a.eval x = .slice (some ⟨b, 0, none⟩) 1 c)
    (hu : w.cell? ⟨b, 0, none⟩ = some (I u)) (hn : n ≤ 4000000) (hB : B ≤ w.heap.size)
    (h : ∀ g cap w', OwI w' B (.slice (some ⟨g, 0, none⟩) (n + 1) cap) (l ++ [u]) → w.grownBy w' v.ownBlock → Below B w w' → (v.ownBlock = some g ∨ g = w.heap.size) → wpList Try.prog ops Q rest (a.put o.dst (.slice (some ⟨g, 0, none⟩) (n + 1) cap)) w') :
    wpList Try.prog ops Q (o :: rest) a w := by
  subst hl
  obtain ⟨i0, hi, hz0, hz1, hz2⟩ := info_parts info_int
  refine wpList_append_lies w hgd s x _ ho B 3 i0 _ 1 8 Try.underlying22 hi hz0 hz1 hz2 rfl (by omega) v l.length (l.map I) hs hown ⟨b, 0, none⟩ 1 c [I u] hx rfl ?_ ?_ (by omega) (by unfold maxLen; omega) (by omega) hB w.heap.size rfl ?_
  · intro j y hj
    match j, hj with
    | 0, hj => simp at hj; subst hj; simpa [Addr.add] using hu
  · intro y hy; simp at hy; subst hy; rfl
  · intro g cap w' hown' hg hat _
    exact h g cap w' (by simpa [OwI] using hown') hg (below_of_own hown hB hg) hat
end

/-- Blocks apart. -/
def Apt (v v' : Value) : Prop := ∀ k, v.ownBlock = some k → v'.ownBlock ≠ some k
theorem Apt.kept {w w' : World} {B e sz n : Nat} {v v' : Value} {xs : List Value} (h : w.ownsRow B e sz v n xs) (ha : Apt v v') (hg : w.grownBy w' v'.ownBlock) : w'.ownsRow B e sz v n xs := by
  refine h.kept hg ?_
  cases hv : v.ownBlock with
  | none => exact .inl rfl
  | some k => exact .inr fun e => ha k hv e.symm
theorem Apt.next {w : World} {B e sz n g n' c' : Nat} {v v' : Value} {xs : List Value} (h : w.ownsRow B e sz v n xs) (ha : Apt v v') (hat : v'.ownBlock = some g ∨ w.heap.size ≤ g) : Apt v (.slice (some ⟨g, 0, none⟩) n' c') := by
  intro k hk e
  have hkg : g = k := by simpa [Value.ownBlock] using e
  subst hkg
  rcases hat with hat | hat
  · exact ha g hk hat
  · have := own_block h g hk
    omega
/-- A store below the base. -/
theorem own_lo {w : World} {B e sz n g o : Nat} {v : Value} {xs : List Value} (h : w.ownsRow B e sz v n xs) (hg : g < B) (u : Value) : (w.setCell ⟨g, o, none⟩ u).ownsRow B e sz v n xs := by
  refine h.kept (grown_set (World.grownBy.refl w _) u) ?_
  cases hv : v.ownBlock with
  | none => exact .inl rfl
  | some k =>
    have := own_block h k hv
    refine .inr fun e => ?_
    simp at e
    omega
theorem own_one {w : World} {B : Nat} (x : Int) (hB : B ≤ w.heap.size) : OwI (w.alloc (.cells #[.int .i64 x] 3)) B (.slice (some ⟨w.heap.size, 0, none⟩) 1 1) [x] := by
  have h := World.ownsRow_lit (base := B) (e := 3) (size := 1) w #[.int .i64 x] 1 hB (by unfold maxLen; omega) (by simp)
  unfold OwI
  simpa using h
theorem zeros_ownB {w : World} {B : Nat} (n : Nat) (hn : n ≤ 1000) (hB : B ≤ w.heap.size) :
    OwI (w.alloc (.cells (madeCells #[Value.int .i64 0] n) 3)) B (.slice (some ⟨w.heap.size, 0, none⟩) n n) (List.replicate n (0 : Int)) := by
  have h := World.ownsRow_lit (base := B) (e := 3) (size := 1) w (madeCells #[Value.int .i64 0] n) n hB (by unfold maxLen; omega) (by simp [size_madeCells])
  unfold OwI
  simp only [List.length_replicate]
  rw [toList_madeCells_one] at h
  rw [List.map_replicate]
  exact h
end Go.Proofs.Ytbbjgcagkmlngab
