/- The ways in the tree as rows, and the numbers to go on from: what each step of the program keeps. -/
import Derived.Test.YtodjnafalbbmjabYd
namespace Go.Proofs.Ytodjnafalbbmjab
open Go.RowKit

section
variable {w w' : World} {B g off n cap : Nat} {l : List Int}
theorem QI.alloc (h : QI w B g off n cap l) (o : Obj) : QI (w.alloc o) B g off n cap l := h.keep (Below.heap_alloc w o g h.lt)
theorem QI.setO {g' o : Nat} (h : QI w B g off n cap l) (hne : g ≠ g') (u : Value) : QI (w.setCell ⟨g', o, none⟩ u) B g off n cap l := h.keep (Below.heap_setCell w ⟨g', o, none⟩ u g hne)
end

/-- One way's value. -/
def RowV (w : World) (B gq : Nat) (v : Value) (l : List Nat) : Prop :=
  OwI w B v (cs l) ∧ v.ownBlock ≠ some gq ∧ (l = [] → v = .slice none 0 0) ∧ (l ≠ [] → ∃ g c, v = .slice (some ⟨g, 0, none⟩) l.length c)
theorem RowV.nil (w : World) (B gq : Nat) : RowV w B gq (.slice none 0 0) [] := ⟨OwI.nil _ _, (fun e => by cases e), fun _ => rfl, fun h => absurd rfl h⟩
theorem RowV.below {w w' : World} {B gq : Nat} {v : Value} {l : List Nat} (h : RowV w B gq v l) (hb : Below w.heap.size w w') : RowV w' B gq v l := ⟨h.1.below hb, h.2⟩
theorem RowV.step {w w3 w5 : World} {B g0 i gq gq' : Nat} {v u : Value} {l : List Nat} {o : Obj} (h : RowV w B gq v l) (hb : Below w.heap.size w w3) (hB : g0 < B) (hg : ((w3.setCell ⟨g0, i, none⟩ u).alloc o).grownBy w5 (some gq)) (hat : gq' = gq ∨ w3.heap.size ≤ gq') : RowV w5 B gq' v l := by
  obtain ⟨h1, h2, h3⟩ := h
  have h4 := h1.below hb
  refine ⟨World.ownsRow.kept ((own_lo h4 hB u).alloc o) hg (.inr h2), fun e => ?_, h3⟩
  rcases hat with rfl | hat
  · exact h2 e
  · have := own_block h4 gq' e
    omega

/-- Where the work of the program stands. -/
structure Tq (w wr : World) (s : TS) (t k gq off cap : Nat) : Prop where
  ways : ∃ vs, wr.ownsRow w.heap.size 22 1 (.slice (some ⟨w.heap.size, 0, none⟩) 401 401) 401 vs ∧ ∀ j, j ≤ 400 → ∃ v, vs[j]? = some v ∧ RowV wr (w.heap.size + 1) gq v (s.W j)
  q : QI wr (w.heap.size + 1) gq off k cap (cs (s.Q.drop t))
  bel : Below w.heap.size w wr
  sz : w.heap.size + 1 ≤ wr.heap.size
  le : t ≤ s.Q.length
theorem Tq.at_ {w wr : World} {s : TS} {t k gq off cap j : Nat} (h : Tq w wr s t k gq off cap) (hj : j ≤ 400) :
    ∃ v, wr.cell? ⟨w.heap.size, j, none⟩ = some v ∧ wr.frozen? ⟨w.heap.size, j, none⟩ = false ∧ RowV wr (w.heap.size + 1) gq v (s.W j) := by
  obtain ⟨vs, h1, h2⟩ := h.ways
  obtain ⟨v, h3, h4⟩ := h2 j hj
  exact ⟨v, by rw [h1.cellAt j (by omega), h3], h1.frozenAt _, h4⟩
theorem Tq.add {w wr w3 w5 : World} {s : TS} {t k gq off cap m a g3 c3 gq' off' cap' lm : Nat} {o : Obj} (h : Tq w wr s t k gq off cap) (hle : m + a ≤ 400) (h0 : s.W (m + a) = []) (hlm : (s.W m).length = lm)
    (hb3 : Below wr.heap.size wr w3) (hrow : OwI w3 wr.heap.size (.slice (some ⟨g3, 0, none⟩) (lm + 1) c3) (cs (s.W m) ++ [(m : Int) + (a : Int)]))
    (hq : QI w5 (w.heap.size + 1) gq' off' (k + 1) cap' (cs (s.Q.drop t) ++ [(m : Int) + (a : Int)]))
    (hg : ((w3.setCell ⟨w.heap.size, m + a, none⟩ (.slice (some ⟨g3, 0, none⟩) (lm + 1) c3)).alloc o).grownBy w5 (some gq)) (hb5 : Below (w.heap.size + 1) ((w3.setCell ⟨w.heap.size, m + a, none⟩ (.slice (some ⟨g3, 0, none⟩) (lm + 1) c3)).alloc o) w5)
    (hat : gq' = gq ∨ w3.heap.size ≤ gq') : Tq w w5 (tA 400 m s a) t (k + 1) gq' off' cap' := by
  have hgq := h.q.2.2.1
  have hgl := h.q.lt
  obtain ⟨⟨vs, q1, q2⟩, q3, q4, q5, q6⟩ := h
  have e : tA 400 m s a = ⟨updW s.W (m + a) (s.W m ++ [m + a]), s.Q ++ [m + a]⟩ := tA_yes hle h0
  have e2 : ((m + a : Nat) : Int) = (m : Int) + (a : Int) := by omega
  have hu : ∀ j, (updW s.W (m + a) (s.W m ++ [m + a])) j = if j = m + a then s.W m ++ [m + a] else s.W j := fun j => rfl
  have hvl : vs.length = 401 := by have := q1.1; omega
  have hs3 := hb3.size
  have hrow' : RowV w3 (w.heap.size + 1) gq (.slice (some ⟨g3, 0, none⟩) (lm + 1) c3) (s.W m ++ [m + a]) := by
    have hblk := own_block hrow g3 rfl
    refine ⟨?_, fun e' => ?_, fun e' => absurd e' (by simp), fun _ => ⟨g3, c3, by rw [List.length_append, hlm]; rfl⟩⟩
    · rw [cs_snoc, e2]
      exact hrow.base (by omega)
    · have : g3 = gq := by simpa [Value.ownBlock] using e'
      omega
  refine ⟨⟨vs.set (m + a) (.slice (some ⟨g3, 0, none⟩) (lm + 1) c3), ?_, fun j hj => ?_⟩, ?_, ?_, ?_, ?_⟩
  · have h3 := own_below q1 hb3
    refine World.ownsRow.kept (((h3.stored (m + a) _).1).alloc o) hg (.inr fun e' => ?_)
    have : w.heap.size = gq := by simpa [Value.ownBlock] using e'
    omega
  · by_cases hje : j = m + a
    · refine ⟨_, by rw [hje, List.getElem?_set_self (by omega)], ?_⟩
      rw [e]
      show RowV _ _ _ _ (updW s.W (m + a) (s.W m ++ [m + a]) j)
      rw [hu, if_pos hje]
      exact hrow'.step (Below.refl _ _) (by omega) hg hat
    · obtain ⟨v, h3, h4⟩ := q2 j hj
      refine ⟨v, by rw [List.getElem?_set_ne (Ne.symm hje), h3], ?_⟩
      rw [e]
      show RowV _ _ _ _ (updW s.W (m + a) (s.W m ++ [m + a]) j)
      rw [hu, if_neg hje]
      exact h4.step hb3 (by omega) hg hat
  · rw [e]
    show QI _ _ _ _ _ _ (cs ((s.Q ++ [m + a]).drop t))
    rw [drop_app q6, cs_snoc, e2]
    exact hq
  · have z : w3.heap.size ≤ (w3.setCell ⟨w.heap.size, m + a, none⟩ (.slice (some ⟨g3, 0, none⟩) (lm + 1) c3)).heap.size := by simp
    exact ((q4.trans (hb3.mono (by omega))).setCell (Nat.le_refl _) _).trans (((Below.refl _ _).alloc (by simp; omega) _).trans (hb5.mono (by omega)))
  · have := hb5.size
    simp at this
    omega
  · rw [e]
    show t ≤ (s.Q ++ [m + a]).length
    rw [List.length_append]
    omega
theorem Tq.pop {w wr : World} {s : TS} {t k gq off cap : Nat} (h : Tq w wr s t (k + 1) gq off cap) :
    (2 ≤ cap → Tq w wr s (t + 1) k gq (off + 1) (cap - 1)) ∧ (cap = 1 → k = 0 ∧ Tq w wr s (t + 1) 0 gq off 0) := by
  have hl : (s.Q.drop t).length = k + 1 := by have := h.q.1; rw [cs_len] at this; exact this
  obtain ⟨q1, q3, q4, q5, q6⟩ := h
  rw [List.length_drop] at hl
  have e : s.Q.drop t = s.Q.getD t 0 :: s.Q.drop (t + 1) := by
    rw [List.getD_eq_getElem?_getD, List.getElem?_eq_getElem (by omega)]
    exact (List.getElem_cons_drop (by omega)).symm
  rw [e] at q3
  have q3 : QI wr (w.heap.size + 1) gq off (k + 1) cap ((s.Q.getD t 0 : Nat) :: cs (s.Q.drop (t + 1))) := q3
  refine ⟨fun hc => ⟨q1, q3.tail.1 hc, q4, q5, by omega⟩, fun hc => ?_⟩
  obtain ⟨hk, hnil, hq⟩ := q3.tail.2 hc
  exact ⟨hk, q1, by rw [hnil]; exact hq, q4, q5, by omega⟩
theorem own_reps (w : World) (z : Value) (B n : Nat) (hn : n ≤ 1000) (hB : B ≤ w.heap.size) :
    (w.alloc (.cells (madeCells #[z] n) 22)).ownsRow B 22 1 (.slice (some ⟨w.heap.size, 0, none⟩) n n) n (List.replicate n z) := by
  have h := World.ownsRow_lit (base := B) (e := 22) (size := 1) w (madeCells #[z] n) n hB (by unfold maxLen; omega) (by simp [size_madeCells])
  rw [toList_madeCells_one] at h
  exact h
theorem Tq.start {w w1 w2 : World} (hw1 : w.alloc (.cells (madeCells #[Value.slice none 0 0] 401) 22) = w1)
    (hw2 : ((w1.alloc (.cells #[.int .i64 1] 3)).setCell ⟨w.heap.size, 1, none⟩ (.slice (some ⟨w1.heap.size, 0, none⟩) 1 1)).alloc (.cells #[.int .i64 1] 3) = w2) : Tq w w2 tZ 0 1 (w1.heap.size + 1) 0 1 := by
  have z1 : w1.heap.size = w.heap.size + 1 := by rw [← hw1]; simp
  have h1 := own_reps w (.slice none 0 0) w.heap.size 401 (by omega) (Nat.le_refl _)
  rw [hw1] at h1
  have h2 := ((h1.alloc (.cells #[.int .i64 1] 3)).stored 1 (.slice (some ⟨w1.heap.size, 0, none⟩) 1 1)).1.alloc (.cells #[.int .i64 1] 3)
  rw [hw2] at h2
  have z2 : w2.heap.size = w.heap.size + 3 := by rw [← hw2]; simp; omega
  have r1 : OwI w2 (w.heap.size + 1) (.slice (some ⟨w1.heap.size, 0, none⟩) 1 1) [1] := by
    rw [← hw2]
    exact OwI.alloc (own_lo (own_one (w := w1) (B := w.heap.size + 1) 1 (by omega)) (by omega) _) _
  have r2 : OwI w2 (w.heap.size + 1) (.slice (some ⟨w1.heap.size + 1, 0, none⟩) 1 1) [1] := by
    have h := own_one (w := ((w1.alloc (.cells #[.int .i64 1] 3)).setCell ⟨w.heap.size, 1, none⟩ (.slice (some ⟨w1.heap.size, 0, none⟩) 1 1))) (B := w.heap.size + 1) 1 (by simp; omega)
    rw [hw2] at h
    have e : ((w1.alloc (.cells #[.int .i64 1] 3)).setCell ⟨w.heap.size, 1, none⟩ (.slice (some ⟨w1.heap.size, 0, none⟩) 1 1)).heap.size = w1.heap.size + 1 := by simp
    rw [e] at h
    exact h
  refine ⟨⟨_, h2, fun j hj => ?_⟩, ?_, ?_, by omega, Nat.zero_le _⟩
  · by_cases e : j = 1
    · subst e
      refine ⟨_, by rw [List.getElem?_set_self (by rw [List.length_replicate]; omega)], r1, ?_, fun h => ?_, fun _ => ⟨_, 1, rfl⟩⟩
      · intro e'
        simp [Value.ownBlock] at e'
      · cases h
    · refine ⟨.slice none 0 0, by rw [List.getElem?_set_ne (Ne.symm e), List.getElem?_replicate, if_pos (by omega)], ?_⟩
      have : tZ.W j = [] := by
        show (if j = 1 then [1] else []) = []
        rw [if_neg e]
      rw [this]
      exact RowV.nil _ _ _
  · obtain ⟨g, cap, hv, hq⟩ := QI.of_own (n := 1) (l := [1]) r2 (by omega)
    injection hv with hv hn hc
    injection hv with hv
    injection hv with hv _ _
    subst hv
    subst hc
    exact hq
  · have hb : Below w.heap.size w w1 := by rw [← hw1]; exact (Below.refl _ _).alloc (Nat.le_refl _) _
    rw [← hw2]
    exact ((hb.alloc (by omega) _).setCell (Nat.le_refl _) _).alloc (by simp; omega) _
end Go.Proofs.Ytodjnafalbbmjab
