/- Own rows of slices and of steps; plans as values. -/
import Derived.Test.YtbohakifjmdoiabDoorBase
namespace Go.Proofs.YtbohakifjmdoiabDoor
open Go.RowKit

section
variable {w w' : World} {B B' sz n : Nat} {e e' : TypeId} {v v' : Value} {xs xs' : List Value}

theorem own_same (h : w.ownsRow B e sz v n xs) (hk : ∀ k, k < w.heap.size → w'.heap[k]? = w.heap[k]?) : w'.ownsRow B e sz v n xs := by
  refine ⟨h.1, ?_⟩
  rcases h.2 with h0 | ⟨g, cap, cur, hv, hb, hg, r⟩
  · exact .inl h0
  · exact .inr ⟨g, cap, cur, hv, hb, by rw [hk g (Array.getElem?_eq_some_iff.1 hg).1]; exact hg, r⟩
theorem own_below (h : w.ownsRow B e sz v n xs) (hb : Below w.heap.size w w') : w'.ownsRow B e sz v n xs := own_same h hb.block
theorem own_below' {C : Nat} (h : w.ownsRow B e sz v n xs) (hb : Below C w w') (hC : w.heap.size ≤ C) : w'.ownsRow B e sz v n xs := own_below h (hb.mono hC)
theorem own_base (h : w.ownsRow B e sz v n xs) (hB : B' ≤ B) : w.ownsRow B' e sz v n xs := by
  refine ⟨h.1, ?_⟩
  rcases h.2 with h0 | ⟨g, cap, cur, hv, hb, r⟩
  · exact .inl h0
  · exact .inr ⟨g, cap, cur, hv, by omega, r⟩
/-- Rows of different element types lie apart. -/
theorem own_ne {n' : Nat} {sz' : Nat} (h : w.ownsRow B e sz v n xs) (h' : w.ownsRow B' e' sz' v' n' xs') (hne : e ≠ e') : v.ownBlock = none ∨ v.ownBlock ≠ v'.ownBlock := by
  rcases h.2 with ⟨rfl, _⟩ | ⟨g, cap, cur, rfl, _, hg, _⟩
  · exact .inl rfl
  · right
    rcases h'.2 with ⟨rfl, _⟩ | ⟨g', cap', cur', rfl, _, hg', _⟩
    · simp [Value.ownBlock]
    · simp only [Value.ownBlock, ne_eq, Option.some.injEq]
      intro hh
      subst hh
      rw [hg] at hg'
      injection hg' with hg'
      injection hg' with _ ht
      exact hne ht
/-- A store into a block of another type. -/
theorem own_set {g o : Nat} {cs : Array Value} {t : TypeId} (h : w.ownsRow B e sz v n xs) (hg : w.heap[g]? = some (.cells cs t (0, 0))) (ht : t ≠ e) (u : Value) : (w.setCell ⟨g, o, none⟩ u).ownsRow B e sz v n xs := by
  refine ⟨h.1, ?_⟩
  rcases h.2 with h0 | ⟨g', cap, cur, hv, hb, hg', r⟩
  · exact .inl h0
  · refine .inr ⟨g', cap, cur, hv, hb, ?_, r⟩
    rw [Below.heap_setCell _ _ _ _ (fun hh => by
      simp only at hh
      subst hh
      rw [hg] at hg'
      injection hg' with hg'
      injection hg' with _ hh
      exact ht hh)]
    exact hg'
theorem own_ne_blk {g : Nat} {cs : Array Value} {t : TypeId} (h : w.ownsRow B e sz v n xs) (hg : w.heap[g]? = some (.cells cs t (0, 0))) (ht : t ≠ e) : some g ≠ v.ownBlock := by
  rcases h.2 with ⟨rfl, _⟩ | ⟨g', cap, cur, rfl, _, hg', _⟩
  · simp [Value.ownBlock]
  · simp only [Value.ownBlock, ne_eq, Option.some.injEq]
    intro hh
    subst hh
    rw [hg] at hg'
    injection hg' with hg'
    injection hg' with _ hh
    exact ht hh
theorem grown_set {a : World} {g o : Nat} (h : a.grownBy w (some g)) (u : Value) : a.grownBy (w.setCell ⟨g, o, none⟩ u) (some g) :=
  ⟨h.os, h.tape, h.output, by simpa [World.setCell] using h.size, fun i hi hne => (Below.heap_setCell w ⟨g, o, none⟩ u i (fun e => hne (by rw [e]))).trans (h.block i hi hne)⟩
theorem own_form (h : w.ownsRow B e sz v n xs) : ∃ A c, v = .slice A n c ∧ n ≤ c := by
  rcases h.2 with ⟨rfl, rfl⟩ | ⟨g, cap, cur, rfl, _, _, hc, _⟩
  · exact ⟨_, _, rfl, Nat.le_refl _⟩
  · exact ⟨_, _, rfl, hc⟩
theorem own_block (h : w.ownsRow B e sz v n xs) : ∀ k, v.ownBlock = some k → B ≤ k ∧ k < w.heap.size := h.lt
/-- Of an own slice with elements: its block, its cells. -/
theorem own_at {A : Option Addr} {c : Nat} (h : w.ownsRow B e sz (.slice A n c) n xs) (hn : 0 < n) :
    ∃ g, A = some ⟨g, 0, none⟩ ∧ B ≤ g ∧ g < w.heap.size ∧ (∀ j, j < n * sz → w.cell? ⟨g, j, none⟩ = xs[j]?) ∧ ∀ j, w.frozen? ⟨g, j, none⟩ = false := by
  rcases h.2 with ⟨_, h0⟩ | ⟨g, cap, cur, hv, hb, hg, _⟩
  · omega
  · simp only [Value.slice.injEq] at hv
    obtain ⟨rfl, _, rfl⟩ := hv
    exact ⟨g, rfl, hb, (Array.getElem?_eq_some_iff.1 hg).1, fun j hj => h.cellAt j hj, fun j => h.frozenAt j⟩
end

theorem OwI.below {w w' : World} {B : Nat} {v : Value} {l : List Int} (h : OwI w B v l) (hb : Below w.heap.size w w') : OwI w' B v l := own_below h hb
theorem OwI.base {w : World} {B B' : Nat} {v : Value} {l : List Int} (h : OwI w B v l) (hB : B' ≤ B) : OwI w B' v l := own_base h hB
theorem OwI.rd {w : World} {B : Nat} {A : Option Addr} {c : Nat} {l : List Int} (h : OwI w B (.slice A l.length c) l) : Rd w w.heap.size 1 A l.length (l.map I) := Rd.of_own h

section
variable {ops : Array Oper} {o : Oper} {a : Act} {Q : Exit → Act → World → Prop} {w : World} {T e : TypeId} {z : Value} {bts : Nat}

/-- append(v, x): one element of one cell onto an own slice. -/
theorem step_app1 {K : Act → World → Prop} {E : Prop} (ht : Tryd.prog.underlying T = some (.slice e)) (hinf : (Tryd.prog.info? e).map (fun i => (i.zero, i.size, i.bytes)) = some (some z, 1, bts)) (hz : z.cells.size = 1) (hb : bts ≤ 64)
    (hgd : o.guard = none) (s x : Operand) (ho : o.op = .call { callee := .builtin .append, args := #[s, x], argTypes := #[T, T] })
    (B n : Nat) (v : Value) (xs : List Value) (hs : a.eval s = v) (hown : w.ownsRow B e 1 v n xs) (b c : Nat) (u : Value) (hx : a.eval x = .slice (some ⟨b, 0, none⟩) 1 c)
    (hu : w.cell? ⟨b, 0, none⟩ = some u) (h1 : u.oneCell' = true) (hn : n ≤ 4000000) (hB : B ≤ w.heap.size)
    (h : ∀ A cap w', w'.ownsRow B e 1 (.slice A (n + 1) cap) (n + 1) (xs ++ [u]) → w.grownBy w' v.ownBlock → Below B w w' → K (a.put o.dst (.slice A (n + 1) cap)) w') :
    if Region.wanted o (yielded ops a.tmps) = true then Oper.wp Tryd.prog o a w K Q else E := by
  obtain ⟨i0, hi, hz0, hz1, hz2⟩ := info_parts hinf
  refine step_append_lies _ hgd s x _ ho B e i0 z 1 bts ht hi hz0 hz1 hz2 hz (by omega) v n xs hs hown ⟨b, 0, none⟩ 1 c [u] hx rfl ?_ ?_ (by omega) (by unfold maxLen; omega) (by
    have : (n + 1) * bts ≤ 4000001 * 64 := Nat.mul_le_mul (by omega) hb
    omega) hB w.heap.size rfl ?_
  · intro j y hj
    match j, hj with
    | 0, hj => simp at hj; subst hj; simpa [Addr.add] using hu
  · intro y hy; simp at hy; subst hy; exact h1
  · intro g cap w' hown' hg _ _
    exact h _ cap w' hown' hg (below_of_own hown hB hg)
/-- append(v, x): one element of two cells. -/
theorem step_app2 {K : Act → World → Prop} {E : Prop} (ht : Tryd.prog.underlying T = some (.slice e)) (hinf : (Tryd.prog.info? e).map (fun i => (i.zero, i.size, i.bytes)) = some (some z, 2, bts)) (hz : z.cells.size = 2) (hb : bts ≤ 64)
    (hgd : o.guard = none) (s x : Operand) (ho : o.op = .call { callee := .builtin .append, args := #[s, x], argTypes := #[T, T] })
    (B n : Nat) (v : Value) (xs : List Value) (hs : a.eval s = v) (hown : w.ownsRow B e 2 v n xs) (b c : Nat) (u u' : Value) (hx : a.eval x = .slice (some ⟨b, 0, none⟩) 1 c)
    (hu : w.cell? ⟨b, 0, none⟩ = some u) (hu' : w.cell? ⟨b, 1, none⟩ = some u') (h1 : u.oneCell' = true) (h1' : u'.oneCell' = true) (hn : n ≤ 4000000) (hB : B ≤ w.heap.size)
    (h : ∀ A cap w', w'.ownsRow B e 2 (.slice A (n + 1) cap) (n + 1) (xs ++ [u, u']) → w.grownBy w' v.ownBlock → Below B w w' → K (a.put o.dst (.slice A (n + 1) cap)) w') :
    if Region.wanted o (yielded ops a.tmps) = true then Oper.wp Tryd.prog o a w K Q else E := by
  obtain ⟨i0, hi, hz0, hz1, hz2⟩ := info_parts hinf
  refine step_append_lies _ hgd s x _ ho B e i0 z 2 bts ht hi hz0 hz1 hz2 hz (by omega) v n xs hs hown ⟨b, 0, none⟩ 1 c [u, u'] hx rfl ?_ ?_ (by omega) (by unfold maxLen; omega) (by
    have : (n + 1) * bts ≤ 4000001 * 64 := Nat.mul_le_mul (by omega) hb
    omega) hB w.heap.size rfl ?_
  · intro j y hj
    match j, hj with
    | 0, hj => simp at hj; subst hj; simpa [Addr.add] using hu
    | 1, hj => simp at hj; subst hj; simpa [Addr.add] using hu'
  · intro y hy; simp at hy; rcases hy with rfl | rfl <;> assumption
  · intro g cap w' hown' hg _ _
    exact h _ cap w' hown' hg (below_of_own hown hB hg)
/-- append(v, x): one element of sz cells. -/
theorem step_appN {K : Act → World → Prop} {E : Prop} {sz : Nat} (ht : Tryd.prog.underlying T = some (.slice e)) (hinf : (Tryd.prog.info? e).map (fun i => (i.zero, i.size, i.bytes)) = some (some z, sz, bts)) (hz : z.cells.size = sz) (hs0 : 0 < sz) (hb : bts ≤ 64)
    (hgd : o.guard = none) (s x : Operand) (ho : o.op = .call { callee := .builtin .append, args := #[s, x], argTypes := #[T, T] })
    (B n : Nat) (v : Value) (xs : List Value) (hs : a.eval s = v) (hown : w.ownsRow B e sz v n xs) (b c : Nat) (news : List Value) (hx : a.eval x = .slice (some ⟨b, 0, none⟩) 1 c)
    (hl : news.length = sz) (hu : ∀ j, j < sz → w.cell? ⟨b, j, none⟩ = news[j]?) (h1 : ∀ u ∈ news, u.oneCell' = true) (hn : n ≤ 4000000) (hB : B ≤ w.heap.size)
    (h : ∀ A cap w', w'.ownsRow B e sz (.slice A (n + 1) cap) (n + 1) (xs ++ news) → w.grownBy w' v.ownBlock → Below B w w' → K (a.put o.dst (.slice A (n + 1) cap)) w') :
    if Region.wanted o (yielded ops a.tmps) = true then Oper.wp Tryd.prog o a w K Q else E := by
  obtain ⟨i0, hi, hz0, hz1, hz2⟩ := info_parts hinf
  refine step_append_lies _ hgd s x _ ho B e i0 z sz bts ht hi hz0 hz1 hz2 hz hs0 v n xs hs hown ⟨b, 0, none⟩ 1 c news hx (by rw [hl, Nat.one_mul]) ?_ h1 (by omega) (by unfold maxLen; omega) (by
    have : (n + 1) * bts ≤ 4000001 * 64 := Nat.mul_le_mul (by omega) hb
    omega) hB w.heap.size rfl ?_
  · intro j y hj
    have hlt : j < sz := by rw [← hl]; exact (List.getElem?_eq_some_iff.1 hj).1
    have e0 : (⟨b, 0, none⟩ : Addr).add j = ⟨b, j, none⟩ := by unfold Addr.add; split <;> simp_all
    rw [e0, hu j hlt, hj]
  · intro g cap w' hown' hg _ _
    exact h _ cap w' hown' hg (below_of_own hown hB hg)
/-- The same at the list of a plain region. -/
theorem list_step {rest : List Oper} (h : ∀ K : Act → World → Prop, (∀ a w, wpList Tryd.prog ops Q rest a w → K a w) →
      if Region.wanted o (yielded ops a.tmps) = true then o.wp Tryd.prog a w K Q else K (a.put o.dst undef) w) : wpList Tryd.prog ops Q (o :: rest) a w := wpList_step h
end

/-- An own slice of own slices of integers. -/
def OwR (w : World) (B : Nat) (v : Value) (rows : List (List Int)) : Prop :=
  ∃ vs, w.ownsRow B 22 1 v rows.length vs ∧ vs.length = rows.length ∧ ∀ i (h : i < rows.length), ∃ A c, vs[i]? = some (.slice A (rows[i]).length c) ∧ OwI w B (.slice A (rows[i]).length c) rows[i]

section
variable {w w' : World} {B B' : Nat} {v : Value} {rows : List (List Int)} {row : List Int}
theorem OwR.nil (w : World) (B : Nat) : OwR w B (.slice none 0 0) [] := ⟨[], World.ownsRow_nil _ _ _ _, rfl, fun i h => absurd h (by simp)⟩
theorem OwR.same (h : OwR w B v rows) (hk : ∀ k, k < w.heap.size → w'.heap[k]? = w.heap[k]?) : OwR w' B v rows := by
  obtain ⟨vs, h1, h2, h3⟩ := h
  exact ⟨vs, own_same h1 hk, h2, fun i hi => let ⟨A, c, e, ho⟩ := h3 i hi; ⟨A, c, e, own_same ho hk⟩⟩
theorem OwR.below (h : OwR w B v rows) (hb : Below w.heap.size w w') : OwR w' B v rows := h.same hb.block
theorem OwR.alloc (h : OwR w B v rows) (o : Obj) : OwR (w.alloc o) B v rows := h.same fun k hk => Below.heap_alloc w o k hk
theorem OwR.drew (h : OwR w B v rows) : OwR w.drew B v rows := h
theorem OwR.base (h : OwR w B v rows) (hB : B' ≤ B) : OwR w B' v rows := by
  obtain ⟨vs, h1, h2, h3⟩ := h
  exact ⟨vs, own_base h1 hB, h2, fun i hi => let ⟨A, c, e, ho⟩ := h3 i hi; ⟨A, c, e, own_base ho hB⟩⟩
theorem OwR.own (h : OwR w B v rows) : ∃ vs, w.ownsRow B 22 1 v rows.length vs := let ⟨vs, h1, _⟩ := h; ⟨vs, h1⟩
/-- Behind an append of a row. -/
theorem OwR.app {A A' : Option Addr} {c c' n m : Nat} {vs : List Value} (hrn : rows.length = n) (hm : row.length = m) (h1 : w.ownsRow B 22 1 v n vs) (h2 : vs.length = n)
    (h3 : ∀ i (h : i < rows.length), ∃ A c, vs[i]? = some (.slice A (rows[i]).length c) ∧ OwI w B (.slice A (rows[i]).length c) rows[i])
    (hr : OwI w B (.slice A m c) row) (hg : w.grownBy w' v.ownBlock)
    (hn : w'.ownsRow B 22 1 (.slice A' (n + 1) c') (n + 1) (vs ++ [.slice A m c])) : OwR w' B (.slice A' (n + 1) c') (rows ++ [row]) := by
  subst hrn
  subst hm
  refine ⟨vs ++ [.slice A row.length c], by simpa using hn, by simp [h2], fun i hi => ?_⟩
  have hlt : i ≤ rows.length := by simp at hi; omega
  rcases Nat.lt_or_eq_of_le hlt with hlt | rfl
  · obtain ⟨A0, c0, e0, ho0⟩ := h3 i hlt
    refine ⟨A0, c0, ?_, ?_⟩
    · rw [List.getElem?_append_left (by omega), e0, List.getElem_append_left hlt]
    · rw [List.getElem_append_left hlt]
      exact World.ownsRow.kept ho0 hg (own_ne ho0 h1 (by decide))
  · refine ⟨A, c, ?_, ?_⟩
    · rw [List.getElem?_append_right (by omega), h2]
      simp
    · simp only [List.getElem_concat_length]
      exact World.ownsRow.kept hr hg (own_ne hr h1 (by decide))
/-- Row i: its slice value's cell, and what it owns. -/
theorem OwR.at_ {A : Option Addr} {c : Nat} (h : OwR w B (.slice A rows.length c) rows) {i : Nat} (hi : i < rows.length) :
    ∃ g A1 c1, A = some ⟨g, 0, none⟩ ∧ g < w.heap.size ∧ w.cell? ⟨g, i, none⟩ = some (.slice A1 (rows[i]).length c1) ∧ OwI w B (.slice A1 (rows[i]).length c1) rows[i] := by
  obtain ⟨vs, h1, h2, h3⟩ := h
  obtain ⟨g, rfl, _, hg, hc, _⟩ := own_at h1 (by omega)
  obtain ⟨A1, c1, e1, ho⟩ := h3 i hi
  exact ⟨g, A1, c1, rfl, hg, by rw [hc i (by omega), e1], ho⟩
end

/-- A plan as data. -/
structure Pl where
  n : Int
  s : List (Int × Int)
  o : List Int

def fl (s : List (Int × Int)) : List Value := s.flatMap fun p => [I p.1, I p.2]
theorem fl_length (s : List (Int × Int)) : (fl s).length = s.length * 2 := by
  induction s with
  | nil => rfl
  | cons p s ih => simp [fl] at ih ⊢; omega
theorem fl_at {s : List (Int × Int)} {k : Nat} (hk : k < s.length) : (fl s)[k * 2]? = some (I s[k].1) ∧ (fl s)[k * 2 + 1]? = some (I s[k].2) := by
  induction s generalizing k with
  | nil => simp at hk
  | cons p s ih =>
    cases k with
    | zero => exact ⟨rfl, rfl⟩
    | succ k =>
      have := ih (k := k) (by simpa using hk)
      have e : fl (p :: s) = I p.1 :: I p.2 :: fl s := rfl
      rw [e]
      refine ⟨?_, ?_⟩
      · rw [show (k + 1) * 2 = k * 2 + 1 + 1 from by omega]; simpa using this.1
      · rw [show (k + 1) * 2 + 1 = k * 2 + 1 + 1 + 1 from by omega]; simpa using this.2
theorem fl_snoc (s : List (Int × Int)) (p : Int × Int) : fl (s ++ [p]) = fl s ++ [I p.1, I p.2] := by simp [fl]

/-- The two cells of step k. -/
theorem Rd.stp {w : World} {B : Nat} {A : Option Addr} {s : List (Int × Int)} (h : Rd w B 2 A s.length (fl s)) {k : Nat} (hk : k < s.length) :
    ∃ b off, A = some ⟨b, off, none⟩ ∧ b < B ∧ w.cell? ⟨b, off + k * 2, none⟩ = some (.int .i64 (s[k]'hk).1) ∧ w.cell? ⟨b, off + k * 2 + 1, none⟩ = some (.int .i64 (s[k]'hk).2) := by
  obtain ⟨b, off, e, hb, hc⟩ := h.2 (by omega)
  refine ⟨b, off, e, hb, ?_, ?_⟩
  · rw [hc _ (by omega), (fl_at hk).1]
  · rw [Nat.add_assoc, hc _ (by omega), (fl_at hk).2]

/-- What the world must hold for a plan's value to read as p. -/
def RdP (w : World) (B : Nat) (A1 A2 : Option Addr) (p : Pl) : Prop := Rd w B 2 A1 p.s.length (fl p.s) ∧ Rd w B 1 A2 p.o.length (p.o.map I)
def plV (A1 A2 : Option Addr) (c1 c2 : Nat) (p : Pl) : Value := .agg #[.int .i64 p.n, .slice A1 p.s.length c1, .slice A2 p.o.length c2]
section
variable {w w' : World} {B B' : Nat} {A1 A2 : Option Addr} {p : Pl}
theorem RdP.below (h : RdP w B A1 A2 p) (hb : Below B w w') : RdP w' B A1 A2 p := ⟨h.1.below hb, h.2.below hb⟩
theorem RdP.below' {C : Nat} (h : RdP w B A1 A2 p) (hb : Below C w w') (hC : B ≤ C) : RdP w' B A1 A2 p := h.below (hb.mono hC)
theorem RdP.more (h : RdP w B A1 A2 p) (hB : B ≤ B') : RdP w B' A1 A2 p := ⟨h.1.more hB, h.2.more hB⟩
theorem RdP.alloc (h : RdP w B A1 A2 p) (hB : B ≤ w.heap.size) (o : Obj) : RdP (w.alloc o) B A1 A2 p := ⟨h.1.alloc hB o, h.2.alloc hB o⟩
theorem RdP.drew (h : RdP w B A1 A2 p) : RdP w.drew B A1 A2 p := h
theorem RdP.drewN (h : RdP w B A1 A2 p) (k : Nat) : RdP (w.drewN k) B A1 A2 p := h
end

/-- A cell that is there is there behind a new block. -/
theorem cell_kept {w : World} {p : Addr} {v : Value} (h : w.cell? p = some v) : ∀ o, (w.alloc o).cell? p = some v :=
  fun o => (World.cell?_alloc_lt w o p (World.block_lt_of_cell? w _ h)).trans h
/-- A cell that is there reads what is stored into it. -/
theorem cell_set_same {w : World} {p : Addr} {u : Value} (h : w.cell? p = some u) (v : Value) : (w.setCell p v).cell? p = some v := by
  unfold World.cell? at h
  cases hb : w.heap[p.block]? with
  | none => rw [hb] at h; simp at h
  | some o =>
    rw [hb] at h
    cases o with
    | cells c t fr =>
      simp only at h
      split at h
      · cases h
      · rename_i hs
        have hlt : p.off < c.size := (Array.getElem?_eq_some_iff.1 h).1
        unfold World.cell? World.setCell
        simp [Array.getElem?_modify, hb, hs, hlt]
    | _ => simp at h
theorem ret_slice {A : Option Addr} {n m c : Nat} (h : n = m) : Ending.returned (.slice A n c) = .returned (.slice A m c) := by rw [h]
/-- Four stores into a block of four cells. -/
theorem set4 {w w0 : World} {g B C sz n : Nat} {t e : TypeId} {v a b c d a' b' c' d' : Value} {xs : List Value} (h : w.heap[g]? = some (.cells #[a, b, c, d] t (0, 0))) (ho : w.ownsRow B e sz v n xs) (ht : t ≠ e) (hb : Below C w0 w) (hC : C ≤ g) :
    ((((w.setCell ⟨g, 0, none⟩ a').setCell ⟨g, 1, none⟩ b').setCell ⟨g, 2, none⟩ c').setCell ⟨g, 3, none⟩ d').heap[g]? = some (.cells #[a', b', c', d'] t (0, 0)) ∧
    ((((w.setCell ⟨g, 0, none⟩ a').setCell ⟨g, 1, none⟩ b').setCell ⟨g, 2, none⟩ c').setCell ⟨g, 3, none⟩ d').ownsRow B e sz v n xs ∧
    Below C w0 ((((w.setCell ⟨g, 0, none⟩ a').setCell ⟨g, 1, none⟩ b').setCell ⟨g, 2, none⟩ c').setCell ⟨g, 3, none⟩ d') := by
  have h1 := heap_setCell_same w g 0 _ t a' h
  have o1 := own_set (o := 0) ho h ht a'
  have h2 := heap_setCell_same _ g 1 _ t b' h1
  have o2 := own_set (o := 1) o1 h1 ht b'
  have h3 := heap_setCell_same _ g 2 _ t c' h2
  have o3 := own_set (o := 2) o2 h2 ht c'
  have h4 := heap_setCell_same _ g 3 _ t d' h3
  have o4 := own_set (o := 3) o3 h3 ht d'
  refine ⟨?_, o4, (((hb.setCell hC _).setCell hC _).setCell hC _).setCell hC _⟩
  rw [h4]
  rfl
theorem box2 {w w1 : World} {a b : Value} {t : TypeId} (h : w.alloc (.cells #[a, b] t) = w1) :
    w1.cell? ⟨w.heap.size, 0, none⟩ = some a ∧ w1.cell? ⟨w.heap.size, 1, none⟩ = some b ∧ w1.heap.size = w.heap.size + 1 ∧ Below w.heap.size w w1 := by
  subst h
  refine ⟨?_, ?_, by simp, (Below.refl _ _).alloc (Nat.le_refl _) _⟩ <;> (rw [World.cell?_alloc_at _ _ _ _ rfl]; rfl)
theorem box3 {w w1 : World} {a b c : Value} {t : TypeId} (h : w.alloc (.cells #[a, b, c] t) = w1) :
    w1.cell? ⟨w.heap.size, 0, none⟩ = some a ∧ w1.cell? ⟨w.heap.size, 1, none⟩ = some b ∧ w1.cell? ⟨w.heap.size, 2, none⟩ = some c ∧ w1.heap.size = w.heap.size + 1 ∧ Below w.heap.size w w1 := by
  subst h
  refine ⟨?_, ?_, ?_, by simp, (Below.refl _ _).alloc (Nat.le_refl _) _⟩ <;> (rw [World.cell?_alloc_at _ _ _ _ rfl]; rfl)
end Go.Proofs.YtbohakifjmdoiabDoor
