/- The first star chains with an end, at most so many: what is done with each that is met. -/
import Derived.Test.YtppahohakiidmaaHh
import Derived.Test.YtppahohakiidmaaOa
import Derived.Test.YtppahohakiidmaaQn
namespace Go.Proofs.Ytppahohakiidmaa
open Go.RowKit

theorem own_keepG {w w' : World} {B e sz n : Nat} {v : Value} {xs : List Value} (h : w.ownsRow B e sz v n xs) (hk : ∀ g, v.ownBlock = some g → w'.heap[g]? = w.heap[g]?) : w'.ownsRow B e sz v n xs := by
  refine ⟨h.1, ?_⟩
  rcases h.2 with h0 | ⟨g, cap, cur, hv, hb, hg, r⟩
  · exact .inl h0
  · exact .inr ⟨g, cap, cur, hv, hb, (hk g (by rw [hv]; rfl)).trans hg, r⟩
/-- A box of another type is not the row's block. -/
theorem own_nbox {w : World} {B e sz n b : Nat} {t : TypeId} {v u : Value} {xs : List Value} (h : w.ownsRow B e sz v n xs) (hb : w.heap[b]? = some (.cells #[u] t (0, 0))) (hne : e ≠ t) : ∀ g, v.ownBlock = some g → g ≠ b := by
  intro g hg e'
  subst e'
  rcases h.2 with ⟨rfl, _⟩ | ⟨g', cap, cur, hv, _, hh, _⟩
  · cases hg
  · rw [hv] at hg
    have e1 : g' = g := by simpa [Value.ownBlock] using hg
    subst e1
    rw [hb] at hh
    injection hh with hh
    injection hh with _ h2
    exact hne h2.symm

section
variable {ops : Array Oper} {o : Oper} {a : Act} {Q : Exit → Act → World → Prop} {w : World}
/-- append(v, x) of one list onto an own row of lists, and where the new row lies. -/
theorem step_app_rowH {K : Act → World → Prop} {E : Prop} (hgd : o.guard = none) (s x : Operand)
    (ho : o.op = .call { callee := .builtin .append, args := #[s, x], argTypes := #[35, 35] })
    (B n : Nat) (v : Value) (xs : List Value) (hs : a.eval s = v) (hown : w.ownsRow B 22 1 v n xs) (b c : Nat) (u : Value) (h1 : u.oneCell' = true) (hx : a.eval x = .slice (some ⟨b, 0, none⟩) 1 c)
    (hu : w.cell? ⟨b, 0, none⟩ = some u) (hn : n ≤ 4000000) (hB : B ≤ w.heap.size)
    (h : ∀ g cap w', w'.ownsRow B 22 1 (.slice (some ⟨g, 0, none⟩) (n + 1) cap) (n + 1) (xs ++ [u]) → w.grownBy w' v.ownBlock → Below B w w' → (v.ownBlock = some g ∨ g = w.heap.size) → K (a.put o.dst (.slice (some ⟨g, 0, none⟩) (n + 1) cap)) w') :
    if Region.wanted o (yielded ops a.tmps) = true then Oper.wp Try.prog o a w K Q else E := by
  obtain ⟨i0, hi, hz0, hz1, hz2⟩ := info_parts info_ints
  refine step_append_lies _ hgd s x _ ho B 22 i0 _ 1 24 Try.underlying35 hi hz0 hz1 hz2 rfl (by omega) v n xs hs hown ⟨b, 0, none⟩ 1 c [u] hx rfl ?_ ?_ (by omega) (by unfold maxLen; omega) (by omega) hB w.heap.size rfl ?_
  · intro j y hj
    match j, hj with
    | 0, hj => simp at hj; subst hj; simpa [Addr.add] using hu
  · intro y hy; simp at hy; subst hy; exact h1
  · intro g cap w' hown' hg hat _
    exact h g cap w' hown' hg (below_of_own hown hB hg) hat
end

/-- The memory of the first ones that were found. -/
structure FI (B n L most bL bn bl bC bM K : Nat) (r : Nat) (s : List (List Nat)) (X : Nat → Prop) (w : World) : Prop where
  hL : w.heap[bL]? = some (.cells #[.int .i64 (L : Int)] 3 (0, 0))
  hl : w.heap[bl]? = some (.cells #[.int .i64 (L : Int)] 3 (0, 0))
  hn : w.heap[bn]? = some (.cells #[.int .i64 (n : Int)] 3 (0, 0))
  hM : w.heap[bM]? = some (.cells #[.int .i64 (most : Int)] 3 (0, 0))
  hC : ∃ A c f, w.heap[bC]? = some (.cells #[.slice A s.length c] 35 (0, 0)) ∧ OwL w B A c f (L + 1) s.length (fun i => cs (s.getD i [])) ∧ Far f (L + 1) s.length ∧
    (∀ g, (Value.slice A s.length c).ownBlock = some g → ¬ X g) ∧ (∀ i, i < s.length → ∀ g, (Value.slice (f i).1 (L + 1) (f i).2).ownBlock = some g → ¬ X g)
  lt : ∀ b, b = bL ∨ b = bl ∨ b = bn ∨ b = bM ∨ b = bC → b < w.heap.size ∧ ¬ X b
  ne : bL ≠ bC ∧ bl ≠ bC ∧ bn ≠ bC ∧ bM ≠ bC
  bB : B ≤ bC
  cnt : s.length + r ≤ K

theorem FI.frame {B n L most bL bn bl bC bM K r : Nat} {s : List (List Nat)} {X X' : Nat → Prop} {w w' : World} (h : FI B n L most bL bn bl bC bM K r s X w) (F : Frm X w w') (hX : ∀ b, X' b → X b ∨ w.heap.size ≤ b) :
    FI B n L most bL bn bl bC bM K r s X' w' := by
  have hx : ∀ b, b < w.heap.size → ¬ X b → ¬ X' b := fun b h1 h2 h3 => by
    rcases hX b h3 with h | h
    · exact h2 h
    · omega
  have hk : ∀ b, b = bL ∨ b = bl ∨ b = bn ∨ b = bM ∨ b = bC → w'.heap[b]? = w.heap[b]? := fun b hb => F.block b (h.lt b hb).1 (h.lt b hb).2
  obtain ⟨A, c, f, h1, h2, h3, h4, h5⟩ := h.hC
  refine ⟨(hk bL (.inl rfl)).trans h.hL, (hk bl (.inr (.inl rfl))).trans h.hl, (hk bn (.inr (.inr (.inl rfl)))).trans h.hn, (hk bM (.inr (.inr (.inr (.inl rfl))))).trans h.hM,
    ⟨A, c, f, (hk bC (.inr (.inr (.inr (.inr rfl))))).trans h1, ⟨?_, ?_⟩, h3, ?_, ?_⟩, ?_, h.ne, h.bB, h.cnt⟩
  · exact own_keepG h2.1 fun g hg => F.block g (own_block h2.1 g hg).2 (h4 g hg)
  · exact fun i hi => own_keepG (h2.2 i hi) fun g hg => F.block g (own_block (h2.2 i hi) g hg).2 (h5 i hi g hg)
  · exact fun g hg => hx g (own_block h2.1 g hg).2 (h4 g hg)
  · exact fun i hi g hg => hx g (own_block (h2.2 i hi) g hg).2 (h5 i hi g hg)
  · intro b hb
    have := F.size
    have := (h.lt b hb)
    exact ⟨by omega, hx b this.1 this.2⟩

/-- One list more. -/
theorem FI.add {B n L most bL bn bl bC bM K r : Nat} {s : List (List Nat)} {X : Nat → Prop} {w w2 w4 : World} {c0 : List Nat} {A A1 : Option Addr} {c c1 g4 c4 : Nat} {f : Nat → Option Addr × Nat} {o : Obj}
    (h : FI B n L most bL bn bl bC bM K (r + 1) s X w) (hXw : ∀ b, X b → b < w.heap.size) (hB : B ≤ w.heap.size)
    (h1 : w.heap[bC]? = some (.cells #[.slice A s.length c] 35 (0, 0))) (h2 : OwL w B A c f (L + 1) s.length (fun i => cs (s.getD i []))) (h3 : Far f (L + 1) s.length)
    (h4 : ∀ g, (Value.slice A s.length c).ownBlock = some g → ¬ X g) (h5 : ∀ i, i < s.length → ∀ g, (Value.slice (f i).1 (L + 1) (f i).2).ownBlock = some g → ¬ X g)
    (hb2 : Below w.heap.size w w2) (hrow : w2.ownsRow w.heap.size 3 1 (.slice A1 (L + 1) c1) (L + 1) ((cs c0).map I))
    (hown : w4.ownsRow B 22 1 (.slice (some ⟨g4, 0, none⟩) (s.length + 1) c4) (s.length + 1) (TT f (L + 1) s.length ++ [.slice A1 (L + 1) c1]))
    (hg : (w2.alloc o).grownBy w4 (Value.slice A s.length c).ownBlock) (hat : (Value.slice A s.length c).ownBlock = some g4 ∨ g4 = (w2.alloc o).heap.size) :
    w4.heap[bC]? = some (.cells #[.slice A s.length c] 35 (0, 0)) ∧ FI B n L most bL bn bl bC bM K r (s ++ [c0]) X (w4.setCell ⟨bC, 0, none⟩ (.slice (some ⟨g4, 0, none⟩) (s.length + 1) c4)) ∧
      (∀ b, X b → b < w.heap.size → (w4.setCell ⟨bC, 0, none⟩ (.slice (some ⟨g4, 0, none⟩) (s.length + 1) c4)).heap[b]? = w.heap[b]?) ∧ w.heap.size ≤ w4.heap.size := by
  have hz2 := hb2.size
  have hz3 : (w2.alloc o).heap.size = w2.heap.size + 1 := by simp
  have hz4 := hg.size
  have hbC := h.lt bC (.inr (.inr (.inr (.inr rfl))))
  have hnA := own_nbox h2.1 h1 (by decide)
  -- a block that is old, and not the row's, stays
  have hold : ∀ b, b < w.heap.size → (Value.slice A s.length c).ownBlock ≠ some b → w4.heap[b]? = w.heap[b]? := fun b hb hne =>
    ((hg.block b (by omega) (fun e => hne e.symm)).trans (Below.heap_alloc w2 o b (by omega))).trans (hb2.block b hb)
  have hCA : (Value.slice A s.length c).ownBlock ≠ some bC := fun e => hnA bC e rfl
  have hC4 := (hold bC hbC.1 hCA).trans h1
  have hset : ∀ b, b ≠ bC → (w4.setCell ⟨bC, 0, none⟩ (.slice (some ⟨g4, 0, none⟩) (s.length + 1) c4)).heap[b]? = w4.heap[b]? := fun b hb => Below.heap_setCell w4 ⟨bC, 0, none⟩ _ b hb
  have hg4 : g4 ≠ bC := by
    rcases hat with e | e
    · exact hnA g4 e
    · omega
  have hnx4 : ¬ X g4 := by
    rcases hat with e | e
    · exact h4 g4 e
    · intro hx
      have := hXw g4 hx
      omega
  have hbox : ∀ b, b = bL ∨ b = bl ∨ b = bn ∨ b = bM → (w4.setCell ⟨bC, 0, none⟩ (.slice (some ⟨g4, 0, none⟩) (s.length + 1) c4)).heap[b]? = w.heap[b]? := fun b hb => by
    have hb' : b = bL ∨ b = bl ∨ b = bn ∨ b = bM ∨ b = bC := by
      rcases hb with h | h | h | h
      · exact .inl h
      · exact .inr (.inl h)
      · exact .inr (.inr (.inl h))
      · exact .inr (.inr (.inr (.inl h)))
    have hne : b ≠ bC := by
      rcases hb with h' | h' | h' | h' <;> subst h'
      · exact h.ne.1
      · exact h.ne.2.1
      · exact h.ne.2.2.1
      · exact h.ne.2.2.2
    have hz := h.lt b hb'
    refine (hset b hne).trans (hold b hz.1 ?_)
    intro e
    rcases hb with h' | h' | h' | h' <;> subst h'
    · exact own_nbox h2.1 h.hL (by decide) _ e rfl
    · exact own_nbox h2.1 h.hl (by decide) _ e rfl
    · exact own_nbox h2.1 h.hn (by decide) _ e rfl
    · exact own_nbox h2.1 h.hM (by decide) _ e rfl
  have hnew : (w4.setCell ⟨bC, 0, none⟩ (.slice (some ⟨g4, 0, none⟩) (s.length + 1) c4)).ownsRow B 3 1 (.slice A1 (L + 1) c1) (L + 1) ((cs c0).map I) := by
    have r1 := own_base hrow hB
    have r2 : (w2.alloc o).ownsRow B 3 1 (.slice A1 (L + 1) c1) (L + 1) ((cs c0).map I) := World.ownsRow.alloc r1 _
    have hlt1 := fun g hg => (own_block hrow g hg)
    refine own_keepG r1 fun g hgo => ?_
    have hl := hlt1 g hgo
    refine (hset g (by omega)).trans ((hg.block g (by omega) ?_).trans (Below.heap_alloc w2 o g hl.2))
    intro e
    have := own_block h2.1 g e.symm
    omega
  refine ⟨hC4, ⟨(hbox bL (.inl rfl)).trans h.hL, (hbox bl (.inr (.inl rfl))).trans h.hl, (hbox bn (.inr (.inr (.inl rfl)))).trans h.hn, (hbox bM (.inr (.inr (.inr rfl)))).trans h.hM, ?_, ?_, h.ne, h.bB, by have := h.cnt; rw [List.length_append, List.length_singleton]; omega⟩, ?_, by omega⟩
  · refine ⟨some ⟨g4, 0, none⟩, c4, upd f s.length (A1, c1), ?_, ⟨?_, ?_⟩, ?_, ?_, ?_⟩
    · rw [List.length_append, List.length_singleton]
      exact one_setCell hC4
    · rw [List.length_append, List.length_singleton, TT_upd]
      exact ownsRow_setCell_other hown (by simp only [Value.ownBlock, ne_eq, Option.some.injEq]; exact hg4) _
    · intro i hi
      rw [List.length_append, List.length_singleton] at hi
      rcases Nat.lt_or_ge i s.length with hlt | hge
      · have e : upd f s.length (A1, c1) i = f i := by simp [upd, show i ≠ s.length by omega]
        have e2 : (s ++ [c0]).getD i [] = s.getD i [] := by rw [List.getD_eq_getElem?_getD, List.getElem?_append_left hlt, ← List.getD_eq_getElem?_getD]
        rw [e]
        show World.ownsRow _ _ _ _ _ _ ((cs ((s ++ [c0]).getD i [])).map I)
        rw [e2]
        have hri := h2.2 i hlt
        refine own_keepG hri fun g hgo => ?_
        have hl := own_block hri g hgo
        refine (hset g (own_nbox hri h1 (by decide) g hgo)).trans (hold g hl.2 ?_)
        intro e3
        rcases own_ne hri h2.1 (by decide) with e4 | e4
        · rw [hgo] at e4; cases e4
        · exact e4 (hgo.trans e3.symm)
      · have ei : i = s.length := by omega
        subst ei
        have e : upd f s.length (A1, c1) s.length = (A1, c1) := by simp [upd]
        have e2 : (s ++ [c0]).getD s.length [] = c0 := by rw [List.getD_eq_getElem?_getD, List.getElem?_concat_length]; rfl
        rw [e]
        show World.ownsRow _ _ _ _ _ _ ((cs ((s ++ [c0]).getD s.length [])).map I)
        rw [e2]
        exact hnew
    · intro i j hi hj hij
      rw [List.length_append, List.length_singleton] at hi hj
      have hnb : ∀ g, (Value.slice A1 (L + 1) c1).ownBlock = some g → w.heap.size ≤ g := fun g hgo => (own_block hrow g hgo).1
      have hob : ∀ k, k < s.length → ∀ g, (Value.slice (f k).1 (L + 1) (f k).2).ownBlock = some g → g < w.heap.size := fun k hk g hgo => (own_block (h2.2 k hk) g hgo).2
      by_cases hi' : i = s.length
      · have hj' : j < s.length := by omega
        subst hi'
        have e : upd f s.length (A1, c1) s.length = (A1, c1) := by simp [upd]
        have e' : upd f s.length (A1, c1) j = f j := by simp [upd, show j ≠ s.length by omega]
        rw [e, e']
        cases hA1 : (Value.slice A1 (L + 1) c1).ownBlock with
        | none => exact .inl rfl
        | some g =>
          right
          intro e3
          have q1 := hnb g hA1
          have q2 := hob j hj' g e3.symm
          omega
      · have e' : upd f s.length (A1, c1) i = f i := by simp [upd, hi']
        by_cases hj' : j = s.length
        · subst hj'
          have e : upd f s.length (A1, c1) s.length = (A1, c1) := by simp [upd]
          rw [e, e']
          cases hA1 : (Value.slice (f i).1 (L + 1) (f i).2).ownBlock with
          | none => exact .inl rfl
          | some g =>
            right
            intro e3
            have q1 := hnb g e3.symm
            have q2 := hob i (by omega) g hA1
            omega
        · have e : upd f s.length (A1, c1) j = f j := by simp [upd, hj']
          rw [e, e']
          exact h3 i j (by omega) (by omega) hij
    · intro g hgo
      have e : g4 = g := by simpa [Value.ownBlock] using hgo
      rw [← e]
      exact hnx4
    · intro i hi g hgo hx
      rw [List.length_append, List.length_singleton] at hi
      by_cases hi' : i = s.length
      · subst hi'
        have e : upd f s.length (A1, c1) s.length = (A1, c1) := by simp [upd]
        rw [e] at hgo
        have q1 := (own_block hrow g hgo).1
        have q2 := hXw g hx
        omega
      · have e' : upd f s.length (A1, c1) i = f i := by simp [upd, hi']
        rw [e'] at hgo
        exact h5 i (by omega) g hgo hx
  · intro b hb
    have h0 := h.lt b hb
    have : (w4.setCell ⟨bC, 0, none⟩ (.slice (some ⟨g4, 0, none⟩) (s.length + 1) c4)).heap.size = w4.heap.size := by simp
    exact ⟨by omega, h0.2⟩
  · intro b hx hb
    refine (hset b (fun e => ?_)).trans (hold b hb ?_)
    · subst e
      exact hbC.2 hx
    · intro e
      exact h4 b e hx
end Go.Proofs.Ytppahohakiidmaa
