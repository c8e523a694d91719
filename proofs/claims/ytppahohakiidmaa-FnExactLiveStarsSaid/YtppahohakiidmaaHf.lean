/- The search through star chains, whatever its two steps do. -/
import Derived.Test.YtppahohakiidmaaHa
import Derived.Test.YtppahohakiidmaaCs
import Derived.Test.YtppahohakiidmaaMl
import Derived.Test.YtppahohakiidmaaQl
import Derived.Deep.LoopGhost
namespace Go.Proofs.Ytppahohakiidmaa
open Go.RowKit

/-- What is met one after the other, with a state. -/
def runD {σ : Type} (step : σ → List Nat → σ) (go : σ → Bool) : σ → List (List Nat) → σ
  | s, [] => s
  | s, c :: R => if go (step s c) then runD step go (step s c) R else step s c
theorem runD_go {σ : Type} {step : σ → List Nat → σ} {go : σ → Bool} {s : σ} {c : List Nat} {R : List (List Nat)} (h : go (step s c) = true) : runD step go s (c :: R) = runD step go (step s c) R := if_pos h
theorem runD_stop {σ : Type} {step : σ → List Nat → σ} {go : σ → Bool} {s : σ} {c : List Nat} {R : List (List Nat)} (h : go (step s c) = false) : runD step go s (c :: R) = step s c := by
  show (if _ then _ else _) = _
  rw [h]
  rfl

/-- All blocks but those of X lie as they lay. -/
structure Frm (X : Nat → Prop) (w w' : World) : Prop where
  size : w.heap.size ≤ w'.heap.size
  block : ∀ b, b < w.heap.size → ¬ X b → w'.heap[b]? = w.heap[b]?
theorem Frm.refl (X : Nat → Prop) (w : World) : Frm X w w := ⟨Nat.le_refl _, fun _ _ _ => rfl⟩
theorem Frm.trans {X : Nat → Prop} {a b c : World} (h : Frm X a b) (h' : Frm X b c) : Frm X a c :=
  ⟨Nat.le_trans h.size h'.size, fun k hk hx => (h'.block k (by have := h.size; omega) hx).trans (h.block k hk hx)⟩
theorem Frm.of_below {X : Nat → Prop} {w w' : World} (h : Below w.heap.size w w') : Frm X w w' := ⟨h.size, fun b hb _ => h.block b hb⟩
theorem Frm.of_grown {X : Nat → Prop} {w w' : World} {g : Nat} (h : w.grownBy w' (some g)) (hx : X g) : Frm X w w' :=
  ⟨h.size, fun b hb hn => h.block b hb (by intro e; injection e with e; subst e; exact hn hx)⟩
theorem Frm.set {X : Nat → Prop} {w : World} {g o : Nat} {u : Value} (hx : X g) : Frm X w (w.setCell ⟨g, o, none⟩ u) :=
  Frm.of_grown (grown_set (World.grownBy.refl w (some g)) u) hx

/-- What is asked of the two steps: of numbers that fit, and of what is met. -/
structure Steps (B : Nat) (F : Nat → Nat → Bool) (L gf gm : Nat) (lf lm : Array Value) {σ : Type} (step : σ → List Nat → σ) (go : σ → Bool) (Inv : Nat → σ → (Nat → Prop) → World → Prop) : Prop where
  frame : ∀ r s X X' w w', Inv r s X w → Frm X w w' → (∀ b, X' b → X b ∨ w.heap.size ≤ b) → Inv r s X' w'
  fits : ∀ r s X w (n i : Nat), Inv r s X w → 1 ≤ n → n ≤ 2 ^ i → i ≤ L + 1 → Calls Try.prog gf (#[.int .i64 (n : Int), .int .i64 (i : Int)] ++ lf) w fun e w' => e = .returned (.bool (F n i)) ∧ Dr w w'
  meet : ∀ r s X w gc cc (c : List Nat) (m : Nat), Inv (r + 1) s X w → X gc → (∀ b, X b → b < w.heap.size) → c.length = m → 1 ≤ m → m ≤ L + 1 → (∀ i, i < m → 1 ≤ c.getD i 0 ∧ c.getD i 0 ≤ 2 ^ i) → B ≤ w.heap.size → OwI w B (.slice (some ⟨gc, 0, none⟩) m cc) (cs c) →
    Calls Try.prog gm (#[.slice (some ⟨gc, 0, none⟩) m cc] ++ lm) w fun e w' => e = .returned (.bool (go (step s c))) ∧ Inv r (step s c) X w' ∧ Below B w w' ∧ w.heap.size ≤ w'.heap.size ∧ ∀ b, X b → b < w.heap.size → w'.heap[b]? = w.heap[b]?

/-- The search's own memory. -/
structure RS (B : Nat) (wr : World) (v1 v2 : Value) (gs gc gn cc cn m L : Nat) (c x : List Nat) : Prop where
  s1 : wr.cell? ⟨gs, 0, none⟩ = some v1
  s2 : wr.cell? ⟨gs, 1, none⟩ = some v2
  hs : gs < wr.heap.size
  oc : OwI wr B (.slice (some ⟨gc, 0, none⟩) m cc) (cs c)
  on : OwI wr B (.slice (some ⟨gn, 0, none⟩) m cn) (cs x)
  lc : c.length = m
  lx : x.length = m
  m1 : 1 ≤ m
  mL : m ≤ L + 1
  n1 : gs ≠ gc
  n2 : gs ≠ gn
  n3 : gc ≠ gn
  bd : ∀ i, i < m → 1 ≤ c.getD i 0 ∧ c.getD i 0 ≤ 2 ^ i
section
variable {B : Nat} {w wr wr' : World} {v1 v2 : Value} {gs gc gn cc cn m L : Nat} {c x : List Nat}
theorem RS.keep (h : RS B wr v1 v2 gs gc gn cc cn m L c x) (hk : ∀ b, b = gs ∨ b = gc ∨ b = gn → wr'.heap[b]? = wr.heap[b]?) (hz : wr.heap.size ≤ wr'.heap.size) : RS B wr' v1 v2 gs gc gn cc cn m L c x :=
  ⟨(cell_heap (p := ⟨gs, 0, none⟩) (hk gs (.inl rfl))).trans h.s1, (cell_heap (p := ⟨gs, 1, none⟩) (hk gs (.inl rfl))).trans h.s2, by have := h.hs; omega, own_heap h.oc (hk gc (.inr (.inl rfl))), own_heap h.on (hk gn (.inr (.inr rfl))), h.lc, h.lx, h.m1, h.mL, h.n1, h.n2, h.n3, h.bd⟩
theorem RS.below (h : RS B wr v1 v2 gs gc gn cc cn m L c x) (hb : Below wr.heap.size wr wr') : RS B wr' v1 v2 gs gc gn cc cn m L c x :=
  h.keep (fun b hb' => hb.block b (by rcases hb' with rfl | rfl | rfl; exact h.hs; exact (own_lt h.oc).2; exact (own_lt h.on).2)) hb.size
theorem RS.store (h : RS B wr v1 v2 gs gc gn cc cn m L c x) (e v : Nat) : wr.frozen? ⟨gn, e, none⟩ = false ∧ RS B (wr.setCell ⟨gn, e, none⟩ (.int .i64 (v : Int))) v1 v2 gs gc gn cc cn m L c (x.set e v) := by
  obtain ⟨f1, f2⟩ := own_store (x := (v : Int)) (i := e) h.on (by rw [cs_len]; exact h.lx)
  have hcs : (cs x).set e (v : Int) = cs (x.set e v) := by simp [cs, List.map_set]
  rw [hcs] at f2
  have hg : Frm (fun b => b = gn) wr (wr.setCell ⟨gn, e, none⟩ (.int .i64 (v : Int))) := Frm.set rfl
  have k1 := hg.block gs h.hs h.n2
  have k2 := hg.block gc (own_lt h.oc).2 h.n3
  exact ⟨f1, (cell_heap (p := ⟨gs, 0, none⟩) k1).trans h.s1, (cell_heap (p := ⟨gs, 1, none⟩) k1).trans h.s2, by have := h.hs; have := hg.size; omega, own_heap h.oc k2, f2, h.lc, by rw [List.length_set]; exact h.lx, h.m1, h.mL, h.n1, h.n2, h.n3, h.bd⟩
theorem RS.cellc (h : RS B wr v1 v2 gs gc gn cc cn m L c x) {i : Nat} (hi : i < m) : wr.cell? ⟨gc, i, none⟩ = some (.int .i64 ((c.getD i 0 : Nat) : Int)) := by
  obtain ⟨g, hg, _, _, hc⟩ := own_cells h.oc (by rw [cs_len]; exact h.lc) (by have := h.m1; omega)
  injection hg with hg
  injection hg with hg
  subst hg
  rw [hc i hi, cs_getD]
theorem RS.celln (h : RS B wr v1 v2 gs gc gn cc cn m L c x) {i : Nat} (hi : i < m) : wr.cell? ⟨gn, i, none⟩ = some (.int .i64 ((x.getD i 0 : Nat) : Int)) := by
  obtain ⟨g, hg, _, _, hc⟩ := own_cells h.on (by rw [cs_len]; exact h.lx) (by have := h.m1; omega)
  injection hg with hg
  injection hg with hg
  subst hg
  rw [hc i hi, cs_getD]
theorem RS.tc (h : RS B wr v1 v2 gs gc gn cc cn m L c x) {e : Nat} (he : e + 1 ≤ m) : OwI wr B (.slice (some ⟨gc, 0, none⟩) (e + 1) cc) ((cs c).take (e + 1)) ∧ ((cs c).take (e + 1)).length = e + 1 ∧ m ≤ cc ∧ m ≤ cn := by
  have hl : (cs c).length = m := by rw [cs_len]; exact h.lc
  have hlx : (cs x).length = m := by rw [cs_len]; exact h.lx
  have h1 := h.oc
  have h2 := h.on
  refine ⟨?_, by rw [List.length_take]; omega, ?_, ?_⟩
  · rw [← hl] at h1
    exact own_take h1 (by omega)
  · have := OwI.cap h1
    omega
  · have := OwI.cap h2
    omega
theorem hat_in {w1 : World} {g g2 n k : Nat} (h : (Value.slice (some ⟨g, 0, none⟩) n k).ownBlock = some g2 ∨ g2 = w1.heap.size) : g = g2 ∨ w1.heap.size ≤ g2 := by
  rcases h with h | h
  · exact .inl (by simpa [Value.ownBlock] using h)
  · exact .inr (by omega)
/-- A row's beginning and one number more, in place or in a new block; then the other row's. -/
theorem RS.grow {w1 w2 : World} {e s g2 c2 : Nat} (h : RS B wr v1 v2 gs gc gn cc cn m L c x) (he : e + 1 ≤ m) (heL : e + 1 ≤ L) (hs1 : 1 ≤ s) (hs2 : s ≤ 2 ^ (e + 1)) (hb1 : Below wr.heap.size wr w1)
    (hown : OwI w2 B (.slice (some ⟨g2, 0, none⟩) (e + 2) c2) ((cs c).take (e + 1) ++ [(s : Int)])) (hg : w1.grownBy w2 (some gc)) (hat : gc = g2 ∨ w1.heap.size ≤ g2) :
    OwI w2 B (.slice (some ⟨gn, 0, none⟩) (e + 1) cn) ((cs x).take (e + 1)) ∧ (∀ w3 w4 g4 c4 (z : Nat), Below w2.heap.size w2 w3 → OwI w4 B (.slice (some ⟨g4, 0, none⟩) (e + 2) c4) ((cs x).take (e + 1) ++ [(z : Int)]) → w3.grownBy w4 (some gn) → (gn = g4 ∨ w3.heap.size ≤ g4) →
      RS B w4 v1 v2 gs g2 g4 c2 c4 (e + 2) L (c.take (e + 1) ++ [s]) (x.take (e + 1) ++ [z])) := by
  have ltc := (own_lt h.oc).2
  have ltn := (own_lt h.on).2
  have hsz := h.hs
  have z1 := hb1.size
  have z2 := hg.size
  have lt2 := (own_lt hown).2
  have hf : Frm (fun b => b = gc) wr w2 := (Frm.of_below hb1).trans (Frm.of_grown hg rfl)
  have kn := hf.block gn ltn (fun e => h.n3 e.symm)
  have ks := hf.block gs hsz h.n1
  have hxl : (cs x).length = m := by rw [cs_len]; exact h.lx
  refine ⟨?_, ?_⟩
  · have := own_heap h.on kn
    rw [← hxl] at this
    exact own_take this (by rw [hxl]; exact he)
  · intro w3 w4 g4 c4 z hb3 hown4 hg4 hat4
    have z3 := hb3.size
    have z4 := hg4.size
    have hf4 : Frm (fun b => b = gn) w2 w4 := (Frm.of_below hb3).trans (Frm.of_grown hg4 rfl)
    have hne2 : g2 ≠ gn := by
      rcases hat with e | e
      · rw [← e]; exact h.n3
      · omega
    have k2 := hf4.block g2 lt2 hne2
    have ks4 := hf4.block gs (by omega) h.n2
    have lt4 := (own_lt hown4).2
    have t1 : (cs c).take (e + 1) ++ [(s : Int)] = cs (c.take (e + 1) ++ [s]) := by rw [cs_snoc]; simp [cs, List.map_take]
    have t2 : (cs x).take (e + 1) ++ [(z : Int)] = cs (x.take (e + 1) ++ [z]) := by rw [cs_snoc]; simp [cs, List.map_take]
    have lct : (c.take (e + 1)).length = e + 1 := by rw [List.length_take, h.lc]; omega
    have lxt : (x.take (e + 1)).length = e + 1 := by rw [List.length_take, h.lx]; omega
    refine ⟨(cell_heap (p := ⟨gs, 0, none⟩) (ks4.trans ks)).trans h.s1, (cell_heap (p := ⟨gs, 1, none⟩) (ks4.trans ks)).trans h.s2, by omega, ?_, by rw [← t2]; exact hown4, by rw [List.length_append, lct]; rfl, by rw [List.length_append, lxt]; rfl, by omega, by omega, ?_, ?_, ?_, ?_⟩
    · rw [← t1]
      exact own_heap hown k2
    · rcases hat with e | e
      · rw [← e]; exact h.n1
      · omega
    · rcases hat4 with e | e
      · rw [← e]; exact h.n2
      · omega
    · rcases hat4 with e | e
      · rw [← e]; exact hne2
      · omega
    · intro i hi
      rcases Nat.lt_or_ge i (e + 1) with hlt | hge
      · rw [List.getD_eq_getElem?_getD, List.getElem?_append_left (by omega), List.getElem?_take_of_lt hlt, ← List.getD_eq_getElem?_getD]
        exact h.bd i (by omega)
      · have ei : i = e + 1 := by omega
        subst ei
        rw [List.getD_eq_getElem?_getD, List.getElem?_append_right (by omega), lct]
        simp only [Nat.sub_self, List.getElem?_cons_zero, Option.getD_some]
        exact ⟨hs1, hs2⟩
end
end Go.Proofs.Ytppahohakiidmaa
