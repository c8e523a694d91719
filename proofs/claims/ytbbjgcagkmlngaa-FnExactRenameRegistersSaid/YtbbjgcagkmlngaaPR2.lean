/- Joined: Pa. -/
import Derived.Test.YtbbjgcagkmlngaaPR1
/- PickOutputs: what both sides answer; the model's. -/
namespace Go.Proofs.Ytbbjgcagkmlngaa
open Go.RowKit

theorem boxes2b {w w2 : World} {a b c : Value} {t : TypeId} (h : (w.alloc (.cells #[a, b, c] t)).alloc (.cells #[.int .i64 0, .slice none 0 0, .slice none 0 0] 36) = w2) :
    w2.heap[w.heap.size]? = some (.cells #[a, b, c] t (0, 0)) ∧ w2.heap[w.heap.size + 1]? = some (.cells #[.int .i64 0, .slice none 0 0, .slice none 0 0] 36 (0, 0)) ∧ w2.heap.size = w.heap.size + 2 ∧ Below w.heap.size w w2 := by
  subst h
  refine ⟨?_, ?_, by simp, ((Below.refl _ _).alloc (Nat.le_refl _) _).alloc (by simp) _⟩
  · rw [Below.heap_alloc _ _ _ (by simp)]; exact heap_alloc_new w _
  · have := heap_alloc_new (w.alloc (.cells #[a, b, c] t)) (.cells #[.int .i64 0, .slice none 0 0, .slice none 0 0] 36)
    simpa using this
theorem cells3b {w : World} {g : Nat} {a b c : Value} {t : TypeId} (h : w.heap[g]? = some (.cells #[a, b, c] t (0, 0))) :
    w.cell? ⟨g, 0, none⟩ = some a ∧ w.cell? ⟨g, 1, none⟩ = some b ∧ w.cell? ⟨g, 2, none⟩ = some c ∧ w.frozen? ⟨g, 0, none⟩ = false ∧ w.frozen? ⟨g, 1, none⟩ = false ∧ w.frozen? ⟨g, 2, none⟩ = false := by
  refine ⟨?_, ?_, ?_, frozen_of_row w _ 0 _ _ h, frozen_of_row w _ 1 _ _ h, frozen_of_row w _ 2 _ _ h⟩
  · rw [cell_of_row w _ 0 _ _ (0, 0) h]; rfl
  · rw [cell_of_row w _ 1 _ _ (0, 0) h]; rfl
  · rw [cell_of_row w _ 2 _ _ (0, 0) h]; rfl
def selV (b : Bool) (x y : Value) : Value := if b then x else y
def zeroQ : Pl := ⟨0, [], []⟩
theorem OwP.zeroQ (w : World) (B : Nat) : OwP w B none none 0 0 zeroQ := ⟨World.ownsRow_nil _ _ _ _, World.ownsRow_nil _ _ _ _⟩

def pickO (p : Pl) (l : List Int) (k : Nat) : List Int := (l.take k).map fun i => p.o.getD i.toNat 0
def pickB (p : Pl) (l : List Int) : Bool := good p && (allB l 0 ((p.o.length : Int) - 1) && decide (l.length ≤ 6))
def pickR (p : Pl) (l : List Int) : Pl := if pickB p l then ⟨p.n, p.s, pickO p l l.length⟩ else zeroQ
theorem pickO_len (p : Pl) (l : List Int) {k : Nat} (hk : k ≤ l.length) : (pickO p l k).length = k := by simp [pickO]; omega
theorem pickO_succ {p : Pl} {l : List Int} {k v : Nat} (hk : k < l.length) (hv : l[k] = (v : Int)) (hvl : v < p.o.length) : pickO p l (k + 1) = pickO p l k ++ [p.o[v]] := by
  unfold pickO
  rw [List.take_succ_eq_append_getElem hk, List.map_append, hv]
  simp [hvl]
theorem pickR_len (p : Pl) (l : List Int) : (pickR p l).s.length ≤ 1000 ∧ (pickR p l).o.length ≤ 1000 := by
  unfold pickR
  split
  · rename_i h
    unfold pickB at h
    simp only [Bool.and_eq_true, decide_eq_true_eq] at h
    obtain ⟨_, _, _, _, h40, _⟩ := good_facts h.1
    simp only
    rw [pickO_len p l (Nat.le_refl _)]
    omega
  · simp [zeroQ]
theorem all_in {l : List Int} {m : Int} (h : allB l 0 m = true) : ∀ x ∈ l, 0 ≤ x ∧ x ≤ m := by
  intro x hx
  unfold allB at h
  rw [List.all_eq_true] at h
  have := h x hx
  simpa [inB] using this
/-- The plan with picked outputs is a plan, unless there are too many of them. -/
theorem good_pick {p : Pl} {l : List Int} (hg : good p = true) (ha : allB l 0 ((p.o.length : Int) - 1) = true) : good ⟨p.n, p.s, pickO p l l.length⟩ = decide (l.length ≤ 6) := by
  have hin := all_in ha
  have hlen := pickO_len p l (Nat.le_refl _)
  have ho : allB (pickO p l l.length) 0 (p.n + p.s.length - 1) = true := by
    unfold good at hg
    simp only [Bool.and_eq_true] at hg
    have hall := hg.2.2.2.2.2
    unfold allB at hall ⊢
    rw [List.all_eq_true] at hall ⊢
    intro x hx
    unfold pickO at hx
    rw [List.take_of_length_le (Nat.le_refl _)] at hx
    obtain ⟨i, hi, rfl⟩ := List.mem_map.1 hx
    obtain ⟨h0, h1⟩ := hin i hi
    have hlt : i.toNat < p.o.length := by omega
    have e : p.o.getD i.toNat 0 = p.o[i.toNat] := by simp [hlt]
    rw [e]
    exact hall _ (List.getElem_mem hlt)
  unfold good at hg ⊢
  simp only [Bool.and_eq_true] at hg
  obtain ⟨g1, g2, _, g4, g5, _⟩ := hg
  simp only [g1, g2, g4, g5, ho, hlen, Bool.true_and, Bool.and_true]

end Go.Proofs.Ytbbjgcagkmlngaa
