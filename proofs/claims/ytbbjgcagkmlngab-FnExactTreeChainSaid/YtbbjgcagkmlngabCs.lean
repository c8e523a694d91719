/- Lists of natural numbers as cells; own rows of integers: their cells, a store, a beginning. -/
import Derived.Test.YtbbjgcagkmlngabYb
namespace Go.Proofs.Ytbbjgcagkmlngab
open Go.RowKit

def cs (l : List Nat) : List Int := l.map fun (n : Nat) => (n : Int)
theorem cs_len (l : List Nat) : (cs l).length = l.length := by simp [cs]
theorem cs_getD (l : List Nat) (i : Nat) : (cs l).getD i 0 = ((l.getD i 0 : Nat) : Int) := by
  simp only [cs, List.getD_eq_getElem?_getD, List.getElem?_map]
  cases l[i]? <;> rfl
theorem cs_snoc (l : List Nat) (x : Nat) : cs (l ++ [x]) = cs l ++ [(x : Int)] := by simp [cs]
theorem own_cells {w : World} {B n c : Nat} {A : Option Addr} {l : List Int} (h : OwI w B (.slice A n c) l) (hl : l.length = n) (hn : 0 < n) :
    ∃ g, A = some ⟨g, 0, none⟩ ∧ B ≤ g ∧ g < w.heap.size ∧ ∀ j, j < n → w.cell? ⟨g, j, none⟩ = some (.int .i64 (l.getD j 0)) := by
  unfold OwI at h
  rw [hl] at h
  obtain ⟨g, rfl, h1, h2, h3, _⟩ := own_at h hn
  refine ⟨g, rfl, h1, h2, fun j hj => ?_⟩
  rw [h3 j (by omega), List.getElem?_map, List.getElem?_eq_getElem (by omega), List.getD_eq_getElem?_getD, List.getElem?_eq_getElem (by omega)]
  rfl
theorem own_store {w : World} {B g n c i : Nat} {l : List Int} {x : Int} (h : OwI w B (.slice (some ⟨g, 0, none⟩) n c) l) (hl : l.length = n) :
    w.frozen? ⟨g, i, none⟩ = false ∧ OwI (w.setCell ⟨g, i, none⟩ (.int .i64 x)) B (.slice (some ⟨g, 0, none⟩) n c) (l.set i x) := by
  have h' : w.ownsRow B 3 1 (.slice (some ⟨g, 0, none⟩) n c) n (l.map I) := by unfold OwI at h; rw [hl] at h; exact h
  refine ⟨h'.frozenAt _, ?_⟩
  have h1 := (h'.stored i (.int .i64 x)).1
  unfold OwI
  rw [List.length_set, hl, List.map_set]
  exact h1
/-- A beginning of an own row. -/
theorem own_take {w : World} {B g c : Nat} {l : List Int} (h : OwI w B (.slice (some ⟨g, 0, none⟩) l.length c) l) {k : Nat} (hk : k ≤ l.length) : OwI w B (.slice (some ⟨g, 0, none⟩) k c) (l.take k) := by
  unfold OwI at h ⊢
  have hl : (l.take k).length = k := by rw [List.length_take]; omega
  rw [hl]
  rcases h.2 with ⟨h0, _⟩ | ⟨g', cap, cur, hv, hb, hg, hn, hm, hs, ht⟩
  · cases h0
  · injection hv with e1 _ e2
    injection e1 with e1
    injection e1 with e1
    subst e1
    subst e2
    refine ⟨by rw [List.length_map, hl, Nat.mul_one], .inr ⟨g, c, cur, rfl, hb, hg, by omega, hm, hs, ?_⟩⟩
    have := congrArg (List.take (k * 1)) ht
    rw [List.take_take, Nat.min_eq_left (by omega)] at this
    rw [this, Nat.mul_one, List.map_take]
/-- An own row stays as long as its block. -/
theorem own_heap {w w' : World} {B g n c : Nat} {l : List Int} (h : OwI w B (.slice (some ⟨g, 0, none⟩) n c) l) (hk : w'.heap[g]? = w.heap[g]?) : OwI w' B (.slice (some ⟨g, 0, none⟩) n c) l := by
  refine ⟨h.1, ?_⟩
  rcases h.2 with ⟨h0, _⟩ | ⟨g', cap, cur, hv, hb, hg, hr⟩
  · cases h0
  · have e : g = g' := by
      injection hv with e1
      injection e1 with e1
      injection e1
    subst e
    exact .inr ⟨g, cap, cur, hv, hb, hk.trans hg, hr⟩
theorem own_lt {w : World} {B g n c : Nat} {l : List Int} (h : OwI w B (.slice (some ⟨g, 0, none⟩) n c) l) : B ≤ g ∧ g < w.heap.size := by
  rcases h.2 with ⟨h0, _⟩ | ⟨g', cap, cur, hv, hb, hg, hr⟩
  · cases h0
  · have e : g = g' := by
      injection hv with e1
      injection e1 with e1
      injection e1
    subst e
    exact ⟨hb, (Array.getElem?_eq_some_iff.1 hg).1⟩
theorem cell_heap {w w' : World} {p : Addr} (h : w'.heap[p.block]? = w.heap[p.block]?) : w'.cell? p = w.cell? p := by
  unfold World.cell?
  rw [h]
end Go.Proofs.Ytbbjgcagkmlngab
