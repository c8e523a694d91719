/- Lists of lists of any lengths: data, what comes in, sizes, copies, comparisons. -/
import Derived.Test.YtpopomcaknbhnaaOp
import Derived.Test.YtpopomcaknbhnaaQl
import Derived.Test.YtpopomcaknbhnaaLb
namespace Go.Proofs.Ytpopomcaknbhnaa
open Go.ChangeShapes Go.WideShapes Go.ChangeAt Go.RowKit Go.Deep Go.Joins

abbrev Rws := List (List Int)
def rwV (f : Nat → Option Addr × Nat) (r : Rws) (k : Nat) : List Value := (List.range k).map fun i => Value.slice (f i).1 (r.getD i []).length (f i).2
theorem rwV_len (f : Nat → Option Addr × Nat) (r : Rws) (k : Nat) : (rwV f r k).length = k := by simp [rwV]
theorem rwV_at (f : Nat → Option Addr × Nat) (r : Rws) {i k : Nat} (hi : i < k) : (rwV f r k)[i]? = some (Value.slice (f i).1 (r.getD i []).length (f i).2) := by simp [rwV, hi]
def updR (f : Nat → Option Addr × Nat) (k : Nat) (a : Option Addr × Nat) : Nat → Option Addr × Nat := fun i => if i = k then a else f i
theorem rwV_upd (f : Nat → Option Addr × Nat) (r : Rws) (k : Nat) (A : Option Addr) (c : Nat) : rwV (updR f k (A, c)) r (k + 1) = rwV f r k ++ [Value.slice A (r.getD k []).length c] := by
  unfold rwV
  rw [List.range_succ, List.map_append]
  congr 1
  · apply List.map_congr_left
    intro i hi
    have : i ≠ k := by have := List.mem_range.1 hi; omega
    simp [updR, this]
  · simp [updR]
/-- A list of lists that reads. -/
def RdW (w : World) (B : Nat) (A : Option Addr) (f : Nat → Option Addr × Nat) (r : Rws) : Prop :=
  Rd w B 1 A r.length (rwV f r r.length) ∧ ∀ i, i < r.length → Rd w B 1 (f i).1 (r.getD i []).length ((r.getD i []).map I) ∧ (r.getD i []).length ≤ (f i).2
/-- An own list of own lists. -/
def OwW (w : World) (B : Nat) (A : Option Addr) (c : Nat) (f : Nat → Option Addr × Nat) (r : Rws) : Prop :=
  w.ownsRow B 36 1 (.slice A r.length c) r.length (rwV f r r.length) ∧ ∀ i, i < r.length → OwI w B (.slice (f i).1 (r.getD i []).length (f i).2) (r.getD i [])
section
variable {w w' : World} {B B' c : Nat} {A : Option Addr} {f : Nat → Option Addr × Nat} {r : Rws}
theorem RdW.below (h : RdW w B A f r) (hb : Below B w w') : RdW w' B A f r := ⟨h.1.below hb, fun i hi => ⟨(h.2 i hi).1.below hb, (h.2 i hi).2⟩⟩
theorem RdW.below' {C : Nat} (h : RdW w B A f r) (hb : Below C w w') (hC : B ≤ C) : RdW w' B A f r := h.below (hb.mono hC)
theorem RdW.more (h : RdW w B A f r) (hB : B ≤ B') : RdW w B' A f r := ⟨h.1.more hB, fun i hi => ⟨(h.2 i hi).1.more hB, (h.2 i hi).2⟩⟩
theorem OwW.below (h : OwW w B A c f r) (hb : Below w.heap.size w w') : OwW w' B A c f r := ⟨own_below h.1 hb, fun i hi => (h.2 i hi).below hb⟩
theorem OwW.base (h : OwW w B A c f r) (hB : B' ≤ B) : OwW w B' A c f r := ⟨own_base h.1 hB, fun i hi => (h.2 i hi).base hB⟩
theorem OwW.rd (h : OwW w B A c f r) : RdW w w.heap.size A f r := ⟨Rd.of_own h.1, fun i hi => ⟨(h.2 i hi).rd, (h.2 i hi).cap⟩⟩
theorem OwW.cap (h : OwW w B A c f r) : r.length ≤ c := by
  obtain ⟨A', c', e, hc⟩ := own_form h.1
  simp only [Value.slice.injEq] at e
  obtain ⟨_, _, rfl⟩ := e
  exact hc
theorem RdW.at_ (h : RdW w B A f r) {i : Nat} (hi : i < r.length) : ∃ b off, A = some ⟨b, off, none⟩ ∧ b < B ∧ w.cell? ⟨b, off + i, none⟩ = some (Value.slice (f i).1 (r.getD i []).length (f i).2) := by
  obtain ⟨b, off, e, hb, hc⟩ := h.1.2 (by omega)
  exact ⟨b, off, e, hb, by rw [hc i (by omega), rwV_at f r hi]⟩
end

section
variable {H : Type} {enc : TypeId × Value → H} {W : World} {base : Nat} {spare : Nat → Bool} {held : Bool}
set_option maxRecDepth 100000 in
/-- A slice of integers that came in. -/
theorem open_ints_rdc {fuel : Nat} {x0 : Value} {x : DataW H × List MemPlace} (h : DataW.trod enc Try.prog W base spare held fuel 36 [x0] = some x) :
    ∃ (A : Option Addr) (c : Nat) (l : List Int), x0 = .slice A l.length c ∧ l.length ≤ maxLen ∧ Rd W W.heap.size 1 A l.length (l.map I) ∧ l.length ≤ c := by
  rcases open_ints Try.underlying36 Try.underlying3 (by kernel_rfl) h with ⟨hcs, _⟩ | ⟨a, len, cap, zs, hcs, _, hl, hm, hz, _, hc, _⟩
  · simp only [List.cons.injEq, and_true] at hcs
    exact ⟨none, 0, [], hcs, by simp [maxLen], Rd.nil _ _ _ _, by simp⟩
  · simp only [List.cons.injEq, and_true] at hcs
    have hlen : (zs.take len).length = len := by
      rw [List.length_take]
      split at hz <;> omega
    refine ⟨some a, cap, zs.take len, by rw [hlen]; exact hcs, by omega, ?_, by omega⟩
    rw [hlen]
    refine ⟨by rw [List.length_map, hlen]; omega, fun hn => ?_⟩
    have hzl : len ≤ zs.length := by split at hz <;> omega
    have h0 := hc 0 (by omega)
    have e0 : a.add 0 = a := by unfold Addr.add; simp
    rw [e0] at h0
    refine ⟨a.block, a.off, by rw [← addr_form h0], World.block_lt_of_cell? _ _ h0, fun j hj => ?_⟩
    have hj' : j < len := by omega
    have h1 := hc j (by omega)
    rw [addr_form h0, add_form] at h1
    have hjz : j < zs.length := by omega
    rw [h1]
    simp [I, hj', hjz]

end
set_option maxRecDepth 100000 in
/-- A list of lists that came in. -/
theorem open_rows {H : Type} {enc : TypeId × Value → H} {W : World} {base : Nat} {spare : Nat → Bool} {held : Bool} {v : Value} {d : DataW H} {p : List MemPlace} {b0 : Nat} {rr : Reach} (hv : Value.okWide Try.prog W rr b0 74 v) (h : DataW.Trod enc Try.prog W base spare held 74 v d p) :
    ∃ (A : Option Addr) (c : Nat) (f : Nat → Option Addr × Nat) (r : Rws), v = .slice A r.length c ∧ r.length ≤ 9223372036854775807 ∧ (∀ i, (r.getD i []).length ≤ 9223372036854775807) ∧ RdW W W.heap.size A f r := by
  obtain ⟨A0, n0, c0, rfl⟩ := okWide_slice Try.underlying74 hv
  obtain ⟨fuel, hf⟩ := h
  rcases open_slice Try.underlying74 hf with ⟨hcs0, _⟩ | ⟨a, len, cap, m, n, D, Pl, hcs0, _, hl, hm, hmm, _, hi⟩
  · have hcs : [Value.slice A0 n0 c0] = [.slice none 0 0] := hcs0
    simp only [List.cons.injEq, and_true] at hcs
    exact ⟨none, 0, fun _ => (none, 0), [], hcs, by simp, by simp, Rd.nil _ _ _ _, fun i hi => absurd hi (by simp)⟩
  · have hcs : [Value.slice A0 n0 c0] = [.slice (some a) len cap] := hcs0
    simp only [List.cons.injEq, and_true] at hcs
    have hC : Try.prog.cellsOf 36 = 1 := by kernel_rfl
    have hlm : len ≤ m := by split at hmm <;> omega
    have key : ∀ i, ∃ (x : Option Addr × Nat) (l : List Int), i < len → W.cell? ((a.add (i * 1)).add 0) = some (.slice x.1 l.length x.2) ∧ l.length ≤ maxLen ∧ Rd W W.heap.size 1 x.1 l.length (l.map I) ∧ l.length ≤ x.2 := by
      intro i
      by_cases hil : i < len
      · obtain ⟨cs', hcells, htr⟩ := hi i (by omega)
        rw [hC] at hcells
        obtain ⟨_, hcl, hat⟩ := World.cells?_some hcells
        match cs', hcl with
        | [k0], _ =>
          obtain ⟨A1, c1, l1, e1, hl1, hr1, hc1⟩ := open_ints_rdc htr
          subst e1
          exact ⟨(A1, c1), l1, fun _ => ⟨hat 0 (by omega), hl1, hr1, hc1⟩⟩
      · exact ⟨(none, 0), [], fun h => absurd h hil⟩
    obtain ⟨g, hg⟩ : ∃ g : Nat → (Option Addr × Nat) × List Int, ∀ i, i < len → W.cell? ((a.add (i * 1)).add 0) = some (.slice (g i).1.1 (g i).2.length (g i).1.2) ∧ (g i).2.length ≤ maxLen ∧ Rd W W.heap.size 1 (g i).1.1 (g i).2.length ((g i).2.map I) ∧ (g i).2.length ≤ (g i).1.2 :=
      ⟨fun i => (Classical.choose (key i), Classical.choose (Classical.choose_spec (key i))), fun i hi => Classical.choose_spec (Classical.choose_spec (key i)) hi⟩
    have hlen : ((List.range len).map fun i => (g i).2).length = len := by simp
    have hget : ∀ i, i < len → ((List.range len).map fun i => (g i).2).getD i [] = (g i).2 := fun i hi => by simp [hi]
    refine ⟨some a, cap, fun i => (g i).1, (List.range len).map fun i => (g i).2, by rw [hlen]; exact hcs, by rw [hlen]; unfold maxLen at hm; omega, fun i => ?_, ?_, fun i hi => ?_⟩
    · by_cases hil : i < len
      · rw [hget i hil]
        have := (hg i hil).2.1
        unfold maxLen at this
        exact this
      · have : ((List.range len).map fun i => (g i).2).getD i [] = [] := by simp [hil]
        rw [this]; simp
    · rw [hlen]
      refine ⟨by rw [rwV_len]; omega, fun hn => ?_⟩
      have h0 := (hg 0 hn).1
      have e0 : (a.add (0 * 1)).add 0 = a := by unfold Addr.add; simp
      rw [e0] at h0
      refine ⟨a.block, a.off, by rw [← addr_form h0], World.block_lt_of_cell? _ _ h0, fun j hj => ?_⟩
      have hj' : j < len := by omega
      have h1 := (hg j hj').1
      rw [addr_form h0, add_form, add_form, Nat.mul_one, Nat.add_zero] at h1
      rw [h1, rwV_at _ _ hj', hget j hj']
    · rw [hlen] at hi
      rw [hget i hi]
      exact ⟨(hg i hi).2.2.1, (hg i hi).2.2.2⟩

/-- What is left of a size behind k rows. -/
def szK (r : Rws) (left : Int) : Nat → Int
  | 0 => szR left r.length
  | k + 1 => szR (szK r left k) (r.getD k []).length
theorem szR_neg {x : Int} {n : Nat} (h : x < 0) : szR x n = -1 := by unfold szR; rw [if_pos (by omega)]
theorem szK_neg {r : Rws} {left : Int} {k : Nat} (h : szK r left k < 0) : ∀ j, szK r left (k + j) < 0 := by
  intro j
  induction j with
  | zero => exact h
  | succ j ih => show szR (szK r left (k + j)) _ < 0; rw [szR_neg ih]; omega
theorem szK_bd {r : Rws} {left : Int} (h0 : -1 ≤ left) (h1 : left ≤ 1048576) : ∀ k, -1 ≤ szK r left k ∧ szK r left k ≤ 1048576 := by
  intro k
  induction k with
  | zero => exact szR_bd h0 h1
  | succ k ih => exact szR_bd ih.1 ih.2
theorem szK_end {r : Rws} {left : Int} {k : Nat} (h0 : -1 ≤ left) (h1 : left ≤ 1048576) (hk : k ≤ r.length) (h : szK r left k < 0) : szK r left r.length = -1 := by
  have h2 := szK_neg h (r.length - k)
  rw [show k + (r.length - k) = r.length by omega] at h2
  have := (szK_bd (r := r) h0 h1 r.length).1
  omega
theorem szK_ok {r : Rws} {left : Int} (h0 : left ≤ 1048576) (h : ¬ szK r left r.length < 0) : r.length ≤ 1048576 ∧ ∀ i, i < r.length → (r.getD i []).length ≤ 1048576 := by
  have hk : ∀ k, k ≤ r.length → ¬ szK r left k < 0 := fun k hk hn => h (by
    have := szK_neg hn (r.length - k)
    rwa [show k + (r.length - k) = r.length by omega] at this)
  have hb : ∀ k, k ≤ r.length → szK r left k ≤ 1048576 := by
    intro k
    induction k with
    | zero => intro _; unfold szK szR; split <;> omega
    | succ k ih => intro hk2; have := ih (by omega); show szR _ _ ≤ _; unfold szR; split <;> omega
  refine ⟨?_, fun i hi => ?_⟩
  · have h1 := hk 0 (by omega)
    unfold szK szR at h1
    split at h1 <;> omega
  · have h1 := hk (i + 1) (by omega)
    have h2 := hb i (by omega)
    change ¬ szR (szK r left i) _ < 0 at h1
    unfold szR at h1
    split at h1 <;> omega
end Go.Proofs.Ytpopomcaknbhnaa
