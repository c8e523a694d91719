/- A plan that came in, opened; the frame of a proof of a law over plans. -/
import Derived.Test.YtpopomcaknbhnaaRows
import Derived.Test.YtpopomcaknbhnaaBase2
import Derived.ProofKit
import Derived.OpenShut
import Derived.Carry
import Derived.Deep.Slices
import Derived.Lib.SmallJoins
namespace Go.Proofs.Ytpopomcaknbhnaa
open Go.ChangeShapes Go.WideShapes Go.ChangeAt Go.RowKit Go.Deep Go.Joins

theorem spot_none {w : World} {a : Addr} {v : Value} (h : w.cell? a = some v) : a.spot = none := by
  unfold World.cell? at h
  split at h
  · split at h
    · cases h
    · rename_i hs; simpa using hs
  · cases h
theorem addr_form {w : World} {a : Addr} {v : Value} (h : w.cell? a = some v) : a = ⟨a.block, a.off, none⟩ := by
  have := spot_none h
  cases a
  simp_all
theorem add_form (b off j : Nat) : (⟨b, off, none⟩ : Addr).add j = ⟨b, off + j, none⟩ := by
  unfold Addr.add
  split <;> simp_all

section
variable {H : Type} {enc : TypeId × Value → H} {W : World} {base : Nat} {spare : Nat → Bool} {held : Bool}

set_option maxRecDepth 100000 in
/-- A slice of integers that came in. -/
theorem open_ints_rd {fuel : Nat} {x0 : Value} {x : DataW H × List MemPlace} (h : DataW.trod enc Try.prog W base spare held fuel 36 [x0] = some x) :
    ∃ (A : Option Addr) (c : Nat) (l : List Int), x0 = .slice A l.length c ∧ l.length ≤ maxLen ∧ Rd W W.heap.size 1 A l.length (l.map I) := by
  rcases open_ints Try.underlying36 Try.underlying3 (by kernel_rfl) h with ⟨hcs, _⟩ | ⟨a, len, cap, zs, hcs, _, hl, hm, hz, _, hc, _⟩
  · simp only [List.cons.injEq, and_true] at hcs
    exact ⟨none, 0, [], hcs, by simp [maxLen], Rd.nil _ _ _ _⟩
  · simp only [List.cons.injEq, and_true] at hcs
    have hlen : (zs.take len).length = len := by
      rw [List.length_take]
      split at hz <;> omega
    refine ⟨some a, cap, zs.take len, by rw [hlen]; exact hcs, by omega, ?_⟩
    rw [hlen]
    refine ⟨by rw [List.length_map, hlen]; omega, fun hn => ?_⟩
    have hzl : len ≤ zs.length := by split at hz <;> omega
    have h0 := hc 0 (by omega)
    have e0 : a.add 0 = a := by unfold Addr.add; simp
    rw [e0] at h0
    refine ⟨a.block, a.off, by rw [← addr_form h0], World.block_lt_of_cell? _ _ h0, fun j hj => ?_⟩
    have hj' : j < len := by omega
    have h1 := hc j (by omega)
    rw [addr_form h0, add_form] at h1
    have hjz : j < zs.length := by omega
    rw [h1]
    simp [I, hj', hjz]

set_option maxRecDepth 100000 in
/-- A slice of steps that came in. -/
theorem open_steps_rd {fuel : Nat} {x0 : Value} {x : DataW H × List MemPlace} (h : DataW.trod enc Try.prog W base spare held fuel 56 [x0] = some x) :
    ∃ (A : Option Addr) (c : Nat) (s : List (Int × Int)), x0 = .slice A s.length c ∧ s.length ≤ maxLen ∧ Rd W W.heap.size 2 A s.length (fl s) := by
  rcases open_slice Try.underlying56 h with ⟨hcs, _⟩ | ⟨a, len, cap, m, n, D, Pl, hcs, _, hl, hm, hmm, _, hi⟩
  · simp only [List.cons.injEq, and_true] at hcs
    exact ⟨none, 0, [], hcs, by simp [maxLen], Rd.nil _ _ _ _⟩
  · simp only [List.cons.injEq, and_true] at hcs
    have hC : Try.prog.cellsOf 138 = 2 := by kernel_rfl
    have hlm : len ≤ m := by split at hmm <;> omega
    have key : ∀ i, ∃ xy : Int × Int, i < len → W.cell? ((a.add (i * 2)).add 0) = some (.int .i64 xy.1) ∧ W.cell? ((a.add (i * 2)).add 1) = some (.int .i64 xy.2) := by
      intro i
      by_cases hil : i < len
      · obtain ⟨cs', hcells, htr⟩ := hi i (by omega)
        rw [hC] at hcells
        obtain ⟨_, hcl, hat⟩ := World.cells?_some hcells
        obtain ⟨y0, y1, n', _, _, t0, t1⟩ := trod_struct2 Try.underlying138 htr
        match cs', hcl with
        | [k0, k1], _ =>
          obtain ⟨z0, e0, _, _⟩ := DataW.trod_int Try.underlying3 t0
          obtain ⟨z1, e1, _, _⟩ := DataW.trod_int Try.underlying3 t1
          have c1 : Try.prog.cellsOf 3 = 1 := by kernel_rfl
          simp [c1] at e0 e1
          subst e0
          subst e1
          exact ⟨(z0, z1), fun _ => ⟨hat 0 (by omega), hat 1 (by omega)⟩⟩
      · exact ⟨(0, 0), fun h => absurd h hil⟩
    obtain ⟨f, hf⟩ : ∃ f : Nat → Int × Int, ∀ i, i < len → W.cell? ((a.add (i * 2)).add 0) = some (.int .i64 (f i).1) ∧ W.cell? ((a.add (i * 2)).add 1) = some (.int .i64 (f i).2) :=
      ⟨fun i => Classical.choose (key i), fun i => Classical.choose_spec (key i)⟩
    have hlen : ((List.range len).map f).length = len := by simp
    refine ⟨some a, cap, (List.range len).map f, by rw [hlen]; exact hcs, by omega, ?_⟩
    rw [hlen]
    refine ⟨by rw [fl_length, hlen], fun hn => ?_⟩
    have h0 := (hf 0 hn).1
    have e0 : (a.add (0 * 2)).add 0 = a := by unfold Addr.add; simp
    rw [e0] at h0
    refine ⟨a.block, a.off, by rw [← addr_form h0], World.block_lt_of_cell? _ _ h0, fun j hj => ?_⟩
    have hj' : j / 2 < len := by omega
    have hfl := fl_at (s := (List.range len).map f) (k := j / 2) (by simpa using hj')
    have h1 := hf (j / 2) hj'
    rw [addr_form h0, add_form, add_form, add_form] at h1
    have hj2 : j % 2 = 0 ∨ j % 2 = 1 := by omega
    rcases hj2 with hj2 | hj2
    · have ej : j = j / 2 * 2 := by omega
      have := hfl.1
      rw [← ej] at this
      rw [this]
      have h2 := h1.1
      rw [Nat.add_zero, ← ej] at h2
      rw [h2]
      simp [I]
    · have ej : j = j / 2 * 2 + 1 := by omega
      have := hfl.2
      rw [← ej] at this
      rw [this]
      have h2 := h1.2
      rw [Nat.add_assoc, ← ej] at h2
      rw [h2]
      simp [I]

set_option maxRecDepth 100000 in
theorem open_plan {v : Value} {d : DataW H} {p : List MemPlace} {b0 : Nat} {r : Reach} (hv : Value.okWide Try.prog W r b0 58 v) (h : DataW.Trod enc Try.prog W base spare held 58 v d p) :
    ∃ (A1 A2 : Option Addr) (c1 c2 : Nat) (q : Pl), v = .agg #[.int .i64 q.n, .slice A1 q.s.length c1, .slice A2 q.o.length c2] ∧ q.s.length ≤ 9223372036854775807 ∧ q.o.length ≤ 9223372036854775807 ∧ RdP W W.heap.size A1 A2 q := by
  obtain ⟨v0, v1, v2, y0, y1, y2, n, rfl, _, _, t0, t1, t2⟩ := open_agg3 Try.underlying58 (by kernel_rfl) (by kernel_rfl) hv h
  obtain ⟨z, e0, _, _⟩ := DataW.trod_int Try.underlying3 t0
  simp only [List.cons.injEq, and_true] at e0
  obtain ⟨A1, c1, s, e1, l1, r1⟩ := open_steps_rd t1
  obtain ⟨A2, c2, l, e2, l2, r2⟩ := open_ints_rd t2
  subst e0
  subst e1
  subst e2
  exact ⟨A1, A2, c1, c2, ⟨z, s, l⟩, rfl, by unfold maxLen at l1; exact l1, by unfold maxLen at l2; exact l2, r1, r2⟩
end

theorem own : ownKnob Try.prog.godebug = none := by kernel_rfl
theorem laidOut : laidOutB Try.prog = true := by kernel_rfl
end Go.Proofs.Ytpopomcaknbhnaa
