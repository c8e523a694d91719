/- What a run of the program answers, as data. -/
import Derived.Test.YtbbfbccemonihabMok
import Derived.Test.YtbbfbccemonihabQn0
import Derived.Test.YtbbfbccemonihabMoe
namespace Go.Proofs.Ytbbfbccemonihab
open Go.RowKit
def runB (has : Int → Bool) (mul : Int → Int → Int) (p : Pl) (l : List Int) : Bool := good p && (decide ((l.length : Int) = p.n) && (l.all has && (runG has mul 0 l p.s).isSome))
def runV (has : Int → Bool) (mul : Int → Int → Int) (p : Pl) (l : List Int) : List Int := if runB has mul p l then outs 0 ((runG has mul 0 l p.s).getD []) p.o else []
theorem run_bad {has : Int → Bool} {mul : Int → Int → Int} {p : Pl} {l : List Int} (h : runB has mul p l = false) : runV has mul p l = [] := by unfold runV; rw [h]; rfl
theorem run_val {has : Int → Bool} {mul : Int → Int → Int} {p : Pl} {l V : List Int} (h : runG has mul 0 l p.s = some V) (hb : runB has mul p l = true) : runV has mul p l = outs 0 V p.o := by
  unfold runV
  rw [if_pos hb, h]
  rfl
/-- Runs on residues. -/
theorem rr_run {p : Pl} {m : Int} {l : List Int} : rrG p m l = runB (inR m) (mulR m.toNat) p l ∧ rrV p m l = runV (inR m) (mulR m.toNat) p l := by
  have key : rrG p m l = runB (inR m) (mulR m.toNat) p l := by
    cases hg : rrG p m l with
    | true =>
      obtain ⟨M, N, V, rfl, hN, n2, n4, k1, k6, s40, o6, hok, hll, hall, hV, _⟩ := rr_good hg
      unfold rrG at hg
      rw [Bool.and_eq_true] at hg
      unfold runB
      rw [hg.1, decide_eq_true (show (l.length : Int) = p.n by omega), List.all_eq_true.2 hall, show (M : Int).toNat = M by omega, hV]
      rfl
    | false =>
      unfold rrG at hg
      unfold runB
      cases h1 : good p with
      | false => rfl
      | true =>
        obtain ⟨N, hN, n1, _⟩ := good_facts h1
        by_cases h2 : (l.length : Int) = p.n
        · rw [all_inR (m := m) (l := l) (by omega)]
          rw [h1, decide_eq_true h2] at hg
          cases h3 : inB m 2 10000 <;> cases h4 : allB l 0 (m - 1) <;> simp_all
        · rw [decide_eq_false h2]; rfl
  refine ⟨key, ?_⟩
  unfold rrV runV
  rw [key]
theorem mulR_any (m : Int) (a b : Int) (w : World) (ha : inR m a = true) (hb : inR m b = true) :
    Calls Try.prog 117 #[.agg #[.int .i64 m], .int .i64 a, .int .i64 b] w fun e w' => e = .returned (.int .i64 (mulR m.toNat a b)) ∧ Below w.heap.size w w' := by
  obtain ⟨h1, h2, h3, h4⟩ := inR_rng ha
  obtain ⟨_, _, h5, h6⟩ := inR_rng hb
  obtain ⟨M, rfl⟩ : ∃ M : Nat, m = M := ⟨m.toNat, by omega⟩
  obtain ⟨x, rfl⟩ : ∃ x : Nat, a = x := ⟨a.toNat, by omega⟩
  obtain ⟨y, rfl⟩ : ∃ y : Nat, b = y := ⟨b.toNat, by omega⟩
  rw [show (M : Int).toNat = M by omega, mulR_nat]
  exact resMul_any M x y w (by omega) (by omega) (by omega) (by omega)
theorem T_lp1 {P : Program} {ops : Array Oper} {Q : Exit → Act → World → Prop} {S : World → Prop} {SL : List Nat} {i : Nat} {t : Tr} {o : Oper} {a : Act} {w : World} {v : Value} (ho : ops[i]? = some o) (hg : o.guard = none)
    (hv : ∀ x, (execOp a.eval o).run P x = .ok (.value v) x) (h : ∀ K : Act → Prop, (∀ a, wpT P ops Q S SL t a w → K a) → K (a.put o.dst v)) : wpT P ops Q S SL (.lp i t) a w :=
  ⟨o, ho, by rw [if_pos (by simp [Region.wanted, hg])]; exact ⟨v, fun x _ => hv x, h _ fun _ h => h⟩⟩
end Go.Proofs.Ytbbfbccemonihab
