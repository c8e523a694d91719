/- Marks of a plan behind other marks. -/
import Derived.Test.YteldndbfopdehabMm
import Derived.Test.YteldndbfopdehabCj
namespace Go.Proofs.Yteldndbfopdehab
open Go.RowKit

set_option maxRecDepth 100000 in
set_option maxHeartbeats 1000000 in
theorem markPlanM_any (B hi : Nat) (A1 A2 : Option Addr) (c1 c2 : Nat) (p : Pl) (m : Int) (w : World) (h1 : p.s.length ≤ 1048576) (h2 : p.o.length ≤ 1048576) (hm0 : 0 ≤ m) (hm1 : m ≤ 10000000) (hB : B ≤ w.heap.size) (hhi : hi ≤ w.heap.size) (hown : OwP w B A1 A2 c1 c2 p)
    (hb1 : ∀ k, (Value.slice A1 p.s.length c1).ownBlock = some k → k < hi) (hb2 : ∀ k, (Value.slice A2 p.o.length c2).ownBlock = some k → k < hi) :
    Calls Try.prog 21 #[.agg #[.int .i64 p.n, .slice A1 p.s.length c1, .slice A2 p.o.length c2], .int .i64 m] w fun e w' =>
      e = .returned (.int .i64 (m + 2 * (p.s.length : Int) + (p.o.length : Int))) ∧ OwS w' B (.slice A1 p.s.length c1) (marksS m p.s.length) ∧ OwI w' B (.slice A2 p.o.length c2) (marksI (m + 2 * (p.s.length : Int)) p.o.length) ∧ Win B hi w w' := by
  have HOWN := Lib.hid hown
  have H1 := Lib.hid hb1
  have H2 := Lib.hid hb2
  clear hown hb1 hb2
  go_enter Try.func21, Try.ntmps21
  go_wp2_with fail
  go_at_call 49
  generalize hw1 : World.alloc w _ = w1
  obtain ⟨x0, x1, x2, xs, xb⟩ := box3 hw1
  clear hw1
  have hown1 := HOWN.out.below xb
  refine (markStepS_any B A1 c1 p.s m w1 (by omega) hm0 (by omega) hown1.1).mono ?_
  rintro e w2 ⟨rfl, ho2, hg2⟩
  have hne := own_ne hown1.2 hown1.1 (by decide)
  have ho2i := World.ownsRow.kept hown1.2 hg2 hne
  have hw2 : Win B hi w1 w2 := Win.of_grown hg2 (by omega) (fun k hk => ⟨(own_block hown1.1 k hk).1, H1.out k hk⟩)
  have y2 : w2.cell? ⟨w.heap.size, 2, none⟩ = some (.slice A2 p.o.length c2) := (World.cell?_of_block (hw2.2 w.heap.size (by omega) (by omega))).trans x2
  have HW2 := Lib.hid ((Win.of_below xb hB).trans hw2)
  have HO2 := Lib.hid ho2
  have HI2 := Lib.hid ho2i
  have hs2 : w.heap.size + 1 ≤ w2.heap.size := by have := hg2.size; omega
  clear x0 x1 x2 xs xb hown1 ho2 hg2 hne ho2i hw2
  go_wp2_with fail
  go_at_call 14
  refine (markIntS_any B A2 c2 p.o (m + 2 * (p.s.length : Int)) w2 (by omega) (by omega) (by omega) HI2.out).mono ?_
  rintro e w3 ⟨rfl, ho3, hg3⟩
  have hne := own_ne HO2.out HI2.out (by decide)
  have ho3s := World.ownsRow.kept HO2.out hg3 hne
  have hw3 : Win B hi w2 w3 := Win.of_grown hg3 (by omega) (fun k hk => ⟨(own_block HI2.out k hk).1, H2.out k hk⟩)
  have HW3 := Lib.hid (HW2.out.trans hw3)
  have HO3 := Lib.hid ho3
  have HS3 := Lib.hid ho3s
  clear ho3 hg3 hne ho3s hw3
  go_wp2
  go_ret
  exact ⟨rfl, HS3.out, HO3.out, HW3.out⟩

theorem compR_len (p q : Pl) : (compR p q).s.length ≤ 1000 ∧ (compR p q).o.length ≤ 1000 := by
  cases h : compB p q with
  | false => rw [compR_false h]; simp [zeroP]
  | true =>
    rw [compR_true h]
    unfold compB at h
    simp only [Bool.and_eq_true] at h
    obtain ⟨_, _, _, _, h40, ho6, _⟩ := good_facts h.2
    omega
theorem joinR_len (p q : Pl) : (joinR p q).s.length ≤ 1000 ∧ (joinR p q).o.length ≤ 1000 := by
  cases h : joinB p q with
  | false => rw [joinR_false h]; simp [zeroP]
  | true =>
    rw [joinR_true h]
    unfold joinB at h
    simp only [Bool.and_eq_true] at h
    obtain ⟨_, _, _, _, h40, ho6, _⟩ := good_facts h.2
    omega
end Go.Proofs.Yteldndbfopdehab
