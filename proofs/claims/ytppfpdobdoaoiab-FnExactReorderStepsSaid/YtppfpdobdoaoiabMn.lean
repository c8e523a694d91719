/- Marks of a plan beside another row. -/
import Derived.Test.YtppfpdobdoaoiabMm
namespace Go.Proofs.Ytppfpdobdoaoiab
open Go.RowKit

theorem own_capB {w : World} {B e sz n c : Nat} {A : Option Addr} {xs : List Value} (h : w.ownsRow B e sz (.slice A n c) n xs) : n ≤ c := by
  obtain ⟨A0, c0, e0, h0⟩ := own_form h
  injection e0 with _ _ e1
  omega
set_option maxRecDepth 100000 in
set_option maxHeartbeats 1000000 in
theorem markPlan3_any (B hi n3 c3 : Nat) (A1 A2 A3 : Option Addr) (c1 c2 : Nat) (p : Pl) (l3 : List Value) (m : Int) (w : World) (h1 : p.s.length ≤ 1048576) (h2 : p.o.length ≤ 1048576) (hm0 : 0 ≤ m) (hm1 : m ≤ 10) (hB : B ≤ w.heap.size) (hhi : hi ≤ w.heap.size) (hown : OwP w B A1 A2 c1 c2 p) (hx : w.ownsRow B 3 1 (.slice A3 n3 c3) n3 l3) (hxne : (Value.slice A3 n3 c3).ownBlock = none ∨ (Value.slice A3 n3 c3).ownBlock ≠ (Value.slice A2 p.o.length c2).ownBlock)
    (hb1 : ∀ k, (Value.slice A1 p.s.length c1).ownBlock = some k → k < hi) (hb2 : ∀ k, (Value.slice A2 p.o.length c2).ownBlock = some k → k < hi) :
    Calls Try.prog 12 #[.agg #[.int .i64 p.n, .slice A1 p.s.length c1, .slice A2 p.o.length c2], .int .i64 m] w fun e w' =>
      e = .returned (.int .i64 (m + 2 * (p.s.length : Int) + (p.o.length : Int))) ∧ OwS w' B (.slice A1 p.s.length c1) (marksS m p.s.length) ∧ OwI w' B (.slice A2 p.o.length c2) (marksI (m + 2 * (p.s.length : Int)) p.o.length) ∧ w'.ownsRow B 3 1 (.slice A3 n3 c3) n3 l3 ∧ Win B hi w w' := by
  have HOWN := Lib.hid hown
  have H1 := Lib.hid hb1
  have H2 := Lib.hid hb2
  have HX := Lib.hid hx
  have HXN := Lib.hid hxne
  clear hown hb1 hb2 hx hxne
  go_enter Try.func12, Try.ntmps12
  go_wp2_with fail
  go_at_call 39
  generalize hw1 : World.alloc w _ = w1
  obtain ⟨x0, x1, x2, xs, xb⟩ := box3 hw1
  clear hw1
  have hown1 := HOWN.out.below xb
  have hx1 := own_below HX.out xb
  refine (markStepS_any B A1 c1 p.s m w1 (by omega) hm0 (by omega) hown1.1).mono ?_
  rintro e w2 ⟨rfl, ho2, hg2⟩
  have hne := own_ne hown1.2 hown1.1 (by decide)
  have ho2i := World.ownsRow.kept hown1.2 hg2 hne
  have HX2 := Lib.hid (World.ownsRow.kept hx1 hg2 (own_ne hx1 hown1.1 (by decide)))
  have hw2 : Win B hi w1 w2 := Win.of_grown hg2 (by omega) (fun k hk => ⟨(own_block hown1.1 k hk).1, H1.out k hk⟩)
  have y2 : w2.cell? ⟨w.heap.size, 2, none⟩ = some (.slice A2 p.o.length c2) := (World.cell?_of_block (hw2.2 w.heap.size (by omega) (by omega))).trans x2
  have HW2 := Lib.hid ((Win.of_below xb hB).trans hw2)
  have HO2 := Lib.hid ho2
  have HI2 := Lib.hid ho2i
  have hs2 : w.heap.size + 1 ≤ w2.heap.size := by have := hg2.size; omega
  clear x0 x1 x2 xs xb hown1 hx1 ho2 hg2 hne ho2i hw2
  go_wp2_with fail
  go_at_call 18
  refine (markIntS_any B A2 c2 p.o (m + 2 * (p.s.length : Int)) w2 (by omega) (by omega) (by omega) HI2.out).mono ?_
  rintro e w3 ⟨rfl, ho3, hg3⟩
  have hne := own_ne HO2.out HI2.out (by decide)
  have ho3s := World.ownsRow.kept HO2.out hg3 hne
  have HX3 := Lib.hid (World.ownsRow.kept HX2.out hg3 HXN.out)
  have hw3 : Win B hi w2 w3 := Win.of_grown hg3 (by omega) (fun k hk => ⟨(own_block HI2.out k hk).1, H2.out k hk⟩)
  have HW3 := Lib.hid (HW2.out.trans hw3)
  have HO3 := Lib.hid ho3
  have HS3 := Lib.hid ho3s
  clear ho3 hg3 hne ho3s hw3
  go_wp2
  go_ret
  exact ⟨rfl, HS3.out, HO3.out, HX3.out, HW3.out⟩

end Go.Proofs.Ytppfpdobdoaoiab
