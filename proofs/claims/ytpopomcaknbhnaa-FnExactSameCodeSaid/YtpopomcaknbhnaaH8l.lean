/- SameCode of both sides. -/
import Derived.Test.YtpopomcaknbhnaaH8k
import Derived.Test.YtpopomcaknbhnaaPq8
namespace Go.Proofs.Ytpopomcaknbhnaa
open Go.RowKit
def scB (p q : Cd) : Bool := cdB p && cdB q
def scV (p q : Cd) : Bool := scB p q && eqI (cdP p) (cdP q)

set_option maxRecDepth 100000 in
set_option maxHeartbeats 4000000 in
theorem specSame8_any (B : Nat) (A : Option Addr) (c : Nat) (p : Cd) (A' : Option Addr) (c' : Nat) (q : Cd) (w : World) (hB : B ≤ w.heap.size) (hl : p.ops.length ≤ 1048576) (hl' : q.ops.length ≤ 1048576) (hc : p.ops.length ≤ c) (hc' : q.ops.length ≤ c') (hr : RdD w B A p) (hr' : RdD w B A' q) :
    Calls Try.prog 62 #[.agg #[.slice A p.ops.length c, .int .i64 p.out], .agg #[.slice A' q.ops.length c', .int .i64 q.out]] w fun e w' => e = .returned (.tuple #[.bool (scV p q), .bool (scB p q)]) ∧ Below w.heap.size w w' := by
  have P1 := Lib.hid (fun (W : World) (hb : Below w.heap.size w W) => specPolyOf_any B A c p W (by have := hb.size; omega) hl hc (hr.below' hb hB))
  have P2 := Lib.hid (fun (W : World) (hb : Below w.heap.size w W) => specPolyOf_any B A' c' q W (by have := hb.size; omega) hl' hc' (hr'.below' hb hB))
  have L1 := Lib.hid (cdP_le p)
  have L2 := Lib.hid (cdP_le q)
  have E := Lib.hid (show scB p q = (cdB p && cdB q) ∧ scV p q = (cdB p && cdB q && eqI (cdP p) (cdP q)) from ⟨rfl, rfl⟩)
  obtain ⟨sb, hsb⟩ : ∃ x, scB p q = x := ⟨_, rfl⟩
  obtain ⟨sv, hsv⟩ : ∃ x, scV p q = x := ⟨_, rfl⟩
  obtain ⟨g1, h1⟩ : ∃ x, cdB p = x := ⟨_, rfl⟩
  obtain ⟨g2, h2⟩ : ∃ x, cdB q = x := ⟨_, rfl⟩
  obtain ⟨f1, h3⟩ : ∃ x, cdP p = x := ⟨_, rfl⟩
  obtain ⟨f2, h4⟩ : ∃ x, cdP q = x := ⟨_, rfl⟩
  rw [h1, h3] at P1
  rw [h2, h4] at P2
  rw [h3] at L1
  rw [h4] at L2
  rw [hsb, hsv, h1, h2, h3, h4] at E
  rw [hsb, hsv]
  obtain ⟨t, ht⟩ : ∃ t, eqI f1 f2 = t := ⟨_, rfl⟩
  rw [ht] at E
  have HT := Lib.hid ht
  clear hr hr' h1 h2 h3 h4 hsb hsv ht
  go_enter Try.func62, Try.ntmps62
  go_wp2_with fail
  go_at_call 26
  generalize hw1 : World.alloc w _ = w1
  obtain ⟨⟨x0, x1⟩, xs, xb⟩ := bx2c hw1
  clear hw1
  generalize hw2 : World.alloc w1 _ = w2
  obtain ⟨⟨y0, y1⟩, ys, yb⟩ := bx2c hw2
  clear hw2
  rw [xs] at y0 y1
  have hb2 : Below w.heap.size w w2 := xb.trans (yb.mono (by omega))
  refine (P1.out _ hb2).mono ?_
  rintro e w3 ⟨A3, c3, rfl, ho3, hb3⟩
  have z0 := (hb3.cell (p := ⟨w.heap.size + 1, 0, none⟩) (by simp only []; omega)).trans y0
  have z1 := (hb3.cell (p := ⟨w.heap.size + 1, 1, none⟩) (by simp only []; omega)).trans y1
  have HB3 := Lib.hid (hb2.trans (hb3.mono (by omega)))
  have O3 := Lib.hid ho3
  have hs3 : w.heap.size ≤ w3.heap.size := HB3.out.size
  clear x0 x1 y0 y1 xs ys xb yb hb2 hb3 ho3
  go_wp2_with fail
  go_at_call 26
  refine (P2.out _ HB3.out).mono ?_
  rintro e w4 ⟨A4, c4, rfl, ho4, hb4⟩
  have O34 := Lib.hid (O3.out.below hb4)
  have HB4 := Lib.hid (HB3.out.trans (hb4.mono hs3))
  have O4 := Lib.hid ho4
  clear z0 z1 hb4 ho4
  cases g1 with
  | false =>
    have e1 := E.out.1
    have e2 := E.out.2
    simp only [Bool.false_and] at e1 e2
    subst e1
    subst e2
    go_wp2
    go_ret2
    exact ⟨rfl, HB4.out⟩
  | true =>
    cases g2 with
    | false =>
      have e1 := E.out.1
      have e2 := E.out.2
      simp only [Bool.false_and, Bool.and_false] at e1 e2
      subst e1
      subst e2
      go_wp2
      go_ret2
      exact ⟨rfl, HB4.out⟩
    | true =>
      have e1 := E.out.1
      have e2 := E.out.2
      simp only [Bool.true_and] at e1 e2
      subst e1
      subst e2
      have SE := l1Same_any w4.heap.size A3 A4 c3 c4 f1 f2 w4 (by have := L1.out; omega) (by have := L2.out; omega) O34.out.rd O4.out.rd
      rw [HT.out] at SE
      have SE := Lib.hid SE
      go_wp2_with (go_at_call 108; refine SE.out.mono ?_; rintro e w5 ⟨rfl, hd⟩)
      go_ret2
      exact ⟨rfl, HB4.out.trans (hd.below _)⟩

set_option maxRecDepth 100000 in
set_option maxHeartbeats 4000000 in
theorem implSame8_any (B : Nat) (A : Option Addr) (c : Nat) (p : Cd) (A' : Option Addr) (c' : Nat) (q : Cd) (w : World) (hB : B ≤ w.heap.size) (hl : p.ops.length ≤ 1048576) (hl' : q.ops.length ≤ 1048576) (hc : p.ops.length ≤ c) (hc' : q.ops.length ≤ c') (hr : RdD w B A p) (hr' : RdD w B A' q) :
    Calls Try.prog 63 #[.agg #[.slice A p.ops.length c, .int .i64 p.out], .agg #[.slice A' q.ops.length c', .int .i64 q.out]] w fun e w' => e = .returned (.tuple #[.bool (scV p q), .bool (scB p q)]) ∧ Below w.heap.size w w' := by
  have P1 := Lib.hid (fun (W : World) (hb : Below w.heap.size w W) => implPolyOf_any B A c p W (by have := hb.size; omega) hl hc (hr.below' hb hB))
  have P2 := Lib.hid (fun (W : World) (hb : Below w.heap.size w W) => implPolyOf_any B A' c' q W (by have := hb.size; omega) hl' hc' (hr'.below' hb hB))
  have L1 := Lib.hid (cdP_le p)
  have L2 := Lib.hid (cdP_le q)
  have E := Lib.hid (show scB p q = (cdB p && cdB q) ∧ scV p q = (cdB p && cdB q && eqI (cdP p) (cdP q)) from ⟨rfl, rfl⟩)
  obtain ⟨sb, hsb⟩ : ∃ x, scB p q = x := ⟨_, rfl⟩
  obtain ⟨sv, hsv⟩ : ∃ x, scV p q = x := ⟨_, rfl⟩
  obtain ⟨g1, h1⟩ : ∃ x, cdB p = x := ⟨_, rfl⟩
  obtain ⟨g2, h2⟩ : ∃ x, cdB q = x := ⟨_, rfl⟩
  obtain ⟨f1, h3⟩ : ∃ x, cdP p = x := ⟨_, rfl⟩
  obtain ⟨f2, h4⟩ : ∃ x, cdP q = x := ⟨_, rfl⟩
  rw [h1, h3] at P1
  rw [h2, h4] at P2
  rw [h3] at L1
  rw [h4] at L2
  rw [hsb, hsv, h1, h2, h3, h4] at E
  rw [hsb, hsv]
  obtain ⟨t, ht⟩ : ∃ t, eqI f1 f2 = t := ⟨_, rfl⟩
  rw [ht] at E
  have HT := Lib.hid ht
  clear hr hr' h1 h2 h3 h4 hsb hsv ht
  go_enter Try.func63, Try.ntmps63
  go_wp2_with fail
  go_at_call 27
  generalize hw1 : World.alloc w _ = w1
  obtain ⟨⟨x0, x1⟩, xs, xb⟩ := bx2c hw1
  clear hw1
  generalize hw2 : World.alloc w1 _ = w2
  obtain ⟨⟨y0, y1⟩, ys, yb⟩ := bx2c hw2
  clear hw2
  rw [xs] at y0 y1
  have hb2 : Below w.heap.size w w2 := xb.trans (yb.mono (by omega))
  refine (P1.out _ hb2).mono ?_
  rintro e w3 ⟨A3, c3, rfl, ho3, hb3⟩
  have z0 := (hb3.cell (p := ⟨w.heap.size + 1, 0, none⟩) (by simp only []; omega)).trans y0
  have z1 := (hb3.cell (p := ⟨w.heap.size + 1, 1, none⟩) (by simp only []; omega)).trans y1
  have HB3 := Lib.hid (hb2.trans (hb3.mono (by omega)))
  have O3 := Lib.hid ho3
  have hs3 : w.heap.size ≤ w3.heap.size := HB3.out.size
  clear x0 x1 y0 y1 xs ys xb yb hb2 hb3 ho3
  go_wp2_with fail
  go_at_call 27
  refine (P2.out _ HB3.out).mono ?_
  rintro e w4 ⟨A4, c4, rfl, ho4, hb4⟩
  have O34 := Lib.hid (O3.out.below hb4)
  have HB4 := Lib.hid (HB3.out.trans (hb4.mono hs3))
  have O4 := Lib.hid ho4
  clear z0 z1 hb4 ho4
  cases g1 with
  | false =>
    have e1 := E.out.1
    have e2 := E.out.2
    simp only [Bool.false_and] at e1 e2
    subst e1
    subst e2
    go_wp2
    go_ret2
    exact ⟨rfl, HB4.out⟩
  | true =>
    cases g2 with
    | false =>
      have e1 := E.out.1
      have e2 := E.out.2
      simp only [Bool.false_and, Bool.and_false] at e1 e2
      subst e1
      subst e2
      go_wp2
      go_ret2
      exact ⟨rfl, HB4.out⟩
    | true =>
      have e1 := E.out.1
      have e2 := E.out.2
      simp only [Bool.true_and] at e1 e2
      subst e1
      subst e2
      have SE := sliceEqual_any w4.heap.size A3 A4 c3 c4 f1 f2 w4 (by have := L1.out; omega) (by have := L2.out; omega) O34.out.rd O4.out.rd
      rw [HT.out] at SE
      have SE := Lib.hid SE
      go_wp2_with (go_at_call 109; refine SE.out.mono ?_; rintro e w5 ⟨rfl, hd⟩)
      go_ret2
      exact ⟨rfl, HB4.out.trans (hd.below _)⟩
end Go.Proofs.Ytpopomcaknbhnaa
