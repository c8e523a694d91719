/- Plans behind each other as data; what both sides answer for a plan or none. -/
import Derived.Test.YteldndbfopdehabCd
import Derived.Test.YteldndbfopdehabPa
import Derived.Test.YteldndbfopdehabEa
namespace Go.Proofs.Yteldndbfopdehab
open Go.RowKit

set_option maxRecDepth 100000 in
set_option maxHeartbeats 1000000 in
theorem planOrNone_any (B : Nat) (A1 A2 : Option Addr) (c1 c2 : Nat) (p : Pl) (w : World) (hB : B ≤ w.heap.size) (hls : p.s.length ≤ 2000000) (hlo : p.o.length ≤ 2000000) (hr : RdP w B A1 A2 p) :
    Calls Try.prog 66 #[.agg #[.int .i64 p.n, .slice A1 p.s.length c1, .slice A2 p.o.length c2]] w fun e w' =>
      e = .returned (.tuple #[selV (good p) (.agg #[.int .i64 p.n, .slice A1 p.s.length c1, .slice A2 p.o.length c2]) (.agg #[.int .i64 0, .slice none 0 0, .slice none 0 0]), .bool (good p)]) ∧ Below w.heap.size w w' := by
  have H := Lib.hid hr
  clear hr
  obtain ⟨gd, hgd⟩ : ∃ x, good p = x := ⟨_, rfl⟩
  have HG := Lib.hid hgd
  go_enter Try.func66, Try.ntmps66
  go_wp2_with fail
  go_at_call 64
  generalize hw1 : World.alloc (World.alloc w _) _ = w1
  obtain ⟨q0, q1, xs, xb⟩ := boxes2b hw1
  clear hw1
  have hC := implIsPlan_any w.heap.size A1 A2 c1 c2 p w1 (by omega) hls hlo ((H.out.below' xb hB).more hB)
  rw [hgd] at hC
  refine hC.mono ?_
  rintro e w2 ⟨rfl, hb2⟩
  clear hC hgd
  obtain ⟨y0, y1, y2, _, _, _⟩ := cells3b ((hb2.block w.heap.size (by omega)).trans q0)
  obtain ⟨t0, t1, t2, g0, g1, g2⟩ := cells3b ((hb2.block (w.heap.size + 1) (by omega)).trans q1)
  have HB2 := Lib.hid (xb.trans (hb2.mono (show w.heap.size ≤ w1.heap.size by omega)))
  clear q0 q1 xs xb hb2
  cases gd with
  | false =>
    go_wp2
    refine bodyPost_ret (v := .tuple #[.agg #[.int .i64 0, .slice none 0 0, .slice none 0 0], .bool false]) (by simp [results, Try.results66, go_sem, t0, t1, t2]) rfl ⟨by rw [HG.out]; rfl, ?_⟩
    exact ((HB2.out.setCell (by simp) _).setCell (by simp) _).setCell (by simp) _
  | true =>
    go_wp2
    refine bodyPost_ret (v := .tuple #[.agg #[.int .i64 p.n, .slice A1 p.s.length c1, .slice A2 p.o.length c2], .bool true]) (by simp [results, Try.results66, go_sem, t0, t1, t2]) rfl ⟨by rw [HG.out]; rfl, ?_⟩
    exact ((HB2.out.setCell (by simp) _).setCell (by simp) _).setCell (by simp) _
def compNm (p q : Pl) : List Int := p.o ++ tailN (p.n + p.s.length) q.s.length
def compD (p q : Pl) : Pl := ⟨p.n, p.s ++ q.s.map (stN (compNm p q)), q.o.map fun x => (compNm p q).getD x.toNat 0⟩
def compB (p q : Pl) : Bool := (good p && (good q && decide ((p.o.length : Int) = q.n))) && good (compD p q)
def compR (p q : Pl) : Pl := if compB p q then compD p q else zeroP
theorem compR_true {p q : Pl} (h : compB p q = true) : compR p q = compD p q := by unfold compR; rw [if_pos h]
theorem compR_false {p q : Pl} (h : compB p q = false) : compR p q = zeroP := by unfold compR; rw [if_neg (by rw [h]; decide)]
theorem compD_s (p q : Pl) : (compD p q).s.length = p.s.length + q.s.length := by simp [compD]
theorem compD_o (p q : Pl) : (compD p q).o.length = q.o.length := by simp [compD]
theorem boxesPQZ {w w2 : World} {a b c a' b' c' : Value} {t t' : TypeId} (h : ((w.alloc (.cells #[a, b, c] t)).alloc (.cells #[a', b', c'] t')).alloc (.cells #[.int .i64 0, .slice none 0 0, .slice none 0 0] 35) = w2) :
    w2.heap[w.heap.size]? = some (.cells #[a, b, c] t (0, 0)) ∧ w2.heap[w.heap.size + 1]? = some (.cells #[a', b', c'] t' (0, 0)) ∧ w2.heap[w.heap.size + 2]? = some (.cells #[.int .i64 0, .slice none 0 0, .slice none 0 0] 35 (0, 0)) ∧ w2.heap.size = w.heap.size + 3 ∧ Below w.heap.size w w2 := by
  subst h
  refine ⟨?_, ?_, ?_, by simp, (((Below.refl _ _).alloc (Nat.le_refl _) _).alloc (by simp) _).alloc (by simp; omega) _⟩
  · rw [Below.heap_alloc _ _ _ (by simp; omega), Below.heap_alloc _ _ _ (by simp)]; exact heap_alloc_new w _
  · rw [Below.heap_alloc _ _ _ (by simp)]
    have := heap_alloc_new (w.alloc (.cells #[a, b, c] t)) (.cells #[a', b', c'] t')
    simpa using this
  · have := heap_alloc_new ((w.alloc (.cells #[a, b, c] t)).alloc (.cells #[a', b', c'] t')) (.cells #[.int .i64 0, .slice none 0 0, .slice none 0 0] 35)
    simpa using this
end Go.Proofs.Yteldndbfopdehab
