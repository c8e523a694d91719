/- RunResidues of the program. -/
import Derived.Test.YtbbfbccemonihaaMom
namespace Go.Proofs.Ytbbfbccemonihaa
open Go.RowKit
set_option maxRecDepth 100000 in
set_option maxHeartbeats 4000000 in
theorem implRunRes_any (B : Nat) (A0 B0 : Option Addr) (c0 d0 : Nat) (p : Pl) (m : Int) (A2 : Option Addr) (c2 : Nat) (l : List Int) (w : World) (hB : B ≤ w.heap.size) (hs : p.s.length ≤ 1048576) (ho : p.o.length ≤ 1048576) (hl : l.length ≤ 1048576) (_hc : l.length ≤ c2)
    (hr : RdP w B A0 B0 p) (hrl : Rd w B 1 A2 l.length (l.map I)) :
    Calls Try.prog 19 #[.agg #[.int .i64 p.n, .slice A0 p.s.length c0, .slice B0 p.o.length d0], .int .i64 m, .slice A2 l.length c2] w fun e w' =>
      ∃ A' c', e = .returned (.tuple #[.slice A' (rrV p m l).length c', .bool (rrG p m l)]) ∧ OwI w' w.heap.size (.slice A' (rrV p m l).length c') (rrV p m l) ∧ Below w.heap.size w w' := by
  have H := Lib.hid hr
  have HL := Lib.hid hrl
  have RU := Lib.hid (fun W hB hr hrl => runR_any B A0 B0 c0 d0 p m A2 c2 l W hB hs ho hl hr hrl)
  rw [← (rr_run (p := p) (m := m) (l := l)).1, ← (rr_run (p := p) (m := m) (l := l)).2] at RU
  obtain ⟨rv, hrv⟩ : ∃ x, rrV p m l = x := ⟨_, rfl⟩
  obtain ⟨rb, hrb⟩ : ∃ x, rrG p m l = x := ⟨_, rfl⟩
  rw [hrv, hrb] at RU
  rw [hrv, hrb]
  clear hr hrl hrv hrb
  go_enter Try.func19, Try.ntmps19
  go_wp2_with fail
  go_at_call 65
  generalize hw1 : World.alloc w _ = w1
  obtain ⟨x0, x1, x2, xs, xb⟩ := box3 hw1
  clear hw1
  refine (RU.out w1 (by omega) (H.out.below' xb hB) (HL.out.below' xb hB)).mono ?_
  rintro e w2 ⟨A', c', rfl, ho2, hb2⟩
  have HB := Lib.hid (xb.trans (hb2.mono (by omega)))
  have O2 := Lib.hid (ho2.base (show w.heap.size ≤ w1.heap.size by omega))
  clear hb2 xb x0 x1 x2 ho2
  go_wp2
  go_ret2
  exact ⟨A', c', rfl, O2.out, HB.out⟩
end Go.Proofs.Ytbbfbccemonihaa
