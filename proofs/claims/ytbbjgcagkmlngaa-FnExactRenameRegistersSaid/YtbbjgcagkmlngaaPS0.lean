/- Joined: Rpf. -/
import Derived.Test.YtbbjgcagkmlngaaPR3
import Derived.Test.YtbbjgcagkmlngaaPR1
/- Whether it is code, by the program; runs and checks of code. -/
namespace Go.Proofs.Ytbbjgcagkmlngaa
open Go.RowKit

theorem bx3r {w w1 : World} {a b c : Value} {t : TypeId} (h : w.alloc (.cells #[a, b, c] t) = w1) :
    (w1.cell? ⟨w.heap.size, 0, none⟩ = some a ∧ w1.cell? ⟨w.heap.size, 1, none⟩ = some b ∧ w1.cell? ⟨w.heap.size, 2, none⟩ = some c) ∧ w1.heap.size = w.heap.size + 1 ∧ Below w.heap.size w w1 := box3' h

set_option maxRecDepth 100000 in
set_option maxHeartbeats 2000000 in
theorem implIsRc_any (B : Nat) (A1 A2 A3 : Option Addr) (c1 c2 c3 : Nat) (c : Rc) (w : World) (hB : B ≤ w.heap.size) (hl1 : c.i.length ≤ 1048576) (hl2 : c.ops.length ≤ 1048576) (hl3 : c.o.length ≤ 1048576) (hcap : c.i.length ≤ c1 ∧ c.ops.length ≤ c2 ∧ c.o.length ≤ c3) (hr : RdC w B A1 A2 A3 c) :
    Calls Try.prog 18 #[.agg #[.int .i64 c.r, .slice A1 c.i.length c1, .slice A2 c.ops.length c2, .slice A3 c.o.length c3]] w fun e w' => e = .returned (.bool (rcB c)) ∧ Below w.heap.size w w' := by
  have H := Lib.hid hr
  have RP := Lib.hid (fun W hW hrW => implRcPlan_any B A1 A2 A3 c1 c2 c3 c W hW hl1 hl2 hl3 hcap hrW)
  clear hr hcap
  go_enter Try.func18, Try.ntmps18
  go_wp2_with fail
  go_at_call 21
  generalize hw1 : World.alloc w _ = w1
  obtain ⟨_, xs, xb⟩ := bx4r hw1
  clear hw1
  refine (RP.out w1 (by omega) (H.out.below' xb hB)).mono ?_
  rintro e w2 ⟨E1, E2, e1, e2, rfl, hV, hb⟩
  have HB := Lib.hid (xb.trans (hb.mono (by omega)))
  clear hV hb xb
  go_wp2
  go_ret
  exact ⟨rfl, HB.out.alloc HB.out.size _⟩
end Go.Proofs.Ytbbjgcagkmlngaa
