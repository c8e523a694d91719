/- What both sides answer to IsPlan. -/
import Derived.Test.YtpopomcaknbhnaaMa
import Derived.Test.YtpopomcaknbhnaaLb
namespace Go.Proofs.Ytpopomcaknbhnaa
open Go.RowKit

set_option maxHeartbeats 400000 in
theorem implIsPlan_any (B : Nat) (A1 A2 : Option Addr) (c1 c2 : Nat) (p : Pl) (w : World) (hB : B ≤ w.heap.size) (hls : p.s.length ≤ 2000000) (hlo : p.o.length ≤ 2000000) (hr : RdP w B A1 A2 p) :
    Calls Try.prog 101 #[.agg #[.int .i64 p.n, .slice A1 p.s.length c1, .slice A2 p.o.length c2]] w fun e w' => e = .returned (.bool (good p)) ∧ Below w.heap.size w w' := by
  have H := Lib.hid hr
  clear hr
  go_enter Try.func101, Try.ntmps101
  go_wp2_with fail
  go_at_call 134
  refine (withValues_any B A1 A2 c1 c2 p _ (by simp; omega) hls hlo (H.out.alloc hB _)).mono ?_
  rintro e w2 ⟨hb2, hpost⟩
  have hb := ((Below.refl w.heap.size w).alloc (Nat.le_refl _) (Obj.cells #[.int .i64 p.n, .slice A1 p.s.length c1, .slice A2 p.o.length c2] 63)).trans (hb2.mono (by simp))
  have HB := Lib.hid hb
  clear hb hb2
  rw [valsI_eq] at hpost
  by_cases hg : good p = true
  · rw [if_pos hg] at hpost
    simp only at hpost
    obtain ⟨A, c, rfl, _⟩ := hpost
    have HG := Lib.hid hg
    clear hg
    go_wp2
    go_ret
    exact ⟨ret_bool HG.out.symm, HB.out.alloc (by have := HB.out.size; omega) _⟩
  · rw [if_neg hg] at hpost
    simp only at hpost
    subst hpost
    have hg' : good p = false := by simpa using hg
    have HG := Lib.hid hg'
    clear hg hg'
    go_wp2
    go_ret
    exact ⟨ret_bool HG.out.symm, HB.out.alloc (by have := HB.out.size; omega) _⟩

theorem eqP_refl (p : Pl) : eqP p p = true := by simp [eqP]

end Go.Proofs.Ytpopomcaknbhnaa
