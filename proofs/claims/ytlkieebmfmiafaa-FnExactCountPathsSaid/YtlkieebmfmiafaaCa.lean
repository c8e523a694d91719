/- Two rows of steps behind each other: the library's slices.Concat. -/
import Derived.Test.YtlkieebmfmiafaaGr
import Derived.Test.YtlkieebmfmiafaaLa
import Derived.Test.YtlkieebmfmiafaaAp
namespace Go.Proofs.Ytlkieebmfmiafaa
open Go.RowKit

def catN (a b k : Nat) : Nat := match k with | 0 => 0 | 1 => a | _ => a + b
def catL (a b : List (Int × Int)) (k : Nat) : List (Int × Int) := match k with | 0 => [] | 1 => a | _ => a ++ b
theorem fl_append (a b : List (Int × Int)) : fl (a ++ b) = fl a ++ fl b := by simp [fl]

set_option maxRecDepth 100000 in
set_option maxHeartbeats 2000000 in
theorem concatS_any (B g : Nat) (A1 A2 : Option Addr) (k1 k2 c : Nat) (s1 s2 : List (Int × Int)) (w : World) (hm1 : s1.length ≤ 10000) (hm2 : s2.length ≤ 10000) (hB : B ≤ w.heap.size)
    (hc1 : w.cell? ⟨g, 0, none⟩ = some (.slice A1 s1.length k1)) (hc2 : w.cell? ⟨g, 1, none⟩ = some (.slice A2 s2.length k2)) (hg : g < w.heap.size) (hr1 : Rd w B 2 A1 s1.length (fl s1)) (hr2 : Rd w B 2 A2 s2.length (fl s2)) :
    Calls Try.prog 126 #[.slice (some ⟨g, 0, none⟩) 2 c] w fun e w' => ∃ A' c', e = .returned (.slice A' (s1.length + s2.length) c') ∧ OwS w' w.heap.size (.slice A' (s1.length + s2.length) c') (s1 ++ s2) ∧ Below w.heap.size w w' := by
  have H1 := Lib.hid hr1
  have H2 := Lib.hid hr2
  clear hr1 hr2
  obtain ⟨a, ha⟩ : ∃ a, s1.length = a := ⟨_, rfl⟩
  obtain ⟨b, hb⟩ : ∃ b, s2.length = b := ⟨_, rfl⟩
  rw [ha] at hc1 hm1
  rw [hb] at hc2 hm2
  have HA := Lib.hid ha
  have HBL := Lib.hid hb
  rw [ha, hb]
  clear ha hb
  go_enter Try.func126, Try.ntmps126
  go_wp2
  go_loopw [3, 11] (fun s i wr => ∃ k : Nat, k ≤ 2 ∧ i = .int .i64 k ∧ s = .int .i64 ((catN a b k : Nat) : Int) ∧ w = wr) (fun _ i _ => 2 - (intOf i).toNat)
  case atStart => exact ⟨0, by omega, rfl, rfl, rfl⟩
  case round =>
    obtain ⟨k, hk, rfl, rfl, rfl⟩ := hrel
    obtain rfl | rfl | rfl : k = 0 ∨ k = 1 ∨ k = 2 := by omega
    · simp only [catN]
      go_wp2
      go_roundw
      case rel => exact ⟨1, by omega, by go_num, by first | rfl | (simp only [catN]; go_num), trivial⟩
      case measure => simp [intOf]
    · simp only [catN]
      go_wp2
      go_roundw
      case rel => exact ⟨2, by omega, by go_num, by first | rfl | (simp only [catN]; go_num), trivial⟩
      case measure => simp [intOf]
    · simp only [catN]
      go_wp2_with fail
      go_at_call 137
      refine (growS_any (a + b) w (by omega)).mono ?_
      rintro e w2 ⟨A0, c0, rfl, hown0, hb0⟩
      have OWN0 := Lib.hid hown0
      have HB0 := Lib.hid hb0
      clear hown0 hb0
      go_wp2
      go_loopw [6, 27] (fun v i wr => ∃ (k : Nat) (A : Option Addr) (q : Nat), k ≤ 2 ∧ i = .int .i64 k ∧ v = .slice A (catN a b k) q ∧ wr.ownsRow w.heap.size 94 2 (.slice A (catN a b k) q) (catN a b k) (fl (catL s1 s2 k)) ∧ Below w.heap.size w wr) (fun _ i _ => 2 - (intOf i).toNat)
      case atStart => exact ⟨0, A0, c0, by omega, rfl, rfl, OWN0.out, HB0.out⟩
      case round =>
        obtain ⟨k, A, q, hk, rfl, rfl, hown, hbel⟩ := hrel
        have e1 := (hbel.cell (p := ⟨g, 0, none⟩) hg).trans hc1
        have e2 := (hbel.cell (p := ⟨g, 1, none⟩) hg).trans hc2
        have OWN := Lib.hid hown
        have BEL := Lib.hid hbel
        clear hown hbel
        obtain rfl | rfl | rfl : k = 0 ∨ k = 1 ∨ k = 2 := by omega
        · simp only [catN]
          go_wp2_with (first
            | (at_builtin; refine list_step (fun K hK => ?_); refine step_appM Try.underlying29 info_step rfl (by omega) (by omega) rfl (.tmp 31) (.tmp 32) rfl w.heap.size 0 _ _ rfl OWN.out _ a k1 (fl s1) rfl (by have := H1.out.below (BEL.out.mono hB); rw [HA.out] at this; exact this) (fl_one s1) (by omega) BEL.out.size ?_; intro A2' c2' w2' hown2 hg2 hbel2; go_simp; refine hK _ _ ?_; clear hK K))
          go_roundw
          case rel =>
            have hown3 : w2'.ownsRow w.heap.size 94 2 (.slice A2' a c2') a (fl s1) := by
              have h := hown2
              rw [Nat.zero_add] at h
              exact h
            exact ⟨1, A2', c2', by omega, by go_num, by first | rfl | simp [catN], hown3, BEL.out.trans hbel2⟩
          case measure => simp [intOf]
        · simp only [catN]
          go_wp2_with (first
            | (at_builtin; refine list_step (fun K hK => ?_); refine step_appM Try.underlying29 info_step rfl (by omega) (by omega) rfl (.tmp 31) (.tmp 32) rfl w.heap.size a _ _ rfl OWN.out _ b k2 (fl s2) rfl (by have := H2.out.below (BEL.out.mono hB); rw [HBL.out] at this; exact this) (fl_one s2) (by omega) BEL.out.size ?_; intro A2' c2' w2' hown2 hg2 hbel2; go_simp; refine hK _ _ ?_; clear hK K))
          go_roundw
          case rel =>
            have hown3 : w2'.ownsRow w.heap.size 94 2 (.slice A2' (a + b) c2') (a + b) (fl (s1 ++ s2)) := by
              rw [fl_append]
              exact hown2
            exact ⟨2, A2', c2', by omega, by go_num, by first | rfl | simp [catN], hown3, BEL.out.trans hbel2⟩
          case measure => simp [intOf]
        · simp only [catN]
          go_wp2
          go_ret
          refine ⟨A, q, rfl, ?_, BEL.out⟩
          have h := OWN.out
          show World.ownsRow _ _ _ _ _ _ _
          rw [List.length_append, HA.out, HBL.out]
          exact h
end Go.Proofs.Ytlkieebmfmiafaa
