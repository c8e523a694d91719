/- The steps of a chain, by the model. -/
import Derived.Test.YtbbjgcagkmlngacQc
namespace Go.Proofs.Ytbbjgcagkmlngac
open Go.RowKit

/-- The last element of an own row of steps. -/
theorem OwS.last {w : World} {B : Nat} {A : Option Addr} {c q : Nat} {P : List (Int × Int)} (h : OwS w B (.slice A (q + 1) c) P) (hq : P.length = q + 1) :
    ∃ g x y, A = some ⟨g, 0, none⟩ ∧ B ≤ g ∧ g < w.heap.size ∧ w.cell? ⟨g, q * 2, none⟩ = some (.int .i64 x) ∧ w.cell? ⟨g, q * 2 + 1, none⟩ = some (.int .i64 y) ∧ P.getLastD (0, 0) = (x, y) := by
  unfold OwS at h
  rw [hq] at h
  obtain ⟨g, rfl, hB, hg, hc, _⟩ := own_at h (by omega)
  have hlt : q < P.length := by omega
  obtain ⟨f1, f2⟩ := fl_at hlt
  refine ⟨g, P[q].1, P[q].2, rfl, hB, hg, by rw [hc _ (by omega), f1], by rw [hc _ (by omega), f2], ?_⟩
  have hne : P ≠ [] := by intro h; rw [h] at hq; simp at hq
  rw [last_form hne]
  simp [hq]

set_option maxRecDepth 100000 in
set_option maxHeartbeats 2000000 in
theorem chSteps_any (B : Nat) (A : Option Addr) (c : Nat) (l : List Int) (w : World) (hg : chG l = true) (hB : B ≤ w.heap.size) (hr : Rd w B 1 A l.length (l.map I)) :
    Calls Try.prog 50 #[.slice A l.length c] w fun e w' =>
      ∃ A' c', e = .returned (.slice A' (stepsK l l.length).length c') ∧ OwS w' w.heap.size (.slice A' (stepsK l l.length).length c') (stepsK l l.length) ∧ Below w.heap.size w w' := by
  have H := Lib.hid hr
  have CH := Lib.hid (chG_chn hg)
  have SU := Lib.hid (chG_sums hg)
  have hl1 := CH.out.pos
  have hl2 := CH.out.most
  clear hr hg
  go_enter Try.func50, Try.ntmps50
  go_wp2
  go_loopw [3, 4] (fun ov iv wr => ∃ (k n : Nat) (A1 : Option Addr) (c1 : Nat), 1 ≤ k ∧ k ≤ l.length ∧ iv = .int .i64 k ∧ ov = .slice A1 n c1 ∧ n = k - 1 ∧ wr.ownsRow w.heap.size 51 2 (.slice A1 n c1) n (fl (stepsK l k)) ∧ Below w.heap.size w wr) (fun _ i _ => l.length - (intOf i).toNat)
  case atStart => exact ⟨1, 0, none, 0, by omega, by omega, rfl, rfl, rfl, World.ownsRow_nil _ _ _ _, Below.refl _ _⟩
  case round =>
    obtain ⟨k, n, A1, c1, hk1, hk, rfl, rfl, hn, hown, hbel⟩ := hrel
    have OWN := Lib.hid hown
    have BEL := Lib.hid hbel
    have hs : w.heap.size ≤ wr.heap.size := hbel.size
    clear hown hbel
    by_cases hlt : k < l.length
    · have ik : (k : Int) < (l.length : Int) := by omega
      have hP := chPairs_any B A c k l wr hl2 hlt CH.out.rng CH.out.asc (by omega) (H.out.below' BEL.out hB)
      have hne := SU.out k hk1 hlt
      have hle := prs_le CH.out.asc k k (by omega)
      have SUC := Lib.hid (stepsK_succ l k hk1)
      obtain ⟨P, hP'⟩ : ∃ P, prs l k k = P := ⟨_, rfl⟩
      rw [hP'] at hP hne hle SUC
      have hpos := List.length_pos_iff.2 hne
      obtain ⟨q, hq⟩ : ∃ q, P.length = q + 1 := ⟨P.length - 1, by omega⟩
      have hqb : q ≤ 41 := by omega
      rw [hq] at hP
      have HP := Lib.hid hP
      have HQ := Lib.hid hq
      have HN := Lib.hid hn
      clear hP hne hP' hpos hq hn
      go_wp2_with fail
      go_at_call 55
      refine HP.out.mono ?_
      rintro e w2 ⟨A', c', rfl, hown2, hb2⟩
      obtain ⟨g, x, y, rfl, hgB, hgs, cx, cy, hlast⟩ := OwS.last hown2 HQ.out
      have LAST := Lib.hid hlast
      have hs2 : wr.heap.size ≤ w2.heap.size := hb2.size
      have OW2 := Lib.hid (own_below OWN.out hb2)
      have BE2 := Lib.hid (BEL.out.trans (hb2.mono hs))
      have iq : (q : Int) < (q : Int) + 1 := by omega
      have hn40 : n ≤ 40 := by have := HN.out; omega
      clear hown2 hb2 hlast
      go_wp2_with (at_builtin; refine list_step (fun K hK => ?_); refine step_app2 Try.underlying26 info_step rfl (by omega) rfl (.tmp 15) (.tmp 22) rfl w.heap.size n _ (fl (stepsK l k)) rfl (World.ownsRow.alloc OW2.out _) w2.heap.size 1 (I x) (I y) rfl (by simp) (by simp) rfl rfl (by omega) (by simp; omega) ?_; intro A3 c3 w3 hown3 hg3 hbel3; go_simp; refine hK _ _ ?_; clear hK K)
      go_roundw
      case rel =>
        refine ⟨k + 1, n + 1, A3, c3, by omega, by omega, by go_num, rfl, by have := HN.out; omega, ?_, (BE2.out.alloc (by omega) _).trans hbel3⟩
        rw [SUC.out, LAST.out, fl_snoc]
        exact hown3
      case measure => simp [intOf]; omega
    · have e : k = l.length := by omega
      subst e
      subst hn
      go_wp2
      go_ret
      refine ⟨A1, c1, by rw [stepsK_length]; rfl, ?_, BEL.out⟩
      unfold OwS
      rw [stepsK_length]
      exact OWN.out
end Go.Proofs.Ytbbjgcagkmlngac
