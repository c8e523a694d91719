/- The sorted exponents of a plan with one input, by the model. -/
import Derived.Test.YteldndbfopdehabRa
namespace Go.Proofs.Yteldndbfopdehab
open Go.RowKit

def cpG (p : Pl) : Bool := good p && decide (p.n = 1)
def cpL (p : Pl) : List Int := if cpG p then uni [] (ev p.s) else []
theorem cpL_true {p : Pl} (h : cpG p = true) : cpL p = uni [] (ev p.s) := by unfold cpL; rw [if_pos h]
theorem cpL_false {p : Pl} (h : cpG p = false) : cpL p = [] := by unfold cpL; rw [h]; rfl
theorem cpG_facts {p : Pl} (h : cpG p = true) : p.n = 1 ∧ p.s.length ≤ 40 ∧ OkS 1 p.s ∧ expsB (exps 1 p.s) = true ∧ good p = true := by
  unfold cpG at h
  simp only [Bool.and_eq_true, decide_eq_true_eq] at h
  obtain ⟨N, hN, n1, n6, hs40, _, hok, _, hb⟩ := good_facts h.1
  have e : N = 1 := by omega
  subst e
  exact ⟨h.2, hs40, hok, hb, h.1⟩
theorem cpL_le (p : Pl) : (cpL p).length ≤ 1000 := by
  cases h : cpG p with
  | false => rw [cpL_false h]; simp
  | true =>
    obtain ⟨_, hs, hok, hb, _⟩ := cpG_facts h
    rw [cpL_true h]
    have := (chG_chn (chain_of_ev hok hb hs)).most
    omega
theorem exps_row {s : List (Int × Int)} (hok : OkS 1 s) {k : Nat} (hk : k < (exps 1 s).length) : (exps 1 s).getD k [] = [(ev s).getD k 0] := by
  have hE := exps_ev hok s.length (Nat.le_refl _)
  rw [List.take_of_length_le (Nat.le_refl _)] at hE
  have hl : (exps 1 s).length = (ev s).length := by rw [hE]; simp
  have hk' : k < (ev s).length := by omega
  rw [hE]
  exact getD_map1 _ hk'

set_option maxRecDepth 100000 in
set_option maxHeartbeats 2000000 in
theorem chOfPlan_any (B : Nat) (A1 A2 : Option Addr) (c1 c2 : Nat) (p : Pl) (w : World) (hg : cpG p = true) (hB : B ≤ w.heap.size) (hr : RdP w B A1 A2 p) :
    Calls Try.prog 44 #[.agg #[.int .i64 p.n, .slice A1 p.s.length c1, .slice A2 p.o.length c2]] w fun e w' =>
      ∃ A' c', e = .returned (.slice A' (uni [] (ev p.s)).length c') ∧ OwI w' w.heap.size (.slice A' (uni [] (ev p.s)).length c') (uni [] (ev p.s)) ∧ Below w.heap.size w w' := by
  obtain ⟨hn1, hs40, hok, hbb, _⟩ := cpG_facts hg
  have hpe := fun (W : World) (hb : Below w.heap.size w W) => plExponents_any B 1 A1 A2 c1 c2 p W hn1 (by omega) (by omega) (by omega) (by have := hb.size; omega) hok (hr.below' hb hB)
  have hrow := fun k (hk : k < (exps 1 p.s).length) => exps_row hok hk
  have hevl : (ev p.s).length = p.s.length + 1 := (ev_sums hok hbb).1
  have hel : (exps 1 p.s).length = 1 + p.s.length := exps_length 1 p.s
  obtain ⟨V, hV⟩ : ∃ V, ev p.s = V := ⟨_, rfl⟩
  obtain ⟨E, hE⟩ : ∃ E, exps 1 p.s = E := ⟨_, rfl⟩
  rw [hV] at hevl hrow ⊢
  rw [hE] at hrow hpe hel
  have hEl : E.length = V.length := by omega
  have hE41 : E.length ≤ 41 := by omega
  have HROW := Lib.hid hrow
  have HPE := Lib.hid hpe
  have HEL := Lib.hid hEl
  have U0 := Lib.hid (uni0_ok V)
  clear hg hok hbb hr hpe hrow hV hE hevl hel hEl hn1
  go_enter Try.func44, Try.ntmps44
  go_wp2_with fail
  go_at_call 82
  generalize hw1 : World.alloc w _ = w1
  obtain ⟨x0, x1, x2, xs, xb⟩ := box3 hw1
  clear hw1
  refine (HPE.out w1 xb).mono ?_
  rintro e w2 ⟨A3, c3, rfl, hrows, hb2⟩
  have HR := Lib.hid hrows
  have HB2 := Lib.hid (xb.trans (hb2.mono (show w.heap.size ≤ w1.heap.size by omega)))
  have hs2 : w.heap.size ≤ w2.heap.size := HB2.out.size
  clear x0 x1 x2 xs xb hb2 hrows
  go_wp2
  go_loopw [3, 9] (fun ov iv wr => ∃ (k n : Nat) (A4 : Option Addr) (c4 : Nat), k ≤ E.length ∧ iv = .int .i64 k ∧ ov = .slice A4 n c4 ∧ n = (uniK [] V k).length ∧ wr.ownsRow w2.heap.size 3 1 (.slice A4 n c4) n ((uniK [] V k).map I) ∧ Below w2.heap.size w2 wr) (fun _ i _ => E.length - (intOf i).toNat)
  case atStart => exact ⟨0, 0, none, 0, by omega, rfl, rfl, rfl, World.ownsRow_nil _ _ _ _, Below.refl _ _⟩
  case round =>
    obtain ⟨k, n, A4, c4, hk, rfl, rfl, hn, hown, hbel⟩ := hrel
    have OWN := Lib.hid hown
    have BEL := Lib.hid hbel
    have HN := Lib.hid hn
    have hs : w2.heap.size ≤ wr.heap.size := hbel.size
    clear hown
    by_cases hlt : k < E.length
    · obtain ⟨g, B1, d1, rfl, hgs, hcv, hov⟩ := (HR.out.below hbel).at_ hlt
      have hVk : k < V.length := by have := HEL.out; omega
      have hrw := HROW.out k hlt
      have hrw0 : E.getD k [] = E[k] := by simp [hlt]
      rw [hrw0] at hrw
      clear hrw0
      obtain ⟨e, he⟩ : ∃ e, V.getD k 0 = e := ⟨_, rfl⟩
      rw [he] at hrw
      rw [hrw] at hcv hov
      have hov' : wr.ownsRow w1.heap.size 3 1 (.slice B1 1 d1) 1 [I e] := hov
      obtain ⟨g1, rfl, _, _, hc1, _⟩ := own_at hov' (by omega)
      have hce : wr.cell? ⟨g1, 0, none⟩ = some (.int .i64 e) := hc1 0 (by omega)
      have hcv' : wr.cell? ⟨g, k, none⟩ = some (.slice (some ⟨g1, 0, none⟩) 1 d1) := hcv
      obtain ⟨ok1, ok2, _⟩ := U0.out k (by omega)
      have SUC := Lib.hid (uniK_succ (a := []) hVk)
      rw [he] at SUC
      have hW := l1PutO_any w2.heap.size A4 c4 (uniK [] V k) e wr (by omega) ok1 hs (by
        have h := OWN.out
        rw [HN.out] at h
        exact h)
      rw [← hn] at hW
      have HW := Lib.hid hW
      have HS := Lib.hid hs
      clear hW ok1 ok2 hn hcv hov hov' hc1 hrw he hbel
      go_wp2_with (go_at_call 52; refine HW.out.mono ?_; rintro e w5 ⟨A5, c5, rfl, hown5, hb5⟩)
      go_roundw
      case rel =>
        refine ⟨k + 1, (putI (uniK [] V k) e).length, A5, c5, by omega, by go_num, rfl, by rw [SUC.out], ?_, BEL.out.trans (hb5.mono HS.out)⟩
        rw [SUC.out]
        exact hown5
      case measure => simp [intOf]; omega
    · have e : k = V.length := by have := HEL.out; omega
      subst e
      rw [uniK_end] at hn
      subst hn
      clear hbel
      go_wp2
      go_ret
      refine ⟨A4, c4, rfl, ?_, HB2.out.trans (BEL.out.mono hs2)⟩
      have h := OWN.out
      rw [uniK_end] at h
      exact own_base h hs2

set_option maxRecDepth 100000 in
set_option maxHeartbeats 2000000 in
theorem specCp_any (B : Nat) (A1 A2 : Option Addr) (c1 c2 : Nat) (p : Pl) (w : World) (hB : B ≤ w.heap.size) (hls : p.s.length ≤ 2000000) (hlo : p.o.length ≤ 2000000) (hr : RdP w B A1 A2 p) :
    Calls Try.prog 17 #[.agg #[.int .i64 p.n, .slice A1 p.s.length c1, .slice A2 p.o.length c2]] w fun e w' =>
      ∃ A c, e = .returned (.tuple #[.slice A (cpL p).length c, .bool (cpG p)]) ∧ OwI w' w.heap.size (.slice A (cpL p).length c) (cpL p) ∧ Below w.heap.size w w' := by
  have H := Lib.hid hr
  clear hr
  have hC := fun (W : World) (hb : Below w.heap.size w W) => plGood_any B A1 A2 c1 c2 p W (by have := hb.size; omega) hls hlo (H.out.below' hb hB)
  cases hg : good p with
  | false =>
    rw [hg] at hC
    have HC := Lib.hid hC
    have E := Lib.hid (show cpG p = false by unfold cpG; rw [hg]; rfl)
    clear hC hg
    go_enter Try.func17, Try.ntmps17
    go_wp2_with fail
    go_at_call 43
    generalize hw1 : World.alloc w _ = w1
    obtain ⟨x0, x1, x2, xs, xb⟩ := box3 hw1
    clear hw1
    refine (HC.out w1 xb).mono ?_
    rintro e w2 ⟨rfl, hb2⟩
    have y0 := (hb2.cell (p := ⟨w.heap.size, 0, none⟩) (by simp only []; omega)).trans x0
    have HB2 := Lib.hid (xb.trans (hb2.mono (show w.heap.size ≤ w1.heap.size by omega)))
    clear x0 x1 x2 xs xb hb2
    go_wp2
    go_ret2
    exact ⟨none, 0, by rw [E.out, cpL_false E.out]; rfl, by rw [cpL_false E.out]; exact OwI.nil _ _, HB2.out⟩
  | true =>
    rw [hg] at hC
    have HC := Lib.hid hC
    clear hC
    by_cases hn : p.n = 1
    case neg =>
      have E := Lib.hid (show cpG p = false by unfold cpG; rw [decide_eq_false hn]; simp)
      have hnb : (p.n != 1) = true := by simpa using hn
      clear hg hn
      go_enter Try.func17, Try.ntmps17
      go_wp2_with fail
      go_at_call 43
      generalize hw1 : World.alloc w _ = w1
      obtain ⟨x0, x1, x2, xs, xb⟩ := box3 hw1
      clear hw1
      refine (HC.out w1 xb).mono ?_
      rintro e w2 ⟨rfl, hb2⟩
      have y0 := (hb2.cell (p := ⟨w.heap.size, 0, none⟩) (by simp only []; omega)).trans x0
      have HB2 := Lib.hid (xb.trans (hb2.mono (show w.heap.size ≤ w1.heap.size by omega)))
      clear x0 x1 x2 xs xb hb2
      go_wp2
      go_ret2
      exact ⟨none, 0, by rw [E.out, cpL_false E.out]; rfl, by rw [cpL_false E.out]; exact OwI.nil _ _, HB2.out⟩
    case pos =>
      have hcp : cpG p = true := by unfold cpG; rw [hg, decide_eq_true hn]; rfl
      obtain ⟨hn', hs40, hok, hbb, hgg⟩ := cpG_facts hcp
      clear hn' hgg
      have hchg := chain_of_ev hok hbb hs40
      have hul : (uni [] (ev p.s)).length ≤ 41 := (chG_chn hchg).most
      have hP := fun (W : World) (hb : Below w.heap.size w W) => chOfPlan_any B A1 A2 c1 c2 p W hcp (by have := hb.size; omega) (H.out.below' hb hB)
      have hI := fun W A' c' hown => chIf_any w.heap.size A' c' (uni [] (ev p.s)) W (by omega) hown
      have E := Lib.hid hcp
      rw [cpL_true hcp]
      obtain ⟨u, hu⟩ : ∃ u, uni [] (ev p.s) = u := ⟨_, rfl⟩
      rw [hu] at hP hI hul hchg ⊢
      rw [hchg, selL_true rfl] at hI
      have HP := Lib.hid hP
      have HI := Lib.hid hI
      have HNN := Lib.hid hn
      clear hg hn hcp hok hbb hchg hP hI hu
      go_enter Try.func17, Try.ntmps17
      go_wp2_with fail
      go_at_call 43
      generalize hw1 : World.alloc w _ = w1
      obtain ⟨x0, x1, x2, xs, xb⟩ := box3 hw1
      clear hw1
      refine (HC.out w1 xb).mono ?_
      rintro e w2 ⟨rfl, hb2⟩
      have y0 := (hb2.cell (p := ⟨w.heap.size, 0, none⟩) (by simp only []; omega)).trans x0
      rw [HNN.out] at y0
      have hp1 := HP.out
      simp only [HNN.out] at hp1
      have HP1 := Lib.hid hp1
      clear hp1
      have y1 := (hb2.cell (p := ⟨w.heap.size, 1, none⟩) (by simp only []; omega)).trans x1
      have y2 := (hb2.cell (p := ⟨w.heap.size, 2, none⟩) (by simp only []; omega)).trans x2
      have HB2 := Lib.hid (xb.trans (hb2.mono (show w.heap.size ≤ w1.heap.size by omega)))
      have hs2 : w.heap.size ≤ w2.heap.size := HB2.out.size
      clear x0 x1 x2 xs xb hb2
      go_wp2_with (first
        | (go_at_call 44; refine (HP1.out w2 HB2.out).mono ?_; rintro e w3 ⟨A3, c3, rfl, hown3, hb3⟩; have OW3 := Lib.hid (hown3.base hs2); have HB3 := Lib.hid (HB2.out.trans (hb3.mono hs2)); have hs3 : w.heap.size ≤ w3.heap.size := HB3.out.size; clear hown3 hb3)
        | (go_at_call 37; refine (HI.out w3 A3 c3 OW3.out).mono ?_; rintro e w4 ⟨A4, c4, rfl, hown4, hb4⟩))
      go_ret2
      exact ⟨A4, c4, by rw [E.out]; rfl, hown4, HB3.out.trans (hb4.mono hs3)⟩
end Go.Proofs.Yteldndbfopdehab
