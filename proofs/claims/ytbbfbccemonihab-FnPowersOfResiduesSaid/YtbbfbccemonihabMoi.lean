/- PowersModulo of the program. -/
import Derived.Test.YtbbfbccemonihabMoh
namespace Go.Proofs.Ytbbfbccemonihab
open Go.RowKit

set_option maxRecDepth 100000 in
set_option maxHeartbeats 4000000 in
theorem implPowers_any (B : Nat) (A0 : Option Addr) (c0 : Nat) (l0 : List Int) (m : Int) (A2 : Option Addr) (c2 : Nat) (l2 : List Int) (w : World) (hB : B ≤ w.heap.size) (_hl0 : l0.length ≤ 1048576) (hl2 : l2.length ≤ 1048576) (_hc0 : l0.length ≤ c0) (_hc2 : l2.length ≤ c2) (hr0 : Rd w B 1 A0 l0.length (l0.map I)) (hr2 : Rd w B 1 A2 l2.length (l2.map I)) :
    Calls Try.prog 51 #[.slice A0 l0.length c0, .int .i64 m, .slice A2 l2.length c2] w fun e w' => e = .returned (.tuple #[.int .i64 (pmV m l0 l2), .bool (pmG m l0 l2)]) ∧ Below w.heap.size w w' := by
  have R0 := Lib.hid hr0
  have R2 := Lib.hid hr2
  clear hr0 hr2
  have hbox : ∀ (Q : World), w.alloc (.cells #[.int .i64 m] 117) = Q → Q.cell? ⟨w.heap.size, 0, none⟩ = some (.int .i64 m) ∧ Q.heap.size = w.heap.size + 1 ∧ Below w.heap.size w Q := fun Q h => box1 h
  clear hbox
  by_cases h1 : l2.length < 1
  · have eg : pmG m l0 l2 = false := by simp [pmG, inB]; omega
    have ev := pm_bad eg
    rw [eg, ev]
    have i1 : (l2.length : Int) < 1 := by omega
    clear h1 eg ev
    go_enter Try.func51, Try.ntmps51
    go_wp2
    go_ret2
    exact ⟨rfl, (Below.refl _ _).alloc (Nat.le_refl _) _⟩
  by_cases h2 : 6 < l2.length
  · have eg : pmG m l0 l2 = false := by simp [pmG, inB]; omega
    have ev := pm_bad eg
    rw [eg, ev]
    have i1 : ¬ (l2.length : Int) < 1 := by omega
    have i2 : (6 : Int) < (l2.length : Int) := by omega
    clear h1 h2 eg ev
    go_enter Try.func51, Try.ntmps51
    go_wp2
    go_ret2
    exact ⟨rfl, (Below.refl _ _).alloc (Nat.le_refl _) _⟩
  have hin : inB (l2.length : Int) 1 6 = true := by simp [inB]; omega
  have j1 : ¬ (l2.length : Int) < 1 := by omega
  have j2 : ¬ (6 : Int) < (l2.length : Int) := by omega
  by_cases h3 : l0.length = l2.length
  case neg =>
    have eg : pmG m l0 l2 = false := by simp [pmG, h3]
    have ev := pm_bad eg
    rw [eg, ev]
    have i3 : ¬ (l0.length : Int) = (l2.length : Int) := by omega
    clear h1 h2 h3 hin eg ev
    go_enter Try.func51, Try.ntmps51
    go_wp2
    go_ret2
    exact ⟨rfl, (Below.refl _ _).alloc (Nat.le_refl _) _⟩
  have ALL := Lib.hid (fun W hB hr => hasAllR_any B A2 c2 m l2 W (by omega) hB hr)
  have HA := Lib.hid (all_inR (m := m) (l := l2) (by omega))
  obtain ⟨n, hn2⟩ : ∃ n, l2.length = n := ⟨_, rfl⟩
  have hn : l0.length = n := by rw [h3]; exact hn2
  have EVG := Lib.hid (fun h : pmG m l0 l2 = true => pm_good h)
  have EG := Lib.hid (show pmG m l0 l2 = (l2.all (inR m) && allB l0 0 1000000) by
    rw [HA.out]
    unfold pmG
    rw [hin, decide_eq_true h3]
    cases inB m 2 10000 <;> cases allB l2 0 (m - 1) <;> rfl)
  rw [hn] at R0 EVG
  rw [hn2] at R2 ALL j1 j2 h2 h1
  rw [hn, hn2]
  have HN := Lib.hid hn
  have HN2 := Lib.hid hn2
  clear h3 hin
  cases h4 : l2.all (inR m) with
  | false =>
    have eg : pmG m l0 l2 = false := by rw [EG.out, h4]; rfl
    have ev := pm_bad eg
    rw [eg, ev]
    rw [h4] at ALL
    clear h4 eg ev hn hn2
    go_enter Try.func51, Try.ntmps51
    go_wp2_with fail
    go_at_call 112
    generalize hw1 : World.alloc w _ = w1
    obtain ⟨x0, xs, xb⟩ := box1 hw1
    clear hw1
    refine (ALL.out w1 (by omega) (R2.out.below' xb hB)).mono ?_
    rintro e w2 ⟨rfl, hb2⟩
    have HB := Lib.hid (xb.trans (hb2.mono (by omega)))
    clear hb2 xb x0
    go_wp2
    go_ret2
    exact ⟨rfl, HB.out⟩
  | true =>
  obtain ⟨hm2, h5⟩ : inB m 2 10000 = true ∧ allB l2 0 (m - 1) = true := by rw [HA.out, Bool.and_eq_true] at h4; exact h4
  have hm : 2 ≤ m ∧ m ≤ 10000 := by simpa [inB] using hm2
  obtain ⟨M, rfl⟩ : ∃ M : Nat, m = M := ⟨m.toNat, by omega⟩
  rw [h4] at ALL EG
  have AX := Lib.hid h5
  have n2 : 2 ≤ M := by omega
  have n4 : M ≤ 10000 := by omega
  have hl6 : n ≤ 6 := by omega
  clear h4 h5 hm2 hm hn hn2
  rw [show (M : Int).toNat = M by omega] at EVG
  have P0 := Lib.hid (show pmK M l0 l2 0 = 1 from rfl)
  have PL := Lib.hid (pmK_lt n2 l0 l2)
  have PS := Lib.hid (fun k e x (h1 : l0.getD k 0 = ((e : Nat) : Int)) (h2 : l2.getD k 0 = ((x : Nat) : Int)) => pmK_succ (m := M) (k := k) h1 h2)
  obtain ⟨P, hP⟩ : ∃ P, pmK M l0 l2 = P := ⟨_, rfl⟩
  rw [hP] at P0 PL PS EVG
  clear hP
  go_enter Try.func51, Try.ntmps51
  go_wp2_with fail
  go_at_call 112
  generalize hw1 : World.alloc w _ = w1
  obtain ⟨x0, xs, xb⟩ := box1 hw1
  clear hw1
  refine (ALL.out w1 (by omega) (R2.out.below' xb hB)).mono ?_
  rintro e w2 ⟨rfl, hb2⟩
  have HB := Lib.hid (xb.trans (hb2.mono (by omega)))
  have C2 := Lib.hid ((hb2.cell (p := ⟨w.heap.size, 0, none⟩) (by simp only []; omega)).trans x0)
  have hs2 : w.heap.size < w2.heap.size := by have := hb2.size; omega
  clear hb2 xb x0 xs
  go_wp2
  go_loopw [9, 38] (fun pv iv wr => ∃ k : Nat, k ≤ n ∧ iv = .int .i64 (k : Int) ∧ pv = .int .i64 (P k : Int) ∧ Hid (allB (l0.take k) 0 1000000 = true) ∧ wr.cell? ⟨w.heap.size, 0, none⟩ = some (.int .i64 (M : Int)) ∧ w.heap.size < wr.heap.size ∧ Below w.heap.size w wr) (fun _ iv _ => n - (intOf iv).toNat)
  case atStart => exact ⟨0, by omega, rfl, by rw [P0.out]; rfl, Lib.hid rfl, C2.out, hs2, HB.out⟩
  case round =>
    obtain ⟨k, hk, rfl, rfl, hall, hc, hsz, hbel⟩ := hrel
    have BEL := Lib.hid hbel
    clear hs2 hbel
    by_cases hltn : k < n
    · have hlt2 : k < l2.length := by rw [HN2.out]; exact hltn
      have hlt : k < l0.length := by rw [HN.out]; exact hltn
      have R2' := R2.out
      have R0' := R0.out
      rw [← HN2.out] at R2'
      rw [← HN.out] at R0'
      obtain ⟨xb, xo, rfl, hxb, hxc⟩ := (R2'.below' BEL.out hB).int hlt2
      obtain ⟨eb, eo, rfl, heb, hec⟩ := (R0'.below' BEL.out hB).int hlt
      obtain ⟨q0, q1⟩ := allB_at AX.out hlt2
      obtain ⟨x, hx⟩ : ∃ x : Nat, l2[k] = (x : Int) := ⟨l2[k].toNat, by omega⟩
      obtain ⟨E, hE⟩ : ∃ E, l0[k] = E := ⟨_, rfl⟩
      have AT := Lib.hid (allB_take hlt hall.out)
      have MISS := Lib.hid (fun h => allB_miss (lo := 0) (hi := 1000000) hlt h)
      have GX := Lib.hid (show l2.getD k 0 = (x : Int) by rw [← hx]; simp [hlt2])
      have GE := Lib.hid (show l0.getD k 0 = E by rw [← hE]; simp [hlt])
      rw [hx] at hxc q1
      rw [hE] at hec AT MISS
      have ik : (k : Int) < (n : Int) := by omega
      have hxM : x < M := by omega
      clear R2' R0' hlt hlt2 hx hE q0 q1
      cases hb : inB E 0 1000000 with
      | false =>
        have eg : pmG (M : Int) l0 l2 = false := by rw [EG.out, MISS.out hb]; rfl
        have EG' := Lib.hid eg
        have EV' := Lib.hid (pm_bad eg)
        have HBB := Lib.hid hb
        clear hb eg
        go_wp2_with fail
        go_at_call 107
        refine (isPower_any _ _).mono ?_
        rw [HBB.out]
        rintro e w3 ⟨rfl, rfl⟩
        go_wp2
        go_ret2
        exact ⟨by rw [EG'.out, EV'.out]; rfl, BEL.out⟩
      | true =>
        have hE2 : 0 ≤ E ∧ E ≤ 1000000 := by simpa [inB] using hb
        obtain ⟨e', rfl⟩ : ∃ e' : Nat, E = e' := ⟨E.toNat, by omega⟩
        have PSK := PS.out k e' x GE.out GX.out
        have heM : e' ≤ 1000000 := by omega
        obtain ⟨V, hV⟩ : ∃ V, P k = V := ⟨_, rfl⟩
        have hVl : V < M := by rw [← hV]; exact PL.out k
        rw [hV] at PSK
        rw [hV]
        have CP := Lib.hid (fun W => timesR_any M V x e' W n2 n4 hVl hxM heM)
        obtain ⟨R, hR⟩ : ∃ R, pwr (mulM M) 20 e' V x = R := ⟨_, rfl⟩
        rw [hR] at CP PSK
        have PK := Lib.hid PSK
        have HBB := Lib.hid hb
        clear hb hE2 PSK hR hV hVl hxM heM
        go_wp2_with fail
        go_at_call 107
        refine (isPower_any _ _).mono ?_
        rw [HBB.out]
        rintro e w3 ⟨rfl, rfl⟩
        go_wp2
        refine wp_region_Tw [0, 1, 2, 3, 4, 5, 6, 7, 9] [0, 6] (.lp 2 (.lp 3 (.lp 4 (.lp 5 (.lp 7 (.ls 0 (.lp 1 (.ls 6 (.hv 8 (.lp 9 (.done))))))))))) (by kernel_rfl) (by kernel_rfl) ?_
        (repeat (first | (refine T_lp rfl (fun K hK => ?_); go_simp; refine hK _ ?_; clear hK K) | (refine T_ls rfl rfl (fun K hK => ?_); go_simp; refine hK _ ?_; clear hK K)))
        (refine T_hv rfl (by kernel_rfl) (fun K hK => ?_); go_simp)
        go_at_call 113
        refine (CP.out _).mono ?_
        rintro e w4 ⟨rfl, hb4⟩
        have hb34 : Below wr.heap.size wr w4 := (Below.refl _ wr).drew.trans (hb4.mono (by simp))
        have BEL4 := Lib.hid (BEL.out.trans (hb34.mono (Nat.le_of_lt hsz)))
        have C4 := Lib.hid ((hb34.cell (p := ⟨w.heap.size, 0, none⟩) hsz).trans hc)
        have hs4 : wr.heap.size ≤ w4.heap.size := hb34.size
        clear hb34
        clear hb4
        (go_simp; refine hK _ _ ?_; clear hK K)
        (repeat (first | (refine T_lp rfl (fun K hK => ?_); go_simp; refine hK _ ?_; clear hK K) | (refine T_ls rfl rfl (fun K hK => ?_); go_simp; refine hK _ ?_; clear hK K)))
        refine T_done ?_
        go_wp2
        go_roundw
        case rel => exact ⟨k + 1, by omega, by go_num, by rw [PK.out], Lib.hid (by rw [AT.out]; exact HBB.out), C4.out, by omega, BEL4.out⟩
        case measure => simp [intOf]; omega
    · have hk' : k = n := by omega
      subst hk'
      have eg : pmG (M : Int) l0 l2 = true := by rw [EG.out]; exact allB_end (by rw [HN.out]; omega) hall.out
      have EG' := Lib.hid eg
      have EV' := Lib.hid (EVG.out eg)
      clear eg
      go_wp2
      go_ret2
      exact ⟨by rw [EG'.out, EV'.out]; rfl, BEL.out⟩
end Go.Proofs.Ytbbfbccemonihab
