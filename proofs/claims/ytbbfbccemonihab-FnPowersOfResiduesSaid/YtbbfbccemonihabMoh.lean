/- PowersModulo, of the model and of the program. -/
import Derived.Test.YtbbfbccemonihabMog
namespace Go.Proofs.Ytbbfbccemonihab
open Go.RowKit

/-- Whether products of powers are asked rightly; the product. -/
def pmG (m : Int) (es xs : List Int) : Bool := inB m 2 10000 && (inB (xs.length : Int) 1 6 && (decide (es.length = xs.length) && (allB xs 0 (m - 1) && allB es 0 1000000)))
def pmV (m : Int) (es xs : List Int) : Int := if pmG m es xs then (pmK m.toNat es xs es.length : Int) else 0
theorem pm_bad {m : Int} {es xs : List Int} (h : pmG m es xs = false) : pmV m es xs = 0 := by unfold pmV; rw [h]; rfl
theorem pm_good {m : Int} {es xs : List Int} (h : pmG m es xs = true) : pmV m es xs = (pmK m.toNat es xs es.length : Int) := by unfold pmV; rw [if_pos h]
theorem allB_at {l : List Int} {lo hi : Int} (h : allB l lo hi = true) {k : Nat} (hk : k < l.length) : lo ≤ l[k] ∧ l[k] ≤ hi := by
  unfold allB inB at h
  rw [List.all_eq_true] at h
  have := h _ (List.getElem_mem hk)
  simpa using this
theorem all_inR {m : Int} {l : List Int} (h0 : 0 < l.length) : l.all (inR m) = (inB m 2 10000 && allB l 0 (m - 1)) := by
  rw [Bool.eq_iff_iff, Bool.and_eq_true]
  unfold allB inR
  rw [List.all_eq_true, List.all_eq_true]
  constructor
  · intro h
    refine ⟨?_, fun x hx => ?_⟩
    · have := h _ (List.getElem_mem h0)
      rw [Bool.and_eq_true] at this
      exact this.1
    · have := h x hx
      rw [Bool.and_eq_true] at this
      exact this.2
  · intro h x hx
    rw [h.1, h.2 x hx]
    rfl
theorem pmK_succ {m : Nat} {es xs : List Int} {k e x : Nat} (he : es.getD k 0 = (e : Int)) (hx : xs.getD k 0 = (x : Int)) : pmK m es xs (k + 1) = pwr (mulM m) 20 e (pmK m es xs k) x := by
  show pwr (mulM m) 20 (es.getD k 0).toNat (pmK m es xs k) (xs.getD k 0).toNat = _
  rw [he, hx]
  rfl

set_option maxRecDepth 100000 in
set_option maxHeartbeats 4000000 in
theorem specPowers_any (B : Nat) (A0 : Option Addr) (c0 : Nat) (l0 : List Int) (m : Int) (A2 : Option Addr) (c2 : Nat) (l2 : List Int) (w : World) (hB : B ≤ w.heap.size) (hl0 : l0.length ≤ 1048576) (hl2 : l2.length ≤ 1048576) (_hc0 : l0.length ≤ c0) (_hc2 : l2.length ≤ c2) (hr0 : Rd w B 1 A0 l0.length (l0.map I)) (hr2 : Rd w B 1 A2 l2.length (l2.map I)) :
    Calls Try.prog 52 #[.slice A0 l0.length c0, .int .i64 m, .slice A2 l2.length c2] w fun e w' => e = .returned (.tuple #[.int .i64 (pmV m l0 l2), .bool (pmG m l0 l2)]) ∧ Below w.heap.size w w' := by
  have R0 := Lib.hid hr0
  have R2 := Lib.hid hr2
  clear hr0 hr2
  cases h1 : inB m 2 10000 with
  | false =>
    have eg : pmG m l0 l2 = false := by simp [pmG, h1]
    have ev := pm_bad eg
    rw [eg, ev]
    have H1 := Lib.hid h1
    clear h1 eg ev
    go_enter Try.func52, Try.ntmps52
    go_wp2_with fail
    go_at_call 103
    refine (moModulus_any _ _).mono ?_
    rw [H1.out]
    rintro e w' ⟨rfl, rfl⟩
    go_wp2
    go_ret2
    exact ⟨rfl, Below.refl _ _⟩
  | true =>
  have hm : 2 ≤ m ∧ m ≤ 10000 := by simpa [inB] using h1
  have hw : wrap64 (m - 1) = m - 1 := by unfold wrap64; omega
  cases h2 : inB (l2.length : Int) 1 6 with
  | false =>
    have eg : pmG m l0 l2 = false := by simp [pmG, h1, h2]
    have ev := pm_bad eg
    rw [eg, ev]
    have H1 := Lib.hid h1
    have H2 := Lib.hid h2
    clear h1 h2 eg ev
    go_enter Try.func52, Try.ntmps52
    go_wp2_with fail
    go_at_call 103
    refine (moModulus_any _ _).mono ?_
    rw [H1.out]
    rintro e w' ⟨rfl, rfl⟩
    go_wp2_with fail
    go_at_call 89
    refine (l1In_any _ _ _ _).mono ?_
    rw [H2.out]
    rintro e w' ⟨rfl, rfl⟩
    go_wp2
    go_ret2
    exact ⟨rfl, Below.refl _ _⟩
  | true =>
  cases h3 : decide (l0.length = l2.length) with
  | false =>
    have eg : pmG m l0 l2 = false := by simp [pmG, h1, h2, h3]
    have ev := pm_bad eg
    rw [eg, ev]
    have H1 := Lib.hid h1
    have H2 := Lib.hid h2
    have h3' : ¬ l0.length = l2.length := by simpa using h3
    have i3 : ¬ (l0.length : Int) = (l2.length : Int) := by omega
    have H3 := Lib.hid h3
    clear h1 h2 h3 h3' eg ev
    go_enter Try.func52, Try.ntmps52
    go_wp2_with fail
    go_at_call 103
    refine (moModulus_any _ _).mono ?_
    rw [H1.out]
    rintro e w' ⟨rfl, rfl⟩
    go_wp2_with fail
    go_at_call 89
    refine (l1In_any _ _ _ _).mono ?_
    rw [H2.out]
    rintro e w' ⟨rfl, rfl⟩
    go_wp2
    go_ret2
    exact ⟨rfl, Below.refl _ _⟩
  | true =>
  have hlen : l0.length = l2.length := by simpa using h3
  have ALL0 := Lib.hid (fun lo hi W (hR : Rd W B 1 A0 l0.length (l0.map I)) => l1All_any B A0 c0 l0 lo hi W (by omega) hR)
  have ALL2 := Lib.hid (fun lo hi W (hR : Rd W B 1 A2 l2.length (l2.map I)) => l1All_any B A2 c2 l2 lo hi W (by omega) hR)
  obtain ⟨n, hn⟩ : ∃ n, l0.length = n := ⟨_, rfl⟩
  have hn2 : l2.length = n := by rw [← hlen]; exact hn
  have EVG := Lib.hid (fun h : pmG m l0 l2 = true => pm_good h)
  rw [hn] at R0 ALL0 EVG hl0
  rw [hn2] at R2 ALL2 hl2 h2
  rw [hn, hn2]
  have HN := Lib.hid hn
  have HN2 := Lib.hid hn2
  clear hlen
  cases h4 : allB l2 0 (m - 1) with
  | false =>
    have eg : pmG m l0 l2 = false := by simp [pmG, h1, h3, h4]
    have ev := pm_bad eg
    rw [eg, ev]
    have H1 := Lib.hid h1
    have H2 := Lib.hid h2
    have H3 := Lib.hid h3
    have H4 := Lib.hid h4
    clear h1 h2 h3 h4 eg ev hn hn2
    clear hm
    go_enter Try.func52, Try.ntmps52
    go_wp2_with fail
    go_at_call 103
    refine (moModulus_any _ _).mono ?_
    rw [H1.out]
    rintro e w' ⟨rfl, rfl⟩
    go_wp2_with fail
    go_at_call 89
    refine (l1In_any _ _ _ _).mono ?_
    rw [H2.out]
    rintro e w' ⟨rfl, rfl⟩
    go_wp2_with fail
    go_at_call 85
    refine (ALL2.out _ _ _ R2.out).mono ?_
    rw [H4.out]
    rintro e w' ⟨rfl, rfl⟩
    go_wp2
    go_ret2
    exact ⟨rfl, Below.refl _ _⟩
  | true =>
  cases h5 : allB l0 0 1000000 with
  | false =>
    have eg : pmG m l0 l2 = false := by simp [pmG, h1, h3, h4, h5]
    have ev := pm_bad eg
    rw [eg, ev]
    have H1 := Lib.hid h1
    have H2 := Lib.hid h2
    have H3 := Lib.hid h3
    have H4 := Lib.hid h4
    have H5 := Lib.hid h5
    clear h1 h2 h3 h4 h5 eg ev hn hn2
    clear hm
    go_enter Try.func52, Try.ntmps52
    go_wp2_with fail
    go_at_call 103
    refine (moModulus_any _ _).mono ?_
    rw [H1.out]
    rintro e w' ⟨rfl, rfl⟩
    go_wp2_with fail
    go_at_call 89
    refine (l1In_any _ _ _ _).mono ?_
    rw [H2.out]
    rintro e w' ⟨rfl, rfl⟩
    go_wp2_with fail
    go_at_call 85
    refine (ALL2.out _ _ _ R2.out).mono ?_
    rw [H4.out]
    rintro e w' ⟨rfl, rfl⟩
    go_wp2_with fail
    go_at_call 85
    refine (ALL0.out _ _ _ R0.out).mono ?_
    rw [H5.out]
    rintro e w' ⟨rfl, rfl⟩
    go_wp2
    go_ret2
    exact ⟨rfl, Below.refl _ _⟩
  | true =>
  have eg : pmG m l0 l2 = true := by
    have h2' := h2
    rw [← hn2] at h2'
    simp only [pmG, h1, h2', h3, h4, h5]; rfl
  have ev := EVG.out eg
  rw [eg, ev]
  obtain ⟨M, rfl⟩ : ∃ M : Nat, m = M := ⟨m.toNat, by omega⟩
  rw [show (M : Int).toNat = M by omega]
  have AX := Lib.hid h4
  have AE := Lib.hid h5
  have H1 := Lib.hid h1
  have H2 := Lib.hid h2
  have H4 := Lib.hid h4
  have H5 := Lib.hid h5
  have n2 : 2 ≤ M := by omega
  have n4 : M ≤ 10000 := by omega
  have hm0 : ((M : Int) == 0) = false := by simp; omega
  have hl6 : n ≤ 6 := by
    have : 1 ≤ (n : Int) ∧ (n : Int) ≤ 6 := by simpa [inB] using h2
    omega
  clear h1 h2 h3 h4 h5 eg ev hm hn hn2
  have P0 := Lib.hid (show pmK M l0 l2 0 = 1 from rfl)
  have PL := Lib.hid (pmK_lt n2 l0 l2)
  have PS := Lib.hid (fun k e x (h1 : l0.getD k 0 = ((e : Nat) : Int)) (h2 : l2.getD k 0 = ((x : Nat) : Int)) => pmK_succ (m := M) (k := k) h1 h2)
  obtain ⟨P, hP⟩ : ∃ P, pmK M l0 l2 = P := ⟨_, rfl⟩
  rw [hP] at P0 PL PS
  rw [hP]
  clear hP
  go_enter Try.func52, Try.ntmps52
  go_wp2_with fail
  go_at_call 103
  refine (moModulus_any _ _).mono ?_
  rw [H1.out]
  rintro e w' ⟨rfl, rfl⟩
  go_wp2_with fail
  go_at_call 89
  refine (l1In_any _ _ _ _).mono ?_
  rw [H2.out]
  rintro e w' ⟨rfl, rfl⟩
  go_wp2_with fail
  go_at_call 85
  refine (ALL2.out _ _ _ R2.out).mono ?_
  rw [H4.out]
  rintro e w' ⟨rfl, rfl⟩
  go_wp2_with fail
  go_at_call 85
  refine (ALL0.out _ _ _ R0.out).mono ?_
  rw [H5.out]
  rintro e w' ⟨rfl, rfl⟩
  go_wp2
  go_loopw [8, 41] (fun pv iv wr => ∃ k : Nat, k ≤ n ∧ iv = .int .i64 (k : Int) ∧ pv = .int .i64 (P k : Int) ∧ Below w.heap.size w wr) (fun _ iv _ => n - (intOf iv).toNat)
  case atStart => exact ⟨0, by omega, rfl, by rw [P0.out]; rfl, Below.refl _ _⟩
  case round =>
    obtain ⟨k, hk, rfl, rfl, hbel⟩ := hrel
    by_cases hltn : k < n
    · have hlt2 : k < l2.length := by rw [HN2.out]; exact hltn
      have hlt : k < l0.length := by rw [HN.out]; exact hltn
      have R2' := R2.out
      have R0' := R0.out
      rw [← HN2.out] at R2'
      rw [← HN.out] at R0'
      obtain ⟨xb, xo, rfl, hxb, hxc⟩ := (R2'.below' hbel hB).int hlt2
      obtain ⟨eb, eo, rfl, heb, hec⟩ := (R0'.below' hbel hB).int hlt
      obtain ⟨q0, q1⟩ := allB_at AX.out hlt2
      obtain ⟨q2, q3⟩ := allB_at AE.out hlt
      obtain ⟨x, hx⟩ : ∃ x : Nat, l2[k] = (x : Int) := ⟨l2[k].toNat, by omega⟩
      obtain ⟨e, he⟩ : ∃ e : Nat, l0[k] = (e : Int) := ⟨l0[k].toNat, by omega⟩
      have PSK := PS.out k e x (by rw [← he]; simp [hlt]) (by rw [← hx]; simp [hlt2])
      rw [hx] at hxc q1
      rw [he] at hec q3
      obtain ⟨V, hV⟩ : ∃ V, P k = V := ⟨_, rfl⟩
      have hVl : V < M := by rw [← hV]; exact PL.out k
      rw [hV] at PSK
      rw [hV]
      have hxM : x < M := by omega
      have heM : e ≤ 1000000 := by omega
      have one := pwL_one n2 (v := x) (pow20 heM) hVl
      have CP := Lib.hid (fun W => moPower_any M x e W n2 n4 hxM heM)
      have hRl : pwr (mulM M) 20 e (1 % M) x < M := pwL_lt (by omega) _ _ _ _ (Nat.mod_lt _ (by omega))
      obtain ⟨R, hR⟩ : ∃ R, pwr (mulM M) 20 e (1 % M) x = R := ⟨_, rfl⟩
      rw [hR] at one CP hRl
      rw [one] at PSK
      have hp := prod_le n4 hVl hRl
      have e1 : (V : Int) * (R : Int) = ((V * R : Nat) : Int) := by push_cast; rfl
      have w1 : wrap64 ((V : Int) * (R : Int)) = ((V * R : Nat) : Int) := by rw [e1]; unfold wrap64; omega
      obtain ⟨Q, hQ⟩ : ∃ Q, V * R = Q := ⟨_, rfl⟩
      rw [hQ] at w1 PSK
      have N1 := Lib.hid (nrem Q M)
      have T1 := Lib.hid (tmodN Q M)
      have PK := Lib.hid PSK
      have BEL := Lib.hid hbel
      have ik : (k : Int) < (n : Int) := by omega
      clear R2' R0' hlt hlt2 hQ e1 hp hR one PSK hV hx he q0 q1 q2 q3 hbel hRl hVl hxM heM
      go_wp2_with (go_at_call 114; refine (CP.out _).mono ?_; rintro e w2 ⟨rfl, hb2⟩; have BEL2 := Lib.hid (BEL.out.trans (hb2.mono BEL.out.size)); clear hb2)
      go_roundw
      case rel => exact ⟨k + 1, by omega, by go_num, by rw [PK.out]; first | rw [N1.out] | rw [T1.out], BEL2.out⟩
      case measure => simp [intOf]; omega
    · have hk' : k = n := by omega
      subst hk'
      have BEL := Lib.hid hbel
      clear hbel
      go_wp2
      go_ret2
      exact ⟨rfl, BEL.out⟩
end Go.Proofs.Ytbbfbccemonihab
