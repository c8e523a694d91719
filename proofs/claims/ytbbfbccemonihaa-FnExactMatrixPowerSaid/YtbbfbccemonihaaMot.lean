/- PermutationPower and PermutationOrder, of the model and of the program. -/
import Derived.Test.YtbbfbccemonihaaMos
namespace Go.Proofs.Ytbbfbccemonihaa
open Go.RowKit

def ppG (a : List Int) (e : Int) : Bool := isPm a && inB e 0 1000000
def ppV (a : List Int) (e : Int) : List Int := if ppG a e then itr a e.toNat else []
theorem pp_bad {a : List Int} {e : Int} (h : ppG a e = false) : ppV a e = [] := by unfold ppV; rw [h]; rfl
theorem pp_good {a : List Int} {e : Int} (h : ppG a e = true) : isPm a = true ∧ (∃ k : Nat, e = (k : Int) ∧ k ≤ 1000000 ∧ ppV a e = itr a k) := by
  have h0 := h
  unfold ppG at h
  rw [Bool.and_eq_true] at h
  have h2 : 0 ≤ e ∧ e ≤ 1000000 := by simpa [inB] using h.2
  exact ⟨h.1, e.toNat, by omega, by omega, by unfold ppV; rw [if_pos h0]⟩
theorem pp_len (a : List Int) (e : Int) : (ppV a e).length ≤ 1000 := by
  cases h : ppG a e with
  | false => rw [pp_bad h]; simp
  | true =>
    obtain ⟨h1, k, _, _, h4⟩ := pp_good h
    obtain ⟨_, h8, _⟩ := isPm_facts h1
    rw [h4, itr_len]
    omega
theorem moExponent_any (e : Int) (w : World) : Calls Try.prog 81 #[.int .i64 e] w fun r w' => r = .returned (.bool (inB e 0 1000000)) ∧ w = w' := by
  go_enter Try.func81, Try.ntmps81
  go_wp2_with (go_at_call 69; refine (l1In_any _ _ _ _).mono ?_; rintro e w' ⟨rfl, rfl⟩)
  go_ret
  exact ⟨rfl, rfl⟩

set_option maxRecDepth 100000 in
set_option maxHeartbeats 2000000 in
theorem specPP_any (B : Nat) (A0 : Option Addr) (c0 : Nat) (l : List Int) (x : Int) (w : World) (hB : B ≤ w.heap.size) (hl : l.length ≤ 1048576) (hc0 : l.length ≤ c0) (hr : Rd w B 1 A0 l.length (l.map I)) :
    Calls Try.prog 46 #[.slice A0 l.length c0, .int .i64 x] w fun e w' => ∃ A' c', e = .returned (.tuple #[.slice A' (ppV l x).length c', .bool (ppG l x)]) ∧ OwI w' w.heap.size (.slice A' (ppV l x).length c') (ppV l x) ∧ Below w.heap.size w w' := by
  have H1 := Lib.hid (fun W hB hr => specIsPm_any B A0 c0 l W hB hl hc0 hr)
  have R1 := Lib.hid hr
  clear hr
  cases h1 : isPm l with
  | false =>
    have eg : ppG l x = false := by simp [ppG, h1]
    have EV := Lib.hid (pp_bad eg)
    have EG := Lib.hid eg
    rw [h1] at H1
    clear h1 eg
    go_enter Try.func46, Try.ntmps46
    go_wp2_with fail
    go_at_call 42
    refine (H1.out w hB R1.out).mono ?_
    rintro e w2 ⟨rfl, hb2⟩
    have HB := Lib.hid hb2
    clear hb2
    go_wp2
    go_ret2
    exact ⟨none, 0, by rw [EV.out, EG.out]; rfl, by rw [EV.out]; exact OwI.nil _ _, HB.out⟩
  | true =>
  rw [h1] at H1
  cases h2 : inB x 0 1000000 with
  | false =>
    have eg : ppG l x = false := by simp [ppG, h2]
    have EV := Lib.hid (pp_bad eg)
    have EG := Lib.hid eg
    have H2 := Lib.hid h2
    clear h1 h2 eg
    go_enter Try.func46, Try.ntmps46
    go_wp2_with fail
    go_at_call 42
    refine (H1.out w hB R1.out).mono ?_
    rintro e w2 ⟨rfl, hb2⟩
    have HB := Lib.hid hb2
    clear hb2
    go_wp2_with fail
    go_at_call 81
    refine (moExponent_any _ _).mono ?_
    rw [H2.out]
    rintro e w3 ⟨rfl, rfl⟩
    go_wp2
    go_ret2
    exact ⟨none, 0, by rw [EV.out, EG.out]; rfl, by rw [EV.out]; exact OwI.nil _ _, HB.out⟩
  | true =>
    have eg : ppG l x = true := by simp [ppG, h1, h2]
    obtain ⟨_, k, rfl, hk, hE⟩ := pp_good eg
    have H2 := Lib.hid h2
    obtain ⟨_, k8, _, hp1⟩ := isPm_facts h1
    have EV := Lib.hid hE
    have EG := Lib.hid eg
    have EL := Lib.hid (itr_len l k)
    obtain ⟨n, hn⟩ : ∃ n, l.length = n := ⟨_, rfl⟩
    have IT := Lib.hid (pwL_itr hp1 (pow20 hk))
    rw [hn] at hp1 H1 R1 EL k8 IT
    rw [hn]
    have MT := Lib.hid (fun W hB hr => moRaise_any B n k A0 c0 l W k8 hB hp1 hk hr)
    clear h1 h2 hn eg hp1 hE IT
    go_enter Try.func46, Try.ntmps46
    go_wp2_with fail
    go_at_call 42
    refine (H1.out w hB R1.out).mono ?_
    rintro e w2 ⟨rfl, hb2⟩
    have HB := Lib.hid hb2
    have hs2 := hb2.size
    clear hb2
    go_wp2_with fail
    go_at_call 81
    refine (moExponent_any _ _).mono ?_
    rw [H2.out]
    rintro e w3 ⟨rfl, rfl⟩
    go_wp2_with fail
    go_at_call 90
    refine (MT.out w2 (by omega) (R1.out.below' HB.out hB)).mono ?_
    rintro e w4 ⟨A', c', rfl, ho, hb4⟩
    have HB4 := Lib.hid (HB.out.trans (hb4.mono hs2))
    have O := Lib.hid (ho.base hs2)
    clear hb4 ho
    go_wp2
    go_ret2
    exact ⟨A', c', by rw [EV.out, EG.out, EL.out]; rfl, by rw [EV.out, EL.out]; exact O.out, HB4.out⟩

set_option maxRecDepth 100000 in
set_option maxHeartbeats 2000000 in
theorem implPP_any (B : Nat) (A0 : Option Addr) (c0 : Nat) (l : List Int) (x : Int) (w : World) (hB : B ≤ w.heap.size) (hl : l.length ≤ 1048576) (hc0 : l.length ≤ c0) (hr : Rd w B 1 A0 l.length (l.map I)) :
    Calls Try.prog 47 #[.slice A0 l.length c0, .int .i64 x] w fun e w' => ∃ A' c', e = .returned (.tuple #[.slice A' (ppV l x).length c', .bool (ppG l x)]) ∧ OwI w' w.heap.size (.slice A' (ppV l x).length c') (ppV l x) ∧ Below w.heap.size w w' := by
  have H1 := Lib.hid (fun W hB hr => implIsPm_any B A0 c0 l W hB hl hc0 hr)
  have R1 := Lib.hid hr
  clear hr
  cases h1 : isPm l with
  | false =>
    have eg : ppG l x = false := by simp [ppG, h1]
    have EV := Lib.hid (pp_bad eg)
    have EG := Lib.hid eg
    rw [h1] at H1
    clear h1 eg
    go_enter Try.func47, Try.ntmps47
    go_wp2_with fail
    go_at_call 43
    refine (H1.out w hB R1.out).mono ?_
    rintro e w2 ⟨rfl, hb2⟩
    have HB := Lib.hid hb2
    clear hb2
    go_wp2
    go_ret2
    exact ⟨none, 0, by rw [EV.out, EG.out]; rfl, by rw [EV.out]; exact OwI.nil _ _, HB.out⟩
  | true =>
  rw [h1] at H1
  cases h2 : inB x 0 1000000 with
  | false =>
    have eg : ppG l x = false := by simp [ppG, h2]
    have EV := Lib.hid (pp_bad eg)
    have EG := Lib.hid eg
    have H2 := Lib.hid h2
    clear h1 h2 eg
    go_enter Try.func47, Try.ntmps47
    go_wp2_with fail
    go_at_call 43
    refine (H1.out w hB R1.out).mono ?_
    rintro e w2 ⟨rfl, hb2⟩
    have HB := Lib.hid hb2
    clear hb2
    go_wp2_with fail
    go_at_call 73
    refine (isPower_any _ _).mono ?_
    rw [H2.out]
    rintro e w3 ⟨rfl, rfl⟩
    go_wp2
    go_ret2
    exact ⟨none, 0, by rw [EV.out, EG.out]; rfl, by rw [EV.out]; exact OwI.nil _ _, HB.out⟩
  | true =>
    have eg : ppG l x = true := by simp [ppG, h1, h2]
    obtain ⟨_, k, rfl, hk, hE⟩ := pp_good eg
    have H2 := Lib.hid h2
    obtain ⟨_, k8, _, hp1⟩ := isPm_facts h1
    have EV := Lib.hid hE
    have EG := Lib.hid eg
    have EL := Lib.hid (itr_len l k)
    obtain ⟨n, hn⟩ : ∃ n, l.length = n := ⟨_, rfl⟩
    have IT := Lib.hid (pwL_itr hp1 (pow20 hk))
    rw [hn] at hp1 H1 R1 EL k8 IT
    rw [hn]
    have MF := Lib.hid (fun W => firstNumbers_any n W (by omega))
    have UP := Lib.hid (ups_pt n)
    have MT := Lib.hid (fun W AF cf B0 hB hB0 ho hr => timesP_any B B0 n k (n : Int) AF A0 cf c0 (ups n) l W k8 hB hB0 UP.out hp1 hk ho hr)
    rw [IT.out] at MT
    clear h1 h2 hn eg hp1 hE
    go_enter Try.func47, Try.ntmps47
    go_wp2_with fail
    go_at_call 43
    refine (H1.out w hB R1.out).mono ?_
    rintro e w2 ⟨rfl, hb2⟩
    have HB := Lib.hid hb2
    have hs2 := hb2.size
    clear hb2
    go_wp2_with fail
    go_at_call 73
    refine (isPower_any _ _).mono ?_
    rw [H2.out]
    rintro e w3 ⟨rfl, rfl⟩
    go_wp2_with fail
    go_at_call 92
    refine (MF.out w2).mono ?_
    rintro e w3 ⟨AF, cf, rfl, hof, hb3⟩
    have HB3 := Lib.hid (HB.out.trans (hb3.mono hs2))
    have OF := Lib.hid hof
    have hs3 := hb3.size
    clear hb3 hof
    go_wp2_with fail
    go_at_call 91
    refine (MT.out w3 AF cf w2.heap.size (by omega) hs3 OF.out (R1.out.below' HB3.out hB)).mono ?_
    rintro e w4 ⟨A', c', rfl, ho, hb4⟩
    have HB4 := Lib.hid (HB3.out.trans (hb4.mono (by omega)))
    have O := Lib.hid (ho.base hs2)
    clear hb4 ho
    go_wp2
    go_ret2
    exact ⟨A', c', by rw [EV.out, EG.out, EL.out]; rfl, by rw [EV.out, EL.out]; exact O.out, HB4.out⟩


set_option maxHeartbeats 400000 in
theorem isNaNI_any (x : Int) (w : World) : Calls Try.prog 121 #[.int .i64 x] w fun r w' => r = .returned (.bool false) ∧ w = w' := by
  go_enter Try.func121, Try.ntmps121
  go_wp2
  go_ret
  exact ⟨ret_bool (by simp), rfl⟩
set_option maxHeartbeats 400000 in
theorem lessI_any (x y : Int) (w : World) : Calls Try.prog 112 #[.int .i64 x, .int .i64 y] w fun r w' => r = .returned (.bool (decide (x < y))) ∧ w = w' := by
  by_cases h : x < y
  all_goals
    go_enter Try.func112, Try.ntmps112
    go_wp2_with (go_at_call 121; refine (isNaNI_any _ _).mono ?_; rintro e w' ⟨rfl, rfl⟩)
    go_ret
    exact ⟨ret_bool (by simp [h]), rfl⟩

theorem srtB_bad {l : List Int} {i : Nat} (hi : i + 1 < l.length) (h : l.getD (i + 1) 0 < l.getD i 0) : srtB l = false := by
  unfold srtB
  rw [List.all_eq_false]
  exact ⟨i, by simp; omega, by simp only [decide_eq_true_eq]; omega⟩
theorem srtB_all {l : List Int} (h : ∀ j, j + 1 < l.length → l.getD j 0 ≤ l.getD (j + 1) 0) : srtB l = true := by
  unfold srtB
  rw [List.all_eq_true]
  intro i hi
  simp at hi
  exact decide_eq_true (h i (by omega))
set_option maxRecDepth 100000 in
set_option maxHeartbeats 2000000 in
theorem isSorted_any (B : Nat) (A : Option Addr) (c : Nat) (l : List Int) (w : World) (h0 : 0 < l.length) (h8 : l.length ≤ 8) (hr : Rd w B 1 A l.length (l.map I)) :
    Calls Try.prog 94 #[.slice A l.length c] w fun e w' => e = .returned (.bool (srtB l)) ∧ Dr w w' := by
  have H := Lib.hid hr
  clear hr
  have e1 : (l.length : Int) - 1 = ((l.length - 1 : Nat) : Int) := by omega
  go_enter Try.func94, Try.ntmps94
  go_wp2
  go_loopw [3] (fun iv wr => ∃ i n : Nat, i < l.length ∧ iv = .int .i64 (i : Int) ∧ Hid (∀ j, i ≤ j → j + 1 < l.length → l.getD j 0 ≤ l.getD (j + 1) 0) ∧ wr = w.drewN n) (fun iv _ => (intOf iv).toNat)
  case atStart => exact ⟨l.length - 1, 0, by omega, by rw [← e1], Lib.hid (fun j a b => by omega), rfl⟩
  case round =>
    obtain ⟨i, n, hi, rfl, hq, rfl⟩ := hrel
    clear e1
    by_cases hp : 0 < i
    · obtain ⟨k, rfl⟩ : ∃ k, i = k + 1 := ⟨i - 1, by omega⟩
      obtain ⟨b1, off, rfl, hb, hc1⟩ := H.out.int hi
      obtain ⟨b2, off2, hbb, hb2, hc2⟩ := H.out.int (show k < l.length by omega)
      obtain ⟨rfl, rfl⟩ : b1 = b2 ∧ off = off2 := by injection hbb with hbb; injection hbb with h1 h2; exact ⟨h1, h2⟩
      have SB := Lib.hid (fun h => srtB_bad (l := l) (i := k) hi h)
      have G1 := Lib.hid (getD_at hi)
      have G2 := Lib.hid (getD_at (show k < l.length by omega))
      rw [G1.out, G2.out] at SB
      obtain ⟨x, hx⟩ : ∃ x, l[k + 1] = x := ⟨_, rfl⟩
      obtain ⟨y, hy⟩ : ∃ y, l[k] = y := ⟨_, rfl⟩
      rw [hx] at hc1 SB G1
      rw [hy] at hc2 SB G2
      have ip : (0 : Int) < ((k + 1 : Nat) : Int) := by omega
      have il : ((k + 1 : Nat) : Int) < (l.length : Int) := by omega
      have il2 : (k : Int) < (l.length : Int) := by omega
      have es : IntKind.i64.wrap (((k + 1 : Nat) : Int) - 1) = (k : Int) := by rw [IntWalk.i64_in _ (by omega)]; omega
      have es2 : wrap64 (((k + 1 : Nat) : Int) - 1) = (k : Int) := by unfold wrap64; omega
      clear hx hy hbb
      obtain ⟨K1, hK1⟩ : ∃ K1, k + 1 = K1 := ⟨_, rfl⟩
      rw [hK1] at ip il es es2 hc1 hi
      rw [hK1]
      have HK1 := Lib.hid hK1
      clear hK1
      go_wp2
      refine wp_region_Tw [0, 1, 2, 3, 4, 5, 6, 7, 8] [3, 8] (.lp 0 (.lp 1 (.lp 2 (.lp 4 (.lp 5 (.lp 6 (.lp 7 (.ls 3 (.ls 8 (.hv 9 (.done))))))))))) (by kernel_rfl) (by kernel_rfl) ?_
      (repeat (first | (refine T_lp rfl (fun K hK => ?_); go_simp; refine hK _ ?_; clear hK K) | (refine T_ls rfl rfl (fun K hK => ?_); go_simp; refine hK _ ?_; clear hK K)))
      (refine T_hv rfl (by kernel_rfl) (fun K hK => ?_); go_simp)
      go_at_call 112
      refine (lessI_any _ _ _).mono ?_
      rintro e w' ⟨rfl, rfl⟩
      (go_simp; refine hK _ _ ?_; clear hK K)
      refine T_done ?_
      by_cases hh : x < y
      · have E := Lib.hid (SB.out hh)
        go_wp2
        go_ret
        exact ⟨ret_bool E.out.symm, ⟨n + 1, rfl⟩⟩
      · go_wp2
        go_roundw
        case rel => exact ⟨k, n + 1, by omega, by first | rw [es2] | rw [es] | rfl, Lib.hid (fun j a b => by
          rcases Nat.lt_or_eq_of_le a with h | rfl
          · exact hq.out j (by have := HK1.out; omega) b
          · rw [G1.out, G2.out]; omega), rfl⟩
        case measure => simp [intOf]; have := HK1.out; omega
    · have hi0 : i = 0 := by omega
      subst hi0
      have E := Lib.hid (srtB_all (l := l) (fun j hj => hq.out j (by omega) hj))
      go_wp2
      go_ret
      exact ⟨ret_bool E.out.symm, Dr.mk _ _⟩
end Go.Proofs.Ytbbfbccemonihaa
