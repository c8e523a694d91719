/- DoCommute, of the program. -/
import Derived.Test.YtbbfbccemonihaaRwd
namespace Go.Proofs.Ytbbfbccemonihaa
open Go.RowKit

set_option maxRecDepth 100000 in
set_option maxHeartbeats 4000000 in
theorem implDC_any (B : Nat) (A : Option Addr) (c : Nat) (f : Nat → Option Addr × Nat) (r : Rws) (w : World) (hB : B ≤ w.heap.size) (hR : r.length ≤ 1048576) (hrow : ∀ i, i < r.length → (r.getD i []).length ≤ 1048576) (hcap : r.length ≤ c) (hr : RdW w B A f r) :
    Calls Try.prog 53 #[.slice A r.length c] w fun e w' => e = .returned (.tuple #[.bool (dcB r), .bool (alG r)]) ∧ Below w.heap.size w w' := by
  have HP := Lib.hid (permsLike_any B A c f r w hB hr)
  have HH := Lib.hid (fun (W : World) (hBW : B ≤ W.heap.size) (h : RdW W B A f r) => hasAllP_any B A c f r W hBW hR hrow h)
  have H := Lib.hid hr
  have AL := Lib.hid (show alG r = (decide (r.length ≤ 6) && allA r) from rfl)
  have PT0 := Lib.hid (show allA r = true → ∀ k, k < r.length → (r.getD k []).length = (r.getD 0 []).length ∧ Pt (r.getD 0 []).length (r.getD k []) ∧ (r.getD 0 []).length ≤ 8 from fun h k hk => al_pt h hk)
  obtain ⟨n, hn⟩ : ∃ a, (r.getD 0 []).length = a := ⟨_, rfl⟩
  rw [hn] at HP HH PT0
  clear hr hrow hn
  by_cases h6 : r.length ≤ 6
  case neg =>
    have E1 := Lib.hid (show alG r = false by rw [AL.out, decide_eq_false h6]; rfl)
    have E2 := Lib.hid (show dcB r = false by unfold dcB; rw [E1.out]; rfl)
    have i6 : (6 : Int) < (r.length : Int) := by omega
    clear h6
    go_enter Try.func53, Try.ntmps53
    go_wp2_with fail
    go_at_call 96
    refine HP.out.mono ?_
    rintro e w2 ⟨rfl, hb2⟩
    have HB := Lib.hid (hb2.alloc hb2.size (Obj.cells #[Value.int .i64 (n : Int)] 107))
    clear hb2
    go_wp2
    go_ret2
    exact ⟨by rw [E1.out, E2.out]; rfl, HB.out⟩
  case pos =>
    have i6 : ¬ (6 : Int) < (r.length : Int) := by omega
    cases hall : allA r with
    | false =>
      have E1 := Lib.hid (show alG r = false by rw [AL.out, hall, Bool.and_false])
      have E2 := Lib.hid (show dcB r = false by unfold dcB; rw [E1.out]; rfl)
      rw [hall] at HH
      clear h6 hall
      go_enter Try.func53, Try.ntmps53
      go_wp2_with fail
      go_at_call 96
      refine HP.out.mono ?_
      rintro e w2 ⟨rfl, hb2⟩
      have HB2 := Lib.hid hb2
      have hs2 := hb2.size
      clear hb2
      go_wp2_with fail
      go_at_call 97
      generalize hw1 : World.alloc w2 _ = w3
      obtain ⟨x0, xs, xb⟩ := box1 hw1
      clear hw1
      have HB3 := Lib.hid (HB2.out.trans (xb.mono hs2))
      refine (HH.out w3 (by omega) (H.out.below' HB3.out hB)).mono ?_
      rintro e w4 ⟨rfl, hb4⟩
      have HB4 := Lib.hid (HB3.out.trans (hb4.mono (by omega)))
      clear hb4 x0 xb
      go_wp2
      go_ret2
      exact ⟨by rw [E1.out, E2.out]; rfl, HB4.out⟩
    | true =>
      have E1 := Lib.hid (show alG r = true by rw [AL.out, hall, decide_eq_true h6]; rfl)
      have EV := Lib.hid (show dcB r = cmAll r by unfold dcB; rw [E1.out]; rfl)
      have PT := Lib.hid (PT0.out hall)
      rw [hall] at HH
      have MT := Lib.hid (show ∀ (i j : Nat) (W : World), i < r.length → j < r.length → B ≤ W.heap.size → RdW W B A f r → Calls Try.prog 89 #[.agg #[.int .i64 (n : Int)], .slice (f i).1 n (f i).2, .slice (f j).1 n (f j).2] W fun e w' => ∃ A2 c2, e = .returned (.slice A2 n c2) ∧ OwI w' W.heap.size (.slice A2 n c2) (thn (r.getD i []) (r.getD j [])) ∧ Below W.heap.size W w' from fun i j W hi hj hW h => by
        obtain ⟨a1, a2, a3⟩ := PT.out i hi
        obtain ⟨b1, b2, _⟩ := PT.out j hj
        exact pmMul_any B n _ _ _ _ _ _ _ W a3 hW a2 b2 (by rw [← a1]; exact (h.2 i hi).1) (by rw [← b1]; exact (h.2 j hj).1))
      have SM := Lib.hid (show ∀ (i j : Nat) (A3 A4 : Option Addr) (c3 c4 : Nat) (W : World) (b : Bool), i < r.length → j < r.length → cm r i j = b → Rd W W.heap.size 1 A3 n ((thn (r.getD i []) (r.getD j [])).map I) → Rd W W.heap.size 1 A4 n ((thn (r.getD j []) (r.getD i [])).map I) → Calls Try.prog 98 #[.slice A3 n c3, .slice A4 n c4] W fun e w' => e = .returned (.bool b) ∧ Dr W w' from fun i j A3 A4 c3 c4 W b hi hj hb h3 h4 => by
        obtain ⟨a1, a2, a3⟩ := PT.out i hi
        obtain ⟨b1, b2, _⟩ := PT.out j hj
        have L1 : (thn (r.getD i []) (r.getD j [])).length = n := by rw [thn_len, a1]
        have L2 : (thn (r.getD j []) (r.getD i [])).length = n := by rw [thn_len, b1]
        have h := sliceEqual_any W.heap.size A3 A4 c3 c4 (thn (r.getD i []) (r.getD j [])) (thn (r.getD j []) (r.getD i [])) W (by omega) (by omega) (by rw [L1]; exact h3) (by rw [L2]; exact h4)
        rw [L1, L2, show eqI (thn (r.getD i []) (r.getD j [])) (thn (r.getD j []) (r.getD i [])) = b from hb] at h
        exact h)
      have RD := Lib.hid (show ∀ (i j : Nat) (A3 : Option Addr) (c3 B3 : Nat) (W : World), i < r.length → OwI W B3 (.slice A3 n c3) (thn (r.getD i []) (r.getD j [])) → Rd W W.heap.size 1 A3 n ((thn (r.getD i []) (r.getD j [])).map I) from fun i j A3 c3 B3 W hi ho => by
        have L1 : (thn (r.getD i []) (r.getD j [])).length = n := by rw [thn_len, (PT.out i hi).1]
        have h := OwI.rd (l := thn (r.getD i []) (r.getD j [])) (c := c3) (A := A3) (w := W) (B := B3) (by rw [L1]; exact ho)
        rw [L1] at h
        exact h)
      clear h6 hall
      go_enter Try.func53, Try.ntmps53
      go_wp2_with fail
      go_at_call 96
      refine HP.out.mono ?_
      rintro e w2 ⟨rfl, hb2⟩
      have HB2 := Lib.hid hb2
      have hs2 := hb2.size
      clear hb2
      go_wp2_with fail
      go_at_call 97
      generalize hw1 : World.alloc w2 _ = w3
      obtain ⟨x0, xs, xb⟩ := box1 hw1
      clear hw1
      have HB3 := Lib.hid (HB2.out.trans (xb.mono hs2))
      refine (HH.out w3 (by omega) (H.out.below' HB3.out hB)).mono ?_
      rintro e w4 ⟨rfl, hb4⟩
      have HB4 := Lib.hid (HB3.out.trans (hb4.mono (by omega)))
      have hs4 := hb4.size
      have KB := Lib.hid ((hb4.cell (p := ⟨w2.heap.size, 0, none⟩) (by simp only []; omega)).trans x0)
      clear hb4 x0 xb
      go_wp2
      go_loopw [23] (fun iv wr => ∃ k : Nat, k ≤ r.length ∧ iv = .int .i64 (k : Int) ∧ Hid (∀ i, i < k → ∀ j, j < i → cm r i j = true) ∧ Hid (Below w4.heap.size w4 wr)) (fun iv _ => r.length - (intOf iv).toNat)
      case atStart => exact ⟨0, by omega, rfl, Lib.hid (fun i hi => absurd hi (by omega)), Lib.hid (Below.refl _ _)⟩
      case round =>
        obtain ⟨k, hk, rfl, hok, hbel⟩ := hrel
        have hsz := hbel.out.size
        have BW := Lib.hid (HB4.out.trans (hbel.out.mono (by omega)))
        by_cases hlt : k < r.length
        · obtain ⟨b, off, rfl, hb, hc⟩ := (H.out.below' BW.out hB).at_ hlt
          rw [(PT.out k hlt).1] at hc
          have ik : (k : Int) < (r.length : Int) := by omega
          have ikc : (k : Int) ≤ (c : Int) := by omega
          have ik0 : (0 : Int) ≤ (k : Int) := by omega
          go_wp2
          go_loopw [32] (fun iv wq => ∃ m : Nat, m ≤ k ∧ iv = .int .i64 (m : Int) ∧ Hid (∀ j, j < m → cm r k j = true) ∧ Hid (Below w4.heap.size w4 wq)) (fun iv _ => k - (intOf iv).toNat)
          case atStart => exact ⟨0, by omega, rfl, Lib.hid (fun i hi => absurd hi (by omega)), hbel⟩
          case round =>
            obtain ⟨m, hm, rfl, hokm, hbelm⟩ := hrel
            have hszm := hbelm.out.size
            have BWM := Lib.hid (HB4.out.trans (hbelm.out.mono (by omega)))
            by_cases hltm : m < k
            · have hltr : m < r.length := by omega
              obtain ⟨b', off', hbb, _, hcm⟩ := (H.out.below' BWM.out hB).at_ hltr
              obtain ⟨rfl, rfl⟩ : b = b' ∧ off = off' := by injection hbb with hbb; injection hbb with h1 h2; exact ⟨h1, h2⟩
              rw [(PT.out m hltr).1] at hcm
              have im : (m : Int) < (k : Int) := by omega
              have FS := Lib.hid (show ∀ x, Below wr.heap.size wr x → x.cell? ⟨w2.heap.size, 0, none⟩ = some (.int .i64 (n : Int)) from fun x hx => (hx.cell (p := ⟨w2.heap.size, 0, none⟩) (by simp only []; omega)).trans ((hbelm.out.cell (p := ⟨w2.heap.size, 0, none⟩) (by simp only []; omega)).trans KB.out))
              have SD := Lib.hid (show Below wr.heap.size wr wr.drew from (Below.refl _ _).drew)
              go_wp2
              refine wp_region_T (fun x : World => Below wr.heap.size wr x) [0, 1, 2, 4, 5, 6, 9] [0, 4] (.lp 1 (.lp 2 (.lp 5 (.lp 6 (.ls 0 (.ls 4 (.hv 3 (.hv 7 (.hv 8 (.lp 9 (.done))))))))))) (by kernel_rfl) (by kernel_rfl) ?_
              generalize World.drew wr = wd at SD ⊢
              have hsd := SD.out.size
              have BD := Lib.hid (BWM.out.trans (SD.out.mono (by omega)))
              (repeat (refine T_lp rfl (fun K hK => ?_); go_simp; refine hK _ ?_; clear hK K))
              refine T_ls1 (v := .agg #[.int .i64 (n : Int)]) rfl rfl SD.out (fun x hx => (by have h1 := FS.out x hx; go_simp)) (fun K hK => ?_)
              (go_simp; refine hK _ ?_; clear hK K)
              refine T_ls1 (v := .agg #[.int .i64 (n : Int)]) rfl rfl SD.out (fun x hx => (by have h1 := FS.out x hx; go_simp)) (fun K hK => ?_)
              (go_simp; refine hK _ ?_; clear hK K)
              refine T_hvS rfl (fun K hK => ?_)
              go_simp
              go_at_call 89
              refine (MT.out k m wd hlt hltr (by omega) (H.out.below' BD.out hB)).mono ?_
              rintro e w5 ⟨A3, c3, rfl, ho3, hb3⟩
              have S5 := Lib.hid (SD.out.trans (hb3.mono hsd))
              have hs5 := hb3.size
              have O3 := Lib.hid ho3
              have B5 := Lib.hid (BWM.out.trans (S5.out.mono (by omega)))
              clear hb3 ho3
              go_simp
              refine hK _ _ S5.out ?_
              clear hK K
              (refine T_hv rfl (by kernel_rfl) (fun K hK => ?_); go_simp)
              go_at_call 89
              refine (MT.out m k w5 hltr hlt (by omega) (H.out.below' B5.out hB)).mono ?_
              rintro e w6 ⟨A4, c4, rfl, ho4, hb4⟩
              have S6 := Lib.hid (S5.out.trans (hb4.mono (by omega)))
              have hs6 := hb4.size
              have RO3 := Lib.hid (RD.out k m A3 c3 _ w6 hlt (O3.out.below hb4))
              have RO4 := Lib.hid (RD.out m k A4 c4 _ w6 hltr ho4)
              clear hb4 ho4
              (go_simp; refine hK _ _ ?_; clear hK K)
              cases hcmv : cm r k m with
              | true =>
                have S := Lib.hid (SM.out k m A3 A4 c3 c4 w6 true hlt hltr hcmv RO3.out RO4.out)
                have CV := Lib.hid hcmv
                clear hcmv
                (refine T_hv rfl (by kernel_rfl) (fun K hK => ?_); go_simp)
                go_at_call 98
                refine S.out.mono ?_
                rintro e w7 ⟨rfl, hd⟩
                have S7 := Lib.hid (S6.out.trans ((hd.below w6.heap.size).mono (by omega)))
                have B7 := Lib.hid (hbelm.out.trans (S7.out.mono hszm))
                clear hd
                (go_simp; refine hK _ _ ?_; clear hK K)
                (repeat (refine T_lp rfl (fun K hK => ?_); go_simp; refine hK _ ?_; clear hK K))
                refine T_done ?_
                go_wp2
                go_roundw
                case rel => exact ⟨m + 1, by omega, by go_num, Lib.hid (fun i hi => by
                  rcases Nat.lt_or_eq_of_le (show i ≤ m by omega) with h | rfl
                  · exact hokm.out i h
                  · exact CV.out), B7⟩
                case measure => simp [intOf]; omega
              | false =>
                have S := Lib.hid (SM.out k m A3 A4 c3 c4 w6 false hlt hltr hcmv RO3.out RO4.out)
                have E := Lib.hid (show dcB r = false by rw [EV.out]; exact cmAll_bad hlt hltr hcmv)
                clear hcmv
                (refine T_hv rfl (by kernel_rfl) (fun K hK => ?_); go_simp)
                go_at_call 98
                refine S.out.mono ?_
                rintro e w7 ⟨rfl, hd⟩
                have S7 := Lib.hid (S6.out.trans ((hd.below w6.heap.size).mono (by omega)))
                have B7 := Lib.hid (BWM.out.trans (S7.out.mono (by omega)))
                clear hd
                (go_simp; refine hK _ _ ?_; clear hK K)
                (repeat (refine T_lp rfl (fun K hK => ?_); go_simp; refine hK _ ?_; clear hK K))
                refine T_done ?_
                go_wp2
                go_ret2
                exact ⟨by rw [E.out, E1.out]; rfl, B7.out⟩
            · have hm' : m = k := by omega
              subst hm'
              go_wp2
              go_roundw
              case rel => exact ⟨m + 1, by omega, by go_num, Lib.hid (fun i hi => by
                rcases Nat.lt_or_eq_of_le (show i ≤ m by omega) with h | rfl
                · exact hok.out i h
                · exact hokm.out), hbelm⟩
              case measure => simp [intOf]; omega
        · have hk' : k = r.length := by omega
          have E := Lib.hid (show dcB r = true by
            rw [EV.out]
            refine cmAll_good (fun i hi j hj => ?_)
            rcases Nat.lt_trichotomy j i with h | rfl | h
            · exact hok.out i (by omega) j h
            · exact cm_refl r j
            · rw [cm_symm]; exact hok.out j (by omega) i h)
          subst hk'
          go_wp2
          go_ret2
          exact ⟨by rw [E.out, E1.out]; rfl, BW.out⟩
end Go.Proofs.Ytbbfbccemonihaa
