/- The tree of powers, by the program; TreeChain of both sides. -/
import Derived.Test.YtodjnafalbbmjabYe
namespace Go.Proofs.Ytodjnafalbbmjab
open Go.RowKit

def trB (x : Int) : Bool := inB x 1 400
def trR (x : Int) : List Int := if trB x then cs (twN x.toNat) else []
theorem trB_rng {x : Int} (h : trB x = true) : 1 ≤ x ∧ x ≤ 400 := by simpa [trB, inB] using h
theorem trR_le (x : Int) : (trR x).length ≤ 1000 := by
  unfold trR
  split
  · rename_i h
    have ⟨h1, h2⟩ := trB_rng h
    rw [cs_len]
    have := twN_len (n := x.toNat) (by omega)
    omega
  · simp
theorem trR_true {n : Nat} (h : trB (n : Int) = true) : trR (n : Int) = cs (twN n) := by unfold trR; rw [if_pos h]; rfl
theorem trR_false {x : Int} (h : trB x = false) : trR x = [] := by unfold trR; rw [h]; rfl

set_option maxRecDepth 100000 in
set_option maxHeartbeats 1000000 in
theorem specTree_any (x : Int) (w : World) : Calls Try.prog 12 #[.int .i64 x] w fun e w' =>
    ∃ A' c', e = .returned (.tuple #[.slice A' (trR x).length c', .bool (trB x)]) ∧ OwI w' w.heap.size (.slice A' (trR x).length c') (trR x) ∧ Below w.heap.size w w' := by
  cases hg : trB x with
  | false =>
    have HG := Lib.hid hg
    have E := Lib.hid (trR_false hg)
    clear hg
    go_enter Try.func12, Try.ntmps12
    go_wp2_with (go_at_call 29; refine (l1In_any _ _ _ _).mono ?_; rw [show inB x 1 400 = false from HG.out]; rintro e w' ⟨rfl, rfl⟩)
    go_ret2
    exact ⟨none, 0, by rw [E.out]; rfl, by rw [E.out]; exact OwI.nil _ _, Below.refl _ _⟩
  | true =>
    have ⟨h1, h2⟩ := trB_rng hg
    obtain ⟨n, rfl⟩ : ∃ n : Nat, x = n := ⟨x.toNat, by omega⟩
    have HM := Lib.hid (fun W => meTree_any n W (by omega) (by omega))
    have E := Lib.hid (trR_true hg)
    have HG := Lib.hid hg
    clear hg
    go_enter Try.func12, Try.ntmps12
    go_wp2_with (first | (go_at_call 29; refine (l1In_any _ _ _ _).mono ?_; rw [show inB (n : Int) 1 400 = true from HG.out]; rintro e w' ⟨rfl, rfl⟩) | (go_at_call 34; refine (HM.out _).mono ?_; rintro e w' ⟨A2, c2, rfl, ho2, hb2⟩))
    go_ret2
    exact ⟨A2, c2, by rw [E.out, cs_len]; rfl, by rw [E.out, cs_len]; exact ho2, hb2⟩

theorem nil_yes (W : World) : (binOp .eql 22 (.slice none 0 0) (.slice none 0 0)).run Try.prog W = .ok (.bool true) W := eq_nil_I none 0 0 W
theorem nil_no (ad : Addr) (n c : Nat) (W : World) : (binOp .eql 22 (.slice (some ad) n c) (.slice none 0 0)).run Try.prog W = .ok (.bool false) W := eq_nil_I (some ad) n c W

set_option maxRecDepth 100000 in
set_option maxHeartbeats 4000000 in
theorem implTree_some (n : Nat) (w : World) (h1 : 1 ≤ n) (hn : n ≤ 400) : Calls Try.prog 13 #[.int .i64 (n : Int)] w fun e w' =>
    ∃ A' c', e = .returned (.tuple #[.slice A' (twN n).length c', .bool true]) ∧ OwI w' w.heap.size (.slice A' (twN n).length c') (cs (twN n)) ∧ Below w.heap.size w w' := by
  have hmk : ∀ W : World, (Instr.makeSlice 45 (.int .i64 401) (.int .i64 401)).run Try.prog W = .ok (.slice (some ⟨W.heap.size, 0, none⟩) 401 401) (W.alloc (.cells (madeCells #[.slice none 0 0] 401) 22)) := run_make_row' (P := Try.prog) 45 22 (.slice none 0 0) 24 Try.underlying45 info_ints rfl .i64 .i64 401 (by omega) (by omega)
  have in1 : ¬ (n : Int) < 1 := by omega
  have in2 : ¬ (400 : Int) < (n : Int) := by omega
  go_enter Try.func13, Try.ntmps13
  go_upto_region 4 with fail
  clear hmk
  generalize hw1 : World.alloc w _ = w1
  have z1 : w1.heap.size = w.heap.size + 1 := by rw [← hw1]; simp
  have Z1 := Lib.hid z1
  have ho := own_reps w (.slice none 0 0) w.heap.size 401 (by omega) (Nat.le_refl _)
  rw [hw1] at ho
  have f1 : ∀ o, (w1.alloc o).frozen? ⟨w.heap.size, 1, none⟩ = false := fun o => (ho.alloc o).frozenAt _
  have c1 : ∀ o, (w1.alloc o).cell? ⟨w.heap.size, 1, none⟩ = some (.slice none 0 0) := fun o => by rw [(ho.alloc o).cellAt 1 (by omega), List.getElem?_replicate, if_pos (by omega)]
  have HW1 := Lib.hid hw1
  clear ho z1 hw1
  go_wp2
  clear f1 c1
  generalize hw2 : World.alloc (World.setCell (World.alloc w1 _) _ _) _ = w2
  have HT := Lib.hid (Tq.start HW1.out hw2)
  clear hw2
  go_loopg [5] 400 (fun g qv wr => ∃ t k gq off cap : Nat, g = 400 - t ∧ qv = .slice (some ⟨gq, off, none⟩) k cap ∧ Tq w wr (tR 400 t) t k gq off cap)
  case atStart => exact ⟨0, 1, _, 0, 1, rfl, rfl, HT.out⟩
  case round =>
    obtain ⟨t, k, gq, off, cap, hg, rfl, hT⟩ := hrel
    have hI := tR_inv (C := 400) (by omega) t
    have htQ := hT.le
    obtain ⟨s, hs⟩ : ∃ s, tR 400 t = s := ⟨_, rfl⟩
    rw [hs] at hT hI htQ
    have HG := Lib.hid hg
    have HS := Lib.hid hs
    have HTQ := Lib.hid hT
    have HI := Lib.hid hI
    have hsz := hT.sz
    obtain ⟨vn, hcn, hfn, hvn⟩ := hT.at_ hn
    by_cases hdone : s.W n ≠ []
    · obtain ⟨gn, cn, rfl⟩ := hvn.2.2.2 hdone
      have hno := nil_no ⟨gn, 0, none⟩ (s.W n).length cn
      have E := Lib.hid (show s.W n = twN n from by
        rw [← hs] at hdone htQ ⊢
        exact tw_impl h1 hn htQ hdone)
      have HVN := Lib.hid hvn
      clear hT hI hs hg hvn hdone htQ
      obtain ⟨ln, hln⟩ : ∃ ln, (s.W n).length = ln := ⟨_, rfl⟩
      rw [hln] at hcn hno
      have HLN := Lib.hid hln
      clear hln
      go_wp2
      go_ret2
      refine ⟨some ⟨gn, 0, none⟩, cn, by rw [← E.out, HLN.out]; rfl, ?_, HTQ.out.bel⟩
      rw [← E.out]
      exact HVN.out.1.base (by omega)
    · have h0 : s.W n = [] := Classical.not_not.1 hdone
      have hvn0 := hvn.2.2.1 h0
      subst hvn0
      have htk : t < s.Q.length := by
        have h := tR_more h1 hn (t := t) (by rw [hs]; exact htQ) (by rw [hs]; exact h0)
        rw [hs] at h
        exact h
      have hq400 := tI_len hI
      have hkl : (s.Q.drop t).length = k := by have h := hT.q.1; rw [cs_len] at h; exact h
      have hk1 : 1 ≤ k := by rw [← hkl, List.length_drop]; omega
      obtain ⟨m, hm⟩ : ∃ m, s.Q.getD t 0 = m := ⟨_, rfl⟩
      have hcq := hT.q.at (j := 0) (by omega)
      rw [Nat.add_zero, cs_getD, drop_at, Nat.add_zero, hm] at hcq
      have hWm : s.W m ≠ [] := (hI.mem m).1 (by rw [← hm]; exact getD_mem htk)
      have hmr := hI.rng m hWm
      have hlm1 := hI.len m
      obtain ⟨vm, hcm, hfm, hvm⟩ := hT.at_ hmr.2
      obtain ⟨gm, cm, rfl⟩ := hvm.2.2.2 hWm
      obtain ⟨lm, hlm⟩ : ∃ lm, (s.W m).length = lm := ⟨_, rfl⟩
      rw [hlm] at hcm hvm hlm1
      have hlm0 : 1 ≤ lm := by
        rcases Nat.eq_zero_or_pos lm with h | h
        · exact absurd (List.eq_nil_of_length_eq_zero (hlm.trans h)) hWm
        · exact h
      have HLM := Lib.hid hlm
      have HVM := Lib.hid hvm
      have HWM := Lib.hid hWm
      have hnext : tR 400 (t + 1) = tM 400 ((tR 400 t).Q.getD t 0) (tR 400 t) := rfl
      rw [hs, hm] at hnext
      have HN := Lib.hid hnext
      have ik : (0 : Int) < (k : Int) := by omega
      have hyes := nil_yes
      clear hT hI hs hg hvn hdone htQ h0 hkl hm hWm hfm hvm hlm hnext
      go_wp2
      clear hcn hfn hcq hcm
      obtain ⟨wo, rfl⟩ : ∃ wo, wo = wr := ⟨_, rfl⟩
      go_loopw [5, 35] (fun qv jv wq => ∃ j k' gq' off' cap' : Nat, j ≤ lm ∧ jv = .int .i64 (j : Int) ∧ qv = .slice (some ⟨gq', off', none⟩) k' cap' ∧ Tq w wq (tJ 400 m s j) t k' gq' off' cap' ∧ RowV wq (w.heap.size + 1) gq' (.slice (some ⟨gm, 0, none⟩) lm cm) (s.W m)) (fun _ j _ => lm - (intOf j).toNat)
      case atStart => exact ⟨0, k, gq, off, cap, by omega, rfl, rfl, HTQ.out, HVM.out⟩
      case round =>
        obtain ⟨j, kq, gq', off', cap', hj, rfl, rfl, hTq, hRq⟩ := hrel
        have hJ := tJ_facts HI.out HWM.out j
        have hJs := fun h => tJ_succ 400 m s (j := j) h
        obtain ⟨S, hS⟩ : ∃ S, tJ 400 m s j = S := ⟨_, rfl⟩
        rw [hS] at hTq hJ hJs
        obtain ⟨hSI, hSle, hSm⟩ := hJ
        have HTq := Lib.hid hTq
        have HRq := Lib.hid hRq
        have HSS := Lib.hid hS
        have hszq := HTq.out.sz
        clear hTq hS
        by_cases hjl : j < lm
        · obtain ⟨a, ha⟩ : ∃ a, (s.W m).getD j 0 = a := ⟨_, rfl⟩
          have hjl' : j < (s.W m).length := by rw [HLM.out]; exact hjl
          have hae : (s.W m)[j] = a := by rw [← ha, List.getD_eq_getElem?_getD, List.getElem?_eq_getElem hjl']; rfl
          have har := HI.out.els m a (by rw [← ha]; exact getD_mem hjl')
          have hstep := hJs hjl'
          rw [hae] at hstep
          obtain ⟨gm', hgm0, _, hgm3, hcw⟩ := own_cells hRq.1 (by rw [cs_len]; exact HLM.out) (by omega)
          injection hgm0 with hgm0
          injection hgm0 with hgm0 _ _
          subst hgm0
          have hcj := hcw j hjl
          rw [cs_getD, ha] at hcj
          have ijl : (j : Int) < (lm : Int) := by omega
          by_cases hle : m + a ≤ 400
          · have ile : (m : Int) + (a : Int) ≤ 400 := by omega
            obtain ⟨va, hca, hfa, hva⟩ := HTq.out.at_ hle
            by_cases hz : S.W (m + a) = []
            · have hva0 := hva.2.2.1 hz
              subst hva0
              obtain ⟨vm2, hcm2, hfm2, hvm2⟩ := HTq.out.at_ hmr.2
              rw [hSm] at hvm2
              obtain ⟨gm2, cm2, rfl⟩ := hvm2.2.2.2 HWM.out
              rw [HLM.out] at hcm2 hvm2
              have hcl := cs_len (s.W m)
              rw [HLM.out] at hcl
              have RD := Lib.hid (show Rd wr wr.heap.size 1 (some ⟨gm2, 0, none⟩) lm ((cs (s.W m)).map I) from by
                have h := OwI.rd (by rw [hcl]; exact hvm2.1)
                rw [hcl] at h
                exact h)
              have HCL := Lib.hid (fun W (hr : Rd W wr.heap.size 1 (some ⟨gm2, 0, none⟩) lm ((cs (s.W m)).map I)) (hz : wr.heap.size ≤ W.heap.size) => by
                have h := cloneI_any wr.heap.size (some ⟨gm2, 0, none⟩) cm2 (cs (s.W m)) W (by rw [hcl]; omega) (by rw [hcl]; omega) hz (by rw [hcl]; exact hr)
                rw [hcl] at h
                exact h)
              have HST := Lib.hid hstep
              have HZ := Lib.hid hz
              have HCC := Lib.hid hcl
              have HSM := Lib.hid hSm
              have hSQ := tI_len hSI
              have hkq := HTq.out.q.1
              rw [cs_len, List.length_drop] at hkq
              have hkq3 : kq ≤ 400 := by omega
              have HFA := Lib.hid hfa
              have HCA := Lib.hid hca
              clear hSI hSle hSm hJs hRq hjl' ha hae hstep hcw hva hz hvm2 hfm2 hcl hSQ hkq
              go_wp2_with fail
              go_at_call 35
              refine (HCL.out _ RD.out (Nat.le_refl _)).mono ?_
              rintro e w2 ⟨A2, c2, rfl, ho2, hb2⟩
              have HO2 := Lib.hid ho2
              have HB2 := Lib.hid hb2
              have hs2 := hb2.size
              clear ho2 hb2 hcj hca hcm2 hfa
              go_wp2_with (first
                | (at_builtin; refine wpList_app_intH rfl (.tmp 60) (.tmp 64) rfl wr.heap.size lm _ (cs (s.W m)) rfl (HO2.out.alloc _) HCC.out w2.heap.size 1 ((m : Int) + (a : Int)) rfl (by rw [World.cell?_alloc_at _ _ _ _ (by simp)]; rfl) (by omega) (by simp; omega) ?_; intro g3 c3 w3 hown3 hg3 hbel3 hat3; have HB3 := Lib.hid (HB2.out.trans (((Below.refl _ _).alloc hs2 _).trans hbel3)); have f3 := (HB3.out.frozen (p := ⟨w.heap.size, m + a, none⟩) (by simp only []; omega)).trans HFA.out; have c3' := (HB3.out.cell (p := ⟨w.heap.size, m + a, none⟩) (by simp only []; omega)).trans HCA.out; have hs3 := HB3.out.size; have HQ3 := Lib.hid (HTq.out.q.below HB3.out); have HO3 := Lib.hid hown3; clear hown3 hg3 hbel3 hat3)
                | (at_builtin; refine wpList_appQ rfl (.tmp 67) (.tmp 71) rfl (w.heap.size + 1) gq' off' kq cap' (cs (S.Q.drop t)) rfl ((HQ3.out.setO (by have := HQ3.out.2.2.1; omega) _).alloc _) w3.heap.size 1 ((m : Int) + (a : Int)) rfl (by rw [World.cell?_alloc_at _ _ _ _ (by simp)]; rfl) (by omega) (by simp; omega) ?_; intro g5 off5 cap5 w5 hq5 hg5 hb5 hat5))
              go_roundw
              case rel =>
                have hat5' : g5 = gq' ∨ w3.heap.size ≤ g5 := hat5.imp id fun h => by simp at h; omega
                refine ⟨j + 1, kq + 1, g5, off5, cap5, by omega, by go_num, rfl, ?_, ?_⟩
                · rw [HST.out]
                  exact Tq.add HTq.out hle HZ.out (by rw [HSM.out, HLM.out]) HB3.out (by rw [HSM.out]; exact HO3.out) hq5 hg5 hb5 hat5'
                · exact HRq.out.step HB3.out (by omega) hg5 hat5'
              case measure => simp [intOf]; omega
            · obtain ⟨ga, ca, rfl⟩ := hva.2.2.2 hz
              have hno := nil_no ⟨ga, 0, none⟩ (S.W (m + a)).length ca
              obtain ⟨la, hla⟩ : ∃ la, (S.W (m + a)).length = la := ⟨_, rfl⟩
              rw [hla] at hca hno
              have HST := Lib.hid (hstep.trans (tA_has hz))
              clear hSI hSle hSm hJs hRq hjl' ha hae hstep hcw hva hz hla
              go_wp2
              go_roundw
              case rel => exact ⟨j + 1, kq, gq', off', cap', by omega, by go_num, rfl, by rw [HST.out]; exact HTq.out, HRq.out⟩
              case measure => simp [intOf]; omega
          · have ile : ¬ (m : Int) + (a : Int) ≤ 400 := by omega
            have HST := Lib.hid (hstep.trans (tA_big hle))
            clear hSI hSle hSm hJs hRq hjl' ha hae hstep hcw
            go_wp2
            go_roundw
            case rel => exact ⟨j + 1, kq, gq', off', cap', by omega, by go_num, rfl, by rw [HST.out]; exact HTq.out, HRq.out⟩
            case measure => simp [intOf]; omega
        · have hje : j = lm := by omega
          have HE := Lib.hid (show tR 400 (t + 1) = S from by
            rw [HN.out, ← tJ_end, HLM.out, ← hje]
            exact HSS.out)
          have ijl : ¬ (j : Int) < (lm : Int) := by omega
          have hkq : (S.Q.drop t).length = kq := by have h := HTq.out.q.1; rw [cs_len] at h; exact h
          have hq2 := hSle.qlen
          rw [List.length_drop] at hkq
          obtain ⟨k2, rfl⟩ : ∃ k2, kq = k2 + 1 := ⟨kq - 1, by omega⟩
          have hcapk := HTq.out.q.2.1
          obtain ⟨p1, p2⟩ := HTq.out.pop
          have P1 := Lib.hid p1
          have P2 := Lib.hid p2
          clear hje hSI hSle hSm hJs hRq hkq p1 p2
          by_cases hc1 : cap' = 1
          · obtain ⟨hk2, hT2⟩ := P2.out hc1
            subst hk2
            subst hc1
            have HT2 := Lib.hid hT2
            clear hT2
            go_wp2
            go_roundg (400 - (t + 1))
            case measure => rw [HG.out]; omega
            case rel => exact ⟨t + 1, 0, gq', off', 0, rfl, rfl, by rw [HE.out]; exact HT2.out⟩
          · have HT2 := Lib.hid (P1.out (by omega))
            go_wp2
            go_roundg (400 - (t + 1))
            case measure => rw [HG.out]; omega
            case rel => exact ⟨t + 1, k2, gq', off' + 1, cap' - 1, rfl, rfl, by rw [HE.out]; exact HT2.out⟩

set_option maxRecDepth 100000 in
set_option maxHeartbeats 1000000 in
theorem implTree_any (x : Int) (w : World) : Calls Try.prog 13 #[.int .i64 x] w fun e w' =>
    ∃ A' c', e = .returned (.tuple #[.slice A' (trR x).length c', .bool (trB x)]) ∧ OwI w' w.heap.size (.slice A' (trR x).length c') (trR x) ∧ Below w.heap.size w w' := by
  cases hg : trB x with
  | false =>
    have E := Lib.hid (trR_false hg)
    have hb : x < 1 ∨ 400 < x := by
      by_cases h1 : x < 1
      · exact .inl h1
      · refine .inr ?_
        by_cases h2 : 400 < x
        · exact h2
        · have : trB x = true := by unfold trB inB; simp; omega
          rw [this] at hg
          cases hg
    clear hg
    by_cases h1 : x < 1
    · go_enter Try.func13, Try.ntmps13
      go_wp2
      go_ret2
      exact ⟨none, 0, by rw [E.out]; rfl, by rw [E.out]; exact OwI.nil _ _, Below.refl _ _⟩
    · have h2 : 400 < x := by omega
      clear hb
      go_enter Try.func13, Try.ntmps13
      go_wp2
      go_ret2
      exact ⟨none, 0, by rw [E.out]; rfl, by rw [E.out]; exact OwI.nil _ _, Below.refl _ _⟩
  | true =>
    have ⟨h1, h2⟩ := trB_rng hg
    obtain ⟨n, rfl⟩ : ∃ n : Nat, x = n := ⟨x.toNat, by omega⟩
    have E := trR_true hg
    refine (implTree_some n w (by omega) (by omega)).mono ?_
    rintro e w' ⟨A2, c2, rfl, ho, hb⟩
    exact ⟨A2, c2, by rw [E, cs_len], by rw [E, cs_len]; exact ho, hb⟩
end Go.Proofs.Ytodjnafalbbmjab
