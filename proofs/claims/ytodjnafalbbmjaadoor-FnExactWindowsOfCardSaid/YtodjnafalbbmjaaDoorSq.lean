/- WindowsOf, by the model. -/
import Derived.Test.YtodjnafalbbmjaaDoorSo
namespace Go.Proofs.YtodjnafalbbmjaaDoor
open Go.RowKit

theorem own_cellsS {w : World} {B n c : Nat} {A : Option Addr} {l : List Int} (h : OwI w B (.slice A n c) l) (hl : l.length = n) (hn : 0 < n) :
    ∃ g, A = some ⟨g, 0, none⟩ ∧ g < w.heap.size ∧ ∀ j, j < n → w.cell? ⟨g, j, none⟩ = some (.int .i64 (l.getD j 0)) := by
  unfold OwI at h
  rw [hl] at h
  obtain ⟨g, rfl, _, h2, h3, _⟩ := own_at h hn
  refine ⟨g, rfl, h2, fun j hj => ?_⟩
  rw [h3 j (by omega), List.getElem?_map, List.getElem?_eq_getElem (by omega), List.getD_eq_getElem?_getD, List.getElem?_eq_getElem (by omega)]
  rfl

/-- Where the model stands. -/
structure Sp (w1 wr : World) (k n i1 j p : Nat) (wv lv : Value) (Wl Ll : List Int) : Prop where
  wl : Wl.length = p
  ll : Ll.length = p
  ow : OwI wr w1.heap.size wv Wl
  ol : OwI wr w1.heap.size lv Ll
  apt : Apt wv lv
  pos : posF Wl = slN k n j
  nn : ∀ x ∈ Wl, 0 ≤ x
  lft : n % 2 ^ i1 = (slI k n j).1
  all : ∀ t, t < j → (slI k n t).1 ≠ 0
  bel : Below w1.heap.size w1 wr

/-- Both rows grow by one number. -/
theorem Sp.grow {w1 wr w3 w5 : World} {k n i1 i2 j j2 p g3 c3 g5 c5 : Nat} {wv lv : Value} {Wl Ll : List Int} {x y : Int} {o o2 : Obj} (h : Sp w1 wr k n i1 j p wv lv Wl Ll) {wr' : World} (hd : Below wr.heap.size wr wr')
    (h3 : OwI w3 w1.heap.size (.slice (some ⟨g3, 0, none⟩) (p + 1) c3) (Wl ++ [x])) (hb3 : Below w1.heap.size (wr'.alloc o) w3) (hat3 : wv.ownBlock = some g3 ∨ g3 = (wr'.alloc o).heap.size)
    (h5 : OwI w5 w1.heap.size (.slice (some ⟨g5, 0, none⟩) (p + 1) c5) (Ll ++ [y])) (hg5 : (w3.alloc o2).grownBy w5 lv.ownBlock) (hb5 : Below w1.heap.size (w3.alloc o2) w5) (hat5 : lv.ownBlock = some g5 ∨ g5 = (w3.alloc o2).heap.size)
    (hx : 0 ≤ x) (hpos : posF (Wl ++ [x]) = slN k n j2) (hl : n % 2 ^ i2 = (slI k n j2).1) (ha : ∀ t, t < j2 → (slI k n t).1 ≠ 0) :
    Sp w1 w5 k n i2 j2 (p + 1) (.slice (some ⟨g3, 0, none⟩) (p + 1) c3) (.slice (some ⟨g5, 0, none⟩) (p + 1) c5) (Wl ++ [x]) (Ll ++ [y]) := by
  have ol := h.ol.below hd
  have ow := h.ow.below hd
  have ap1 : Apt lv (.slice (some ⟨g3, 0, none⟩) (p + 1) c3) := Apt.next (ol.alloc o) h.apt.symm (hat3.imp id fun e => by rw [e]; exact Nat.le_refl _)
  have ap2 : Apt (.slice (some ⟨g3, 0, none⟩) (p + 1) c3) lv := ap1.symm
  have hsz : w1.heap.size ≤ wr'.heap.size := Nat.le_trans h.bel.size hd.size
  refine ⟨by rw [List.length_append, h.wl]; rfl, by rw [List.length_append, h.ll]; rfl, Apt.kept (h3.alloc o2) ap2 hg5, h5, Apt.next (h3.alloc o2) ap2 (hat5.imp id fun e => by rw [e]; exact Nat.le_refl _), hpos, fun z hz => ?_, hl, ha, ?_⟩
  · rcases List.mem_append.1 hz with hz | hz
    · exact h.nn z hz
    · rw [List.mem_singleton.1 hz]; exact hx
  · have s3 := hb3.size
    simp at s3
    exact ((h.bel.trans (hd.mono h.bel.size)).alloc hsz o).trans (hb3.trans (((Below.refl _ _).alloc (by omega) o2).trans hb5))

set_option maxRecDepth 100000 in
set_option maxHeartbeats 4000000 in
theorem meSpans_any (k n : Nat) (w : World) (hk : 1 ≤ k) (hk5 : k ≤ 5) (hn1 : 1 ≤ n) (hn : n ≤ 1000000) :
    Calls Tryd.prog 11 #[.int .i64 (n : Int), .int .i64 (k : Int)] w fun e w' => ∃ (A1 A2 : Option Addr) (c1 c2 p J : Nat) (Wl : List Int), e = .returned (.tuple #[.slice A1 p c1, .slice A2 p c2]) ∧ SlEnd k n J ∧ Wl.length = p ∧ p ≤ 20 ∧ OwI w' w.heap.size (.slice A1 p c1) Wl ∧ posF Wl = slN k n J ∧ (∀ x ∈ Wl, 0 ≤ x) ∧ Below w.heap.size w w' := by
  obtain ⟨hdl, hdg⟩ := dgsS hn
  obtain ⟨L, hL⟩ : ∃ L, Lib.bitLen n = L := ⟨_, rfl⟩
  have hL1 : 1 ≤ L := by rw [← hL]; exact (bl_ge hn1 hn).1
  have hL20 : L ≤ 20 := by rw [← hL]; exact bl_bd hn
  have hnl : n % 2 ^ L = n := by rw [← hL]; exact Nat.mod_eq_of_lt (bl_lt hn)
  rw [hL] at hdl hdg
  have HNL := Lib.hid hnl
  have hD := fun W => meDigits_any 2 n W (by omega) (by omega) hn
  rw [hdl] at hD
  have HD := Lib.hid hD
  have HDL := Lib.hid hdl
  have HDG := Lib.hid hdg
  clear hD hdl hdg hL hnl
  go_enter Tryd.func11, Tryd.ntmps11
  go_wp2_with (go_at_call 16; refine (HD.out _).mono ?_; rintro e w1 ⟨A0, c0, rfl, ho1, hb1⟩; have O1 := Lib.hid ho1; have B1 := Lib.hid hb1; clear ho1 hb1)
  obtain ⟨g0, hg0, hg2, hcell⟩ := own_cellsS O1.out HDL.out hL1
  subst hg0
  have HC := Lib.hid (show ∀ j, j < L → w1.cell? ⟨g0, j, none⟩ = some (.int .i64 ((n / 2 ^ j % 2 : Nat) : Int)) from fun j hj => by rw [hcell j hj, HDG.out j hj])
  have hs1 : w.heap.size ≤ w1.heap.size := B1.out.size
  clear hcell
  go_loopw [7, 8, 9] (fun wv lv iv wr => ∃ (i1 j p : Nat) (A1 A2 : Option Addr) (c1 c2 : Nat) (Wl Ll : List Int) (z : Int), i1 ≤ L ∧ iv = .int .i64 z ∧ z = (i1 : Int) - 1 ∧ wv = .slice A1 p c1 ∧ lv = .slice A2 p c2 ∧ p + i1 ≤ L ∧ Sp w1 wr k n i1 j p (.slice A1 p c1) (.slice A2 p c2) Wl Ll) (fun _ _ iv _ => (intOf iv + 1).toNat)
  case atStart => exact ⟨L, 0, 0, none, none, 0, 0, [], [], _, Nat.le_refl _, rfl, rfl, rfl, rfl, by omega, rfl, rfl, OwI.nil _ _, OwI.nil _ _, (fun _ e => by cases e), rfl, (fun _ h => by cases h), HNL.out, fun _ h => absurd h (by omega), Below.refl _ _⟩
  case round =>
    obtain ⟨i1, j, p, A1, A2, c1, c2, Wl, Ll, z, hi1, rfl, hz, rfl, rfl, hp, hS⟩ := hrel
    have SP := Lib.hid hS
    have hsz : w1.heap.size ≤ wr.heap.size := hS.bel.size
    clear hS
    rcases Nat.eq_zero_or_pos i1 with h0 | hpos
    · have hz1 : z = -1 := by omega
      subst hz1
      have HE := Lib.hid (show SlEnd k n j from ⟨by have := SP.out.lft; rw [h0, Nat.pow_zero, Nat.mod_one] at this; exact this.symm, SP.out.all⟩)
      clear hz h0
      go_wp2
      go_ret2
      exact ⟨A1, A2, c1, c2, p, j, Wl, rfl, HE.out, SP.out.wl, by omega, SP.out.ow.base hs1, SP.out.pos, SP.out.nn, B1.out.trans (SP.out.bel.mono hs1)⟩
    · obtain ⟨i, rfl⟩ : ∃ i, i1 = i + 1 := ⟨i1 - 1, by omega⟩
      have hz1 : z = (i : Int) := by omega
      subst hz1
      have hci := (SP.out.bel.cell (p := ⟨g0, i, none⟩) hg2).trans (HC.out i (by omega))
      have i0 : (0 : Int) ≤ (i : Int) := by omega
      have iL : (i : Int) < (L : Int) := by omega
      clear hz hpos
      rcases Nat.mod_two_eq_zero_or_one (n / 2 ^ i) with hd | hd
      · rw [hd] at hci
        have hlf := mod_low hd
        have HLF := Lib.hid (show n % 2 ^ i = (slI k n j).1 from by rw [← hlf]; exact SP.out.lft)
        clear hd hlf
        go_wp2_with (first
          | (at_builtin; refine wpList_app_intH rfl (.tmp 23) (.tmp 24) rfl w1.heap.size p _ Wl rfl (SP.out.ow.alloc _) SP.out.wl wr.heap.size 1 0 rfl (by rw [World.cell?_alloc_at _ _ _ _ rfl]; rfl) (by omega) (by simp; omega) ?_; intro g3 c3 w3 hown3 hg3 hbel3 hat3; have O3 := Lib.hid hown3; have B3 := Lib.hid hbel3; have T3 := Lib.hid hat3; have hs3 : w1.heap.size ≤ w3.heap.size := Nat.le_trans hsz (Nat.le_trans (Nat.le_succ _) (by have := hbel3.size; simpa using this)); have OL := Lib.hid (Apt.kept (SP.out.ol.alloc _) SP.out.apt.symm hg3); clear hown3 hg3 hbel3 hat3)
          | (at_builtin; refine wpList_app_intH rfl (.tmp 26) (.tmp 27) rfl w1.heap.size p _ Ll rfl (OwI.alloc OL.out _) SP.out.ll w3.heap.size 1 1 rfl (by rw [World.cell?_alloc_at _ _ _ _ rfl]; rfl) (by omega) (by simp; omega) ?_; intro g5 c5 w5 hown5 hg5 hbel5 hat5))
        go_roundw
        case rel =>
          refine ⟨i, j, p + 1, _, _, _, _, _, _, _, by omega, rfl, by rfl, rfl, rfl, by omega, Sp.grow SP.out (Below.refl _ _) O3.out B3.out T3.out hown5 hg5 hbel5 hat5 (by omega) (by rw [posF_zero]; exact SP.out.pos) HLF.out SP.out.all⟩
        case measure => simp [intOf]
      · obtain ⟨l0, low, v, hl0, hlow, hll, hli, hv, hv1, hv6, hzero, hone, hmod, hrem⟩ := sp_one hk hn hd
        rw [hd] at hci
        have hlf := SP.out.lft
        have HSUC := Lib.hid (show slN k n (j + 1) = slN k n j ++ [(v : Int)] from by rw [slN_succ, ← hlf, hlow, hv])
        have HLF := Lib.hid (show n % 2 ^ low = (slI k n (j + 1)).1 from by rw [slI_succ, ← hlf, hlow, hrem])
        have HNZ := Lib.hid (show (slI k n j).1 ≠ 0 from fun e => by rw [hlf, e, Nat.zero_div] at hv; omega)
        have HZ := Lib.hid (show ∀ W, Below w1.heap.size w1 W → ∀ e, l0 ≤ e → e < low → W.cell? ⟨g0, e, none⟩ = some (.int .i64 0) from fun W hb e h1 h2 => by
          have := HC.out e (by omega)
          rw [hzero e h1 h2] at this
          exact (hb.cell (p := ⟨g0, e, none⟩) hg2).trans this)
        have HO := Lib.hid (show ∀ W, Below w1.heap.size w1 W → W.cell? ⟨g0, low, none⟩ = some (.int .i64 1) from fun W hb => by
          have := HC.out low (by omega)
          rw [hone] at this
          exact (hb.cell (p := ⟨g0, low, none⟩) hg2).trans this)
        have MX := Lib.hid (show mostI 0 ((i : Int) - (k : Int) + 1) = (l0 : Int) from by unfold mostI; split <;> omega)
        obtain ⟨qn, hqn⟩ : ∃ q, n / 2 ^ low = q := ⟨_, rfl⟩
        obtain ⟨dn, hdn⟩ : ∃ d, i - low = d := ⟨_, rfl⟩
        rw [hqn, hdn] at hmod
        obtain ⟨d1, hd1⟩ : ∃ d, dn + 1 = d := ⟨_, rfl⟩
        rw [hd1] at hmod
        obtain ⟨P, hP⟩ : ∃ P, 2 ^ d1 = P := ⟨_, rfl⟩
        have hP2 : 0 < P := by rw [← hP]; exact Nat.two_pow_pos _
        have hP3 : P ≤ 2 ^ 20 := by rw [← hP]; exact Nat.pow_le_pow_right (by omega) (by omega)
        rw [hP] at hmod
        have E1 := Lib.hid (show (n : Int) / 2 ^ low = (qn : Int) by rw [← hqn]; push_cast; rfl)
        have E2 := Lib.hid (show (2 : Int) ^ d1 = (P : Int) by rw [← hP]; push_cast; rfl)
        have E3 := Lib.hid (show (qn : Int).tmod (P : Int) = (v : Int) by rw [Int.tmod_eq_emod_of_nonneg (Int.natCast_nonneg _), ← Int.natCast_emod, hmod])
        have hdd : (i : Int) - (low : Int) = (dn : Int) := by omega
        have hdd1 : (dn : Int) + 1 = (d1 : Int) := by omega
        have S4 := Lib.hid (show IntKind.i64.wrap (v : Int) = (v : Int) from IntWalk.i64_in _ (by omega))
        have S1 := Lib.hid (show IntKind.i64.wrap ((i : Int) - (low : Int)) = (dn : Int) by rw [hdd]; exact IntWalk.i64_in _ (by omega))
        have S2 := Lib.hid (show IntKind.i64.wrap ((dn : Int) + 1) = (d1 : Int) by rw [hdd1]; exact IntWalk.i64_in _ (by omega))
        have S3 := Lib.hid (show IntKind.i64.wrap (P : Int) = (P : Int) from IntWalk.i64_in _ (by omega))
        have hd1b : d1 ≤ 21 := by omega
        have hPz : ¬ P = 0 := by omega
        clear hdd hdd1 hd1
        have E4 := Lib.hid (show (qn : Int) % (P : Int) = (v : Int) by rw [← Int.natCast_emod, hmod])
        clear hl0 hlow hv hzero hone hmod hrem hd hlf hqn hP hdn
        go_wp2_with (go_at_call 17; refine (l1Most_any _ _ _).mono ?_; rw [MX.out]; rintro e w' ⟨rfl, hww⟩; subst w')
        clear hci
        obtain ⟨wo, rfl⟩ : ∃ wo, wo = wr := ⟨_, rfl⟩
        go_loopw [10] (fun ev wq => ∃ e : Nat, l0 ≤ e ∧ e ≤ low ∧ ev = .int .i64 (e : Int) ∧ wo = wq) (fun ev _ => low - (intOf ev).toNat)
        case atStart => exact ⟨l0, Nat.le_refl _, hll, rfl, rfl⟩
        case round =>
          obtain ⟨e, he1, he2, rfl, rfl⟩ := hrel
          have ie : (e : Int) < (L : Int) := by omega
          by_cases hlt : e < low
          · have hce := HZ.out wo SP.out.bel e he1 hlt
            go_wp2
            go_roundw
            case rel => exact ⟨e + 1, by omega, by omega, by go_num, trivial⟩
            case measure => simp [intOf]; omega
          · have hee : e = low := by omega
            subst hee
            have hce := HO.out wo SP.out.bel
            clear hlt
            go_wp2
            have s1 := S1.out
            have s2 := S2.out
            have s3 := S3.out
            refine wp_region_Tw [0, 1, 2, 3, 4, 5, 6, 7, 8, 9, 12] [] (.lp 0 (.lp 1 (.lp 2 (.lp 3 (.lp 4 (.lp 5 (.lp 6 (.lp 7 (.lp 8 (.lp 9 (.hv 10 (.hv 11 (.lp 12 (.done)))))))))))))) (by kernel_rfl) (by kernel_rfl) ?_
            (repeat (refine T_lp rfl (fun K hK => ?_); go_simp; refine hK _ ?_; clear hK K))
            rw [E1.out, E2.out]
            try rw [Int.one_mul]
            rw [S3.out]
            have e3 := E3.out
            have e4 := E4.out
            have s4 := S4.out
            (repeat (refine T_lp rfl (fun K hK => ?_); go_simp; refine hK _ ?_; clear hK K))
            (refine T_hv rfl (by kernel_rfl) (fun K hK => ?_); go_simp; refine hK _ _ ?_; clear hK K)
            clear e3 e4 s4 s1 s2 s3
            refine T_hv rfl (by kernel_rfl) (fun K hK => ?_)
            refine step_app_intH rfl (.tmp 43) (.tmp 53) rfl w1.heap.size p _ Wl rfl (OwI.drew (OwI.alloc SP.out.ow _)) SP.out.wl wo.heap.size 1 (v : Int) rfl (show World.cell? (wo.alloc _) _ = _ from by rw [World.cell?_alloc_at _ _ _ _ rfl]; rfl) (by omega) (by simp; omega) ?_
            intro g3 c3 w3 hown3 hg3 hbel3 hat3
            have O3 := Lib.hid hown3
            have B3 := Lib.hid hbel3
            have T3 := Lib.hid hat3
            have hs3 : w1.heap.size ≤ w3.heap.size := Nat.le_trans hsz (Nat.le_trans (Nat.le_succ _) (by have := hbel3.size; simpa using this))
            have OL := Lib.hid (Apt.kept (OwI.drew (OwI.alloc SP.out.ol _)) SP.out.apt.symm hg3)
            clear hown3 hg3 hbel3 hat3
            (go_simp; refine hK _ _ ?_; clear hK K)
            (repeat (refine T_lp rfl (fun K hK => ?_); go_simp; refine hK _ ?_; clear hK K))
            refine T_done ?_
            go_wp2_with (at_builtin; refine wpList_app_intH rfl (.tmp 55) (.tmp 60) rfl w1.heap.size p _ Ll rfl (OwI.alloc OL.out _) SP.out.ll w3.heap.size 1 _ rfl (by rw [World.cell?_alloc_at _ _ _ _ rfl]; rfl) (by omega) (by simp; omega) ?_; intro g5 c5 w5 hown5 hg5 hbel5 hat5)
            go_roundw
            case rel =>
              refine ⟨e, j + 1, p + 1, _, _, _, _, _, _, _, by omega, rfl, by rfl, rfl, rfl, by omega, Sp.grow (wr' := wo.drew) (o := .cells #[.int .i64 (v : Int)] 3) SP.out ((Below.refl _ _).drew) O3.out B3.out T3.out hown5 hg5 hbel5 hat5 (by omega) ?_ HLF.out ?_⟩
              · rw [posF_pos _ hv1, HSUC.out, SP.out.pos]
              · intro t ht
                rcases Nat.lt_or_eq_of_le (Nat.lt_succ_iff.1 ht) with h | h
                · exact SP.out.all t h
                · rw [h]; exact HNZ.out
            case measure => simp [intOf]; omega
end Go.Proofs.YtodjnafalbbmjaaDoor
