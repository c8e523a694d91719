/- RunCode and CodeDepth of the model. -/
import Derived.Test.YtpopomcaknbhnaaH8k
import Derived.Test.YtpopomcaknbhnaaH8m
namespace Go.Proofs.Ytpopomcaknbhnaa
open Go.RowKit
theorem most_mx (a b : Int) : mostI a b = mx a b := by unfold mostI mx; split <;> split <;> omega
theorem mostMx_any (a b : Int) (w : World) : Calls Try.prog 78 #[.int .i64 a, .int .i64 b] w fun e w' => e = .returned (.int .i64 (mx a b)) ∧ w = w' := by
  have h := l1Most_any a b w
  rw [most_mx] at h
  exact h
set_option maxRecDepth 100000 in
set_option maxHeartbeats 1000000 in
theorem poMod_any (m : Nat) (n : Int) (w : World) (hm : 0 < m) (hm2 : m ≤ 1000000) : Calls Try.prog 70 #[.int .i64 n, .int .i64 (m : Int)] w fun e w' => e = .returned (.int .i64 (n % (m : Int))) ∧ w = w' := by
  have b1 := Int.lt_tmod_of_pos n (show (0 : Int) < m by omega)
  have b2 := Int.tmod_lt_of_pos n (show (0 : Int) < m by omega)
  have e1 := rem_eq n m hm
  obtain ⟨t, ht⟩ : ∃ t, n.tmod (m : Int) = t := ⟨_, rfl⟩
  rw [ht] at b1 b2 e1
  have hz : ¬ m = 0 := by omega
  rw [Int.tmod_eq_emod_of_nonneg (by omega)] at e1
  have E := Lib.hid e1
  have w1 := IntWalk.i64_in t (by omega)
  have w2 := IntWalk.i64_in (t + (m : Int)) (by omega)
  clear e1
  go_enter Try.func70, Try.ntmps70
  go_wp2
  go_ret
  exact ⟨by rw [E.out]; rfl, rfl⟩
set_option maxRecDepth 100000 in
theorem poModulus_any (x m : Int) (w : World) : Calls Try.prog 69 #[.int .i64 x, .int .i64 m] w fun e w' => e = .returned (.bool (isC x && (decide (1 ≤ m) && decide (m ≤ 1000000)))) ∧ w = w' := by
  have L1 := Lib.hid (show ∀ W, Calls Try.prog 93 #[.int .i64 x, .int .i64 (-1000000), .int .i64 1000000] W fun e w' => e = .returned (.bool (isC x)) ∧ W = w' from fun W => l1In_any x _ _ W)
  have L2 := Lib.hid (show ∀ W, Calls Try.prog 93 #[.int .i64 m, .int .i64 1, .int .i64 1000000] W fun e w' => e = .returned (.bool (decide (1 ≤ m) && decide (m ≤ 1000000))) ∧ W = w' from fun W => l1In_any m _ _ W)
  obtain ⟨a, ha⟩ : ∃ a, isC x = a := ⟨_, rfl⟩
  obtain ⟨b, hb⟩ : ∃ b, (decide (1 ≤ m) && decide (m ≤ 1000000)) = b := ⟨_, rfl⟩
  rw [ha] at L1
  rw [hb] at L2
  rw [ha, hb]
  clear ha hb
  go_enter Try.func69, Try.ntmps69
  go_wp2_with fail
  go_at_call 93
  refine (L1.out _).mono ?_
  rintro e w' ⟨rfl, rfl⟩
  cases a with
  | false =>
    go_wp2
    go_ret
    exact ⟨rfl, rfl⟩
  | true =>
    go_wp2_with (go_at_call 93; refine (L2.out _).mono ?_; rintro e w' ⟨rfl, rfl⟩)
    go_ret
    exact ⟨rfl, rfl⟩

set_option maxRecDepth 100000 in
set_option maxHeartbeats 8000000 in
theorem specRun8_any (B : Nat) (A : Option Addr) (c : Nat) (q : Cd) (x mm : Int) (w : World) (hB : B ≤ w.heap.size) (hl : q.ops.length ≤ 1048576) (_hc : q.ops.length ≤ c) (hr : RdD w B A q) :
    Calls Try.prog 24 #[.agg #[.slice A q.ops.length c, .int .i64 q.out], .int .i64 x, .int .i64 mm] w fun e w' => e = .returned (.tuple #[.int .i64 (rcA8 q x mm), .bool (rcG q x mm)]) ∧ Below w.heap.size w w' := by
  have IC := Lib.hid (fun (W : World) (hb : Below w.heap.size w W) => poGood_any B A c q W (by have := hb.size; omega) hl (hr.below' hb hB))
  have H := Lib.hid hr
  have MX := Lib.hid (fun W => poModulus_any x mm W)
  clear hr
  have RG := Lib.hid (show rcG q x mm = (cdB q && (isC x && (decide (1 ≤ mm) && decide (mm ≤ 1000000)))) from rfl)
  have RB := Lib.hid (fun h => rc_bad (q := q) (x := x) (m := mm) h)
  cases hg : cdB q with
  | false =>
    have G := Lib.hid (show rcG q x mm = false by rw [RG.out, hg]; rfl)
    have E := Lib.hid (RB.out G.out)
    rw [hg] at IC
    clear hg
    go_enter Try.func24, Try.ntmps24
    go_wp2_with fail
    go_at_call 65
    generalize hw1 : World.alloc w _ = w0
    obtain ⟨⟨x0, x1⟩, xs, xb⟩ := bx2c hw1
    clear hw1
    refine (IC.out _ xb).mono ?_
    rintro e w2 ⟨rfl, hb2⟩
    have HB2 := Lib.hid (xb.trans (hb2.mono (by omega)))
    clear hb2 xb xs x0 x1
    go_wp2
    go_ret2
    exact ⟨by rw [E.out, G.out]; rfl, HB2.out⟩
  | true =>
    rw [hg] at IC
    cases hx : (isC x && (decide (1 ≤ mm) && decide (mm ≤ 1000000))) with
    | false =>
      have G := Lib.hid (show rcG q x mm = false by rw [RG.out, hx]; simp)
      have E := Lib.hid (RB.out G.out)
      rw [hx] at MX
      clear hg hx
      go_enter Try.func24, Try.ntmps24
      go_wp2_with fail
      go_at_call 65
      generalize hw1 : World.alloc w _ = w0
      obtain ⟨⟨x0, x1⟩, xs, xb⟩ := bx2c hw1
      clear hw1
      refine (IC.out _ xb).mono ?_
      rintro e w2 ⟨rfl, hb2⟩
      have HB2 := Lib.hid (xb.trans (hb2.mono (by omega)))
      clear hb2 xb xs x0 x1
      go_wp2_with (go_at_call 69; refine (MX.out _).mono ?_; rintro e w3 ⟨rfl, rfl⟩)
      go_ret2
      exact ⟨by rw [E.out, G.out]; rfl, HB2.out⟩
    | true =>
  rw [hx] at MX
  have hx2 := hx
  simp only [Bool.and_eq_true, decide_eq_true_eq] at hx2
  obtain ⟨m, rfl⟩ : ∃ m : Nat, mm = m := ⟨mm.toNat, by omega⟩
  have hm : 0 < m := by omega
  have hm2 : m ≤ 1000000 := by omega
  obtain ⟨f0, f1, f2, f4⟩ := cdB_facts hg
  obtain ⟨i0, hi0⟩ : ∃ i : Nat, q.out = i := ⟨q.out.toNat, by omega⟩
  have hin : i0 < q.ops.length + 1 := by omega
  have G := Lib.hid (show rcG q x (m : Int) = true by rw [RG.out, hg, hx]; rfl)
  have E := Lib.hid (rc_good G.out hi0)
  have BD := Lib.hid (show ∀ k, k ≤ q.ops.length → ∀ v ∈ gvs (rmV (m : Int)) (x % (m : Int)) q.ops k, 0 ≤ v ∧ v < (m : Int) from rm_rng (by omega) q.ops)
  have GD := Lib.hid (fun k (hk : k < q.ops.length) => opsG_at f4 hk)
  have PM := Lib.hid (fun n W => poMod_any m n W hm hm2)
  have hgl0 := gvs_len (rmV (m : Int)) (x % (m : Int)) q.ops q.ops.length
  have IC := Lib.hid (fun W h1 => by have h := IC.out W h1; rw [hi0] at h; exact h)
  rw [hi0]
  have HI0 := Lib.hid hin
  have HGL0 := Lib.hid hgl0
  clear hg hx hx2 hi0 f1 f2 f4 hgl0 hin
  go_enter Try.func24, Try.ntmps24
  go_wp2_with fail
  go_at_call 65
  generalize hw1 : World.alloc w _ = w0
  obtain ⟨⟨x0, x1⟩, xs, xb⟩ := bx2c hw1
  clear hw1
  refine (IC.out _ xb).mono ?_
  rintro e w1 ⟨rfl, hb2⟩
  have HBW := Lib.hid (xb.trans (hb2.mono (show w.heap.size ≤ w0.heap.size by omega)))
  have y0 := (hb2.cell (p := ⟨w.heap.size, 0, none⟩) (by simp only []; omega)).trans x0
  have y1 := (hb2.cell (p := ⟨w.heap.size, 1, none⟩) (by simp only []; omega)).trans x1
  have hs1 : w.heap.size + 1 ≤ w1.heap.size := by have := hb2.size; omega
  clear hb2 xb xs x0 x1
  go_wp2_with fail
  go_at_call 69
  refine (MX.out _).mono ?_
  rintro e w3 ⟨rfl, rfl⟩
  go_wp2_with fail
  go_at_call 70
  refine (PM.out x w1).mono ?_
  rintro e w3 ⟨rfl, rfl⟩
  have k0 := cell_kept y0
  go_wp2
  clear k0
  generalize hw4 : World.alloc w1 _ = w4
  have hown1 : OwI w4 w1.heap.size (.slice (some ⟨w1.heap.size, 0, none⟩) 1 1) [x % (m : Int)] := by rw [← hw4]; exact one_own _
  have hb4 : Below w1.heap.size w1 w4 := by rw [← hw4]; exact (Below.refl _ _).alloc (Nat.le_refl _) _
  have O1 := Lib.hid hown1
  have HB1 := Lib.hid hb4
  clear hw4 hown1 hb4
  go_loopw [8, 28] (fun lv iv wr => ∃ (k : Nat) (A2 : Option Addr) (c2 : Nat), k ≤ q.ops.length ∧ iv = .int .i64 (k : Int) ∧ lv = .slice A2 (k + 1) c2 ∧ OwI wr w1.heap.size (.slice A2 (k + 1) c2) (gvs (rmV (m : Int)) (x % (m : Int)) q.ops k) ∧ Below w1.heap.size w1 wr) (fun _ i _ => q.ops.length - (intOf i).toNat)
  case atStart => exact ⟨0, _, _, by omega, rfl, rfl, O1.out, HB1.out⟩
  case round =>
    obtain ⟨k, A2, c2, hk, rfl, rfl, hown, hbel⟩ := hrel
    have hsz := hbel.size
    by_cases hlt : k < q.ops.length
    · obtain ⟨g, off, rfl, hg, hc1, hc2, hc3⟩ := (((H.out.below' HBW.out hB).below' hbel (by omega)).op hlt : ∃ b off, A = some ⟨b, off, none⟩ ∧ b < B ∧ _)
      have ik : (k : Int) < (q.ops.length : Int) := by omega
      have hgo : q.ops.getD k o0 = q.ops[k] := by simp [List.getD_eq_getElem?_getD, hlt]
      have hok := GD.out k hlt
      unfold opG at hok
      rw [Bool.and_eq_true] at hok
      have hok := hok.1
      have hgl := gvs_len (rmV (m : Int)) (x % (m : Int)) q.ops k
      have PN : gvs (rmV (m : Int)) (x % (m : Int)) q.ops (k + 1) = gvs (rmV (m : Int)) (x % (m : Int)) q.ops k ++ [(rmV (m : Int)) (q.ops.getD k o0) (gvs (rmV (m : Int)) (x % (m : Int)) q.ops k)] := rfl
      have BK := Lib.hid (BD.out k hk)
      rw [hgo] at hok PN
      obtain ⟨o, ho⟩ : ∃ o, q.ops[k] = o := ⟨_, rfl⟩
      rw [ho] at PN hc1 hc2 hc3 hok
      obtain ⟨L, hL⟩ : ∃ L, gvs (rmV (m : Int)) (x % (m : Int)) q.ops k = L := ⟨_, rfl⟩
      rw [hL] at PN hgl BK hown
      have HGL := Lib.hid hgl
      have OWN := Lib.hid hown
      have BEL := Lib.hid hbel
      obtain ⟨vg, rfl, hvB, hvs, hvc, _⟩ := own_at (show wr.ownsRow w1.heap.size 3 1 (.slice A2 (k + 1) c2) (k + 1) (L.map I) by have h : wr.ownsRow _ _ _ _ _ _ := hown; rw [HGL.out] at h; exact h) (by omega)
      have VC := Lib.hid (show ∀ i, i < k + 1 → wr.cell? ⟨vg, i, none⟩ = (L.map I)[i]? from fun i hi => hvc i (by omega))
      clear hgo ho hL hown hbel hvc
      rcases opOk_cases hok with ⟨h0, ⟨ha1, ha2⟩, hb0⟩ | ⟨h0, ⟨ha1, ha2⟩, hb1, hb2⟩ | ⟨h0, ⟨ha1, ha2⟩, hb1, hb2⟩ | ⟨h0, ⟨ha1, ha2⟩, hb1, hb2⟩
      all_goals clear hok
      · obtain ⟨kk, a, b⟩ := o
        simp only at h0 ha1 ha2 hb0 hc1 hc2 hc3 PN
        subst h0
        subst hb0
        have PV := Lib.hid (show gvs (rmV (m : Int)) (x % (m : Int)) q.ops (k + 1) = L ++ [a % (m : Int)] from PN)
        go_wp2_with fail
        go_at_call 70
        generalize hwb : World.alloc wr _ = wb
        have hbb : Below wr.heap.size wr wb := by rw [← hwb]; exact (Below.refl _ _).alloc (Nat.le_refl _) _
        have hsb : w1.heap.size ≤ wb.heap.size := by have := hbb.size; omega
        have OWb := Lib.hid (OWN.out.below hbb)
        clear hwb
        refine (PM.out (a) wb).mono ?_
        rintro e w9 ⟨rfl, rfl⟩
        go_wp2_with (at_builtin; refine list_step (fun K hK => ?_); refine step_app_int rfl (.tmp 72) (.tmp 76) rfl w1.heap.size (k + 1) _ L rfl (OWb.out.alloc _) HGL.out wb.heap.size 1 (a % (m : Int)) rfl (by simp) (by omega) (by simp; omega) ?_; intro A6 c6 w6 hown6 hg6 hbel6; go_simp; refine hK _ _ ?_; clear hK K)
        go_roundw
        case rel => exact ⟨k + 1, A6, c6, by omega, by go_num, rfl, by rw [PV.out]; exact hown6, ((BEL.out.trans (hbb.mono hsz)).alloc (by omega) _).trans hbel6⟩
        case measure => simp [intOf]; omega
      · obtain ⟨kk, a, b⟩ := o
        simp only at h0 ha1 ha2 hb1 hb2 hc1 hc2 hc3 PN
        subst h0
        obtain ⟨i, rfl⟩ : ∃ i : Nat, a = i := ⟨a.toNat, by omega⟩
        have hi : i < k + 1 := by omega
        have hil : i < L.length := by omega
        obtain ⟨j, rfl⟩ : ∃ j : Nat, b = j := ⟨b.toNat, by omega⟩
        have hj : j < k + 1 := by omega
        have hjl : j < L.length := by omega
        have bi := BK.out _ (List.getElem_mem hil)
        have bj := BK.out _ (List.getElem_mem hjl)
        have cI : wr.cell? ⟨vg, i, none⟩ = some (.int .i64 L[i]) := by rw [VC.out i (by omega), List.getElem?_map, List.getElem?_eq_getElem hil]; rfl
        have cJ : wr.cell? ⟨vg, j, none⟩ = some (.int .i64 L[j]) := by rw [VC.out j (by omega), List.getElem?_map, List.getElem?_eq_getElem hjl]; rfl
        have vi := vI_at hil
        have vj := vI_at hjl
        obtain ⟨X, hX⟩ : ∃ X, L[i] = X := ⟨_, rfl⟩
        rw [hX] at bi cI vi
        obtain ⟨Y, hY⟩ : ∃ Y, L[j] = Y := ⟨_, rfl⟩
        rw [hY] at bj cJ vj
        have pv : gvs (rmV (m : Int)) (x % (m : Int)) q.ops (k + 1) = L ++ [(vI L (i : Int) + vI L (j : Int)) % (m : Int)] := PN
        rw [vi, vj] at pv
        have PV := Lib.hid pv
        have ii : (i : Int) < ((k + 1 : Nat) : Int) := by omega
        have ii2 : (i : Int) < (k : Int) + 1 := by omega
        have ij : (j : Int) < ((k + 1 : Nat) : Int) := by omega
        have ij2 : (j : Int) < (k : Int) + 1 := by omega
        have ci := cell_kept cI
        have cj := cell_kept cJ
        clear pv vi hX cI hil ha1 ha2 hb1 hb2 vj hY cJ hjl PN
        go_wp2
        refine wp_region_Tw [0, 1, 2, 3, 4, 5, 6, 7, 8, 9, 10, 11] [2, 4, 7, 9] (.lp 0 (.lp 1 (.lp 5 (.lp 6 (.ls 2 (.lp 3 (.ls 4 (.ls 7 (.lp 8 (.ls 9 (.lp 10 (.lp 11 (.done))))))))))))) (by kernel_rfl) (by kernel_rfl) ?_
        (repeat (first | (refine T_lp rfl (fun K hK => ?_); go_simp; refine hK _ ?_; clear hK K) | (refine T_ls rfl rfl (fun K hK => ?_); go_simp; refine hK _ ?_; clear hK K)))
        refine T_done ?_
        go_wp2_with fail
        go_at_call 70
        generalize hwb : World.drew (World.alloc wr _) = wb
        have hbb : Below wr.heap.size wr wb := by rw [← hwb]; exact ((Below.refl _ _).alloc (Nat.le_refl _) _).drew
        have hsb : w1.heap.size ≤ wb.heap.size := by have := hbb.size; omega
        have OWb := Lib.hid (OWN.out.below hbb)
        clear hwb
        refine (PM.out (X + Y) wb).mono ?_
        rintro e w9 ⟨rfl, rfl⟩
        go_wp2_with (at_builtin; refine list_step (fun K hK => ?_); refine step_app_int rfl (.tmp 72) (.tmp 76) rfl w1.heap.size (k + 1) _ L rfl (OWb.out.alloc _) HGL.out wb.heap.size 1 ((X + Y) % (m : Int)) rfl (by simp) (by omega) (by simp; omega) ?_; intro A6 c6 w6 hown6 hg6 hbel6; go_simp; refine hK _ _ ?_; clear hK K)
        go_roundw
        case rel => exact ⟨k + 1, A6, c6, by omega, by go_num, rfl, by rw [PV.out]; exact hown6, ((BEL.out.trans (hbb.mono hsz)).alloc (by omega) _).trans hbel6⟩
        case measure => simp [intOf]; omega
      · obtain ⟨kk, a, b⟩ := o
        simp only at h0 ha1 ha2 hb1 hb2 hc1 hc2 hc3 PN
        subst h0
        obtain ⟨i, rfl⟩ : ∃ i : Nat, a = i := ⟨a.toNat, by omega⟩
        have hi : i < k + 1 := by omega
        have hil : i < L.length := by omega
        have bi := BK.out _ (List.getElem_mem hil)
        have cI : wr.cell? ⟨vg, i, none⟩ = some (.int .i64 L[i]) := by rw [VC.out i (by omega), List.getElem?_map, List.getElem?_eq_getElem hil]; rfl
        have vi := vI_at hil
        obtain ⟨X, hX⟩ : ∃ X, L[i] = X := ⟨_, rfl⟩
        rw [hX] at bi cI vi
        have pv : gvs (rmV (m : Int)) (x % (m : Int)) q.ops (k + 1) = L ++ [(vI L (i : Int) * b) % (m : Int)] := PN
        rw [vi] at pv
        have hab := mul_bd (a := X) (b := b) (by omega) (by omega)
        obtain ⟨n, hn⟩ : ∃ n, X * b = n := ⟨_, rfl⟩
        rw [hn] at hab pv
        have hwa : wrap64 (X * b) = n := by rw [hn]; exact IntWalk.wrap64_in _ (by omega)
        have hwb' : IntKind.i64.wrap (X * b) = n := by rw [hn]; exact IntWalk.i64_in _ (by omega)
        have PV := Lib.hid pv
        have ii : (i : Int) < ((k + 1 : Nat) : Int) := by omega
        have ii2 : (i : Int) < (k : Int) + 1 := by omega
        have ci := cell_kept cI
        clear pv vi hX bi cI hil ha1 ha2 hb1 hb2 hn hab PN
        go_wp2
        refine wp_region_Tw [0, 1, 2, 3, 4, 5, 6, 7, 8] [2, 4, 6] (.lp 0 (.lp 1 (.lp 5 (.ls 2 (.lp 3 (.ls 4 (.ls 6 (.lp 7 (.lp 8 (.done)))))))))) (by kernel_rfl) (by kernel_rfl) ?_
        (repeat (first | (refine T_lp rfl (fun K hK => ?_); go_simp; refine hK _ ?_; clear hK K) | (refine T_ls rfl rfl (fun K hK => ?_); go_simp; refine hK _ ?_; clear hK K)))
        refine T_done ?_
        go_wp2_with fail
        go_at_call 70
        generalize hwb : World.drew (World.alloc wr _) = wb
        have hbb : Below wr.heap.size wr wb := by rw [← hwb]; exact ((Below.refl _ _).alloc (Nat.le_refl _) _).drew
        have hsb : w1.heap.size ≤ wb.heap.size := by have := hbb.size; omega
        have OWb := Lib.hid (OWN.out.below hbb)
        clear hwb
        refine (PM.out (n) wb).mono ?_
        rintro e w9 ⟨rfl, rfl⟩
        go_wp2_with (at_builtin; refine list_step (fun K hK => ?_); refine step_app_int rfl (.tmp 72) (.tmp 76) rfl w1.heap.size (k + 1) _ L rfl (OWb.out.alloc _) HGL.out wb.heap.size 1 (n % (m : Int)) rfl (by simp) (by omega) (by simp; omega) ?_; intro A6 c6 w6 hown6 hg6 hbel6; go_simp; refine hK _ _ ?_; clear hK K)
        go_roundw
        case rel => exact ⟨k + 1, A6, c6, by omega, by go_num, rfl, by rw [PV.out]; exact hown6, ((BEL.out.trans (hbb.mono hsz)).alloc (by omega) _).trans hbel6⟩
        case measure => simp [intOf]; omega
      · obtain ⟨kk, a, b⟩ := o
        simp only at h0 ha1 ha2 hb1 hb2 hc1 hc2 hc3 PN
        subst h0
        obtain ⟨i, rfl⟩ : ∃ i : Nat, a = i := ⟨a.toNat, by omega⟩
        have hi : i < k + 1 := by omega
        have hil : i < L.length := by omega
        obtain ⟨j, rfl⟩ : ∃ j : Nat, b = j := ⟨b.toNat, by omega⟩
        have hj : j < k + 1 := by omega
        have hjl : j < L.length := by omega
        have bi := BK.out _ (List.getElem_mem hil)
        have bj := BK.out _ (List.getElem_mem hjl)
        have cI : wr.cell? ⟨vg, i, none⟩ = some (.int .i64 L[i]) := by rw [VC.out i (by omega), List.getElem?_map, List.getElem?_eq_getElem hil]; rfl
        have cJ : wr.cell? ⟨vg, j, none⟩ = some (.int .i64 L[j]) := by rw [VC.out j (by omega), List.getElem?_map, List.getElem?_eq_getElem hjl]; rfl
        have vi := vI_at hil
        have vj := vI_at hjl
        obtain ⟨X, hX⟩ : ∃ X, L[i] = X := ⟨_, rfl⟩
        rw [hX] at bi cI vi
        obtain ⟨Y, hY⟩ : ∃ Y, L[j] = Y := ⟨_, rfl⟩
        rw [hY] at bj cJ vj
        have pv : gvs (rmV (m : Int)) (x % (m : Int)) q.ops (k + 1) = L ++ [(vI L (i : Int) * vI L (j : Int)) % (m : Int)] := PN
        rw [vi, vj] at pv
        have hab := mul_bd (a := X) (b := Y) (by omega) (by omega)
        obtain ⟨n, hn⟩ : ∃ n, X * Y = n := ⟨_, rfl⟩
        rw [hn] at hab pv
        have hwa : wrap64 (X * Y) = n := by rw [hn]; exact IntWalk.wrap64_in _ (by omega)
        have hwb' : IntKind.i64.wrap (X * Y) = n := by rw [hn]; exact IntWalk.i64_in _ (by omega)
        have PV := Lib.hid pv
        have ii : (i : Int) < ((k + 1 : Nat) : Int) := by omega
        have ii2 : (i : Int) < (k : Int) + 1 := by omega
        have ij : (j : Int) < ((k + 1 : Nat) : Int) := by omega
        have ij2 : (j : Int) < (k : Int) + 1 := by omega
        have ci := cell_kept cI
        have cj := cell_kept cJ
        clear pv vi hX bi cI hil ha1 ha2 hb1 hb2 vj hY cJ hjl bj hn hab PN
        go_wp2
        refine wp_region_Tw [0, 1, 2, 3, 4, 5, 6, 7, 8, 9, 10, 11] [2, 4, 7, 9] (.lp 0 (.lp 1 (.lp 5 (.lp 6 (.ls 2 (.lp 3 (.ls 4 (.ls 7 (.lp 8 (.ls 9 (.lp 10 (.lp 11 (.done))))))))))))) (by kernel_rfl) (by kernel_rfl) ?_
        (repeat (first | (refine T_lp rfl (fun K hK => ?_); go_simp; refine hK _ ?_; clear hK K) | (refine T_ls rfl rfl (fun K hK => ?_); go_simp; refine hK _ ?_; clear hK K)))
        refine T_done ?_
        go_wp2_with fail
        go_at_call 70
        generalize hwb : World.drew (World.alloc wr _) = wb
        have hbb : Below wr.heap.size wr wb := by rw [← hwb]; exact ((Below.refl _ _).alloc (Nat.le_refl _) _).drew
        have hsb : w1.heap.size ≤ wb.heap.size := by have := hbb.size; omega
        have OWb := Lib.hid (OWN.out.below hbb)
        clear hwb
        refine (PM.out (n) wb).mono ?_
        rintro e w9 ⟨rfl, rfl⟩
        go_wp2_with (at_builtin; refine list_step (fun K hK => ?_); refine step_app_int rfl (.tmp 72) (.tmp 76) rfl w1.heap.size (k + 1) _ L rfl (OWb.out.alloc _) HGL.out wb.heap.size 1 (n % (m : Int)) rfl (by simp) (by omega) (by simp; omega) ?_; intro A6 c6 w6 hown6 hg6 hbel6; go_simp; refine hK _ _ ?_; clear hK K)
        go_roundw
        case rel => exact ⟨k + 1, A6, c6, by omega, by go_num, rfl, by rw [PV.out]; exact hown6, ((BEL.out.trans (hbb.mono hsz)).alloc (by omega) _).trans hbel6⟩
        case measure => simp [intOf]; omega
    · have hk' : k = q.ops.length := by omega
      subst hk'
      have hvx := vI_at (vs := gvs (rmV (m : Int)) (x % (m : Int)) q.ops q.ops.length) (i := i0) (by rw [HGL0.out]; exact HI0.out)
      obtain ⟨vg, rfl, hvB, hvs, hvc, _⟩ := own_at (show wr.ownsRow w1.heap.size 3 1 (.slice A2 (q.ops.length + 1) c2) (q.ops.length + 1) ((gvs (rmV (m : Int)) (x % (m : Int)) q.ops q.ops.length).map I) by have h : wr.ownsRow _ _ _ _ _ _ := hown; rw [HGL0.out] at h; exact h) (by omega)
      have hci : wr.cell? ⟨vg, i0, none⟩ = some (.int .i64 (vI (gvs (rmV (m : Int)) (x % (m : Int)) q.ops q.ops.length) (i0 : Int))) := by
        rw [hvc i0 (by have := HI0.out; omega), List.getElem?_map, List.getElem?_eq_getElem (by rw [HGL0.out]; exact HI0.out), hvx]; rfl
      obtain ⟨X, hX⟩ : ∃ X, vI (gvs (rmV (m : Int)) (x % (m : Int)) q.ops q.ops.length) (i0 : Int) = X := ⟨_, rfl⟩
      rw [hX] at hci
      have EX := Lib.hid (E.out.trans hX)
      have z1 := (hbel.cell (p := ⟨w.heap.size, 1, none⟩) (by simp only []; omega)).trans y1
      have BW := Lib.hid (HBW.out.trans (hbel.mono (by omega)))
      have ii : (i0 : Int) < ((q.ops.length + 1 : Nat) : Int) := by have := HI0.out; omega
      have ii2 : (i0 : Int) < (q.ops.length : Int) + 1 := by have := HI0.out; omega
      clear hown hbel hvc hvx hX
      go_wp2
      go_ret2
      exact ⟨by rw [EX.out, G.out]; rfl, BW.out⟩

set_option maxRecDepth 100000 in
set_option maxHeartbeats 8000000 in
theorem specDepth8_any (B : Nat) (A : Option Addr) (c : Nat) (q : Cd) (w : World) (hB : B ≤ w.heap.size) (hl : q.ops.length ≤ 1048576) (_hc : q.ops.length ≤ c) (hr : RdD w B A q) :
    Calls Try.prog 34 #[.agg #[.slice A q.ops.length c, .int .i64 q.out]] w fun e w' => e = .returned (.tuple #[.int .i64 (dpA8 q), .bool (cdB q)]) ∧ Below w.heap.size w w' := by
  have IC := Lib.hid (fun (W : World) (hb : Below w.heap.size w W) => poGood_any B A c q W (by have := hb.size; omega) hl (hr.below' hb hB))
  have H := Lib.hid hr
  clear hr
  cases hg : cdB q with
  | false =>
    have E := Lib.hid (dp_bad hg)
    rw [hg] at IC
    clear hg
    go_enter Try.func34, Try.ntmps34
    go_wp2_with fail
    go_at_call 65
    generalize hw1 : World.alloc w _ = w0
    obtain ⟨⟨x0, x1⟩, xs, xb⟩ := bx2c hw1
    clear hw1
    refine (IC.out _ xb).mono ?_
    rintro e w2 ⟨rfl, hb2⟩
    have HB2 := Lib.hid (xb.trans (hb2.mono (by omega)))
    clear hb2 xb xs x0 x1
    go_wp2
    go_ret2
    exact ⟨by rw [E.out]; rfl, HB2.out⟩
  | true =>
  rw [hg] at IC
  obtain ⟨f0, f1, f2, f4⟩ := cdB_facts hg
  obtain ⟨i0, hi0⟩ : ∃ i : Nat, q.out = i := ⟨q.out.toNat, by omega⟩
  have hin : i0 < q.ops.length + 1 := by omega
  have E := Lib.hid (dp_good hg hi0)
  have BD := Lib.hid (show ∀ k, k ≤ q.ops.length → ∀ v ∈ gvs dpV 0 q.ops k, 0 ≤ v ∧ v ≤ 1000 from fun k hk v hv => by have := dp_rng k hk v hv; omega)
  have GD := Lib.hid (fun k (hk : k < q.ops.length) => opsG_at f4 hk)
  have hgl0 := gvs_len dpV 0 q.ops q.ops.length
  have IC := Lib.hid (fun W h1 => by have h := IC.out W h1; rw [hi0] at h; exact h)
  rw [hi0]
  have HI0 := Lib.hid hin
  have HGL0 := Lib.hid hgl0
  clear hg hi0 f1 f2 f4 hgl0 hin
  go_enter Try.func34, Try.ntmps34
  go_wp2_with fail
  go_at_call 65
  generalize hw1 : World.alloc w _ = w0
  obtain ⟨⟨x0, x1⟩, xs, xb⟩ := bx2c hw1
  clear hw1
  refine (IC.out _ xb).mono ?_
  rintro e w1 ⟨rfl, hb2⟩
  have HBW := Lib.hid (xb.trans (hb2.mono (show w.heap.size ≤ w0.heap.size by omega)))
  have y0 := (hb2.cell (p := ⟨w.heap.size, 0, none⟩) (by simp only []; omega)).trans x0
  have y1 := (hb2.cell (p := ⟨w.heap.size, 1, none⟩) (by simp only []; omega)).trans x1
  have hs1 : w.heap.size + 1 ≤ w1.heap.size := by have := hb2.size; omega
  clear hb2 xb xs x0 x1
  have k0 := cell_kept y0
  go_wp2
  clear k0
  generalize hw4 : World.alloc w1 _ = w4
  have hown1 : OwI w4 w1.heap.size (.slice (some ⟨w1.heap.size, 0, none⟩) 1 1) [0] := by rw [← hw4]; exact one_own _
  have hb4 : Below w1.heap.size w1 w4 := by rw [← hw4]; exact (Below.refl _ _).alloc (Nat.le_refl _) _
  have O1 := Lib.hid hown1
  have HB1 := Lib.hid hb4
  clear hw4 hown1 hb4
  go_loopw [4, 15] (fun lv iv wr => ∃ (k : Nat) (A2 : Option Addr) (c2 : Nat), k ≤ q.ops.length ∧ iv = .int .i64 (k : Int) ∧ lv = .slice A2 (k + 1) c2 ∧ OwI wr w1.heap.size (.slice A2 (k + 1) c2) (gvs (dpV) 0 q.ops k) ∧ Below w1.heap.size w1 wr) (fun _ i _ => q.ops.length - (intOf i).toNat)
  case atStart => exact ⟨0, _, _, by omega, rfl, rfl, O1.out, HB1.out⟩
  case round =>
    obtain ⟨k, A2, c2, hk, rfl, rfl, hown, hbel⟩ := hrel
    have hsz := hbel.size
    by_cases hlt : k < q.ops.length
    · obtain ⟨g, off, rfl, hg, hc1, hc2, hc3⟩ := (((H.out.below' HBW.out hB).below' hbel (by omega)).op hlt : ∃ b off, A = some ⟨b, off, none⟩ ∧ b < B ∧ _)
      have ik : (k : Int) < (q.ops.length : Int) := by omega
      have hgo : q.ops.getD k o0 = q.ops[k] := by simp [List.getD_eq_getElem?_getD, hlt]
      have hok := GD.out k hlt
      unfold opG at hok
      rw [Bool.and_eq_true] at hok
      have hok := hok.1
      have hgl := gvs_len (dpV) 0 q.ops k
      have PN : gvs (dpV) 0 q.ops (k + 1) = gvs (dpV) 0 q.ops k ++ [(dpV) (q.ops.getD k o0) (gvs (dpV) 0 q.ops k)] := rfl
      have BK := Lib.hid (BD.out k hk)
      rw [hgo] at hok PN
      obtain ⟨o, ho⟩ : ∃ o, q.ops[k] = o := ⟨_, rfl⟩
      rw [ho] at PN hc1 hc2 hc3 hok
      obtain ⟨L, hL⟩ : ∃ L, gvs (dpV) 0 q.ops k = L := ⟨_, rfl⟩
      rw [hL] at PN hgl BK hown
      have HGL := Lib.hid hgl
      have OWN := Lib.hid hown
      have BEL := Lib.hid hbel
      obtain ⟨vg, rfl, hvB, hvs, hvc, _⟩ := own_at (show wr.ownsRow w1.heap.size 3 1 (.slice A2 (k + 1) c2) (k + 1) (L.map I) by have h : wr.ownsRow _ _ _ _ _ _ := hown; rw [HGL.out] at h; exact h) (by omega)
      have VC := Lib.hid (show ∀ i, i < k + 1 → wr.cell? ⟨vg, i, none⟩ = (L.map I)[i]? from fun i hi => hvc i (by omega))
      clear hgo ho hL hown hbel hvc
      rcases opOk_cases hok with ⟨h0, ⟨ha1, ha2⟩, hb0⟩ | ⟨h0, ⟨ha1, ha2⟩, hb1, hb2⟩ | ⟨h0, ⟨ha1, ha2⟩, hb1, hb2⟩ | ⟨h0, ⟨ha1, ha2⟩, hb1, hb2⟩
      all_goals clear hok
      · obtain ⟨kk, a, b⟩ := o
        simp only at h0 ha1 ha2 hb0 hc1 hc2 hc3 PN
        subst h0
        subst hb0
        have PV := Lib.hid (show gvs (dpV) 0 q.ops (k + 1) = L ++ [0] from PN)
        have hbb : ∀ o, Below wr.heap.size wr (wr.alloc o) := fun o => (Below.refl _ _).alloc (Nat.le_refl _) o
        go_wp2_with (at_builtin; refine list_step (fun K hK => ?_); refine step_app_int rfl (.tmp 55) (.tmp 57) rfl w1.heap.size (k + 1) _ L rfl (OwI.alloc (OwI.alloc OWN.out _) _) HGL.out _ 1 (0) rfl (by simp) (by omega) (by simp; omega) ?_; intro A6 c6 w6 hown6 hg6 hbel6; go_simp; refine hK _ _ ?_; clear hK K)
        go_roundw
        case rel => exact ⟨k + 1, A6, c6, by omega, by go_num, rfl, by rw [PV.out]; exact hown6, (((BEL.out.trans ((hbb _).mono hsz)).alloc (by simp; omega) _)).trans hbel6⟩
        case measure => simp [intOf]; omega
      · obtain ⟨kk, a, b⟩ := o
        simp only at h0 ha1 ha2 hb1 hb2 hc1 hc2 hc3 PN
        subst h0
        obtain ⟨i, rfl⟩ : ∃ i : Nat, a = i := ⟨a.toNat, by omega⟩
        have hi : i < k + 1 := by omega
        have hil : i < L.length := by omega
        obtain ⟨j, rfl⟩ : ∃ j : Nat, b = j := ⟨b.toNat, by omega⟩
        have hj : j < k + 1 := by omega
        have hjl : j < L.length := by omega
        have bi := BK.out _ (List.getElem_mem hil)
        have bj := BK.out _ (List.getElem_mem hjl)
        have cI : wr.cell? ⟨vg, i, none⟩ = some (.int .i64 L[i]) := by rw [VC.out i (by omega), List.getElem?_map, List.getElem?_eq_getElem hil]; rfl
        have cJ : wr.cell? ⟨vg, j, none⟩ = some (.int .i64 L[j]) := by rw [VC.out j (by omega), List.getElem?_map, List.getElem?_eq_getElem hjl]; rfl
        have vi := vI_at hil
        have vj := vI_at hjl
        obtain ⟨X, hX⟩ : ∃ X, L[i] = X := ⟨_, rfl⟩
        rw [hX] at bi cI vi
        obtain ⟨Y, hY⟩ : ∃ Y, L[j] = Y := ⟨_, rfl⟩
        rw [hY] at bj cJ vj
        have pv : gvs (dpV) 0 q.ops (k + 1) = L ++ [mx (vI L (i : Int)) (vI L (j : Int))] := PN
        rw [vi, vj] at pv
        have bm : 0 ≤ mx X Y ∧ mx X Y ≤ 1000 := by unfold mx; split <;> omega
        have LM := Lib.hid (fun W => mostMx_any X Y W)
        obtain ⟨Z, hZ⟩ : ∃ Z, mx X Y = Z := ⟨_, rfl⟩
        rw [hZ] at bm LM pv
        have PV := Lib.hid pv
        have ii : (i : Int) < ((k + 1 : Nat) : Int) := by omega
        have ii2 : (i : Int) < (k : Int) + 1 := by omega
        have ij : (j : Int) < ((k + 1 : Nat) : Int) := by omega
        have ij2 : (j : Int) < (k : Int) + 1 := by omega
        have ci := cell_kept cI
        have cj := cell_kept cJ
        clear pv vi hX bi cI hil ha1 ha2 hb1 hb2 vj hY cJ hjl bj hZ PN
        go_wp2
        refine wp_region_Tw [0, 1, 2, 3, 4, 5, 6, 7, 8, 9, 11] [2, 4, 7, 9] (.lp 0 (.lp 1 (.lp 5 (.lp 6 (.ls 2 (.lp 3 (.ls 4 (.ls 7 (.lp 8 (.ls 9 (.hv 10 (.lp 11 (.done))))))))))))) (by kernel_rfl) (by kernel_rfl) ?_
        (repeat (first | (refine T_lp rfl (fun K hK => ?_); go_simp; refine hK _ ?_; clear hK K) | (refine T_ls rfl rfl (fun K hK => ?_); go_simp; refine hK _ ?_; clear hK K)))
        (refine T_hv rfl (by kernel_rfl) (fun K hK => ?_); go_simp)
        go_at_call 78
        generalize hwb : World.drew (World.alloc wr _) = wb
        have hbb : Below wr.heap.size wr wb := by rw [← hwb]; exact ((Below.refl _ _).alloc (Nat.le_refl _) _).drew
        have hsb : w1.heap.size ≤ wb.heap.size := by have := hbb.size; omega
        have OWb := Lib.hid (OWN.out.below hbb)
        clear hwb
        refine (LM.out wb).mono ?_
        rintro e w9 ⟨rfl, rfl⟩
        (go_simp; refine hK _ _ ?_; clear hK K)
        (repeat (refine T_lp rfl (fun K hK => ?_); go_simp; refine hK _ ?_; clear hK K))
        refine T_done ?_
        go_wp2_with (at_builtin; refine list_step (fun K hK => ?_); refine step_app_int rfl (.tmp 55) (.tmp 57) rfl w1.heap.size (k + 1) _ L rfl (OWb.out.alloc _) HGL.out wb.heap.size 1 (Z) rfl (by simp) (by omega) (by simp; omega) ?_; intro A6 c6 w6 hown6 hg6 hbel6; go_simp; refine hK _ _ ?_; clear hK K)
        go_roundw
        case rel => exact ⟨k + 1, A6, c6, by omega, by go_num, rfl, by rw [PV.out]; exact hown6, ((BEL.out.trans (hbb.mono hsz)).alloc (by omega) _).trans hbel6⟩
        case measure => simp [intOf]; omega
      · obtain ⟨kk, a, b⟩ := o
        simp only at h0 ha1 ha2 hb1 hb2 hc1 hc2 hc3 PN
        subst h0
        obtain ⟨i, rfl⟩ : ∃ i : Nat, a = i := ⟨a.toNat, by omega⟩
        have hi : i < k + 1 := by omega
        have hil : i < L.length := by omega
        have bi := BK.out _ (List.getElem_mem hil)
        have cI : wr.cell? ⟨vg, i, none⟩ = some (.int .i64 L[i]) := by rw [VC.out i (by omega), List.getElem?_map, List.getElem?_eq_getElem hil]; rfl
        have vi := vI_at hil
        obtain ⟨X, hX⟩ : ∃ X, L[i] = X := ⟨_, rfl⟩
        rw [hX] at bi cI vi
        have pv : gvs (dpV) 0 q.ops (k + 1) = L ++ [vI L (i : Int)] := PN
        rw [vi] at pv
        have PV := Lib.hid pv
        have ii : (i : Int) < ((k + 1 : Nat) : Int) := by omega
        have ii2 : (i : Int) < (k : Int) + 1 := by omega
        have ci := cell_kept cI
        clear pv vi hX bi cI hil ha1 ha2 hb1 hb2 PN
        have hbb : ∀ o, Below wr.heap.size wr (wr.alloc o) := fun o => (Below.refl _ _).alloc (Nat.le_refl _) o
        go_wp2_with (at_builtin; refine list_step (fun K hK => ?_); refine step_app_int rfl (.tmp 55) (.tmp 57) rfl w1.heap.size (k + 1) _ L rfl (OwI.alloc (OwI.alloc OWN.out _) _) HGL.out _ 1 (X) rfl (by simp) (by omega) (by simp; omega) ?_; intro A6 c6 w6 hown6 hg6 hbel6; go_simp; refine hK _ _ ?_; clear hK K)
        go_roundw
        case rel => exact ⟨k + 1, A6, c6, by omega, by go_num, rfl, by rw [PV.out]; exact hown6, (((BEL.out.trans ((hbb _).mono hsz)).alloc (by simp; omega) _)).trans hbel6⟩
        case measure => simp [intOf]; omega
      · obtain ⟨kk, a, b⟩ := o
        simp only at h0 ha1 ha2 hb1 hb2 hc1 hc2 hc3 PN
        subst h0
        obtain ⟨i, rfl⟩ : ∃ i : Nat, a = i := ⟨a.toNat, by omega⟩
        have hi : i < k + 1 := by omega
        have hil : i < L.length := by omega
        obtain ⟨j, rfl⟩ : ∃ j : Nat, b = j := ⟨b.toNat, by omega⟩
        have hj : j < k + 1 := by omega
        have hjl : j < L.length := by omega
        have bi := BK.out _ (List.getElem_mem hil)
        have bj := BK.out _ (List.getElem_mem hjl)
        have cI : wr.cell? ⟨vg, i, none⟩ = some (.int .i64 L[i]) := by rw [VC.out i (by omega), List.getElem?_map, List.getElem?_eq_getElem hil]; rfl
        have cJ : wr.cell? ⟨vg, j, none⟩ = some (.int .i64 L[j]) := by rw [VC.out j (by omega), List.getElem?_map, List.getElem?_eq_getElem hjl]; rfl
        have vi := vI_at hil
        have vj := vI_at hjl
        obtain ⟨X, hX⟩ : ∃ X, L[i] = X := ⟨_, rfl⟩
        rw [hX] at bi cI vi
        obtain ⟨Y, hY⟩ : ∃ Y, L[j] = Y := ⟨_, rfl⟩
        rw [hY] at bj cJ vj
        have pv : gvs (dpV) 0 q.ops (k + 1) = L ++ [1 + mx (vI L (i : Int)) (vI L (j : Int))] := PN
        rw [vi, vj] at pv
        have bm : 0 ≤ mx X Y ∧ mx X Y ≤ 1000 := by unfold mx; split <;> omega
        have LM := Lib.hid (fun W => mostMx_any X Y W)
        obtain ⟨Z, hZ⟩ : ∃ Z, mx X Y = Z := ⟨_, rfl⟩
        rw [hZ] at bm LM pv
        have PV := Lib.hid pv
        have ii : (i : Int) < ((k + 1 : Nat) : Int) := by omega
        have ii2 : (i : Int) < (k : Int) + 1 := by omega
        have ij : (j : Int) < ((k + 1 : Nat) : Int) := by omega
        have ij2 : (j : Int) < (k : Int) + 1 := by omega
        have ci := cell_kept cI
        have cj := cell_kept cJ
        clear pv vi hX bi cI hil ha1 ha2 hb1 hb2 vj hY cJ hjl bj hZ PN
        go_wp2
        refine wp_region_Tw [0, 1, 2, 3, 4, 5, 6, 7, 8, 9, 11, 12] [2, 4, 7, 9] (.lp 0 (.lp 1 (.lp 5 (.lp 6 (.ls 2 (.lp 3 (.ls 4 (.ls 7 (.lp 8 (.ls 9 (.hv 10 (.lp 11 (.lp 12 (.done)))))))))))))) (by kernel_rfl) (by kernel_rfl) ?_
        (repeat (first | (refine T_lp rfl (fun K hK => ?_); go_simp; refine hK _ ?_; clear hK K) | (refine T_ls rfl rfl (fun K hK => ?_); go_simp; refine hK _ ?_; clear hK K)))
        (refine T_hv rfl (by kernel_rfl) (fun K hK => ?_); go_simp)
        go_at_call 78
        generalize hwb : World.drew (World.alloc wr _) = wb
        have hbb : Below wr.heap.size wr wb := by rw [← hwb]; exact ((Below.refl _ _).alloc (Nat.le_refl _) _).drew
        have hsb : w1.heap.size ≤ wb.heap.size := by have := hbb.size; omega
        have OWb := Lib.hid (OWN.out.below hbb)
        clear hwb
        refine (LM.out wb).mono ?_
        rintro e w9 ⟨rfl, rfl⟩
        (go_simp; refine hK _ _ ?_; clear hK K)
        (repeat (refine T_lp rfl (fun K hK => ?_); go_simp; refine hK _ ?_; clear hK K))
        refine T_done ?_
        go_wp2_with (at_builtin; refine list_step (fun K hK => ?_); refine step_app_int rfl (.tmp 55) (.tmp 57) rfl w1.heap.size (k + 1) _ L rfl (OWb.out.alloc _) HGL.out wb.heap.size 1 (1 + Z) rfl (by simp) (by omega) (by simp; omega) ?_; intro A6 c6 w6 hown6 hg6 hbel6; go_simp; refine hK _ _ ?_; clear hK K)
        go_roundw
        case rel => exact ⟨k + 1, A6, c6, by omega, by go_num, rfl, by rw [PV.out]; exact hown6, ((BEL.out.trans (hbb.mono hsz)).alloc (by omega) _).trans hbel6⟩
        case measure => simp [intOf]; omega
    · have hk' : k = q.ops.length := by omega
      subst hk'
      have hvx := vI_at (vs := gvs dpV 0 q.ops q.ops.length) (i := i0) (by rw [HGL0.out]; exact HI0.out)
      obtain ⟨vg, rfl, hvB, hvs, hvc, _⟩ := own_at (show wr.ownsRow w1.heap.size 3 1 (.slice A2 (q.ops.length + 1) c2) (q.ops.length + 1) ((gvs dpV 0 q.ops q.ops.length).map I) by have h : wr.ownsRow _ _ _ _ _ _ := hown; rw [HGL0.out] at h; exact h) (by omega)
      have hci : wr.cell? ⟨vg, i0, none⟩ = some (.int .i64 (vI (gvs dpV 0 q.ops q.ops.length) (i0 : Int))) := by
        rw [hvc i0 (by have := HI0.out; omega), List.getElem?_map, List.getElem?_eq_getElem (by rw [HGL0.out]; exact HI0.out), hvx]; rfl
      obtain ⟨X, hX⟩ : ∃ X, vI (gvs dpV 0 q.ops q.ops.length) (i0 : Int) = X := ⟨_, rfl⟩
      rw [hX] at hci
      have EX := Lib.hid (E.out.trans hX)
      have z1 := (hbel.cell (p := ⟨w.heap.size, 1, none⟩) (by simp only []; omega)).trans y1
      have BW := Lib.hid (HBW.out.trans (hbel.mono (by omega)))
      have ii : (i0 : Int) < ((q.ops.length + 1 : Nat) : Int) := by have := HI0.out; omega
      have ii2 : (i0 : Int) < (q.ops.length : Int) + 1 := by have := HI0.out; omega
      clear hown hbel hvc hvx hX
      go_wp2
      go_ret2
      exact ⟨by rw [EX.out]; rfl, BW.out⟩
end Go.Proofs.Ytpopomcaknbhnaa
