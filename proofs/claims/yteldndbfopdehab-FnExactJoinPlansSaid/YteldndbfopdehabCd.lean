/- The steps of two plans behind each other: the model's. -/
import Derived.Test.YteldndbfopdehabCc
namespace Go.Proofs.Yteldndbfopdehab
open Go.RowKit

theorem tailN_get (L : List Int) (b : Int) {k m x : Nat} (hx : x < L.length + k) (hk : k ≤ m) : (L ++ tailN b m).getD x 0 = (L ++ tailN b k).getD x 0 := by
  rw [List.getD_eq_getElem?_getD, List.getD_eq_getElem?_getD, List.getElem?_append, List.getElem?_append]
  split
  · rfl
  · simp [tailN, show x - L.length < m by omega, show x - L.length < k by omega]

set_option maxRecDepth 100000 in
set_option maxHeartbeats 2000000 in
theorem plThen_any (B N : Nat) (A1 D1 D2 A : Option Addr) (c1 d1 d2 c : Nat) (S : List (Int × Int)) (q : Pl) (L : List Int) (w : World) (hN6 : N ≤ 1000) (hs : S.length ≤ 1000) (hsq : q.s.length ≤ 1000) (hoq : q.o.length ≤ 1000) (hL : L.length ≤ 1000) (hB : B ≤ w.heap.size)
    (hok : OkS L.length q.s) (hout : ∀ x ∈ q.o, 0 ≤ x ∧ x < (L.length : Int) + q.s.length) (hr : Rd w B 2 A1 S.length (fl S)) (hrq : RdP w B D1 D2 q) (hrl : Rd w B 1 A L.length (L.map I)) :
    Calls Try.prog 62 #[.slice A1 S.length c1, .int .i64 (N : Int), .agg #[.int .i64 q.n, .slice D1 q.s.length d1, .slice D2 q.o.length d2], .slice A L.length c] w fun e w' =>
      ∃ E1 E2 e1 e2, e = .returned (.tuple #[.slice E1 (S.length + q.s.length) e1, .slice E2 q.o.length e2]) ∧ OwS w' w.heap.size (.slice E1 (S.length + q.s.length) e1) (S ++ q.s.map (stN (L ++ tailN ((N : Int) + S.length) q.s.length))) ∧ OwI w' w.heap.size (.slice E2 q.o.length e2) (q.o.map fun x => (L ++ tailN ((N : Int) + S.length) q.s.length).getD x.toNat 0) ∧ Below w.heap.size w w' := by
  have H := Lib.hid hr
  have HQ := Lib.hid hrq
  have HL := Lib.hid hrl
  have HOK := Lib.hid hok
  have HOUT := Lib.hid hout
  clear hr hrq hrl hok hout
  obtain ⟨b, hb⟩ : ∃ b : Int, (N : Int) + S.length = b := ⟨_, rfl⟩
  obtain ⟨nm, hnm⟩ : ∃ nm, L ++ tailN b q.s.length = nm := ⟨_, rfl⟩
  have hget : ∀ k x, x < L.length + k → k ≤ q.s.length → nm.getD x 0 = (L ++ tailN b k).getD x 0 := fun k x h1 h2 => by rw [← hnm]; exact tailN_get L b h1 h2
  rw [hb, hnm]
  have HBV := Lib.hid hb
  have HNM := Lib.hid hnm
  have HGET := Lib.hid hget
  clear hb hnm hget
  go_enter Try.func62, Try.ntmps62
  go_wp2_with fail
  go_at_call 36
  generalize hw1 : World.alloc w _ = w1
  obtain ⟨e0, e1, e2, es, eb⟩ := box3 hw1
  clear hw1
  refine (l1Own_any w.heap.size A c L w1 (by omega) (by omega) ((HL.out.below' eb hB).more hB)).mono ?_
  rintro e w2 ⟨A3, c3, rfl, hown3, hb3⟩
  have y1 := (hb3.cell (p := ⟨w.heap.size, 1, none⟩) (by simp only []; omega)).trans e1
  have y2 := (hb3.cell (p := ⟨w.heap.size, 2, none⟩) (by simp only []; omega)).trans e2
  have hs2 : w1.heap.size ≤ w2.heap.size := hb3.size
  have hx1 : w.heap.size < w1.heap.size := by omega
  have HB2 := Lib.hid (eb.trans (hb3.mono (show w.heap.size ≤ w1.heap.size by omega)))
  have OWN3 := Lib.hid hown3
  clear e0 e1 e2 es eb hb3 hown3
  go_wp2_with (first
    | (at_builtin; refine list_step (fun K hK => ?_); refine step_appM Try.underlying33 info_step rfl (by omega) (by omega) rfl (.tmp 19) (.tmp 20) rfl w2.heap.size 0 _ [] rfl (own_empty 2 (Nat.le_refl _)) _ S.length c1 (fl S) rfl ((H.out.below' HB2.out hB).alloc (by omega) _) (fl_one S) (by omega) (by simp) ?_; intro A4 c4 w4 hown4 hg4 hbel4; have hb24 : Below w2.heap.size w2 w4 := ((Below.refl _ _).alloc (Nat.le_refl _) _).trans hbel4; have z1 := (hb24.cell (p := ⟨w.heap.size, 1, none⟩) (by simp only []; omega)).trans y1; have z2 := (hb24.cell (p := ⟨w.heap.size, 2, none⟩) (by simp only []; omega)).trans y2; have HB24 := Lib.hid hb24; have OWN4 := Lib.hid hown4; clear hg4 hbel4 hown4 hb24 y1 y2; go_simp; refine hK _ _ ?_; clear hK K))
  have hs4 : w2.heap.size ≤ w4.heap.size := HB24.out.size
  have HB4 := Lib.hid (HB2.out.trans (HB24.out.mono (show w.heap.size ≤ w2.heap.size by omega)))
  go_loopw [10, 11, 25] (fun nv tv i wr => ∃ (k : Nat) (A5 A6 : Option Addr) (c5 c6 : Nat), k ≤ q.s.length ∧ i = .int .i64 k ∧ nv = .slice A5 (L.length + k) c5 ∧ tv = .slice A6 (S.length + k) c6 ∧ wr.ownsRow w1.heap.size 3 1 (.slice A5 (L.length + k) c5) (L.length + k) ((L ++ tailN b k).map I) ∧ wr.ownsRow w1.heap.size 74 2 (.slice A6 (S.length + k) c6) (S.length + k) (fl (S ++ (q.s.take k).map (stN nm))) ∧ Below w1.heap.size w4 wr) (fun _ _ i _ => q.s.length - (intOf i).toNat)
  case atStart =>
    refine ⟨0, A3, A4, c3, c4, by omega, rfl, rfl, by simp, ?_, ?_, Below.refl _ _⟩
    · have h : w4.ownsRow w1.heap.size 3 1 (.slice A3 L.length c3) L.length (L.map I) := own_below OWN3.out HB24.out
      simpa [tailN] using h
    · have h := own_base OWN4.out hs2
      simpa using h
  case round =>
    obtain ⟨k, A5, A6, c5, c6, hk, rfl, rfl, rfl, hn, ht, hbel⟩ := hrel
    have hsz : w4.heap.size ≤ wr.heap.size := hbel.size
    have v1 := (hbel.cell (p := ⟨w.heap.size, 1, none⟩) (by simp only []; omega)).trans z1
    have v2 := (hbel.cell (p := ⟨w.heap.size, 2, none⟩) (by simp only []; omega)).trans z2
    have hbw : Below w.heap.size w wr := HB4.out.trans (hbel.mono (by omega))
    have hMl : (L ++ tailN b k).length = L.length + k := by simp [tailN]
    by_cases hlt : k < q.s.length
    · obtain ⟨i1, i2, i3⟩ := HOK.out k hlt
      obtain ⟨sb, off, rfl, hsb, hc1, hc2⟩ := (HQ.out.below' hbw hB).1.stp hlt
      obtain ⟨x, hx⟩ : ∃ x : Nat, (q.s[k]).1 = x := ⟨(q.s[k]).1.toNat, by omega⟩
      obtain ⟨y, hy⟩ : ∃ y : Nat, (q.s[k]).2 = y := ⟨(q.s[k]).2.toNat, by omega⟩
      rw [hx] at hc1
      rw [hy] at hc2
      have hxl : x < L.length + k := by omega
      have hyl : y < L.length + k := by omega
      have ixl : (x : Int) < (L.length : Int) + (k : Int) := by omega
      have iyl : (y : Int) < (L.length : Int) + (k : Int) := by omega
      have RN : Rd wr wr.heap.size 1 A5 (L ++ tailN b k).length ((L ++ tailN b k).map I) := by rw [hMl]; exact Rd.of_own hn
      obtain ⟨fb, fo, rfl, hfb, hcx⟩ := RN.int (show x < (L ++ tailN b k).length by rw [hMl]; exact hxl)
      obtain ⟨fb', fo', hf', _, hcy⟩ := RN.int (show y < (L ++ tailN b k).length by rw [hMl]; exact hyl)
      obtain ⟨rfl, rfl⟩ : fb = fb' ∧ fo = fo' := by
        injection hf' with hf'
        injection hf' with e1 e2
        exact ⟨e1, e2⟩
      have hst : (q.s.take (k + 1)).map (stN nm) = (q.s.take k).map (stN nm) ++ [(leastI ((L ++ tailN b k)[x]'(by rw [hMl]; exact hxl)) ((L ++ tailN b k)[y]'(by rw [hMl]; exact hyl)), mostI ((L ++ tailN b k)[x]'(by rw [hMl]; exact hxl)) ((L ++ tailN b k)[y]'(by rw [hMl]; exact hyl)))] := by
        rw [List.take_succ_eq_append_getElem hlt, List.map_append]
        congr 1
        have ex := HGET.out k x hxl hk
        have ey := HGET.out k y hyl hk
        have gx : ∀ z (h : z < (L ++ tailN b k).length), (L ++ tailN b k).getD z 0 = (L ++ tailN b k)[z] := fun z h => by rw [List.getD_eq_getElem?_getD, List.getElem?_eq_getElem h]; rfl
        rw [gx x (by rw [hMl]; exact hxl)] at ex
        rw [gx y (by rw [hMl]; exact hyl)] at ey
        rw [List.map_cons, List.map_nil]
        unfold stN stI
        rw [hx, hy, Int.toNat_natCast, Int.toNat_natCast, ex, ey]
      obtain ⟨f1, hf1⟩ : ∃ f, (L ++ tailN b k)[x]'(by rw [hMl]; exact hxl) = f := ⟨_, rfl⟩
      obtain ⟨f2, hf2⟩ : ∃ f, (L ++ tailN b k)[y]'(by rw [hMl]; exact hyl) = f := ⟨_, rfl⟩
      rw [hf1] at hcx hst
      rw [hf2] at hcy hst
      have HST := Lib.hid hst
      have HN := Lib.hid hn
      have HT := Lib.hid ht
      have HBL := Lib.hid hbel
      clear hst hn ht hbel hx hy i1 i2 i3 RN hf' hf1 hf2 hbw hMl
      go_wp2
      generalize hw5 : World.alloc wr _ = w5
      obtain ⟨e0, e1, es, eb⟩ := box2 hw5
      clear hw5
      have hfb5 : fb < w5.heap.size := by omega
      have FS := Lib.hid (show ∀ x', Below w5.heap.size w5 x' → x'.cell? ⟨wr.heap.size, 0, none⟩ = some (.int .i64 (x : Int)) ∧ x'.cell? ⟨wr.heap.size, 1, none⟩ = some (.int .i64 (y : Int)) ∧ x'.cell? ⟨fb, fo + x, none⟩ = some (.int .i64 f1) ∧ x'.cell? ⟨fb, fo + y, none⟩ = some (.int .i64 f2) from fun x' hx' =>
        ⟨(hx'.cell (p := ⟨wr.heap.size, 0, none⟩) (by simp only []; omega)).trans e0, (hx'.cell (p := ⟨wr.heap.size, 1, none⟩) (by simp only []; omega)).trans e1,
          (hx'.cell (p := ⟨fb, fo + x, none⟩) hfb5).trans ((eb.cell (p := ⟨fb, fo + x, none⟩) (by simp only []; omega)).trans hcx), (hx'.cell (p := ⟨fb, fo + y, none⟩) hfb5).trans ((eb.cell (p := ⟨fb, fo + y, none⟩) (by simp only []; omega)).trans hcy)⟩)
      have S0 := Lib.hid (show Below w5.heap.size w5 w5.drew from (Below.refl _ _).drew)
      have EB := Lib.hid eb
      clear v1 v2 e0 e1 eb hcx hcy hc1 hc2
      refine wp_region_T (fun x : World => Below w5.heap.size w5 x) [0, 1, 2, 3, 4, 5, 6, 7, 8, 9, 10, 14] [3, 5, 8, 10] (.lp 0 (.lp 1 (.lp 2 (.lp 6 (.lp 7 (.ls 3 (.lp 4 (.ls 5 (.ls 8 (.lp 9 (.ls 10 (.hv 11 (.hv 12 (.hv 13 (.lp 14 (.done)))))))))))))))) (by kernel_rfl) (by kernel_rfl) ?_
      (repeat (refine T_lp rfl (fun K hK => ?_); go_simp; refine hK _ ?_; clear hK K))
      refine T_ls1 (v := .int .i64 (x : Int)) rfl rfl S0.out (fun x hx => (by obtain ⟨h0, h1, h2, h3⟩ := FS.out x hx; go_simp)) (fun K hK => ?_)
      (go_simp; refine hK _ ?_; clear hK K)
      (repeat (refine T_lp rfl (fun K hK => ?_); go_simp; refine hK _ ?_; clear hK K))
      refine T_ls1 (v := .int .i64 f1) rfl rfl S0.out (fun x hx => (by obtain ⟨h0, h1, h2, h3⟩ := FS.out x hx; go_simp)) (fun K hK => ?_)
      (go_simp; refine hK _ ?_; clear hK K)
      (repeat (refine T_lp rfl (fun K hK => ?_); go_simp; refine hK _ ?_; clear hK K))
      refine T_ls1 (v := .int .i64 (y : Int)) rfl rfl S0.out (fun x hx => (by obtain ⟨h0, h1, h2, h3⟩ := FS.out x hx; go_simp)) (fun K hK => ?_)
      (go_simp; refine hK _ ?_; clear hK K)
      (repeat (refine T_lp rfl (fun K hK => ?_); go_simp; refine hK _ ?_; clear hK K))
      refine T_ls1 (v := .int .i64 f2) rfl rfl S0.out (fun x hx => (by obtain ⟨h0, h1, h2, h3⟩ := FS.out x hx; go_simp)) (fun K hK => ?_)
      (go_simp; refine hK _ ?_; clear hK K)
      refine T_hvS rfl (fun K hK => ?_)
      go_simp
      go_at_call 93
      refine (plStep_any _ _ _).mono ?_
      rintro e w7 ⟨rfl, hb7⟩
      have hb57 : Below w5.heap.size w5 w7 := (Below.refl _ _).drew.trans (hb7.mono (by simp))
      have hbr7 : Below wr.heap.size wr w7 := EB.out.trans (hb57.mono EB.out.size)
      have HN7 := Lib.hid (own_below HN.out hbr7)
      have HT7 := Lib.hid (own_below HT.out hbr7)
      have HB7 := Lib.hid (HBL.out.trans (hbr7.mono (by omega)))
      have hs7 : w1.heap.size ≤ w7.heap.size := by have := hbr7.size; omega
      have HB57 := Lib.hid hb57
      clear hb7 hbr7
      go_simp
      refine hK _ _ hb57 ?_
      clear hK K hb57
      refine T_hvS rfl (fun K hK => ?_)
      go_simp
      refine hK _ _ (HB57.out.alloc HB57.out.size _) ?_
      clear hK K
      refine T_hv rfl (by kernel_rfl) (fun K hK => ?_)
      refine step_app2 Try.underlying33 info_step rfl (by omega) rfl (.tmp 29) (.tmp 41) rfl w1.heap.size (S.length + k) _ (fl (S ++ (q.s.take k).map (stN nm))) rfl (World.ownsRow.alloc HT7.out _) w7.heap.size 1 (I (leastI f1 f2)) (I (mostI f1 f2)) rfl (by simp) (by simp) rfl rfl (by omega) (by simp; omega) ?_
      intro A8 c8 w8 hown8 hg8 hbel8
      have hn8 := World.ownsRow.kept (World.ownsRow.alloc HN7.out _) hg8 (own_ne HN7.out HT7.out (by decide))
      have HN8 := Lib.hid hn8
      have HT8 := Lib.hid hown8
      have HB8 := Lib.hid ((HB7.out.alloc hs7 _).trans hbel8)
      have hs8 : w1.heap.size ≤ w8.heap.size := by have := HB8.out.size; omega
      clear hn8 hown8 hg8 hbel8
      (go_simp; refine hK _ _ ?_; clear hK K)
      (repeat (refine T_lp rfl (fun K hK => ?_); go_simp; refine hK _ ?_; clear hK K))
      refine T_done ?_
      go_wp2_with (at_builtin; refine list_step (fun K hK => ?_); refine step_app1 Try.underlying22 info_int rfl (by omega) rfl (.tmp 43) (.tmp 49) rfl w1.heap.size (L.length + k) _ ((L ++ tailN b k).map I) rfl (World.ownsRow.alloc HN8.out _) w8.heap.size 1 (I ((N : Int) + ((S.length : Int) + (k : Int) + 1) - 1)) rfl (by rw [World.cell?_alloc_at _ _ _ _ rfl]; first | rfl | go_num) rfl (by omega) (by simp; omega) ?_; intro A9 c9 w9 hown9 hg9 hbel9; have ht9 := World.ownsRow.kept (World.ownsRow.alloc HT8.out _) hg9 (own_ne HT8.out HN8.out (by decide)); have HT9 := Lib.hid ht9; have HN9 := Lib.hid hown9; have HB9 := Lib.hid ((HB8.out.alloc hs8 _).trans hbel9); clear ht9 hown9 hg9 hbel9; go_simp; refine hK _ _ ?_; clear hK K)
      go_roundw
      case rel =>
        refine ⟨k + 1, A9, A8, c9, c8, by omega, by go_num, rfl, rfl, ?_, ?_, HB9.out⟩
        · have h := HN9.out
          rw [tailN_succ, ← List.append_assoc, List.map_append, ← HBV.out]
          rw [show (N : Int) + ((S.length : Int) + (k : Int) + 1) - 1 = (N : Int) + (S.length : Int) + (k : Int) by omega] at h
          rw [← HBV.out] at h
          exact h
        · have h := HT9.out
          rw [HST.out, ← List.append_assoc, fl_snoc]
          exact h
      case measure => simp [intOf]; omega
    · have hk' : k = q.s.length := by omega
      subst hk'
      rw [List.take_of_length_le (Nat.le_refl _)] at ht
      rw [HNM.out] at hn
      rw [HNM.out] at hMl
      have HT := Lib.hid ht
      have HN := Lib.hid hn
      have HML := Lib.hid hMl
      have HBL := Lib.hid hbel
      have HBW := Lib.hid hbw
      have hsw : w.heap.size ≤ wr.heap.size := hbw.size
      clear ht hn hMl hbel hbw v1 z1 z2
      go_wp2
      go_loopw [14, 55] (fun ov i wq => ∃ (j : Nat) (A7 : Option Addr) (c7 : Nat), j ≤ q.o.length ∧ i = .int .i64 j ∧ ov = .slice A7 j c7 ∧ wq.ownsRow wr.heap.size 3 1 (.slice A7 j c7) j (((q.o.take j).map fun x => nm.getD x.toNat 0).map I) ∧ Below wr.heap.size wr wq) (fun _ i _ => q.o.length - (intOf i).toNat)
      case atStart => exact ⟨0, none, 0, by omega, rfl, rfl, World.ownsRow_nil _ _ _ _, Below.refl _ _⟩
      case round =>
        obtain ⟨j, A7, c7, hj, rfl, rfl, ho, hb2⟩ := hrel
        have hsz2 := hb2.size
        have HB2' := Lib.hid hb2
        by_cases hlt2 : j < q.o.length
        · obtain ⟨o1, o2⟩ := HOUT.out _ (List.getElem_mem hlt2)
          obtain ⟨ob, oo, rfl, hob, hoc⟩ := (HQ.out.below' (HBW.out.trans (hb2.mono hsw)) hB).2.int hlt2
          obtain ⟨v, hv⟩ : ∃ v : Nat, q.o[j] = v := ⟨(q.o[j]).toNat, by omega⟩
          have hvl : v < nm.length := by rw [HML.out]; omega
          have ivl : (v : Int) < (L.length : Int) + (q.s.length : Int) := by omega
          have hvl' : v < L.length + q.s.length := by omega
          have RN := Rd.of_own HN.out
          rw [← HML.out] at RN
          obtain ⟨fb, fo, rfl, hfb, hcx⟩ := (RN.below' hb2 (Nat.le_refl _)).int hvl
          have hst : ((q.o.take (j + 1)).map fun x => nm.getD x.toNat 0) = ((q.o.take j).map fun x => nm.getD x.toNat 0) ++ [nm[v]] := by
            rw [List.take_succ_eq_append_getElem hlt2, List.map_append, List.map_cons, List.map_nil, hv, Int.toNat_natCast, List.getD_eq_getElem?_getD, List.getElem?_eq_getElem hvl]; rfl
          rw [hv] at hoc
          obtain ⟨f1, hf1⟩ : ∃ f, nm[v] = f := ⟨_, rfl⟩
          rw [hf1] at hcx hst
          have HST := Lib.hid hst
          have HO := Lib.hid ho
          clear hst ho hb2 hv o1 o2 hf1 RN hvl
          go_wp2_with (at_builtin; refine list_step (fun K hK => ?_); refine step_app1 Try.underlying22 info_int rfl (by omega) rfl (.tmp 59) (.tmp 64) rfl _ j _ ((((q.o.take j).map fun x => nm.getD x.toNat 0).map I)) rfl (World.ownsRow.alloc HO.out _) wr.heap.size 1 (I f1) rfl (by rw [World.cell?_alloc_at _ _ _ _ rfl]; rfl) rfl (by omega) (by simp; omega) ?_; intro A9 c9 w9 hown9 hg9 hbel9; go_simp; refine hK _ _ ?_; clear hK K)
          go_roundw
          case rel =>
            refine ⟨j + 1, A9, c9, by omega, by go_num, rfl, ?_, (HB2'.out.alloc hsz2 _).trans hbel9⟩
            rw [HST.out, List.map_append]
            exact hown9
          case measure => simp [intOf]; omega
        · have hj' : j = q.o.length := by omega
          subst hj'
          rw [List.take_of_length_le (Nat.le_refl _)] at ho
          have HO := Lib.hid ho
          clear ho hb2
          go_wp2
          refine bodyPost_ret (v := .tuple #[.slice A6 (S.length + q.s.length) c6, .slice A7 q.o.length c7]) (by simp [results, Try.results62, go_sem]) rfl ⟨A6, A7, c6, c7, rfl, ?_, ?_, HBW.out.trans (HB2'.out.mono hsw)⟩
          · show World.ownsRow _ _ _ _ _ _ _
            rw [List.length_append, List.length_map]
            exact own_base (own_below HT.out HB2'.out) (by omega)
          · show World.ownsRow _ _ _ _ _ _ _
            rw [List.length_map]
            exact own_base HO.out hsw
end Go.Proofs.Yteldndbfopdehab
