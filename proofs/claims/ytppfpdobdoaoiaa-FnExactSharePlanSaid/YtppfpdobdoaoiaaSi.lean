/- SharePlan, of the program. -/
import Derived.Test.YtppfpdobdoaoiaaSh
namespace Go.Proofs.Ytppfpdobdoaoiaa
open Go.RowKit

def shareR (p : Pl) : Pl := if good p then trimR (shareQ p p.n.toNat) else zeroP
theorem shareR_good {p : Pl} {N : Nat} (h : good p = true) (hN : p.n = N) : shareR p = trimR (shareQ p N) := by
  have : p.n.toNat = N := by omega
  unfold shareR
  rw [if_pos h, this]
theorem shareR_bad {p : Pl} (h : good p = false) : shareR p = zeroP := by
  unfold shareR
  rw [if_neg (by rw [h]; decide)]
theorem shareR_len (p : Pl) : (shareR p).s.length ≤ 1000 ∧ (shareR p).o.length ≤ 1000 := by
  unfold shareR
  split
  · exact trimR_len _
  · simp [zeroP]
theorem firstK_at {E : List (List Int)} {v : Nat} (hv : v < E.length) : (firstK E E.length)[v]'(by rw [firstK_length]; exact hv) = shF E (v : Int) := by
  unfold firstK shF
  simp
theorem firstK_get {E : List (List Int)} {x : Int} (h0 : 0 ≤ x) (h1 : x < E.length) : (firstK E E.length).getD x.toNat 0 = shF E x := by
  obtain ⟨v, rfl⟩ : ∃ v : Nat, x = v := ⟨x.toNat, by omega⟩
  have hv : v < E.length := by omega
  rw [Int.toNat_natCast, ← firstK_at hv]
  simp [firstK_length, hv]

set_option maxRecDepth 100000 in
set_option maxHeartbeats 2000000 in
theorem renamedSteps_any (B : Nat) (A A2 : Option Addr) (c c2 : Nat) (s : List (Int × Int)) (E : List (List Int)) (w : World) (hm : s.length ≤ 1000) (hB : B ≤ w.heap.size) (hin : ∀ st ∈ s, 0 ≤ st.1 ∧ st.1 ≤ st.2 ∧ st.2 < (E.length : Int)) (hr : Rd w B 2 A s.length (fl s)) (hrn : Rd w B 1 A2 E.length ((firstK E E.length).map I)) :
    Calls Try.prog 88 #[.slice A s.length c, .slice A2 E.length c2] w fun e w' => ∃ A' c', e = .returned (.slice A' s.length c') ∧ OwS w' w.heap.size (.slice A' s.length c') (s.map (shS E)) ∧ Below w.heap.size w w' := by
  have H := Lib.hid hr
  have HN := Lib.hid hrn
  have HIN := Lib.hid hin
  clear hr hrn hin
  obtain ⟨T, hT⟩ : ∃ T, s.map (shS E) = T := ⟨_, rfl⟩
  have hTl : T.length = s.length := by rw [← hT]; simp
  have hTat : ∀ k (h : k < s.length) (h' : k < T.length), T[k] = shS E s[k] := fun k h h' => by subst hT; simp
  rw [hT]
  have HTL := Lib.hid hTl
  have HTA := Lib.hid hTat
  clear hT hTl hTat
  obtain ⟨i0, hi, hz0, hz1, hz2⟩ := info_parts info_step
  have hmk : ∀ W : World, (Instr.makeSlice 24 (.int .i64 (s.length : Int)) (.int .i64 (s.length : Int))).run Try.prog W = .ok (.slice (some ⟨W.heap.size, 0, none⟩) s.length s.length) (W.alloc (.cells (madeCells #[.int .i64 0, .int .i64 0] (s.length * 2)) 91)) := fun W => by
    have hr := run_make (P := Try.prog) W 24 91 i0 _ Try.underlying24 hi hz0 .i64 .i64 s.length s.length (by omega) (Int.le_refl _) (by rw [hz2]; omega) (by omega)
    simp only [Int.toNat_natCast] at hr
    rw [hz1] at hr
    exact hr
  have hmade : (w.alloc (.cells (madeCells #[.int .i64 0, .int .i64 0] (s.length * 2)) 91)).ownsRow w.heap.size 91 2 (.slice (some ⟨w.heap.size, 0, none⟩) s.length s.length) s.length (fl (T.take 0) ++ List.replicate ((s.length - 0) * 2) (I 0)) := by
    have h := World.ownsRow_lit (base := w.heap.size) (e := 91) (size := 2) w (madeCells #[Value.int .i64 0, .int .i64 0] (s.length * 2)) s.length (Nat.le_refl _) (by unfold maxLen; omega) (by simp [size_madeCells])
    rw [made2] at h
    simpa [fl] using h
  have HM := Lib.hid hmade
  clear hmade hi hz0 hz1 hz2
  go_enter Try.func88, Try.ntmps88
  go_wp2
  clear hmk
  go_loopw [13] (fun i wr => ∃ k : Nat, k ≤ s.length ∧ i = .int .i64 k ∧ wr.ownsRow w.heap.size 91 2 (.slice (some ⟨w.heap.size, 0, none⟩) s.length s.length) s.length (fl (T.take k) ++ List.replicate ((s.length - k) * 2) (I 0)) ∧ Below w.heap.size w wr) (fun i _ => s.length - (intOf i).toNat)
  case atStart => exact ⟨0, by omega, rfl, HM.out, (Below.refl _ _).alloc (Nat.le_refl _) _⟩
  case round =>
    obtain ⟨k, hk, rfl, hown, hbel⟩ := hrel
    have hsz : w.heap.size ≤ wr.heap.size := hbel.size
    by_cases hlt : k < s.length
    · obtain ⟨i1, i2, i3⟩ := HIN.out _ (List.getElem_mem hlt)
      obtain ⟨b, off, rfl, hb, hc1, hc2⟩ := (H.out.below' hbel (by omega)).stp hlt
      obtain ⟨x, hx⟩ : ∃ x : Nat, (s[k]).1 = x := ⟨(s[k]).1.toNat, by omega⟩
      obtain ⟨y, hy⟩ : ∃ y : Nat, (s[k]).2 = y := ⟨(s[k]).2.toNat, by omega⟩
      rw [hx] at hc1
      rw [hy] at hc2
      have hxl : x < E.length := by omega
      have hyl : y < E.length := by omega
      have hE := fun W hBW hrW => renamedStep_any B x y A2 c2 (firstK E E.length) W hBW (by rw [firstK_length]; exact hxl) (by rw [firstK_length]; exact hyl) hrW
      simp only [firstK_at hxl, firstK_at hyl, firstK_length] at hE
      have hta : T[k]'(by have := HTL.out; omega) = (leastI (shF E x) (shF E y), mostI (shF E x) (shF E y)) := by
        rw [HTA.out k hlt (by have := HTL.out; omega)]
        unfold shS stI
        rw [hx, hy]
      have HE := Lib.hid hE
      have HTAK := Lib.hid hta
      have BEL := Lib.hid hbel
      have OWN := Lib.hid hown
      clear hown hbel hE hta hx hy i1 i2 i3
      go_wp2_with fail
      go_at_call 108
      generalize hw4 : World.alloc wr _ = w4
      obtain ⟨e0, e1, es, eb⟩ := box2 hw4
      clear hw4
      have hbw4 : Below w.heap.size w w4 := BEL.out.trans (eb.mono hsz)
      refine (HE.out w4 (by have := hbw4.size; omega) (HN.out.below' hbw4 hB)).mono ?_
      rintro e w5 ⟨rfl, hb5⟩
      have hb45 : Below wr.heap.size wr w5 := eb.trans (hb5.mono eb.size)
      have hown5 := own_below OWN.out hb45
      have hl : (fl (T.take k)).length = k * 2 := by rw [fl_length]; have := HTL.out; simp; omega
      have d0 : w5.cell? ⟨w.heap.size, k * 2, none⟩ = some (I 0) := by
        rw [hown5.cellAt _ (by omega)]
        exact rep_at (by omega) (by omega)
      have d1 : w5.cell? ⟨w.heap.size, k * 2 + 1, none⟩ = some (I 0) := by
        rw [hown5.cellAt _ (by omega)]
        exact rep_at (by omega) (by omega)
      have f0 : w5.frozen? ⟨w.heap.size, k * 2, none⟩ = false := hown5.frozenAt _
      have f1 : w5.frozen? ⟨w.heap.size, k * 2 + 1, none⟩ = false := hown5.frozenAt _
      have HB5 := Lib.hid (BEL.out.trans (hb45.mono hsz))
      have OWN5 := Lib.hid hown5
      clear hb5 hown5 hl hb45 hbw4 eb e0 e1
      go_wp2
      go_roundw
      case rel =>
        refine ⟨k + 1, by omega, by go_num, ?_, ((HB5.out.setCell (Nat.le_refl _) _).setCell (Nat.le_refl _) _)⟩
        have h := ((OWN5.out.stored (k * 2) (I (leastI (shF E x) (shF E y)))).1.stored (k * 2 + 1) (I (mostI (shF E x) (shF E y)))).1
        have hf := fill_step T k (by have := HTL.out; omega)
        rw [HTAK.out, HTL.out] at hf
        rw [hf] at h
        exact h
      case measure => simp [intOf]; omega
    · have hk' : k = s.length := by omega
      have BEL := Lib.hid hbel
      have OWN := Lib.hid hown
      subst hk'
      clear hown hbel
      go_wp2
      go_ret
      refine ⟨_, _, rfl, ?_, BEL.out⟩
      have h := OWN.out
      rw [List.take_of_length_le (by have := HTL.out; omega)] at h
      show World.ownsRow _ _ _ _ _ _ _
      rw [HTL.out]
      simpa using h

set_option maxRecDepth 100000 in
set_option maxHeartbeats 4000000 in
theorem implShare_any (B : Nat) (A1 A2 : Option Addr) (c1 c2 : Nat) (p : Pl) (w : World) (hB : B ≤ w.heap.size) (hls : p.s.length ≤ 2000000) (hlo : p.o.length ≤ 2000000) (hr : RdP w B A1 A2 p) :
    Calls Try.prog 50 #[.agg #[.int .i64 p.n, .slice A1 p.s.length c1, .slice A2 p.o.length c2]] w fun e w' =>
      ∃ B1 B2 d1 d2, e = .returned (.tuple #[.agg #[.int .i64 (shareR p).n, .slice B1 (shareR p).s.length d1, .slice B2 (shareR p).o.length d2], .bool (good p)]) ∧ OwP w' w.heap.size B1 B2 d1 d2 (shareR p) ∧ Below w.heap.size w w' := by
  have H := Lib.hid hr
  clear hr
  go_enter Try.func50, Try.ntmps50
  go_wp2_with fail
  go_at_call 64
  generalize hw1 : World.alloc (World.alloc w _) _ = w1
  obtain ⟨q0, q1, xs, xb⟩ := boxes2 hw1
  clear hw1
  refine (withValues_any B A1 A2 c1 c2 p w1 (by omega) hls hlo (H.out.below' xb hB)).mono ?_
  rintro e w2 ⟨hb2, hpost⟩
  have r0 := (hb2.block w.heap.size (by omega)).trans q0
  have r1 := (hb2.block (w.heap.size + 1) (by omega)).trans q1
  have HB2 := Lib.hid (xb.trans (hb2.mono (show w.heap.size ≤ w1.heap.size by omega)))
  have hs2 : w.heap.size + 2 ≤ w2.heap.size := by have := hb2.size; omega
  have hs12 : w1.heap.size ≤ w2.heap.size := hb2.size
  clear q0 q1 xs xb hb2
  rw [valsI_eq] at hpost
  by_cases hg : good p = true
  · rw [if_pos hg] at hpost
    simp only at hpost
    obtain ⟨A, c, rfl, hown⟩ := hpost
    obtain ⟨N, hN, n1, n6, hs40, ho6, hok, hout, _⟩ := good_facts hg
    have hgs := good_share hg hN
    have ea := shareR_good hg hN
    have hn' : p.n.toNat = N := by omega
    rw [hn', List.length_map] at hown ⊢
    have hokr : OkR N (exps N p.s) := by have := exps_ok hok p.s.length (Nat.le_refl _); rwa [List.take_of_length_le (Nat.le_refl _)] at this
    have hel := exps_length N p.s
    have hin : ∀ st ∈ p.s, 0 ≤ st.1 ∧ st.1 ≤ st.2 ∧ st.2 < ((exps N p.s).length : Int) := fun st hst => by
      obtain ⟨i, hi, rfl⟩ := List.mem_iff_getElem.1 hst
      obtain ⟨h1, h2, h3⟩ := hok i hi
      omega
    have hino : ∀ x ∈ p.o, 0 ≤ x ∧ x < ((exps N p.s).length : Int) := fun x hx => by have := hout x hx; omega
    have hqv : shareQ p N = ⟨p.n, p.s.map (shS (exps N p.s)), p.o.map (shF (exps N p.s))⟩ := rfl
    obtain ⟨E, hE⟩ : ∃ E, exps N p.s = E := ⟨_, rfl⟩
    rw [hE] at hown hokr hel hin hino hqv ⊢
    have hEl : E.length ≤ 46 := by omega
    have hol : (p.o.map fun x => (firstK E E.length).getD x.toNat 0) = p.o.map (shF E) := List.map_congr_left fun x hx => firstK_get (hino x hx).1 (hino x hx).2
    have hrs := fun (W : World) A c hrW hrn => renamedSteps_any W.heap.size A1 A c1 c p.s E W (by omega) (Nat.le_refl _) hin hrW hrn
    have hro := fun (W : World) A c hrW hrn => renamed_any W.heap.size A2 A c2 c p.o (firstK E E.length) W (by omega) (Nat.le_refl _) (fun x hx => by have := hino x hx; rw [firstK_length]; omega) hrW hrn
    rw [hol, firstK_length] at hro
    rw [hqv] at ea hgs
    obtain ⟨qs, hqs⟩ : ∃ qs, p.s.map (shS E) = qs := ⟨_, rfl⟩
    obtain ⟨qo, hqo⟩ : ∃ qo, p.o.map (shF E) = qo := ⟨_, rfl⟩
    have hqsl : qs.length = p.s.length := by rw [← hqs]; simp
    have hqol : qo.length = p.o.length := by rw [← hqo]; simp
    rw [hqs] at hrs ea hgs
    rw [hqo] at hro ea hgs
    have htr := fun W B1 B2 d1 d2 hrW => implTrim_any W.heap.size B1 B2 d1 d2 ⟨p.n, qs, qo⟩ W (Nat.le_refl _) (by simp only; omega) (by simp only; omega) hrW
    rw [hgs] at htr
    simp only [hqsl, hqol] at htr
    have HRS := Lib.hid hrs
    have HRO := Lib.hid hro
    have HTR := Lib.hid htr
    have HQSL := Lib.hid hqsl
    have HQOL := Lib.hid hqol
    have EA := Lib.hid ea
    have HG := Lib.hid hg
    have HRD := Lib.hid (Rd.of_own hown)
    have HOKR := Lib.hid hokr
    have R0 := Lib.hid r0
    have R1 := Lib.hid r1
    clear hrs hro htr hqs hqo hqsl hqol ea hgs hg hown hokr hE hel hok hout hin hino hqv hol hn' r0 r1 hN
    go_wp2_with fail
    go_at_call 87
    generalize hw3 : World.alloc w2 _ = w3
    obtain ⟨_, _, _, _, xs, xb⟩ := box4 hw3
    clear hw3
    refine (firsts_any w2.heap.size N (.int .i64 p.n) (.slice A1 p.s.length c1) (.slice A2 p.o.length c2) A c E w3 n6 HOKR.out (by omega) (by omega) (HRD.out.below xb)).mono ?_
    rintro e w4 ⟨A3, c3, rfl, hown4, hb4⟩
    have hb24 : Below w2.heap.size w2 w4 := xb.trans (hb4.mono xb.size)
    have hs4 : w2.heap.size ≤ w4.heap.size := hb24.size
    have hfr : Rd w4 w4.heap.size 1 A3 E.length ((firstK E E.length).map I) := by
      have h' : w4.ownsRow _ _ _ _ _ _ := hown4
      rw [firstK_length] at h'
      exact Rd.of_own h'
    obtain ⟨y0, y1, y2, _, _, _⟩ := cells3 ((hb24.block w.heap.size (by omega)).trans R0.out)
    have HFR := Lib.hid hfr
    have HB4 := Lib.hid (HB2.out.trans (hb24.mono (by omega)))
    have R14 := Lib.hid ((hb24.block (w.heap.size + 1) (by omega)).trans R1.out)
    have FS := Lib.hid (show ∀ x, Below w4.heap.size w4 x → x.cell? ⟨w.heap.size, 0, none⟩ = some (.int .i64 p.n) ∧ x.cell? ⟨w.heap.size, 1, none⟩ = some (.slice A1 p.s.length c1) ∧ x.cell? ⟨w.heap.size, 2, none⟩ = some (.slice A2 p.o.length c2) from fun x hx =>
      ⟨(hx.cell (p := ⟨w.heap.size, 0, none⟩) (by simp only []; omega)).trans y0, (hx.cell (p := ⟨w.heap.size, 1, none⟩) (by simp only []; omega)).trans y1, (hx.cell (p := ⟨w.heap.size, 2, none⟩) (by simp only []; omega)).trans y2⟩)
    have S0 := Lib.hid (show Below w4.heap.size w4 w4.drew from (Below.refl _ _).drew)
    clear y0 y1 y2 hown4 hb4 hb24 hfr xs xb
    go_wp2
    refine wp_region_T (fun x : World => Below w4.heap.size w4 x) [0, 1, 2, 3, 4, 6, 7, 8, 10, 12, 13, 15] [1, 3, 7] (.lp 0 (.lp 2 (.lp 4 (.lp 6 (.lp 8 (.ls 1 (.ls 3 (.ls 7 (.hv 5 (.hv 9 (.lp 10 (.hv 11 (.lp 12 (.lp 13 (.hv 14 (.lp 15 (.done))))))))))))))))) (by kernel_rfl) (by kernel_rfl) ?_
    (repeat (refine T_lp rfl (fun K hK => ?_); go_simp; refine hK _ ?_; clear hK K))
    refine T_ls1 (v := .int .i64 p.n) rfl rfl S0.out (fun x hx => (by obtain ⟨h0, h1, h2⟩ := FS.out x hx; go_simp)) (fun K hK => ?_)
    (go_simp; refine hK _ ?_; clear hK K)
    refine T_ls1 (v := .slice A1 p.s.length c1) rfl rfl S0.out (fun x hx => (by obtain ⟨h0, h1, h2⟩ := FS.out x hx; go_simp)) (fun K hK => ?_)
    (go_simp; refine hK _ ?_; clear hK K)
    refine T_ls1 (v := .slice A2 p.o.length c2) rfl rfl S0.out (fun x hx => (by obtain ⟨h0, h1, h2⟩ := FS.out x hx; go_simp)) (fun K hK => ?_)
    (go_simp; refine hK _ ?_; clear hK K)
    refine T_hvS rfl (fun K hK => ?_)
    go_simp
    go_at_call 88
    refine (HRS.out w4.drew A3 c3 (((H.out.below' HB4.out hB).more (by simp; omega)).drew).1 HFR.out.drew).mono ?_
    rintro e w5 ⟨B1, d1, rfl, hown5, hb5⟩
    have hb45 : Below w4.heap.size w4 w5 := (Below.refl _ _).drew.trans (hb5.mono (by simp))
    have OS5 := Lib.hid (show OwS w5 w4.heap.size (.slice B1 p.s.length d1) qs from own_base hown5 (by simp))
    have HB45 := Lib.hid hb45
    have hs5 : w4.heap.size ≤ w5.heap.size := hb45.size
    clear hown5 hb5
    go_simp
    refine hK _ _ hb45 ?_
    clear hK K hb45
    refine T_hvS rfl (fun K hK => ?_)
    go_simp
    go_at_call 58
    have hbw5 : Below w.heap.size w w5 := HB4.out.trans (HB45.out.mono (by omega))
    refine (HRO.out w5 A3 c3 (((H.out.below' hbw5 hB).more (by omega)).2) ((HFR.out.below HB45.out).more hs5)).mono ?_
    rintro e w6 ⟨B2, d2, rfl, hown6, hb6⟩
    have hb46 : Below w4.heap.size w4 w6 := HB45.out.trans (hb6.mono hs5)
    have hq : OwP w6 w.heap.size B1 B2 d1 d2 ⟨p.n, qs, qo⟩ := by
      refine ⟨?_, ?_⟩
      · show World.ownsRow _ _ _ _ _ _ _
        simp only
        have h' : w6.ownsRow _ _ _ _ _ _ := own_base (own_below OS5.out hb6) (show w.heap.size ≤ w4.heap.size by omega)
        rw [HQSL.out] at h' ⊢
        exact h'
      · show World.ownsRow _ _ _ _ _ _ _
        simp only
        have h' : w6.ownsRow _ _ _ _ _ _ := own_base hown6 (show w.heap.size ≤ w5.heap.size by omega)
        rw [HQOL.out] at h' ⊢
        exact h'
    have HQ := Lib.hid hq
    have HB46 := Lib.hid hb46
    have hs6 : w4.heap.size ≤ w6.heap.size := hb46.size
    go_simp
    refine hK _ _ hb46 ?_
    clear hK K hb46 hq hown6 hb6 hbw5
    (repeat (refine T_lp rfl (fun K hK => ?_); go_simp; refine hK _ ?_; clear hK K))
    refine T_hvS rfl (fun K hK => ?_)
    go_simp
    go_at_call 47
    have hrq := HQ.out.rd
    unfold RdP at hrq
    simp only [HQSL.out, HQOL.out] at hrq
    refine (HTR.out w6 B1 B2 d1 d2 ⟨by simpa [HQSL.out] using HQ.out.rd.1, by simpa [HQOL.out] using HQ.out.rd.2⟩).mono ?_
    rintro e w7 ⟨T1, T2, u1, u2, rfl, hown7, hb7⟩
    have hb47 : Below w4.heap.size w4 w7 := HB46.out.trans (hb7.mono hs6)
    have r7 := (hb47.block (w.heap.size + 1) (by omega)).trans R14.out
    obtain ⟨t0, t1, t2, g0, g1, g2⟩ := cells3 r7
    have R7 := Lib.hid r7
    have HO7 := Lib.hid (hown7.base (show w.heap.size ≤ w6.heap.size by omega))
    have HB7 := Lib.hid (HB4.out.trans (hb47.mono (by omega)))
    go_simp
    refine hK _ _ hb47 ?_
    clear hK K r7 hown7 hb7 hb47 hrq
    (repeat (refine T_lp rfl (fun K hK => ?_); go_simp; refine hK _ ?_; clear hK K))
    (refine T_hv rfl (by kernel_rfl) (fun K hK => ?_); go_simp; refine hK _ _ ?_; clear hK K)
    (repeat (refine T_lp rfl (fun K hK => ?_); go_simp; refine hK _ ?_; clear hK K))
    refine T_done ?_
    go_wp2
    refine bodyPost_ret (v := .tuple #[.agg #[.int .i64 (trimR ⟨p.n, qs, qo⟩).n, .slice T1 (trimR ⟨p.n, qs, qo⟩).s.length u1, .slice T2 (trimR ⟨p.n, qs, qo⟩).o.length u2], .bool true]) (by simp [results, Try.results50, go_sem, t0, t1, t2]) rfl ⟨T1, T2, u1, u2, by rw [EA.out, HG.out], ?_, ?_⟩
    · rw [EA.out]
      exact ⟨own_set3 HO7.out.1 R7.out (by decide) _ _ _, own_set3 HO7.out.2 R7.out (by decide) _ _ _⟩
    · exact ((HB7.out.setCell (by simp) _).setCell (by simp) _).setCell (by simp) _
  · rw [if_neg hg] at hpost
    simp only at hpost
    subst hpost
    have hg' : good p = false := by simpa using hg
    have ea := shareR_bad hg'
    have EA := Lib.hid ea
    have HG := Lib.hid hg'
    have hR1 : ∀ o, (w2.alloc o).heap[w.heap.size + 1]? = some (.cells #[.int .i64 0, .slice none 0 0, .slice none 0 0] 27 (0, 0)) := fun o => (Below.heap_alloc w2 o _ (by omega)).trans r1
    have t0 := fun o => (cells3 (hR1 o)).1
    have t1 := fun o => (cells3 (hR1 o)).2.1
    have t2 := fun o => (cells3 (hR1 o)).2.2.1
    have g0 := fun o => (cells3 (hR1 o)).2.2.2.1
    have g1 := fun o => (cells3 (hR1 o)).2.2.2.2.1
    have g2 := fun o => (cells3 (hR1 o)).2.2.2.2.2
    clear hg hg' ea hR1 r1 r0
    go_wp2
    refine bodyPost_ret (v := .tuple #[.agg #[.int .i64 0, .slice none 0 0, .slice none 0 0], .bool false]) (by simp [results, Try.results50, go_sem, t0, t1, t2]) rfl ⟨none, none, 0, 0, by rw [EA.out, HG.out]; rfl, by rw [EA.out]; exact OwP.zero _ _, ?_⟩
    exact (((HB2.out.alloc HB2.out.size _).setCell (by simp) _).setCell (by simp) _).setCell (by simp) _
end Go.Proofs.Ytppfpdobdoaoiaa
