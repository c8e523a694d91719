/- The needed part of a chain, by both. -/
import Derived.Test.YteldndbfopdehabRg
import Derived.Test.YteldndbfopdehabRc
namespace Go.Proofs.Yteldndbfopdehab
open Go.RowKit

/-- The two cells of step k of an own row. -/
theorem OwS.atQ {w : World} {B : Nat} {A : Option Addr} {c : Nat} {s : List (Int × Int)} (h : OwS w B (.slice A s.length c) s) {k : Nat} (hk : k < s.length) :
    ∃ g, A = some ⟨g, 0, none⟩ ∧ B ≤ g ∧ g < w.heap.size ∧ w.cell? ⟨g, k * 2, none⟩ = some (.int .i64 (s.getD k (0, 0)).1) ∧ w.cell? ⟨g, k * 2 + 1, none⟩ = some (.int .i64 (s.getD k (0, 0)).2) := by
  obtain ⟨g, rfl, hB, hg, hc, _⟩ := own_at h (by omega)
  obtain ⟨f1, f2⟩ := fl_at hk
  have e : s.getD k (0, 0) = s[k] := by simp [hk]
  exact ⟨g, rfl, hB, hg, by rw [hc _ (by omega), f1, e], by rw [hc _ (by omega), f2, e]⟩
theorem nd_impl (l : List Int) : cpL (trimR (chP l)) = ndL l ∧ cpG (trimR (chP l)) = chG l := by
  cases hg : chG l with
  | true => obtain ⟨h1, h2⟩ := trim_chain hg; exact ⟨h2, h1⟩
  | false =>
    have hz : good zPl = false := rfl
    rw [chP_false hg, trimR_bad hz]
    have h2 : cpG zeroP = false := rfl
    exact ⟨by rw [cpL_false h2, ndL_false hg], h2⟩

set_option maxRecDepth 100000 in
set_option maxHeartbeats 2000000 in
theorem implNeed_any (B : Nat) (A : Option Addr) (c : Nat) (l : List Int) (w : World) (hB : B ≤ w.heap.size) (hl : l.length ≤ 1048576) (hcap : l.length ≤ c) (hr : Rd w B 1 A l.length (l.map I)) :
    Calls Try.prog 23 #[.slice A l.length c] w fun e w' =>
      ∃ A' c', e = .returned (.tuple #[.slice A' (ndL l).length c', .bool (chG l)]) ∧ OwI w' w.heap.size (.slice A' (ndL l).length c') (ndL l) ∧ Below w.heap.size w w' := by
  have hC := implChainPlan_any B A c l w hB hl hcap hr
  obtain ⟨e1, e2⟩ := nd_impl l
  have hps := chP_s l
  have hpo := chP_o l
  have htl := trimR_len (chP l)
  obtain ⟨P, hP⟩ : ∃ P, chP l = P := ⟨_, rfl⟩
  rw [hP] at hC hps hpo htl e1 e2
  obtain ⟨gd, hgd⟩ : ∃ g, chG l = g := ⟨_, rfl⟩
  rw [hgd] at hC e2 ⊢
  obtain ⟨T, hT⟩ : ∃ T, trimR P = T := ⟨_, rfl⟩
  rw [hT] at e1 e2 htl
  obtain ⟨ht1, ht2⟩ := htl
  have hTr := fun (W : World) B1 B2 d1 d2 hr2 => implTrim_any W.heap.size B1 B2 d1 d2 P W (Nat.le_refl _) (by omega) (by omega) hr2
  have hCp := fun (W : World) B1 B2 d1 d2 hr2 => implCp_any W.heap.size B1 B2 d1 d2 T W (Nat.le_refl _) (by omega) (by omega) hr2
  rw [hT] at hTr
  rw [e1, e2] at hCp
  obtain ⟨g2, hg2⟩ : ∃ g, good P = g := ⟨_, rfl⟩
  rw [hg2] at hTr
  have HC := Lib.hid hC
  have HTR := Lib.hid hTr
  have HCP := Lib.hid hCp
  clear hC hTr hCp e1 e2 hP hgd hT hg2 hr
  go_enter Try.func23, Try.ntmps23
  go_wp2_with fail
  go_at_call 53
  refine HC.out.mono ?_
  rintro e w2 ⟨R1, R2, v1, v2, rfl, hown2, hb2⟩
  have HB2 := Lib.hid hb2
  have hs2 : w.heap.size ≤ w2.heap.size := hb2.size
  clear hb2
  go_wp2_with fail
  go_at_call 54
  generalize hw3 : World.alloc w2 _ = w3
  have hb3 : Below w2.heap.size w2 w3 := by rw [← hw3]; exact (Below.refl _ _).alloc (Nat.le_refl _) _
  clear hw3
  have HB3 := Lib.hid (HB2.out.trans (hb3.mono hs2))
  have hs3 : w.heap.size ≤ w3.heap.size := HB3.out.size
  refine (HTR.out w3 R1 R2 v1 v2 (hown2.below hb3).rd).mono ?_
  clear hown2 hb3
  rintro e w4 ⟨E1, E2, f1, f2, rfl, hown4, hb4⟩
  have HB4 := Lib.hid (HB3.out.trans (hb4.mono hs3))
  have hs4 : w.heap.size ≤ w4.heap.size := HB4.out.size
  clear hb4
  go_wp2_with fail
  go_at_call 19
  generalize hw5 : World.alloc w4 _ = w5
  have hb5 : Below w4.heap.size w4 w5 := by rw [← hw5]; exact (Below.refl _ _).alloc (Nat.le_refl _) _
  clear hw5
  have HB5 := Lib.hid (HB4.out.trans (hb5.mono hs4))
  have hs5 : w.heap.size ≤ w5.heap.size := HB5.out.size
  refine (HCP.out w5 E1 E2 f1 f2 (hown4.below hb5).rd).mono ?_
  clear hown4 hb5
  rintro e w6 ⟨A6, c6, rfl, hown6, hb6⟩
  have OW6 := Lib.hid (hown6.base hs5)
  have HB6 := Lib.hid (HB5.out.trans (hb6.mono hs5))
  clear hown6 hb6
  go_wp2
  go_ret2
  exact ⟨A6, c6, rfl, OW6.out, HB6.out⟩

theorem ndX_hit {l : List Int} {j i : Nat} (hi : i < (stepsK l l.length).length) (hij : (stepsK l l.length).length - 1 - j = i) (h : hasI (ndX l j) ((i : Int) + 1) = true) :
    ndX l (j + 1) = putI (putI (ndX l j) ((stepsK l l.length).getD i (0, 0)).1) ((stepsK l l.length).getD i (0, 0)).2 := by
  rw [hasI_ndX, show (i : Int) + 1 = ((1 : Nat) : Int) + (i : Int) by omega] at h
  unfold ndX
  rw [need_hit hi hij h, uni_snoc2]
  have e : (stepsK l l.length).getD i (0, 0) = (stepsK l l.length)[i] := by simp [hi]
  rw [e]
theorem ndX_miss {l : List Int} {j i : Nat} (hij : (stepsK l l.length).length - 1 - j = i) (h : hasI (ndX l j) ((i : Int) + 1) = false) : ndX l (j + 1) = ndX l j := by
  rw [hasI_ndX, show (i : Int) + 1 = ((1 : Nat) : Int) + (i : Int) by omega] at h
  unfold ndX
  rw [need_miss hij h]

set_option maxRecDepth 100000 in
set_option maxHeartbeats 4000000 in
theorem specNeed_any (B : Nat) (A : Option Addr) (c : Nat) (l : List Int) (w : World) (hB : B ≤ w.heap.size) (hl : l.length ≤ 1048576) (_hcap : l.length ≤ c) (hr : Rd w B 1 A l.length (l.map I)) :
    Calls Try.prog 22 #[.slice A l.length c] w fun e w' =>
      ∃ A' c', e = .returned (.tuple #[.slice A' (ndL l).length c', .bool (chG l)]) ∧ OwI w' w.heap.size (.slice A' (ndL l).length c') (ndL l) ∧ Below w.heap.size w w' := by
  have hS := chGood_any B A c l w hl hB hr
  have H := Lib.hid hr
  clear hr
  cases hg : chG l with
  | false =>
    rw [hg] at hS
    have HS := Lib.hid hS
    have E := Lib.hid (ndL_false hg)
    clear hS hg
    go_enter Try.func22, Try.ntmps22
    go_wp2_with (go_at_call 35; refine HS.out.mono ?_; rintro e w2 ⟨rfl, hb2⟩)
    go_ret2
    exact ⟨none, 0, by rw [E.out]; rfl, by rw [E.out]; exact OwI.nil _ _, hb2⟩
  | true =>
    rw [hg] at hS
    have HS := Lib.hid hS
    have hch := chG_chn hg
    have hl1 := hch.pos
    have hl2 := hch.most
    have hST := fun (W : World) (hb : Below w.heap.size w W) => chSteps_any B A c l W hg (by have := hb.size; omega) (H.out.below' hb hB)
    have hSl : (stepsK l l.length).length = l.length - 1 := stepsK_length _ _
    have HIT := Lib.hid (fun (j i : Nat) => ndX_hit (l := l) (j := j) (i := i))
    have MISS := Lib.hid (fun (j i : Nat) => ndX_miss (l := l) (j := j) (i := i))
    have XR := Lib.hid (fun j => ndX_rng hg (j := j))
    have XE := Lib.hid (ndL_eq hg)
    obtain ⟨S, hSe⟩ : ∃ S, stepsK l l.length = S := ⟨_, rfl⟩
    rw [hSe] at hST hSl
    have HIT2 := HIT.out
    have MISS2 := MISS.out
    rw [hSe] at HIT2 MISS2
    have HI := Lib.hid HIT2
    have MI := Lib.hid MISS2
    have HST := Lib.hid hST
    obtain ⟨N, hN⟩ : ∃ N, S.length = N := ⟨_, rfl⟩
    have hlN : l.length = N + 1 := by omega
    have HLN := Lib.hid hlN
    have HNN := Lib.hid hN
    have hN40 : N ≤ 40 := by omega
    have hsub : IntKind.i64.wrap ((l.length : Int) - 1) = (N : Int) := by rw [IntWalk.i64_in _ (by omega)]; omega
    clear hS hg hch hST hSl HIT MISS HIT2 MISS2 hSe hN hlN
    obtain ⟨b, off, rfl, hbB, hc⟩ := H.out.cells (by omega)
    have HCE := Lib.hid hc
    clear hc
    go_enter Try.func22, Try.ntmps22
    go_wp2_with (first
      | (go_at_call 35; refine HS.out.mono ?_; rintro e w2 ⟨rfl, hb2⟩; have HB2 := Lib.hid hb2; have hs2 : w.heap.size ≤ w2.heap.size := hb2.size; clear hb2)
      | (go_at_call 50; refine (HST.out w2 HB2.out).mono ?_; rintro e w3 ⟨A3, c3, rfl, hown3, hb3⟩; have OW3 := Lib.hid hown3; have HB3 := Lib.hid (HB2.out.trans (hb3.mono hs2)); have hs3 : w2.heap.size ≤ w3.heap.size := hb3.size; clear hown3 hb3))
    generalize hw4 : World.alloc w3 _ = w4
    have hone : w4.ownsRow w3.heap.size 3 1 (.slice (some ⟨w3.heap.size, 0, none⟩) 1 1) 1 [I (N : Int)] := by rw [← hw4]; exact one_own _ (Nat.le_refl _)
    have hb4 : Below w3.heap.size w3 w4 := by rw [← hw4]; exact (Below.refl _ _).alloc (Nat.le_refl _) _
    clear hw4
    have ONE := Lib.hid hone
    have HB4 := Lib.hid hb4
    clear hone hb4
    go_loopw [5, 6] (fun nv kv' wr => ∃ (j n : Nat) (A5 : Option Addr) (c5 : Nat), j ≤ N ∧ kv' = .int .i64 ((N - j : Nat) : Int) ∧ nv = .slice A5 n c5 ∧ n = (ndX l j).length ∧ wr.ownsRow w3.heap.size 3 1 (.slice A5 n c5) n ((ndX l j).map I) ∧ Below w3.heap.size w3 wr) (fun _ kv' _ => (intOf kv').toNat)
    case atStart =>
      refine ⟨0, 1, _, _, by omega, rfl, rfl, rfl, ?_, HB4.out⟩
      have e : ndX l 0 = [(N : Int)] := by
        unfold ndX ndO
        simp only [needI]
        rw [HLN.out, show ((N + 1 : Nat) : Int) - 1 = (N : Int) by omega]
        rfl
      rw [e]
      exact ONE.out
    case round =>
      obtain ⟨j, n, A5, c5, hj, rfl, rfl, hn, hown, hbel⟩ := hrel
      have OWN := Lib.hid hown
      have BEL := Lib.hid hbel
      have HN := Lib.hid hn
      have hs : w3.heap.size ≤ wr.heap.size := hbel.size
      have hxl := ndX_le l j
      rw [← hn] at hxl
      have hxa := ndX_asc l j
      by_cases hlt : j < N
      · obtain ⟨i, hi⟩ : ∃ i, N - j = i + 1 := ⟨N - j - 1, by omega⟩
        have hiS : i < S.length := by have := HNN.out; omega
        have hij : S.length - 1 - j = i := by have := HNN.out; omega
        obtain ⟨g, hA3, _, hgs, ca, cb⟩ := OwS.atQ (OW3.out.below hbel) hiS
        have h1 := HI.out j i hiS hij
        have h2 := MI.out j i hij
        obtain ⟨x, hx⟩ : ∃ x, (S.getD i (0, 0)).1 = x := ⟨_, rfl⟩
        obtain ⟨y, hy⟩ : ∃ y, (S.getD i (0, 0)).2 = y := ⟨_, rfl⟩
        rw [hx] at ca h1
        rw [hy] at cb h1
        have hH := l1Has_any wr.heap.size A5 c5 (ndX l j) ((i : Int) + 1) wr (by omega) (by have h := OWN.out; rw [HN.out] at h; exact Rd.of_own h)
        rw [← hn] at hH
        have hnj1 : N - (j + 1) = i := by omega
        have HNJ := Lib.hid hnj1
        have e5 : ((N - j : Nat) : Int) = (i : Int) + 1 := by omega
        have ipos : (0 : Int) < (i : Int) + 1 := by omega
        have hw0 : IntKind.i64.wrap (i : Int) = (i : Int) := IntWalk.i64_in _ (by omega)
        have iS : (i : Int) < (S.length : Int) := by omega
        rw [e5]
        subst hA3
        cases hh : hasI (ndX l j) ((i : Int) + 1) with
        | false =>
          rw [hh] at hH
          have HH := Lib.hid hH
          have E := Lib.hid (h2 hh)
          clear hH h1 h2 hh hx hy hi hij hown hbel hn hnj1 e5 ca cb
          go_wp2_with (go_at_call 51; refine HH.out.mono ?_; rintro e w5 ⟨rfl, rfl⟩)
          go_roundw
          case rel => exact ⟨j + 1, n, A5, c5, by omega, by rw [HNJ.out], rfl, by rw [E.out]; exact HN.out, by rw [E.out]; exact OWN.out, BEL.out⟩
          case measure => simp [intOf]
        | true =>
          rw [hh] at hH
          have HH := Lib.hid hH
          have E := Lib.hid (h1 hh)
          have hP1 := fun (W : World) (hb : Below wr.heap.size wr W) => l1PutO_any w3.heap.size A5 c5 (ndX l j) x W (by omega) hxa (by have := hb.size; omega) (by
            have h := own_below OWN.out hb
            rw [HN.out] at h
            exact h)
          rw [← hn] at hP1
          have hpl := putI_le (ndX l j) x
          have hP2 := fun (W : World) A6 c6 hB6 how => l1PutO_any w3.heap.size A6 c6 (putI (ndX l j) x) y W (by omega) (putI_asc hxa x) hB6 how
          have HP1 := Lib.hid hP1
          have HP2 := Lib.hid hP2
          have FS := Lib.hid (show ∀ x', Below wr.heap.size wr x' → x'.cell? ⟨g, i * 2, none⟩ = some (.int .i64 x) ∧ x'.cell? ⟨g, i * 2 + 1, none⟩ = some (.int .i64 y) from fun x' hx' =>
            ⟨(hx'.cell (p := ⟨g, i * 2, none⟩) (by simp only []; omega)).trans ca, (hx'.cell (p := ⟨g, i * 2 + 1, none⟩) (by simp only []; omega)).trans cb⟩)
          have S0 := Lib.hid (show Below wr.heap.size wr wr.drew from (Below.refl _ _).drew)
          clear hH h1 h2 hh hx hy hi hij hown hbel hn hnj1 e5 hP1 hP2 hxa ca cb
          go_wp2_with (go_at_call 51; refine HH.out.mono ?_; rintro e w5 ⟨rfl, rfl⟩)
          refine wp_region_T (fun x : World => Below wr.heap.size wr x) [0, 1, 2, 3, 4, 5, 6, 8, 9, 10, 11, 12, 13, 15] [6, 13] (.lp 0 (.lp 1 (.lp 2 (.lp 3 (.lp 4 (.lp 5 (.lp 8 (.lp 9 (.lp 10 (.lp 11 (.lp 12 (.ls 6 (.ls 13 (.hv 7 (.hv 14 (.lp 15 (.done))))))))))))))))) (by kernel_rfl) (by kernel_rfl) ?_
          (repeat (refine T_lp rfl (fun K hK => ?_); go_simp; refine hK _ ?_; clear hK K))
          refine T_ls1 (v := .int .i64 x) rfl rfl S0.out (fun x hx => (by obtain ⟨h0, h1⟩ := FS.out x hx; go_simp)) (fun K hK => ?_)
          (go_simp; refine hK _ ?_; clear hK K)
          refine T_ls1 (v := .int .i64 y) rfl rfl S0.out (fun x hx => (by obtain ⟨h0, h1⟩ := FS.out x hx; go_simp)) (fun K hK => ?_)
          (go_simp; refine hK _ ?_; clear hK K)
          refine T_hvS rfl (fun K hK => ?_)
          go_simp
          go_at_call 52
          refine (HP1.out wr.drew S0.out).mono ?_
          rintro e w6 ⟨A6, c6, rfl, hown6, hb6⟩
          have hb6' : Below wr.heap.size wr w6 := S0.out.trans (hb6.mono (by simp))
          have OW6 := Lib.hid hown6
          have HB6 := Lib.hid hb6'
          clear hown6 hb6
          go_simp
          refine hK _ _ hb6' ?_
          clear hK K hb6'
          (refine T_hv rfl (by kernel_rfl) (fun K hK => ?_); go_simp)
          go_at_call 52
          refine (HP2.out w6 A6 c6 (by have := HB6.out.size; omega) OW6.out).mono ?_
          rintro e w7 ⟨A7, c7, rfl, hown7, hb7⟩
          have OW7 := Lib.hid hown7
          have HB7 := Lib.hid (BEL.out.trans ((HB6.out.trans (hb7.mono HB6.out.size)).mono hs))
          clear hown7 hb7
          (go_simp; refine hK _ _ ?_; clear hK K)
          (repeat (first | (refine T_lp rfl (fun K hK => ?_); go_simp; refine hK _ ?_; clear hK K) | (refine T_ls rfl rfl (fun K hK => ?_); go_simp; refine hK _ ?_; clear hK K)))
          refine T_done ?_
          go_wp2
          go_roundw
          case rel => exact ⟨j + 1, (putI (putI (ndX l j) x) y).length, A7, c7, by omega, by rw [HNJ.out], rfl, by rw [E.out], by rw [E.out]; exact OW7.out, HB7.out⟩
          case measure => simp [intOf]
      · have ej : j = N := by omega
        subst ej
        have hx2 : ndX l j = ndX l (l.length - 1) := by rw [HLN.out]; rfl
        have hxr : ∀ x ∈ ndX l j, 0 ≤ x ∧ x < (l.length : Int) := XR.out j (by have := HLN.out; omega)
        have hxe : (ndX l j).map (fun x => l.getD x.toNat 0) = ndL l := by rw [hx2]; exact XE.out
        obtain ⟨X, hX⟩ : ∃ X, ndX l j = X := ⟨_, rfl⟩
        rw [hX] at hn hxr hxe hown
        have XRR := Lib.hid hxr
        have XEE := Lib.hid hxe
        have OWX := Lib.hid hown
        have HB5 := Lib.hid (HB3.out.trans (hbel.mono (show w.heap.size ≤ w3.heap.size by omega)))
        have hX100 : X.length ≤ 100 := by omega
        subst hn
        have hz : ((j - j : Nat) : Int) = 0 := by omega
        rw [hz]
        clear hx2 hxr hxe hX hown hbel hxa hz OWN HN
        obtain ⟨wo, rfl⟩ : ∃ wo, wo = wr := ⟨wr, rfl⟩
        go_wp2
        go_loopw [7, 46] (fun ov iv wq => ∃ (k : Nat) (A6 : Option Addr) (c6 : Nat), k ≤ X.length ∧ iv = .int .i64 k ∧ ov = .slice A6 k c6 ∧ wq.ownsRow wo.heap.size 3 1 (.slice A6 k c6) k (((X.take k).map fun x => l.getD x.toNat 0).map I) ∧ Below wo.heap.size wo wq) (fun _ i _ => X.length - (intOf i).toNat)
        case atStart => exact ⟨0, none, 0, by omega, rfl, rfl, World.ownsRow_nil _ _ _ _, Below.refl _ _⟩
        case round =>
          obtain ⟨k, A6, c6, hk, rfl, rfl, hown6, hbel6⟩ := hrel
          have OW6 := Lib.hid hown6
          have BE6 := Lib.hid hbel6
          have hs6 : wo.heap.size ≤ wr.heap.size := hbel6.size
          have HBT := Lib.hid (HB5.out.trans (hbel6.mono (show w.heap.size ≤ wo.heap.size by have := HB5.out.size; omega)))
          by_cases hlt2 : k < X.length
          · have hox := own_below OWX.out hbel6
            obtain ⟨g, rfl, _, hgs, hcx, _⟩ := own_at hox (by omega)
            have cx : wr.cell? ⟨g, k, none⟩ = some (.int .i64 (X.getD k 0)) := by
              rw [hcx k (by omega)]
              simp [I, hlt2]
            obtain ⟨rx1, rx2⟩ := XRR.out _ (mem_getD hlt2)
            obtain ⟨v, hv⟩ : ∃ v : Nat, X.getD k 0 = v := ⟨(X.getD k 0).toNat, by omega⟩
            rw [hv] at cx
            have cl := (HBT.out.cell (p := ⟨b, off + v, none⟩) (by simp only []; omega)).trans (HCE.out v (by omega))
            have iv : (v : Int) < (l.length : Int) := by omega
            have ikX : (k : Int) < (X.length : Int) := by omega
            have SUC := Lib.hid (show ((X.take (k + 1)).map fun x => l.getD x.toNat 0).map I = ((X.take k).map fun x => l.getD x.toNat 0).map I ++ [I (l.getD v 0)] by
              rw [take_succ_getD hlt2, List.map_append, List.map_append, hv]
              rfl)
            obtain ⟨z, hz⟩ : ∃ z, l.getD v 0 = z := ⟨_, rfl⟩
            rw [hz] at cl SUC
            clear hox hcx hv hz hown6 hbel6 rx1 rx2
            go_wp2_with (at_builtin; refine list_step (fun K hK => ?_); refine step_app1 Try.underlying22 info_int rfl (by omega) rfl (.tmp 50) (.tmp 55) rfl wo.heap.size k _ (((X.take k).map fun x => l.getD x.toNat 0).map I) rfl (World.ownsRow.alloc OW6.out _) wr.heap.size 1 (I z) rfl (by rw [World.cell?_alloc_at _ _ _ _ rfl]; rfl) rfl (by omega) (by simp; omega) ?_; intro A8 c8 w8 hown8 hg8 hbel8; go_simp; refine hK _ _ ?_; clear hK K)
            go_roundw
            case rel =>
              refine ⟨k + 1, A8, c8, by omega, by go_num, rfl, ?_, (BE6.out.alloc hs6 _).trans hbel8⟩
              rw [SUC.out]
              exact hown8
            case measure => simp [intOf]; omega
          · have ek : k = X.length := by omega
            subst ek
            clear hown6 hbel6
            go_wp2
            go_ret2
            refine ⟨A6, c6, ?_, ?_, HBT.out⟩
            · rw [← XEE.out, List.length_map]; rfl
            · have h := OW6.out
              rw [List.take_length, XEE.out] at h
              have hl3 : (ndL l).length = X.length := by rw [← XEE.out]; simp
              unfold OwI
              rw [hl3]
              exact own_base h (by have := HB5.out.size; omega)
end Go.Proofs.Yteldndbfopdehab
