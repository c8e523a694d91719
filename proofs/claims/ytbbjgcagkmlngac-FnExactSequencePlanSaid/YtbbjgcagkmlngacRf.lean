/- A plan for several numbers of a chain, by the model. -/
import Derived.Test.YtbbjgcagkmlngacRd
namespace Go.Proofs.Ytbbjgcagkmlngac
open Go.RowKit

set_option maxRecDepth 100000 in
set_option maxHeartbeats 1000000 in
theorem plPlaceQ_any (B : Nat) (A : Option Addr) (c : Nat) (l : List Int) (x : Int) (w : World) (hm : l.length ≤ 1000) (ha : Asc l) (hr : Rd w B 1 A l.length (l.map I)) :
    Calls Try.prog 72 #[.slice A l.length c, .int .i64 x] w fun e w' => e = .returned (.int .i64 (if hasI l x then (cnt l x : Int) else -1)) ∧ w = w' := by
  have H := Lib.hid hr
  clear hr
  by_cases hx : x ∈ l
  · obtain ⟨q1, q2⟩ := mem_at_cnt ha hx
    obtain ⟨p1, _⟩ := cnt_parts ha x
    have hv : (if hasI l x then (cnt l x : Int) else -1) = (cnt l x : Int) := by rw [if_pos (by rw [hasI_mem]; simpa using hx)]
    rw [hv]
    obtain ⟨b, off, rfl, hb, hc⟩ := H.out.cells (by omega)
    obtain ⟨a, haa⟩ : ∃ a, cnt l x = a := ⟨_, rfl⟩
    rw [haa] at q1 q2 p1 ⊢
    have HC := Lib.hid hc
    have P1 := Lib.hid p1
    have Q2 := Lib.hid q2
    clear hc p1 q2 haa hv hx ha
    go_enter Try.func72, Try.ntmps72
    go_wp2
    go_loop [9] (fun i => ∃ k : Nat, k ≤ a ∧ i = .int .i64 k) (fun i => a - (intOf i).toNat)
    case atStart => exact ⟨0, by omega, rfl⟩
    case round =>
      obtain ⟨k, hk, rfl⟩ := hrel
      have ck := HC.out k (by omega)
      have ik : (k : Int) < (l.length : Int) := by omega
      by_cases hka : k < a
      · have hlt := P1.out k hka
        obtain ⟨y, hy⟩ : ∃ y, l.getD k 0 = y := ⟨_, rfl⟩
        rw [hy] at ck hlt
        have hne : (y == x) = false := by simp only [beq_eq_false_iff_ne]; omega
        clear hy hlt
        go_wp2
        go_round
        case rel => exact ⟨k + 1, by omega, by go_num⟩
        case measure => simp [intOf]; omega
      · have e : k = a := by omega
        subst e
        rw [Q2.out] at ck
        go_wp2
        go_ret
        exact ⟨rfl, rfl⟩
  · have hv : (if hasI l x then (cnt l x : Int) else -1) = -1 := by rw [if_neg (by rw [hasI_mem]; simpa using hx)]
    rw [hv]
    have HX := Lib.hid hx
    clear hv hx ha
    go_enter Try.func72, Try.ntmps72
    go_wp2
    go_loop [9] (fun i => ∃ k : Nat, k ≤ l.length ∧ i = .int .i64 k) (fun i => l.length - (intOf i).toNat)
    case atStart => exact ⟨0, by omega, rfl⟩
    case round =>
      obtain ⟨k, hk, rfl⟩ := hrel
      by_cases hlt : k < l.length
      · obtain ⟨b, off, rfl, hb, hc⟩ := H.out.cells (by omega)
        have ck := hc k hlt
        have ik : (k : Int) < (l.length : Int) := by omega
        obtain ⟨y, hy⟩ : ∃ y, l.getD k 0 = y := ⟨_, rfl⟩
        have hyx : y ≠ x := fun h => HX.out (by rw [← h, ← hy]; exact mem_getD hlt)
        rw [hy] at ck
        have hne : (y == x) = false := by simpa using hyx
        clear hy hyx hc
        go_wp2
        go_round
        case rel => exact ⟨k + 1, by omega, by go_num⟩
        case measure => simp [intOf]; omega
      · go_wp2
        go_ret
        exact ⟨rfl, rfl⟩

set_option maxRecDepth 100000 in
set_option maxHeartbeats 4000000 in
theorem specSeq_any (B : Nat) (A : Option Addr) (c : Nat) (l : List Int) (A1 : Option Addr) (c1 : Nat) (t : List Int) (w : World) (hB : B ≤ w.heap.size) (hl : l.length ≤ 1048576) (hl1 : t.length ≤ 1048576) (_hcap : l.length ≤ c) (_hcap1 : t.length ≤ c1)
    (hr : Rd w B 1 A l.length (l.map I)) (hr1 : Rd w B 1 A1 t.length (t.map I)) :
    Calls Try.prog 47 #[.slice A l.length c, .slice A1 t.length c1] w fun e w' =>
      ∃ R1 R2 v1 v2, e = .returned (.tuple #[.agg #[.int .i64 (sqR l t).n, .slice R1 (sqR l t).s.length v1, .slice R2 (sqR l t).o.length v2], .bool (sqB l t)]) ∧ OwP w' w.heap.size R1 R2 v1 v2 (sqR l t) ∧ Below w.heap.size w w' := by
  have hS := fun (W : World) (hb : Below w.heap.size w W) => chGood_any B A c l W hl (by have := hb.size; omega) (hr.below' hb hB)
  have H := Lib.hid hr
  have H1 := Lib.hid hr1
  clear hr hr1
  by_cases hbad : chG l = false ∨ 6 < t.length
  · have hsb : sqB l t = false := by
      unfold sqB
      rcases hbad with h | h
      · rw [h]; rfl
      · rw [decide_eq_false (show ¬ t.length ≤ 6 by omega)]; simp
    have ER := Lib.hid (sqR_false hsb)
    have EB := Lib.hid hsb
    obtain ⟨g, hg⟩ : ∃ g, chG l = g := ⟨_, rfl⟩
    rw [hg] at hS hbad
    have HS := Lib.hid hS
    have hbb : g = false ∨ (6 : Int) < (t.length : Int) := hbad.imp id (fun h => by omega)
    have BAD := Lib.hid hbb
    clear hS hsb hg hbad hbb
    go_enter Try.func47, Try.ntmps47
    go_wp2_with fail
    go_at_call 49
    generalize hw1 : World.alloc w _ = w1
    have r1 : w1.heap[w.heap.size]? = some (.cells #[.int .i64 0, .slice none 0 0, .slice none 0 0] 39 (0, 0)) := by rw [← hw1]; exact Array.getElem?_push_size
    have hb1 : Below w.heap.size w w1 := by rw [← hw1]; exact (Below.refl _ _).alloc (Nat.le_refl _) _
    have hs1 : w1.heap.size = w.heap.size + 1 := by rw [← hw1]; simp
    clear hw1
    refine (HS.out w1 hb1).mono ?_
    rintro e w2 ⟨rfl, hb2⟩
    have r2 := (hb2.block w.heap.size (by omega)).trans r1
    obtain ⟨t0, t1, t2, g0, g1, g2⟩ := cells3Q r2
    have HB2 := Lib.hid (hb1.trans (hb2.mono (by omega)))
    clear r1 r2 hb1 hb2
    cases g with
    | false =>
      go_wp2
      refine bodyPost_ret (v := .tuple #[.agg #[.int .i64 0, .slice none 0 0, .slice none 0 0], .bool false]) (by simp [results, Try.results47, go_sem, t0, t1, t2]) rfl ⟨none, none, 0, 0, by rw [ER.out, EB.out]; rfl, by rw [ER.out]; exact OwP.zPl _ _, ?_⟩
      exact ((HB2.out.setCell (by simp) _).setCell (by simp) _).setCell (by simp) _
    | true =>
      have i6 : (6 : Int) < (t.length : Int) := BAD.out.resolve_left (by decide)
      go_wp2
      refine bodyPost_ret (v := .tuple #[.agg #[.int .i64 0, .slice none 0 0, .slice none 0 0], .bool false]) (by simp [results, Try.results47, go_sem, t0, t1, t2]) rfl ⟨none, none, 0, 0, by rw [ER.out, EB.out]; rfl, by rw [ER.out]; exact OwP.zPl _ _, ?_⟩
      exact ((HB2.out.setCell (by simp) _).setCell (by simp) _).setCell (by simp) _
  · have hg : chG l = true := by cases h : chG l with | true => rfl | false => exact absurd (.inl h) hbad
    have ht6 : t.length ≤ 6 := by omega
    have i6 : ¬ (6 : Int) < (t.length : Int) := by omega
    have hch := chG_chn hg
    have hlp := hch.pos
    have hlm := hch.most
    have ASC := Lib.hid hch.asc
    have GG := Lib.hid hg
    rw [hg] at hS
    have HS := Lib.hid hS
    have hP := fun (W : World) (hb : Below w.heap.size w W) => chPlan_any B A c l W hg (by have := hb.size; omega) (H.out.below' hb hB)
    have hSl : (stepsK l l.length).length ≤ 40 := by rw [stepsK_length]; omega
    have hokS := okS_stepsK hg
    obtain ⟨S, hSe⟩ : ∃ S, stepsK l l.length = S := ⟨_, rfl⟩
    rw [hSe] at hP hSl hokS
    have HP := Lib.hid hP
    have HSE := Lib.hid hSe
    have HOKS := Lib.hid hokS
    clear hS hg hch hbad hP hSe hokS
    go_enter Try.func47, Try.ntmps47
    go_wp2_with fail
    go_at_call 49
    generalize hw1 : World.alloc w _ = w1
    have r1 : w1.heap[w.heap.size]? = some (.cells #[.int .i64 0, .slice none 0 0, .slice none 0 0] 39 (0, 0)) := by rw [← hw1]; exact Array.getElem?_push_size
    have hb1 : Below w.heap.size w w1 := by rw [← hw1]; exact (Below.refl _ _).alloc (Nat.le_refl _) _
    have hs1 : w1.heap.size = w.heap.size + 1 := by rw [← hw1]; simp
    clear hw1
    refine (HS.out w1 hb1).mono ?_
    rintro e w2 ⟨rfl, hb2⟩
    have R2 := Lib.hid ((hb2.block w.heap.size (by omega)).trans r1)
    have HB2 := Lib.hid (hb1.trans (hb2.mono (by omega)))
    have hs2 : w.heap.size + 1 ≤ w2.heap.size := by have := hb2.size; omega
    clear r1 hb1 hb2
    go_wp2_with fail
    go_at_call 58
    refine (HP.out w2 HB2.out).mono ?_
    rintro e w3 ⟨Q1, Q2, v1, v2, rfl, hown3, hb3⟩
    have hs3 : w2.heap.size ≤ w3.heap.size := hb3.size
    have OS3 := Lib.hid hown3.1
    have R3 := Lib.hid ((hb3.block w.heap.size (by omega)).trans R2.out)
    have HB3 := Lib.hid (HB2.out.trans (hb3.mono (by omega)))
    clear hown3 hb3
    go_wp2
    generalize hw4 : World.alloc w3 _ = w4
    have q4 : w4.heap[w3.heap.size]? = some (.cells #[.int .i64 1, .slice Q1 S.length v1, .slice none 0 0] 39 (0, 0)) := by rw [← hw4]; exact Array.getElem?_push_size
    have hb4 : Below w3.heap.size w3 w4 := by rw [← hw4]; exact (Below.refl _ _).alloc (Nat.le_refl _) _
    clear hw4
    have Q4 := Lib.hid q4
    have HB4 := Lib.hid hb4
    clear q4 hb4
    go_loopw [23] (fun iv wr => ∃ (k : Nat) (A3 : Option Addr) (c3 : Nat), k ≤ t.length ∧ iv = .int .i64 k ∧ wr.heap[w3.heap.size]? = some (.cells #[.int .i64 1, .slice Q1 S.length v1, .slice A3 k c3] 39 (0, 0)) ∧ sqI l (t.take k) = true ∧
      wr.ownsRow (w3.heap.size + 1) 3 1 (.slice A3 k c3) k ((sqO l (t.take k)).map I) ∧ Below w3.heap.size w3 wr) (fun i _ => t.length - (intOf i).toNat)
    case atStart => exact ⟨0, none, 0, by omega, rfl, Q4.out, rfl, World.ownsRow_nil _ _ _ _, HB4.out⟩
    case round =>
      obtain ⟨k, A3, c3, hk, rfl, hbox, hq, hown, hbel⟩ := hrel
      have hszr : w3.heap.size + 1 ≤ wr.heap.size := (Array.getElem?_eq_some_iff.1 hbox).1
      obtain ⟨b0, b1, b2, _, _, _⟩ := cells3Q hbox
      have HBW := Lib.hid (HB3.out.trans (hbel.mono (show w.heap.size ≤ w3.heap.size by omega)))
      have R5 := Lib.hid ((hbel.block w.heap.size (by omega)).trans R3.out)
      have OWN := Lib.hid hown
      have HBX := Lib.hid hbox
      have BEL := Lib.hid hbel
      have Q := Lib.hid hq
      clear hbox hq hown hbel
      by_cases hlt : k < t.length
      · obtain ⟨g, off, rfl, hgB, hc⟩ := (H1.out.below' HBW.out hB).cells (by omega)
        have ck := hc k hlt
        have ik : (k : Int) < (t.length : Int) := by omega
        have hS1 := sqI_succ (l := l) hlt
        have hS2 := sqO_succ (l := l) hlt
        have hS3 := sqI_false (l := l) hlt
        obtain ⟨x, hx⟩ : ∃ x, t.getD k 0 = x := ⟨_, rfl⟩
        rw [hx] at ck hS1 hS2 hS3
        have hF := fun (W : World) (hb : Below w.heap.size w W) => plPlaceQ_any B A c l x W (by omega) ASC.out (H.out.below' hb hB)
        obtain ⟨a, ha⟩ : ∃ a, cnt l x = a := ⟨_, rfl⟩
        rw [ha] at hF hS2
        clear hc hx ha
        cases hh : hasI l x with
        | false =>
          rw [hh] at hF
          simp only [Bool.false_eq_true, if_false] at hF
          have HF := Lib.hid hF
          have hsb : sqB l t = false := by unfold sqB; rw [hS3 hh]; simp
          have ER := Lib.hid (sqR_false hsb)
          have EB := Lib.hid hsb
          obtain ⟨t0, t1, t2, g0, g1, g2⟩ := cells3Q R5.out
          clear hF hS1 hS2 hS3 hh hsb
          go_wp2_with (go_at_call 72; refine (HF.out wr HBW.out).mono ?_; rintro e w5 ⟨rfl, rfl⟩)
          refine bodyPost_ret (v := .tuple #[.agg #[.int .i64 0, .slice none 0 0, .slice none 0 0], .bool false]) (by simp [results, Try.results47, go_sem, t0, t1, t2]) rfl ⟨none, none, 0, 0, by rw [ER.out, EB.out]; rfl, by rw [ER.out]; exact OwP.zPl _ _, ?_⟩
          exact ((HBW.out.setCell (by simp) _).setCell (by simp) _).setCell (by simp) _
        | true =>
          rw [hh] at hF
          simp only [if_true] at hF
          have HF := Lib.hid hF
          rw [Q.out, hh] at hS1
          have S1 := Lib.hid hS1
          have S2 := Lib.hid hS2
          have ia : ¬ (a : Int) < 0 := by omega
          have FS := Lib.hid (show ∀ x', Below wr.heap.size wr x' → x'.cell? ⟨w3.heap.size, 2, none⟩ = some (.slice A3 k c3) from fun x' hx' => (hx'.cell (p := ⟨w3.heap.size, 2, none⟩) (by simp only []; omega)).trans b2)
          have S0 := Lib.hid (show Below wr.heap.size wr wr.drew from (Below.refl _ _).drew)
          clear hF hS1 hS2 hS3 hh b0 b1 b2
          go_wp2_with (go_at_call 72; refine (HF.out wr HBW.out).mono ?_; rintro e w5 ⟨rfl, rfl⟩)
          refine wp_region_T (fun x : World => Below wr.heap.size wr x) [0, 1, 2, 3, 7] [1] (.lp 0 (.lp 2 (.lp 3 (.ls 1 (.hv 4 (.hv 5 (.hv 6 (.lp 7 (.hv 8 (.done)))))))))) (by kernel_rfl) (by kernel_rfl) ?_
          (repeat (refine T_lp rfl (fun K hK => ?_); go_simp; refine hK _ ?_; clear hK K))
          refine T_ls1 (v := .slice A3 k c3) rfl rfl S0.out (fun x hx => (by have h0 := FS.out x hx; go_simp)) (fun K hK => ?_)
          (go_simp; refine hK _ ?_; clear hK K)
          refine T_hvS rfl (fun K hK => ?_)
          go_simp
          go_at_call 72
          refine (HF.out wr.drew HBW.out.drew).mono ?_
          rintro e w7 ⟨rfl, rfl⟩
          go_simp
          refine hK _ _ S0.out ?_
          clear hK K
          refine T_hvS rfl (fun K hK => ?_)
          go_simp
          refine hK _ _ (S0.out.alloc (by simp) _) ?_
          clear hK K
          refine T_hv rfl (by kernel_rfl) (fun K hK => ?_)
          refine step_app1 Try.underlying22 info_int rfl (by omega) rfl (.tmp 33) (.tmp 37) rfl (w3.heap.size + 1) k _ ((sqO l (t.take k)).map I) rfl (World.ownsRow.alloc (own_below OWN.out (Below.refl _ wr).drew) _) wr.heap.size 1 (I (a : Int)) rfl (by simp) rfl (by omega) (by simp; omega) ?_
          intro A4 c4 w8 hown8 hg8 hbel8
          have bx8 : w8.heap[w3.heap.size]? = _ := (hbel8.block w3.heap.size (by omega)).trans ((Below.heap_alloc wr.drew _ w3.heap.size (by simp; omega)).trans HBX.out)
          obtain ⟨_, _, k2, _, _, kf2⟩ := cells3Q bx8
          have BX8 := Lib.hid bx8
          clear bx8
          (go_simp; refine hK _ _ ?_; clear hK K)
          (repeat (first | (refine T_lp rfl (fun K hK => ?_); go_simp; refine hK _ ?_; clear hK K) | (refine T_ls rfl rfl (fun K hK => ?_); go_simp; refine hK _ ?_; clear hK K)))
          (refine T_hv rfl (by kernel_rfl) (fun K hK => ?_); go_simp; refine hK _ _ ?_; clear hK K)
          refine T_done ?_
          go_wp2
          go_roundw
          case rel =>
            refine ⟨k + 1, A4, c4, by omega, by go_num, ?_, by rw [S1.out]; rfl, ?_, ((((BEL.out.drew).alloc (show w3.heap.size ≤ wr.heap.size by omega) _).trans (hbel8.mono (show w3.heap.size ≤ w3.heap.size + 1 by omega))).setCell (by simp) _)⟩
            · rw [heap_setCell_same w8 _ 2 _ _ _ BX8.out]; rfl
            · have h := own_set (o := 2) hown8 BX8.out (by decide) (.slice A4 (k + 1) c4)
              rw [S2.out, List.map_append]
              exact h
          case measure => simp [intOf]; omega
      · have e : k = t.length := by omega
        have hI : sqI l t = true := by have h := Q.out; rw [e, List.take_length] at h; exact h
        have hout : ∀ x ∈ sqO l t, 0 ≤ x ∧ x < (l.length : Int) := by
          have h := sqO_rng ASC.out t t.length (by rw [List.take_length]; exact hI)
          rw [List.take_length] at h
          exact h
        have hol : (sqO l t).length = t.length := by simp [sqO]
        have hgd := good_chain GG.out hout
        rw [hol, decide_eq_true ht6, HSE.out] at hgd
        have hsb : sqB l t = true := by unfold sqB; rw [GG.out, hI, decide_eq_true ht6]; rfl
        have hsr : sqR l t = trimR ⟨1, S, sqO l t⟩ := by rw [sqR_true hsb, HSE.out]
        have hout2 : ∀ x ∈ sqO l t, 0 ≤ x ∧ x < ((1 : Nat) : Int) + (S.length : Int) := fun x hx => by
          have h1 := hout x hx
          have h2 : S.length = l.length - 1 := by rw [← HSE.out, stepsK_length]
          omega
        have ea := trimR_good (p := ⟨1, S, sqO l t⟩) (N := 1) hgd rfl
        have hul := us_len 1 S (sqO l t) S.length
        have hUl0 : (usd 1 S (sqO l t)).length ≤ 40 := by unfold usd; omega
        have husd := usd_in (N := 1) (s := S) (o := sqO l t)
        obtain ⟨U, hU⟩ : ∃ U, usd 1 S (sqO l t) = U := ⟨_, rfl⟩
        rw [hU] at hUl0 husd
        simp only at ea
        rw [hU, hol] at ea
        have hpu : ∀ (W : World), wr.heap.size ≤ W.heap.size → RdP W wr.heap.size Q1 A3 ⟨1, S, sqO l t⟩ → Calls Try.prog 74 #[.agg #[.int .i64 1, .slice Q1 S.length v1, .slice A3 t.length c3]] W fun e w' => ∃ A c, e = .returned (.slice A U.length c) ∧ OwI w' W.heap.size (.slice A U.length c) U ∧ Below W.heap.size W w' := fun W hBW hrW => by
          have h := plUsed_any wr.heap.size 1 Q1 A3 v1 c3 ⟨1, S, sqO l t⟩ W rfl (by omega) (by simp only; omega) (by simp only; omega) hBW HOKS.out hrW
          simp only [hol, hU] at h
          exact h
        have hpk : ∀ (W : World) (A' : Option Addr) (c' : Nat), RdP W W.heap.size Q1 A3 ⟨1, S, sqO l t⟩ → Rd W W.heap.size 1 A' U.length (U.map I) → Calls Try.prog 73 #[.agg #[.int .i64 1, .slice Q1 S.length v1, .slice A3 t.length c3], .slice A' U.length c'] W fun e w' =>
            ∃ B1 B2 d1 d2, e = .returned (.agg #[.int .i64 1, .slice B1 U.length d1, .slice B2 t.length d2]) ∧ OwS w' W.heap.size (.slice B1 U.length d1) (keepS ⟨1, S, sqO l t⟩ 1 U U.length) ∧ OwI w' W.heap.size (.slice B2 t.length d2) (keepO ⟨1, S, sqO l t⟩ 1 U t.length) ∧ Below W.heap.size W w' := fun W A' c' hrW hlW => by
          have h := plKeep_any W.heap.size 1 Q1 A3 A' v1 c3 c' ⟨1, S, sqO l t⟩ U W rfl (by omega) (by omega) (by simp only; omega) (by simp only; omega) (Nat.le_refl _) husd HOKS.out hout2 hrW hlW
          simp only [hol] at h
          exact h
        have hks := keepS_len ⟨1, S, sqO l t⟩ 1 U (Nat.le_refl U.length)
        have hko := keepO_len ⟨1, S, sqO l t⟩ 1 U (k := t.length) (by simp only; omega)
        obtain ⟨KS, hKS⟩ : ∃ KS, keepS ⟨1, S, sqO l t⟩ 1 U U.length = KS := ⟨_, rfl⟩
        obtain ⟨KO, hKO⟩ : ∃ KO, keepO ⟨1, S, sqO l t⟩ 1 U t.length = KO := ⟨_, rfl⟩
        rw [hKS] at hks ea
        rw [hKO] at hko ea
        simp only [hKS, hKO] at hpk
        have HPU := Lib.hid hpu
        have HPK := Lib.hid hpk
        have ER := Lib.hid (hsr.trans ea)
        have EB := Lib.hid hsb
        have LKS := Lib.hid hks
        have LKO := Lib.hid hko
        have hrd : RdP wr wr.heap.size Q1 A3 ⟨1, S, sqO l t⟩ := ⟨Rd.of_own (own_below' OS3.out BEL.out (Nat.le_refl _)), by
          have h := Rd.of_own OWN.out
          rw [e, List.take_length] at h
          show Rd wr wr.heap.size 1 A3 (sqO l t).length ((sqO l t).map I)
          rw [hol]
          exact h⟩
        have HRD := Lib.hid hrd
        subst e
        have FS := Lib.hid (show ∀ x', Below wr.heap.size wr x' → x'.cell? ⟨w3.heap.size, 0, none⟩ = some (.int .i64 1) ∧ x'.cell? ⟨w3.heap.size, 1, none⟩ = some (.slice Q1 S.length v1) ∧ x'.cell? ⟨w3.heap.size, 2, none⟩ = some (.slice A3 t.length c3) from fun x' hx' =>
          ⟨(hx'.cell (p := ⟨w3.heap.size, 0, none⟩) (by simp only []; omega)).trans b0, (hx'.cell (p := ⟨w3.heap.size, 1, none⟩) (by simp only []; omega)).trans b1, (hx'.cell (p := ⟨w3.heap.size, 2, none⟩) (by simp only []; omega)).trans b2⟩)
        have S0 := Lib.hid (show Below wr.heap.size wr wr.drew from (Below.refl _ _).drew)
        clear hI hout hol hgd hsb hsr hout2 ea hul husd hU hpu hpk hks hko hKS hKO hrd b0 b1 b2
        go_wp2
        refine wp_region_T (fun x : World => Below wr.heap.size wr x) [0, 1, 5] [0, 1] (.ls 0 (.ls 1 (.hv 2 (.hv 3 (.hv 4 (.lp 5 (.done))))))) (by kernel_rfl) (by kernel_rfl) ?_
        refine T_ls1 (v := .agg #[.int .i64 1, .slice Q1 S.length v1, .slice A3 t.length c3]) rfl rfl S0.out (fun x hx => (by obtain ⟨h0, h1, h2⟩ := FS.out x hx; go_simp)) (fun K hK => ?_)
        (go_simp; refine hK _ ?_; clear hK K)
        refine T_ls1 (v := .agg #[.int .i64 1, .slice Q1 S.length v1, .slice A3 t.length c3]) rfl rfl S0.out (fun x hx => (by obtain ⟨h0, h1, h2⟩ := FS.out x hx; go_simp)) (fun K hK => ?_)
        (go_simp; refine hK _ ?_; clear hK K)
        refine T_hvS rfl (fun K hK => ?_)
        go_simp
        go_at_call 74
        refine (HPU.out wr.drew (by simp) HRD.out.drew).mono ?_
        rintro e w5 ⟨A5, c5, rfl, hown5, hb5⟩
        have hb25 : Below wr.heap.size wr w5 := (Below.refl _ _).drew.trans (hb5.mono (by simp))
        have HO5 := Lib.hid hown5
        have HB25 := Lib.hid hb25
        clear hown5 hb5
        go_simp
        refine hK _ _ hb25 ?_
        clear hK K hb25
        refine T_hv rfl (by kernel_rfl) (fun K hK => ?_)
        go_simp
        go_at_call 73
        have hs5 : wr.heap.size ≤ w5.heap.size := HB25.out.size
        refine (HPK.out w5 A5 c5 ((HRD.out.below HB25.out).more hs5) HO5.out.rd).mono ?_
        rintro e w6 ⟨B1, B2, d1, d2, rfl, hs6, ho6, hb6⟩
        have hb26 : Below wr.heap.size wr w6 := HB25.out.trans (hb6.mono hs5)
        have r6 := (hb26.block w.heap.size (by omega)).trans R5.out
        obtain ⟨t0, t1, t2, g0, g1, g2⟩ := cells3Q r6
        have R6 := Lib.hid r6
        have HS6 := Lib.hid (own_base hs6 (show w.heap.size ≤ w5.heap.size by omega))
        have HO6 := Lib.hid (own_base ho6 (show w.heap.size ≤ w5.heap.size by omega))
        have HB6 := Lib.hid (HBW.out.trans (hb26.mono (by omega)))
        clear r6 hs6 ho6 hb6 hb26
        (go_simp; refine hK _ _ ?_; clear hK K)
        (refine T_hv rfl (by kernel_rfl) (fun K hK => ?_); go_simp; refine hK _ _ ?_; clear hK K)
        (repeat (refine T_lp rfl (fun K hK => ?_); go_simp; refine hK _ ?_; clear hK K))
        refine T_done ?_
        go_wp2
        refine bodyPost_ret (v := .tuple #[.agg #[.int .i64 1, .slice B1 U.length d1, .slice B2 t.length d2], .bool true]) (by simp [results, Try.results47, go_sem, t0, t1, t2]) rfl ⟨B1, B2, d1, d2, ?_, ?_, ?_⟩
        · rw [ER.out, EB.out]
          simp only
          rw [LKS.out, LKO.out]
        · rw [ER.out]
          have h1 : OwS w6 w.heap.size (.slice B1 KS.length d1) KS := by rw [LKS.out]; exact HS6.out
          have h2 : OwI w6 w.heap.size (.slice B2 KO.length d2) KO := by rw [LKO.out]; exact HO6.out
          exact ⟨own_set3Q h1 R6.out (by decide) _ _ _, own_set3Q h2 R6.out (by decide) _ _ _⟩
        · exact ((HB6.out.setCell (by simp) _).setCell (by simp) _).setCell (by simp) _
end Go.Proofs.Ytbbjgcagkmlngac
