/- Joined: Vf Vd Ve. -/
import Derived.Test.YtodjnafalbbmjaaP8
import Derived.Test.YtodjnafalbbmjaaP7
/- Plans by factors, by the program. -/
namespace Go.Proofs.Ytodjnafalbbmjaa
open Go.RowKit

theorem mk_with {w w1 : World} {n : Int} {B c : Nat} {A : Option Addr} {s : List (Int × Int)} (h : w.alloc (.cells #[.int .i64 n, .slice A s.length c] 109) = w1) (ho : OwS w B (.slice A s.length c) s) :
    MkS w1 B w.heap.size n s ∧ Below w.heap.size w w1 := by
  subst h
  exact ⟨⟨A, c, heap_alloc_new w _, World.ownsRow.alloc ho _⟩, (Below.refl _ _).alloc (Nat.le_refl _) _⟩

set_option maxRecDepth 100000 in
set_option maxHeartbeats 4000000 in
theorem facI_any : ∀ n, 1 ≤ n → n ≤ 1000000 → ∀ w,
    Calls Try.prog 136 #[.agg #[], .int .i64 ((n : Nat) : Int)] w fun e w' =>
      ∃ R1 R2 v1 v2, e = .returned (.tuple #[.agg #[.int .i64 1, .slice R1 (facS n).length v1, .slice R2 1 v2], .bool true]) ∧ (OwS w' w.heap.size (.slice R1 (facS n).length v1) (facS n) ∧ OwI w' w.heap.size (.slice R2 1 v2) [((facS n).length : Int)]) ∧ Below w.heap.size w w' := by
  intro n
  induction n using Nat.strongRecOn with
  | ind n ih =>
    intro h1 hn w
    have IH := Lib.hid ih
    clear ih
    by_cases hone : n = 1
    · subst hone
      rw [facS_one]
      go_enter Try.func136, Try.ntmps136
      go_wp2
      generalize hw1 : World.alloc (World.alloc w _) _ = w1
      obtain ⟨r0, xs, xb⟩ := me_box hw1
      clear hw1
      generalize hw2 : World.alloc w1 _ = w2
      obtain ⟨hv, hb⟩ := one_new hw2
      rw [xs] at hv
      clear hw2
      have q2 := (hb.block (w.heap.size + 1) (by omega)).trans r0
      obtain ⟨t0, t1, t2, _, _, _⟩ := cells3 q2
      refine bodyPost_ret (v := .tuple #[.agg #[.int .i64 1, .slice none 0 0, .slice (some ⟨w.heap.size + 1 + 1, 0, none⟩) 1 1], .bool true]) (by simp [results, Try.results136, go_sem, t0, t1, t2]) rfl ⟨none, some ⟨w.heap.size + 1 + 1, 0, none⟩, 0, 1, rfl, ⟨?_, ?_⟩, ?_⟩
      · exact World.ownsRow_nil _ _ _ _
      · exact own_base (B' := w.heap.size) hv (by omega)
      · exact xb.trans (hb.mono (by omega))
    have h2 : 2 ≤ n := by omega
    have hone' : (((n : Nat) : Int) == 1) = false := by simp; omega
    obtain ⟨p1, p2, p3, p4, p5⟩ := lfac_facts h2
    have hF : ∀ W, Calls Try.prog 19 #[.int .i64 ((n : Nat) : Int)] W fun e w' => e = .returned (.tuple #[.int .i64 ((lfac n : Nat) : Int), .bool true]) ∧ W = w' := fun W => by
      have h := implFactor_any ((n : Nat) : Int) W
      have hb : lfB ((n : Nat) : Int) = true := by
        unfold lfB isNum inB
        rw [decide_eq_true (show (1 : Int) ≤ (n : Int) by omega), decide_eq_true (show (n : Int) ≤ 1000000 by omega), decide_eq_true (show (n : Int) ≠ 1 by omega)]
        rfl
      rw [lfV_true hb, hb, Int.toNat_natCast] at h
      exact h
    by_cases hp : lfac n = n
    · obtain ⟨m, hm⟩ : ∃ m, n = m + 1 := ⟨n - 1, by omega⟩
      have hg := (facP_good h1 hn).1
      have ES := facS_prime h2 hp
      rw [show n - 1 = m by omega] at ES
      have hIH := fun W => IH.out m (by omega) (by omega) (by omega) W
      have em : ((n : Nat) : Int) - 1 = (m : Int) := by omega
      have hl := fac_len39 (n := m) (by omega) (by omega)
      obtain ⟨S, hS⟩ : ∃ S, facS m = S := ⟨_, rfl⟩
      rw [hS] at ES hl hIH
      obtain ⟨T, hT⟩ : ∃ T, facS n = T := ⟨_, rfl⟩
      have HG := Lib.hid (show good ⟨1, T, [(T.length : Int)]⟩ = true by rw [← hT]; exact hg)
      rw [hT] at ES
      have HTL := Lib.hid (show T.length = S.length + 1 by rw [ES]; simp)
      have HTE := Lib.hid ES
      have HIH := Lib.hid hIH
      have HP := Lib.hid hp
      have HF := Lib.hid hF
      rw [hT]
      clear hIH hm p1 p2 p3 p4 p5 hp hS hT hg ES hF
      go_enter Try.func136, Try.ntmps136
      go_wp2_with fail
      go_at_call 19
      generalize hw1 : World.alloc (World.alloc w _) _ = w1
      obtain ⟨q0, xs, xb⟩ := me_box hw1
      clear hw1
      refine (HF.out w1).mono ?_
      rw [HP.out]
      rintro e w' ⟨rfl, hww⟩
      subst w'
      have Q0 := Lib.hid q0
      have XB := Lib.hid xb
      have XS := Lib.hid xs
      clear q0 xs xb
      go_wp2_with fail
      go_at_call 136
      refine (HIH.out w1).mono ?_
      rintro e w2 ⟨A1, A2, c1, c2, rfl, ho2, hb2⟩
      have O2 := Lib.hid ho2
      have B2 := Lib.hid hb2
      clear ho2 hb2
      obtain ⟨b, off, hA2, hb, hout⟩ := (show OwI w2 w1.heap.size (.slice A2 [(S.length : Int)].length c2) [(S.length : Int)] from O2.out.2).rd.int (k := 0) (by simp)
      subst hA2
      have hs12 := B2.out.size
      have hc0 : w2.cell? ⟨b, off, none⟩ = some (.int .i64 (S.length : Int)) := hout
      clear hout
      go_wp2_with fail
      go_at_call 107
      generalize hw3 : World.alloc w2 _ = w3
      obtain ⟨q3, s3, b3⟩ := box_at hw3
      clear hw3
      have hO3 : OwS w3 w1.heap.size (.slice A1 S.length c1) S := own_below O2.out.1 b3
      generalize hw4 : World.alloc w3 _ = w4
      obtain ⟨mk4, b4⟩ := mk_with hw4 hO3
      clear hw4
      have B4 := Lib.hid (B2.out.trans ((b3.mono hs12).trans (b4.mono (by omega))))
      have hgB : w1.heap.size ≤ w2.heap.size + 1 := by omega
      rw [s3] at mk4
      have MK4 := Lib.hid mk4
      clear q3 b3 hO3 mk4 b4 hc0 s3
      refine (makerMul_any w1.heap.size (w2.heap.size + 1) 1 S (S.length : Int) 0 w4 hgB MK4.out (by omega) (by omega) (by omega)).mono ?_
      rw [← HTE.out]
      rintro e w5 ⟨rfl, hm5, hb5, hk5⟩
      have MK5 := Lib.hid hm5
      have B5 := Lib.hid (B4.out.trans hb5)
      clear hm5 hb5 hk5
      go_wp2_with fail
      go_at_call 133
      generalize hw6 : World.alloc w5 _ = w6
      obtain ⟨ho6, hb6⟩ := one_new hw6
      clear hw6
      have hP := makerPlan_any w1.heap.size (w2.heap.size + 1) _ 1 ⟨1, T, [(1 : Int) + (S.length : Int)]⟩ w6 hgB (MK5.out.below hb6) (own_base ho6 B5.out.size) (by show T.length ≤ 1000; rw [HTL.out]; omega) (by simp)
      rw [show (1 : Int) + (S.length : Int) = (T.length : Int) by rw [HTL.out]; omega] at hP ⊢
      rw [mkR_true HG.out, HG.out] at hP
      refine hP.mono ?_
      rintro e w7 ⟨R1, R2, v1, v2, rfl, ho7, hb7⟩
      have hb17 : Below w1.heap.size w1 w7 := B5.out.trans ((hb6.mono B5.out.size).trans (hb7.mono (by have := B5.out.size; have := hb6.size; omega)))
      have q7 := (hb17.block (w.heap.size + 1) (by have := XS.out; omega)).trans Q0.out
      obtain ⟨t0, t1, t2, g0, g1, g2⟩ := cells3 q7
      have B7 := Lib.hid (XB.out.trans (hb17.mono (by have := XS.out; omega)))
      have O7 := Lib.hid ho7
      have Q7 := Lib.hid q7
      clear hb17 ho7 q7 hP hb6 hb7 ho6
      go_wp2
      refine bodyPost_ret (v := .tuple #[.agg #[.int .i64 1, .slice R1 T.length v1, .slice R2 1 v2], .bool true]) (by simp [results, Try.results136, go_sem, t0, t1, t2]) rfl ⟨R1, R2, v1, v2, rfl, ⟨?_, ?_⟩, ?_⟩
      · exact own_set3 (own_base (B' := w.heap.size) O7.out.1 (by have := XS.out; omega)) Q7.out (by decide) _ _ _
      · exact own_set3 (own_base (B' := w.heap.size) O7.out.2 (by have := XS.out; omega)) Q7.out (by decide) _ _ _
      · exact ((B7.out.setCell (show w.heap.size ≤ w.heap.size + 1 by omega) _).setCell (show w.heap.size ≤ w.heap.size + 1 by omega) _).setCell (show w.heap.size ≤ w.heap.size + 1 by omega) _
    · have hg := (facP_good h1 hn).1
      have hpn : ((((lfac n : Nat) : Int) == ((n : Nat) : Int))) = false := by simp; omega
      have ES := facP_comp h2 hp
      obtain ⟨q, hq⟩ : ∃ q, n / lfac n = q := ⟨_, rfl⟩
      obtain ⟨p, hpp⟩ : ∃ p, lfac n = p := ⟨_, rfl⟩
      have hdiv : ((n : Nat) : Int) / ((p : Nat) : Int) = (q : Int) := by rw [← hq, ← hpp]; omega
      rw [hpp] at hF hpn
      rw [hq, hpp] at ES
      rw [hq] at p3 p4 p5
      rw [hpp] at p1 p2 p3
      have hpn' : p < n := by
        rcases Nat.lt_or_eq_of_le p2 with h | h
        · exact h
        · exact absurd (hpp.trans h) hp
      have hgA := (facP_good (n := p) (by omega) (by omega)).1
      have hgB := (facP_good (n := q) (by omega) (by omega)).1
      have hIHp := fun W => IH.out p (by omega) (by omega) (by omega) W
      have hIHq := fun W => IH.out q (by omega) (by omega) (by omega) W
      have hlA := fac_len39 (n := p) (by omega) (by omega)
      have hlB := fac_len39 (n := q) (by omega) (by omega)
      unfold facP at hg ES hgA hgB
      obtain ⟨SA, hSA⟩ : ∃ S, facS p = S := ⟨_, rfl⟩
      obtain ⟨SB, hSB⟩ : ∃ S, facS q = S := ⟨_, rfl⟩
      obtain ⟨S, hS⟩ : ∃ S, facS n = S := ⟨_, rfl⟩
      rw [hSA] at ES hgA hIHp hlA
      rw [hSB] at ES hgB hIHq hlB
      rw [hS] at ES hg
      rw [hS]
      have hcB : compB (plS SA) (plS SB) = true := by unfold compB; rw [hgA, hgB, ← ES, hg]; rfl
      have HCP := Lib.hid (show ∀ (W : World) (A1 A2 A3 A4 : Option Addr) (c1 c2 c3 c4 : Nat), RdP W W.heap.size A1 A2 (plS SA) → RdP W W.heap.size A3 A4 (plS SB) →
        Calls Try.prog 137 #[.agg #[.int .i64 1, .slice A1 SA.length c1, .slice A2 1 c2], .agg #[.int .i64 1, .slice A3 SB.length c3, .slice A4 1 c4]] W fun e w' =>
          ∃ R1 R2 v1 v2, e = .returned (.tuple #[.agg #[.int .i64 1, .slice R1 S.length v1, .slice R2 1 v2], .bool true]) ∧ (OwS w' W.heap.size (.slice R1 S.length v1) S ∧ OwI w' W.heap.size (.slice R2 1 v2) [(S.length : Int)]) ∧ Below W.heap.size W w' from fun W A1 A2 A3 A4 c1 c2 c3 c4 hr1 hr2 => by
          have h := implCompose_any W.heap.size A1 A2 A3 A4 c1 c2 c3 c4 (plS SA) (plS SB) W (Nat.le_refl _) (show SA.length ≤ 2000000 by omega) (by simp [plS]) (show SB.length ≤ 2000000 by omega) (by simp [plS]) hr1 hr2
          rw [compR_true hcB, hcB, ← ES] at h
          exact h)
      have HIHP := Lib.hid hIHp
      have HIHQ := Lib.hid hIHq
      have HDV := Lib.hid (show IntKind.i64.wrap ((n : Int) / (p : Int)) = (q : Int) by rw [hdiv]; exact IntWalk.i64_in _ (by omega))
      have hpz : ¬ p = 0 := by omega
      have HF := Lib.hid hF
      clear hIHp hIHq hSA hSB hS hF hpp hq p3 p4 p5 hp IH hdiv ES hg hgA hgB hcB
      go_enter Try.func136, Try.ntmps136
      go_wp2_with fail
      go_at_call 19
      generalize hw1 : World.alloc (World.alloc w _) _ = w1
      obtain ⟨q0, xs, xb⟩ := me_box hw1
      clear hw1
      refine (HF.out w1).mono ?_
      rintro e w' ⟨rfl, hww⟩
      subst w'
      have Q0 := Lib.hid q0
      have XB := Lib.hid xb
      have XS := Lib.hid xs
      clear q0 xs xb
      go_wp2_with fail
      go_at_call 136
      refine (HIHP.out w1).mono ?_
      rintro e w2 ⟨A1, A2, c1, c2, rfl, ho2, hb2⟩
      have O2 := Lib.hid ho2
      have B2 := Lib.hid hb2
      clear ho2 hb2
      go_wp2_with fail
      generalize hw3 : World.alloc w2 _ = w3
      obtain ⟨q3, s3, b3⟩ := box_at hw3
      clear hw3
      obtain ⟨y0, y1, y2, _, _, _⟩ := cells3 q3
      have FS := Lib.hid (show ∀ x, Below w3.heap.size w3 x → x.cell? ⟨w2.heap.size, 0, none⟩ = some (.int .i64 1) ∧ x.cell? ⟨w2.heap.size, 1, none⟩ = some (.slice A1 SA.length c1) ∧ x.cell? ⟨w2.heap.size, 2, none⟩ = some (.slice A2 1 c2) from fun x hx =>
        ⟨(hx.cell (p := ⟨w2.heap.size, 0, none⟩) (by simp only []; omega)).trans y0, (hx.cell (p := ⟨w2.heap.size, 1, none⟩) (by simp only []; omega)).trans y1, (hx.cell (p := ⟨w2.heap.size, 2, none⟩) (by simp only []; omega)).trans y2⟩)
      have O3 := Lib.hid (show OwS w3 w1.heap.size (.slice A1 SA.length c1) SA ∧ OwI w3 w1.heap.size (.slice A2 1 c2) [(SA.length : Int)] from ⟨own_below O2.out.1 b3, own_below (show OwI w2 w1.heap.size (.slice A2 1 c2) [(SA.length : Int)] from O2.out.2) b3⟩)
      have B3 := Lib.hid (B2.out.trans (b3.mono B2.out.size))
      have hs13 := B3.out.size
      have HC := Lib.hid (show Below w3.heap.size w3 w3.drew from (Below.refl _ _).drew)
      clear q3 b3 y0 y1 y2 s3
      refine wp_region_T (fun x : World => Below w3.heap.size w3 x) [0, 1, 2, 3, 5, 6, 7, 10] [0] (.lp 1 (.lp 2 (.lp 3 (.ls 0 (.hv2 4 (.lp 5 (.lp 6 (.lp 7 (.hv 8 (.hv 9 (.lp 10 (.done))))))) 8 (.hv 4 (.lp 5 (.lp 6 (.lp 7 (.hv 9 (.lp 10 (.done)))))))))))) (by kernel_rfl) (by kernel_rfl) ?_
      (repeat (refine T_lp rfl (fun K hK => ?_); go_simp; refine hK _ ?_; clear hK K))
      rw [HDV.out]
      refine T_ls1 (v := .agg #[]) rfl rfl HC.out (fun x hx => (by go_simp)) (fun K hK => ?_)
      (go_simp; refine hK _ ?_; clear hK K)
      generalize World.drew w3 = wd at HC ⊢
      refine T_hv2 ?_ ?_
      · skip
        refine T_hvS rfl (fun K hK => ?_)
        go_simp
        go_at_call 136
        refine (HIHQ.out wd).mono ?_
        rintro e x1 ⟨D1, D2, d1, d2, rfl, ho4, hb4⟩
        go_simp
        refine hK _ _ (HC.out.trans (hb4.mono HC.out.size)) ?_
        clear hK K
        have HD := Lib.hid ho4
        have HSZ := Lib.hid HC.out.size
        have HC := Lib.hid (HC.out.trans (hb4.mono HC.out.size))
        clear ho4 hb4
        (repeat (refine T_lp rfl (fun K hK => ?_); go_simp; refine hK _ ?_; clear hK K))
        refine T_hvS rfl (fun K hK => ?_)
        go_simp
        refine hK _ _ (HC.out.alloc HC.out.size _) ?_
        clear hK K
        generalize hx : World.alloc x1 _ = x2
        obtain ⟨gb, _, hbx⟩ := box_at hx
        have GB := Lib.hid gb
        have HGS := Lib.hid (show w3.heap.size ≤ x1.heap.size from HC.out.size)
        have HD := Lib.hid (show OwS x2 w3.heap.size (.slice D1 SB.length d1) SB ∧ OwI x2 w3.heap.size (.slice D2 1 d2) [(SB.length : Int)] from ⟨own_base (own_below HD.out.1 hbx) HSZ.out, own_base (own_below HD.out.2 hbx) HSZ.out⟩)
        have HC := Lib.hid (HC.out.trans (hbx.mono HC.out.size))
        clear hx gb hbx
        obtain ⟨t0, t1, t2, g0, g1, g2⟩ := cells3 GB.out
        refine T_hvS rfl (fun K hK => ?_)
        go_simp
        obtain ⟨x7, hy⟩ : ∃ y, ((World.setCell x2 ⟨x1.heap.size, 0, none⟩ (.int .i64 1)).setCell ⟨x1.heap.size, 1, none⟩ (.slice D1 SB.length d1)).setCell ⟨x1.heap.size, 2, none⟩ (.slice D2 1 d2) = y := ⟨_, rfl⟩
        rw [hy]
        have hG := mt_set3 GB.out hy
        have hC := Lib.hid (show Below w3.heap.size w3 x7 from by subst hy; exact ((HC.out.setCell HGS.out _).setCell HGS.out _).setCell HGS.out _)
        have hD := Lib.hid (show OwS x7 w3.heap.size (.slice D1 SB.length d1) SB ∧ OwI x7 w3.heap.size (.slice D2 1 d2) [(SB.length : Int)] from by subst hy; exact ⟨own_set3 HD.out.1 GB.out (by decide) _ _ _, own_set3 HD.out.2 GB.out (by decide) _ _ _⟩)
        refine hK _ _ hC.out ?_
        clear hK K hy t0 t1 t2 g0 g1 g2
        (repeat (refine T_lp rfl (fun K hK => ?_); go_simp; refine hK _ ?_; clear hK K))
        refine T_done ?_
        obtain ⟨z0, z1, z2, _, _, _⟩ := cells3 hG
        obtain ⟨f0, f1, f2⟩ := FS.out _ hC.out
        have hsC := hC.out.size
        go_wp2_with fail
        go_at_call 137
        refine (HCP.out _ A1 A2 D1 D2 c1 c2 d1 d2 ⟨Rd.of_own (own_below O3.out.1 hC.out), Rd.of_own (own_below O3.out.2 hC.out)⟩ ⟨Rd.of_own hD.out.1, Rd.of_own hD.out.2⟩).mono ?_
        rintro e w9 ⟨R1, R2, v1, v2, rfl, ho9, hb9⟩
        have hb19 : Below w1.heap.size w1 w9 := B3.out.trans ((hC.out.trans (hb9.mono hC.out.size)).mono hs13)
        have q9 := (hb19.block (w.heap.size + 1) (by have := XS.out; omega)).trans Q0.out
        have hs19 := hC.out.size
        clear z0 z1 z2 f0 f1 f2 hG
        obtain ⟨t0, t1, t2, g0, g1, g2⟩ := cells3 q9
        have B9 := Lib.hid (XB.out.trans (hb19.mono (by have := XS.out; omega)))
        have O9 := Lib.hid ho9
        have Q9 := Lib.hid q9
        clear hb19 ho9 q9 hb9
        go_wp2
        refine bodyPost_ret (v := .tuple #[.agg #[.int .i64 1, .slice R1 S.length v1, .slice R2 1 v2], .bool true]) (by simp [results, Try.results136, go_sem, t0, t1, t2]) rfl ⟨R1, R2, v1, v2, rfl, ⟨?_, ?_⟩, ?_⟩
        · exact own_set3 (own_base (B' := w.heap.size) O9.out.1 (by have := XS.out; omega)) Q9.out (by decide) _ _ _
        · exact own_set3 (own_base (B' := w.heap.size) O9.out.2 (by have := XS.out; omega)) Q9.out (by decide) _ _ _
        · exact ((B9.out.setCell (show w.heap.size ≤ w.heap.size + 1 by omega) _).setCell (show w.heap.size ≤ w.heap.size + 1 by omega) _).setCell (show w.heap.size ≤ w.heap.size + 1 by omega) _
      · refine T_hvS rfl (fun K hK => ?_)
        go_simp
        refine hK _ _ (HC.out.alloc HC.out.size _) ?_
        clear hK K
        generalize hx : World.alloc wd _ = x1
        obtain ⟨gb, _, hbx⟩ := box_at hx
        have GB := Lib.hid gb
        have HGS := Lib.hid (show w3.heap.size ≤ wd.heap.size from HC.out.size)
        have HC := Lib.hid (HC.out.trans (hbx.mono HC.out.size))
        clear hx gb hbx
        refine T_hvS rfl (fun K hK => ?_)
        go_simp
        go_at_call 136
        refine (HIHQ.out x1).mono ?_
        rintro e x2 ⟨D1, D2, d1, d2, rfl, ho4, hb4⟩
        go_simp
        refine hK _ _ (HC.out.trans (hb4.mono HC.out.size)) ?_
        clear hK K
        have GB := Lib.hid ((hb4.block _ (Array.getElem?_eq_some_iff.1 GB.out).1).trans GB.out)
        have HD := Lib.hid ho4
        have HSZ := Lib.hid HC.out.size
        have HC := Lib.hid (HC.out.trans (hb4.mono HC.out.size))
        clear ho4 hb4
        have HD := Lib.hid (show OwS x2 w3.heap.size (.slice D1 SB.length d1) SB ∧ OwI x2 w3.heap.size (.slice D2 1 d2) [(SB.length : Int)] from ⟨own_base HD.out.1 HSZ.out, own_base HD.out.2 HSZ.out⟩)
        (repeat (refine T_lp rfl (fun K hK => ?_); go_simp; refine hK _ ?_; clear hK K))
        obtain ⟨t0, t1, t2, g0, g1, g2⟩ := cells3 GB.out
        refine T_hvS rfl (fun K hK => ?_)
        go_simp
        obtain ⟨x7, hy⟩ : ∃ y, ((World.setCell x2 ⟨wd.heap.size, 0, none⟩ (.int .i64 1)).setCell ⟨wd.heap.size, 1, none⟩ (.slice D1 SB.length d1)).setCell ⟨wd.heap.size, 2, none⟩ (.slice D2 1 d2) = y := ⟨_, rfl⟩
        rw [hy]
        have hG := mt_set3 GB.out hy
        have hC := Lib.hid (show Below w3.heap.size w3 x7 from by subst hy; exact ((HC.out.setCell HGS.out _).setCell HGS.out _).setCell HGS.out _)
        have hD := Lib.hid (show OwS x7 w3.heap.size (.slice D1 SB.length d1) SB ∧ OwI x7 w3.heap.size (.slice D2 1 d2) [(SB.length : Int)] from by subst hy; exact ⟨own_set3 HD.out.1 GB.out (by decide) _ _ _, own_set3 HD.out.2 GB.out (by decide) _ _ _⟩)
        refine hK _ _ hC.out ?_
        clear hK K hy t0 t1 t2 g0 g1 g2
        (repeat (refine T_lp rfl (fun K hK => ?_); go_simp; refine hK _ ?_; clear hK K))
        refine T_done ?_
        obtain ⟨z0, z1, z2, _, _, _⟩ := cells3 hG
        obtain ⟨f0, f1, f2⟩ := FS.out _ hC.out
        have hsC := hC.out.size
        go_wp2_with fail
        go_at_call 137
        refine (HCP.out _ A1 A2 D1 D2 c1 c2 d1 d2 ⟨Rd.of_own (own_below O3.out.1 hC.out), Rd.of_own (own_below O3.out.2 hC.out)⟩ ⟨Rd.of_own hD.out.1, Rd.of_own hD.out.2⟩).mono ?_
        rintro e w9 ⟨R1, R2, v1, v2, rfl, ho9, hb9⟩
        have hb19 : Below w1.heap.size w1 w9 := B3.out.trans ((hC.out.trans (hb9.mono hC.out.size)).mono hs13)
        have q9 := (hb19.block (w.heap.size + 1) (by have := XS.out; omega)).trans Q0.out
        have hs19 := hC.out.size
        clear z0 z1 z2 f0 f1 f2 hG
        obtain ⟨t0, t1, t2, g0, g1, g2⟩ := cells3 q9
        have B9 := Lib.hid (XB.out.trans (hb19.mono (by have := XS.out; omega)))
        have O9 := Lib.hid ho9
        have Q9 := Lib.hid q9
        clear hb19 ho9 q9 hb9
        go_wp2
        refine bodyPost_ret (v := .tuple #[.agg #[.int .i64 1, .slice R1 S.length v1, .slice R2 1 v2], .bool true]) (by simp [results, Try.results136, go_sem, t0, t1, t2]) rfl ⟨R1, R2, v1, v2, rfl, ⟨?_, ?_⟩, ?_⟩
        · exact own_set3 (own_base (B' := w.heap.size) O9.out.1 (by have := XS.out; omega)) Q9.out (by decide) _ _ _
        · exact own_set3 (own_base (B' := w.heap.size) O9.out.2 (by have := XS.out; omega)) Q9.out (by decide) _ _ _
        · exact ((B9.out.setCell (show w.heap.size ≤ w.heap.size + 1 by omega) _).setCell (show w.heap.size ≤ w.heap.size + 1 by omega) _).setCell (show w.heap.size ≤ w.heap.size + 1 by omega) _
theorem factorFor_any (n : Nat) (w : World) (hn1 : 1 ≤ n) (hn : n ≤ 1000000) :
    Calls Try.prog 136 #[.agg #[], .int .i64 (n : Int)] w fun e w' =>
      ∃ R1 R2 v1 v2, e = .returned (.tuple #[.agg #[.int .i64 (mkR (facP n)).n, .slice R1 (mkR (facP n)).s.length v1, .slice R2 (mkR (facP n)).o.length v2], .bool (good (facP n))]) ∧ OwP w' w.heap.size R1 R2 v1 v2 (mkR (facP n)) ∧ Below w.heap.size w w' := by
  have hg := (facP_good hn1 hn).1
  rw [mkR_true hg, hg]
  exact facI_any n hn1 hn w
theorem meFactorsW_any (n : Nat) (w : World) (hn1 : 1 ≤ n) (hn : n ≤ 1000000) :
    Calls Try.prog 58 #[.int .i64 (n : Int)] w fun e w' =>
      ∃ A1 A2 c1 c2, e = .returned (.agg #[.int .i64 (facP n).n, .slice A1 (facP n).s.length c1, .slice A2 (facP n).o.length c2]) ∧ OwP w' w.heap.size A1 A2 c1 c2 (facP n) ∧ Below w.heap.size w w' := meFactors_any n hn1 hn w
theorem facP_len {n : Nat} (hn : n ≤ 1000000) : (facP n).s.length ≤ 1000 ∧ (facP n).o.length ≤ 1000 := by
  refine ⟨?_, by simp [facP, plS]⟩
  rcases Nat.eq_zero_or_pos n with rfl | h
  · exact Nat.zero_le _
  · have := fac_len39 h hn
    show (facS n).length ≤ 1000
    omega
end Go.Proofs.Ytodjnafalbbmjaa
/- FactorPlan: the wrappers of both sides. -/
namespace Go.Proofs.Ytodjnafalbbmjaa
open Go.RowKit

def facR (x : Int) : Pl := if isNum x then mkR (facP x.toNat) else zeroP
def facG (x : Int) : Bool := isNum x && good (facP x.toNat)
theorem facR_false {x : Int} (h : isNum x = false) : facR x = zeroP ∧ facG x = false := ⟨by unfold facR; rw [if_neg (by rw [h]; decide)], by unfold facG; rw [h]; rfl⟩
theorem facR_true {n : Nat} (h : isNum (n : Int) = true) : facR (n : Int) = mkR (facP n) ∧ facG (n : Int) = good (facP n) := ⟨by unfold facR; rw [if_pos h]; rfl, by unfold facG; rw [h]; rfl⟩
theorem facR_len (x : Int) : (facR x).s.length ≤ 1000 ∧ (facR x).o.length ≤ 1000 := by
  unfold facR
  split
  · rename_i h
    have ⟨r1, r2⟩ := isNum_rng h
    obtain ⟨l1, l2⟩ := facP_len (n := x.toNat) (by omega)
    exact mkR_len _ l1 l2
  · exact ⟨by simp [zeroP], by simp [zeroP]⟩

set_option maxRecDepth 100000 in
set_option maxHeartbeats 1000000 in
theorem specFactorPlan_any (x : Int) (w : World) : Calls Try.prog 33 #[.int .i64 x] w fun e w' => ∃ R1 R2 v1 v2, e = .returned (.tuple #[.agg #[.int .i64 (facR x).n, .slice R1 (facR x).s.length v1, .slice R2 (facR x).o.length v2], .bool (facG x)]) ∧ OwP w' w.heap.size R1 R2 v1 v2 (facR x) ∧ Below w.heap.size w w' := by
  obtain ⟨gn, hgn⟩ : ∃ g, isNum x = g := ⟨_, rfl⟩
  have HN := Lib.hid hgn
  cases gn with
  | false =>
    obtain ⟨E1, E2⟩ := facR_false hgn
    have e1 := Lib.hid E1
    have e2 := Lib.hid E2
    clear E1 E2 hgn
    go_enter Try.func33, Try.ntmps33
    go_wp2_with fail
    go_at_call 39
    generalize hw1 : World.alloc w _ = w1
    obtain ⟨q0, xs, xb⟩ := zero_box hw1
    clear hw1
    refine (chNumber_any x w1).mono ?_
    rw [HN.out]
    rintro e w' ⟨rfl, hww⟩
    subst w'
    obtain ⟨t0, t1, t2, g0, g1, g2⟩ := cells3 q0
    go_wp2
    refine bodyPost_ret (v := (.tuple #[.agg #[.int .i64 0, .slice none 0 0, .slice none 0 0], .bool false])) (by simp [results, Try.results33, go_sem, t0, t1, t2]) rfl ⟨none, none, 0, 0, by rw [e1.out, e2.out]; rfl, by rw [e1.out]; exact OwP.zero _ _, ?_⟩
    exact ((xb.setCell (Nat.le_refl _) _).setCell (Nat.le_refl _) _).setCell (Nat.le_refl _) _
  | true =>
    have ⟨r1, r2⟩ := isNum_rng hgn
    obtain ⟨n, rfl⟩ : ∃ n : Nat, x = n := ⟨x.toNat, by omega⟩
    obtain ⟨E1, E2⟩ := facR_true hgn
    obtain ⟨l1, l2⟩ := facP_len (n := n) (by omega)
    have hME := fun W => meFactorsW_any n W (by omega) (by omega)
    obtain ⟨P, hP⟩ : ∃ P, facP n = P := ⟨_, rfl⟩
    rw [hP] at hME E1 E2 l1 l2
    have HME := Lib.hid hME
    have e1 := Lib.hid E1
    have e2 := Lib.hid E2
    clear hME E1 E2 hP hgn
    go_enter Try.func33, Try.ntmps33
    go_wp2_with fail
    go_at_call 39
    generalize hw1 : World.alloc w _ = w1
    obtain ⟨q0, xs, xb⟩ := zero_box hw1
    clear hw1
    have Q0 := Lib.hid q0
    have XB := Lib.hid xb
    have XS := Lib.hid xs
    clear q0 xs xb
    refine (chNumber_any n w1).mono ?_
    rw [HN.out]
    rintro e w' ⟨rfl, hww⟩
    subst w'
    go_wp2_with fail
    go_at_call 58
    refine (HME.out w1).mono ?_
    rintro e w3 ⟨A4, A5, c4, c5, rfl, ho3, hb3⟩
    have RD := Lib.hid ho3.rd
    have OWP := Lib.hid ho3
    have B3 := Lib.hid hb3
    clear ho3 hb3
    go_wp2_with fail
    go_at_call 45
    refine (plIf_any w3.heap.size A4 A5 c4 c5 P w3 (Nat.le_refl _) (by omega) (by omega) RD.out).mono ?_
    rintro e w5 ⟨rfl, hb5⟩
    have B5 := Lib.hid (B3.out.trans (hb5.mono B3.out.size))
    have Q5 := Lib.hid ((B5.out.block w.heap.size (by have := XS.out; omega)).trans Q0.out)
    have O5 := Lib.hid (OWP.out.below hb5)
    obtain ⟨R1, R2, v1, v2, hsel, hres, hbel⟩ := selV_mk (w0 := w) (B := w.heap.size) (g := w.heap.size) rfl O5.out (by have := XS.out; omega) ⟨_, Q5.out⟩ (XB.out.trans (B5.out.mono (by have := XS.out; omega))) (Nat.le_refl _)
    rw [hsel]
    rw [← e1.out] at hres hbel ⊢
    rw [← e2.out]
    obtain ⟨t0, t1, t2, g0, g1, g2⟩ := cells3 Q5.out
    have RES := Lib.hid hres
    have BRES := Lib.hid hbel
    clear hb5 hsel hres hbel
    go_wp2
    refine bodyPost_ret (v := .tuple #[.agg #[.int .i64 (facR n).n, .slice R1 (facR n).s.length v1, .slice R2 (facR n).o.length v2], .bool (facG n)]) (by simp [results, Try.results33, go_sem, t0, t1, t2]) rfl ⟨R1, R2, v1, v2, rfl, RES.out, BRES.out⟩

set_option maxRecDepth 100000 in
set_option maxHeartbeats 1000000 in
theorem planByFactorPlan_any (x : Int) (w : World) : Calls Try.prog 56 #[.iface 83 (.agg #[]), .int .i64 x] w fun e w' => ∃ R1 R2 v1 v2, e = .returned (.tuple #[.agg #[.int .i64 (facR x).n, .slice R1 (facR x).s.length v1, .slice R2 (facR x).o.length v2], .bool (facG x)]) ∧ OwP w' w.heap.size R1 R2 v1 v2 (facR x) ∧ Below w.heap.size w w' := by
  obtain ⟨gn, hgn⟩ : ∃ g, isNum x = g := ⟨_, rfl⟩
  have HN := Lib.hid hgn
  cases gn with
  | false =>
    obtain ⟨E1, E2⟩ := facR_false hgn
    have e1 := Lib.hid E1
    have e2 := Lib.hid E2
    clear E1 E2 hgn
    go_enter Try.func56, Try.ntmps56
    go_wp2_with fail
    go_at_call 42
    generalize hw1 : World.alloc w _ = w1
    obtain ⟨q0, xs, xb⟩ := zero_box hw1
    clear hw1
    refine (isExponent_any x w1).mono ?_
    rw [HN.out]
    rintro e w' ⟨rfl, hww⟩
    subst w'
    obtain ⟨t0, t1, t2, g0, g1, g2⟩ := cells3 q0
    go_wp2
    refine bodyPost_ret (v := (.tuple #[.agg #[.int .i64 0, .slice none 0 0, .slice none 0 0], .bool false])) (by simp [results, Try.results56, go_sem, t0, t1, t2]) rfl ⟨none, none, 0, 0, by rw [e1.out, e2.out]; rfl, by rw [e1.out]; exact OwP.zero _ _, ?_⟩
    exact ((xb.setCell (Nat.le_refl _) _).setCell (Nat.le_refl _) _).setCell (Nat.le_refl _) _
  | true =>
    have ⟨r1, r2⟩ := isNum_rng hgn
    obtain ⟨n, rfl⟩ : ∃ n : Nat, x = n := ⟨x.toNat, by omega⟩
    obtain ⟨E1, E2⟩ := facR_true hgn
    have hME := fun W => factorFor_any n W (by omega) (by omega)
    rw [← E1, ← E2] at hME
    obtain ⟨Q, hQ⟩ : ∃ Q, facR (n : Int) = Q := ⟨_, rfl⟩
    obtain ⟨gd, hgd⟩ : ∃ Q, facG (n : Int) = Q := ⟨_, rfl⟩
    rw [hQ, hgd] at hME
    rw [hQ, hgd]
    have HME := Lib.hid hME
    clear hME E1 E2 hQ hgd hgn
    go_enter Try.func56, Try.ntmps56
    go_wp2_with fail
    go_at_call 42
    generalize hw1 : World.alloc w _ = w1
    obtain ⟨q0, xs, xb⟩ := zero_box hw1
    clear hw1
    have Q0 := Lib.hid q0
    have XB := Lib.hid xb
    have XS := Lib.hid xs
    clear q0 xs xb
    refine (isExponent_any n w1).mono ?_
    rw [HN.out]
    rintro e w' ⟨rfl, hww⟩
    subst w'
    go_wp2_with fail
    go_at_call 136
    refine (HME.out w1).mono ?_
    rintro e w5 ⟨R1, R2, v1, v2, rfl, ho5, hb5⟩
    have q5 := (hb5.block w.heap.size (by have := XS.out; omega)).trans Q0.out
    obtain ⟨t0, t1, t2, g0, g1, g2⟩ := cells3 q5
    have B5 := Lib.hid (XB.out.trans (hb5.mono (by have := XS.out; omega)))
    have O5 := Lib.hid ho5
    have Q5 := Lib.hid q5
    clear hb5 ho5 q5
    go_wp2
    refine bodyPost_ret (v := .tuple #[.agg #[.int .i64 Q.n, .slice R1 Q.s.length v1, .slice R2 Q.o.length v2], .bool gd]) (by simp [results, Try.results56, go_sem, t0, t1, t2]) rfl ⟨R1, R2, v1, v2, rfl, ?_, ?_⟩
    · refine owP_of3 (own_base O5.out.1 (by have := XS.out; omega)) (own_base O5.out.2 (by have := XS.out; omega)) Q5.out (by decide) (by decide) rfl rfl _ _ _
    · exact ((B5.out.setCell (Nat.le_refl _) _).setCell (Nat.le_refl _) _).setCell (Nat.le_refl _) _

set_option maxRecDepth 100000 in
theorem lookFactorPlan {w : World} {b : Nat} (h : w.ownsMap Try.prog 9 mR b 7 mD) : (Instr.lookup 64 (.map (some b)) (.string ⟨#[102, 97, 99, 116, 111, 114]⟩) false).run Try.prog w = .ok (.iface 83 (.agg #[])) w := by
  obtain ⟨v, ps, hrun, hv⟩ := h.lookup mKey Try.underlying64 (z := .nilIface) (by kernel_rfl) (show mR .nilIface = some (.agg [], []) from rfl) (mKeyOf ⟨#[102, 97, 99, 116, 111, 114]⟩ (by decide))
  have e : v = .iface 83 (.agg #[]) := mR_one (by rw [hv]; rfl)
  rw [← e]
  exact hrun

set_option maxRecDepth 100000 in
set_option maxHeartbeats 1000000 in
theorem planByNameFactorPlan_any (x : Int) (w : World) : Calls Try.prog 47 #[.string ⟨#[102, 97, 99, 116, 111, 114]⟩, .int .i64 x] w fun e w' => ∃ R1 R2 v1 v2, e = .returned (.tuple #[.agg #[.int .i64 (facR x).n, .slice R1 (facR x).s.length v1, .slice R2 (facR x).o.length v2], .bool (facG x)]) ∧ OwP w' w.heap.size R1 R2 v1 v2 (facR x) ∧ Below w.heap.size w w' := by
  have hME := fun W => planByFactorPlan_any x W
  obtain ⟨Q, hQ⟩ : ∃ Q, facR x = Q := ⟨_, rfl⟩
  obtain ⟨gd, hgd⟩ : ∃ Q, facG x = Q := ⟨_, rfl⟩
  rw [hQ, hgd] at hME
  rw [hQ, hgd]
  have HME := Lib.hid hME
  clear hME hQ hgd
  go_enter Try.func47, Try.ntmps47
  go_wp2_with fail
  go_at_call 64
  generalize hw1 : World.alloc w _ = w1
  obtain ⟨q0, xs, xb⟩ := zero_box hw1
  clear hw1
  refine (methods_any w1).mono ?_
  rintro e w2 ⟨b, rfl, hmap, hb2⟩
  have hlook := lookFactorPlan hmap
  have Q2 := Lib.hid ((hb2.block w.heap.size (by omega)).trans q0)
  have XB := Lib.hid (xb.trans (hb2.mono (by omega)))
  have XS := Lib.hid (show w.heap.size < w2.heap.size by have := hb2.size; omega)
  clear q0 xs xb hmap hb2
  go_wp2_with fail
  go_at_call 56
  refine (HME.out w2).mono ?_
  rintro e w5 ⟨R1, R2, v1, v2, rfl, ho5, hb5⟩
  have q5 := (hb5.block w.heap.size (by have := XS.out; omega)).trans Q2.out
  obtain ⟨t0, t1, t2, g0, g1, g2⟩ := cells3 q5
  have B5 := Lib.hid (XB.out.trans (hb5.mono (by have := XS.out; omega)))
  have O5 := Lib.hid ho5
  have Q5 := Lib.hid q5
  clear hb5 ho5 q5 hlook
  go_wp2
  refine bodyPost_ret (v := .tuple #[.agg #[.int .i64 Q.n, .slice R1 Q.s.length v1, .slice R2 Q.o.length v2], .bool gd]) (by simp [results, Try.results47, go_sem, t0, t1, t2]) rfl ⟨R1, R2, v1, v2, rfl, ?_, ?_⟩
  · refine owP_of3 (own_base O5.out.1 (by have := XS.out; omega)) (own_base O5.out.2 (by have := XS.out; omega)) Q5.out (by decide) (by decide) rfl rfl _ _ _
  · exact ((B5.out.setCell (Nat.le_refl _) _).setCell (Nat.le_refl _) _).setCell (Nat.le_refl _) _

set_option maxRecDepth 100000 in
set_option maxHeartbeats 1000000 in
theorem implFactorPlan_any (x : Int) (w : World) : Calls Try.prog 34 #[.int .i64 x] w fun e w' => ∃ R1 R2 v1 v2, e = .returned (.tuple #[.agg #[.int .i64 (facR x).n, .slice R1 (facR x).s.length v1, .slice R2 (facR x).o.length v2], .bool (facG x)]) ∧ OwP w' w.heap.size R1 R2 v1 v2 (facR x) ∧ Below w.heap.size w w' := by
  have hME := fun W => planByNameFactorPlan_any x W
  obtain ⟨Q, hQ⟩ : ∃ Q, facR x = Q := ⟨_, rfl⟩
  obtain ⟨gd, hgd⟩ : ∃ Q, facG x = Q := ⟨_, rfl⟩
  rw [hQ, hgd] at hME
  rw [hQ, hgd]
  have HME := Lib.hid hME
  clear hME hQ hgd
  go_enter Try.func34, Try.ntmps34
  go_wp2_with fail
  go_at_call 47
  generalize hw1 : World.alloc w _ = w1
  obtain ⟨q0, xs, xb⟩ := zero_box hw1
  clear hw1
  have Q2 := Lib.hid q0
  have XB := Lib.hid xb
  have XS := Lib.hid xs
  clear q0 xs xb
  refine (HME.out w1).mono ?_
  rintro e w5 ⟨R1, R2, v1, v2, rfl, ho5, hb5⟩
  have q5 := (hb5.block w.heap.size (by have := XS.out; omega)).trans Q2.out
  obtain ⟨t0, t1, t2, g0, g1, g2⟩ := cells3 q5
  have B5 := Lib.hid (XB.out.trans (hb5.mono (by have := XS.out; omega)))
  have O5 := Lib.hid ho5
  have Q5 := Lib.hid q5
  clear hb5 ho5 q5
  go_wp2
  refine bodyPost_ret (v := .tuple #[.agg #[.int .i64 Q.n, .slice R1 Q.s.length v1, .slice R2 Q.o.length v2], .bool gd]) (by simp [results, Try.results34, go_sem, t0, t1, t2]) rfl ⟨R1, R2, v1, v2, rfl, ?_, ?_⟩
  · refine owP_of3 (own_base O5.out.1 (by have := XS.out; omega)) (own_base O5.out.2 (by have := XS.out; omega)) Q5.out (by decide) (by decide) rfl rfl _ _ _
  · exact ((B5.out.setCell (Nat.le_refl _) _).setCell (Nat.le_refl _) _).setCell (Nat.le_refl _) _
end Go.Proofs.Ytodjnafalbbmjaa
/- FactorCost: contracts of both sides. -/
namespace Go.Proofs.Ytodjnafalbbmjaa
open Go.RowKit

def facV (x : Int) : Int := if isNum x then ((facP x.toNat).s.length : Int) else 0
theorem facV_false {x : Int} (h : isNum x = false) : facV x = 0 := by unfold facV; rw [if_neg (by rw [h]; decide)]
theorem facV_true {n : Nat} (h : isNum (n : Int) = true) : facV (n : Int) = ((facP n).s.length : Int) := by unfold facV; rw [if_pos h]; rfl
theorem facV_of (x : Int) : ((facR x).s.length : Int) = facV x ∧ facG x = isNum x := by
  cases h : isNum x with
  | false =>
    obtain ⟨e1, e2⟩ := facR_false h
    rw [e1, e2, facV_false h]
    exact ⟨rfl, rfl⟩
  | true =>
    have ⟨r1, r2⟩ := isNum_rng h
    obtain ⟨n, rfl⟩ : ∃ n : Nat, x = n := ⟨x.toNat, by omega⟩
    obtain ⟨e1, e2⟩ := facR_true h
    have hg := (facP_good (n := n) (by omega) (by omega)).1
    rw [e1, e2, facV_true h, mkR_true hg, hg]
    exact ⟨rfl, rfl⟩

set_option maxRecDepth 100000 in
theorem costOfFactorCost_any (A1 A2 : Option Addr) (n : Int) (c1 m c2 k : Nat) (b : Bool) (w : World) : Calls Try.prog 51 #[.agg #[.int .i64 n, .slice A1 m c1, .slice A2 k c2], .bool b] w fun e w' => e = .returned (.tuple #[.int .i64 m, .bool b]) ∧ Below w.heap.size w w' := by
  go_enter Try.func51, Try.ntmps51
  go_wp2
  go_ret2
  exact ⟨rfl, by first | exact (Below.refl _ _).alloc (Nat.le_refl _) _ | exact Below.refl _ _⟩

set_option maxRecDepth 100000 in
set_option maxHeartbeats 1000000 in
theorem specFactorCost_any (x : Int) (w : World) : Calls Try.prog 35 #[.int .i64 x] w fun e w' => e = .returned (.tuple #[.int .i64 (facV x), .bool (isNum x)]) ∧ Below w.heap.size w w' := by
  obtain ⟨gn, hgn⟩ : ∃ g, isNum x = g := ⟨_, rfl⟩
  have HN := Lib.hid hgn
  cases gn with
  | false =>
    have e1 := Lib.hid (facV_false hgn)
    clear hgn
    go_enter Try.func35, Try.ntmps35
    go_wp2_with (go_at_call 39; refine (chNumber_any x _).mono ?_; rw [HN.out]; rintro e w' ⟨rfl, hww⟩; subst w')
    go_ret2
    exact ⟨by rw [e1.out, HN.out]; rfl, Below.refl _ _⟩
  | true =>
    have ⟨r1, r2⟩ := isNum_rng hgn
    obtain ⟨n, rfl⟩ : ∃ n : Nat, x = n := ⟨x.toNat, by omega⟩
    have hME := fun W => meFactorsW_any n W (by omega) (by omega)
    have e1 := Lib.hid (facV_true hgn)
    obtain ⟨P, hP⟩ : ∃ P, facP n = P := ⟨_, rfl⟩
    rw [hP] at hME e1
    have HME := Lib.hid hME
    have hfld : ∀ (W : World) (n : Int) (A1 A2 : Option Addr) (m c1 k c2 : Nat), (Instr.field 33 (.agg #[.int .i64 n, .slice A1 m c1, .slice A2 k c2]) 1).run Try.prog W = .ok (.slice A1 m c1) W := fun _ _ _ _ _ _ _ _ => by kernel_rfl
    clear hME hP hgn
    go_enter Try.func35, Try.ntmps35
    go_wp2_with (first
      | (go_at_call 39; refine (chNumber_any n _).mono ?_; rw [HN.out]; rintro e w' ⟨rfl, hww⟩; subst w')
      | (go_at_call 58; refine (HME.out _).mono ?_; rintro e w3 ⟨A4, A5, c4, c5, rfl, ho3, hb3⟩))
    go_ret2
    exact ⟨by rw [e1.out, HN.out]; rfl, hb3⟩

set_option maxRecDepth 100000 in
set_option maxHeartbeats 1000000 in
theorem implFactorCost_any (x : Int) (w : World) : Calls Try.prog 36 #[.int .i64 x] w fun e w' => e = .returned (.tuple #[.int .i64 (facV x), .bool (isNum x)]) ∧ Below w.heap.size w w' := by
  have hME := fun W => implFactorPlan_any x W
  obtain ⟨e1, e2⟩ := facV_of x
  obtain ⟨Q, hQ⟩ : ∃ Q, facR x = Q := ⟨_, rfl⟩
  obtain ⟨gd, hgd⟩ : ∃ Q, facG x = Q := ⟨_, rfl⟩
  rw [hQ, hgd] at hME
  rw [hQ] at e1
  rw [hgd] at e2
  rw [← e1, ← e2]
  have HME := Lib.hid hME
  clear hME hQ hgd e1 e2
  go_enter Try.func36, Try.ntmps36
  go_wp2_with (first
    | (go_at_call 34; refine (HME.out _).mono ?_; rintro e w5 ⟨R1, R2, v1, v2, rfl, ho5, hb5⟩)
    | (go_at_call 51; refine (costOfFactorCost_any _ _ _ _ _ _ _ _ _).mono ?_; rintro e w6 ⟨rfl, hb6⟩))
  go_ret2
  exact ⟨rfl, hb5.trans (hb6.mono hb5.size)⟩
end Go.Proofs.Ytodjnafalbbmjaa
