/- The law FnExactWidthOf holds: for every plan, valid or not, WidthOf of the program answers as WidthOf of the model, and the plan reads afterwards as before. No condition. -/
import Derived.Test.YtbbjgcagkmlngabPW0
import Derived.Test.YtbbjgcagkmlngabPW2
namespace Go.Proofs.Ytbbjgcagkmlngab
open Go.ChangeShapes Go.WideShapes Go.ChangeAt Go.RowKit Go.Deep Go.Joins

set_option maxRecDepth 100000 in
set_option maxHeartbeats 2000000 in
theorem lawWidthOf (A1 A2 : Option Addr) (c1 c2 : Nat) (p : Pl) (w : World) (hn1 : p.s.length ≤ 9223372036854775807) (hn2 : p.o.length ≤ 9223372036854775807) (hr : RdP w w.heap.size A1 A2 p) :
    Calls Try.prog 5 #[.agg #[.int .i64 p.n, .slice A1 p.s.length c1, .slice A2 p.o.length c2]] w fun e w' => e = .returned (.bool true) ∧ Below w.heap.size w w' := by
  have H := Lib.hid hr
  clear hr
  obtain ⟨x, hx⟩ : ∃ x, szPl p 1048576 = x := ⟨_, rfl⟩
  have hsz := fun W => szPlan_any A1 A2 c1 c2 p 1048576 W (by omega) (by omega) hn1 hn2
  rw [hx] at hsz
  have HX := Lib.hid hx
  have HSZ := Lib.hid hsz
  clear hx hsz
  by_cases hneg : x < 0
  · go_enter Try.func5, Try.ntmps5
    go_wp2_with fail
    go_at_call 22
    refine (HSZ.out _).mono ?_
    rintro e w2 ⟨rfl, hb2⟩
    go_wp2
    go_ret
    exact ⟨rfl, ((Below.refl _ _).alloc (Nat.le_refl _) _).trans (hb2.mono (by simp))⟩
  · obtain ⟨l1, l2⟩ := szPl_ok (p := p) (by rw [HX.out]; exact hneg)
    go_enter Try.func5, Try.ntmps5
    go_wp2_with fail
    go_at_call 22
    generalize hw1 : World.alloc w _ = w1
    obtain ⟨x0, x1, x2, xs, xb⟩ := box3 hw1
    clear hw1
    refine (HSZ.out _).mono ?_
    rintro e w2 ⟨rfl, hb2⟩
    have hs2 : w.heap.size + 1 ≤ w2.heap.size := by have := hb2.size; omega
    have y0 := (hb2.cell (p := ⟨w.heap.size, 0, none⟩) (by simp only []; omega)).trans x0
    have y1 := (hb2.cell (p := ⟨w.heap.size, 1, none⟩) (by simp only []; omega)).trans x1
    have y2 := (hb2.cell (p := ⟨w.heap.size, 2, none⟩) (by simp only []; omega)).trans x2
    have hbw := xb.trans (hb2.mono (show w.heap.size ≤ w1.heap.size by omega))
    have HB2 := Lib.hid hbw
    clear x0 x1 x2 xs xb hb2 hbw
    go_wp2_with fail
    go_at_call 24
    refine (toPlan_any w.heap.size A1 A2 c1 c2 p w2 l1 l2 (by omega) (H.out.below HB2.out)).mono ?_
    rintro e w3 ⟨B1, B2, d1, d2, rfl, hown3, hb3⟩
    go_wp2_with fail
    go_at_call 31
    refine (specWidth_any w3.heap.size B1 B2 d1 d2 p w3 (Nat.le_refl _) (by omega) (by omega) (own_cap hown3.1) hown3.rd).mono ?_
    rintro e w4 ⟨rfl, hb4⟩
    have hb24 := hb3.trans (hb4.mono hb3.size)
    have hs4 : w.heap.size + 1 ≤ w4.heap.size := by have := hb24.size; omega
    have z0 := (hb24.cell (p := ⟨w.heap.size, 0, none⟩) (by simp only []; omega)).trans y0
    have z1 := (hb24.cell (p := ⟨w.heap.size, 1, none⟩) (by simp only []; omega)).trans y1
    have z2 := (hb24.cell (p := ⟨w.heap.size, 2, none⟩) (by simp only []; omega)).trans y2
    have HB4 := Lib.hid (HB2.out.trans (hb24.mono (by omega)))
    clear y0 y1 y2 hb3 hb4 hb24 hown3 hs2
    go_wp2_with fail
    go_at_call 24
    refine (toPlan_any w.heap.size A1 A2 c1 c2 p w4 l1 l2 (by omega) (H.out.below HB4.out)).mono ?_
    rintro e w5 ⟨C1, C2, e1, e2, rfl, hown5, hb5⟩
    go_wp2_with fail
    go_at_call 32
    generalize hw6 : World.alloc w5 _ = w6
    obtain ⟨k0, k1, k2, ks, kb⟩ := box3 hw6
    clear hw6
    have hown6 := hown5.below kb
    refine (implWidth_any w6.heap.size C1 C2 e1 e2 p w6 (Nat.le_refl _) (by omega) (by omega) (own_cap hown6.1) hown6.rd).mono ?_
    rintro e w7 ⟨rfl, hb7⟩
    have hb47 : Below w4.heap.size w4 w7 := (hb5.trans (kb.mono hb5.size)).trans (hb7.mono (by have := hb5.size; omega))
    have hown7 := hown6.below hb7
    have m0 := (hb47.cell (p := ⟨w.heap.size, 0, none⟩) (by simp only []; omega)).trans z0
    have m1 := (hb47.cell (p := ⟨w.heap.size, 1, none⟩) (by simp only []; omega)).trans z1
    have m2 := (hb47.cell (p := ⟨w.heap.size, 2, none⟩) (by simp only []; omega)).trans z2
    have n0 := (hb7.cell (p := ⟨w5.heap.size, 0, none⟩) (by simp only []; omega)).trans k0
    have n1 := (hb7.cell (p := ⟨w5.heap.size, 1, none⟩) (by simp only []; omega)).trans k1
    have n2 := (hb7.cell (p := ⟨w5.heap.size, 2, none⟩) (by simp only []; omega)).trans k2
    have HB7 := Lib.hid (HB4.out.trans (hb47.mono (by omega)))
    have HO7 := Lib.hid hown7
    have hlt5 : w5.heap.size < w7.heap.size := by have := hb7.size; omega
    have hs7 : w.heap.size < w7.heap.size := by have := hb47.size; omega
    clear z0 z1 z2 k0 k1 k2 ks kb hb5 hb7 hb47 hown5 hown6 hown7 hs4
    go_wp2
    have HS : (fun x : World => x.cell? ⟨w.heap.size, 0, none⟩ = some (.int .i64 p.n) ∧ x.cell? ⟨w.heap.size, 1, none⟩ = some (.slice A1 p.s.length c1) ∧ x.cell? ⟨w.heap.size, 2, none⟩ = some (.slice A2 p.o.length c2) ∧
        x.cell? ⟨w5.heap.size, 0, none⟩ = some (.int .i64 p.n) ∧ x.cell? ⟨w5.heap.size, 1, none⟩ = some (.slice C1 p.s.length e1) ∧ x.cell? ⟨w5.heap.size, 2, none⟩ = some (.slice C2 p.o.length e2)) w7.drew := ⟨m0, m1, m2, n0, n1, n2⟩
    have HSH := Lib.hid HS
    clear HS m0 m1 m2 n0 n1 n2
    refine wp_region_T (fun x : World => x.cell? ⟨w.heap.size, 0, none⟩ = some (.int .i64 p.n) ∧ x.cell? ⟨w.heap.size, 1, none⟩ = some (.slice A1 p.s.length c1) ∧ x.cell? ⟨w.heap.size, 2, none⟩ = some (.slice A2 p.o.length c2) ∧
        x.cell? ⟨w5.heap.size, 0, none⟩ = some (.int .i64 p.n) ∧ x.cell? ⟨w5.heap.size, 1, none⟩ = some (.slice C1 p.s.length e1) ∧ x.cell? ⟨w5.heap.size, 2, none⟩ = some (.slice C2 p.o.length e2)) [0, 1, 4] [0, 1] (.ls 0 (.ls 1 (.hv 2 (.hv 3 (.lp 4 (.done)))))) (by kernel_rfl) (by kernel_rfl) ?_
    refine T_ls1 (v := .agg #[.int .i64 p.n, .slice C1 p.s.length e1, .slice C2 p.o.length e2]) rfl rfl HSH.out (fun x hx => (by obtain ⟨h1, h2, h3, h4, h5, h6⟩ := hx; go_simp)) (fun K hK => ?_)
    (go_simp; refine hK _ ?_; clear hK K)
    refine T_ls1 (v := .agg #[.int .i64 p.n, .slice A1 p.s.length c1, .slice A2 p.o.length c2]) rfl rfl HSH.out (fun x hx => (by obtain ⟨h1, h2, h3, h4, h5, h6⟩ := hx; go_simp)) (fun K hK => ?_)
    (go_simp; refine hK _ ?_; clear hK K)
    refine T_hvS rfl (fun K hK => ?_)
    go_simp
    go_at_call 24
    refine (toPlan_any w.heap.size A1 A2 c1 c2 p w7.drew l1 l2 (by simp; omega) ((H.out.below HB7.out).drew)).mono ?_
    rintro e w8 ⟨D1, D2, f1, f2, rfl, hown8, hb8⟩
    have hb8' : Below w7.heap.size w7 w8 := (Below.refl _ _).drew.trans hb8
    have HS8 := (⟨(hb8'.cell (p := ⟨w.heap.size, 0, none⟩) hs7).trans HSH.out.1, (hb8'.cell (p := ⟨w.heap.size, 1, none⟩) hs7).trans HSH.out.2.1, (hb8'.cell (p := ⟨w.heap.size, 2, none⟩) hs7).trans HSH.out.2.2.1,
      (hb8'.cell (p := ⟨w5.heap.size, 0, none⟩) hlt5).trans HSH.out.2.2.2.1, (hb8'.cell (p := ⟨w5.heap.size, 1, none⟩) hlt5).trans HSH.out.2.2.2.2.1, (hb8'.cell (p := ⟨w5.heap.size, 2, none⟩) hlt5).trans HSH.out.2.2.2.2.2⟩ :
      w8.cell? ⟨w.heap.size, 0, none⟩ = some (.int .i64 p.n) ∧ w8.cell? ⟨w.heap.size, 1, none⟩ = some (.slice A1 p.s.length c1) ∧ w8.cell? ⟨w.heap.size, 2, none⟩ = some (.slice A2 p.o.length c2) ∧
        w8.cell? ⟨w5.heap.size, 0, none⟩ = some (.int .i64 p.n) ∧ w8.cell? ⟨w5.heap.size, 1, none⟩ = some (.slice C1 p.s.length e1) ∧ w8.cell? ⟨w5.heap.size, 2, none⟩ = some (.slice C2 p.o.length e2))
    have HS8H := Lib.hid HS8
    have HO8 := Lib.hid hown8
    have HO78 := Lib.hid (HO7.out.below hb8')
    have HB8 := Lib.hid (HB7.out.trans (hb8'.mono (by omega)))
    clear HS8 hown8 hb8 hb8'
    go_simp
    refine hK _ _ HS8H.out ?_
    clear hK K
    (refine T_hv rfl (by kernel_rfl) (fun K hK => ?_); go_simp)
    go_at_call 27
    have hE := eqPlan_any w8.heap.size w8.heap.size C1 C2 D1 D2 e1 e2 f1 f2 p p w8 (by omega) (by omega) (by omega) (by omega) (Nat.le_refl _) (Nat.le_refl _) HO78.out.rd HO8.out.rd
    rw [eqP_refl] at hE
    refine hE.mono ?_
    rintro e w9 ⟨rfl, hb9⟩
    clear hE
    (go_simp; refine hK _ _ ?_; clear hK K)
    (repeat (first | (refine T_lp rfl (fun K hK => ?_); go_simp; refine hK _ ?_; clear hK K) | (refine T_ls rfl rfl (fun K hK => ?_); go_simp; refine hK _ ?_; clear hK K)))
    refine T_done ?_
    go_wp2
    go_ret
    exact ⟨rfl, HB8.out.trans (hb9.mono (by have := HB8.out.size; omega))⟩
--fi
set_option maxRecDepth 100000 in
theorem widthOf_lifted (os : Os) (started : os.Started) (H : Type) (enc : TypeId × Value → H) :
    ReturnsInHanded {} Try.checked os 5 .any (Rows.fnExactWidthOfSpec.pre6 enc Try.prog Try.f5 Rows.fnExactWidthOfRow.domain false) (Rows.fnExactWidthOfSpec.post enc Try.prog Try.f5 false true false false) := by
  refine returnsInHanded_of_change (C := Try.checked) own started (by kernel_rfl) Try.func5
    (ChangeSpec.witness6 (enc := enc) (C := Try.checked) false ⟨#[], #[.agg #[.int .i64 0, .slice none 0 0, .slice none 0 0]], []⟩ 8 (by kernel_rfl) (by kernel_rfl) (by kernel_rfl) (by kernel_rfl)) ?_
  intro W base args ds gs before hval0 hW _ _
  have hval : ∀ (j : Nat) t v, Try.f5.params[j]? = some t → args[j]? = some v → Value.okWide Try.prog W .any base t v := hval0
  have hW' := hW
  obtain ⟨p, q, hA0, hV, rfl, hfz, hnd⟩ := hW
  have hA : DataW.TrodAll enc Try.prog W 0 (fun _ => true) true Try.f5.params.toList args.toList ds p := hA0
  rw [Try.params5] at hA hval
  obtain ⟨v0, d0, rfl, rfl, h0⟩ := trodAll_one hA
  obtain ⟨rfl, rfl⟩ := trodVars_none hV
  have hv0 := hval 0 38 v0 rfl rfl
  obtain ⟨A1, A2, c1, c2, pl, hv, l1, l2, hrd⟩ := open_plan hv0 h0
  have h0k := h0
  subst hv
  clear hA0 hval0
  simp only [List.append_nil] at hW'
  refine (lawWidthOf A1 A2 c1 c2 pl W l1 l2 hrd).mono fun e W' ⟨he, hb⟩ => ?_
  subst he
  have hlt : ∀ x ∈ p, x.block < W.heap.size := fun x hx => by simpa using hW'.lt x hx
  refine ⟨_, rfl, _, _, _, [], p, [], hW', trodAll_mk1 (shut_bool Try.underlying4 _), ?_, rfl, hb.frame _, fun h => by cases h⟩
  exact trodAll_mk1 (Below.trod laidOut (by kernel_rfl) (of_decide_eq_true (by kernel_rfl)) h0k hb hlt)

theorem widthOf_holds : Rows.FnExactWidthOfSaid :=
  OpenClaim.holds_of_wide 5 Try.f5 rfl rfl rfl rfl rfl rfl rfl ⟨rfl, rfl, rfl, rfl, rfl⟩ rfl rfl rfl rfl rfl (by kernel_rfl) Try.func5 (by kernel_rfl)
    (of_decide_eq_true (by kernel_rfl)) (by unfold Func.isWrapper; rw [if_neg (of_decide_eq_false (by kernel_rfl))]; exact ⟨rfl, rfl⟩)
    (fun os started H enc _ => widthOf_lifted os started H enc)
end Go.Proofs.Ytbbjgcagkmlngab
