/- The law FnExactAllShortest holds: for every argument, valid or not, AllShortest of the program answers as AllShortest of the model, writes into no argument, and its answer owns its memory. No condition. -/
import Derived.Test.YtppahohakiidmaaOp
import Derived.Test.YtppahohakiidmaaQl
import Derived.Test.YtppahohakiidmaaOa
import Derived.Test.YtppahohakiidmaaMl
import Derived.Test.YtppahohakiidmaaHo
namespace Go.Proofs.Ytppahohakiidmaa
open Go.ChangeShapes Go.WideShapes Go.ChangeAt Go.RowKit Go.Deep Go.Joins

theorem lenA_le (n : Nat) : ∀ f k, lenA n f k ≤ k + f := by
  intro f
  induction f with
  | zero => intro k; exact Nat.le_refl _
  | succ f ih =>
    intro k
    unfold lenA
    split
    · have := ih (k + 1); omega
    · omega
theorem alN_le (x : Int) : alN x ≤ 1000 := by
  unfold alN lenN
  have := lenA_le x.toNat 9 0
  omega
theorem alV_le (x : Int) : (alV x).length ≤ 1000 := by
  unfold alV
  split
  · have : (shorts x.toNat 201).length ≤ 201 := firsts_len
    omega
  · simp

set_option maxRecDepth 100000 in
set_option maxHeartbeats 4000000 in
theorem lawAllShortest  (x : Int) (w : World)   :
    Calls Try.prog 9 #[.int .i64 x] w fun e w' => e = .returned (.bool true) ∧ Below w.heap.size w w' := by
  obtain ⟨N, hN⟩ : ∃ N, alN x = N := ⟨_, rfl⟩
  obtain ⟨R, hRR⟩ : ∃ R, (alV x).length = R := ⟨_, rfl⟩
  have hNl : N ≤ 1000 := by rw [← hN]; exact alN_le x
  have hRl : R ≤ 1000 := by rw [← hRR]; exact alV_le x
  have hNR0 : (0 : Int) ≤ (R : Int) * (N : Int) := by
    have h2 : ((R * N : Nat) : Int) = (R : Int) * (N : Int) := by push_cast; rfl
    rw [← h2]
    omega
  obtain ⟨gd, hgd⟩ : ∃ gx, alG x = gx := ⟨_, rfl⟩
  have hspec := fun W => specAll_any x W
  have himpl := fun W => implAll_any x W
  obtain ⟨r, hr⟩ : ∃ r : Nat → List Int, (fun i => cs ((alV x).getD i [])) = r := ⟨_, rfl⟩
  simp only [hN, hRR, hgd, hr] at hspec himpl
  have HSPEC := Lib.hid hspec
  have HIMPL := Lib.hid himpl
  have hk1 : ¬ (1 + (R : Int) * (N : Int) < 0) := by omega
  clear hN hRR hgd hr hspec himpl
  go_enter Try.func9, Try.ntmps9
  go_wp2_with fail
  go_at_call 31
  refine (HSPEC.out w).mono ?_
  rintro e w1 ⟨A0, c0, f0, rfl, hres, hbel⟩
  have hsw1 : w.heap.size ≤ w1.heap.size := hbel.size
  have HBw1 := Lib.hid hbel
  have RES := Lib.hid hres
  clear hres hbel
  go_wp2_with fail
  go_at_call 32
  refine (HIMPL.out w1).mono ?_
  rintro e w2 ⟨AG, cg, fg, rfl, hres, hfar, hbel⟩
  have hsw2 : w1.heap.size ≤ w2.heap.size := hbel.size
  have Dw2 := Lib.hid hbel
  have HBw2 := Lib.hid (HBw1.out.trans (Dw2.out.mono (by omega)))
  have HG := Lib.hid hres
  have FAR := Lib.hid hfar
  clear hres hbel hfar
  go_wp2_with fail
  go_at_call 33
  have hE := eqIntSS_any _ _ AG A0 cg c0 N R fg f0 r w2 hNl hRl HG.out (RES.out.below Dw2.out)
  refine hE.mono ?_
  rintro e w3 ⟨rfl, ⟨nd0, rfl⟩⟩
  clear hE
  go_wp2_with fail
  go_at_call 34
  refine (markIntSS_any w1.heap.size AG cg N R fg r 1 (w2.drewN nd0) hNl hRl (by omega) (by omega) (by simp; omega) FAR.out (OwL.drewN HG.out nd0)).mono ?_
  rintro e w5 ⟨rfl, hm, hb'⟩
  have hb : Below w1.heap.size w2 w5 := (bDrewN (Below.refl _ w2) nd0).trans hb'
  have hsw5 := hb.size
  have HM := Lib.hid hm
  have HBw5 := Lib.hid (HBw2.out.trans (hb.mono (by omega)))
  have HBS := Lib.hid (show Below w1.heap.size w1 w5 from Dw2.out.trans hb)
  clear hm hb' hb
  go_wp2_with fail
  go_at_call 35
  refine (heldIntSS_any _ AG cg N R fg r 1 w5 hNl hRl (by omega) (by omega) HM.out).mono ?_
  rintro e w900 ⟨rfl, rfl⟩
  go_wp2_with fail
  go_at_call 32
  refine (HIMPL.out w5).mono ?_
  rintro e w6 ⟨AH, ch, fh, rfl, hres, _, hbel⟩
  have hsw6 : w5.heap.size ≤ w6.heap.size := hbel.size
  have Dw6 := Lib.hid hbel
  have HBw6 := Lib.hid (HBw5.out.trans (Dw6.out.mono (by omega)))
  have HH := Lib.hid hres
  clear hres hbel
  go_wp2_with fail
  go_at_call 33
  have hE := eqIntSS_any _ _ AH A0 ch c0 N R fh f0 r w6 hNl hRl HH.out (RES.out.below (HBS.out.trans (Dw6.out.mono (by omega))))
  refine hE.mono ?_
  rintro e w7 ⟨rfl, ⟨nf, rfl⟩⟩
  clear hE
  go_wp2_with fail
  go_at_call 35
  refine (heldIntSS_any _ AG cg N R fg r 1 (w6.drewN nf) hNl hRl (by omega) (by omega) ((HM.out.below Dw6.out).drewN nf)).mono ?_
  rintro e w901 ⟨rfl, rfl⟩
  go_wp2
  go_ret
  exact ⟨rfl, bDrewN HBw6.out nf⟩

set_option maxRecDepth 100000 in
theorem allShortest_lifted (os : Os) (started : os.Started) (H : Type) (enc : TypeId × Value → H) :
    ReturnsInHanded {} Try.checked os 9 .any (Rows.fnExactAllShortestSpec.pre6 enc Try.prog Try.f9 Rows.fnExactAllShortestRow.domain false) (Rows.fnExactAllShortestSpec.post enc Try.prog Try.f9 false true false false) := by
  refine returnsInHanded_of_change (C := Try.checked) own started (by kernel_rfl) Try.func9
    (ChangeSpec.witness6 (enc := enc) (C := Try.checked) false ⟨#[], #[.int .i64 0], []⟩ 8 (by kernel_rfl) (by kernel_rfl) (by kernel_rfl) (by kernel_rfl)) ?_
  intro W base args ds gs before hval0 hW _ _
  have hval : ∀ (j : Nat) t v, Try.f9.params[j]? = some t → args[j]? = some v → Value.okWide Try.prog W .any base t v := hval0
  have hW' := hW
  obtain ⟨p, q, hA0, hV, rfl, hfz, hnd⟩ := hW
  have hA : DataW.TrodAll enc Try.prog W 0 (fun _ => true) true Try.f9.params.toList args.toList ds p := hA0
  rw [Try.params9] at hA hval
  obtain ⟨v0, d0, rfl, rfl, h0⟩ := trodAll_one hA
  obtain ⟨rfl, rfl⟩ := trodVars_none hV
  have h0k := h0
  obtain ⟨x, hx0, _, _, _⟩ := open_int Try.underlying3 (hval 0 3 v0 rfl rfl) h0
  subst hx0
  clear hA0 hval0
  simp only [List.append_nil] at hW'
  refine (lawAllShortest x W  ).mono fun e W' ⟨he, hb⟩ => ?_
  subst he
  have hlt : ∀ x ∈ p, x.block < W.heap.size := fun x hx => by simpa using hW'.lt x hx
  refine ⟨_, rfl, _, _, _, [], p, [], hW', trodAll_mk1 (shut_bool Try.underlying4 _), ?_, rfl, hb.frame _, fun h => by cases h⟩
  exact trodAll_mk1 (Below.trod laidOut (by kernel_rfl) (of_decide_eq_true (by kernel_rfl)) h0k hb hlt)

theorem allShortest_holds : Rows.FnExactAllShortestSaid :=
  OpenClaim.holds_of_wide 9 Try.f9 rfl rfl rfl rfl rfl rfl rfl ⟨rfl, rfl, rfl, rfl, rfl⟩ rfl rfl rfl rfl rfl (by kernel_rfl) Try.func9 (by kernel_rfl)
    (of_decide_eq_true (by kernel_rfl)) (by unfold Func.isWrapper; rw [if_neg (of_decide_eq_false (by kernel_rfl))]; exact ⟨rfl, rfl⟩)
    (fun os started H enc _ => allShortest_lifted os started H enc)
end Go.Proofs.Ytppahohakiidmaa
