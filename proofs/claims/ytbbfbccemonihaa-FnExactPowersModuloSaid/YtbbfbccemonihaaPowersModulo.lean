/- The law FnExactPowersModulo holds: for every argument, valid or not, PowersModulo of the program answers as PowersModulo of the model, writes into no argument, and its answer owns its memory. No condition. -/
import Derived.Test.YtbbfbccemonihaaGa6
import Derived.Test.YtbbfbccemonihaaOp
import Derived.Test.YtbbfbccemonihaaMoi
namespace Go.Proofs.Ytbbfbccemonihaa
open Go.ChangeShapes Go.WideShapes Go.ChangeAt Go.RowKit Go.Deep Go.Joins

set_option maxRecDepth 100000 in
set_option maxHeartbeats 8000000 in
theorem lawPowersModulo (A0 : Option Addr) (c0 : Nat) (l0 : List Int) (x1 : Int) (A2 : Option Addr) (c2 : Nat) (l2 : List Int) (w : World) (hn0 : l0.length ≤ 9223372036854775807) (hr0 : Rd w w.heap.size 1 A0 l0.length (l0.map I)) (hn2 : l2.length ≤ 9223372036854775807) (hr2 : Rd w w.heap.size 1 A2 l2.length (l2.map I)) :
    Calls Try.prog 4 #[.slice A0 l0.length c0, .int .i64 x1, .slice A2 l2.length c2] w fun e w' => e = .returned (.bool true) ∧ Below w.heap.size w w' := by
  have H0 := Lib.hid hr0
  clear hr0
  have H2 := Lib.hid hr2
  clear hr2
  by_cases hbig0 : 1048576 < l0.length
  · have ibig : (1048576 : Int) < (l0.length : Int) := by omega
    go_enter Try.func4, Try.ntmps4
    go_wp2
    go_ret
    exact ⟨rfl, Below.refl _ _⟩
  have hl0 : l0.length ≤ 1048576 := by omega
  have il0 : ¬ (1048576 : Int) < (l0.length : Int) := by omega
  clear hbig0
  by_cases hbig2 : 1048576 < l2.length
  · have ibig : (1048576 : Int) < (l2.length : Int) := by omega
    go_enter Try.func4, Try.ntmps4
    go_wp2
    go_ret
    exact ⟨rfl, Below.refl _ _⟩
  have hl2 : l2.length ≤ 1048576 := by omega
  have il2 : ¬ (1048576 : Int) < (l2.length : Int) := by omega
  clear hbig2
  go_enter Try.func4, Try.ntmps4
  obtain ⟨U0, hU0⟩ : ∃ gx, pmV x1 l0 l2 = gx := ⟨_, rfl⟩
  obtain ⟨U1, hU1⟩ : ∃ gx, pmG x1 l0 l2 = gx := ⟨_, rfl⟩
  have hspec := fun (W : World) A0' c0' A2' c2' => specPowers_any (World.heap W).size A0' c0' l0 x1 A2' c2' l2 W (Nat.le_refl _) hl0 hl2
  have himpl := fun (W : World) A0' c0' A2' c2' => implPowers_any (World.heap W).size A0' c0' l0 x1 A2' c2' l2 W (Nat.le_refl _) hl0 hl2
  rw [hU0, hU1] at hspec himpl
  have HSPEC := Lib.hid hspec
  have HIMPL := Lib.hid himpl
  clear hU0 hU1 hspec himpl
  go_wp2_with fail
  go_at_call 18
  refine (toIntS_any w.heap.size A0 c0 l0 w hl0 (by omega) H0.out).mono ?_
  rintro e w1 ⟨sA0, sc0, rfl, hown, hbel⟩
  have Os0' := Lib.hid hown
  clear hown
  have hsw1 : w.heap.size ≤ w1.heap.size := hbel.size
  have HB := Lib.hid hbel
  clear hbel
  have Os0 := Lib.hid (show OwI w1 w.heap.size (.slice sA0 l0.length sc0) l0 from Os0'.out)
  have Us0 := Lib.hid (show ∀ k, (Value.slice sA0 l0.length sc0).ownBlock = some k → k < w1.heap.size from fun k hk => (own_block Os0.out k hk).2)
  clear Os0'
  go_wp2_with fail
  go_at_call 18
  refine (toIntS_any w.heap.size A2 c2 l2 w1 hl2 (by omega) (H2.out.below HB.out)).mono ?_
  rintro e w2 ⟨sA2, sc2, rfl, hown, hbel⟩
  have Os2' := Lib.hid hown
  clear hown
  have hsw2 : w1.heap.size ≤ w2.heap.size := hbel.size
  have HB := Lib.hid (HB.out.trans (hbel.mono (by omega)))
  have Os0 := Lib.hid (show OwI w2 w.heap.size (.slice sA0 l0.length sc0) l0 from OwI.below Os0.out hbel)
  clear hbel
  have Os2 := Lib.hid (show OwI w2 w1.heap.size (.slice sA2 l2.length sc2) l2 from Os2'.out)
  have Us2 := Lib.hid (show ∀ k, (Value.slice sA2 l2.length sc2).ownBlock = some k → k < w2.heap.size from fun k hk => (own_block Os2.out k hk).2)
  clear Os2'
  go_wp2_with fail
  go_at_call 25
  refine (HSPEC.out w2 sA0 sc0 sA2 sc2 (Os0.out).cap (Os2.out).cap (Os0.out).rd (Os2.out).rd).mono ?_
  rintro e w3 ⟨rfl, hbel⟩
  have hsw3 : w2.heap.size ≤ w3.heap.size := hbel.size
  have HB := Lib.hid (HB.out.trans (hbel.mono (by omega)))
  have Os0 := Lib.hid (show OwI w3 w.heap.size (.slice sA0 l0.length sc0) l0 from OwI.below Os0.out hbel)
  have Os2 := Lib.hid (show OwI w3 w1.heap.size (.slice sA2 l2.length sc2) l2 from OwI.below Os2.out hbel)
  clear hbel
  go_wp2_with fail
  go_at_call 18
  refine (toIntS_any w.heap.size A0 c0 l0 w3 hl0 (by omega) (H0.out.below HB.out)).mono ?_
  rintro e w4 ⟨xA0, xc0, rfl, hown, hbel⟩
  have Ox0' := Lib.hid hown
  clear hown
  have hsw4 : w3.heap.size ≤ w4.heap.size := hbel.size
  have HB := Lib.hid (HB.out.trans (hbel.mono (by omega)))
  clear hbel
  have Ox0 := Lib.hid (show OwI w4 w3.heap.size (.slice xA0 l0.length xc0) l0 from Ox0'.out)
  have Ux0 := Lib.hid (show ∀ k, (Value.slice xA0 l0.length xc0).ownBlock = some k → k < w4.heap.size from fun k hk => (own_block Ox0.out k hk).2)
  clear Ox0'
  go_wp2_with fail
  go_at_call 18
  refine (toIntS_any w.heap.size A2 c2 l2 w4 hl2 (by omega) (H2.out.below HB.out)).mono ?_
  rintro e w5 ⟨xA2, xc2, rfl, hown, hbel⟩
  have Ox2' := Lib.hid hown
  clear hown
  have hsw5 : w4.heap.size ≤ w5.heap.size := hbel.size
  have HB := Lib.hid (HB.out.trans (hbel.mono (by omega)))
  have Ox0 := Lib.hid (show OwI w5 w3.heap.size (.slice xA0 l0.length xc0) l0 from OwI.below Ox0.out hbel)
  clear hbel
  have Ox2 := Lib.hid (show OwI w5 w4.heap.size (.slice xA2 l2.length xc2) l2 from Ox2'.out)
  have Ux2 := Lib.hid (show ∀ k, (Value.slice xA2 l2.length xc2).ownBlock = some k → k < w5.heap.size from fun k hk => (own_block Ox2.out k hk).2)
  clear Ox2'
  go_wp2_with fail
  go_at_call 26
  refine (HIMPL.out w5 xA0 xc0 xA2 xc2 (Ox0.out).cap (Ox2.out).cap (Ox0.out).rd (Ox2.out).rd).mono ?_
  rintro e w6 ⟨rfl, hbel⟩
  have hsw6 : w5.heap.size ≤ w6.heap.size := hbel.size
  have HB := Lib.hid (HB.out.trans (hbel.mono (by omega)))
  have Ox0 := Lib.hid (show OwI w6 w3.heap.size (.slice xA0 l0.length xc0) l0 from OwI.below Ox0.out hbel)
  have Ox2 := Lib.hid (show OwI w6 w4.heap.size (.slice xA2 l2.length xc2) l2 from OwI.below Ox2.out hbel)
  clear hbel
  go_wp2_with fail
  go_at_call 18
  refine (toIntS_any w.heap.size A0 c0 l0 w6 hl0 (by omega) (H0.out.below HB.out)).mono ?_
  rintro e w7 ⟨yA0, yc0, rfl, hown, hbel⟩
  have Oy0' := Lib.hid hown
  clear hown
  have hsw7 : w6.heap.size ≤ w7.heap.size := hbel.size
  have HB := Lib.hid (HB.out.trans (hbel.mono (by omega)))
  have Ox0 := Lib.hid (show OwI w7 w3.heap.size (.slice xA0 l0.length xc0) l0 from OwI.below Ox0.out hbel)
  have Ox2 := Lib.hid (show OwI w7 w4.heap.size (.slice xA2 l2.length xc2) l2 from OwI.below Ox2.out hbel)
  clear hbel
  have Oy0 := Lib.hid (show OwI w7 w6.heap.size (.slice yA0 l0.length yc0) l0 from Oy0'.out)
  have Uy0 := Lib.hid (show ∀ k, (Value.slice yA0 l0.length yc0).ownBlock = some k → k < w7.heap.size from fun k hk => (own_block Oy0.out k hk).2)
  clear Oy0'
  go_wp2_with fail
  go_at_call 20
  have hE := eqIntS_any w7.heap.size w7.heap.size xA0 yA0 xc0 yc0 l0 l0 w7 (by omega) (by omega) (Ox0.out).rd (Oy0.out).rd
  rw [eqI_refl] at hE
  refine hE.mono ?_
  rintro e w8 ⟨rfl, hdr⟩
  clear hE
  have hbel := hdr.below w7.heap.size
  clear hdr
  have hsw8 : w7.heap.size ≤ w8.heap.size := hbel.size
  have HB := Lib.hid (HB.out.trans (hbel.mono (by omega)))
  have Ox0 := Lib.hid (show OwI w8 w3.heap.size (.slice xA0 l0.length xc0) l0 from OwI.below Ox0.out hbel)
  have Ox2 := Lib.hid (show OwI w8 w4.heap.size (.slice xA2 l2.length xc2) l2 from OwI.below Ox2.out hbel)
  have Oy0 := Lib.hid (show OwI w8 w6.heap.size (.slice yA0 l0.length yc0) l0 from OwI.below Oy0.out hbel)
  clear hbel
  go_wp2_with fail
  go_at_call 18
  refine (toIntS_any w.heap.size A2 c2 l2 w8 hl2 (by omega) (H2.out.below HB.out)).mono ?_
  rintro e w9 ⟨yA2, yc2, rfl, hown, hbel⟩
  have Oy2' := Lib.hid hown
  clear hown
  have hsw9 : w8.heap.size ≤ w9.heap.size := hbel.size
  have HB := Lib.hid (HB.out.trans (hbel.mono (by omega)))
  have Ox0 := Lib.hid (show OwI w9 w3.heap.size (.slice xA0 l0.length xc0) l0 from OwI.below Ox0.out hbel)
  have Ox2 := Lib.hid (show OwI w9 w4.heap.size (.slice xA2 l2.length xc2) l2 from OwI.below Ox2.out hbel)
  clear hbel
  have Oy2 := Lib.hid (show OwI w9 w8.heap.size (.slice yA2 l2.length yc2) l2 from Oy2'.out)
  have Uy2 := Lib.hid (show ∀ k, (Value.slice yA2 l2.length yc2).ownBlock = some k → k < w9.heap.size from fun k hk => (own_block Oy2.out k hk).2)
  clear Oy2'
  go_wp2_with fail
  go_at_call 20
  have hE := eqIntS_any w9.heap.size w9.heap.size xA2 yA2 xc2 yc2 l2 l2 w9 (by omega) (by omega) (Ox2.out).rd (Oy2.out).rd
  rw [eqI_refl] at hE
  refine hE.mono ?_
  rintro e w10 ⟨rfl, hdr⟩
  clear hE
  have hbel := hdr.below w9.heap.size
  clear hdr
  have hsw10 : w9.heap.size ≤ w10.heap.size := hbel.size
  have HB := Lib.hid (HB.out.trans (hbel.mono (by omega)))
  have Ox0 := Lib.hid (show OwI w10 w3.heap.size (.slice xA0 l0.length xc0) l0 from OwI.below Ox0.out hbel)
  have Ox2 := Lib.hid (show OwI w10 w4.heap.size (.slice xA2 l2.length xc2) l2 from OwI.below Ox2.out hbel)
  have Oy2 := Lib.hid (show OwI w10 w8.heap.size (.slice yA2 l2.length yc2) l2 from OwI.below Oy2.out hbel)
  clear hbel
  go_wp2
  go_ret
  exact ⟨rfl, HB.out⟩

set_option maxRecDepth 100000 in
theorem powersModulo_lifted (os : Os) (started : os.Started) (H : Type) (enc : TypeId × Value → H) :
    ReturnsInHanded {} Try.checked os 4 .any (Rows.fnExactPowersModuloSpec.pre6 enc Try.prog Try.f4 Rows.fnExactPowersModuloRow.domain false) (Rows.fnExactPowersModuloSpec.post enc Try.prog Try.f4 false true false false) := by
  refine returnsInHanded_of_change (C := Try.checked) own started (by kernel_rfl) Try.func4
    (ChangeSpec.witness6 (enc := enc) (C := Try.checked) false ⟨#[], #[.slice none 0 0, .int .i64 0, .slice none 0 0], []⟩ 8 (by kernel_rfl) (by kernel_rfl) (by kernel_rfl) (by kernel_rfl)) ?_
  intro W base args ds gs before hval0 hW _ _
  have hval : ∀ (j : Nat) t v, Try.f4.params[j]? = some t → args[j]? = some v → Value.okWide Try.prog W .any base t v := hval0
  have hW' := hW
  obtain ⟨p, q, hA0, hV, rfl, hfz, hnd⟩ := hW
  have hA : DataW.TrodAll enc Try.prog W 0 (fun _ => true) true Try.f4.params.toList args.toList ds p := hA0
  rw [Try.params4] at hA hval
  obtain ⟨v0, v1, v2, d0, d1, d2, pp0, pp1, pp2, rfl, rfl, hps, h0, h1, h2⟩ := trodAll_three hA
  rw [List.append_assoc] at hps
  subst hps
  obtain ⟨rfl, rfl⟩ := trodVars_none hV
  have h0k := h0
  have h1k := h1
  have h2k := h2
  obtain ⟨A0, c0, l0, hx0, ln0, hrd0⟩ := open_list (hval 0 23 v0 rfl rfl) h0
  obtain ⟨x1, hx1, _, _, _⟩ := open_int Try.underlying3 (hval 1 3 v1 rfl rfl) h1
  obtain ⟨A2, c2, l2, hx2, ln2, hrd2⟩ := open_list (hval 2 23 v2 rfl rfl) h2
  subst hx0
  subst hx1
  subst hx2
  clear hA0 hval0
  simp only [List.append_nil] at hW'
  refine (lawPowersModulo A0 c0 l0 x1 A2 c2 l2 W ln0 hrd0 ln2 hrd2).mono fun e W' ⟨he, hb⟩ => ?_
  subst he
  have hlt : ∀ x ∈ pp0 ++ (pp1 ++ pp2), x.block < W.heap.size := fun x hx => by simpa using hW'.lt x hx
  refine ⟨_, rfl, _, _, _, [], pp0 ++ (pp1 ++ pp2), [], hW', trodAll_mk1 (shut_bool Try.underlying4 _), ?_, rfl, hb.frame _, fun h => by cases h⟩
  exact trodAll_mk3 (Below.trod laidOut (by kernel_rfl) (of_decide_eq_true (by kernel_rfl)) h0k hb fun x hx => hlt x (List.mem_append_left _ hx)) (Below.trod laidOut (by kernel_rfl) (of_decide_eq_true (by kernel_rfl)) h1k hb fun x hx => hlt x (List.mem_append_right _ (List.mem_append_left _ hx))) (Below.trod laidOut (by kernel_rfl) (of_decide_eq_true (by kernel_rfl)) h2k hb fun x hx => hlt x (List.mem_append_right _ (List.mem_append_right _ hx)))

theorem powersModulo_holds : Rows.FnExactPowersModuloSaid :=
  OpenClaim.holds_of_wide 4 Try.f4 rfl rfl rfl rfl rfl rfl rfl ⟨rfl, rfl, rfl, rfl, rfl⟩ rfl rfl rfl rfl rfl (by kernel_rfl) Try.func4 (by kernel_rfl)
    (of_decide_eq_true (by kernel_rfl)) (by unfold Func.isWrapper; rw [if_neg (of_decide_eq_false (by kernel_rfl))]; exact ⟨rfl, rfl⟩)
    (fun os started H enc _ => powersModulo_lifted os started H enc)
end Go.Proofs.Ytbbfbccemonihaa
