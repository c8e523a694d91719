/- The law FnExactDoCommute holds: for every argument, valid or not, DoCommute of the program answers as DoCommute of the model, and writes into no argument. No condition. -/
import Derived.Test.YtbbfbccemonihaaRwe
namespace Go.Proofs.Ytbbfbccemonihaa
open Go.ChangeShapes Go.WideShapes Go.ChangeAt Go.RowKit Go.Deep Go.Joins

set_option maxRecDepth 100000 in
set_option maxHeartbeats 4000000 in
theorem lawDoCommute (A0 : Option Addr) (c0 : Nat) (f0 : Nat → Option Addr × Nat) (r : Rws) (w : World) (hn0 : r.length ≤ 9223372036854775807) (hq0 : ∀ i, (r.getD i []).length ≤ 9223372036854775807) (hr0 : RdW w w.heap.size A0 f0 r) :
    Calls Try.prog 13 #[.slice A0 r.length c0] w fun e w' => e = .returned (.bool true) ∧ Below w.heap.size w w' := by
  have H0 := Lib.hid hr0
  obtain ⟨sz, hsz⟩ : ∃ x, szK r 1048576 r.length = x := ⟨_, rfl⟩
  have SZ := Lib.hid (show Calls Try.prog 50 #[.slice A0 r.length c0, .int .i64 1048576] w fun e w' => e = .returned (.int .i64 sz) ∧ w = w' by
    have h := szIntSS_any w.heap.size A0 c0 f0 r 1048576 w (by omega) (by omega) hn0 hq0 hr0
    rw [hsz] at h
    exact h)
  have SX := Lib.hid hsz
  clear hr0 hsz
  by_cases hneg : sz < 0
  · go_enter Try.func13, Try.ntmps13
    go_wp2_with fail
    go_at_call 50
    refine SZ.out.mono ?_
    rintro e w1 ⟨rfl, rfl⟩
    go_wp2
    go_ret
    exact ⟨rfl, Below.refl _ _⟩
  obtain ⟨hR, hrow⟩ := szK_ok (r := r) (left := 1048576) (by omega) (by rw [SX.out]; exact hneg)
  obtain ⟨g1, hg1⟩ : ∃ x, dcB r = x := ⟨_, rfl⟩
  obtain ⟨g2, hg2⟩ : ∃ x, alG r = x := ⟨_, rfl⟩
  have hspec := fun (W : World) A f c h => specDC_any W.heap.size A c f r W (Nat.le_refl _) hR hrow h
  have himpl := fun (W : World) A f c hc h => implDC_any W.heap.size A c f r W (Nat.le_refl _) hR hrow hc h
  rw [hg1, hg2] at hspec himpl
  have HSPEC := Lib.hid hspec
  have HIMPL := Lib.hid himpl
  have HTO := Lib.hid (fun (W : World) (hW : w.heap.size ≤ W.heap.size) (hb : Below w.heap.size w W) => toIntSS_any w.heap.size A0 c0 f0 r W hR hrow hW (H0.out.below hb))
  have HEQ := Lib.hid (fun (W : World) (B B' : Nat) A A' c c' f f' h h' => eqIntSSr_any B B' A A' c c' f f' r W hR hrow h h')
  clear hg1 hg2 hspec himpl hrow
  go_enter Try.func13, Try.ntmps13
  go_wp2_with fail
  go_at_call 50
  refine SZ.out.mono ?_
  rintro e w1 ⟨rfl, rfl⟩
  go_wp2_with fail
  go_at_call 52
  refine (HTO.out w (Nat.le_refl _) (Below.refl _ _)).mono ?_
  rintro e w1 ⟨sA, sc, sf, rfl, hown, hbel⟩
  have B1 := Lib.hid hbel
  have hs1 := hbel.size
  have OS := Lib.hid hown
  clear hown hbel
  go_wp2_with fail
  go_at_call 51
  refine (HSPEC.out w1 sA sf sc OS.out.rd).mono ?_
  rintro e w2 ⟨rfl, hbel⟩
  have B2 := Lib.hid (B1.out.trans (hbel.mono hs1))
  have hs2 := hbel.size
  clear hbel
  go_wp2_with fail
  go_at_call 52
  refine (HTO.out w2 (by omega) B2.out).mono ?_
  rintro e w3 ⟨xA, xc, xf, rfl, hown, hbel⟩
  have B3 := Lib.hid (B2.out.trans (hbel.mono (by omega)))
  have hs3 := hbel.size
  have OX := Lib.hid hown
  clear hown hbel
  go_wp2_with fail
  go_at_call 53
  refine (HIMPL.out w3 xA xf xc OX.out.cap OX.out.rd).mono ?_
  rintro e w4 ⟨rfl, hbel⟩
  have B4 := Lib.hid (B3.out.trans (hbel.mono (by omega)))
  have hs4 := hbel.size
  have OX4 := Lib.hid (OX.out.below hbel)
  clear hbel OX
  go_wp2_with fail
  go_at_call 52
  refine (HTO.out w4 (by omega) B4.out).mono ?_
  rintro e w5 ⟨yA, yc, yf, rfl, hown, hbel⟩
  have B5 := Lib.hid (B4.out.trans (hbel.mono (by omega)))
  have hs5 := hbel.size
  have OX5 := Lib.hid (OX4.out.below hbel)
  have OY := Lib.hid hown
  clear hown hbel OX4
  go_wp2_with fail
  go_at_call 54
  refine (HEQ.out w5 _ _ xA yA xc yc xf yf OX5.out.rd OY.out.rd).mono ?_
  rintro e w6 ⟨rfl, hd⟩
  have B6 := Lib.hid (B5.out.trans ((hd.below w5.heap.size).mono (by omega)))
  clear hd
  go_wp2
  go_ret
  exact ⟨rfl, B6.out⟩

set_option maxRecDepth 100000 in
theorem doCommute_lifted (os : Os) (started : os.Started) (H : Type) (enc : TypeId × Value → H) :
    ReturnsInHanded {} Try.checked os 13 .any (Rows.fnExactDoCommuteSpec.pre6 enc Try.prog Try.f13 Rows.fnExactDoCommuteRow.domain false) (Rows.fnExactDoCommuteSpec.post enc Try.prog Try.f13 false true false false) := by
  refine returnsInHanded_of_change (C := Try.checked) own started (by kernel_rfl) Try.func13
    (ChangeSpec.witness6 (enc := enc) (C := Try.checked) false ⟨#[], #[.slice none 0 0], []⟩ 8 (by kernel_rfl) (by kernel_rfl) (by kernel_rfl) (by kernel_rfl)) ?_
  intro W base args ds gs before hval0 hW _ _
  have hval : ∀ (j : Nat) t v, Try.f13.params[j]? = some t → args[j]? = some v → Value.okWide Try.prog W .any base t v := hval0
  have hW' := hW
  obtain ⟨p, q, hA0, hV, rfl, hfz, hnd⟩ := hW
  have hA : DataW.TrodAll enc Try.prog W 0 (fun _ => true) true Try.f13.params.toList args.toList ds p := hA0
  rw [Try.params13] at hA hval
  obtain ⟨v0, d0, rfl, rfl, h0⟩ := trodAll_one hA
  obtain ⟨rfl, rfl⟩ := trodVars_none hV
  have h0k := h0
  obtain ⟨A0, c0, f0, r0, hx0, ln0, lr0, hrd0⟩ := open_rows (hval 0 68 v0 rfl rfl) h0
  subst hx0
  clear hA0 hval0
  simp only [List.append_nil] at hW'
  refine (lawDoCommute A0 c0 f0 r0 W ln0 lr0 hrd0).mono fun e W' ⟨he, hb⟩ => ?_
  subst he
  have hlt : ∀ x ∈ p, x.block < W.heap.size := fun x hx => by simpa using hW'.lt x hx
  refine ⟨_, rfl, _, _, _, [], p, [], hW', trodAll_mk1 (shut_bool Try.underlying4 _), ?_, rfl, hb.frame _, fun h => by cases h⟩
  exact trodAll_mk1 (Below.trod laidOut (by kernel_rfl) (of_decide_eq_true (by kernel_rfl)) h0k hb hlt)

theorem doCommute_holds : Rows.FnExactDoCommuteSaid :=
  OpenClaim.holds_of_wide 13 Try.f13 rfl rfl rfl rfl rfl rfl rfl ⟨rfl, rfl, rfl, rfl, rfl⟩ rfl rfl rfl rfl rfl (by kernel_rfl) Try.func13 (by kernel_rfl)
    (of_decide_eq_true (by kernel_rfl)) (by unfold Func.isWrapper; rw [if_neg (of_decide_eq_false (by kernel_rfl))]; exact ⟨rfl, rfl⟩)
    (fun os started H enc _ => doCommute_lifted os started H enc)
end Go.Proofs.Ytbbfbccemonihaa
