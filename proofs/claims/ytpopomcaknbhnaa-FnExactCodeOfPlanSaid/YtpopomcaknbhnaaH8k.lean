/- The polynomials of a code by the model; IsCode and PolynomialOf of the model. -/
import Derived.Test.YtpopomcaknbhnaaH8i
namespace Go.Proofs.Ytpopomcaknbhnaa
open Go.RowKit

set_option maxRecDepth 100000 in
set_option maxHeartbeats 8000000 in
theorem poValues_any (B : Nat) (A : Option Addr) (c : Nat) (q : Cd) (w : World) (hB : B ≤ w.heap.size) (hl : q.ops.length ≤ 1048576) (hr : RdD w B A q) :
    Calls Try.prog 74 #[.agg #[.slice A q.ops.length c, .int .i64 q.out]] w fun e w' =>
      ∃ A' n c', e = .returned (.tuple #[.slice A' n c', .bool (cdB q)]) ∧ (cdB q = true → n = q.ops.length + 1 ∧ OwQ8 w' w.heap.size A' c' (pvs q.ops q.ops.length)) ∧ Below w.heap.size w w' := by
  have H := Lib.hid hr
  clear hr
  have bad : ∀ (w' : World), cdB q = false → Below w.heap.size w w' → ∃ A' n c', (Ending.returned (.tuple #[.slice none 0 0, .bool false])) = .returned (.tuple #[.slice A' n c', .bool (cdB q)]) ∧ (cdB q = true → n = q.ops.length + 1 ∧ OwQ8 w' w.heap.size A' c' (pvs q.ops q.ops.length)) ∧ Below w.heap.size w w' :=
    fun w' h hb => ⟨none, 0, 0, by rw [h], (fun h2 => by rw [h] at h2; cases h2), hb⟩
  have BAD := Lib.hid bad
  clear bad
  by_cases h1 : q.ops.length ≤ 120
  case neg =>
    have E := Lib.hid (show cdB q = false by unfold cdB; rw [decide_eq_false h1]; rfl)
    have i1 : (120 : Int) < (q.ops.length : Int) := by omega
    clear h1
    go_enter Try.func74, Try.ntmps74
    go_wp2
    go_ret2
    exact BAD.out _ E.out (((Below.refl _ _).alloc (Nat.le_refl _) _).alloc (by simp) _ |>.alloc (by simp; omega) _)
  have i1 : ¬ (120 : Int) < (q.ops.length : Int) := by omega
  have FIN := Lib.hid (show opsG q.ops q.ops.length = true → inB q.out 0 (q.ops.length : Int) = cdB q from fun h => by
    unfold cdB inV inB
    rw [h, decide_eq_true h1, Bool.eq_iff_iff]
    simp only [Bool.and_eq_true, decide_eq_true_eq, Bool.true_and, Bool.and_true]
    omega)
  go_enter Try.func74, Try.ntmps74
  go_wp2
  generalize hw1 : World.alloc (World.alloc (World.alloc w _) _) _ = w1
  have hb1 : Below w.heap.size w w1 := by rw [← hw1]; exact (((Below.refl _ _).alloc (Nat.le_refl _) _).alloc (by simp) _).alloc (by simp; omega) _
  have hown1 : OwW w1 (w.heap.size + 1) (some ⟨w.heap.size + 1 + 1, 0, none⟩) 1 (fun _ => (some ⟨w.heap.size + 1, 0, none⟩, 2)) [[0, 1]] := by
    rw [← hw1]
    have h := start_own (w := w.alloc (.cells #[.slice A q.ops.length c, .int .i64 q.out] 29))
    simpa using h
  have hq1 : w1.heap[w.heap.size]? = some (.cells #[.slice A q.ops.length c, .int .i64 q.out] 29 (0, 0)) := by
    rw [← hw1, Below.heap_alloc _ _ _ (by simp; omega), Below.heap_alloc _ _ _ (by simp)]; exact heap_alloc_new w _
  have hs1 : w1.heap.size = w.heap.size + 3 := by rw [← hw1]; simp
  clear hw1
  have OW1 := Lib.hid hown1
  have HB1 := Lib.hid hb1
  have Q1 := Lib.hid hq1
  clear hown1 hb1 hq1
  go_loopw [4, 18] (fun lv iv wr => ∃ (k : Nat) (A2 : Option Addr) (c2 : Nat) (f : Nat → Option Addr × Nat), k ≤ q.ops.length ∧ iv = .int .i64 (k : Int) ∧ lv = .slice A2 (k + 1) c2 ∧ Hid (opsG q.ops k = true) ∧ OwW wr (w.heap.size + 1) A2 c2 f (pvs q.ops k) ∧ Below (w.heap.size + 1) w1 wr) (fun _ i _ => q.ops.length - (intOf i).toNat)
  case atStart => exact ⟨0, _, _, _, by omega, rfl, rfl, Lib.hid rfl, OW1.out, Below.refl _ _⟩
  case round =>
    obtain ⟨k, A2, c2, f, hk, rfl, rfl, hgood, hown, hbel⟩ := hrel
    have hsz := hbel.size
    have hbw : Below w.heap.size w wr := HB1.out.trans (hbel.mono (by omega))
    by_cases hlt : k < q.ops.length
    · obtain ⟨g, off, rfl, hg, hc1, hc2, hc3⟩ := ((H.out.below' hbw hB).op hlt : ∃ b off, A = some ⟨b, off, none⟩ ∧ b < B ∧ _)
      have ik : (k : Int) < (q.ops.length : Int) := by omega
      have hgo : q.ops.getD k o0 = q.ops[k] := by simp [List.getD_eq_getElem?_getD, hlt]
      have hpl := pvs_len q.ops k
      have FT := Lib.hid (pvs_fit hgood.out)
      have NO := Lib.hid (fun h => cdB_bad hlt (opG_none (s := q.ops) (k := k) h))
      have NF := Lib.hid (fun h => cdB_bad hlt (opG_big (s := q.ops) (k := k) h))
      have NX := Lib.hid (fun h1 h2 => opsG_next (s := q.ops) (k := k) hgood.out h1 h2)
      have PN := Lib.hid (show pvs q.ops (k + 1) = pvs q.ops k ++ [opP (q.ops.getD k o0) (pvs q.ops k)] from rfl)
      rw [hgo] at NO NF NX PN
      obtain ⟨o, ho⟩ : ∃ o, q.ops[k] = o := ⟨_, rfl⟩
      rw [ho] at NO NF NX PN hc1 hc2 hc3
      obtain ⟨R, hR⟩ : ∃ R, pvs q.ops k = R := ⟨_, rfl⟩
      rw [hR] at NF NX PN hpl FT hown
      have OWN := Lib.hid hown
      have BEL := Lib.hid hbel
      have BEW := Lib.hid hbw
      have HPL := Lib.hid hpl
      have PO := Lib.hid (show ∀ W : World, RdW W W.heap.size A2 f R → Calls Try.prog 116 #[.agg #[.int .i64 o.1, .int .i64 o.2.1, .int .i64 o.2.2], .slice A2 (k + 1) c2] W fun e w' => ∃ A4 c4 L, e = .returned (.tuple #[.slice A4 L.length c4, .bool (opOk o (k + 1))]) ∧ OwI w' W.heap.size (.slice A4 L.length c4) L ∧ (opOk o (k + 1) = true → L = opP o R) ∧ Below W.heap.size W w' from fun W hr => by
        have h := poOp_any W.heap.size A2 c2 f o R W (Nat.le_refl _) (by rw [HPL.out]; omega) (by rw [HPL.out]; omega) FT.out hr
        rw [HPL.out] at h
        exact h)
      have hXl := opP_len FT.out o
      obtain ⟨X, hX⟩ : ∃ X, opP o R = X := ⟨_, rfl⟩
      rw [hX] at PO NF NX PN hXl
      obtain ⟨t, ht⟩ : ∃ t, opOk o (k + 1) = t := ⟨_, rfl⟩
      rw [ht] at NO NX PO
      clear hgo ho hR hown hbel hpl ht hX hbw
      go_wp2_with fail
      go_at_call 116
      generalize hw3 : World.alloc wr _ = wb
      obtain ⟨x0, x1, x2, xs, xb⟩ := box3 hw3
      clear hw3
      have OWb := Lib.hid (OWN.out.below xb)
      refine (PO.out _ OWb.out.rd).mono ?_
      rintro e w4 ⟨A4, c4, L, rfl, ho4, hL, hb4⟩
      have hx4 : Below wr.heap.size wr w4 := xb.trans (hb4.mono (by omega))
      have OW4 := Lib.hid (OWN.out.below hx4)
      have HX4 := Lib.hid (ho4.base (show w.heap.size + 1 ≤ wb.heap.size by omega))
      have BE4 := Lib.hid (BEL.out.trans (hx4.mono (by omega)))
      have BW4 := Lib.hid (BEW.out.trans (hx4.mono (by omega)))
      have hs4 : w.heap.size + 1 ≤ w4.heap.size := by have := BE4.out.size; omega
      cases t with
      | false =>
        have NN := Lib.hid (NO.out rfl)
        clear NO NX PO NF ho4 hL hb4 hx4 x0 x1 x2 xs xb
        go_wp2
        go_ret2
        exact BAD.out _ NN.out BW4.out
      | true =>
        have NX1 := Lib.hid (NX.out rfl)
        have e := hL rfl
        subst e
        have fi := poSmall_any w4.heap.size A4 c4 L w4 (by omega) ho4.rd
        obtain ⟨u, hu⟩ : ∃ u, fitB L = u := ⟨_, rfl⟩
        rw [hu] at fi NF NX1
        have FI := Lib.hid fi
        clear NO NX PO ho4 hL hb4 hx4 x0 x1 x2 xs xb fi hu
        cases u with
        | false =>
          have NN := Lib.hid (NF.out rfl)
          clear NF NX1
          go_wp2_with fail
          go_at_call 117
          refine FI.out.mono ?_
          rintro e w5 ⟨rfl, rfl⟩
          go_wp2
          go_ret2
          exact BAD.out _ NN.out BW4.out
        | true =>
          have NX2 := Lib.hid (NX1.out rfl)
          clear NF NX1
          go_wp2_with fail
          go_at_call 117
          refine FI.out.mono ?_
          rintro e w5 ⟨rfl, rfl⟩
          have o1 : w5.ownsRow (w.heap.size + 1) 36 1 (.slice A2 (k + 1) c2) (k + 1) (rwV f R (k + 1)) := by
            have h := OW4.out.1
            rw [HPL.out] at h
            exact h
          have O1 := Lib.hid o1
          clear o1
          go_wp2_with (at_builtin; refine list_step (fun K hK => ?_); refine step_app1 Try.underlying74 info_rows rfl (by omega) rfl (.tmp 35) (.tmp 37) rfl (w.heap.size + 1) (k + 1) _ (rwV f R (k + 1)) rfl (World.ownsRow.alloc O1.out _) w5.heap.size 1 (.slice A4 L.length c4) rfl (by rw [World.cell?_alloc_at _ _ _ _ rfl]; rfl) rfl (by omega) (by simp; omega) ?_; intro A6 c6 w6 hown6 hg6 hbel6; go_simp; refine hK _ _ ?_; clear hK K)
          go_roundw
          case rel =>
            refine ⟨k + 1, A6, c6, updR f (k + 1) (A4, c4), by omega, by go_num, rfl, NX2, ?_, (BE4.out.alloc hs4 _).trans hbel6⟩
            have h := OwW.push (OW4.out.below ((Below.refl _ _).alloc (Nat.le_refl _) _)) (by rw [HPL.out]; exact hown6) (by rw [HPL.out]; exact hg6) (OwI.alloc HX4.out _)
            rw [HPL.out] at h
            rw [PN.out]
            exact h
          case measure => simp [intOf]; omega
    · have hk' : k = q.ops.length := by omega
      subst hk'
      have E := FIN.out hgood.out
      have LI := Lib.hid (fun W => l1In_any q.out 0 (q.ops.length : Int) W)
      rw [E] at LI
      obtain ⟨y0, y1⟩ := cells2 ((hbel.block w.heap.size (by omega)).trans Q1.out)
      have OWN := Lib.hid (hown.base (show w.heap.size ≤ w.heap.size + 1 by omega))
      have BEL := Lib.hid hbw
      clear hown hbel hbw E
      go_wp2_with (go_at_call 93; refine (LI.out _).mono ?_; rintro e w' ⟨rfl, rfl⟩)
      go_ret2
      exact ⟨A2, q.ops.length + 1, c2, rfl, fun _ => ⟨rfl, f, OWN.out⟩, BEL.out⟩

set_option maxRecDepth 100000 in
set_option maxHeartbeats 2000000 in
theorem poGood_any (B : Nat) (A : Option Addr) (c : Nat) (q : Cd) (w : World) (hB : B ≤ w.heap.size) (hl : q.ops.length ≤ 1048576) (hr : RdD w B A q) :
    Calls Try.prog 65 #[.agg #[.slice A q.ops.length c, .int .i64 q.out]] w fun e w' => e = .returned (.bool (cdB q)) ∧ Below w.heap.size w w' := by
  have PO := Lib.hid (fun W hB (hr : RdD W B A q) => poValues_any B A c q W hB hl hr)
  have H := Lib.hid hr
  clear hr
  go_enter Try.func65, Try.ntmps65
  go_wp2_with fail
  go_at_call 74
  generalize hw1 : World.alloc w _ = w1
  obtain ⟨⟨x0, x1⟩, xs, xb⟩ := bx2c hw1
  clear hw1
  refine (PO.out _ (by omega) (H.out.below' xb hB)).mono ?_
  rintro e w2 ⟨A2, n2, c2, rfl, hgd, hb2⟩
  have HB2 := Lib.hid (xb.trans (hb2.mono (by omega)))
  clear hb2 xb xs x0 x1 hgd
  go_wp2
  go_ret
  exact ⟨rfl, HB2.out⟩
set_option maxRecDepth 100000 in
set_option maxHeartbeats 2000000 in
theorem specIsCode8_any (B : Nat) (A : Option Addr) (c : Nat) (q : Cd) (w : World) (hB : B ≤ w.heap.size) (hl : q.ops.length ≤ 1048576) (_hc : q.ops.length ≤ c) (hr : RdD w B A q) :
    Calls Try.prog 20 #[.agg #[.slice A q.ops.length c, .int .i64 q.out]] w fun e w' => e = .returned (.bool (cdB q)) ∧ Below w.heap.size w w' := by
  have PO := Lib.hid (fun W hB (hr : RdD W B A q) => poGood_any B A c q W hB hl hr)
  have H := Lib.hid hr
  clear hr
  go_enter Try.func20, Try.ntmps20
  go_wp2_with fail
  go_at_call 65
  generalize hw1 : World.alloc w _ = w1
  obtain ⟨⟨x0, x1⟩, xs, xb⟩ := bx2c hw1
  clear hw1
  refine (PO.out _ (by omega) (H.out.below' xb hB)).mono ?_
  rintro e w2 ⟨rfl, hb2⟩
  have HB2 := Lib.hid (xb.trans (hb2.mono (by omega)))
  clear hb2 xb xs x0 x1
  go_wp2
  go_ret
  exact ⟨rfl, HB2.out⟩

set_option maxRecDepth 100000 in
set_option maxHeartbeats 2000000 in
theorem specPolyOf_any (B : Nat) (A : Option Addr) (c : Nat) (q : Cd) (w : World) (hB : B ≤ w.heap.size) (hl : q.ops.length ≤ 1048576) (_hc : q.ops.length ≤ c) (hr : RdD w B A q) :
    Calls Try.prog 26 #[.agg #[.slice A q.ops.length c, .int .i64 q.out]] w fun e w' => ∃ A' c', e = .returned (.tuple #[.slice A' (cdP q).length c', .bool (cdB q)]) ∧ OwI w' w.heap.size (.slice A' (cdP q).length c') (cdP q) ∧ Below w.heap.size w w' := by
  have PO := Lib.hid (fun W hB (hr : RdD W B A q) => poValues_any B A c q W hB hl hr)
  have H := Lib.hid hr
  clear hr
  have PB := Lib.hid (fun h => cdP_bad (q := q) h)
  have PG := Lib.hid (fun i h hi => cdP_good (q := q) (i := i) h hi)
  have FA := Lib.hid (fun h => cdB_facts (c := q) h)
  obtain ⟨t, ht⟩ : ∃ t, cdB q = t := ⟨_, rfl⟩
  rw [ht] at PO PB PG FA
  rw [ht]
  obtain ⟨P, hP⟩ : ∃ P, cdP q = P := ⟨_, rfl⟩
  rw [hP] at PB PG
  rw [hP]
  clear ht hP
  cases t with
  | false =>
    have E := Lib.hid (PB.out rfl)
    clear PB PG FA
    go_enter Try.func26, Try.ntmps26
    go_wp2_with fail
    go_at_call 74
    generalize hw1 : World.alloc w _ = w1
    obtain ⟨⟨x0, x1⟩, xs, xb⟩ := bx2c hw1
    clear hw1
    refine (PO.out _ (by omega) (H.out.below' xb hB)).mono ?_
    rintro e w2 ⟨A2, n2, c2, rfl, hgd, hb2⟩
    have HB2 := Lib.hid (xb.trans (hb2.mono (by omega)))
    clear hb2 xb xs x0 x1
    go_wp2
    go_ret2
    exact ⟨none, 0, by rw [E.out]; rfl, by rw [E.out]; exact OwI.nil _ _, HB2.out⟩
  | true =>
    obtain ⟨_, f1, f2, f4⟩ := FA.out rfl
    have FIT := Lib.hid (pvs_fit f4)
    obtain ⟨i, hi⟩ : ∃ i : Nat, q.out = i := ⟨q.out.toNat, by omega⟩
    have E := Lib.hid (PG.out i rfl hi)
    have PO := Lib.hid (fun W h1 h2 => by have h := PO.out W h1 h2; rw [hi] at h; exact h)
    rw [hi] at f2 ⊢
    have hpl := pvs_len q.ops q.ops.length
    have hin : i < q.ops.length + 1 := by omega
    clear PB PG FA f1 f4 hi
    obtain ⟨R, hR⟩ : ∃ R, pvs q.ops q.ops.length = R := ⟨_, rfl⟩
    rw [hR] at E hpl PO FIT
    clear hR
    go_enter Try.func26, Try.ntmps26
    go_wp2_with fail
    go_at_call 74
    generalize hw1 : World.alloc w _ = w1
    obtain ⟨⟨x0, x1⟩, xs, xb⟩ := bx2c hw1
    clear hw1
    refine (PO.out _ (by omega) (H.out.below' xb hB)).mono ?_
    rintro e w2 ⟨A2, n2, c2, rfl, hgd, hb2⟩
    obtain ⟨rfl, f, how⟩ := hgd trivial
    have y1 := (hb2.cell (p := ⟨w.heap.size, 1, none⟩) (by simp only []; omega)).trans x1
    have HB2 := Lib.hid (xb.trans (hb2.mono (by omega)))
    obtain ⟨g, off, rfl, hg, hci⟩ := how.rd.at_ (i := i) (by omega)
    have lo := l1Own_any w2.heap.size (f i).1 (f i).2 (R.getD i []) w2 (by have := (fit_iff.1 (getD_fit FIT.out i)).1; omega) (Nat.le_refl _) (how.2 i (by omega)).rd
    have hs2 : w.heap.size ≤ w2.heap.size := HB2.out.size
    obtain ⟨F, hF⟩ : ∃ F, f i = F := ⟨_, rfl⟩
    rw [hF, ← E.out] at lo hci
    have LO := Lib.hid lo
    have ii : (i : Int) < ((q.ops.length + 1 : Nat) : Int) := by omega
    clear hb2 xb xs x0 x1 hgd how hF hpl lo
    go_wp2_with (go_at_call 75; refine LO.out.mono ?_; rintro e w' ⟨A5, c5, rfl, ho5, hb5⟩)
    go_ret2
    exact ⟨A5, c5, rfl, ho5.base hs2, HB2.out.trans (hb5.mono hs2)⟩
end Go.Proofs.Ytpopomcaknbhnaa
