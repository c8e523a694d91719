/- The law FnPowersOfResidues holds: for all bytes, what is drawn of them gives products of powers as the model tells, exponents add up, and an order is the least power that is 1. No condition. -/
import Derived.Test.YtbbfbccemonihabCud
import Derived.Test.YtbbfbccemonihabQl
namespace Go.Proofs.Ytbbfbccemonihab
open Go.ChangeShapes Go.WideShapes Go.ChangeAt Go.RowKit Go.Deep Go.Joins

set_option maxRecDepth 100000 in
set_option maxHeartbeats 8000000 in
theorem lawPowersOfResidues (A0 A1 : Option Addr) (n0 n1 c0 c1 : Nat) (w : World) (hr0 : RB w w.heap.size A0 n0) (hr1 : RB w w.heap.size A1 n1) :
    Calls Try.prog 8 #[.slice A0 n0 c0, .slice A1 n1 c1] w fun e w' => e = .returned (.bool true) ∧ Below w.heap.size w w' := by
  have H0 := Lib.hid hr0
  have H1 := Lib.hid hr1
  clear hr0 hr1
  have BG := lawBig_any A0 A1 n0 n1 c0 c1 w
  obtain ⟨bg, hbg⟩ : ∃ z, bigB n0 n1 = z := ⟨_, rfl⟩
  rw [hbg] at BG
  have BG := Lib.hid BG
  clear hbg
  go_enter Try.func8, Try.ntmps8
  go_wp2_with fail
  go_at_call 42
  refine BG.out.mono ?_
  rintro e w1 ⟨rfl, rfl⟩
  cases bg with
  | true =>
    go_wp2
    go_ret
    exact ⟨rfl, Below.refl _ _⟩
  | false =>
    clear BG
    go_wp2_with fail
    go_at_call 50
    refine (drawPowers_any w.heap.size A0 n0 c0 w (Nat.le_refl _) H0.out).mono ?_
    rintro e w2 ⟨A2, A3, c2, c3, l1, l2, m, rfl, hl1, hl2, ho1, ho2, hb2⟩
    have HB := Lib.hid hb2
    have O1 := Lib.hid ho1
    have O2 := Lib.hid ho2
    have hs2 := hb2.size
    clear hb2 ho1 ho2
    have SP := fun (W : World) h1 h2 h3 h4 => specPowers_any (World.heap W).size A2 c2 l1 m A3 c3 l2 W (Nat.le_refl _) (by omega) (by omega) h1 h2 h3 h4
    have IP := fun (W : World) h1 h2 h3 h4 => implPowers_any (World.heap W).size A2 c2 l1 m A3 c3 l2 W (Nat.le_refl _) (by omega) (by omega) h1 h2 h3 h4
    have PB := fun h hlt => pm_bump (m := m) (es := l1) (xs := l2) h hlt
    obtain ⟨V, hV⟩ : ∃ z, pmV m l1 l2 = z := ⟨_, rfl⟩
    obtain ⟨G, hG⟩ : ∃ z, pmG m l1 l2 = z := ⟨_, rfl⟩
    rw [hV, hG] at SP IP PB
    have SP := Lib.hid SP
    have IP := Lib.hid IP
    have PB := Lib.hid PB
    clear hV hG
    go_wp2_with fail
    go_at_call 51
    refine (IP.out w2 O1.out.cap O2.out.cap O1.out.rd O2.out.rd).mono ?_
    rintro e w3 ⟨rfl, hb3⟩
    have HB := Lib.hid (HB.out.trans (hb3.mono hs2))
    have O1 := Lib.hid (O1.out.below hb3)
    have O2 := Lib.hid (O2.out.below hb3)
    have hs3 := hb3.size
    clear hb3
    go_wp2_with fail
    go_at_call 52
    refine (SP.out w3 O1.out.cap O2.out.cap O1.out.rd O2.out.rd).mono ?_
    rintro e w4 ⟨rfl, hb4⟩
    have HB := Lib.hid (HB.out.trans (hb4.mono (by omega)))
    have O1 := Lib.hid (O1.out.below hb4)
    have O2 := Lib.hid (O2.out.below hb4)
    have hs4 := hb4.size
    clear hb4
    cases G with
    | false =>
      clear PB
      go_wp2_with fail
      go_at_call 53
      refine (drawOrder_any w.heap.size A1 n1 c1 w4 HB.out.size (H1.out.below HB.out)).mono ?_
      rintro e w10 ⟨x, y, rfl, hb10⟩
      have HB := Lib.hid (HB.out.trans (hb10.mono HB.out.size))
      clear hb10
      have SO := fun W => specOrder_any x y W
      have IO := fun W => implOrder_any x y W
      have OF := fun h => ord_facts (x := x) (m := y) h
      obtain ⟨OV, hOV⟩ : ∃ z, ordV x y = z := ⟨_, rfl⟩
      obtain ⟨OG, hOG⟩ : ∃ z, ordG x y = z := ⟨_, rfl⟩
      rw [hOV, hOG] at SO IO OF
      have SO := Lib.hid SO
      have IO := Lib.hid IO
      have OF := Lib.hid OF
      clear hOV hOG
      go_wp2_with fail
      go_at_call 54
      refine (IO.out w10).mono ?_
      rintro e w11 ⟨rfl, hb11⟩
      have HB := Lib.hid (HB.out.trans (hb11.mono HB.out.size))
      clear hb11
      go_wp2_with fail
      go_at_call 55
      refine (SO.out w11).mono ?_
      rintro e w12 ⟨rfl, hb12⟩
      have HB := Lib.hid (HB.out.trans (hb12.mono HB.out.size))
      clear hb12
      cases OG with
      | false =>
        go_wp2
        go_ret
        exact ⟨rfl, HB.out⟩
      | true =>
        obtain ⟨M, X, E, rfl, rfl, m2, m4, hX, e1, e2, rfl, hE⟩ := OF.out (by first | rfl | trivial)
        have HE := Lib.hid hE
        have nM0 : ¬ M = 0 := by omega
        have hm0 : ((M : Int) == 0) = false := by simp; omega
        have p0 := Lib.hid (pw_zero (m := M) X m2)
        have pS := Lib.hid (pw_succ M X)
        have pL := Lib.hid (fun e => pw_lt (m := M) X e (by omega))
        obtain ⟨P, hP⟩ : ∃ P, pwm M X = P := ⟨_, rfl⟩
        rw [hP] at HE p0 pS pL
        clear hP hE OF SO IO
        go_wp2
        go_loopw [21, 22] (fun nv kv wr => ∃ k : Nat, 1 ≤ k ∧ k ≤ E + 1 ∧ nv = .int .i64 (P (k - 1) : Int) ∧ kv = .int .i64 (k : Int) ∧ wr = w12) (fun _ kv _ => E + 1 - (intOf kv).toNat)
        case atStart => exact ⟨1, by omega, by omega, by rw [p0.out]; rfl, rfl, rfl⟩
        case round =>
          obtain ⟨k, hk1, hk2, rfl, rfl, rfl⟩ := hrel
          by_cases hle : k ≤ E
          · have il : (k : Int) ≤ (E : Int) := by omega
            have EQ := Lib.hid (show P k = P (k - 1) * X % M by have := pS.out (k - 1); rwa [show k - 1 + 1 = k by omega] at this)
            have IFF := Lib.hid (HE.out k hk1 hle)
            have hVl : P (k - 1) < M := pL.out _
            obtain ⟨V, hV⟩ : ∃ V, P (k - 1) = V := ⟨_, rfl⟩
            rw [hV] at EQ hVl
            rw [hV]
            have w1' : wrap64 ((V : Int) * (X : Int)) = ((V * X : Nat) : Int) := by
              have h1 := prod_le m4 hVl hX
              rw [show (V : Int) * (X : Int) = ((V * X : Nat) : Int) by push_cast; rfl]
              unfold wrap64; omega
            obtain ⟨Q, hQ⟩ : ∃ Q, V * X = Q := ⟨_, rfl⟩
            rw [hQ] at EQ w1'
            have hE1 := nremI Q M
            have hT1 := tmodN Q M
            obtain ⟨Z, hZ⟩ : ∃ Z, Q % M = Z := ⟨_, rfl⟩
            rw [hZ] at EQ hE1 hT1
            have NX := Lib.hid (show P (k + 1 - 1) = Z by rw [show k + 1 - 1 = k by omega]; exact EQ.out)
            rw [EQ.out] at IFF
            clear hV hQ hZ hVl
            by_cases hkE : k = E
            · have hz1 : Z = 1 := IFF.out.2 hkE
              subst hkE
              subst hz1
              go_wp2
              go_roundw
              case rel => exact ⟨k + 1, by omega, by omega, by first | (rw [NX.out]; done) | (rw [NX.out]; rfl) | (rw [NX.out, hE1]) | (rw [NX.out, hT1]), by go_num, by trivial⟩
              case measure => simp [intOf] <;> omega
            · have iz : ¬ Z = 1 := fun h => hkE (IFF.out.1 h)
              have iz2 : ¬ (Z : Int) = 1 := by omega
              have ik : ¬ (k : Int) = (E : Int) := by omega
              have HKE := Lib.hid hkE
              have b1' : ((Z : Int) == 1) = false := beq_eq_false_iff_ne.2 iz2
              have b2' : ((k : Int) == (E : Int)) = false := beq_eq_false_iff_ne.2 ik
              clear hkE
              go_wp2
              go_roundw
              case rel => exact ⟨k + 1, by omega, by omega, by first | (rw [NX.out]; done) | (rw [NX.out]; rfl) | (rw [NX.out, hE1]) | (rw [NX.out, hT1]), by go_num, by trivial⟩
              case measure => simp [intOf] <;> omega
          · have il : ¬ (k : Int) ≤ (E : Int) := by omega
            go_wp2
            go_ret
            exact ⟨rfl, HB.out⟩
    | true =>
      have hpos : 0 < l1.length := by
        apply Classical.byContradiction
        intro hh
        have hnil : l1 = [] := List.length_eq_zero_iff.1 (by omega)
        obtain ⟨_, _, _, _, _, _, h5, _⟩ := PB.out (by first | rfl | trivial) (by rw [hnil]; decide)
        omega
      obtain ⟨b1, f1, rfl, hb1, hc1⟩ := O1.out.rd.int hpos
      have ipos : (0 : Int) < (l1.length : Int) := by omega
      obtain ⟨u, hu⟩ : ∃ u, l1[0] = u := ⟨_, rfl⟩
      have GD := Lib.hid (show l1.getD 0 0 = u by rw [← hu]; simp [hpos])
      rw [hu] at hc1
      rw [Nat.add_zero] at hc1
      by_cases hlt : u < 1000000
      · obtain ⟨M, e0, x0, rfl, m2, m4, _, hx0l, he0, he0l, hx0, hx0M, hg2, P, hPl, rfl, hv2⟩ := PB.out (by first | rfl | trivial) (by rw [GD.out]; exact hlt)
        rw [GD.out] at he0
        subst he0
        obtain ⟨b2, f2, rfl, hb2', hc2⟩ := O2.out.rd.int hx0l
        have hx0' : l2[0] = (x0 : Int) := by rw [← hx0]; simp [hx0l]
        rw [hx0', Nat.add_zero] at hc2
        have ix0 : (0 : Int) < (l2.length : Int) := by omega
        have IP2 := fun (W : World) A c h1 h2 h3 h4 => implPowers_any (World.heap W).size A c (l1.set 0 ((e0 : Int) + 1)) (M : Int) (some ⟨b2, f2, none⟩) c3 l2 W (Nat.le_refl _) (by rw [List.length_set]; omega) (by omega) h1 h2 h3 h4
        rw [hg2, hv2, List.length_set] at IP2
        have IP2 := Lib.hid IP2
        have ew : wrap64 ((e0 : Int) + 1) = (e0 : Int) + 1 := by unfold wrap64; omega
        have w1' : wrap64 ((P : Int) * (x0 : Int)) = ((P * x0 : Nat) : Int) := by
          have h1 := prod_le m4 hPl hx0M
          rw [show (P : Int) * (x0 : Int) = ((P * x0 : Nat) : Int) by push_cast; rfl]
          unfold wrap64; omega
        obtain ⟨Q, hQ⟩ : ∃ Q, P * x0 = Q := ⟨_, rfl⟩
        rw [hQ] at w1' IP2
        have hE1 := nremI Q M
        have hT1 := tmodN Q M
        obtain ⟨Z, hZ⟩ : ∃ Z, Q % M = Z := ⟨_, rfl⟩
        rw [hZ] at IP2 hE1 hT1
        have nM0 : ¬ M = 0 := by omega
        have hm0 : ((M : Int) == 0) = false := by simp; omega
        have HU := Lib.hid hu
        have C2C := Lib.hid hc2
        clear hu hQ hZ hx0 hx0' hg2 hv2 PB hPl hx0M
        go_wp2_with (at_builtin; refine list_step (fun K hK => ?_); refine step_appM Try.underlying23 info_int rfl (by omega) (by omega) rfl (.tmp 61) (.tmp 62) rfl w4.heap.size 0 _ [] rfl (own_empty 1 (Nat.le_refl _)) _ l1.length c2 (l1.map I) rfl (O1.out.rd.alloc (Nat.le_refl _) _) (ints_one l1) (by omega) (by simp) ?_; intro A5 c5 w5 hown5 hg5 hbel5; simp only [Nat.zero_add, List.nil_append] at hown5; have O5 := Lib.hid hown5; obtain ⟨g5, rfl, hg5a, hg5b, hc5, hf5⟩ := own_at hown5 hpos; have k0 : w5.cell? ⟨g5, 0, none⟩ = some (.int .i64 (e0 : Int)) := (by rw [hc5 0 (by omega)]; have := HU.out; simp [hpos, this]); have kf := hf5 0; have B5 := Lib.hid (show Below w4.heap.size w4 w5 from ((Below.refl _ _).alloc (Nat.le_refl _) _).trans hbel5); have c25 := (B5.out.cell (p := ⟨b2, f2, none⟩) hb2').trans hc2; clear hown5 hg5 hbel5 hc5 hf5 hc2 hc1; go_simp; refine hK _ _ ?_; clear hK K)
        go_at_call 51
        have hst := (O5.out.stored 0 (.int .i64 ((e0 : Int) + 1))).1
        have b56 : Below w4.heap.size w4 (w5.setCell ⟨g5, 0, none⟩ (.int .i64 ((e0 : Int) + 1))) := B5.out.setCell hg5a _
        generalize w5.setCell ⟨g5, 0, none⟩ (.int .i64 ((e0 : Int) + 1)) = w6 at hst b56 ⊢
        have O6 : OwI w6 w4.heap.size (.slice (some ⟨g5, 0, none⟩) (l1.set 0 ((e0 : Int) + 1)).length c5) (l1.set 0 ((e0 : Int) + 1)) := by
          unfold OwI
          rw [List.length_set, List.map_set]
          exact hst
        have q1 := O6.cap
        have q2 := O6.rd
        rw [List.length_set] at q1 q2
        have O26 := O2.out.below b56
        have c26 := (b56.cell (p := ⟨b2, f2, none⟩) hb2').trans C2C.out
        have hs6 := b56.size
        have HB := Lib.hid (HB.out.trans (b56.mono (by omega)))
        clear b56 hst k0 kf c25 O6
        refine (IP2.out w6 _ c5 q1 O26.cap q2 O26.rd).mono ?_
        rintro e w7 ⟨rfl, hb7⟩
        have c27 := (hb7.cell (p := ⟨b2, f2, none⟩) (by simp only []; omega)).trans c26
        have HB := Lib.hid (HB.out.trans (hb7.mono (by omega)))
        clear hb7 c26 q1 q2 O26
        go_wp2_with fail
        go_at_call 53
        refine (drawOrder_any w.heap.size A1 n1 c1 w7 HB.out.size (H1.out.below HB.out)).mono ?_
        rintro e w10 ⟨x, y, rfl, hb10⟩
        have HB := Lib.hid (HB.out.trans (hb10.mono HB.out.size))
        clear hb10
        have SO := fun W => specOrder_any x y W
        have IO := fun W => implOrder_any x y W
        have OF := fun h => ord_facts (x := x) (m := y) h
        obtain ⟨OV, hOV⟩ : ∃ z, ordV x y = z := ⟨_, rfl⟩
        obtain ⟨OG, hOG⟩ : ∃ z, ordG x y = z := ⟨_, rfl⟩
        rw [hOV, hOG] at SO IO OF
        have SO := Lib.hid SO
        have IO := Lib.hid IO
        have OF := Lib.hid OF
        clear hOV hOG
        go_wp2_with fail
        go_at_call 54
        refine (IO.out w10).mono ?_
        rintro e w11 ⟨rfl, hb11⟩
        have HB := Lib.hid (HB.out.trans (hb11.mono HB.out.size))
        clear hb11
        go_wp2_with fail
        go_at_call 55
        refine (SO.out w11).mono ?_
        rintro e w12 ⟨rfl, hb12⟩
        have HB := Lib.hid (HB.out.trans (hb12.mono HB.out.size))
        clear hb12
        cases OG with
        | false =>
          go_wp2
          go_ret
          exact ⟨rfl, HB.out⟩
        | true =>
          obtain ⟨M, X, E, rfl, rfl, m2, m4, hX, e1, e2, rfl, hE⟩ := OF.out (by first | rfl | trivial)
          have HE := Lib.hid hE
          have nM0 : ¬ M = 0 := by omega
          have hm0 : ((M : Int) == 0) = false := by simp; omega
          have p0 := Lib.hid (pw_zero (m := M) X m2)
          have pS := Lib.hid (pw_succ M X)
          have pL := Lib.hid (fun e => pw_lt (m := M) X e (by omega))
          obtain ⟨P, hP⟩ : ∃ P, pwm M X = P := ⟨_, rfl⟩
          rw [hP] at HE p0 pS pL
          clear hP hE OF SO IO
          go_wp2
          go_loopw [21, 22] (fun nv kv wr => ∃ k : Nat, 1 ≤ k ∧ k ≤ E + 1 ∧ nv = .int .i64 (P (k - 1) : Int) ∧ kv = .int .i64 (k : Int) ∧ wr = w12) (fun _ kv _ => E + 1 - (intOf kv).toNat)
          case atStart => exact ⟨1, by omega, by omega, by rw [p0.out]; rfl, rfl, rfl⟩
          case round =>
            obtain ⟨k, hk1, hk2, rfl, rfl, rfl⟩ := hrel
            by_cases hle : k ≤ E
            · have il : (k : Int) ≤ (E : Int) := by omega
              have EQ := Lib.hid (show P k = P (k - 1) * X % M by have := pS.out (k - 1); rwa [show k - 1 + 1 = k by omega] at this)
              have IFF := Lib.hid (HE.out k hk1 hle)
              have hVl : P (k - 1) < M := pL.out _
              obtain ⟨V, hV⟩ : ∃ V, P (k - 1) = V := ⟨_, rfl⟩
              rw [hV] at EQ hVl
              rw [hV]
              have w1' : wrap64 ((V : Int) * (X : Int)) = ((V * X : Nat) : Int) := by
                have h1 := prod_le m4 hVl hX
                rw [show (V : Int) * (X : Int) = ((V * X : Nat) : Int) by push_cast; rfl]
                unfold wrap64; omega
              obtain ⟨Q, hQ⟩ : ∃ Q, V * X = Q := ⟨_, rfl⟩
              rw [hQ] at EQ w1'
              have hE1 := nremI Q M
              have hT1 := tmodN Q M
              obtain ⟨Z, hZ⟩ : ∃ Z, Q % M = Z := ⟨_, rfl⟩
              rw [hZ] at EQ hE1 hT1
              have NX := Lib.hid (show P (k + 1 - 1) = Z by rw [show k + 1 - 1 = k by omega]; exact EQ.out)
              rw [EQ.out] at IFF
              clear hV hQ hZ hVl
              by_cases hkE : k = E
              · have hz1 : Z = 1 := IFF.out.2 hkE
                subst hkE
                subst hz1
                go_wp2
                go_roundw
                case rel => exact ⟨k + 1, by omega, by omega, by first | (rw [NX.out]; done) | (rw [NX.out]; rfl) | (rw [NX.out, hE1]) | (rw [NX.out, hT1]), by go_num, by trivial⟩
                case measure => simp [intOf] <;> omega
              · have iz : ¬ Z = 1 := fun h => hkE (IFF.out.1 h)
                have iz2 : ¬ (Z : Int) = 1 := by omega
                have ik : ¬ (k : Int) = (E : Int) := by omega
                have HKE := Lib.hid hkE
                have b1' : ((Z : Int) == 1) = false := beq_eq_false_iff_ne.2 iz2
                have b2' : ((k : Int) == (E : Int)) = false := beq_eq_false_iff_ne.2 ik
                clear hkE
                go_wp2
                go_roundw
                case rel => exact ⟨k + 1, by omega, by omega, by first | (rw [NX.out]; done) | (rw [NX.out]; rfl) | (rw [NX.out, hE1]) | (rw [NX.out, hT1]), by go_num, by trivial⟩
                case measure => simp [intOf] <;> omega
            · have il : ¬ (k : Int) ≤ (E : Int) := by omega
              go_wp2
              go_ret
              exact ⟨rfl, HB.out⟩
      · clear PB
        go_wp2_with fail
        go_at_call 53
        refine (drawOrder_any w.heap.size A1 n1 c1 w4 HB.out.size (H1.out.below HB.out)).mono ?_
        rintro e w10 ⟨x, y, rfl, hb10⟩
        have HB := Lib.hid (HB.out.trans (hb10.mono HB.out.size))
        clear hb10
        have SO := fun W => specOrder_any x y W
        have IO := fun W => implOrder_any x y W
        have OF := fun h => ord_facts (x := x) (m := y) h
        obtain ⟨OV, hOV⟩ : ∃ z, ordV x y = z := ⟨_, rfl⟩
        obtain ⟨OG, hOG⟩ : ∃ z, ordG x y = z := ⟨_, rfl⟩
        rw [hOV, hOG] at SO IO OF
        have SO := Lib.hid SO
        have IO := Lib.hid IO
        have OF := Lib.hid OF
        clear hOV hOG
        go_wp2_with fail
        go_at_call 54
        refine (IO.out w10).mono ?_
        rintro e w11 ⟨rfl, hb11⟩
        have HB := Lib.hid (HB.out.trans (hb11.mono HB.out.size))
        clear hb11
        go_wp2_with fail
        go_at_call 55
        refine (SO.out w11).mono ?_
        rintro e w12 ⟨rfl, hb12⟩
        have HB := Lib.hid (HB.out.trans (hb12.mono HB.out.size))
        clear hb12
        cases OG with
        | false =>
          go_wp2
          go_ret
          exact ⟨rfl, HB.out⟩
        | true =>
          obtain ⟨M, X, E, rfl, rfl, m2, m4, hX, e1, e2, rfl, hE⟩ := OF.out (by first | rfl | trivial)
          have HE := Lib.hid hE
          have nM0 : ¬ M = 0 := by omega
          have hm0 : ((M : Int) == 0) = false := by simp; omega
          have p0 := Lib.hid (pw_zero (m := M) X m2)
          have pS := Lib.hid (pw_succ M X)
          have pL := Lib.hid (fun e => pw_lt (m := M) X e (by omega))
          obtain ⟨P, hP⟩ : ∃ P, pwm M X = P := ⟨_, rfl⟩
          rw [hP] at HE p0 pS pL
          clear hP hE OF SO IO
          go_wp2
          go_loopw [21, 22] (fun nv kv wr => ∃ k : Nat, 1 ≤ k ∧ k ≤ E + 1 ∧ nv = .int .i64 (P (k - 1) : Int) ∧ kv = .int .i64 (k : Int) ∧ wr = w12) (fun _ kv _ => E + 1 - (intOf kv).toNat)
          case atStart => exact ⟨1, by omega, by omega, by rw [p0.out]; rfl, rfl, rfl⟩
          case round =>
            obtain ⟨k, hk1, hk2, rfl, rfl, rfl⟩ := hrel
            by_cases hle : k ≤ E
            · have il : (k : Int) ≤ (E : Int) := by omega
              have EQ := Lib.hid (show P k = P (k - 1) * X % M by have := pS.out (k - 1); rwa [show k - 1 + 1 = k by omega] at this)
              have IFF := Lib.hid (HE.out k hk1 hle)
              have hVl : P (k - 1) < M := pL.out _
              obtain ⟨V, hV⟩ : ∃ V, P (k - 1) = V := ⟨_, rfl⟩
              rw [hV] at EQ hVl
              rw [hV]
              have w1' : wrap64 ((V : Int) * (X : Int)) = ((V * X : Nat) : Int) := by
                have h1 := prod_le m4 hVl hX
                rw [show (V : Int) * (X : Int) = ((V * X : Nat) : Int) by push_cast; rfl]
                unfold wrap64; omega
              obtain ⟨Q, hQ⟩ : ∃ Q, V * X = Q := ⟨_, rfl⟩
              rw [hQ] at EQ w1'
              have hE1 := nremI Q M
              have hT1 := tmodN Q M
              obtain ⟨Z, hZ⟩ : ∃ Z, Q % M = Z := ⟨_, rfl⟩
              rw [hZ] at EQ hE1 hT1
              have NX := Lib.hid (show P (k + 1 - 1) = Z by rw [show k + 1 - 1 = k by omega]; exact EQ.out)
              rw [EQ.out] at IFF
              clear hV hQ hZ hVl
              by_cases hkE : k = E
              · have hz1 : Z = 1 := IFF.out.2 hkE
                subst hkE
                subst hz1
                go_wp2
                go_roundw
                case rel => exact ⟨k + 1, by omega, by omega, by first | (rw [NX.out]; done) | (rw [NX.out]; rfl) | (rw [NX.out, hE1]) | (rw [NX.out, hT1]), by go_num, by trivial⟩
                case measure => simp [intOf] <;> omega
              · have iz : ¬ Z = 1 := fun h => hkE (IFF.out.1 h)
                have iz2 : ¬ (Z : Int) = 1 := by omega
                have ik : ¬ (k : Int) = (E : Int) := by omega
                have HKE := Lib.hid hkE
                have b1' : ((Z : Int) == 1) = false := beq_eq_false_iff_ne.2 iz2
                have b2' : ((k : Int) == (E : Int)) = false := beq_eq_false_iff_ne.2 ik
                clear hkE
                go_wp2
                go_roundw
                case rel => exact ⟨k + 1, by omega, by omega, by first | (rw [NX.out]; done) | (rw [NX.out]; rfl) | (rw [NX.out, hE1]) | (rw [NX.out, hT1]), by go_num, by trivial⟩
                case measure => simp [intOf] <;> omega
            · have il : ¬ (k : Int) ≤ (E : Int) := by omega
              go_wp2
              go_ret
              exact ⟨rfl, HB.out⟩
end Go.Proofs.Ytbbfbccemonihab
