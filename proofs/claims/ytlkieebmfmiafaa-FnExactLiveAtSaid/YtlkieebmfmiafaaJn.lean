/- Values that are used later, by the model. -/
import Derived.Test.YtlkieebmfmiafaaJl
import Derived.Test.YtlkieebmfmiafaaAp
namespace Go.Proofs.Ytlkieebmfmiafaa
open Go.RowKit

set_option maxRecDepth 100000 in
set_option maxHeartbeats 4000000 in
theorem duLive_any (B N k : Nat) (A1 A2 : Option Addr) (c1 c2 : Nat) (p : Pl) (w : World) (hpn : p.n = N) (h6 : N ≤ 6) (hs40 : p.s.length ≤ 40) (ho6 : p.o.length ≤ 6) (hk : k ≤ p.s.length) (hcap : p.s.length ≤ c1) (hB : B ≤ w.heap.size) (hok : OkS N p.s)
    (hout : ∀ x ∈ p.o, 0 ≤ x ∧ x < (N : Int) + p.s.length) (hr : RdP w B A1 A2 p) :
    Calls Try.prog 85 #[.agg #[.int .i64 p.n, .slice A1 p.s.length c1, .slice A2 p.o.length c2], .int .i64 (k : Int)] w fun e w' =>
      ∃ A c, e = .returned (.slice A (liv N p.s p.o k).length c) ∧ OwI w' w.heap.size (.slice A (liv N p.s p.o k).length c) (liv N p.s p.o k) ∧ Below w.heap.size w w' := by
  have H := Lib.hid hr
  have HEQ := Lib.hid (liv_eq hok (fun x hx => (hout x hx).1) hk)
  clear hok hout hr
  rw [hpn]
  clear hpn
  have ik : (k : Int) ≤ (p.s.length : Int) := by omega
  go_enter Try.func85, Try.ntmps85
  by_cases hkl : k < p.s.length
  · obtain ⟨sb, off, hA1, _⟩ := H.out.1.2 (by omega)
    subst hA1
    have hck' : ¬ c1 = k := by omega
    go_wp2
    generalize hw1 : World.alloc w _ = w1
    obtain ⟨x0, x1, x2, xs, xb⟩ := box3 hw1
    clear hw1
    have XB := Lib.hid xb
    have XS := Lib.hid xs
    have hw1s : w.heap.size + 1 ≤ w1.heap.size := by omega
    clear xb xs
    go_loopw [5, 18] (fun ov iv wr => ∃ (j : Nat) (A4 : Option Addr) (c4 : Nat), j ≤ p.s.length - k ∧ iv = .int .i64 j ∧ ov = .slice A4 (lvS p.s k j).length c4 ∧ OwI wr (w.heap.size + 1) (.slice A4 (lvS p.s k j).length c4) (lvS p.s k j) ∧ Below (w.heap.size + 1) w1 wr) (fun _ i _ => (p.s.length - k) - (intOf i).toNat)
    case atStart => exact ⟨0, none, 0, by omega, rfl, rfl, by simpa [lvS] using OwI.nil w1 (w.heap.size + 1), Below.refl _ _⟩
    case round =>
      obtain ⟨j, A4, c4, hj, rfl, rfl, hown, hbel⟩ := hrel
      have hsr := hbel.size
      obtain ⟨asc, lle⟩ := lvS_asc p.s k j
      have hsz : w.heap.size + 1 ≤ wr.heap.size := by omega
      by_cases hlt : j < p.s.length - k
      · have hkj : k + j < p.s.length := by omega
        obtain ⟨sb', off', hA, hsb, hc1, hc2⟩ := ((H.out.1.below' XB.out hB).below' hbel (by omega)).stp hkj
        simp only [Option.some.injEq, Addr.mk.injEq] at hA
        obtain ⟨rfl, rfl, _⟩ := hA
        rw [show off + (k + j) * 2 = off + k * 2 + j * 2 by omega] at hc1 hc2
        have iqk : (j : Int) < ((p.s.length - k : Nat) : Int) := by omega
        have hst : p.s.getD (k + j) (0, 0) = p.s[k + j] := by simp [hkj]
        obtain ⟨a, ha⟩ : ∃ a, (p.s[k + j]).1 = a := ⟨_, rfl⟩
        obtain ⟨b, hb⟩ : ∃ b, (p.s[k + j]).2 = b := ⟨_, rfl⟩
        have SUC := Lib.hid (show lvS p.s k (j + 1) = putI (putI (lvS p.s k j) a) b by simp only [lvS]; rw [hst, ha, hb])
        rw [ha] at hc1
        rw [hb] at hc2
        obtain ⟨L, hL⟩ : ∃ L, lvS p.s k j = L := ⟨_, rfl⟩
        have HL := Lib.hid hL
        rw [hL] at SUC asc lle
        have ASC := Lib.hid asc
        have OW := Lib.hid (show OwI wr (w.heap.size + 1) (.slice A4 L.length c4) L by rw [← hL]; exact hown)
        have BEL := Lib.hid hbel
        rw [hL]
        clear hown hbel hst ha hb hL asc
        go_wp2
        generalize hw3 : World.alloc wr _ = w3
        obtain ⟨e0, e1, es, eb⟩ := box2 hw3
        clear hw3
        have FS := Lib.hid (show ∀ x, Below w3.heap.size w3 x → x.cell? ⟨wr.heap.size, 0, none⟩ = some (.int .i64 a) ∧ x.cell? ⟨wr.heap.size, 1, none⟩ = some (.int .i64 b) from fun x hx => ⟨(hx.cell (p := ⟨wr.heap.size, 0, none⟩) (by simp only []; omega)).trans e0, (hx.cell (p := ⟨wr.heap.size, 1, none⟩) (by simp only []; omega)).trans e1⟩)
        have S3 := Lib.hid (show Below w3.heap.size w3 w3.drew from (Below.refl _ _).drew)
        clear e0 e1
        refine wp_region_T (fun x : World => Below w3.heap.size w3 x) [0, 1, 2, 4, 5, 7] [2, 5] (.lp 0 (.lp 1 (.lp 4 (.ls 2 (.ls 5 (.hv 3 (.hv 6 (.lp 7 (.done))))))))) (by kernel_rfl) (by kernel_rfl) ?_
        (repeat (refine T_lp rfl (fun K hK => ?_); go_simp; refine hK _ ?_; clear hK K))
        refine T_ls1 (v := .int .i64 a) rfl rfl S3.out (fun x hx => (by obtain ⟨h1, h2⟩ := FS.out x hx; go_simp)) (fun K hK => ?_)
        (go_simp; refine hK _ ?_; clear hK K)
        refine T_ls1 (v := .int .i64 b) rfl rfl S3.out (fun x hx => (by obtain ⟨h1, h2⟩ := FS.out x hx; go_simp)) (fun K hK => ?_)
        (go_simp; refine hK _ ?_; clear hK K)
        refine T_hvS rfl (fun K hK => ?_)
        go_simp
        go_at_call 119
        refine (l1PutO_any (w.heap.size + 1) A4 c4 L a w3.drew (by omega) ASC.out (by simp; omega) ((OW.out.below eb).drew)).mono ?_
        rintro e w5 ⟨A6, c6, rfl, ho5, hb5⟩
        have hp1 := putI_le L a
        have hb35 : Below w3.heap.size w3 w5 := (Below.refl _ w3).drew.trans hb5
        have hb5' : Below wr.heap.size wr w5 := eb.trans (hb35.mono (by omega))
        have HB5 := Lib.hid hb5'
        have OW5 := Lib.hid ho5
        have ASC5 := Lib.hid (putI_asc ASC.out a)
        have hs5 := hb5'.size
        go_simp
        refine hK _ _ hb35 ?_
        clear hK K hb5 ho5 hb5' eb hb35
        refine T_hv rfl (by kernel_rfl) (fun K hK => ?_)
        go_simp
        go_at_call 119
        refine (l1PutO_any (w.heap.size + 1) A6 c6 (putI L a) b w5 (by omega) ASC5.out (by omega) OW5.out).mono ?_
        rintro e w6 ⟨A7, c7, rfl, ho6, hb6⟩
        have HB6 := Lib.hid (HB5.out.trans (hb6.mono hs5))
        have OW6 := Lib.hid ho6
        clear hb6 ho6
        (go_simp; refine hK _ _ ?_; clear hK K)
        (repeat (first | (refine T_lp rfl (fun K hK => ?_); go_simp; refine hK _ ?_; clear hK K) | (refine T_ls rfl rfl (fun K hK => ?_); go_simp; refine hK _ ?_; clear hK K)))
        refine T_done ?_
        go_wp2
        go_roundw
        case rel => exact ⟨j + 1, A7, c7, by omega, by go_num, by rw [SUC.out], by rw [SUC.out]; exact OW6.out, BEL.out.trans (HB6.out.mono hsz)⟩
        case measure => simp [intOf]; omega
      · have hj' : j = p.s.length - k := by omega
        subst hj'
        have z2 := (hbel.cell (p := ⟨w.heap.size, 2, none⟩) (by simp)).trans x2
        have z0 := (hbel.cell (p := ⟨w.heap.size, 0, none⟩) (by simp)).trans x0
        have HB2 := Lib.hid (XB.out.trans (hbel.mono (show w.heap.size ≤ w.heap.size + 1 by omega)))
        have hlo := (lvO_ok p.s p.o k 0 (by omega)).2.1
        have hown' : OwI wr (w.heap.size + 1) (.slice A4 (lvO p.s p.o k 0).length c4) (lvO p.s p.o k 0) := hown
        have OWN := Lib.hid hown'
        have hl0 : lvO p.s p.o k 0 = lvS p.s k (p.s.length - k) := rfl
        rw [← hl0]
        clear hown hown' hbel x0 x1 x2 hl0
        go_wp2
        go_loopw [5, 33] (fun ov iv wq => ∃ (i : Nat) (A5 : Option Addr) (c5 : Nat), i ≤ p.o.length ∧ iv = .int .i64 i ∧ ov = .slice A5 (lvO p.s p.o k i).length c5 ∧ OwI wq (w.heap.size + 1) (.slice A5 (lvO p.s p.o k i).length c5) (lvO p.s p.o k i) ∧ Below (w.heap.size + 1) wr wq) (fun _ i _ => p.o.length - (intOf i).toNat)
        case atStart => exact ⟨0, A4, c4, by omega, rfl, rfl, OWN.out, Below.refl _ _⟩
        case round =>
          obtain ⟨i, A5, c5, hi, rfl, rfl, hown, hbel⟩ := hrel
          have hsr := hbel.size
          have v0 := (hbel.cell (p := ⟨w.heap.size, 0, none⟩) (by simp)).trans z0
          have hsz2 : w.heap.size + 1 ≤ wr.heap.size := by omega
          obtain ⟨asc, lle, _⟩ := lvO_ok p.s p.o k i hi
          have ASC := Lib.hid asc
          have OW := Lib.hid hown
          have BEL := Lib.hid hbel
          by_cases hlt : i < p.o.length
          · obtain ⟨ob, oo, rfl, hob, hoc⟩ := ((H.out.2.below' HB2.out hB).below' hbel (by omega)).int hlt
            have iqk : (i : Int) < (p.o.length : Int) := by omega
            have SUC := Lib.hid (lvO_succ (s := p.s) (k := k) hlt)
            have hst : p.o.getD i 0 = p.o[i] := by simp [hlt]
            rw [hst] at SUC
            obtain ⟨x, hx⟩ : ∃ x, p.o[i] = x := ⟨_, rfl⟩
            rw [hx] at hoc SUC
            have HP := Lib.hid (l1PutO_any (w.heap.size + 1) A5 c5 (lvO p.s p.o k i) x wr (by omega) ASC.out hsz2 OW.out)
            clear hown hbel hst hx asc
            go_wp2_with fail
            go_at_call 119
            refine HP.out.mono ?_
            rintro e w5 ⟨A6, c6, rfl, ho5, hb5⟩
            have BEL5 := Lib.hid (BEL.out.trans (hb5.mono hsz2))
            have OW5 := Lib.hid ho5
            clear ho5 hb5
            go_wp2
            go_roundw
            case rel => exact ⟨i + 1, A6, c6, by omega, by go_num, by rw [SUC.out], by rw [SUC.out]; exact OW5.out, BEL5.out⟩
            case measure => simp [intOf]; omega
          · have hi' : i = p.o.length := by omega
            subst hi'
            have HB3 := Lib.hid (HB2.out.trans (hbel.mono (show w.heap.size ≤ w.heap.size + 1 by omega)))
            have hEQ := HEQ.out
            obtain ⟨L, hL⟩ : ∃ L, lvO p.s p.o k p.o.length = L := ⟨_, rfl⟩
            rw [hL] at OW lle hEQ
            rw [hL]
            have EQ := Lib.hid hEQ
            obtain ⟨m, hm⟩ : ∃ m, wr.heap.size = m := ⟨_, rfl⟩
            have hwm : w.heap.size + 1 ≤ m := by omega
            have hm1 : m ≤ wr.heap.size := by omega
            have OL := Lib.hid OW.out.rd
            rw [hm] at OL
            have BEL0 := Lib.hid (show Below m wr wr from Below.refl _ _)
            clear hown hbel asc ASC hL hEQ z2 z0 hm
            go_wp2
            go_loopw [10, 43] (fun ov iv wq => ∃ (i : Nat) (A6 : Option Addr) (c6 : Nat), i ≤ L.length ∧ iv = .int .i64 i ∧ ov = .slice A6 (flK L ((N : Int) + k) i).length c6 ∧ wq.ownsRow m 3 1 (.slice A6 (flK L ((N : Int) + k) i).length c6) (flK L ((N : Int) + k) i).length ((flK L ((N : Int) + k) i).map I) ∧ Below m wr wq) (fun _ i _ => L.length - (intOf i).toNat)
            case atStart => exact ⟨0, none, 0, by omega, rfl, rfl, by simpa [flK] using World.ownsRow_nil _ _ _ _, BEL0.out⟩
            case round =>
              obtain ⟨i, A6, c6, hi2, rfl, rfl, hown, hbel⟩ := hrel
              have hs4 := hbel.size
              have hsz4 : w.heap.size + 1 ≤ wr.heap.size := by omega
              have v0' := (hbel.cell (p := ⟨w.heap.size, 0, none⟩) (by simp only []; omega)).trans v0
              have hfl := flK_le L ((N : Int) + k) i
              have OW6 := Lib.hid hown
              have BEL6 := Lib.hid hbel
              by_cases hlt : i < L.length
              · obtain ⟨g, off, rfl, hg, hc⟩ := (OL.out.below hbel).int hlt
                have iqk : (i : Int) < (L.length : Int) := by omega
                have hgd : L.getD i 0 = L[i] := by simp [hlt]
                obtain ⟨x, hx⟩ : ∃ x, L[i] = x := ⟨_, rfl⟩
                rw [hx] at hc hgd
                have hw1 : IntKind.i64.wrap ((N : Int) + (k : Int)) = (N : Int) + (k : Int) := IntWalk.i64_in _ (by omega)
                by_cases hq : x < (N : Int) + (k : Int)
                · have HIT := Lib.hid (flK_hit (m := (N : Int) + k) hlt (by rw [hgd]; exact hq))
                  rw [hgd] at HIT
                  clear hown hbel hgd hx
                  go_wp2_with (at_builtin; refine list_step (fun K hK => ?_); refine step_app1 Try.underlying23 info_int rfl (by omega) rfl (.tmp 53) (.tmp 55) rfl m (flK L ((N : Int) + k) i).length _ _ rfl (World.ownsRow.alloc OW6.out _) wr.heap.size 1 (I x) rfl (by simp) rfl (by omega) (by simp; omega) ?_; intro A7 c7 w7 hown7 hg7 hbel7; go_simp; refine hK _ _ ?_; clear hK K)
                  go_roundw
                  case rel =>
                    have hl : (flK L ((N : Int) + k) (i + 1)).length = (flK L ((N : Int) + k) i).length + 1 := by rw [HIT.out]; simp
                    have hm : (flK L ((N : Int) + k) (i + 1)).map I = (flK L ((N : Int) + k) i).map I ++ [I x] := by rw [HIT.out]; simp
                    refine ⟨i + 1, A7, c7, by omega, by go_num, by rw [hl], by rw [hl, hm]; exact hown7, ?_⟩
                    exact (BEL6.out.alloc (by omega) _).trans hbel7
                  case measure => simp [intOf]; omega
                · have MISS := Lib.hid (flK_miss (m := (N : Int) + k) hlt (by rw [hgd]; exact hq))
                  clear hown hbel hgd hx
                  go_wp2
                  go_roundw
                  case rel => exact ⟨i + 1, A6, c6, by omega, by go_num, by rw [MISS.out], by rw [MISS.out]; exact OW6.out, BEL6.out⟩
                  case measure => simp [intOf]; omega
              · have hi' : i = L.length := by omega
                subst hi'
                have HB4 := Lib.hid (HB3.out.trans (hbel.mono (by omega)))
                clear hown hbel
                go_wp2
                go_ret
                refine ⟨A6, c6, by rw [← EQ.out]; rfl, ?_, HB4.out⟩
                show World.ownsRow _ _ _ _ _ _ _
                rw [← EQ.out]
                exact own_base OW6.out (by omega)

  · have hke : p.s.length ≤ k := by omega
    clear hkl
    by_cases hck : c1 = k
    · have hck2 : k = c1 := hck.symm
      clear hck
      subst hck2
      go_wp2
      generalize hsv : Value.slice A1 0 0 = sv
      clear hsv
      generalize hw1 : World.alloc w _ = w1
      obtain ⟨x0, x1, x2, xs, xb⟩ := box3 hw1
      clear hw1
      have XB := Lib.hid xb
      have XS := Lib.hid xs
      have hw1s : w.heap.size + 1 ≤ w1.heap.size := by omega
      clear xb xs
      go_loopw [5, 18] (fun ov iv wr => ∃ (j : Nat) (A4 : Option Addr) (c4 : Nat), j ≤ p.s.length - k ∧ iv = .int .i64 j ∧ ov = .slice A4 (lvS p.s k j).length c4 ∧ OwI wr (w.heap.size + 1) (.slice A4 (lvS p.s k j).length c4) (lvS p.s k j) ∧ Below (w.heap.size + 1) w1 wr) (fun _ i _ => (p.s.length - k) - (intOf i).toNat)
      case atStart => exact ⟨0, none, 0, by omega, rfl, rfl, by simpa [lvS] using OwI.nil w1 (w.heap.size + 1), Below.refl _ _⟩
      case round =>
        obtain ⟨j, A4, c4, hj, rfl, rfl, hown, hbel⟩ := hrel
        have hsr := hbel.size
        obtain ⟨asc, lle⟩ := lvS_asc p.s k j
        have hsz : w.heap.size + 1 ≤ wr.heap.size := by omega
        have hj' : j = 0 := by omega
        subst hj'
        have hz : ((0 : Nat) : Int) = 0 := rfl
        rw [hz]
        clear hz
        have h0 : p.s.length - k = 0 := by omega
        have z2 := (hbel.cell (p := ⟨w.heap.size, 2, none⟩) (by simp)).trans x2
        have z0 := (hbel.cell (p := ⟨w.heap.size, 0, none⟩) (by simp)).trans x0
        have HB2 := Lib.hid (XB.out.trans (hbel.mono (show w.heap.size ≤ w.heap.size + 1 by omega)))
        have hlo := (lvO_ok p.s p.o k 0 (by omega)).2.1
        have hl0 : lvO p.s p.o k 0 = lvS p.s k 0 := by unfold lvO; rw [uniK_zero, h0]
        have hown' : OwI wr (w.heap.size + 1) (.slice A4 (lvO p.s p.o k 0).length c4) (lvO p.s p.o k 0) := by rw [hl0]; exact hown
        have OWN := Lib.hid hown'
        rw [← hl0]
        clear hown hown' hbel x0 x1 x2 hl0 h0
        go_wp2
        go_loopw [5, 33] (fun ov iv wq => ∃ (i : Nat) (A5 : Option Addr) (c5 : Nat), i ≤ p.o.length ∧ iv = .int .i64 i ∧ ov = .slice A5 (lvO p.s p.o k i).length c5 ∧ OwI wq (w.heap.size + 1) (.slice A5 (lvO p.s p.o k i).length c5) (lvO p.s p.o k i) ∧ Below (w.heap.size + 1) wr wq) (fun _ i _ => p.o.length - (intOf i).toNat)
        case atStart => exact ⟨0, A4, c4, by omega, rfl, rfl, OWN.out, Below.refl _ _⟩
        case round =>
          obtain ⟨i, A5, c5, hi, rfl, rfl, hown, hbel⟩ := hrel
          have hsr := hbel.size
          have v0 := (hbel.cell (p := ⟨w.heap.size, 0, none⟩) (by simp)).trans z0
          have hsz2 : w.heap.size + 1 ≤ wr.heap.size := by omega
          obtain ⟨asc, lle, _⟩ := lvO_ok p.s p.o k i hi
          have ASC := Lib.hid asc
          have OW := Lib.hid hown
          have BEL := Lib.hid hbel
          by_cases hlt : i < p.o.length
          · obtain ⟨ob, oo, rfl, hob, hoc⟩ := ((H.out.2.below' HB2.out hB).below' hbel (by omega)).int hlt
            have iqk : (i : Int) < (p.o.length : Int) := by omega
            have SUC := Lib.hid (lvO_succ (s := p.s) (k := k) hlt)
            have hst : p.o.getD i 0 = p.o[i] := by simp [hlt]
            rw [hst] at SUC
            obtain ⟨x, hx⟩ : ∃ x, p.o[i] = x := ⟨_, rfl⟩
            rw [hx] at hoc SUC
            have HP := Lib.hid (l1PutO_any (w.heap.size + 1) A5 c5 (lvO p.s p.o k i) x wr (by omega) ASC.out hsz2 OW.out)
            clear hown hbel hst hx asc
            go_wp2_with fail
            go_at_call 119
            refine HP.out.mono ?_
            rintro e w5 ⟨A6, c6, rfl, ho5, hb5⟩
            have BEL5 := Lib.hid (BEL.out.trans (hb5.mono hsz2))
            have OW5 := Lib.hid ho5
            clear ho5 hb5
            go_wp2
            go_roundw
            case rel => exact ⟨i + 1, A6, c6, by omega, by go_num, by rw [SUC.out], by rw [SUC.out]; exact OW5.out, BEL5.out⟩
            case measure => simp [intOf]; omega
          · have hi' : i = p.o.length := by omega
            subst hi'
            have HB3 := Lib.hid (HB2.out.trans (hbel.mono (show w.heap.size ≤ w.heap.size + 1 by omega)))
            have hEQ := HEQ.out
            obtain ⟨L, hL⟩ : ∃ L, lvO p.s p.o k p.o.length = L := ⟨_, rfl⟩
            rw [hL] at OW lle hEQ
            rw [hL]
            have EQ := Lib.hid hEQ
            obtain ⟨m, hm⟩ : ∃ m, wr.heap.size = m := ⟨_, rfl⟩
            have hwm : w.heap.size + 1 ≤ m := by omega
            have hm1 : m ≤ wr.heap.size := by omega
            have OL := Lib.hid OW.out.rd
            rw [hm] at OL
            have BEL0 := Lib.hid (show Below m wr wr from Below.refl _ _)
            clear hown hbel asc ASC hL hEQ z2 z0 hm
            go_wp2
            go_loopw [10, 43] (fun ov iv wq => ∃ (i : Nat) (A6 : Option Addr) (c6 : Nat), i ≤ L.length ∧ iv = .int .i64 i ∧ ov = .slice A6 (flK L ((N : Int) + k) i).length c6 ∧ wq.ownsRow m 3 1 (.slice A6 (flK L ((N : Int) + k) i).length c6) (flK L ((N : Int) + k) i).length ((flK L ((N : Int) + k) i).map I) ∧ Below m wr wq) (fun _ i _ => L.length - (intOf i).toNat)
            case atStart => exact ⟨0, none, 0, by omega, rfl, rfl, by simpa [flK] using World.ownsRow_nil _ _ _ _, BEL0.out⟩
            case round =>
              obtain ⟨i, A6, c6, hi2, rfl, rfl, hown, hbel⟩ := hrel
              have hs4 := hbel.size
              have hsz4 : w.heap.size + 1 ≤ wr.heap.size := by omega
              have v0' := (hbel.cell (p := ⟨w.heap.size, 0, none⟩) (by simp only []; omega)).trans v0
              have hfl := flK_le L ((N : Int) + k) i
              have OW6 := Lib.hid hown
              have BEL6 := Lib.hid hbel
              by_cases hlt : i < L.length
              · obtain ⟨g, off, rfl, hg, hc⟩ := (OL.out.below hbel).int hlt
                have iqk : (i : Int) < (L.length : Int) := by omega
                have hgd : L.getD i 0 = L[i] := by simp [hlt]
                obtain ⟨x, hx⟩ : ∃ x, L[i] = x := ⟨_, rfl⟩
                rw [hx] at hc hgd
                have hw1 : IntKind.i64.wrap ((N : Int) + (k : Int)) = (N : Int) + (k : Int) := IntWalk.i64_in _ (by omega)
                by_cases hq : x < (N : Int) + (k : Int)
                · have HIT := Lib.hid (flK_hit (m := (N : Int) + k) hlt (by rw [hgd]; exact hq))
                  rw [hgd] at HIT
                  clear hown hbel hgd hx
                  go_wp2_with (at_builtin; refine list_step (fun K hK => ?_); refine step_app1 Try.underlying23 info_int rfl (by omega) rfl (.tmp 53) (.tmp 55) rfl m (flK L ((N : Int) + k) i).length _ _ rfl (World.ownsRow.alloc OW6.out _) wr.heap.size 1 (I x) rfl (by simp) rfl (by omega) (by simp; omega) ?_; intro A7 c7 w7 hown7 hg7 hbel7; go_simp; refine hK _ _ ?_; clear hK K)
                  go_roundw
                  case rel =>
                    have hl : (flK L ((N : Int) + k) (i + 1)).length = (flK L ((N : Int) + k) i).length + 1 := by rw [HIT.out]; simp
                    have hm : (flK L ((N : Int) + k) (i + 1)).map I = (flK L ((N : Int) + k) i).map I ++ [I x] := by rw [HIT.out]; simp
                    refine ⟨i + 1, A7, c7, by omega, by go_num, by rw [hl], by rw [hl, hm]; exact hown7, ?_⟩
                    exact (BEL6.out.alloc (by omega) _).trans hbel7
                  case measure => simp [intOf]; omega
                · have MISS := Lib.hid (flK_miss (m := (N : Int) + k) hlt (by rw [hgd]; exact hq))
                  clear hown hbel hgd hx
                  go_wp2
                  go_roundw
                  case rel => exact ⟨i + 1, A6, c6, by omega, by go_num, by rw [MISS.out], by rw [MISS.out]; exact OW6.out, BEL6.out⟩
                  case measure => simp [intOf]; omega
              · have hi' : i = L.length := by omega
                subst hi'
                have HB4 := Lib.hid (HB3.out.trans (hbel.mono (by omega)))
                clear hown hbel
                go_wp2
                go_ret
                refine ⟨A6, c6, by rw [← EQ.out]; rfl, ?_, HB4.out⟩
                show World.ownsRow _ _ _ _ _ _ _
                rw [← EQ.out]
                exact own_base OW6.out (by omega)

    · have hck' : ¬ c1 = k := hck
      go_wp2
      generalize hsv : Value.slice (Option.map (fun x => x.add (k * 2)) A1) 0 (c1 - k) = sv
      clear hsv
      generalize hw1 : World.alloc w _ = w1
      obtain ⟨x0, x1, x2, xs, xb⟩ := box3 hw1
      clear hw1
      have XB := Lib.hid xb
      have XS := Lib.hid xs
      have hw1s : w.heap.size + 1 ≤ w1.heap.size := by omega
      clear xb xs
      go_loopw [5, 18] (fun ov iv wr => ∃ (j : Nat) (A4 : Option Addr) (c4 : Nat), j ≤ p.s.length - k ∧ iv = .int .i64 j ∧ ov = .slice A4 (lvS p.s k j).length c4 ∧ OwI wr (w.heap.size + 1) (.slice A4 (lvS p.s k j).length c4) (lvS p.s k j) ∧ Below (w.heap.size + 1) w1 wr) (fun _ i _ => (p.s.length - k) - (intOf i).toNat)
      case atStart => exact ⟨0, none, 0, by omega, rfl, rfl, by simpa [lvS] using OwI.nil w1 (w.heap.size + 1), Below.refl _ _⟩
      case round =>
        obtain ⟨j, A4, c4, hj, rfl, rfl, hown, hbel⟩ := hrel
        have hsr := hbel.size
        obtain ⟨asc, lle⟩ := lvS_asc p.s k j
        have hsz : w.heap.size + 1 ≤ wr.heap.size := by omega
        have hj' : j = 0 := by omega
        subst hj'
        have hz : ((0 : Nat) : Int) = 0 := rfl
        rw [hz]
        clear hz
        have h0 : p.s.length - k = 0 := by omega
        have z2 := (hbel.cell (p := ⟨w.heap.size, 2, none⟩) (by simp)).trans x2
        have z0 := (hbel.cell (p := ⟨w.heap.size, 0, none⟩) (by simp)).trans x0
        have HB2 := Lib.hid (XB.out.trans (hbel.mono (show w.heap.size ≤ w.heap.size + 1 by omega)))
        have hlo := (lvO_ok p.s p.o k 0 (by omega)).2.1
        have hl0 : lvO p.s p.o k 0 = lvS p.s k 0 := by unfold lvO; rw [uniK_zero, h0]
        have hown' : OwI wr (w.heap.size + 1) (.slice A4 (lvO p.s p.o k 0).length c4) (lvO p.s p.o k 0) := by rw [hl0]; exact hown
        have OWN := Lib.hid hown'
        rw [← hl0]
        clear hown hown' hbel x0 x1 x2 hl0 h0
        go_wp2
        go_loopw [5, 33] (fun ov iv wq => ∃ (i : Nat) (A5 : Option Addr) (c5 : Nat), i ≤ p.o.length ∧ iv = .int .i64 i ∧ ov = .slice A5 (lvO p.s p.o k i).length c5 ∧ OwI wq (w.heap.size + 1) (.slice A5 (lvO p.s p.o k i).length c5) (lvO p.s p.o k i) ∧ Below (w.heap.size + 1) wr wq) (fun _ i _ => p.o.length - (intOf i).toNat)
        case atStart => exact ⟨0, A4, c4, by omega, rfl, rfl, OWN.out, Below.refl _ _⟩
        case round =>
          obtain ⟨i, A5, c5, hi, rfl, rfl, hown, hbel⟩ := hrel
          have hsr := hbel.size
          have v0 := (hbel.cell (p := ⟨w.heap.size, 0, none⟩) (by simp)).trans z0
          have hsz2 : w.heap.size + 1 ≤ wr.heap.size := by omega
          obtain ⟨asc, lle, _⟩ := lvO_ok p.s p.o k i hi
          have ASC := Lib.hid asc
          have OW := Lib.hid hown
          have BEL := Lib.hid hbel
          by_cases hlt : i < p.o.length
          · obtain ⟨ob, oo, rfl, hob, hoc⟩ := ((H.out.2.below' HB2.out hB).below' hbel (by omega)).int hlt
            have iqk : (i : Int) < (p.o.length : Int) := by omega
            have SUC := Lib.hid (lvO_succ (s := p.s) (k := k) hlt)
            have hst : p.o.getD i 0 = p.o[i] := by simp [hlt]
            rw [hst] at SUC
            obtain ⟨x, hx⟩ : ∃ x, p.o[i] = x := ⟨_, rfl⟩
            rw [hx] at hoc SUC
            have HP := Lib.hid (l1PutO_any (w.heap.size + 1) A5 c5 (lvO p.s p.o k i) x wr (by omega) ASC.out hsz2 OW.out)
            clear hown hbel hst hx asc
            go_wp2_with fail
            go_at_call 119
            refine HP.out.mono ?_
            rintro e w5 ⟨A6, c6, rfl, ho5, hb5⟩
            have BEL5 := Lib.hid (BEL.out.trans (hb5.mono hsz2))
            have OW5 := Lib.hid ho5
            clear ho5 hb5
            go_wp2
            go_roundw
            case rel => exact ⟨i + 1, A6, c6, by omega, by go_num, by rw [SUC.out], by rw [SUC.out]; exact OW5.out, BEL5.out⟩
            case measure => simp [intOf]; omega
          · have hi' : i = p.o.length := by omega
            subst hi'
            have HB3 := Lib.hid (HB2.out.trans (hbel.mono (show w.heap.size ≤ w.heap.size + 1 by omega)))
            have hEQ := HEQ.out
            obtain ⟨L, hL⟩ : ∃ L, lvO p.s p.o k p.o.length = L := ⟨_, rfl⟩
            rw [hL] at OW lle hEQ
            rw [hL]
            have EQ := Lib.hid hEQ
            obtain ⟨m, hm⟩ : ∃ m, wr.heap.size = m := ⟨_, rfl⟩
            have hwm : w.heap.size + 1 ≤ m := by omega
            have hm1 : m ≤ wr.heap.size := by omega
            have OL := Lib.hid OW.out.rd
            rw [hm] at OL
            have BEL0 := Lib.hid (show Below m wr wr from Below.refl _ _)
            clear hown hbel asc ASC hL hEQ z2 z0 hm
            go_wp2
            go_loopw [10, 43] (fun ov iv wq => ∃ (i : Nat) (A6 : Option Addr) (c6 : Nat), i ≤ L.length ∧ iv = .int .i64 i ∧ ov = .slice A6 (flK L ((N : Int) + k) i).length c6 ∧ wq.ownsRow m 3 1 (.slice A6 (flK L ((N : Int) + k) i).length c6) (flK L ((N : Int) + k) i).length ((flK L ((N : Int) + k) i).map I) ∧ Below m wr wq) (fun _ i _ => L.length - (intOf i).toNat)
            case atStart => exact ⟨0, none, 0, by omega, rfl, rfl, by simpa [flK] using World.ownsRow_nil _ _ _ _, BEL0.out⟩
            case round =>
              obtain ⟨i, A6, c6, hi2, rfl, rfl, hown, hbel⟩ := hrel
              have hs4 := hbel.size
              have hsz4 : w.heap.size + 1 ≤ wr.heap.size := by omega
              have v0' := (hbel.cell (p := ⟨w.heap.size, 0, none⟩) (by simp only []; omega)).trans v0
              have hfl := flK_le L ((N : Int) + k) i
              have OW6 := Lib.hid hown
              have BEL6 := Lib.hid hbel
              by_cases hlt : i < L.length
              · obtain ⟨g, off, rfl, hg, hc⟩ := (OL.out.below hbel).int hlt
                have iqk : (i : Int) < (L.length : Int) := by omega
                have hgd : L.getD i 0 = L[i] := by simp [hlt]
                obtain ⟨x, hx⟩ : ∃ x, L[i] = x := ⟨_, rfl⟩
                rw [hx] at hc hgd
                have hw1 : IntKind.i64.wrap ((N : Int) + (k : Int)) = (N : Int) + (k : Int) := IntWalk.i64_in _ (by omega)
                by_cases hq : x < (N : Int) + (k : Int)
                · have HIT := Lib.hid (flK_hit (m := (N : Int) + k) hlt (by rw [hgd]; exact hq))
                  rw [hgd] at HIT
                  clear hown hbel hgd hx
                  go_wp2_with (at_builtin; refine list_step (fun K hK => ?_); refine step_app1 Try.underlying23 info_int rfl (by omega) rfl (.tmp 53) (.tmp 55) rfl m (flK L ((N : Int) + k) i).length _ _ rfl (World.ownsRow.alloc OW6.out _) wr.heap.size 1 (I x) rfl (by simp) rfl (by omega) (by simp; omega) ?_; intro A7 c7 w7 hown7 hg7 hbel7; go_simp; refine hK _ _ ?_; clear hK K)
                  go_roundw
                  case rel =>
                    have hl : (flK L ((N : Int) + k) (i + 1)).length = (flK L ((N : Int) + k) i).length + 1 := by rw [HIT.out]; simp
                    have hm : (flK L ((N : Int) + k) (i + 1)).map I = (flK L ((N : Int) + k) i).map I ++ [I x] := by rw [HIT.out]; simp
                    refine ⟨i + 1, A7, c7, by omega, by go_num, by rw [hl], by rw [hl, hm]; exact hown7, ?_⟩
                    exact (BEL6.out.alloc (by omega) _).trans hbel7
                  case measure => simp [intOf]; omega
                · have MISS := Lib.hid (flK_miss (m := (N : Int) + k) hlt (by rw [hgd]; exact hq))
                  clear hown hbel hgd hx
                  go_wp2
                  go_roundw
                  case rel => exact ⟨i + 1, A6, c6, by omega, by go_num, by rw [MISS.out], by rw [MISS.out]; exact OW6.out, BEL6.out⟩
                  case measure => simp [intOf]; omega
              · have hi' : i = L.length := by omega
                subst hi'
                have HB4 := Lib.hid (HB3.out.trans (hbel.mono (by omega)))
                clear hown hbel
                go_wp2
                go_ret
                refine ⟨A6, c6, by rw [← EQ.out]; rfl, ?_, HB4.out⟩
                show World.ownsRow _ _ _ _ _ _ _
                rw [← EQ.out]
                exact own_base OW6.out (by omega)

end Go.Proofs.Ytlkieebmfmiafaa
