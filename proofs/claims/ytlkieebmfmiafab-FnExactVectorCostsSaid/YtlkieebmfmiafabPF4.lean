/- Joined: Wb Ti Na Wc Pl Tj Pm. -/
import Derived.Test.YtlkieebmfmiafabPF3
import Derived.Test.YtlkieebmfmiafabPF0
/- Plans for several powers of one input, by the program. -/
namespace Go.Proofs.Ytlkieebmfmiafab
open Go.RowKit

/-- An append to an own row of numbers keeps the maker. -/
theorem MkS.app {w w3 : World} {B B' g k c : Nat} {n : Int} {s : List (Int × Int)} {l : List Int} {A : Option Addr} {o : Obj} (h : MkS w B g n s) (ho : OwI w B' (.slice A k c) l) (hg : (w.alloc o).grownBy w3 (Value.slice A k c).ownBlock) : MkS w3 B g n s := by
  have hgl := h.lt
  obtain ⟨A1, c1, h1, h2⟩ := h
  have hbA : (w.alloc o).heap[g]? = _ := (Below.heap_alloc w o g hgl).trans h1
  exact ⟨A1, c1, (hg.block g (by simp; omega) (own_ne_blk (World.ownsRow.alloc ho o) hbA (by decide))).trans hbA, World.ownsRow.kept (World.ownsRow.alloc h2 o) hg (own_ne h2 ho (by decide))⟩

set_option maxRecDepth 100000 in
set_option maxHeartbeats 2000000 in
theorem implSquares_any (B : Nat) (A : Option Addr) (c : Nat) (l : List Int) (w : World) (hB : B ≤ w.heap.size) (hl : l.length ≤ 1048576) (_hcap : l.length ≤ c) (hr : Rd w B 1 A l.length (l.map I)) :
    Calls Try.prog 30 #[.slice A l.length c] w fun e w' =>
      ∃ R1 R2 v1 v2, e = .returned (.tuple #[.agg #[.int .i64 (sqR l).n, .slice R1 (sqR l).s.length v1, .slice R2 (sqR l).o.length v2], .bool (sqG l)]) ∧ OwP w' w.heap.size R1 R2 v1 v2 (sqR l) ∧ Below w.heap.size w w' := by
  have H := Lib.hid hr
  clear hr
  have bad : sqB l = false → sqR l = zeroP ∧ sqG l = false := fun h => ⟨by unfold sqR; rw [if_neg (by rw [h]; decide)], by unfold sqG; rw [h]; rfl⟩
  by_cases h1 : l.length < 1
  · obtain ⟨E1, E2⟩ := bad (sqB_short h1)
    have e1 := Lib.hid E1
    have e2 := Lib.hid E2
    clear E1 E2 bad
    have i1 : (l.length : Int) < 1 := by omega
    go_enter Try.func30, Try.ntmps30
    go_wp2
    generalize hw1 : World.alloc w _ = w1
    obtain ⟨q0, xs, xb⟩ := zero_box hw1
    clear hw1
    obtain ⟨t0, t1, t2, g0, g1, g2⟩ := cells3 q0
    go_wp2
    refine bodyPost_ret (v := .tuple #[.agg #[.int .i64 0, .slice none 0 0, .slice none 0 0], .bool false]) (by simp [results, Try.results30, go_sem, t0, t1, t2]) rfl ⟨none, none, 0, 0, by rw [e1.out, e2.out]; rfl, by rw [e1.out]; exact OwP.zero _ _, ?_⟩
    first | exact xb | exact ((xb.setCell (Nat.le_refl _) _).setCell (Nat.le_refl _) _).setCell (Nat.le_refl _) _
  by_cases h6 : 6 < l.length
  · obtain ⟨E1, E2⟩ := bad (sqB_long h6)
    have e1 := Lib.hid E1
    have e2 := Lib.hid E2
    clear E1 E2 bad
    have i1 : ¬ (l.length : Int) < 1 := by omega
    have i6 : (6 : Int) < (l.length : Int) := by omega
    go_enter Try.func30, Try.ntmps30
    go_wp2
    generalize hw1 : World.alloc w _ = w1
    obtain ⟨q0, xs, xb⟩ := zero_box hw1
    clear hw1
    obtain ⟨t0, t1, t2, g0, g1, g2⟩ := cells3 q0
    go_wp2
    refine bodyPost_ret (v := .tuple #[.agg #[.int .i64 0, .slice none 0 0, .slice none 0 0], .bool false]) (by simp [results, Try.results30, go_sem, t0, t1, t2]) rfl ⟨none, none, 0, 0, by rw [e1.out, e2.out]; rfl, by rw [e1.out]; exact OwP.zero _ _, ?_⟩
    first | exact xb | exact ((xb.setCell (Nat.le_refl _) _).setCell (Nat.le_refl _) _).setCell (Nat.le_refl _) _
  have h1' : 1 ≤ l.length := by omega
  have h6' : l.length ≤ 6 := by omega
  have i1 : ¬ (l.length : Int) < 1 := by omega
  have i6 : ¬ (6 : Int) < (l.length : Int) := by omega
  have hTB := sqB_of h1' h6'
  obtain ⟨m, hm⟩ : ∃ m, mnA l = m := ⟨_, rfl⟩
  obtain ⟨M, hM⟩ : ∃ M, mxA l = M := ⟨_, rfl⟩
  have hMin := fun W hrW => min_any w.heap.size A c l W h1' (by omega) hrW
  have hMax := fun W hrW => max_any w.heap.size A c l W h1' (by omega) hrW
  rw [hm] at hMin
  rw [hM] at hMax
  rw [hm, hM] at hTB
  have hm' := hm
  have MIN := Lib.hid hMin
  have MAX := Lib.hid hMax
  have HM := Lib.hid hM
  clear hMin hMax hm
  by_cases hneg : m < 1
  · obtain ⟨E1, E2⟩ := bad (by rw [hTB, decide_eq_true hneg]; rfl)
    have e1 := Lib.hid E1
    have e2 := Lib.hid E2
    clear E1 E2 bad hTB hM hm'
    go_enter Try.func30, Try.ntmps30
    go_wp2_with fail
    go_at_call 58
    generalize hw1 : World.alloc w _ = w1
    obtain ⟨q0, xs, xb⟩ := zero_box hw1
    clear hw1
    refine (MIN.out w1 ((H.out.below' xb hB).more hB)).mono ?_
    rintro e w' ⟨rfl, rfl⟩
    obtain ⟨t0, t1, t2, g0, g1, g2⟩ := cells3 q0
    go_wp2
    refine bodyPost_ret (v := .tuple #[.agg #[.int .i64 0, .slice none 0 0, .slice none 0 0], .bool false]) (by simp [results, Try.results30, go_sem, t0, t1, t2]) rfl ⟨none, none, 0, 0, by rw [e1.out, e2.out]; rfl, by rw [e1.out]; exact OwP.zero _ _, ?_⟩
    first | exact xb | exact ((xb.setCell (Nat.le_refl _) _).setCell (Nat.le_refl _) _).setCell (Nat.le_refl _) _
  obtain ⟨gM, hgM⟩ : ∃ g, isNum M = g := ⟨_, rfl⟩
  cases gM with
  | false =>
    obtain ⟨E1, E2⟩ := bad (by rw [hTB, hgM, Bool.and_false])
    have e1 := Lib.hid E1
    have e2 := Lib.hid E2
    have GM := Lib.hid hgM
    clear E1 E2 bad hTB hM hgM hm'
    go_enter Try.func30, Try.ntmps30
    go_wp2_with fail
    go_at_call 58
    generalize hw1 : World.alloc w _ = w1
    obtain ⟨q0, xs, xb⟩ := zero_box hw1
    clear hw1
    refine (MIN.out w1 ((H.out.below' xb hB).more hB)).mono ?_
    rintro e w' ⟨rfl, rfl⟩
    go_wp2_with (first | (go_at_call 60; refine (MAX.out w1 ((H.out.below' xb hB).more hB)).mono ?_; rintro e w' ⟨rfl, rfl⟩) | (go_at_call 59; refine (isExponent_any M _).mono ?_; rw [GM.out]; rintro e w' ⟨rfl, rfl⟩; obtain ⟨t0, t1, t2, g0, g1, g2⟩ := cells3 q0))
    refine bodyPost_ret (v := .tuple #[.agg #[.int .i64 0, .slice none 0 0, .slice none 0 0], .bool false]) (by simp [results, Try.results30, go_sem, t0, t1, t2]) rfl ⟨none, none, 0, 0, by rw [e1.out, e2.out]; rfl, by rw [e1.out]; exact OwP.zero _ _, ?_⟩
    first | exact xb | exact ((xb.setCell (Nat.le_refl _) _).setCell (Nat.le_refl _) _).setCell (Nat.le_refl _) _
  | true =>
  have ETB := Lib.hid (show sqB l = true by rw [hTB, decide_eq_false hneg, hgM]; rfl)
  have HPOS := Lib.hid (show ∀ (i : Nat) (h : i < l.length), ∃ e : Nat, l[i] = (e : Int) ∧ 1 ≤ e ∧ e ≤ 1000000 from fun i h => by
    have h1 := (sq_rng ETB.out).2.2 _ (List.getElem_mem h)
    exact ⟨(l[i]).toNat, by omega, by omega, by omega⟩)
  have hgr : grA l = M := by rw [← hM]; exact (sq_gr ETB.out).1
  have ⟨mr1, mr2⟩ := isNum_rng hgM
  have GM := Lib.hid hgM
  have GR := Lib.hid hgr
  clear bad hTB hM hgM hgr hm'
  go_enter Try.func30, Try.ntmps30
  go_wp2_with fail
  go_at_call 58
  generalize hw1 : World.alloc w _ = w1
  obtain ⟨q0, xs, xb⟩ := zero_box hw1
  clear hw1
  have Q0 := Lib.hid q0
  have XB := Lib.hid xb
  have XS := Lib.hid xs
  refine (MIN.out w1 ((H.out.below' xb hB).more hB)).mono ?_
  rintro e w' ⟨rfl, rfl⟩
  clear q0 xs xb
  go_wp2_with fail
  go_at_call 60
  refine (MAX.out w1 ((H.out.below' XB.out hB).more hB)).mono ?_
  rintro e w' ⟨rfl, rfl⟩
  go_wp2_with fail
  go_at_call 59
  refine (isExponent_any M _).mono ?_
  rw [GM.out]
  rintro e w' ⟨rfl, rfl⟩
  go_wp2_with fail
  go_at_call 60
  generalize hw2 : World.alloc w1 _ = w2
  obtain ⟨mk2, b2⟩ := mk_new (B := w1.heap.size) hw2
  clear hw2
  have MK := Lib.hid mk2
  have B2 := Lib.hid b2
  have HR := fun W (hW : Below w1.heap.size w1 W) => ((H.out.below' XB.out hB).below' hW (show B ≤ w1.heap.size by have := XS.out; omega))
  have HR2 := Lib.hid HR
  clear mk2 b2 HR
  refine (MAX.out w2 ((HR2.out w2 B2.out).more hB)).mono ?_
  rintro e w' ⟨rfl, rfl⟩
  go_wp2_with fail
  go_at_call 62
  refine (bitsLen_any M _ (by omega) (by omega)).mono ?_
  rintro e w' ⟨rfl, rfl⟩
  obtain ⟨L, hL⟩ : ∃ L, bl (grA l) = L := ⟨_, rfl⟩
  have hL2 : Lib.bitLen M.toNat = L := by rw [← hL, GR.out]; rfl
  have hL20 : L ≤ 20 := by rw [← hL2]; exact bl_bd (by omega)
  rw [hL2]
  have HL := Lib.hid hL
  clear hL hL2
  have hL1 : 1 ≤ L := by
    rw [← HL.out, GR.out]
    exact bl_more (n := M.toNat) (b := 0) (by omega) (by simp; omega)
  obtain ⟨K, hK⟩ : ∃ K, L - 1 = K := ⟨_, rfl⟩
  have ek : (L : Int) - 1 = (K : Int) := by omega
  have EZ0 := Lib.hid (show (sqN 1 ([], 0) K).1 = sqZ l by unfold sqZ; rw [HL.out, hK])
  have hlen := fun k hk => sqO_len ETB.out k hk
  have HLEN := Lib.hid hlen
  clear hK hlen
  go_wp2_with fail
  go_at_call 61
  refine (makerSquare_any w1.heap.size w1.heap.size 1 ([], 0) K _ (Nat.le_refl _) MK.out (by simp; omega) (by omega) (by omega)).mono ?_
  rintro e w3 ⟨rfl, hm3, hb3, _⟩
  rw [EZ0.out] at hm3
  obtain ⟨Z, hZ⟩ : ∃ Z, sqZ l = Z := ⟨_, rfl⟩
  rw [hZ] at hm3 HLEN
  have EZ := Lib.hid hZ
  have M3 := Lib.hid hm3
  have B3 := Lib.hid (B2.out.trans hb3)
  clear hm3 hb3 hZ ek
  go_wp2
  go_loopw [5, 39] (fun ov iv wr => ∃ (k : Nat) (A1 : Option Addr) (c1 : Nat), k ≤ l.length ∧ iv = .int .i64 k ∧ ov = .slice A1 k c1 ∧ OwI wr w1.heap.size ov (sqO l Z k).2 ∧ MkS wr w1.heap.size w1.heap.size 1 (sqO l Z k).1 ∧ Below w1.heap.size w1 wr) (fun _ iv _ => l.length - (intOf iv).toNat)
  case atStart => exact ⟨0, none, 0, by omega, rfl, rfl, OwI.nil _ _, M3.out, B3.out⟩
  case round =>
    obtain ⟨k, A1, c1, hk, rfl, rfl, hown, hmk, hbel⟩ := hrel
    have OWN := Lib.hid hown
    have MKR := Lib.hid hmk
    have BEL := Lib.hid hbel
    have hlk := HLEN.out k hk
    have hl2 := sqO_len2 l Z k
    clear hown hmk hbel
    by_cases hlt : k < l.length
    case neg =>
      have e : k = l.length := by omega
      subst e
      obtain ⟨x, hx⟩ : ∃ x, sqO l Z l.length = x := ⟨_, rfl⟩
      have EP := Lib.hid (show sqP l = ⟨1, x.1, x.2⟩ by unfold sqP; rw [EZ.out, hx])
      have ERt := Lib.hid (show sqR l = mkR ⟨1, x.1, x.2⟩ by rw [← EP.out]; unfold sqR; rw [if_pos ETB.out])
      have EGt := Lib.hid (show sqG l = good ⟨1, x.1, x.2⟩ by rw [← EP.out]; unfold sqG; rw [ETB.out, Bool.true_and])
      rw [hx] at hl2 hlk OWN MKR
      clear hx
      have ho := OWN.out
      rw [← hl2] at ho
      have hP := makerPlan_any w1.heap.size w1.heap.size A1 c1 ⟨1, x.1, x.2⟩ wr (Nat.le_refl _) MKR.out ho (by show x.1.length ≤ 1000; omega) (by show x.2.length ≤ 1000; omega)
      rw [show (⟨1, x.1, x.2⟩ : Pl).o.length = l.length from hl2] at hP
      have HP := Lib.hid hP
      clear ho hP hl2
      go_wp2_with fail
      go_at_call 65
      refine HP.out.mono ?_
      rintro e w5 ⟨R1, R2, v1, v2, rfl, ho5, hb5⟩
      rw [← ERt.out, ← EGt.out]
      have hb15 : Below w1.heap.size w1 w5 := BEL.out.trans (hb5.mono BEL.out.size)
      rw [← ERt.out] at ho5
      have q5 := (hb15.block w.heap.size (by have := XS.out; omega)).trans Q0.out
      obtain ⟨t0, t1, t2, g0, g1, g2⟩ := cells3 q5
      have B5 := Lib.hid (XB.out.trans (hb15.mono (by have := XS.out; omega)))
      have O5 := Lib.hid ho5
      have Q5 := Lib.hid q5
      clear hb15 ho5 q5
      go_wp2
      refine bodyPost_ret (v := .tuple #[.agg #[.int .i64 (sqR l).n, .slice R1 (sqR l).s.length v1, .slice R2 (sqR l).o.length v2], .bool (sqG l)]) (by simp [results, Try.results30, go_sem, t0, t1, t2]) rfl ⟨R1, R2, v1, v2, rfl, ?_, ?_⟩
      · refine owP_of3 (own_base O5.out.1 (by have := XS.out; omega)) (own_base O5.out.2 (by have := XS.out; omega)) Q5.out (by decide) (by decide) rfl rfl _ _ _
      · exact ((B5.out.setCell (by simp) _).setCell (by simp) _).setCell (by simp) _
    case pos =>
    have ik : (k : Int) < (l.length : Int) := by omega
    obtain ⟨b, off, rfl, hb, hcell⟩ := (HR2.out wr BEL.out).int hlt
    obtain ⟨e, he, he1, he2⟩ := HPOS.out k hlt
    rw [he] at hcell
    obtain ⟨y, hy⟩ : ∃ y, sqO l Z k = y := ⟨_, rfl⟩
    obtain ⟨J, hJ⟩ : ∃ J, Lib.bitLen e = J := ⟨_, rfl⟩
    have hJ20 : J ≤ 20 := by rw [← hJ]; exact bl_bd (by omega)
    have EK := Lib.hid (show sqO l Z (k + 1) = ((stT e y.1 J).1, y.2 ++ [(stT e y.1 J).2]) by
      have hg : l.getD k 0 = (e : Int) := by simp [hlt, he]
      show ((stT (l.getD k 0).toNat (sqO l Z k).1 (bl (l.getD k 0))).1, (sqO l Z k).2 ++ [(stT (l.getD k 0).toNat (sqO l Z k).1 (bl (l.getD k 0))).2]) = _
      rw [hy, hg, show bl (e : Int) = J from hJ]
      rfl)
    rw [hy] at OWN MKR hlk hl2
    have hJ' : Lib.bitLen ((e : Int)).toNat = J := hJ
    have HJ := Lib.hid hJ'
    have EL := Lib.hid hl2
    clear hy he hJ hJ' hl2
    go_wp2_with fail
    go_at_call 62
    refine (bitsLen_any (e : Int) _ (by omega) (by omega)).mono ?_
    rintro e' w' ⟨rfl, hww⟩
    subst w'
    rw [HJ.out]
    obtain ⟨wo, rfl⟩ : ∃ wo, wo = wr := ⟨wr, rfl⟩
    clear hcell
    go_wp2
    go_loopw [8, 46] (fun pv iv wr => ∃ j : Nat, j ≤ J ∧ iv = .int .i64 j ∧ pv = .int .i64 (stT e y.1 j).2 ∧ MkS wr w1.heap.size w1.heap.size 1 (stT e y.1 j).1 ∧ OwI wr w1.heap.size (.slice A1 k c1) y.2 ∧ Below w1.heap.size w1 wr) (fun _ iv _ => J - (intOf iv).toNat)
    case atStart => exact ⟨0, by omega, rfl, rfl, MKR.out, OWN.out, BEL.out⟩
    case round =>
      obtain ⟨j, hj, rfl, rfl, hmk, hown, hbel⟩ := hrel
      have MI := Lib.hid hmk
      have OI := Lib.hid hown
      have BI := Lib.hid hbel
      clear hmk hown hbel
      by_cases hjl : j < J
      · have ij : (j : Int) < (J : Int) := by omega
        have hzl := stT_len e y.1 j
        obtain ⟨z, hz⟩ : ∃ z, stT e y.1 j = z := ⟨_, rfl⟩
        have EZ2 := Lib.hid (show stT e y.1 (j + 1) = if bitB e j then onS 1 z (j : Int) else z by rw [← hz]; rfl)
        rw [hz] at MI hzl
        rw [hz]
        clear hz
        cases hbit : bitB e j with
        | true =>
          rw [hbit] at EZ2
          have HB := Lib.hid hbit
          have hO := makerOnto_any w1.heap.size w1.heap.size 1 z j wr (Nat.le_refl _) MI.out (by omega) (by omega) (by omega)
          have HO := Lib.hid hO
          clear hbit hO
          go_wp2_with (first
            | (go_at_call 63; refine (hasDigit_any e j _ (by omega)).mono ?_; rw [HB.out]; rintro e' w' ⟨rfl, rfl⟩)
            | (go_at_call 64; refine HO.out.mono ?_; rintro e' w' ⟨rfl, hm', hb', hkp⟩))
          go_roundw
          case rel => exact ⟨j + 1, by omega, by go_num, by rw [EZ2.out]; rfl, by rw [EZ2.out]; exact hm', hkp.ints OI.out, BI.out.trans hb'⟩
          case measure => simp [intOf]; omega
        | false =>
          rw [hbit] at EZ2
          have HB := Lib.hid hbit
          clear hbit
          go_wp2_with (go_at_call 63; refine (hasDigit_any e j _ (by omega)).mono ?_; rw [HB.out]; rintro e' w' ⟨rfl, rfl⟩)
          go_roundw
          case rel => exact ⟨j + 1, by omega, by go_num, by rw [EZ2.out]; rfl, by rw [EZ2.out]; exact MI.out, OI.out, BI.out⟩
          case measure => simp [intOf]; omega
      · have ej : j = J := by omega
        subst ej
        obtain ⟨z, hz⟩ : ∃ z, stT e y.1 j = z := ⟨_, rfl⟩
        rw [hz] at MI EK
        rw [hz]
        clear hz
        have hs := BI.out.size
        go_wp2_with (at_builtin; refine list_step (fun K hK => ?_); refine step_app_int rfl (.tmp 56) (.tmp 58) rfl w1.heap.size k _ y.2 rfl (OI.out.alloc _) EL.out wr.heap.size 1 z.2 rfl (by simp) (by omega) (by simp; omega) ?_; intro A3 c3 w3 hown3 hg3 hbel3; go_simp; refine hK _ _ ?_; clear hK K)
        have MN := Lib.hid (MI.out.app OI.out hg3)
        go_roundw
        case rel => exact ⟨k + 1, A3, c3, by omega, by go_num, rfl, by rw [EK.out]; exact hown3, by rw [EK.out]; exact MN.out, (BI.out.alloc hs _).trans hbel3⟩
        case measure => simp [intOf]; omega
end Go.Proofs.Ytlkieebmfmiafab
/- Plans for several inputs together, by the model. -/
namespace Go.Proofs.Ytlkieebmfmiafab
open Go.RowKit
end Go.Proofs.Ytlkieebmfmiafab
/- Digits to a base; least factors. -/
namespace Go.Proofs.Ytlkieebmfmiafab
open Go.RowKit

def lenD (b : Nat) : Nat → Nat → Nat
  | 0, _ => 0
  | f + 1, n => if n = 0 then 0 else lenD b f (n / b) + 1
def digL (b n k : Nat) : List Int := (List.range k).map fun i => ((n / b ^ i % b : Nat) : Int)
/-- The digits of n to the base b, the lowest one first. -/
def dgs (b n : Nat) : List Int := digL b n (lenD b 20 n)
theorem lenD_le (b : Nat) : ∀ f n, lenD b f n ≤ f := by
  intro f
  induction f with
  | zero => intro n; exact Nat.le_refl _
  | succ f ih =>
    intro n
    unfold lenD
    split
    · omega
    · have := ih (n / b); omega
theorem lenD_pos (b : Nat) : ∀ f n k, k < lenD b f n → 0 < n / b ^ k := by
  intro f
  induction f with
  | zero => intro n k h; exact absurd h (by simp [lenD])
  | succ f ih =>
    intro n k h
    unfold lenD at h
    split at h
    · omega
    · cases k with
      | zero => simp; omega
      | succ k =>
        have := ih (n / b) k (by omega)
        rwa [Nat.div_div_eq_div_mul, Nat.mul_comm, ← Nat.pow_succ] at this
theorem lenD_end {b : Nat} (hb : 2 ≤ b) : ∀ f n, n < 2 ^ f → n / b ^ lenD b f n = 0 := by
  intro f
  induction f with
  | zero => intro n h; have : n = 0 := by simpa using h
            subst this; simp
  | succ f ih =>
    intro n h
    unfold lenD
    split
    · rename_i h0; subst h0; simp
    · have h1 : n / b < 2 ^ f := by
        have h2 : n / b ≤ n / 2 := Nat.div_le_div_left hb (by omega)
        have : n / 2 < 2 ^ f := by rw [Nat.div_lt_iff_lt_mul (by omega)]; rwa [Nat.pow_succ] at h
        omega
      have := ih (n / b) h1
      rwa [Nat.div_div_eq_div_mul, Nat.mul_comm, ← Nat.pow_succ] at this
theorem digL_len (b n k : Nat) : (digL b n k).length = k := by simp [digL]
theorem digL_succ (b n k : Nat) : digL b n (k + 1) = digL b n k ++ [((n / b ^ k % b : Nat) : Int)] := by simp [digL, List.range_succ]
theorem dgs_len (b n : Nat) : (dgs b n).length ≤ 20 := by unfold dgs; rw [digL_len]; exact lenD_le b 20 n
theorem div_step (b n k : Nat) : n / b ^ k / b = n / b ^ (k + 1) := by rw [Nat.div_div_eq_div_mul, ← Nat.pow_succ]
theorem dgs_end {b n k : Nat} (hk : k ≤ lenD b 20 n) (h : n / b ^ k = 0) : digL b n k = dgs b n := by
  unfold dgs
  rcases Nat.lt_or_eq_of_le hk with h' | h'
  · have := lenD_pos b 20 n k h'; omega
  · rw [h']
theorem dgs_more {b n k : Nat} (hb : 2 ≤ b) (hn : n ≤ 1000000) (hk : k ≤ lenD b 20 n) (h : 0 < n / b ^ k) : k + 1 ≤ lenD b 20 n := by
  rcases Nat.lt_or_eq_of_le hk with h' | h'
  · omega
  · have := lenD_end hb 20 n (by omega)
    rw [h'] at h
    omega

set_option maxRecDepth 100000 in
set_option maxHeartbeats 1000000 in
theorem meDigits_any (b n : Nat) (w : World) (hb2 : 2 ≤ b) (hb64 : b ≤ 64) (hn : n ≤ 1000000) :
    Calls Try.prog 53 #[.int .i64 (n : Int), .int .i64 (b : Int)] w fun e w' => ∃ A c, e = .returned (.slice A (dgs b n).length c) ∧ OwI w' w.heap.size (.slice A (dgs b n).length c) (dgs b n) ∧ Below w.heap.size w w' := by
  have hb0 : ((b : Int) == 0) = false := by simp; omega
  go_enter Try.func53, Try.ntmps53
  go_wp2
  go_loopw [0, 5] (fun nv ov wr => ∃ (k : Nat) (A1 : Option Addr) (c1 : Nat), k ≤ lenD b 20 n ∧ nv = .int .i64 ((n / b ^ k : Nat) : Int) ∧ ov = .slice A1 k c1 ∧ OwI wr w.heap.size ov (digL b n k) ∧ Below w.heap.size w wr) (fun nv _ _ => (intOf nv).toNat)
  case atStart => exact ⟨0, none, 0, by omega, by simp, rfl, OwI.nil _ _, Below.refl _ _⟩
  case round =>
    obtain ⟨k, A1, c1, hk, rfl, rfl, hown, hbel⟩ := hrel
    have OWN := Lib.hid hown
    have BEL := Lib.hid hbel
    have hs := hbel.size
    clear hown hbel
    have hMn : n / b ^ k ≤ n := Nat.div_le_self _ _
    have E1 := Lib.hid (digL_succ b n k)
    have E2 := Lib.hid (div_step b n k)
    have EE := Lib.hid (fun h : n / b ^ k = 0 => dgs_end hk h)
    have EM := Lib.hid (fun h : 0 < n / b ^ k => dgs_more hb2 hn hk h)
    have EL := Lib.hid (digL_len b n k)
    have hk20 := lenD_le b 20 n
    obtain ⟨M, hM⟩ : ∃ M, n / b ^ k = M := ⟨_, rfl⟩
    rw [hM] at hMn E1 E2 EE EM
    rw [hM]
    clear hM
    by_cases hp : 0 < M
    · have ip : (0 : Int) < (M : Int) := by omega
      have hdl : M / b < M := Nat.div_lt_self hp (by omega)
      obtain ⟨Q, hQ⟩ : ∃ Q, M / b = Q := ⟨_, rfl⟩
      rw [hQ] at E2 hdl
      have ew : wrap64 ((M : Int) / (b : Int)) = (Q : Int) := by
        rw [show (M : Int) / (b : Int) = (Q : Int) by rw [← hQ]; push_cast; rfl]
        unfold wrap64; omega
      clear hQ
      go_wp2_with (at_builtin; refine list_step (fun K hK => ?_); refine step_app_int rfl (.tmp 11) (.tmp 15) rfl w.heap.size k _ (digL b n k) rfl (OWN.out.alloc _) EL.out wr.heap.size 1 ((M % b : Nat) : Int) rfl (by simp) (by omega) (by simp; omega) ?_; intro A3 c3 w3 hown3 hg3 hbel3; go_simp; refine hK _ _ ?_; clear hK K)
      go_roundw
      case rel => exact ⟨k + 1, A3, c3, EM.out hp, by rw [ew, ← E2.out], rfl, by rw [E1.out]; exact hown3, (BEL.out.alloc hs _).trans hbel3⟩
      case measure => rw [ew]; simp [intOf]; omega
    · have h0 : M = 0 := by omega
      have ip : ¬ (0 : Int) < (M : Int) := by omega
      have ED := Lib.hid (EE.out h0)
      go_wp2
      go_ret
      exact ⟨A1, c1, by rw [← ED.out, EL.out]; rfl, by rw [← ED.out, EL.out]; exact OWN.out, BEL.out⟩

def dgB (x b : Int) : Bool := isNum x && inB b 2 64
def dgR (x b : Int) : List Int := if dgB x b then dgs b.toNat x.toNat else []
theorem dgR_le (x b : Int) : (dgR x b).length ≤ 1000 := by
  unfold dgR
  split
  · have := dgs_len b.toNat x.toNat; omega
  · simp
theorem dgR_false {x b : Int} (h : dgB x b = false) : dgR x b = [] := by unfold dgR; rw [h]; rfl
theorem dgR_true {x b : Int} (h : dgB x b = true) : dgR x b = dgs b.toNat x.toNat := by unfold dgR; rw [if_pos h]

end Go.Proofs.Ytlkieebmfmiafab
/- Plans for several powers of one input, by the model. -/
namespace Go.Proofs.Ytlkieebmfmiafab
open Go.RowKit

theorem lenD_bits : ∀ f n, lenD 2 f n = Lib.bitLenAux f n := by
  intro f
  induction f with
  | zero => intro n; rfl
  | succ f ih =>
    intro n
    show (if n = 0 then 0 else lenD 2 f (n / 2) + 1) = (if n = 0 then 0 else 1 + Lib.bitLenAux f (n / 2))
    rw [ih]
    split <;> omega
theorem lenD_bl {n : Nat} (hn : n ≤ 1000000) : lenD 2 20 n = Lib.bitLen n := by
  rw [lenD_bits]
  exact (Lib.bitLenAux_fuel 20 n (by omega) 64 (by omega)).symm
theorem dgs_at {n j : Nat} (hn : n ≤ 1000000) (hj : j < Lib.bitLen n) : ∃ h : j < (dgs 2 n).length, (dgs 2 n)[j] = if bitB n j then 1 else 0 := by
  have hl : (dgs 2 n).length = Lib.bitLen n := by unfold dgs; rw [digL_len, lenD_bl hn]
  refine ⟨by omega, ?_⟩
  have e : (dgs 2 n)[j]'(by omega) = ((n / 2 ^ j % 2 : Nat) : Int) := by simp [dgs, digL]
  rw [e]
  unfold bitB
  rcases Nat.mod_two_eq_zero_or_one (n / 2 ^ j) with h | h <;> rw [h] <;> rfl
/-- An append to an own row of numbers keeps the local plan. -/
theorem PkS.app {w w3 : World} {B B' g k c : Nat} {n : Int} {s : List (Int × Int)} {l : List Int} {A : Option Addr} {o : Obj} (h : PkS w B g n s) (ho : OwI w B' (.slice A k c) l) (hg : (w.alloc o).grownBy w3 (Value.slice A k c).ownBlock) : PkS w3 B g n s := by
  obtain ⟨A1, c1, h1, h2⟩ := h
  have hgl : g < w.heap.size := (Array.getElem?_eq_some_iff.1 h1).1
  have hbA : (w.alloc o).heap[g]? = _ := (Below.heap_alloc w o g hgl).trans h1
  exact ⟨A1, c1, (hg.block g (by simp; omega) (own_ne_blk (World.ownsRow.alloc ho o) hbA (by decide))).trans hbA, World.ownsRow.kept (World.ownsRow.alloc h2 o) hg (own_ne h2 ho (by decide))⟩
theorem pk_row {w w' : World} {B g : Nat} {u0 u1 u2 n s c v : Value} {l : List Int} (h : w.heap[g]? = some (.cells #[u0, u1, u2] 25 (0, 0))) (ho : OwI w B v l)
    (e : ((w.setCell ⟨g, 0, none⟩ n).setCell ⟨g, 1, none⟩ s).setCell ⟨g, 2, none⟩ c = w') : OwI w' B v l := by
  subst e
  exact own_set3 ho h (by decide) _ _ _
theorem set2_at {w w' : World} {g : Nat} {a b c u : Value} {t : TypeId} (hb : w.heap[g]? = some (.cells #[a, b, c] t (0, 0))) (h : w.setCell ⟨g, 2, none⟩ u = w') : w'.heap[g]? = some (.cells #[a, b, u] t (0, 0)) := by
  subst h
  rw [heap_setCell_same w g 2 _ t u hb]
  rfl

set_option maxRecDepth 100000 in
set_option maxHeartbeats 4000000 in
theorem specSquares_any (B : Nat) (A : Option Addr) (c : Nat) (l : List Int) (w : World) (hB : B ≤ w.heap.size) (hl : l.length ≤ 1048576) (_hcap : l.length ≤ c) (hr : Rd w B 1 A l.length (l.map I)) :
    Calls Try.prog 28 #[.slice A l.length c] w fun e w' =>
      ∃ R1 R2 v1 v2, e = .returned (.tuple #[.agg #[.int .i64 (sqR l).n, .slice R1 (sqR l).s.length v1, .slice R2 (sqR l).o.length v2], .bool (sqG l)]) ∧ OwP w' w.heap.size R1 R2 v1 v2 (sqR l) ∧ Below w.heap.size w w' := by
  have H := Lib.hid hr
  clear hr
  have bad : sqB l = false → sqR l = zeroP ∧ sqG l = false := fun h => ⟨by unfold sqR; rw [if_neg (by rw [h]; decide)], by unfold sqG; rw [h]; rfl⟩
  obtain ⟨bi, hbi⟩ : ∃ b, inB l.length 1 6 = b := ⟨_, rfl⟩
  have IN := Lib.hid hbi
  cases bi with
  | false =>
    obtain ⟨E1, E2⟩ := bad (sqB_in hbi)
    have e1 := Lib.hid E1
    have e2 := Lib.hid E2
    clear E1 E2 bad
    clear hbi
    go_enter Try.func28, Try.ntmps28
    go_wp2_with fail
    go_at_call 38
    generalize hw1 : World.alloc w _ = w1
    obtain ⟨q0, xs, xb⟩ := zero_box hw1
    clear hw1
    refine (l1In_any _ _ _ _).mono ?_
    rw [IN.out]
    rintro e w' ⟨rfl, rfl⟩
    obtain ⟨t0, t1, t2, g0, g1, g2⟩ := cells3 q0
    go_wp2
    refine bodyPost_ret (v := .tuple #[.agg #[.int .i64 0, .slice none 0 0, .slice none 0 0], .bool false]) (by simp [results, Try.results28, go_sem, t0, t1, t2]) rfl ⟨none, none, 0, 0, by rw [e1.out, e2.out]; rfl, by rw [e1.out]; exact OwP.zero _ _, ?_⟩
    exact ((xb.setCell (Nat.le_refl _) _).setCell (Nat.le_refl _) _).setCell (Nat.le_refl _) _
  | true =>
  have hlen : 1 ≤ l.length ∧ l.length ≤ 6 := by
    have h := hbi
    unfold inB at h
    simp only [Bool.and_eq_true, decide_eq_true_eq] at h
    omega
  obtain ⟨h1', h6'⟩ := hlen
  obtain ⟨ba, hba⟩ : ∃ b, allB l 1 1000000 = b := ⟨_, rfl⟩
  have ALL := fun W hrW => l1All_any w.heap.size A c l 1 1000000 W (by omega) hrW
  rw [hba] at ALL
  have HALL := Lib.hid ALL
  clear ALL
  cases ba with
  | false =>
    obtain ⟨E1, E2⟩ := bad (sqB_all hba)
    have e1 := Lib.hid E1
    have e2 := Lib.hid E2
    clear E1 E2 bad
    clear hbi hba
    go_enter Try.func28, Try.ntmps28
    go_wp2_with fail
    go_at_call 38
    generalize hw1 : World.alloc w _ = w1
    obtain ⟨q0, xs, xb⟩ := zero_box hw1
    clear hw1
    refine (l1In_any _ _ _ _).mono ?_
    rw [IN.out]
    rintro e w' ⟨rfl, rfl⟩
    obtain ⟨t0, t1, t2, g0, g1, g2⟩ := cells3 q0
    go_wp2_with (go_at_call 49; refine (HALL.out _ ((H.out.below' xb hB).more hB)).mono ?_; rintro e w' ⟨rfl, rfl⟩)
    refine bodyPost_ret (v := .tuple #[.agg #[.int .i64 0, .slice none 0 0, .slice none 0 0], .bool false]) (by simp [results, Try.results28, go_sem, t0, t1, t2]) rfl ⟨none, none, 0, 0, by rw [e1.out, e2.out]; rfl, by rw [e1.out]; exact OwP.zero _ _, ?_⟩
    exact ((xb.setCell (Nat.le_refl _) _).setCell (Nat.le_refl _) _).setCell (Nat.le_refl _) _
  | true =>
  have ETB := Lib.hid (show sqB l = true by unfold sqB; rw [hbi, hba]; rfl)
  obtain ⟨hgm, hG0, hG1⟩ := sq_gr ETB.out
  have HPOS := Lib.hid (show ∀ (i : Nat) (h : i < l.length), ∃ e : Nat, l[i] = (e : Int) ∧ 1 ≤ e ∧ e ≤ 1000000 from fun i h => by
    have h1 := (sq_rng ETB.out).2.2 _ (List.getElem_mem h)
    exact ⟨(l[i]).toNat, by omega, by omega, by omega⟩)
  have hlen := fun k hk => sqO_len ETB.out k hk
  have HLEN := Lib.hid hlen
  have HZL := Lib.hid (sqZ_len ETB.out)
  obtain ⟨G, hG⟩ : ∃ G, grA l = G := ⟨_, rfl⟩
  have GRE := fun W hrW => meGreatest_any w.heap.size A c l W (by omega) hrW
  rw [hG] at GRE hG0 hG1
  have HGRE := Lib.hid GRE
  obtain ⟨L, hL⟩ : ∃ L, bl G = L := ⟨_, rfl⟩
  have CHL := fun W => chLength_any G W (by omega) hG1
  rw [hL] at CHL
  have HCHL := Lib.hid CHL
  have hL20 : L ≤ 20 := by rw [← hL]; exact bl_bd (by omega)
  have hL1 : 1 ≤ L := by
    rw [← hL]
    exact bl_more (n := G.toNat) (b := 0) (by omega) (by simp; omega)
  obtain ⟨K, hK⟩ : ∃ K, L - 1 = K := ⟨_, rfl⟩
  have EZ0 := Lib.hid (show (sqN 1 ([], 0) K).1 = sqZ l by unfold sqZ; rw [hG, hL, hK])
  have hKL : L = K + 1 := by omega
  subst hKL
  clear hbi hba bad hG hgm GRE hL CHL hK hlen
  go_enter Try.func28, Try.ntmps28
  go_wp2_with fail
  go_at_call 38
  generalize hw1 : World.alloc w _ = w1
  obtain ⟨q0, xs, xb⟩ := zero_box hw1
  clear hw1
  have Q0 := Lib.hid q0
  have XB := Lib.hid xb
  have XS := Lib.hid xs
  clear q0 xs xb
  refine (l1In_any _ _ _ _).mono ?_
  rw [IN.out]
  rintro e w' ⟨rfl, rfl⟩
  go_wp2_with fail
  go_at_call 49
  refine (HALL.out _ ((H.out.below' XB.out hB).more hB)).mono ?_
  rintro e w' ⟨rfl, rfl⟩
  go_wp2_with fail
  generalize hw2 : World.alloc w1 _ = w2
  obtain ⟨mk2, b2⟩ := pk_new (B := w1.heap.size) hw2
  clear hw2
  have MK := Lib.hid mk2
  have B2 := Lib.hid b2
  have HR := fun W (hW : Below w1.heap.size w1 W) => ((H.out.below' XB.out hB).below' hW (show B ≤ w1.heap.size by have := XS.out; omega))
  have HR2 := Lib.hid HR
  clear mk2 b2 HR
  go_loopw [5] (fun kv wr => ∃ j : Nat, j ≤ K ∧ kv = .int .i64 ((j : Int) + 1) ∧ PkS wr w1.heap.size w1.heap.size 1 (sqN 1 ([], 0) j).1 ∧ Below w1.heap.size w1 wr) (fun kv _ => K + 1 - (intOf kv).toNat)
  case atStart => exact ⟨0, by omega, rfl, MK.out, B2.out⟩
  case round =>
    obtain ⟨j, hj, rfl, hmk, hbel⟩ := hrel
    have MKR := Lib.hid hmk
    have BEL := Lib.hid hbel
    clear hmk hbel
    by_cases hlt : j < K
    · have ij : (j : Int) < (K : Int) := by omega
      have hxl := sqN_len 1 ([], 0) j
      have hxv := sq_val j
      obtain ⟨x, hx⟩ : ∃ x, sqN 1 ([], 0) j = x := ⟨_, rfl⟩
      have EX := Lib.hid (show (sqN 1 ([], 0) (j + 1)).1 = x.1 ++ [stI j j] by rw [← hx, ← hxv]; rfl)
      rw [hx] at MKR hxl
      simp only [List.length_nil, Nat.zero_add] at hxl
      obtain ⟨A4, c4, hblk, hown⟩ := MKR.out
      obtain ⟨y0, y1, y2, _, _, _⟩ := cells3 hblk
      have BLK := Lib.hid hblk
      have hT := meTimes_any wr.heap.size A4 none c4 0 0 1 x.1 j j wr (Nat.le_refl _) (by omega) (by omega) (by omega) (Rd.of_own hown)
      have HT := Lib.hid hT
      clear hx hxv hxl hblk hown hT
      go_wp2_with (first
        | (go_at_call 51; refine (HGRE.out wr ((HR2.out wr BEL.out).more hB)).mono ?_; rintro e w' ⟨rfl, rfl⟩)
        | (go_at_call 50; refine (HCHL.out _).mono ?_; rintro e w' ⟨rfl, rfl⟩)
        | (go_at_call 52; refine HT.out.mono ?_; rintro e' w3 ⟨A5, c5, rfl, ho3, hb3⟩; have h3 := (hb3.block _ (Array.getElem?_eq_some_iff.1 BLK.out).1).trans BLK.out; obtain ⟨t0, t1, t2, g0, g1, g2⟩ := cells3 h3))
      obtain ⟨w4, hw4⟩ : ∃ w4, ((World.setCell w3 ⟨w1.heap.size, 0, none⟩ (.int .i64 1)).setCell ⟨w1.heap.size, 1, none⟩ (.slice A5 (x.1.length + 1) c5)).setCell ⟨w1.heap.size, 2, none⟩ (.slice none 0 0) = w4 := ⟨_, rfl⟩
      rw [hw4]
      have MN := Lib.hid (pk_set (cs := #[_, _, _]) (by simp) h3 (own_base ho3 BEL.out.size) hw4)
      have BN := Lib.hid (show Below w1.heap.size w1 w4 from by subst hw4; exact (((BEL.out.trans (hb3.mono BEL.out.size)).setCell (Nat.le_refl _) _).setCell (Nat.le_refl _) _).setCell (Nat.le_refl _) _)
      clear hw4 h3 ho3 hb3 y0 y1 y2 t0 t1 t2 g0 g1 g2
      go_roundw
      case rel => exact ⟨j + 1, by omega, by go_num, by rw [EX.out]; exact MN.out, BN.out⟩
      case measure => simp [intOf]; omega
    · have ej : j = K := by omega
      subst ej
      have hZ' := MKR.out
      rw [EZ0.out] at hZ'
      obtain ⟨Z, hZ⟩ : ∃ Z, sqZ l = Z := ⟨_, rfl⟩
      rw [hZ] at hZ' HLEN
      have EZ := Lib.hid hZ
      have M3 := Lib.hid hZ'
      obtain ⟨wz, rfl⟩ : ∃ wz, wz = wr := ⟨wr, rfl⟩
      clear hZ hZ'
      go_wp2_with (first
        | (go_at_call 51; refine (HGRE.out wz ((HR2.out wz BEL.out).more hB)).mono ?_; rintro e w' ⟨rfl, rfl⟩)
        | (go_at_call 50; refine (HCHL.out _).mono ?_; rintro e w' ⟨rfl, rfl⟩))
      go_loopw [6, 41] (fun ov iv wr => ∃ (k : Nat) (A1 : Option Addr) (c1 : Nat), k ≤ l.length ∧ iv = .int .i64 k ∧ ov = .slice A1 k c1 ∧ OwI wr w1.heap.size ov (sqO l Z k).2 ∧ PkS wr w1.heap.size w1.heap.size 1 (sqO l Z k).1 ∧ Below w1.heap.size w1 wr) (fun _ iv _ => l.length - (intOf iv).toNat)
      case atStart => exact ⟨0, none, 0, by omega, rfl, rfl, OwI.nil _ _, M3.out, BEL.out⟩
      case round =>
        obtain ⟨k, A1, c1, hk, rfl, rfl, hown, hmk, hbel⟩ := hrel
        have OWN := Lib.hid hown
        have MKR := Lib.hid hmk
        have BEL := Lib.hid hbel
        have hlk := HLEN.out k hk
        have hl2 := sqO_len2 l Z k
        clear hown hmk hbel
        by_cases hlt : k < l.length
        case neg =>
          have e : k = l.length := by omega
          subst e
          obtain ⟨x, hx⟩ : ∃ x, sqO l Z l.length = x := ⟨_, rfl⟩
          obtain ⟨P, hP⟩ : ∃ P : Pl, (⟨1, x.1, x.2⟩ : Pl) = P := ⟨_, rfl⟩
          have EP : sqP l = P := by unfold sqP; rw [EZ.out, hx]; exact hP
          have ERt := Lib.hid (show sqR l = mkR P by rw [← EP]; unfold sqR; rw [if_pos ETB.out])
          have EGt := Lib.hid (show sqG l = good P by rw [← EP]; unfold sqG; rw [ETB.out, Bool.true_and])
          have hPs : P.s = x.1 := by rw [← hP]
          have hPo : P.o = x.2 := by rw [← hP]
          have hPn : P.n = 1 := by rw [← hP]
          rw [hx, ← hPo] at hl2
          rw [hx, ← hPs] at hlk
          rw [hx] at OWN MKR
          rw [← hPo] at OWN
          rw [← hPs] at MKR
          obtain ⟨A4, c4, hblk, hos⟩ := MKR.out
          obtain ⟨y0, y1, y2, f0, f1, f2⟩ := cells3 hblk
          have OS := Lib.hid hos
          have BLK := Lib.hid hblk
          have hlk2 := Lib.hid hlk
          have HL2 := Lib.hid hl2
          have HPN := Lib.hid hPn
          clear hx hP EP hPs hPo hPn hblk hos hlk hl2
          go_wp2_with fail
          obtain ⟨w3, hw3⟩ : ∃ w3, World.setCell wr ⟨w1.heap.size, 2, none⟩ (.slice A1 l.length c1) = w3 := ⟨_, rfl⟩
          rw [hw3]
          have h3 := set2_at BLK.out hw3
          have hos3 : OwS w3 w1.heap.size (.slice A4 P.s.length c4) P.s := by subst hw3; exact own_set OS.out BLK.out (by decide) _
          have hoi3 : OwI w3 w1.heap.size (.slice A1 P.o.length c1) P.o := by subst hw3; rw [HL2.out]; exact own_set OWN.out BLK.out (by decide) _
          have B3 := Lib.hid (show Below w1.heap.size w1 w3 from by subst hw3; exact BEL.out.setCell (Nat.le_refl _) _)
          obtain ⟨z0, z1, z2, _, _, _⟩ := cells3 h3
          have RD := Lib.hid (show RdP w3 w3.heap.size A4 A1 P from ⟨Rd.of_own hos3, Rd.of_own hoi3⟩)
          have OWP := Lib.hid (show OwP w3 w1.heap.size A4 A1 c4 c1 P from ⟨hos3, hoi3⟩)
          have hIf := plIf_any w3.heap.size A4 A1 c4 c1 P w3 (Nat.le_refl _) (by have := hlk2.out; omega) (by have := HL2.out; omega) RD.out
          rw [HL2.out, HPN.out] at hIf
          have HIF := Lib.hid hIf
          clear hw3 h3 hos3 hoi3 y0 y1 y2 f0 f1 f2 hIf
          go_wp2_with fail
          go_at_call 54
          refine HIF.out.mono ?_
          rintro e w5 ⟨rfl, hb5⟩
          have B5 := Lib.hid (B3.out.trans (hb5.mono B3.out.size))
          have Q5 := Lib.hid ((B5.out.block w.heap.size (by have := XS.out; omega)).trans Q0.out)
          have O5 := Lib.hid (show OwP w5 w1.heap.size A4 A1 c4 c1 P from ⟨own_below OWP.out.1 hb5, own_below OWP.out.2 hb5⟩)
          obtain ⟨R1, R2, v1, v2, hsel, hres, hbel⟩ := selV_mk (w0 := w) (B := w.heap.size) (g := w.heap.size) rfl O5.out (by have := XS.out; omega) ⟨_, Q5.out⟩ (XB.out.trans (B5.out.mono (by have := XS.out; omega))) (Nat.le_refl _)
          rw [HL2.out, HPN.out] at hsel
          rw [hsel]
          rw [← ERt.out] at hres hbel
          rw [← ERt.out, ← EGt.out]
          obtain ⟨t0, t1, t2, g0, g1, g2⟩ := cells3 Q5.out
          have RES := Lib.hid hres
          have BRES := Lib.hid hbel
          clear hb5 hsel hres hbel z0 z1 z2
          go_wp2
          refine bodyPost_ret (v := .tuple #[.agg #[.int .i64 (sqR l).n, .slice R1 (sqR l).s.length v1, .slice R2 (sqR l).o.length v2], .bool (sqG l)]) (by simp [results, Try.results28, go_sem, t0, t1, t2]) rfl ⟨R1, R2, v1, v2, rfl, RES.out, BRES.out⟩
        case pos =>
        have ik : (k : Int) < (l.length : Int) := by omega
        obtain ⟨b, off, rfl, hb, hcell⟩ := (HR2.out wr BEL.out).int hlt
        obtain ⟨e, he, he1, he2⟩ := HPOS.out k hlt
        rw [he] at hcell
        obtain ⟨y, hy⟩ : ∃ y, sqO l Z k = y := ⟨_, rfl⟩
        have HAT := Lib.hid (fun (j : Nat) (h : j < Lib.bitLen e) => dgs_at he2 h)
        obtain ⟨J, hJ⟩ : ∃ J, Lib.bitLen e = J := ⟨_, rfl⟩
        have hJ20 : J ≤ 20 := by rw [← hJ]; exact bl_bd (by omega)
        have EK := Lib.hid (show sqO l Z (k + 1) = ((stT e y.1 J).1, y.2 ++ [(stT e y.1 J).2]) by
          have hg : l.getD k 0 = (e : Int) := by simp [hlt, he]
          show ((stT (l.getD k 0).toNat (sqO l Z k).1 (bl (l.getD k 0))).1, (sqO l Z k).2 ++ [(stT (l.getD k 0).toNat (sqO l Z k).1 (bl (l.getD k 0))).2]) = _
          rw [hy, hg, show bl (e : Int) = J from hJ]
          rfl)
        have hdl : (dgs 2 e).length = J := by unfold dgs; rw [digL_len, lenD_bl he2, hJ]
        have hD := meDigits_any 2 e wr (by omega) (by omega) (by omega)
        rw [hJ] at HAT
        rw [hy] at OWN MKR hlk hl2
        obtain ⟨D, hDD⟩ : ∃ D, dgs 2 e = D := ⟨_, rfl⟩
        rw [hDD] at hD hdl
        have HAT2 := Lib.hid (show ∀ j, j < J → ∃ h : j < D.length, D[j] = if bitB e j then 1 else 0 from fun j h => by
          subst hDD
          exact HAT.out j h)
        rw [hdl] at hD
        have HDG := Lib.hid hD
        have HDL := Lib.hid hdl
        have EL := Lib.hid hl2
        clear hy he hJ hl2 HAT hdl hD hDD
        go_wp2_with (go_at_call 53; refine HDG.out.mono ?_; rintro e' w2 ⟨AD, cD, rfl, hod, hbd⟩)
        have OWd := Lib.hid (show OwI w2 wr.heap.size (.slice AD D.length cD) D from by rw [HDL.out]; exact hod)
        have OWo := Lib.hid (own_below OWN.out hbd)
        have MKo := Lib.hid (MKR.out.below hbd)
        have BELo := Lib.hid (BEL.out.trans (hbd.mono BEL.out.size))
        have hsz := BEL.out.size
        obtain ⟨wo, rfl⟩ : ∃ wo, wo = wr := ⟨wr, rfl⟩
        clear hod hbd hcell
        go_loopw [9, 48] (fun pv iv wr => ∃ j : Nat, j ≤ J ∧ iv = .int .i64 j ∧ pv = .int .i64 (stT e y.1 j).2 ∧ PkS wr w1.heap.size w1.heap.size 1 (stT e y.1 j).1 ∧ OwI wr w1.heap.size (.slice A1 k c1) y.2 ∧ OwI wr wo.heap.size (.slice AD D.length cD) D ∧ Below w1.heap.size w1 wr) (fun _ iv _ => J - (intOf iv).toNat)
        case atStart => exact ⟨0, by omega, rfl, rfl, MKo.out, OWo.out, OWd.out, BELo.out⟩
        case round =>
          obtain ⟨j, hj, rfl, rfl, hmk, hown, hdig, hbel⟩ := hrel
          have MI := Lib.hid hmk
          have OI := Lib.hid hown
          have DI := Lib.hid hdig
          have BI := Lib.hid hbel
          clear hmk hown hdig hbel
          by_cases hjl : j < J
          · have ij : (j : Int) < (J : Int) := by omega
            obtain ⟨hjD, hval⟩ := HAT2.out j hjl
            have hrd := DI.out.rd.int hjD
            obtain ⟨b2, off2, rfl, hb2, hcell2⟩ := hrd
            rw [hval] at hcell2
            have hzl := stT_len e y.1 j
            have hzv := stT_vd e y.1 j
            obtain ⟨z, hz⟩ : ∃ z, stT e y.1 j = z := ⟨_, rfl⟩
            have EZ2 := Lib.hid (show stT e y.1 (j + 1) = if bitB e j then onS 1 z (j : Int) else z by rw [← hz]; rfl)
            rw [hz] at MI hzl hzv
            rw [hz]
            clear hz hval
            cases hbit : bitB e j with
            | true =>
              rw [hbit] at EZ2 hcell2
              rw [if_pos rfl] at hcell2
              clear hbit
              by_cases hv : z.2 = -1
              · have hv' : ¬ (0 : Int) ≤ z.2 := by omega
                have EO := Lib.hid (show onS 1 z j = (z.1, (j : Int)) by unfold onS; rw [if_pos hv])
                clear hv hzv
                go_wp2
                go_roundw
                case rel => exact ⟨j + 1, by omega, by go_num, by rw [EZ2.out]; show _ = Value.int .i64 (onS 1 z j).2; rw [EO.out], by rw [EZ2.out]; show PkS _ _ _ _ (onS 1 z j).1; rw [EO.out]; exact MI.out, OI.out, DI.out, BI.out⟩
                case measure => simp [intOf]; omega
              · have hv' : (0 : Int) ≤ z.2 := by rcases hzv with h | h <;> omega
                have EO := Lib.hid (show onS 1 z j = muS 1 z j by unfold onS; rw [if_neg hv])
                obtain ⟨A4, c4, hblk, hos⟩ := MI.out
                obtain ⟨y0, y1, y2, _, _, _⟩ := cells3 hblk
                have BLK := Lib.hid hblk
                have hT := meTimes_any wr.heap.size A4 none c4 0 0 1 z.1 z.2 j wr (Nat.le_refl _) (by omega) (by omega) (by omega) (Rd.of_own hos)
                have HT := Lib.hid hT
                clear hv hzv hblk hos hT
                go_wp2_with (go_at_call 52; refine HT.out.mono ?_; rintro e' w3 ⟨A5, c5, rfl, ho3, hb3⟩; have h3 := (hb3.block _ (Array.getElem?_eq_some_iff.1 BLK.out).1).trans BLK.out; obtain ⟨t0, t1, t2, g0, g1, g2⟩ := cells3 h3)
                obtain ⟨w4, hw4⟩ : ∃ w4, ((World.setCell w3 ⟨w1.heap.size, 0, none⟩ (.int .i64 1)).setCell ⟨w1.heap.size, 1, none⟩ (.slice A5 (z.1.length + 1) c5)).setCell ⟨w1.heap.size, 2, none⟩ (.slice none 0 0) = w4 := ⟨_, rfl⟩
                rw [hw4]
                have MN := Lib.hid (pk_set (cs := #[_, _, _]) (by simp) h3 (own_base ho3 BI.out.size) hw4)
                have ON := Lib.hid (pk_row h3 (own_below OI.out hb3) hw4)
                have DN := Lib.hid (pk_row h3 (own_below DI.out hb3) hw4)
                have BN := Lib.hid (show Below w1.heap.size w1 w4 from by subst hw4; exact (((BI.out.trans (hb3.mono BI.out.size)).setCell (Nat.le_refl _) _).setCell (Nat.le_refl _) _).setCell (Nat.le_refl _) _)
                clear hw4 h3 ho3 hb3 y0 y1 y2 t0 t1 t2 g0 g1 g2
                go_roundw
                case rel => exact ⟨j + 1, by omega, by go_num, by rw [EZ2.out]; show _ = Value.int .i64 (onS 1 z j).2; rw [EO.out]; rfl, by rw [EZ2.out]; show PkS _ _ _ _ (onS 1 z j).1; rw [EO.out]; exact MN.out, ON.out, DN.out, BN.out⟩
                case measure => simp [intOf]; omega
            | false =>
              rw [hbit] at EZ2 hcell2
              rw [if_neg (by decide)] at hcell2
              clear hbit
              go_wp2
              go_roundw
              case rel => exact ⟨j + 1, by omega, by go_num, by rw [EZ2.out]; rfl, by rw [EZ2.out]; exact MI.out, OI.out, DI.out, BI.out⟩
              case measure => simp [intOf]; omega
          · have ej : j = J := by omega
            subst ej
            obtain ⟨z, hz⟩ : ∃ z, stT e y.1 j = z := ⟨_, rfl⟩
            rw [hz] at MI EK
            rw [hz]
            clear hz
            have hs := BI.out.size
            go_wp2_with (at_builtin; refine list_step (fun K hK => ?_); refine step_app_int rfl (.tmp 70) (.tmp 72) rfl w1.heap.size k _ y.2 rfl (OI.out.alloc _) EL.out wr.heap.size 1 z.2 rfl (by simp) (by omega) (by simp; omega) ?_; intro A3 c3 w3 hown3 hg3 hbel3; go_simp; refine hK _ _ ?_; clear hK K)
            have MN := Lib.hid (MI.out.app OI.out hg3)
            go_roundw
            case rel => exact ⟨k + 1, A3, c3, by omega, by go_num, rfl, by rw [EK.out]; exact hown3, by rw [EK.out]; exact MN.out, (BI.out.alloc hs _).trans hbel3⟩
            case measure => simp [intOf]; omega
end Go.Proofs.Ytlkieebmfmiafab
/- VectorPlan, of the model and of the program. -/
namespace Go.Proofs.Ytlkieebmfmiafab
open Go.RowKit

def vpR (l : List Int) : Pl := tuR (sqR l)
def vpG (l : List Int) : Bool := tuB (sqR l)
theorem vp_len (l : List Int) : (vpR l).s.length ≤ 1000 ∧ (vpR l).o.length ≤ 1000 := tuR_len _
theorem tu_zero : tuB zeroP = false ∧ tuR zeroP = zeroP := tu_not (by unfold canR; rw [show good zeroP = false by decide +kernel]; rfl)
theorem sqR_bad {l : List Int} (h : sqG l = false) : sqR l = zeroP := by
  unfold sqG at h
  unfold sqR
  split
  · rename_i h1
    rw [h1, Bool.true_and] at h
    exact mkR_false h
  · rfl
theorem vp_bad {l : List Int} (h : sqG l = false) : vpG l = false ∧ vpR l = zeroP := by
  unfold vpG vpR
  rw [sqR_bad h]
  exact tu_zero
theorem zbox {w w1 : World} (h : w.alloc (.cells #[.int .i64 0, .slice none 0 0, .slice none 0 0] 25) = w1) :
    w1.heap[w.heap.size]? = some (.cells #[.int .i64 0, .slice none 0 0, .slice none 0 0] 25 (0, 0)) ∧ w1.heap.size = w.heap.size + 1 ∧ Below w.heap.size w w1 := by
  obtain ⟨_, _, _, xs, xb⟩ := box3 h
  exact ⟨by rw [← h]; exact heap_alloc_new w _, xs, xb⟩

set_option maxRecDepth 100000 in
set_option maxHeartbeats 2000000 in
theorem implVector_any (B : Nat) (A : Option Addr) (c : Nat) (l : List Int) (w : World) (hB : B ≤ w.heap.size) (hl : l.length ≤ 1048576) (hcap : l.length ≤ c) (hr : Rd w B 1 A l.length (l.map I)) :
    Calls Try.prog 11 #[.slice A l.length c] w fun e w' =>
      ∃ R1 R2 v1 v2, e = .returned (.tuple #[.agg #[.int .i64 (vpR l).n, .slice R1 (vpR l).s.length v1, .slice R2 (vpR l).o.length v2], .bool (vpG l)]) ∧ OwP w' w.heap.size R1 R2 v1 v2 (vpR l) ∧ Below w.heap.size w w' := by
  have H := Lib.hid hr
  obtain ⟨hl1, hl2⟩ := sq_len l
  have SQ := Lib.hid (fun W hW hr => implSquares_any B A c l W hW hl hcap hr)
  obtain ⟨P, hP⟩ : ∃ P, sqR l = P := ⟨_, rfl⟩
  have EV := Lib.hid (show vpR l = tuR P ∧ vpG l = tuB P by unfold vpR vpG; rw [hP]; exact ⟨rfl, rfl⟩)
  rw [hP] at SQ hl1 hl2
  clear hr hP hl hcap
  go_enter Try.func11, Try.ntmps11
  go_wp2_with fail
  go_at_call 30
  generalize hw1 : World.alloc w _ = w1
  obtain ⟨q0, xs, xb⟩ := zbox hw1
  clear hw1
  refine (SQ.out w1 (by omega) (H.out.below' xb hB)).mono ?_
  rintro e w2 ⟨R1, R2, v1, v2, rfl, hOP, hb2⟩
  have q2 := (hb2.block w.heap.size (by omega)).trans q0
  have HB2 := Lib.hid (xb.trans (hb2.mono (show w.heap.size ≤ w1.heap.size by omega)))
  have hs2 : w.heap.size + 1 ≤ w2.heap.size := by have := hb2.size; omega
  have OP2 := Lib.hid hOP
  clear hOP hb2 q0 xs xb
  go_wp2_with fail
  go_at_call 31
  generalize hw3 : World.alloc w2 _ = w3
  obtain ⟨_, _, _, xs, xb⟩ := box3 hw3
  clear hw3
  have Q3 := Lib.hid ((xb.block w.heap.size (by omega)).trans q2)
  have HB3 := Lib.hid (HB2.out.trans (xb.mono (by omega)))
  refine (implTurn_any w3.heap.size R1 R2 v1 v2 P w3 (Nat.le_refl _) (by omega) (by omega) (OP2.out.below xb).rd).mono ?_
  rintro e w4 ⟨E1, E2, d1, d2, rfl, hOW, hb4⟩
  have Q4 := Lib.hid ((hb4.block w.heap.size (by omega)).trans Q3.out)
  have HB4 := Lib.hid (HB3.out.trans (hb4.mono (by omega)))
  have OW4 := Lib.hid hOW
  obtain ⟨t0, t1, t2, g0, g1, g2⟩ := cells3 Q4.out
  rw [← EV.out.1, ← EV.out.2]
  have OV := Lib.hid (show OwP w4 w3.heap.size E1 E2 d1 d2 (vpR l) by rw [EV.out.1]; exact OW4.out)
  clear hOW hb4 q2 xb
  go_wp2
  refine bodyPost_ret (v := .tuple #[.agg #[.int .i64 (vpR l).n, .slice E1 (vpR l).s.length d1, .slice E2 (vpR l).o.length d2], .bool (vpG l)]) (by simp [results, Try.results11, go_sem, t0, t1, t2]) rfl ⟨E1, E2, d1, d2, rfl, ?_, ?_⟩
  · exact ⟨own_base (own_set3 OV.out.1 Q4.out (by decide) _ _ _) (by omega), own_base (own_set3 OV.out.2 Q4.out (by decide) _ _ _) (by omega)⟩
  · exact ((HB4.out.setCell (by simp) _).setCell (by simp) _).setCell (by simp) _

set_option maxRecDepth 100000 in
set_option maxHeartbeats 2000000 in
theorem specVector_any (B : Nat) (A : Option Addr) (c : Nat) (l : List Int) (w : World) (hB : B ≤ w.heap.size) (hl : l.length ≤ 1048576) (hcap : l.length ≤ c) (hr : Rd w B 1 A l.length (l.map I)) :
    Calls Try.prog 9 #[.slice A l.length c] w fun e w' =>
      ∃ R1 R2 v1 v2, e = .returned (.tuple #[.agg #[.int .i64 (vpR l).n, .slice R1 (vpR l).s.length v1, .slice R2 (vpR l).o.length v2], .bool (vpG l)]) ∧ OwP w' w.heap.size R1 R2 v1 v2 (vpR l) ∧ Below w.heap.size w w' := by
  have H := Lib.hid hr
  obtain ⟨hl1, hl2⟩ := sq_len l
  have SQ := Lib.hid (fun W hW hr => specSquares_any B A c l W hW hl hcap hr)
  obtain ⟨gd, hgd⟩ : ∃ x, sqG l = x := ⟨_, rfl⟩
  have VB := Lib.hid (fun h => vp_bad (l := l) h)
  obtain ⟨P, hP⟩ : ∃ P, sqR l = P := ⟨_, rfl⟩
  have EV := Lib.hid (show vpR l = tuR P ∧ vpG l = tuB P by unfold vpR vpG; rw [hP]; exact ⟨rfl, rfl⟩)
  rw [hP, hgd] at SQ
  rw [hP] at hl1 hl2
  have HG := Lib.hid hgd
  clear hr hP hl hcap hgd
  go_enter Try.func9, Try.ntmps9
  go_wp2_with fail
  go_at_call 28
  generalize hw1 : World.alloc w _ = w1
  obtain ⟨q0, xs, xb⟩ := zbox hw1
  clear hw1
  refine (SQ.out w1 (by omega) (H.out.below' xb hB)).mono ?_
  rintro e w2 ⟨R1, R2, v1, v2, rfl, hOP, hb2⟩
  have q2 := (hb2.block w.heap.size (by omega)).trans q0
  have HB2 := Lib.hid (xb.trans (hb2.mono (show w.heap.size ≤ w1.heap.size by omega)))
  have hs2 : w.heap.size + 1 ≤ w2.heap.size := by have := hb2.size; omega
  have OP2 := Lib.hid hOP
  clear hOP hb2 q0 xs xb
  cases gd with
  | false =>
    obtain ⟨e1, e2⟩ := VB.out HG.out
    have EB := Lib.hid e1
    have ER := Lib.hid e2
    have R3 : (w2.alloc (.cells #[.int .i64 P.n, .slice R1 P.s.length v1, .slice R2 P.o.length v2] 25)).heap[w.heap.size]? = some (.cells #[.int .i64 0, .slice none 0 0, .slice none 0 0] 25 (0, 0)) := (Below.heap_alloc _ _ _ (by omega)).trans q2
    have HB3 := Lib.hid (HB2.out.alloc HB2.out.size (.cells #[.int .i64 P.n, .slice R1 P.s.length v1, .slice R2 P.o.length v2] 25))
    obtain ⟨t0, t1, t2, g0, g1, g2⟩ := cells3 R3
    clear e1 e2 R3 q2
    go_wp2
    refine bodyPost_ret (v := .tuple #[.agg #[.int .i64 0, .slice none 0 0, .slice none 0 0], .bool false]) (by simp [results, Try.results9, go_sem, t0, t1, t2]) rfl ⟨none, none, 0, 0, by rw [ER.out, EB.out]; rfl, by rw [ER.out]; exact OwP.zero _ _, ?_⟩
    exact ((HB3.out.setCell (by simp) _).setCell (by simp) _).setCell (by simp) _
  | true =>
    go_wp2_with fail
    go_at_call 29
    generalize hw3 : World.alloc w2 _ = w3
    obtain ⟨_, _, _, xs, xb⟩ := box3 hw3
    clear hw3
    have Q3 := Lib.hid ((xb.block w.heap.size (by omega)).trans q2)
    have HB3 := Lib.hid (HB2.out.trans (xb.mono (by omega)))
    refine (specTurn_any w3.heap.size R1 R2 v1 v2 P w3 (Nat.le_refl _) (by omega) (by omega) (OP2.out.below xb).rd).mono ?_
    rintro e w4 ⟨E1, E2, d1, d2, rfl, hOW, hb4⟩
    have Q4 := Lib.hid ((hb4.block w.heap.size (by omega)).trans Q3.out)
    have HB4 := Lib.hid (HB3.out.trans (hb4.mono (by omega)))
    have OW4 := Lib.hid hOW
    obtain ⟨t0, t1, t2, g0, g1, g2⟩ := cells3 Q4.out
    rw [← EV.out.1, ← EV.out.2]
    have OV := Lib.hid (show OwP w4 w3.heap.size E1 E2 d1 d2 (vpR l) by rw [EV.out.1]; exact OW4.out)
    clear hOW hb4 q2 xb
    go_wp2
    refine bodyPost_ret (v := .tuple #[.agg #[.int .i64 (vpR l).n, .slice E1 (vpR l).s.length d1, .slice E2 (vpR l).o.length d2], .bool (vpG l)]) (by simp [results, Try.results9, go_sem, t0, t1, t2]) rfl ⟨E1, E2, d1, d2, rfl, ?_, ?_⟩
    · exact ⟨own_base (own_set3 OV.out.1 Q4.out (by decide) _ _ _) (by omega), own_base (own_set3 OV.out.2 Q4.out (by decide) _ _ _) (by omega)⟩
    · exact ((HB4.out.setCell (by simp) _).setCell (by simp) _).setCell (by simp) _
end Go.Proofs.Ytlkieebmfmiafab
/- Plans for several inputs together, by the model. -/
namespace Go.Proofs.Ytlkieebmfmiafab
open Go.RowKit

theorem bit_mod (e p : Nat) : ((e : Int) / 2 ^ p).tmod 2 = if bitB e p then 1 else 0 := by
  have h : ((e : Int) / 2 ^ p).tmod 2 = ((e / 2 ^ p % 2 : Nat) : Int) := by
    rw [show (e : Int) / 2 ^ p = ((e / 2 ^ p : Nat) : Int) by push_cast; rfl]
    rfl
  rw [h]
  unfold bitB
  rcases Nat.mod_two_eq_zero_or_one (e / 2 ^ p) with h | h <;> rw [h] <;> rfl
theorem togB_in {l : List Int} (h : inB l.length 1 6 = false) : togB l = false := by unfold togB; rw [h]; rfl
theorem togB_all {l : List Int} (h : allB l 0 1000000 = false) : togB l = false := by unfold togB; rw [h]; simp
theorem togB_zero {l : List Int} (h : grA l = 0) : togB l = false := by unfold togB; rw [h]; simp

set_option maxRecDepth 100000 in
set_option maxHeartbeats 4000000 in
theorem specTogether_any (B : Nat) (A : Option Addr) (c : Nat) (l : List Int) (w : World) (hB : B ≤ w.heap.size) (hl : l.length ≤ 1048576) (_hcap : l.length ≤ c) (hr : Rd w B 1 A l.length (l.map I)) :
    Calls Try.prog 35 #[.slice A l.length c] w fun e w' =>
      ∃ R1 R2 v1 v2, e = .returned (.tuple #[.agg #[.int .i64 (togR l).n, .slice R1 (togR l).s.length v1, .slice R2 (togR l).o.length v2], .bool (togG l)]) ∧ OwP w' w.heap.size R1 R2 v1 v2 (togR l) ∧ Below w.heap.size w w' := by
  have H := Lib.hid hr
  clear hr
  have bad : togB l = false → togR l = zeroP ∧ togG l = false := fun h => ⟨by unfold togR; rw [if_neg (by rw [h]; decide)], by unfold togG; rw [h]; rfl⟩
  obtain ⟨bi, hbi⟩ : ∃ b, inB l.length 1 6 = b := ⟨_, rfl⟩
  have IN := Lib.hid hbi
  cases bi with
  | false =>
    obtain ⟨E1, E2⟩ := bad (togB_in hbi)
    have e1 := Lib.hid E1
    have e2 := Lib.hid E2
    clear E1 E2 bad
    clear hbi
    go_enter Try.func35, Try.ntmps35
    go_wp2_with fail
    go_at_call 38
    generalize hw1 : World.alloc w _ = w1
    obtain ⟨q0, xs, xb⟩ := zero_box hw1
    clear hw1
    refine (l1In_any _ _ _ _).mono ?_
    rw [IN.out]
    rintro e w' ⟨rfl, rfl⟩
    obtain ⟨t0, t1, t2, g0, g1, g2⟩ := cells3 q0
    go_wp2
    refine bodyPost_ret (v := .tuple #[.agg #[.int .i64 0, .slice none 0 0, .slice none 0 0], .bool false]) (by simp [results, Try.results35, go_sem, t0, t1, t2]) rfl ⟨none, none, 0, 0, by rw [e1.out, e2.out]; rfl, by rw [e1.out]; exact OwP.zero _ _, ?_⟩
    exact ((xb.setCell (Nat.le_refl _) _).setCell (Nat.le_refl _) _).setCell (Nat.le_refl _) _
  | true =>
  have hlen : 1 ≤ l.length ∧ l.length ≤ 6 := by
    have h := hbi
    unfold inB at h
    simp only [Bool.and_eq_true, decide_eq_true_eq] at h
    omega
  obtain ⟨h1', h6'⟩ := hlen
  obtain ⟨ba, hba⟩ : ∃ b, allB l 0 1000000 = b := ⟨_, rfl⟩
  have ALL := fun W hrW => l1All_any w.heap.size A c l 0 1000000 W (by omega) hrW
  rw [hba] at ALL
  have HALL := Lib.hid ALL
  clear ALL
  cases ba with
  | false =>
    obtain ⟨E1, E2⟩ := bad (togB_all hba)
    have e1 := Lib.hid E1
    have e2 := Lib.hid E2
    clear E1 E2 bad
    clear hbi hba
    go_enter Try.func35, Try.ntmps35
    go_wp2_with fail
    go_at_call 38
    generalize hw1 : World.alloc w _ = w1
    obtain ⟨q0, xs, xb⟩ := zero_box hw1
    clear hw1
    refine (l1In_any _ _ _ _).mono ?_
    rw [IN.out]
    rintro e w' ⟨rfl, rfl⟩
    obtain ⟨t0, t1, t2, g0, g1, g2⟩ := cells3 q0
    go_wp2_with (go_at_call 49; refine (HALL.out _ ((H.out.below' xb hB).more hB)).mono ?_; rintro e w' ⟨rfl, rfl⟩)
    refine bodyPost_ret (v := .tuple #[.agg #[.int .i64 0, .slice none 0 0, .slice none 0 0], .bool false]) (by simp [results, Try.results35, go_sem, t0, t1, t2]) rfl ⟨none, none, 0, 0, by rw [e1.out, e2.out]; rfl, by rw [e1.out]; exact OwP.zero _ _, ?_⟩
    exact ((xb.setCell (Nat.le_refl _) _).setCell (Nat.le_refl _) _).setCell (Nat.le_refl _) _
  | true =>
  obtain ⟨G, hG⟩ : ∃ G, grA l = G := ⟨_, rfl⟩
  have GRE := fun W hrW => meGreatest_any w.heap.size A c l W (by omega) hrW
  rw [hG] at GRE
  have HGRE := Lib.hid GRE
  clear GRE
  by_cases hz : G = 0
  · have hz' : (G == 0) = true := by simpa using hz
    obtain ⟨E1, E2⟩ := bad (togB_zero (by rw [hG]; exact hz))
    have e1 := Lib.hid E1
    have e2 := Lib.hid E2
    clear E1 E2 bad
    clear hbi hba hz hG
    go_enter Try.func35, Try.ntmps35
    go_wp2_with fail
    go_at_call 38
    generalize hw1 : World.alloc w _ = w1
    obtain ⟨q0, xs, xb⟩ := zero_box hw1
    clear hw1
    refine (l1In_any _ _ _ _).mono ?_
    rw [IN.out]
    rintro e w' ⟨rfl, rfl⟩
    obtain ⟨t0, t1, t2, g0, g1, g2⟩ := cells3 q0
    go_wp2_with (first | (go_at_call 49; refine (HALL.out _ ((H.out.below' xb hB).more hB)).mono ?_; rintro e w' ⟨rfl, rfl⟩) | (go_at_call 51; refine (HGRE.out _ ((H.out.below' xb hB).more hB)).mono ?_; rintro e w' ⟨rfl, rfl⟩))
    refine bodyPost_ret (v := .tuple #[.agg #[.int .i64 0, .slice none 0 0, .slice none 0 0], .bool false]) (by simp [results, Try.results35, go_sem, t0, t1, t2]) rfl ⟨none, none, 0, 0, by rw [e1.out, e2.out]; rfl, by rw [e1.out]; exact OwP.zero _ _, ?_⟩
    exact ((xb.setCell (Nat.le_refl _) _).setCell (Nat.le_refl _) _).setCell (Nat.le_refl _) _
  have hz' : (G == 0) = false := by simpa using hz
  have ETB := Lib.hid (show togB l = true by unfold togB; rw [hbi, hba, hG, decide_eq_true hz]; rfl)
  have hpos : ∀ x ∈ l, 0 ≤ x ∧ x ≤ 1000000 := by
    have h := hba
    unfold allB inB at h
    simpa using h
  have HPOS := Lib.hid (show ∀ (i : Nat) (h : i < l.length), ∃ e : Nat, l[i] = (e : Int) from fun i h => ⟨(l[i]).toNat, by have := (hpos _ (List.getElem_mem h)).1; omega⟩)
  have hG0 : 0 ≤ G ∧ G ≤ 1000000 := by
    obtain ⟨g0, g1, g2⟩ := grA_prop l
    rw [hG] at g0 g2
    rcases g2 with h | h
    · omega
    · exact hpos _ h
  obtain ⟨hG0, hG1⟩ := hG0
  have GR := Lib.hid hG
  clear hbi hba hG hz bad hpos
  go_enter Try.func35, Try.ntmps35
  go_wp2_with fail
  go_at_call 38
  generalize hw1 : World.alloc w _ = w1
  obtain ⟨q0, xs, xb⟩ := zero_box hw1
  clear hw1
  have Q0 := Lib.hid q0
  have XB := Lib.hid xb
  have XS := Lib.hid xs
  clear q0 xs xb
  refine (l1In_any _ _ _ _).mono ?_
  rw [IN.out]
  rintro e w' ⟨rfl, rfl⟩
  go_wp2_with fail
  go_at_call 49
  refine (HALL.out _ ((H.out.below' XB.out hB).more hB)).mono ?_
  rintro e w' ⟨rfl, rfl⟩
  go_wp2_with fail
  go_at_call 51
  refine (HGRE.out _ ((H.out.below' XB.out hB).more hB)).mono ?_
  rintro e w' ⟨rfl, rfl⟩
  go_wp2_with fail
  go_at_call 51
  generalize hw2 : World.alloc w1 _ = w2
  obtain ⟨mk2, b2⟩ := pk_new (B := w1.heap.size) hw2
  clear hw2
  have MK := Lib.hid mk2
  have B2 := Lib.hid b2
  have HR := fun W (hW : Below w1.heap.size w1 W) => ((H.out.below' XB.out hB).below' hW (show B ≤ w1.heap.size by have := XS.out; omega))
  have HR2 := Lib.hid HR
  clear mk2 b2 HR
  refine (HGRE.out w2 ((HR2.out w2 B2.out).more hB)).mono ?_
  rintro e w' ⟨rfl, rfl⟩
  go_wp2_with fail
  go_at_call 50
  refine (chLength_any G _ hG0 hG1).mono ?_
  rintro e w' ⟨rfl, rfl⟩
  obtain ⟨L, hL⟩ : ∃ L, bl G = L := ⟨_, rfl⟩
  have hL20 : L ≤ 20 := by rw [← hL]; exact bl_bd (by omega)
  have HL := Lib.hid (show bl (grA l) = L by rw [GR.out, hL])
  rw [hL]
  clear hL
  have hn : ((l.length : Nat) : Int) ≤ 1000 := by omega
  go_wp2
  go_loopw [5, 6] (fun vv pv wr => ∃ j : Nat, j ≤ L ∧ pv = .int .i64 ((L : Int) - 1 - j) ∧ vv = .int .i64 (tgP l.length l L j).2 ∧ PkS wr w1.heap.size w1.heap.size l.length (tgP l.length l L j).1 ∧ Below w1.heap.size w1 wr) (fun _ pv _ => (intOf pv + 1).toNat)
  case atStart => exact ⟨0, by omega, by go_num, rfl, MK.out, B2.out⟩
  case round =>
    obtain ⟨j, hj, rfl, rfl, hmk, hbel⟩ := hrel
    have MKR := Lib.hid hmk
    have BEL := Lib.hid hbel
    clear hmk hbel
    by_cases hlt : j < L
    case neg =>
      have e : j = L := by omega
      subst e
      have ip : ¬ (0 : Int) ≤ (j : Int) - 1 - (j : Int) := by omega
      have hxl := tgP_len l.length l j h6' j
      obtain ⟨x, hx⟩ : ∃ x, tgP l.length l j j = x := ⟨_, rfl⟩
      obtain ⟨P, hP⟩ : ∃ P : Pl, (⟨l.length, x.1, [x.2]⟩ : Pl) = P := ⟨_, rfl⟩
      have ERt := Lib.hid (show togR l = mkR P by rw [← hP, ← hx]; unfold togR togP; rw [if_pos ETB.out, HL.out])
      have EGt := Lib.hid (show togG l = good P by rw [← hP, ← hx]; unfold togG togP; rw [ETB.out, HL.out, Bool.true_and])
      rw [hx] at MKR hxl
      rw [hx]
      clear hx
      obtain ⟨A4, c4, hblk, hown⟩ := MKR.out
      obtain ⟨y0, y1, y2, _, _, _⟩ := cells3 hblk
      have OWN := Lib.hid hown
      have EPP := Lib.hid hP
      clear hblk hown hP
      go_wp2_with fail
      go_at_call 70
      refine (meEnd_any w1.heap.size A4 none c4 0 0 l.length x.2 x.1 wr BEL.out.size OWN.out).mono ?_
      rintro e w3 ⟨A5, rfl, hs3, ho3, hb3⟩
      have RD := Lib.hid (show RdP w3 w3.heap.size A4 A5 ⟨l.length, x.1, [x.2]⟩ from ⟨Rd.of_own hs3, Rd.of_own ho3⟩)
      have OWP := Lib.hid (show OwP w3 w1.heap.size A4 A5 c4 1 ⟨l.length, x.1, [x.2]⟩ from ⟨hs3, own_base ho3 BEL.out.size⟩)
      have B3 := Lib.hid (BEL.out.trans (hb3.mono BEL.out.size))
      clear hs3 ho3 hb3 y0 y1 y2
      go_wp2_with fail
      go_at_call 54
      refine (plIf_any w3.heap.size A4 A5 c4 1 ⟨l.length, x.1, [x.2]⟩ w3 (Nat.le_refl _) (by show x.1.length ≤ 2000000; omega) (by simp) RD.out).mono ?_
      rintro e w5 ⟨rfl, hb5⟩
      have B5 := Lib.hid (B3.out.trans (hb5.mono B3.out.size))
      have Q5 := Lib.hid ((B5.out.block w.heap.size (by have := XS.out; omega)).trans Q0.out)
      have O5 := Lib.hid (show OwP w5 w1.heap.size A4 A5 c4 1 ⟨l.length, x.1, [x.2]⟩ from ⟨own_below OWP.out.1 hb5, own_below OWP.out.2 hb5⟩)
      obtain ⟨R1, R2, v1, v2, hsel, hres, hbel⟩ := selV_mk (w0 := w) (B := w.heap.size) (g := w.heap.size) rfl O5.out (by have := XS.out; omega) ⟨_, Q5.out⟩ (XB.out.trans (B5.out.mono (by have := XS.out; omega))) (Nat.le_refl _)
      rw [hsel]
      rw [EPP.out] at hres hbel ⊢
      rw [← ERt.out] at hres hbel
      rw [← ERt.out, ← EGt.out]
      obtain ⟨t0, t1, t2, g0, g1, g2⟩ := cells3 Q5.out
      have RES := Lib.hid hres
      have BRES := Lib.hid hbel
      clear hb5 hsel hres hbel
      go_wp2
      refine bodyPost_ret (v := .tuple #[.agg #[.int .i64 (togR l).n, .slice R1 (togR l).s.length v1, .slice R2 (togR l).o.length v2], .bool (togG l)]) (by simp [results, Try.results35, go_sem, t0, t1, t2]) rfl ⟨R1, R2, v1, v2, rfl, RES.out, BRES.out⟩
    case pos =>
    obtain ⟨p, hp⟩ : ∃ p : Nat, L - 1 - j = p := ⟨_, rfl⟩
    have ep : (L : Int) - 1 - (j : Int) = (p : Int) := by omega
    have ip : (0 : Int) ≤ (p : Int) := by omega
    have hp20 : p ≤ 60 := by omega
    rw [ep]
    have hxv := vd_P (n := (l.length : Int)) (by omega) l L j
    obtain ⟨x, hx⟩ : ∃ x, tgP l.length l L j = x := ⟨_, rfl⟩
    have EP := Lib.hid (show tgP l.length l L (j + 1) = tgI l.length l p (tgS l.length x) l.length by rw [← hx, ← hp]; rfl)
    have hxl : x.1.length ≤ 140 := by rw [← hx]; have := tgP_len l.length l L h6' j; omega
    have HX := Lib.hid hxl
    rw [hx] at MKR hxv
    rw [hx]
    have VX := Lib.hid hxv
    obtain ⟨wo, rfl⟩ : ∃ wo, wo = wr := ⟨wr, rfl⟩
    clear hx hp hxv
    by_cases hv : x.2 = -1
    · have hv' : ¬ (0 : Int) ≤ x.2 := by omega
      have ES := Lib.hid (show tgS l.length x = x by unfold tgS; rw [if_pos hv])
      clear hv
      go_wp2
      have MY := Lib.hid (show PkS wo w1.heap.size w1.heap.size l.length (tgS l.length x).1 by rw [ES.out]; exact MKR.out)
      have BY := Lib.hid BEL.out
      have EV := Lib.hid (show x.2 = (tgS l.length x).2 by rw [ES.out])
      rw [EV.out]
      obtain ⟨y, hy⟩ : ∃ y, tgS l.length x = y := ⟨_, rfl⟩
      have hyl : y.1.length ≤ 141 := by rw [← hy]; have := tgS_len l.length x; have := HX.out; omega
      have hyv : vd y := by rw [← hy]; exact vd_S (by omega) VX.out
      rw [hy] at MY EP
      rw [hy]
      have VY := Lib.hid hyv
      clear hy hyv
      go_loopw [5, 46] (fun vv iv wr => ∃ i : Nat, i ≤ l.length ∧ iv = .int .i64 i ∧ vv = .int .i64 (tgI l.length l p y i).2 ∧ PkS wr w1.heap.size w1.heap.size l.length (tgI l.length l p y i).1 ∧ Below w1.heap.size w1 wr) (fun _ iv _ => l.length - (intOf iv).toNat)
      case atStart => exact ⟨0, by omega, rfl, rfl, MY.out, BY.out⟩
      case round =>
        obtain ⟨i, hi, rfl, rfl, hmk, hbel⟩ := hrel
        have MI := Lib.hid hmk
        have BI := Lib.hid hbel
        clear hmk hbel
        by_cases hil : i < l.length
        · have ii : (i : Int) < (l.length : Int) := by omega
          obtain ⟨b, off, rfl, hb, hcell⟩ := (HR2.out wr BI.out).int hil
          obtain ⟨e, he⟩ := HPOS.out i hil
          rw [he] at hcell
          have hzl := tgI_len l.length l p y i
          have hzv := vd_I (n := (l.length : Int)) (by omega) l p VY.out i
          obtain ⟨z, hz⟩ : ∃ z, tgI l.length l p y i = z := ⟨_, rfl⟩
          have hget : (l.getD i 0).toNat = e := by simp [hil, he]
          have EZ := Lib.hid (show tgI l.length l p y (i + 1) = if bitB e p then onS l.length z i else z by
            show (if bitB (l.getD i 0).toNat p then onS l.length (tgI l.length l p y i) (i : Int) else tgI l.length l p y i) = _
            rw [hget, hz])
          rw [hz] at MI hzl hzv
          rw [hz]
          have hed : ((e : Int) / 2 ^ p).tmod 2 = if bitB e p then 1 else 0 := bit_mod e p
          clear hz he hget
          cases hbit : bitB e p with
          | true =>
            rw [hbit] at EZ hed
            rw [if_pos rfl] at hed
            have hed2 : (((e : Int) / 2 ^ p).tmod 2 == 0) = false := by rw [hed]; rfl
            clear hbit
            by_cases hv : z.2 = -1
            · have hv' : z.2 < 0 := by omega
              have EO := Lib.hid (show onS l.length z i = (z.1, (i : Int)) by unfold onS; rw [if_pos hv])
              clear hv hzv
              go_wp2
              go_roundw
              case rel => exact ⟨i + 1, by omega, by go_num, by rw [EZ.out]; show _ = Value.int .i64 (onS l.length z i).2; rw [EO.out], by rw [EZ.out]; show PkS _ _ _ _ (onS l.length z i).1; rw [EO.out]; exact MI.out, BI.out⟩
              case measure => simp [intOf]; omega
            · have hv' : ¬ z.2 < 0 := by rcases hzv with h | h <;> omega
              have EO := Lib.hid (show onS l.length z i = muS l.length z i by unfold onS; rw [if_neg hv])
              obtain ⟨A4, c4, hblk, hown⟩ := MI.out
              obtain ⟨y0, y1, y2, _, _, _⟩ := cells3 hblk
              have BLK := Lib.hid hblk
              have OWN := Lib.hid hown
              have hT := meTimes_any wr.heap.size A4 none c4 0 0 l.length z.1 z.2 i wr (Nat.le_refl _) (by omega) (by omega) hn (Rd.of_own hown)
              have HT := Lib.hid hT
              clear hv hzv hblk hown hT
              go_wp2_with (go_at_call 52; refine HT.out.mono ?_; rintro e' w3 ⟨A5, c5, rfl, ho3, hb3⟩; have h3 := (hb3.block _ (Array.getElem?_eq_some_iff.1 BLK.out).1).trans BLK.out; obtain ⟨t0, t1, t2, g0, g1, g2⟩ := cells3 h3)
              obtain ⟨w4, hw4⟩ : ∃ w4, ((World.setCell w3 ⟨w1.heap.size, 0, none⟩ (.int .i64 l.length)).setCell ⟨w1.heap.size, 1, none⟩ (.slice A5 (z.1.length + 1) c5)).setCell ⟨w1.heap.size, 2, none⟩ (.slice none 0 0) = w4 := ⟨_, rfl⟩
              rw [hw4]
              have MN := Lib.hid (pk_set (cs := #[_, _, _]) (by simp) h3 (own_base ho3 BI.out.size) hw4)
              have BN := Lib.hid (show Below w1.heap.size w1 w4 from by subst hw4; exact (((BI.out.trans (hb3.mono BI.out.size)).setCell (Nat.le_refl _) _).setCell (Nat.le_refl _) _).setCell (Nat.le_refl _) _)
              clear hw4 h3 ho3 hb3 y0 y1 y2 t0 t1 t2 g0 g1 g2
              go_roundw
              case rel => exact ⟨i + 1, by omega, by go_num, by rw [EZ.out]; show _ = Value.int .i64 (onS l.length z i).2; rw [EO.out]; rfl, by rw [EZ.out]; show PkS _ _ _ _ (onS l.length z i).1; rw [EO.out]; exact MN.out, BN.out⟩
              case measure => simp [intOf]; omega
          | false =>
            rw [hbit] at EZ hed
            rw [if_neg (by decide)] at hed
            have hed2 : (((e : Int) / 2 ^ p).tmod 2 == 0) = true := by rw [hed]; rfl
            clear hbit
            go_wp2
            go_roundw
            case rel => exact ⟨i + 1, by omega, by go_num, by rw [EZ.out]; rfl, by rw [EZ.out]; exact MI.out, BI.out⟩
            case measure => simp [intOf]; omega
        · have e : i = l.length := by omega
          subst e
          go_wp2
          go_roundw
          case rel => exact ⟨j + 1, by omega, by go_num, by rw [EP.out], by rw [EP.out]; exact MI.out, BI.out⟩
          case measure => simp [intOf]
    · have hv' : (0 : Int) ≤ x.2 := by rcases VX.out with h | h <;> omega
      have ES := Lib.hid (show tgS l.length x = muS l.length x x.2 by unfold tgS; rw [if_neg hv])
      obtain ⟨A4, c4, hblk, hown⟩ := MKR.out
      obtain ⟨y0, y1, y2, _, _, _⟩ := cells3 hblk
      have BLK := Lib.hid hblk
      have hT := meTimes_any wo.heap.size A4 none c4 0 0 l.length x.1 x.2 x.2 wo (Nat.le_refl _) (by omega) (by omega) hn (Rd.of_own hown)
      have HT := Lib.hid hT
      clear hv hblk hown hT
      go_wp2_with (go_at_call 52; refine HT.out.mono ?_; rintro e' w3 ⟨A5, c5, rfl, ho3, hb3⟩; have h3 := (hb3.block _ (Array.getElem?_eq_some_iff.1 BLK.out).1).trans BLK.out; obtain ⟨t0, t1, t2, g0, g1, g2⟩ := cells3 h3)
      obtain ⟨w4, hw4⟩ : ∃ w4, ((World.setCell w3 ⟨w1.heap.size, 0, none⟩ (.int .i64 l.length)).setCell ⟨w1.heap.size, 1, none⟩ (.slice A5 (x.1.length + 1) c5)).setCell ⟨w1.heap.size, 2, none⟩ (.slice none 0 0) = w4 := ⟨_, rfl⟩
      rw [hw4]
      have MN := Lib.hid (pk_set (cs := #[_, _, _]) (by simp) h3 (own_base ho3 BEL.out.size) hw4)
      have BY := Lib.hid (show Below w1.heap.size w1 w4 from by subst hw4; exact (((BEL.out.trans (hb3.mono BEL.out.size)).setCell (Nat.le_refl _) _).setCell (Nat.le_refl _) _).setCell (Nat.le_refl _) _)
      clear hw4 h3 ho3 hb3 y0 y1 y2 t0 t1 t2 g0 g1 g2
      have MY := Lib.hid (show PkS w4 w1.heap.size w1.heap.size l.length (tgS l.length x).1 by rw [ES.out]; exact MN.out)
      have EV := Lib.hid (show (l.length : Int) + x.1.length = (tgS l.length x).2 by rw [ES.out]; rfl)
      rw [EV.out]
      obtain ⟨y, hy⟩ : ∃ y, tgS l.length x = y := ⟨_, rfl⟩
      have hyl : y.1.length ≤ 141 := by rw [← hy]; have := tgS_len l.length x; have := HX.out; omega
      have hyv : vd y := by rw [← hy]; exact vd_S (by omega) VX.out
      rw [hy] at MY EP
      rw [hy]
      have VY := Lib.hid hyv
      clear hy hyv
      go_loopw [5, 46] (fun vv iv wr => ∃ i : Nat, i ≤ l.length ∧ iv = .int .i64 i ∧ vv = .int .i64 (tgI l.length l p y i).2 ∧ PkS wr w1.heap.size w1.heap.size l.length (tgI l.length l p y i).1 ∧ Below w1.heap.size w1 wr) (fun _ iv _ => l.length - (intOf iv).toNat)
      case atStart => exact ⟨0, by omega, rfl, rfl, MY.out, BY.out⟩
      case round =>
        obtain ⟨i, hi, rfl, rfl, hmk, hbel⟩ := hrel
        have MI := Lib.hid hmk
        have BI := Lib.hid hbel
        clear hmk hbel
        by_cases hil : i < l.length
        · have ii : (i : Int) < (l.length : Int) := by omega
          obtain ⟨b, off, rfl, hb, hcell⟩ := (HR2.out wr BI.out).int hil
          obtain ⟨e, he⟩ := HPOS.out i hil
          rw [he] at hcell
          have hzl := tgI_len l.length l p y i
          have hzv := vd_I (n := (l.length : Int)) (by omega) l p VY.out i
          obtain ⟨z, hz⟩ : ∃ z, tgI l.length l p y i = z := ⟨_, rfl⟩
          have hget : (l.getD i 0).toNat = e := by simp [hil, he]
          have EZ := Lib.hid (show tgI l.length l p y (i + 1) = if bitB e p then onS l.length z i else z by
            show (if bitB (l.getD i 0).toNat p then onS l.length (tgI l.length l p y i) (i : Int) else tgI l.length l p y i) = _
            rw [hget, hz])
          rw [hz] at MI hzl hzv
          rw [hz]
          have hed : ((e : Int) / 2 ^ p).tmod 2 = if bitB e p then 1 else 0 := bit_mod e p
          clear hz he hget
          cases hbit : bitB e p with
          | true =>
            rw [hbit] at EZ hed
            rw [if_pos rfl] at hed
            have hed2 : (((e : Int) / 2 ^ p).tmod 2 == 0) = false := by rw [hed]; rfl
            clear hbit
            by_cases hv : z.2 = -1
            · have hv' : z.2 < 0 := by omega
              have EO := Lib.hid (show onS l.length z i = (z.1, (i : Int)) by unfold onS; rw [if_pos hv])
              clear hv hzv
              go_wp2
              go_roundw
              case rel => exact ⟨i + 1, by omega, by go_num, by rw [EZ.out]; show _ = Value.int .i64 (onS l.length z i).2; rw [EO.out], by rw [EZ.out]; show PkS _ _ _ _ (onS l.length z i).1; rw [EO.out]; exact MI.out, BI.out⟩
              case measure => simp [intOf]; omega
            · have hv' : ¬ z.2 < 0 := by rcases hzv with h | h <;> omega
              have EO := Lib.hid (show onS l.length z i = muS l.length z i by unfold onS; rw [if_neg hv])
              obtain ⟨A4, c4, hblk, hown⟩ := MI.out
              obtain ⟨y0, y1, y2, _, _, _⟩ := cells3 hblk
              have BLK := Lib.hid hblk
              have OWN := Lib.hid hown
              have hT := meTimes_any wr.heap.size A4 none c4 0 0 l.length z.1 z.2 i wr (Nat.le_refl _) (by omega) (by omega) hn (Rd.of_own hown)
              have HT := Lib.hid hT
              clear hv hzv hblk hown hT
              go_wp2_with (go_at_call 52; refine HT.out.mono ?_; rintro e' w3 ⟨A5, c5, rfl, ho3, hb3⟩; have h3 := (hb3.block _ (Array.getElem?_eq_some_iff.1 BLK.out).1).trans BLK.out; obtain ⟨t0, t1, t2, g0, g1, g2⟩ := cells3 h3)
              obtain ⟨w4, hw4⟩ : ∃ w4, ((World.setCell w3 ⟨w1.heap.size, 0, none⟩ (.int .i64 l.length)).setCell ⟨w1.heap.size, 1, none⟩ (.slice A5 (z.1.length + 1) c5)).setCell ⟨w1.heap.size, 2, none⟩ (.slice none 0 0) = w4 := ⟨_, rfl⟩
              rw [hw4]
              have MN := Lib.hid (pk_set (cs := #[_, _, _]) (by simp) h3 (own_base ho3 BI.out.size) hw4)
              have BN := Lib.hid (show Below w1.heap.size w1 w4 from by subst hw4; exact (((BI.out.trans (hb3.mono BI.out.size)).setCell (Nat.le_refl _) _).setCell (Nat.le_refl _) _).setCell (Nat.le_refl _) _)
              clear hw4 h3 ho3 hb3 y0 y1 y2 t0 t1 t2 g0 g1 g2
              go_roundw
              case rel => exact ⟨i + 1, by omega, by go_num, by rw [EZ.out]; show _ = Value.int .i64 (onS l.length z i).2; rw [EO.out]; rfl, by rw [EZ.out]; show PkS _ _ _ _ (onS l.length z i).1; rw [EO.out]; exact MN.out, BN.out⟩
              case measure => simp [intOf]; omega
          | false =>
            rw [hbit] at EZ hed
            rw [if_neg (by decide)] at hed
            have hed2 : (((e : Int) / 2 ^ p).tmod 2 == 0) = true := by rw [hed]; rfl
            clear hbit
            go_wp2
            go_roundw
            case rel => exact ⟨i + 1, by omega, by go_num, by rw [EZ.out]; rfl, by rw [EZ.out]; exact MI.out, BI.out⟩
            case measure => simp [intOf]; omega
        · have e : i = l.length := by omega
          subst e
          go_wp2
          go_roundw
          case rel => exact ⟨j + 1, by omega, by go_num, by rw [EP.out], by rw [EP.out]; exact MI.out, BI.out⟩
          case measure => simp [intOf]
end Go.Proofs.Ytlkieebmfmiafab
/- VectorCosts, of the model and of the program. -/
namespace Go.Proofs.Ytlkieebmfmiafab
open Go.RowKit

def vcG (l : List Int) : Bool := togG l && vpG l
def vcA (l : List Int) : Int := if vcG l then ((togR l).s.length : Int) else 0
def vcB (l : List Int) : Int := if vcG l then ((vpR l).s.length : Int) else 0
theorem vc_not {l : List Int} (h : (togG l && vpG l) = false) : vcG l = false ∧ vcA l = 0 ∧ vcB l = 0 := by
  have h1 : vcG l = false := h
  exact ⟨h1, by unfold vcA; rw [h1]; rfl, by unfold vcB; rw [h1]; rfl⟩
theorem vc_yes {l : List Int} (h : (togG l && vpG l) = true) : vcG l = true ∧ vcA l = ((togR l).s.length : Int) ∧ vcB l = ((vpR l).s.length : Int) := by
  have h1 : vcG l = true := h
  exact ⟨h1, by unfold vcA; rw [h1]; rfl, by unfold vcB; rw [h1]; rfl⟩

set_option maxHeartbeats 1000000 in
theorem costOf_any (A1 A2 : Option Addr) (c1 c2 : Nat) (p : Pl) (b : Bool) (w : World) :
    Calls Try.prog 36 #[.agg #[.int .i64 p.n, .slice A1 p.s.length c1, .slice A2 p.o.length c2], .bool b] w fun e w' => e = .returned (.tuple #[.int .i64 (p.s.length : Int), .bool b]) ∧ Below w.heap.size w w' := by
  go_enter Try.func36, Try.ntmps36
  go_wp2
  go_ret2
  exact ⟨rfl, (Below.refl _ _).alloc (Nat.le_refl _) _⟩

set_option maxRecDepth 100000 in
set_option maxHeartbeats 2000000 in
theorem implCosts_any (B : Nat) (A : Option Addr) (c : Nat) (l : List Int) (w : World) (hB : B ≤ w.heap.size) (hl : l.length ≤ 1048576) (hcap : l.length ≤ c) (hr : Rd w B 1 A l.length (l.map I)) :
    Calls Try.prog 18 #[.slice A l.length c] w fun e w' => e = .returned (.tuple #[.int .i64 (vcA l), .int .i64 (vcB l), .bool (vcG l)]) ∧ Below w.heap.size w w' := by
  have H := Lib.hid hr
  have TG := Lib.hid (fun W hW hr => implTogether_any B A c l W hW hl hcap hr)
  have VP := Lib.hid (fun W hW hr => implVector_any B A c l W hW hl hcap hr)
  have NO := Lib.hid (fun h => vc_not (l := l) h)
  have YES := Lib.hid (fun h => vc_yes (l := l) h)
  obtain ⟨P, hP⟩ : ∃ P, togR l = P := ⟨_, rfl⟩
  obtain ⟨Q, hQ⟩ : ∃ Q, vpR l = Q := ⟨_, rfl⟩
  obtain ⟨g1, hg1⟩ : ∃ b, togG l = b := ⟨_, rfl⟩
  obtain ⟨g2, hg2⟩ : ∃ b, vpG l = b := ⟨_, rfl⟩
  rw [hP, hg1] at TG
  rw [hQ, hg2] at VP
  rw [hg1, hg2] at NO
  rw [hP, hQ, hg1, hg2] at YES
  clear hr hP hQ hg1 hg2 hl hcap
  go_enter Try.func18, Try.ntmps18
  go_wp2_with fail
  go_at_call 37
  refine (TG.out w hB H.out).mono ?_
  rintro e w2 ⟨R1, R2, v1, v2, rfl, _, hb2⟩
  have HB2 := Lib.hid hb2
  have hs2 := hb2.size
  clear hb2
  go_wp2_with fail
  go_at_call 36
  refine (costOf_any R1 R2 v1 v2 P g1 w2).mono ?_
  rintro e w3 ⟨rfl, hb3⟩
  have HB3 := Lib.hid (HB2.out.trans (hb3.mono hs2))
  have hs3 := HB3.out.size
  clear hb3
  go_wp2_with fail
  go_at_call 11
  refine (VP.out w3 (by omega) (H.out.below' HB3.out hB)).mono ?_
  rintro e w4 ⟨E1, E2, d1, d2, rfl, _, hb4⟩
  have HB4 := Lib.hid (HB3.out.trans (hb4.mono hs3))
  have hs4 := HB4.out.size
  clear hb4
  go_wp2_with fail
  go_at_call 36
  refine (costOf_any E1 E2 d1 d2 Q g2 w4).mono ?_
  rintro e w5 ⟨rfl, hb5⟩
  have HB5 := Lib.hid (HB4.out.trans (hb5.mono hs4))
  clear hb5
  cases g1 with
  | false =>
    obtain ⟨e1, e2, e3⟩ := NO.out rfl
    have E := Lib.hid (And.intro e1 (And.intro e2 e3))
    clear e1 e2 e3
    go_wp2
    refine bodyPost_ret (v := .tuple #[.int .i64 0, .int .i64 0, .bool false]) (by simp [results, Try.results18, go_sem]) rfl ⟨by rw [E.out.1, E.out.2.1, E.out.2.2], HB5.out⟩
  | true =>
    cases g2 with
    | false =>
      obtain ⟨e1, e2, e3⟩ := NO.out rfl
      have E := Lib.hid (And.intro e1 (And.intro e2 e3))
      clear e1 e2 e3
      go_wp2
      refine bodyPost_ret (v := .tuple #[.int .i64 0, .int .i64 0, .bool false]) (by simp [results, Try.results18, go_sem]) rfl ⟨by rw [E.out.1, E.out.2.1, E.out.2.2], HB5.out⟩
    | true =>
      obtain ⟨e1, e2, e3⟩ := YES.out rfl
      have E := Lib.hid (And.intro e1 (And.intro e2 e3))
      clear e1 e2 e3
      go_wp2
      refine bodyPost_ret (v := .tuple #[.int .i64 (P.s.length : Int), .int .i64 (Q.s.length : Int), .bool true]) (by simp [results, Try.results18, go_sem]) rfl ⟨by rw [E.out.1, E.out.2.1, E.out.2.2], HB5.out⟩

set_option maxRecDepth 100000 in
set_option maxHeartbeats 2000000 in
theorem specCosts_any (B : Nat) (A : Option Addr) (c : Nat) (l : List Int) (w : World) (hB : B ≤ w.heap.size) (hl : l.length ≤ 1048576) (hcap : l.length ≤ c) (hr : Rd w B 1 A l.length (l.map I)) :
    Calls Try.prog 17 #[.slice A l.length c] w fun e w' => e = .returned (.tuple #[.int .i64 (vcA l), .int .i64 (vcB l), .bool (vcG l)]) ∧ Below w.heap.size w w' := by
  have H := Lib.hid hr
  have TG := Lib.hid (fun W hW hr => specTogether_any B A c l W hW hl hcap hr)
  have VP := Lib.hid (fun W hW hr => specVector_any B A c l W hW hl hcap hr)
  have NO := Lib.hid (fun h => vc_not (l := l) h)
  have YES := Lib.hid (fun h => vc_yes (l := l) h)
  obtain ⟨P, hP⟩ : ∃ P, togR l = P := ⟨_, rfl⟩
  obtain ⟨Q, hQ⟩ : ∃ Q, vpR l = Q := ⟨_, rfl⟩
  obtain ⟨g1, hg1⟩ : ∃ b, togG l = b := ⟨_, rfl⟩
  obtain ⟨g2, hg2⟩ : ∃ b, vpG l = b := ⟨_, rfl⟩
  rw [hP, hg1] at TG
  rw [hQ, hg2] at VP
  rw [hg1, hg2] at NO
  rw [hP, hQ, hg1, hg2] at YES
  clear hr hP hQ hg1 hg2 hl hcap
  go_enter Try.func17, Try.ntmps17
  go_wp2_with fail
  go_at_call 35
  refine (TG.out w hB H.out).mono ?_
  rintro e w2 ⟨R1, R2, v1, v2, rfl, _, hb2⟩
  have HB2 := Lib.hid hb2
  have hs2 := hb2.size
  clear hb2
  go_wp2_with fail
  go_at_call 9
  generalize hw3 : World.alloc w2 _ = w3
  obtain ⟨x0, x1, x2, xs, xb⟩ := box3 hw3
  clear hw3
  have HB3 := Lib.hid (HB2.out.trans (xb.mono hs2))
  refine (VP.out w3 (by omega) (H.out.below' HB3.out hB)).mono ?_
  rintro e w4 ⟨E1, E2, d1, d2, rfl, _, hb4⟩
  have y1 := (hb4.cell (p := ⟨w2.heap.size, 1, none⟩) (by simp only []; omega)).trans x1
  have HB4 := Lib.hid (HB3.out.trans (hb4.mono (by omega)))
  have hs4 := hb4.size
  have z1 : (w4.alloc (.cells #[.int .i64 Q.n, .slice E1 Q.s.length d1, .slice E2 Q.o.length d2] 25)).cell? ⟨w2.heap.size, 1, none⟩ = some (.slice R1 P.s.length v1) := (((Below.refl w4.heap.size w4).alloc (Nat.le_refl _) _).cell (p := ⟨w2.heap.size, 1, none⟩) (by simp only []; omega)).trans y1
  have HB5 := Lib.hid (HB4.out.alloc HB4.out.size (.cells #[.int .i64 Q.n, .slice E1 Q.s.length d1, .slice E2 Q.o.length d2] 25))
  clear hb4 xb xs x0 x1 x2 y1
  cases g1 with
  | false =>
    obtain ⟨e1, e2, e3⟩ := NO.out rfl
    have E := Lib.hid (And.intro e1 (And.intro e2 e3))
    clear e1 e2 e3
    go_wp2
    refine bodyPost_ret (v := .tuple #[.int .i64 0, .int .i64 0, .bool false]) (by simp [results, Try.results17, go_sem]) rfl ⟨by rw [E.out.1, E.out.2.1, E.out.2.2], HB5.out⟩
  | true =>
    cases g2 with
    | false =>
      obtain ⟨e1, e2, e3⟩ := NO.out rfl
      have E := Lib.hid (And.intro e1 (And.intro e2 e3))
      clear e1 e2 e3
      go_wp2
      refine bodyPost_ret (v := .tuple #[.int .i64 0, .int .i64 0, .bool false]) (by simp [results, Try.results17, go_sem]) rfl ⟨by rw [E.out.1, E.out.2.1, E.out.2.2], HB5.out⟩
    | true =>
      obtain ⟨e1, e2, e3⟩ := YES.out rfl
      have E := Lib.hid (And.intro e1 (And.intro e2 e3))
      clear e1 e2 e3
      go_wp2
      refine wp_region_Tw [0, 1, 2, 3, 4, 5, 6, 7, 8] [1, 4] (.lp 0 (.lp 3 (.ls 1 (.lp 2 (.lp 6 (.ls 4 (.lp 5 (.lp 7 (.lp 8 (.done)))))))))) (by kernel_rfl) (by kernel_rfl) ?_
      (repeat (first | (refine T_lp rfl (fun K hK => ?_); go_simp; refine hK _ ?_; clear hK K) | (refine T_ls rfl rfl (fun K hK => ?_); go_simp; refine hK _ ?_; clear hK K)))
      refine T_done ?_
      go_wp2
      refine bodyPost_ret (v := .tuple #[.int .i64 (P.s.length : Int), .int .i64 (Q.s.length : Int), .bool true]) (by simp [results, Try.results17, go_sem]) rfl ⟨by rw [E.out.1, E.out.2.1, E.out.2.2], HB5.out.drew⟩
end Go.Proofs.Ytlkieebmfmiafab
