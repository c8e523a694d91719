/- PickOutputs of the program. -/
import Derived.Test.YtppfpdobdoaoiabPb
import Derived.Test.YtppfpdobdoaoiabMa
import Derived.Test.YtppfpdobdoaoiabEa
namespace Go.Proofs.Ytppfpdobdoaoiab
open Go.RowKit

theorem eq_nil_steps (A : Option Addr) (n c : Nat) (W : World) : (binOp .eql 27 (.slice A n c) (.slice none 0 0)).run Try.prog W = .ok (.bool A.isNone) W := by
  simp only [binOp]
  simp [run_equal_slice_nil W 27 60 A n c Try.underlying27]

set_option maxRecDepth 100000 in
set_option maxHeartbeats 400000 in
theorem cloneS_any (B : Nat) (A : Option Addr) (c : Nat) (s : List (Int × Int)) (w : World) (hm : s.length ≤ 1000000) (hB : B ≤ w.heap.size) (hr : Rd w B 2 A s.length (fl s)) :
    Calls Try.prog 43 #[.slice A s.length c] w fun e w' => ∃ A' c', e = .returned (.slice A' s.length c') ∧ OwS w' w.heap.size (.slice A' s.length c') s ∧ Below w.heap.size w w' := by
  have H := Lib.hid hr
  cases A with
  | none =>
    have hl : s = [] := by
      by_cases h : 0 < s.length
      · obtain ⟨b, off, e, _⟩ := hr.2 h
        cases e
      · exact List.length_eq_zero_iff.1 (by omega)
    subst hl
    have hnil0 := fun W => eq_nil_steps none 0 c W
    clear hr
    go_enter Try.func43, Try.ntmps43
    go_wp2
    go_ret
    exact ⟨none, 0, rfl, World.ownsRow_nil _ _ _ _, Below.refl _ _⟩
  | some ad =>
    have hnil := fun W => eq_nil_steps (some ad) s.length c W
    clear hr
    go_enter Try.func43, Try.ntmps43
    go_wp2_with (first
      | (at_builtin; refine list_step (fun K hK => ?_); refine step_appM Try.underlying27 info_step rfl (by omega) (by omega) rfl (.tmp 5) (.tmp 6) rfl w.heap.size 0 _ [] rfl (own_empty 2 (Nat.le_refl _)) _ s.length c (fl s) rfl (H.out.alloc hB _) (fl_one s) (by omega) (by simp) ?_; intro A2 c2 w2 hown2 hg2 hbel2; go_simp; refine hK _ _ ?_; clear hK K))
    go_ret
    simp only [Nat.zero_add, List.nil_append] at hown2
    exact ⟨A2, c2, by simp, hown2, ((Below.refl _ _).alloc (Nat.le_refl _) _).trans hbel2⟩

theorem allB_step {l : List Int} {m : Int} {k : Nat} (hk : k < l.length) (h : allB (l.take k) 0 m = true) (h0 : 0 ≤ l[k]) (h1 : l[k] ≤ m) : allB (l.take (k + 1)) 0 m = true := by
  rw [allB_take hk h]
  simp [inB, h0, h1]
theorem allB_low {l : List Int} {m : Int} {k : Nat} (hk : k < l.length) (h0 : ¬ (0 ≤ l[k] ∧ l[k] ≤ m)) : allB l 0 m = false := by
  refine allB_miss hk ?_
  unfold inB
  rw [Bool.and_eq_false_iff, decide_eq_false_iff_not, decide_eq_false_iff_not]
  omega

set_option maxRecDepth 100000 in
set_option maxHeartbeats 4000000 in
theorem implPick_any (B : Nat) (A1 A2 AL : Option Addr) (c1 c2 cl : Nat) (p : Pl) (l : List Int) (w : World) (hB : B ≤ w.heap.size) (hls : p.s.length ≤ 2000000) (hlo : p.o.length ≤ 2000000) (hll : l.length ≤ 1048576) (_hcap : l.length ≤ cl) (hr : RdP w B A1 A2 p) (hrl : Rd w B 1 AL l.length (l.map I)) :
    Calls Try.prog 16 #[.agg #[.int .i64 p.n, .slice A1 p.s.length c1, .slice A2 p.o.length c2], .slice AL l.length cl] w fun e w' =>
      ∃ B1 B2 d1 d2, e = .returned (.tuple #[.agg #[.int .i64 (pickR p l).n, .slice B1 (pickR p l).s.length d1, .slice B2 (pickR p l).o.length d2], .bool (pickB p l)]) ∧ OwP w' w.heap.size B1 B2 d1 d2 (pickR p l) ∧ Below w.heap.size w w' := by
  have H := Lib.hid hr
  have HL := Lib.hid hrl
  clear hr hrl
  obtain ⟨gd, hgd⟩ : ∃ x, good p = x := ⟨_, rfl⟩
  have HG := Lib.hid hgd
  go_enter Try.func16, Try.ntmps16
  go_wp2_with fail
  go_at_call 32
  generalize hw1 : World.alloc (World.alloc w _) _ = w1
  obtain ⟨q0, q1, xs, xb⟩ := boxes2b hw1
  clear hw1
  have hC := implIsPlan_any w.heap.size A1 A2 c1 c2 p w1 (by omega) hls hlo ((H.out.below' xb hB).more hB)
  rw [hgd] at hC
  refine hC.mono ?_
  rintro e w2 ⟨rfl, hb2⟩
  clear hC hgd
  have r0 := (hb2.block w.heap.size (by omega)).trans q0
  have r1 := (hb2.block (w.heap.size + 1) (by omega)).trans q1
  obtain ⟨y0, y1, y2, _, _, _⟩ := cells3b r0
  obtain ⟨t0, t1, t2, g0, g1, g2⟩ := cells3b r1
  have HB2 := Lib.hid (xb.trans (hb2.mono (show w.heap.size ≤ w1.heap.size by omega)))
  have hs2 : w.heap.size + 2 ≤ w2.heap.size := by have := hb2.size; omega
  have R1 := Lib.hid r1
  clear q0 q1 xs xb hb2 r0 r1
  cases gd with
  | false =>
    have hb : pickB p l = false := by simp [pickB, HG.out]
    have HBF := Lib.hid hb
    have EA := Lib.hid (pickB_bad hb)
    clear hb
    go_wp2
    refine bodyPost_ret (v := .tuple #[.agg #[.int .i64 0, .slice none 0 0, .slice none 0 0], .bool false]) (by simp [results, Try.results16, go_sem, t0, t1, t2]) rfl ⟨none, none, 0, 0, by rw [EA.out, HBF.out]; rfl, by rw [EA.out]; exact OwP.zeroQ _ _, ?_⟩
    exact ((HB2.out.setCell (by simp) _).setCell (by simp) _).setCell (by simp) _
  | true =>
    obtain ⟨N, hN, n1, n6, hs40, ho6, hok, hout, _⟩ := good_facts HG.out
    clear hok hout hN n1 n6
    by_cases h6 : l.length ≤ 6
    case neg =>
      have hb : pickB p l = false := by simp [pickB, h6]
      have i6 : (6 : Int) < (l.length : Int) := by omega
      have HBF := Lib.hid hb
      have EA := Lib.hid (pickB_bad hb)
      clear hb
      go_wp2
      refine bodyPost_ret (v := .tuple #[.agg #[.int .i64 0, .slice none 0 0, .slice none 0 0], .bool false]) (by simp [results, Try.results16, go_sem, t0, t1, t2]) rfl ⟨none, none, 0, 0, by rw [EA.out, HBF.out]; rfl, by rw [EA.out]; exact OwP.zeroQ _ _, ?_⟩
      exact ((HB2.out.setCell (by simp) _).setCell (by simp) _).setCell (by simp) _
    case pos =>
    have i6 : (l.length : Int) ≤ 6 := by omega
    go_wp2
    go_loop [19] (fun i => ∃ k : Nat, k ≤ l.length ∧ i = .int .i64 k ∧ allB (l.take k) 0 ((p.o.length : Int) - 1) = true) (fun i => l.length - (intOf i).toNat)
    case atStart => exact ⟨0, by omega, rfl, rfl⟩
    case round =>
      obtain ⟨k, hk, rfl, hq⟩ := hrel
      have Q := Lib.hid hq
      clear hq
      by_cases hlt : k < l.length
      · obtain ⟨lb, lo, rfl, hlb, hlc⟩ := (HL.out.below' HB2.out hB).int hlt
        have hbad : ¬ (0 ≤ l[k] ∧ l[k] ≤ (p.o.length : Int) - 1) → pickB p l = false := fun h => by
          have := allB_low hlt h
          simp [pickB, this]
        have HBAD := Lib.hid hbad
        clear hbad
        by_cases h0 : l[k] < 0
        · have hb := HBAD.out (by omega)
          have HBF := Lib.hid hb
          have EA := Lib.hid (pickB_bad hb)
          clear hb
          go_wp2
          refine bodyPost_ret (v := .tuple #[.agg #[.int .i64 0, .slice none 0 0, .slice none 0 0], .bool false]) (by simp [results, Try.results16, go_sem, t0, t1, t2]) rfl ⟨none, none, 0, 0, by rw [EA.out, HBF.out]; rfl, by rw [EA.out]; exact OwP.zeroQ _ _, ?_⟩
          exact ((HB2.out.setCell (by simp) _).setCell (by simp) _).setCell (by simp) _
        · by_cases h1 : (p.o.length : Int) ≤ l[k]
          · have hb := HBAD.out (by omega)
            have HBF := Lib.hid hb
            have EA := Lib.hid (pickB_bad hb)
            clear hb
            go_wp2
            refine bodyPost_ret (v := .tuple #[.agg #[.int .i64 0, .slice none 0 0, .slice none 0 0], .bool false]) (by simp [results, Try.results16, go_sem, t0, t1, t2]) rfl ⟨none, none, 0, 0, by rw [EA.out, HBF.out]; rfl, by rw [EA.out]; exact OwP.zeroQ _ _, ?_⟩
            exact ((HB2.out.setCell (by simp) _).setCell (by simp) _).setCell (by simp) _
          · have hn := allB_step hlt Q.out (by omega) (show l[k] ≤ (p.o.length : Int) - 1 by omega)
            have HN := Lib.hid hn
            clear hn
            go_wp2
            go_round
            case rel => exact ⟨k + 1, by omega, by go_num, HN.out⟩
            case measure => simp [intOf]; omega
      · have hk' : k = l.length := by omega
        have hq := Q.out
        rw [hk', List.take_of_length_le (Nat.le_refl _)] at hq
        have hb : pickB p l = true := by simp [pickB, HG.out, hq, h6]
        have hin := all_in hq
        have hlist : (l.map fun x => p.o.getD x.toNat 0) = pickO p l l.length := by unfold pickO; rw [List.take_of_length_le (Nat.le_refl _)]
        have hR := fun W hBW hrl hro => renamed_any w2.heap.size AL A2 cl c2 l p.o W (by omega) hBW (fun x hx => by have := hin x hx; omega) hrl hro
        rw [hlist] at hR
        have HREN := Lib.hid hR
        have HPL := Lib.hid (pickO_len p l (Nat.le_refl _))
        have HBT := Lib.hid hb
        have EA := Lib.hid (pickB_good hb)
        have FS := Lib.hid (show ∀ x, Below w2.heap.size w2 x → x.cell? ⟨w.heap.size, 0, none⟩ = some (.int .i64 p.n) ∧ x.cell? ⟨w.heap.size, 1, none⟩ = some (.slice A1 p.s.length c1) ∧ x.cell? ⟨w.heap.size, 2, none⟩ = some (.slice A2 p.o.length c2) from fun x hx =>
          ⟨(hx.cell (p := ⟨w.heap.size, 0, none⟩) (by simp only []; omega)).trans y0, (hx.cell (p := ⟨w.heap.size, 1, none⟩) (by simp only []; omega)).trans y1, (hx.cell (p := ⟨w.heap.size, 2, none⟩) (by simp only []; omega)).trans y2⟩)
        have S0 := Lib.hid (show Below w2.heap.size w2 w2.drew from (Below.refl _ _).drew)
        clear hq hb hin hlist hR y0 y1 y2 t0 t1 t2 g0 g1 g2 hk'
        go_wp2
        refine wp_region_T (fun x : World => Below w2.heap.size w2 x) [0, 1, 2, 3, 5, 6, 7, 9, 11] [1, 3, 7] (.lp 0 (.lp 2 (.lp 5 (.lp 6 (.ls 1 (.ls 3 (.ls 7 (.hv 4 (.hv 8 (.lp 9 (.hv 10 (.lp 11 (.done))))))))))))) (by kernel_rfl) (by kernel_rfl) ?_
        (repeat (refine T_lp rfl (fun K hK => ?_); go_simp; refine hK _ ?_; clear hK K))
        refine T_ls1 (v := .int .i64 p.n) rfl rfl S0.out (fun x hx => (by obtain ⟨h0, h1, h2⟩ := FS.out x hx; go_simp)) (fun K hK => ?_)
        (go_simp; refine hK _ ?_; clear hK K)
        refine T_ls1 (v := .slice A1 p.s.length c1) rfl rfl S0.out (fun x hx => (by obtain ⟨h0, h1, h2⟩ := FS.out x hx; go_simp)) (fun K hK => ?_)
        (go_simp; refine hK _ ?_; clear hK K)
        refine T_ls1 (v := .slice A2 p.o.length c2) rfl rfl S0.out (fun x hx => (by obtain ⟨h0, h1, h2⟩ := FS.out x hx; go_simp)) (fun K hK => ?_)
        (go_simp; refine hK _ ?_; clear hK K)
        refine T_hvS rfl (fun K hK => ?_)
        go_simp
        go_at_call 43
        refine (cloneS_any B A1 c1 p.s w2.drew (by omega) (by simp; omega) ((H.out.below' HB2.out hB).drew).1).mono ?_
        rintro e w3 ⟨B1, d1, rfl, hown3, hb3⟩
        have hb23 : Below w2.heap.size w2 w3 := (Below.refl _ _).drew.trans (hb3.mono (by simp))
        have OS3 := Lib.hid (show OwS w3 w2.heap.size (.slice B1 p.s.length d1) p.s from own_base hown3 (by simp))
        have HB23 := Lib.hid hb23
        clear hown3 hb3
        go_simp
        refine hK _ _ hb23 ?_
        clear hK K hb23
        refine T_hvS rfl (fun K hK => ?_)
        go_simp
        go_at_call 37
        have hbw3 : Below w.heap.size w w3 := HB2.out.trans (HB23.out.mono (by omega))
        refine (HREN.out w3 HB23.out.size ((HL.out.below' hbw3 hB).more (by omega)) (((H.out.below' hbw3 hB).2).more (by omega))).mono ?_
        rintro e w4 ⟨B2, d2, rfl, hown4, hb4⟩
        have hb24 : Below w2.heap.size w2 w4 := HB23.out.trans (hb4.mono HB23.out.size)
        have r4 := (hb24.block (w.heap.size + 1) (by omega)).trans R1.out
        obtain ⟨t0, t1, t2, g0, g1, g2⟩ := cells3b r4
        have R4 := Lib.hid r4
        have OS4 := Lib.hid (own_base (own_below OS3.out hb4) (show w.heap.size ≤ w2.heap.size by omega))
        have OI4 := Lib.hid (hown4.base (show w.heap.size ≤ w3.heap.size from hbw3.size))
        have HB4 := Lib.hid (HB2.out.trans (hb24.mono (by omega)))
        go_simp
        refine hK _ _ hb24 ?_
        clear hK K r4 hown4 hb4 hb24 hbw3
        (repeat (refine T_lp rfl (fun K hK => ?_); go_simp; refine hK _ ?_; clear hK K))
        (refine T_hv rfl (by kernel_rfl) (fun K hK => ?_); go_simp; refine hK _ _ ?_; clear hK K)
        (repeat (refine T_lp rfl (fun K hK => ?_); go_simp; refine hK _ ?_; clear hK K))
        refine T_done ?_
        go_wp2
        refine bodyPost_ret (v := .tuple #[.agg #[.int .i64 p.n, .slice B1 p.s.length d1, .slice B2 l.length d2], .bool true]) (by simp [results, Try.results16, go_sem, t0, t1, t2]) rfl ⟨B1, B2, d1, d2, ?_, ?_, ?_⟩
        · rw [EA.out, HBT.out]
          simp only
          rw [HPL.out]
        · rw [EA.out]
          have h := own_set3 OI4.out R4.out (by decide) (.int .i64 p.n) (.slice B1 p.s.length d1) (.slice B2 l.length d2)
          refine ⟨own_set3 OS4.out R4.out (by decide) _ _ _, ?_⟩
          show World.ownsRow _ _ _ _ _ _ _
          simp only
          rw [HPL.out] at h ⊢
          exact h
        · exact ((HB4.out.setCell (by simp) _).setCell (by simp) _).setCell (by simp) _
end Go.Proofs.Ytppfpdobdoaoiab
