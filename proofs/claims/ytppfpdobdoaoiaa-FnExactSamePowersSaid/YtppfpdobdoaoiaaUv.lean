/- UsedSteps and IsTrim, of the model and of the program. -/
import Derived.Test.YtppfpdobdoaoiaaMk
import Derived.Test.YtppfpdobdoaoiaaUu
namespace Go.Proofs.Ytppfpdobdoaoiaa
open Go.RowKit

def usdP (p : Pl) : List Int := if good p then usd p.n.toNat p.s p.o else []
def trimB (p : Pl) : Bool := good p && decide ((usdP p).length = p.s.length)
theorem usdP_len (p : Pl) : (usdP p).length ≤ 40 := by
  unfold usdP
  split
  · rename_i h
    obtain ⟨N, hN, _, _, h40, _⟩ := good_facts h
    have := us_len p.n.toNat p.s p.o p.s.length
    unfold usd
    omega
  · simp

set_option maxRecDepth 100000 in
set_option maxHeartbeats 1000000 in
theorem specUsedSteps_any (B : Nat) (A1 A2 : Option Addr) (c1 c2 : Nat) (p : Pl) (w : World) (hB : B ≤ w.heap.size) (hls : p.s.length ≤ 2000000) (hlo : p.o.length ≤ 2000000) (hr : RdP w B A1 A2 p) :
    Calls Try.prog 42 #[.agg #[.int .i64 p.n, .slice A1 p.s.length c1, .slice A2 p.o.length c2]] w fun e w' =>
      ∃ A c, e = .returned (.tuple #[.slice A (usdP p).length c, .bool (good p)]) ∧ OwI w' w.heap.size (.slice A (usdP p).length c) (usdP p) ∧ Below w.heap.size w w' := by
  have H := Lib.hid hr
  clear hr
  obtain ⟨gd, hgd⟩ : ∃ x, good p = x := ⟨_, rfl⟩
  have HG := Lib.hid hgd
  go_enter Try.func42, Try.ntmps42
  go_wp2_with fail
  go_at_call 59
  generalize hw1 : World.alloc w _ = w1
  obtain ⟨x0, x1, x2, xs, xb⟩ := box3 hw1
  clear hw1
  have hC := plGood_any w.heap.size A1 A2 c1 c2 p w1 (by omega) hls hlo ((H.out.below' xb hB).more hB)
  rw [hgd] at hC
  refine hC.mono ?_
  rintro e w2 ⟨rfl, hb2⟩
  clear hC hgd
  have y0 := (hb2.cell (p := ⟨w.heap.size, 0, none⟩) (by simp only []; omega)).trans x0
  have y1 := (hb2.cell (p := ⟨w.heap.size, 1, none⟩) (by simp only []; omega)).trans x1
  have y2 := (hb2.cell (p := ⟨w.heap.size, 2, none⟩) (by simp only []; omega)).trans x2
  have HB2 := Lib.hid (xb.trans (hb2.mono (show w.heap.size ≤ w1.heap.size by omega)))
  have hs2 : w.heap.size + 1 ≤ w2.heap.size := by have := hb2.size; omega
  clear x0 x1 x2 xs xb hb2
  cases gd with
  | false =>
    have ea : usdP p = [] := by simp [usdP, HG.out]
    have EA := Lib.hid ea
    clear ea
    go_wp2
    go_ret2
    exact ⟨none, 0, by rw [EA.out, HG.out]; rfl, by rw [EA.out]; exact OwI.nil _ _, HB2.out⟩
  | true =>
    obtain ⟨N, hN, n1, n6, hs40, ho6, hok, hout, _⟩ := good_facts HG.out
    have ea : usdP p = usd N p.s p.o := by simp [usdP, HG.out, hN]
    have EA := Lib.hid ea
    have HOK := Lib.hid hok
    have HN := Lib.hid hN
    clear ea hok hout hN
    go_wp2_with fail
    go_at_call 80
    refine (plUsed_any w.heap.size N A1 A2 c1 c2 p w2 HN.out n6 hs40 ho6 (by omega) HOK.out ((H.out.below' HB2.out hB).more hB)).mono ?_
    rintro e w3 ⟨A3, c3, rfl, hown3, hb3⟩
    have HO := Lib.hid (hown3.base (show w.heap.size ≤ w2.heap.size by omega))
    have HB3 := Lib.hid (HB2.out.trans (hb3.mono (show w.heap.size ≤ w2.heap.size by omega)))
    clear hown3 hb3
    go_wp2
    go_ret2
    exact ⟨A3, c3, by rw [EA.out, HG.out]; rfl, by rw [EA.out]; exact HO.out, HB3.out⟩

theorem rows_len {p : Pl} {N : Nat} (hN : p.n = N) : ((exps p.n.toNat p.s).map (pad p.n.toNat)).length = N + p.s.length := by
  rw [List.length_map, exps_length]
  omega
theorem box5 {w w1 : World} {a b c d : Value} {t : TypeId} (h : w.alloc (.cells #[a, b, c, d] t) = w1) : w1.heap.size = w.heap.size + 1 ∧ Below w.heap.size w w1 := (box4 h).2.2.2.2

set_option maxRecDepth 100000 in
set_option maxHeartbeats 1000000 in
theorem implUsedSteps_any (B : Nat) (A1 A2 : Option Addr) (c1 c2 : Nat) (p : Pl) (w : World) (hB : B ≤ w.heap.size) (hls : p.s.length ≤ 2000000) (hlo : p.o.length ≤ 2000000) (hr : RdP w B A1 A2 p) :
    Calls Try.prog 43 #[.agg #[.int .i64 p.n, .slice A1 p.s.length c1, .slice A2 p.o.length c2]] w fun e w' =>
      ∃ A c, e = .returned (.tuple #[.slice A (usdP p).length c, .bool (good p)]) ∧ OwI w' w.heap.size (.slice A (usdP p).length c) (usdP p) ∧ Below w.heap.size w w' := by
  have H := Lib.hid hr
  clear hr
  go_enter Try.func43, Try.ntmps43
  go_wp2_with fail
  go_at_call 64
  generalize hw1 : World.alloc w _ = w1
  obtain ⟨x0, x1, x2, xs, xb⟩ := box3 hw1
  clear hw1
  refine (withValues_any B A1 A2 c1 c2 p w1 (by omega) hls hlo (H.out.below' xb hB)).mono ?_
  rintro e w2 ⟨hb2, hpost⟩
  have HB2 := Lib.hid (xb.trans (hb2.mono (show w.heap.size ≤ w1.heap.size by omega)))
  clear x0 x1 x2 hb2
  rw [valsI_eq] at hpost
  by_cases hg : good p = true
  · rw [if_pos hg] at hpost
    simp only at hpost
    obtain ⟨A, c, rfl, hown⟩ := hpost
    obtain ⟨N, hN, n1, n6, hs40, ho6, hok, hout, _⟩ := good_facts hg
    rw [rows_len hN]
    have ea : usdP p = usd N p.s p.o := by simp [usdP, hg, hN]
    have EA := Lib.hid ea
    have HG := Lib.hid hg
    have HOK := Lib.hid hok
    have HOUT := Lib.hid hout
    have HN := Lib.hid hN
    clear ea hok hout hN hown hg xs xb
    go_wp2_with fail
    go_at_call 81
    generalize hw3 : World.alloc w2 _ = w3
    obtain ⟨xs, xb⟩ := box5 hw3
    clear hw3
    have hB3 := HB2.out.trans (xb.mono HB2.out.size)
    have hs2 := HB2.out.size
    refine (usedSteps_any w.heap.size N (N + p.s.length) A1 A2 A c1 c2 c p w3 HN.out n6 hs40 ho6 rfl (by omega) HOK.out HOUT.out ((H.out.below' hB3 hB).more hB)).mono ?_
    rintro e w4 ⟨A3, c3, rfl, hown3, hb3⟩
    have HO := Lib.hid (hown3.base (show w.heap.size ≤ w3.heap.size by omega))
    have HB4 := Lib.hid (hB3.trans (hb3.mono (show w.heap.size ≤ w3.heap.size by omega)))
    clear hown3 hb3 hB3 hs2 xs xb
    go_wp2
    go_ret2
    exact ⟨A3, c3, by rw [EA.out, HG.out]; rfl, by rw [EA.out]; exact HO.out, HB4.out⟩
  · rw [if_neg hg] at hpost
    simp only at hpost
    subst hpost
    have hg' : good p = false := by simpa using hg
    have ea : usdP p = [] := by simp [usdP, hg']
    have EA := Lib.hid ea
    have HG := Lib.hid hg'
    clear hg hg' ea
    go_wp2
    go_ret2
    exact ⟨none, 0, by rw [EA.out, HG.out]; rfl, by rw [EA.out]; exact OwI.nil _ _, HB2.out.alloc HB2.out.size _⟩

set_option maxRecDepth 100000 in
set_option maxHeartbeats 1000000 in
theorem specIsTrim_any (B : Nat) (A1 A2 : Option Addr) (c1 c2 : Nat) (p : Pl) (w : World) (hB : B ≤ w.heap.size) (hls : p.s.length ≤ 2000000) (hlo : p.o.length ≤ 2000000) (hr : RdP w B A1 A2 p) :
    Calls Try.prog 44 #[.agg #[.int .i64 p.n, .slice A1 p.s.length c1, .slice A2 p.o.length c2]] w fun e w' => e = .returned (.tuple #[.bool (trimB p), .bool (good p)]) ∧ Below w.heap.size w w' := by
  have H := Lib.hid hr
  clear hr
  obtain ⟨gd, hgd⟩ : ∃ x, good p = x := ⟨_, rfl⟩
  have HG := Lib.hid hgd
  go_enter Try.func44, Try.ntmps44
  go_wp2_with fail
  go_at_call 59
  generalize hw1 : World.alloc w _ = w1
  obtain ⟨x0, x1, x2, xs, xb⟩ := box3 hw1
  clear hw1
  have hC := plGood_any w.heap.size A1 A2 c1 c2 p w1 (by omega) hls hlo ((H.out.below' xb hB).more hB)
  rw [hgd] at hC
  refine hC.mono ?_
  rintro e w2 ⟨rfl, hb2⟩
  clear hC hgd
  have y0 := (hb2.cell (p := ⟨w.heap.size, 0, none⟩) (by simp only []; omega)).trans x0
  have y1 := (hb2.cell (p := ⟨w.heap.size, 1, none⟩) (by simp only []; omega)).trans x1
  have y2 := (hb2.cell (p := ⟨w.heap.size, 2, none⟩) (by simp only []; omega)).trans x2
  have HB2 := Lib.hid (xb.trans (hb2.mono (show w.heap.size ≤ w1.heap.size by omega)))
  have hs2 : w.heap.size + 1 ≤ w2.heap.size := by have := hb2.size; omega
  clear x0 x1 x2 xs xb hb2
  cases gd with
  | false =>
    have ea : trimB p = false := by simp [trimB, HG.out]
    have EA := Lib.hid ea
    clear ea
    go_wp2
    go_ret2
    exact ⟨by rw [EA.out, HG.out]; rfl, HB2.out⟩
  | true =>
    obtain ⟨N, hN, n1, n6, hs40, ho6, hok, hout, _⟩ := good_facts HG.out
    have hul := us_len N p.s p.o p.s.length
    have ea : trimB p = (((usd N p.s p.o).length : Int) == (p.s.length : Int)) := by
      have : p.n.toNat = N := by omega
      simp only [trimB, usdP, HG.out, if_true, this, Bool.true_and]
      rw [Bool.eq_iff_iff]
      simp only [decide_eq_true_eq, beq_iff_eq]
      omega
    have EA := Lib.hid ea
    have HOK := Lib.hid hok
    have HN := Lib.hid hN
    clear ea hok hout hN
    go_wp2
    have HS := Lib.hid (show (fun x : World => x.cell? ⟨w.heap.size, 0, none⟩ = some (.int .i64 p.n) ∧ x.cell? ⟨w.heap.size, 1, none⟩ = some (.slice A1 p.s.length c1) ∧ x.cell? ⟨w.heap.size, 2, none⟩ = some (.slice A2 p.o.length c2)) w2.drew from ⟨y0, y1, y2⟩)
    clear y0 y1 y2
    refine wp_region_T (fun x : World => x.cell? ⟨w.heap.size, 0, none⟩ = some (.int .i64 p.n) ∧ x.cell? ⟨w.heap.size, 1, none⟩ = some (.slice A1 p.s.length c1) ∧ x.cell? ⟨w.heap.size, 2, none⟩ = some (.slice A2 p.o.length c2)) [0, 2, 3, 4, 5, 6, 7, 8] [0, 4] (.lp 3 (.ls 0 (.ls 4 (.lp 5 (.hv 1 (.lp 2 (.lp 6 (.lp 7 (.lp 8 (.done)))))))))) (by kernel_rfl) (by kernel_rfl) ?_
    (repeat (refine T_lp rfl (fun K hK => ?_); go_simp; refine hK _ ?_; clear hK K))
    refine T_ls1 (v := .agg #[.int .i64 p.n, .slice A1 p.s.length c1, .slice A2 p.o.length c2]) rfl rfl HS.out (fun x hx => (by obtain ⟨h1, h2, h3⟩ := hx; go_simp)) (fun K hK => ?_)
    (go_simp; refine hK _ ?_; clear hK K)
    refine T_ls1 (v := .slice A1 p.s.length c1) rfl rfl HS.out (fun x hx => (by obtain ⟨h1, h2, h3⟩ := hx; go_simp)) (fun K hK => ?_)
    (go_simp; refine hK _ ?_; clear hK K)
    (repeat (refine T_lp rfl (fun K hK => ?_); go_simp; refine hK _ ?_; clear hK K))
    refine T_hvS rfl (fun K hK => ?_)
    go_simp
    go_at_call 80
    refine (plUsed_any w.heap.size N A1 A2 c1 c2 p w2.drew HN.out n6 hs40 ho6 (by simp; omega) HOK.out (((H.out.below' HB2.out hB).more hB).drew)).mono ?_
    rintro e w3 ⟨A3, c3, rfl, hown3, hb3⟩
    have hlt : w.heap.size < w2.drew.heap.size := by simp; omega
    have S3 : (fun x : World => x.cell? ⟨w.heap.size, 0, none⟩ = some (.int .i64 p.n) ∧ x.cell? ⟨w.heap.size, 1, none⟩ = some (.slice A1 p.s.length c1) ∧ x.cell? ⟨w.heap.size, 2, none⟩ = some (.slice A2 p.o.length c2)) w3 :=
      ⟨(hb3.cell (p := ⟨w.heap.size, 0, none⟩) hlt).trans HS.out.1, (hb3.cell (p := ⟨w.heap.size, 1, none⟩) hlt).trans HS.out.2.1, (hb3.cell (p := ⟨w.heap.size, 2, none⟩) hlt).trans HS.out.2.2⟩
    have S3H := Lib.hid S3
    have HB3 := Lib.hid (HB2.out.drew.trans (hb3.mono (show w.heap.size ≤ w2.drew.heap.size by simp; omega)))
    clear hown3 hb3 S3 hlt
    go_simp
    refine hK _ _ S3H.out ?_
    clear hK K
    (repeat (refine T_lp rfl (fun K hK => ?_); go_simp; refine hK _ ?_; clear hK K))
    refine T_done ?_
    go_wp2
    go_ret2
    exact ⟨by rw [EA.out, HG.out]; rfl, HB3.out⟩

set_option maxRecDepth 100000 in
set_option maxHeartbeats 1000000 in
theorem implIsTrim_any (B : Nat) (A1 A2 : Option Addr) (c1 c2 : Nat) (p : Pl) (w : World) (hB : B ≤ w.heap.size) (hls : p.s.length ≤ 2000000) (hlo : p.o.length ≤ 2000000) (hr : RdP w B A1 A2 p) :
    Calls Try.prog 45 #[.agg #[.int .i64 p.n, .slice A1 p.s.length c1, .slice A2 p.o.length c2]] w fun e w' => e = .returned (.tuple #[.bool (trimB p), .bool (good p)]) ∧ Below w.heap.size w w' := by
  have H := Lib.hid hr
  clear hr
  go_enter Try.func45, Try.ntmps45
  go_wp2_with fail
  go_at_call 64
  generalize hw1 : World.alloc w _ = w1
  obtain ⟨x0, x1, x2, xs, xb⟩ := box3 hw1
  clear hw1
  refine (withValues_any B A1 A2 c1 c2 p w1 (by omega) hls hlo (H.out.below' xb hB)).mono ?_
  rintro e w2 ⟨hb2, hpost⟩
  have y1 := (hb2.cell (p := ⟨w.heap.size, 1, none⟩) (by simp only []; omega)).trans x1
  have hs2 : w.heap.size < w2.heap.size := by have := hb2.size; omega
  have HB2 := Lib.hid (xb.trans (hb2.mono (show w.heap.size ≤ w1.heap.size by omega)))
  clear x0 x1 x2 hb2
  rw [valsI_eq] at hpost
  by_cases hg : good p = true
  · rw [if_pos hg] at hpost
    simp only at hpost
    obtain ⟨A, c, rfl, hown⟩ := hpost
    obtain ⟨N, hN, n1, n6, hs40, ho6, hok, hout, _⟩ := good_facts hg
    rw [rows_len hN]
    have hul := us_len N p.s p.o p.s.length
    have ea : trimB p = (((usd N p.s p.o).length : Int) == (p.s.length : Int)) := by
      have : p.n.toNat = N := by omega
      simp only [trimB, usdP, hg, if_true, this, Bool.true_and]
      rw [Bool.eq_iff_iff]
      simp only [decide_eq_true_eq, beq_iff_eq]
      omega
    have EA := Lib.hid ea
    have HG := Lib.hid hg
    have HOK := Lib.hid hok
    have HOUT := Lib.hid hout
    have HN := Lib.hid hN
    clear ea hok hout hN hown hg xs xb
    go_wp2
    generalize hw3 : World.alloc w2 _ = w3
    obtain ⟨v0, v1, v2, v3, xs, xb⟩ := box4 hw3
    clear hw3
    have z1 := (xb.cell (p := ⟨w.heap.size, 1, none⟩) hs2).trans y1
    have hB3 := HB2.out.trans (xb.mono HB2.out.size)
    have HB3 := Lib.hid hB3
    have hs3 : w2.heap.size < w3.heap.size := by omega
    have HS := Lib.hid (show (fun x : World => x.cell? ⟨w2.heap.size, 0, none⟩ = some (.int .i64 p.n) ∧ x.cell? ⟨w2.heap.size, 1, none⟩ = some (.slice A1 p.s.length c1) ∧ x.cell? ⟨w2.heap.size, 2, none⟩ = some (.slice A2 p.o.length c2) ∧ x.cell? ⟨w2.heap.size, 3, none⟩ = some (.slice A (N + p.s.length) c) ∧ x.cell? ⟨w.heap.size, 1, none⟩ = some (.slice A1 p.s.length c1)) w3.drew from ⟨v0, v1, v2, v3, z1⟩)
    clear v0 v1 v2 v3 z1 y1 xs xb hB3
    refine wp_region_T (fun x : World => x.cell? ⟨w2.heap.size, 0, none⟩ = some (.int .i64 p.n) ∧ x.cell? ⟨w2.heap.size, 1, none⟩ = some (.slice A1 p.s.length c1) ∧ x.cell? ⟨w2.heap.size, 2, none⟩ = some (.slice A2 p.o.length c2) ∧ x.cell? ⟨w2.heap.size, 3, none⟩ = some (.slice A (N + p.s.length) c) ∧ x.cell? ⟨w.heap.size, 1, none⟩ = some (.slice A1 p.s.length c1)) [0, 2, 3, 4, 5, 6, 7, 8] [0, 4] (.lp 3 (.ls 0 (.ls 4 (.lp 5 (.hv 1 (.lp 2 (.lp 6 (.lp 7 (.lp 8 (.done)))))))))) (by kernel_rfl) (by kernel_rfl) ?_
    (repeat (refine T_lp rfl (fun K hK => ?_); go_simp; refine hK _ ?_; clear hK K))
    refine T_ls1 (v := .agg #[.int .i64 p.n, .slice A1 p.s.length c1, .slice A2 p.o.length c2, .slice A (N + p.s.length) c]) rfl rfl HS.out (fun x hx => (by obtain ⟨h1, h2, h3, h4, h5⟩ := hx; go_simp)) (fun K hK => ?_)
    (go_simp; refine hK _ ?_; clear hK K)
    refine T_ls1 (v := .slice A1 p.s.length c1) rfl rfl HS.out (fun x hx => (by obtain ⟨h1, h2, h3, h4, h5⟩ := hx; go_simp)) (fun K hK => ?_)
    (go_simp; refine hK _ ?_; clear hK K)
    (repeat (refine T_lp rfl (fun K hK => ?_); go_simp; refine hK _ ?_; clear hK K))
    refine T_hvS rfl (fun K hK => ?_)
    go_simp
    go_at_call 81
    refine (usedSteps_any w.heap.size N (N + p.s.length) A1 A2 A c1 c2 c p w3.drew HN.out n6 hs40 ho6 rfl (by simp; omega) HOK.out HOUT.out (((H.out.below' HB3.out hB).more hB).drew)).mono ?_
    rintro e w4 ⟨A3, c3, rfl, hown4, hb4⟩
    have hlt : w2.heap.size < w3.drew.heap.size := by simp; omega
    have hlt0 : w.heap.size < w3.drew.heap.size := by simp; omega
    have S4H := Lib.hid (show (fun x : World => x.cell? ⟨w2.heap.size, 0, none⟩ = some (.int .i64 p.n) ∧ x.cell? ⟨w2.heap.size, 1, none⟩ = some (.slice A1 p.s.length c1) ∧ x.cell? ⟨w2.heap.size, 2, none⟩ = some (.slice A2 p.o.length c2) ∧ x.cell? ⟨w2.heap.size, 3, none⟩ = some (.slice A (N + p.s.length) c) ∧ x.cell? ⟨w.heap.size, 1, none⟩ = some (.slice A1 p.s.length c1)) w4 from
      ⟨(hb4.cell (p := ⟨w2.heap.size, 0, none⟩) hlt).trans HS.out.1, (hb4.cell (p := ⟨w2.heap.size, 1, none⟩) hlt).trans HS.out.2.1, (hb4.cell (p := ⟨w2.heap.size, 2, none⟩) hlt).trans HS.out.2.2.1, (hb4.cell (p := ⟨w2.heap.size, 3, none⟩) hlt).trans HS.out.2.2.2.1, (hb4.cell (p := ⟨w.heap.size, 1, none⟩) hlt0).trans HS.out.2.2.2.2⟩)
    have HB4 := Lib.hid (HB3.out.drew.trans (hb4.mono (show w.heap.size ≤ w3.drew.heap.size by simp; omega)))
    clear hown4 hb4 hlt hlt0
    go_simp
    refine hK _ _ S4H.out ?_
    clear hK K
    (repeat (refine T_lp rfl (fun K hK => ?_); go_simp; refine hK _ ?_; clear hK K))
    refine T_done ?_
    go_wp2
    go_ret2
    exact ⟨by rw [EA.out, HG.out]; rfl, HB4.out⟩
  · rw [if_neg hg] at hpost
    simp only at hpost
    subst hpost
    have hg' : good p = false := by simpa using hg
    have ea : trimB p = false := by simp [trimB, hg']
    have EA := Lib.hid ea
    have HG := Lib.hid hg'
    clear hg hg' ea
    go_wp2
    go_ret2
    exact ⟨by rw [EA.out, HG.out]; rfl, HB2.out.alloc HB2.out.size _⟩
end Go.Proofs.Ytppfpdobdoaoiaa
