/- FirstExponents: what both sides answer. -/
import Derived.Test.YtppfpdobdoaoiabFy
import Derived.Test.YtppfpdobdoaoiabFa
namespace Go.Proofs.Ytppfpdobdoaoiab
open Go.RowKit

def firstP (p : Pl) : List Int := if good p then firstK (exps p.n.toNat p.s) (exps p.n.toNat p.s).length else []
theorem firstP_good {p : Pl} {N : Nat} (h : good p = true) (hN : p.n = N) : firstP p = firstK (exps N p.s) (exps N p.s).length := by
  have : p.n.toNat = N := by omega
  unfold firstP
  rw [if_pos h, this]
theorem firstP_len (p : Pl) : (firstP p).length ≤ 46 := by
  cases h : good p with
  | false => simp [firstP, h]
  | true =>
    obtain ⟨N, hN, _, n6, h40, _⟩ := good_facts h
    rw [firstP_good h hN, firstK_length, exps_length]
    omega
theorem box5b {w w1 : World} {a b c d : Value} {t : TypeId} (h : w.alloc (.cells #[a, b, c, d] t) = w1) : w1.heap.size = w.heap.size + 1 ∧ Below w.heap.size w w1 := (box4b h).2.2.2.2

set_option maxRecDepth 100000 in
set_option maxHeartbeats 1000000 in
theorem specFirst_any (B : Nat) (A1 A2 : Option Addr) (c1 c2 : Nat) (p : Pl) (w : World) (hB : B ≤ w.heap.size) (hls : p.s.length ≤ 2000000) (hlo : p.o.length ≤ 2000000) (hr : RdP w B A1 A2 p) :
    Calls Try.prog 19 #[.agg #[.int .i64 p.n, .slice A1 p.s.length c1, .slice A2 p.o.length c2]] w fun e w' =>
      ∃ A c, e = .returned (.tuple #[.slice A (firstP p).length c, .bool (good p)]) ∧ OwI w' w.heap.size (.slice A (firstP p).length c) (firstP p) ∧ Below w.heap.size w w' := by
  have H := Lib.hid hr
  clear hr
  obtain ⟨gd, hgd⟩ : ∃ x, good p = x := ⟨_, rfl⟩
  have HG := Lib.hid hgd
  go_enter Try.func19, Try.ntmps19
  go_wp2_with fail
  go_at_call 26
  generalize hw1 : World.alloc w _ = w1
  obtain ⟨x0, x1, x2, xs, xb⟩ := box3 hw1
  clear hw1
  have hC := plGood_any w.heap.size A1 A2 c1 c2 p w1 (by omega) hls hlo ((H.out.below' xb hB).more hB)
  rw [hgd] at hC
  refine hC.mono ?_
  rintro e w2 ⟨rfl, hb2⟩
  clear hC hgd
  have y0 := (hb2.cell (p := ⟨w.heap.size, 0, none⟩) (by simp only []; omega)).trans x0
  have y1 := (hb2.cell (p := ⟨w.heap.size, 1, none⟩) (by simp only []; omega)).trans x1
  have y2 := (hb2.cell (p := ⟨w.heap.size, 2, none⟩) (by simp only []; omega)).trans x2
  have HB2 := Lib.hid (xb.trans (hb2.mono (show w.heap.size ≤ w1.heap.size by omega)))
  have hs2 : w.heap.size + 1 ≤ w2.heap.size := by have := hb2.size; omega
  clear x0 x1 x2 xs xb hb2
  cases gd with
  | false =>
    have ea : firstP p = [] := by simp [firstP, HG.out]
    have EA := Lib.hid ea
    clear ea
    go_wp2
    go_ret2
    exact ⟨none, 0, by rw [EA.out, HG.out]; rfl, by rw [EA.out]; exact OwI.nil _ _, HB2.out⟩
  | true =>
    obtain ⟨N, hN, n1, n6, hs40, ho6, hok, hout, _⟩ := good_facts HG.out
    have ea := firstP_good HG.out hN
    have EA := Lib.hid ea
    have HOK := Lib.hid hok
    have HN := Lib.hid hN
    clear ea hok hout hN
    go_wp2_with fail
    go_at_call 44
    refine (plFirst_any w.heap.size N A1 A2 c1 c2 p w2 HN.out n1 n6 hs40 (by omega) HOK.out ((H.out.below' HB2.out hB).more hB)).mono ?_
    rintro e w3 ⟨A3, c3, rfl, hown3, hb3⟩
    have HO := Lib.hid (OwI.base hown3 (show w.heap.size ≤ w2.heap.size by omega))
    have HB3 := Lib.hid (HB2.out.trans (hb3.mono (show w.heap.size ≤ w2.heap.size by omega)))
    clear hown3 hb3
    go_wp2
    go_ret2
    exact ⟨A3, c3, by rw [EA.out, HG.out, firstK_length]; rfl, by rw [EA.out, firstK_length]; exact HO.out, HB3.out⟩

set_option maxRecDepth 100000 in
set_option maxHeartbeats 1000000 in
theorem implFirst_any (B : Nat) (A1 A2 : Option Addr) (c1 c2 : Nat) (p : Pl) (w : World) (hB : B ≤ w.heap.size) (hls : p.s.length ≤ 2000000) (hlo : p.o.length ≤ 2000000) (hr : RdP w B A1 A2 p) :
    Calls Try.prog 20 #[.agg #[.int .i64 p.n, .slice A1 p.s.length c1, .slice A2 p.o.length c2]] w fun e w' =>
      ∃ A c, e = .returned (.tuple #[.slice A (firstP p).length c, .bool (good p)]) ∧ OwI w' w.heap.size (.slice A (firstP p).length c) (firstP p) ∧ Below w.heap.size w w' := by
  have H := Lib.hid hr
  clear hr
  go_enter Try.func20, Try.ntmps20
  go_wp2_with fail
  go_at_call 45
  generalize hw1 : World.alloc w _ = w1
  obtain ⟨x0, x1, x2, xs, xb⟩ := box3 hw1
  clear hw1
  refine (withValues_any B A1 A2 c1 c2 p w1 (by omega) hls hlo (H.out.below' xb hB)).mono ?_
  rintro e w2 ⟨hb2, hpost⟩
  have HB2 := Lib.hid (xb.trans (hb2.mono (show w.heap.size ≤ w1.heap.size by omega)))
  clear x0 x1 x2 hb2
  rw [valsI_eq] at hpost
  by_cases hg : good p = true
  · rw [if_pos hg] at hpost
    simp only at hpost
    obtain ⟨A, c, rfl, hown⟩ := hpost
    obtain ⟨N, hN, n1, n6, hs40, ho6, hok, hout, _⟩ := good_facts hg
    have hn' : p.n.toNat = N := by omega
    rw [hn', List.length_map] at hown ⊢
    have hokr : OkR N (exps N p.s) := by have := exps_ok hok p.s.length (Nat.le_refl _); rwa [List.take_of_length_le (Nat.le_refl _)] at this
    have hel := exps_length N p.s
    have ea := firstP_good hg hN
    obtain ⟨E, hE⟩ : ∃ E, exps N p.s = E := ⟨_, rfl⟩
    rw [hE] at hown hokr hel ea ⊢
    have hEl : E.length ≤ 46 := by omega
    have HRD := Lib.hid (Rd.of_own hown)
    have HOKR := Lib.hid hokr
    clear hE hel
    have EA := Lib.hid ea
    have HG := Lib.hid hg
    clear ea hok hout hN hown hg xs xb hokr hn'
    go_wp2_with fail
    go_at_call 46
    generalize hw3 : World.alloc w2 _ = w3
    obtain ⟨xs, xb⟩ := box5b hw3
    clear hw3
    have hB3 := HB2.out.trans (xb.mono HB2.out.size)
    have hs2 := HB2.out.size
    refine (firsts_any w2.heap.size N (.int .i64 p.n) (.slice A1 p.s.length c1) (.slice A2 p.o.length c2) A c E w3 n6 HOKR.out (by omega) (by omega) (HRD.out.below xb)).mono ?_
    rintro e w4 ⟨A3, c3, rfl, hown3, hb3⟩
    have HO := Lib.hid (hown3.base (show w.heap.size ≤ w3.heap.size by omega))
    have HB4 := Lib.hid (hB3.trans (hb3.mono (show w.heap.size ≤ w3.heap.size by omega)))
    clear hown3 hb3 hB3 hs2 xs xb
    go_wp2
    go_ret2
    exact ⟨A3, c3, by rw [EA.out, HG.out, firstK_length]; rfl, by rw [EA.out, firstK_length]; exact HO.out, HB4.out⟩
  · rw [if_neg hg] at hpost
    simp only at hpost
    subst hpost
    have hg' : good p = false := by simpa using hg
    have ea : firstP p = [] := by simp [firstP, hg']
    have EA := Lib.hid ea
    have HG := Lib.hid hg'
    clear hg hg' ea
    go_wp2
    go_ret2
    exact ⟨none, 0, by rw [EA.out, HG.out]; rfl, by rw [EA.out]; exact OwI.nil _ _, HB2.out.alloc HB2.out.size _⟩

end Go.Proofs.Ytppfpdobdoaoiab
