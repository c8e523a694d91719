/- OutputExponents: what both sides answer. -/
import Derived.Test.YtppfpdobdoaoiaaOb
namespace Go.Proofs.Ytppfpdobdoaoiaa
open Go.RowKit

def oR (p : Pl) : Nat := if good p then p.o.length else 0
def oN (p : Pl) : Nat := if good p then p.n.toNat else 0
theorem oR_len (p : Pl) : oR p ≤ 1000 := by
  unfold oR
  split
  · rename_i h
    obtain ⟨_, _, _, _, _, h6, _⟩ := good_facts h
    omega
  · omega
theorem oN_len (p : Pl) : oN p ≤ 1000 := by
  unfold oN
  split
  · rename_i h
    obtain ⟨N, hN, _, h6, _⟩ := good_facts h
    omega
  · omega

set_option maxRecDepth 100000 in
set_option maxHeartbeats 1000000 in
theorem specOut_any (B : Nat) (A1 A2 : Option Addr) (c1 c2 : Nat) (p : Pl) (w : World) (hB : B ≤ w.heap.size) (hls : p.s.length ≤ 2000000) (hlo : p.o.length ≤ 2000000) (hr : RdP w B A1 A2 p) :
    Calls Try.prog 32 #[.agg #[.int .i64 p.n, .slice A1 p.s.length c1, .slice A2 p.o.length c2]] w fun e w' =>
      ∃ A c f, e = .returned (.tuple #[.slice A (oR p) c, .bool (good p)]) ∧ OwL w' w.heap.size A c f (oN p) (oR p) (pw p (oN p)) ∧ Below w.heap.size w w' := by
  have H := Lib.hid hr
  clear hr
  obtain ⟨gd, hgd⟩ : ∃ x, good p = x := ⟨_, rfl⟩
  have HG := Lib.hid hgd
  go_enter Try.func32, Try.ntmps32
  go_wp2_with fail
  go_at_call 59
  generalize hw1 : World.alloc w _ = w1
  obtain ⟨x0, x1, x2, xs, xb⟩ := box3 hw1
  clear hw1
  have hC := plGood_any w.heap.size A1 A2 c1 c2 p w1 (by omega) hls hlo ((H.out.below' xb hB).more hB)
  rw [hgd] at hC
  refine hC.mono ?_
  rintro e w2 ⟨rfl, hb2⟩
  clear hC hgd
  have y0 := (hb2.cell (p := ⟨w.heap.size, 0, none⟩) (by simp only []; omega)).trans x0
  have y1 := (hb2.cell (p := ⟨w.heap.size, 1, none⟩) (by simp only []; omega)).trans x1
  have y2 := (hb2.cell (p := ⟨w.heap.size, 2, none⟩) (by simp only []; omega)).trans x2
  have HB2 := Lib.hid (xb.trans (hb2.mono (show w.heap.size ≤ w1.heap.size by omega)))
  have hs2 : w.heap.size + 1 ≤ w2.heap.size := by have := hb2.size; omega
  clear x0 x1 x2 xs xb hb2
  cases gd with
  | false =>
    have ea : oR p = 0 := by simp [oR, HG.out]
    have EA := Lib.hid ea
    clear ea
    go_wp2
    go_ret2
    exact ⟨none, 0, fun _ => (none, 0), by rw [EA.out, HG.out]; rfl, by rw [EA.out]; exact ⟨World.ownsRow_nil _ _ _ _, fun i hi => absurd hi (by omega)⟩, HB2.out⟩
  | true =>
    obtain ⟨N, hN, n1, n6, hs40, ho6, hok, hout, _⟩ := good_facts HG.out
    have ea : oR p = p.o.length := by simp [oR, HG.out]
    have en : oN p = N := by simp [oN, HG.out, hN]
    have EN := Lib.hid en
    have EA := Lib.hid ea
    have HOK := Lib.hid hok
    have HN := Lib.hid hN
    have HOUT := Lib.hid hout
    clear ea en hok hout hN
    go_wp2_with fail
    go_at_call 76
    refine (plPowers_any w.heap.size N A1 A2 c1 c2 p w2 HN.out n1 n6 hs40 ho6 (by omega) HOK.out HOUT.out ((H.out.below' HB2.out hB).more hB)).mono ?_
    rintro e w3 ⟨A3, c3, f3, rfl, hown3, hb3⟩
    have HO := Lib.hid (hown3.base (show w.heap.size ≤ w2.heap.size by omega))
    have HB3 := Lib.hid (HB2.out.trans (hb3.mono (show w.heap.size ≤ w2.heap.size by omega)))
    clear hown3 hb3
    go_wp2
    go_ret2
    exact ⟨A3, c3, f3, by rw [EA.out, HG.out]; rfl, by rw [EA.out, EN.out]; exact HO.out, HB3.out⟩

set_option maxRecDepth 100000 in
set_option maxHeartbeats 1000000 in
theorem implOut_any (B : Nat) (A1 A2 : Option Addr) (c1 c2 : Nat) (p : Pl) (w : World) (hB : B ≤ w.heap.size) (hls : p.s.length ≤ 2000000) (hlo : p.o.length ≤ 2000000) (hr : RdP w B A1 A2 p) :
    Calls Try.prog 20 #[.agg #[.int .i64 p.n, .slice A1 p.s.length c1, .slice A2 p.o.length c2]] w fun e w' =>
      ∃ A c f, e = .returned (.tuple #[.slice A (oR p) c, .bool (good p)]) ∧ OwL w' w.heap.size A c f (oN p) (oR p) (pw p (oN p)) ∧ Far f (oN p) (oR p) ∧ Below w.heap.size w w' := by
  have H := Lib.hid hr
  clear hr
  go_enter Try.func20, Try.ntmps20
  go_wp2_with fail
  go_at_call 64
  generalize hw1 : World.alloc w _ = w1
  obtain ⟨x0, x1, x2, xs, xb⟩ := box3 hw1
  clear hw1
  refine (withValues_any B A1 A2 c1 c2 p w1 (by omega) hls hlo (H.out.below' xb hB)).mono ?_
  rintro e w2 ⟨hb2, hpost⟩
  have HB2 := Lib.hid (xb.trans (hb2.mono (show w.heap.size ≤ w1.heap.size by omega)))
  clear x0 x1 x2 hb2
  rw [valsI_eq] at hpost
  by_cases hg : good p = true
  · rw [if_pos hg] at hpost
    simp only at hpost
    obtain ⟨A, c, rfl, hown⟩ := hpost
    obtain ⟨N, hN, n1, n6, hs40, ho6, hok, hout, _⟩ := good_facts hg
    have hn' : p.n.toNat = N := by omega
    rw [hn', List.length_map] at hown ⊢
    have hel := exps_length N p.s
    have HRD := Lib.hid (own_base hown (show w.heap.size ≤ w1.heap.size by omega))
    have hrows := fun W B hBW hrW hre => rows_any B N A1 A2 A c1 c2 c p W n1 n6 ho6 hBW hok hout hrW hre
    have HROWS := Lib.hid hrows
    obtain ⟨L, hL⟩ : ∃ L, (exps N p.s).length = L := ⟨_, rfl⟩
    have hrd := HRD.out
    have hrw := HROWS.out
    rw [hL] at hrd hrw ⊢
    have HRD2 := Lib.hid (Rd.of_own hrd)
    have HRW := Lib.hid hrw
    have hLb : L ≤ 46 := by omega
    have ea : oR p = p.o.length := by simp [oR, hg]
    have en : oN p = N := by simp [oN, hg, hN]
    have EN := Lib.hid en
    have EA := Lib.hid ea
    have HG := Lib.hid hg
    have HOK := Lib.hid hok
    have HOUT := Lib.hid hout
    have HN := Lib.hid hN
    clear ea en hok hout hN hown hg xs xb hrows HROWS HRD hL hrd hrw hel hn'
    go_wp2_with fail
    go_at_call 65
    generalize hw3 : World.alloc w2 _ = w3
    obtain ⟨xs, xb⟩ := box5 hw3
    clear hw3
    have hB3 := HB2.out.trans (xb.mono HB2.out.size)
    have hs2 := HB2.out.size
    rw [HN.out]
    refine (HRW.out w3 w2.heap.size (by omega) ((H.out.below' hB3 hB).more (by have := HB2.out.size; omega)) (HRD2.out.below xb)).mono ?_
    rintro e w4 ⟨A3, c3, f3, rfl, hown3, hfar, hb3⟩
    have HFAR := Lib.hid hfar
    have HO := Lib.hid (hown3.base (show w.heap.size ≤ w3.heap.size by omega))
    have HB4 := Lib.hid (hB3.trans (hb3.mono (show w.heap.size ≤ w3.heap.size by omega)))
    clear hown3 hfar hb3 hB3 hs2 xs xb
    go_wp2
    go_ret2
    exact ⟨A3, c3, f3, by rw [EA.out, HG.out]; rfl, by rw [EA.out, EN.out]; exact HO.out, by rw [EA.out, EN.out]; exact HFAR.out, HB4.out⟩
  · rw [if_neg hg] at hpost
    simp only at hpost
    subst hpost
    have hg' : good p = false := by simpa using hg
    have ea : oR p = 0 := by simp [oR, hg']
    have EA := Lib.hid ea
    have HG := Lib.hid hg'
    clear hg hg' ea
    go_wp2
    go_ret2
    exact ⟨none, 0, fun _ => (none, 0), by rw [EA.out, HG.out]; rfl, by rw [EA.out]; exact ⟨World.ownsRow_nil _ _ _ _, fun i hi => absurd hi (by omega)⟩, by rw [EA.out]; exact fun i j hi => absurd hi (by omega), HB2.out.alloc HB2.out.size _⟩

end Go.Proofs.Ytppfpdobdoaoiaa
