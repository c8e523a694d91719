/- LiveAt: what both sides answer. -/
import Derived.Test.YtlkieebmfmiafaaJn
import Derived.Test.YtlkieebmfmiafaaJo
import Derived.Test.YtlkieebmfmiafaaJf
namespace Go.Proofs.Ytlkieebmfmiafaa
open Go.RowKit

def lvG (p : Pl) (x : Int) : Bool := good p && (decide (0 ≤ x) && decide (x ≤ (p.s.length : Int)))
def lvR (p : Pl) (x : Int) : List Int := if lvG p x then liv p.n.toNat p.s p.o x.toNat else []
theorem lvR_true {p : Pl} {N k : Nat} (h : lvG p (k : Int) = true) (hN : p.n = N) : lvR p (k : Int) = liv N p.s p.o k := by
  have : p.n.toNat = N := by omega
  unfold lvR
  rw [if_pos h, this, Int.toNat_natCast]
theorem lvR_false {p : Pl} {x : Int} (h : lvG p x = false) : lvR p x = [] := by unfold lvR; rw [if_neg (by rw [h]; decide)]
theorem lvR_le (p : Pl) (x : Int) : (lvR p x).length ≤ 1000 := by
  cases h : lvG p x with
  | false => rw [lvR_false h]; simp
  | true =>
    unfold lvG at h
    rw [Bool.and_eq_true, Bool.and_eq_true, decide_eq_true_eq, decide_eq_true_eq] at h
    obtain ⟨hg, h0, h1⟩ := h
    obtain ⟨N, hN, _, n6, h40, _⟩ := good_facts hg
    unfold lvR
    split
    · have := livK_le p.s p.o x.toNat (p.n.toNat + x.toNat)
      unfold liv
      omega
    · simp

set_option maxRecDepth 100000 in
set_option maxHeartbeats 2000000 in
theorem specLive_any (B : Nat) (A1 A2 : Option Addr) (c1 c2 : Nat) (p : Pl) (x : Int) (w : World) (hB : B ≤ w.heap.size) (hls : p.s.length ≤ 2000000) (hlo : p.o.length ≤ 2000000) (hcap : p.s.length ≤ c1) (hr : RdP w B A1 A2 p) :
    Calls Try.prog 44 #[.agg #[.int .i64 p.n, .slice A1 p.s.length c1, .slice A2 p.o.length c2], .int .i64 x] w fun e w' =>
      ∃ A c, e = .returned (.tuple #[.slice A (lvR p x).length c, .bool (lvG p x)]) ∧ OwI w' w.heap.size (.slice A (lvR p x).length c) (lvR p x) ∧ Below w.heap.size w w' := by
  have H := Lib.hid hr
  clear hr
  obtain ⟨gd, hgd⟩ : ∃ x, good p = x := ⟨_, rfl⟩
  have HG := Lib.hid hgd
  go_enter Try.func44, Try.ntmps44
  go_wp2_with fail
  go_at_call 58
  generalize hw1 : World.alloc w _ = w1
  obtain ⟨x0, x1, x2, xs, xb⟩ := box3 hw1
  clear hw1
  have hC := plGood_any w.heap.size A1 A2 c1 c2 p w1 (by omega) hls hlo ((H.out.below' xb hB).more hB)
  rw [hgd] at hC
  refine hC.mono ?_
  rintro e w2 ⟨rfl, hb2⟩
  clear hC hgd
  have y0 := (hb2.cell (p := ⟨w.heap.size, 0, none⟩) (by simp only []; omega)).trans x0
  have y1 := (hb2.cell (p := ⟨w.heap.size, 1, none⟩) (by simp only []; omega)).trans x1
  have y2 := (hb2.cell (p := ⟨w.heap.size, 2, none⟩) (by simp only []; omega)).trans x2
  have HB2 := Lib.hid (xb.trans (hb2.mono (show w.heap.size ≤ w1.heap.size by omega)))
  have hs2 : w.heap.size + 1 ≤ w2.heap.size := by have := hb2.size; omega
  clear x0 x1 x2 xs xb hb2
  cases gd with
  | false =>
    have hcr : lvG p x = false := by unfold lvG; rw [HG.out]; rfl
    have EA := Lib.hid (lvR_false hcr)
    have EB := Lib.hid hcr
    clear hcr
    go_wp2
    go_ret2
    exact ⟨none, 0, by rw [EA.out, EB.out]; rfl, by rw [EA.out]; exact OwI.nil _ _, HB2.out⟩
  | true =>
    obtain ⟨N, hN, n1, n6, hs40, ho6, hok, hout, _⟩ := good_facts HG.out
    obtain ⟨t, ht⟩ : ∃ t, inB x 0 (p.s.length : Int) = t := ⟨_, rfl⟩
    have hcr : lvG p x = t := by
      unfold lvG
      rw [HG.out, ← ht]
      unfold inB
      rfl
    have HI := fun W => l1In_any x 0 (p.s.length : Int) W
    rw [ht] at HI
    have HI := Lib.hid HI
    have EB := Lib.hid hcr
    cases t with
    | false =>
      have EA := Lib.hid (lvR_false EB.out)
      clear hok hout hN hcr ht
      go_wp2_with fail
      go_at_call 73
      refine (HI.out w2).mono ?_
      rintro e w3 ⟨rfl, rfl⟩
      go_wp2
      go_ret2
      exact ⟨none, 0, by rw [EA.out, EB.out]; rfl, by rw [EA.out]; exact OwI.nil _ _, HB2.out⟩
    | true =>
      have hx : 0 ≤ x ∧ x ≤ (p.s.length : Int) := by
        unfold inB at ht
        simpa using ht
      obtain ⟨k, rfl⟩ : ∃ k : Nat, x = (k : Int) := ⟨x.toNat, by omega⟩
      have EA := Lib.hid (lvR_true EB.out hN)
      have HC := Lib.hid (fun W hW hr => duLive_any w.heap.size N k A1 A2 c1 c2 p W hN n6 hs40 ho6 (by omega) hcap hW hok hout hr)
      clear hok hout hN hcr ht hx
      go_wp2_with (first
        | (go_at_call 73; refine (HI.out w2).mono ?_; rintro e w3 ⟨rfl, rfl⟩)
        | (go_at_call 85; refine (HC.out w2 (by omega) ((H.out.below' HB2.out hB).more hB)).mono ?_; rintro e w3 ⟨A3, c3, rfl, hown3, hb3⟩; have HO := Lib.hid (hown3.base (show w.heap.size ≤ w2.heap.size by omega)); have HB3 := Lib.hid (HB2.out.trans (hb3.mono (show w.heap.size ≤ w2.heap.size by omega))); clear hown3 hb3))
      go_ret2
      exact ⟨A3, c3, by rw [EA.out, EB.out]; rfl, by rw [EA.out]; exact HO.out, HB3.out⟩

set_option maxRecDepth 100000 in
set_option maxHeartbeats 2000000 in
theorem implLive_any (B : Nat) (A1 A2 : Option Addr) (c1 c2 : Nat) (p : Pl) (x : Int) (w : World) (hB : B ≤ w.heap.size) (hls : p.s.length ≤ 2000000) (hlo : p.o.length ≤ 2000000) (_hcap : p.s.length ≤ c1) (hr : RdP w B A1 A2 p) :
    Calls Try.prog 45 #[.agg #[.int .i64 p.n, .slice A1 p.s.length c1, .slice A2 p.o.length c2], .int .i64 x] w fun e w' =>
      ∃ A c, e = .returned (.tuple #[.slice A (lvR p x).length c, .bool (lvG p x)]) ∧ OwI w' w.heap.size (.slice A (lvR p x).length c) (lvR p x) ∧ Below w.heap.size w w' := by
  have H := Lib.hid hr
  clear hr
  go_enter Try.func45, Try.ntmps45
  go_wp2_with fail
  go_at_call 62
  generalize hw1 : World.alloc w _ = w1
  obtain ⟨x0, x1, x2, xs, xb⟩ := box3 hw1
  clear hw1
  refine (withValues_any B A1 A2 c1 c2 p w1 (by omega) hls hlo (H.out.below' xb hB)).mono ?_
  rintro e w2 ⟨hb2, hpost⟩
  have HB2 := Lib.hid (xb.trans (hb2.mono (show w.heap.size ≤ w1.heap.size by omega)))
  have y1 := (hb2.cell (p := ⟨w.heap.size, 1, none⟩) (by simp only []; omega)).trans x1
  have hs2 : w.heap.size + 1 ≤ w2.heap.size := by have := hb2.size; omega
  clear x0 x1 x2 hb2
  rw [valsI_eq] at hpost
  by_cases hg : good p = true
  · rw [if_pos hg] at hpost
    simp only at hpost
    obtain ⟨A, c, rfl, _⟩ := hpost
    obtain ⟨N, hN, n1, n6, hs40, ho6, hok, _, _⟩ := good_facts hg
    have hn' : p.n.toNat = N := by omega
    have hel := exps_length N p.s
    obtain ⟨R, hR⟩ : ∃ R, N + p.s.length = R := ⟨_, rfl⟩
    rw [hn', List.length_map, hel, hR, hN]
    have hR46 : R ≤ 46 := by omega
    have HN := Lib.hid hN
    have HG := Lib.hid hg
    have HR := Lib.hid hR
    clear hn' hN hg hel hR xs xb hok
    by_cases h0 : x < 0
    · have hcr : lvG p x = false := by unfold lvG; rw [decide_eq_false (show ¬ 0 ≤ x by omega)]; simp
      have EA := Lib.hid (lvR_false hcr)
      have EB := Lib.hid hcr
      clear hcr
      go_wp2
      go_ret2
      exact ⟨none, 0, by rw [EA.out, EB.out]; rfl, by rw [EA.out]; exact OwI.nil _ _, HB2.out.alloc HB2.out.size _⟩
    · by_cases h1 : (p.s.length : Int) < x
      · have Y1 := cell_kept y1 (.cells #[.int .i64 N, .slice A1 p.s.length c1, .slice A2 p.o.length c2, .slice A R c] 72)
        have hcr : lvG p x = false := by unfold lvG; rw [decide_eq_false (show ¬ x ≤ (p.s.length : Int) by omega)]; simp
        have EA := Lib.hid (lvR_false hcr)
        have EB := Lib.hid hcr
        clear hcr
        go_wp2
        go_ret2
        exact ⟨none, 0, by rw [EA.out, EB.out]; rfl, by rw [EA.out]; exact OwI.nil _ _, HB2.out.alloc HB2.out.size _⟩
      · obtain ⟨k, rfl⟩ : ∃ k : Nat, x = (k : Int) := ⟨x.toNat, by omega⟩
        have hcr : lvG p (k : Int) = true := by unfold lvG; rw [HG.out, decide_eq_true (show (0 : Int) ≤ (k : Int) by omega), decide_eq_true (show (k : Int) ≤ (p.s.length : Int) by omega)]; rfl
        have EA := Lib.hid (lvR_true hcr HN.out)
        have EB := Lib.hid hcr
        have LA := Lib.hid (fun W hW hr => liveAt_any B N R k A1 A2 A c1 c2 c p W hs40 ho6 hR46 (by have := HR.out; omega) hW hr)
        have Y1 := cell_kept y1 (.cells #[.int .i64 N, .slice A1 p.s.length c1, .slice A2 p.o.length c2, .slice A R c] 72)
        have i0 : ¬ (k : Int) < 0 := h0
        have i1 : ¬ (p.s.length : Int) < (k : Int) := h1
        clear hcr h0 h1
        go_wp2_with fail
        go_at_call 86
        generalize hw3 : World.alloc w2 _ = w3
        obtain ⟨_, xs, xb⟩ := box4v hw3
        clear hw3
        have HB3 := Lib.hid (HB2.out.trans (xb.mono (by omega)))
        refine (LA.out w3 (by omega) (H.out.below' HB3.out hB)).mono ?_
        rintro e w4 ⟨A3, c3, rfl, hown3, hb4⟩
        have HO := Lib.hid (hown3.base (show w.heap.size ≤ w3.heap.size by omega))
        have HB4 := Lib.hid (HB3.out.trans (hb4.mono (show w.heap.size ≤ w3.heap.size by omega)))
        clear hb4 xs xb hown3
        go_wp2
        go_ret2
        exact ⟨A3, c3, by rw [EA.out, EB.out]; rfl, by rw [EA.out]; exact HO.out, HB4.out⟩
  · rw [if_neg hg] at hpost
    simp only at hpost
    subst hpost
    have hg' : good p = false := by simpa using hg
    have hcr : lvG p x = false := by unfold lvG; rw [hg']; rfl
    have EA := Lib.hid (lvR_false hcr)
    have EB := Lib.hid hcr
    clear hg hg' hcr
    go_wp2
    go_ret2
    exact ⟨none, 0, by rw [EA.out, EB.out]; rfl, by rw [EA.out]; exact OwI.nil _ _, HB2.out.alloc HB2.out.size _⟩
end Go.Proofs.Ytlkieebmfmiafaa
