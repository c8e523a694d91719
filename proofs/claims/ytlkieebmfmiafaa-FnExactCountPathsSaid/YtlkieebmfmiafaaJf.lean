/- UsesOf, of the model and of the program. -/
import Derived.Test.YtlkieebmfmiafaaJc
import Derived.Test.YtlkieebmfmiafaaJe
import Derived.Test.YtlkieebmfmiafaaMk
namespace Go.Proofs.Ytlkieebmfmiafaa
open Go.RowKit

def usR (p : Pl) : List Int := if good p then usL p else []
theorem usR_good {p : Pl} {N : Nat} (h : good p = true) (hN : p.n = N) : usR p = cL p.s p.o (N + p.s.length) p.s.length p.o.length := by
  have : p.n.toNat = N := by omega
  unfold usR usL
  rw [if_pos h, this]
theorem usR_bad {p : Pl} (h : good p = false) : usR p = [] := by unfold usR; rw [if_neg (by rw [h]; decide)]
theorem usR_le (p : Pl) : (usR p).length ≤ 1000 := by
  cases h : good p with
  | false => rw [usR_bad h]; simp
  | true =>
    obtain ⟨N, hN, _, n6, h40, _⟩ := good_facts h
    rw [usR_good h hN, cL_length]
    omega
/-- Behind withValues: the box of what it answers. -/
theorem box4v {w w1 : World} {a b c d : Value} {t : TypeId} (h : w.alloc (.cells #[a, b, c, d] t) = w1) :
    (w1.cell? ⟨w.heap.size, 0, none⟩ = some a ∧ w1.cell? ⟨w.heap.size, 1, none⟩ = some b ∧ w1.cell? ⟨w.heap.size, 2, none⟩ = some c ∧ w1.cell? ⟨w.heap.size, 3, none⟩ = some d) ∧ w1.heap.size = w.heap.size + 1 ∧ Below w.heap.size w w1 :=
  let ⟨h0, h1, h2, h3, hs, hb⟩ := box4 h
  ⟨⟨h0, h1, h2, h3⟩, hs, hb⟩

set_option maxRecDepth 100000 in
set_option maxHeartbeats 1000000 in
theorem count_any (O S : Option Addr) (n m co cs : Nat) (w : World) (hn : n ≤ 1000) (hm : m ≤ 1000) :
    Calls Try.prog 64 #[.agg #[.slice O n co, .slice S m cs]] w fun e w' => e = .returned (.int .i64 ((n : Int) + (m : Int))) ∧ Below w.heap.size w w' := by
  have hw : IntKind.i64.wrap ((n : Int) + (m : Int)) = (n : Int) + (m : Int) := IntWalk.i64_in _ (by omega)
  go_enter Try.func64, Try.ntmps64
  go_wp2
  go_ret
  exact ⟨rfl, (Below.refl _ _).alloc (Nat.le_refl _) _⟩

set_option maxRecDepth 100000 in
set_option maxHeartbeats 1000000 in
theorem specUses_any (B : Nat) (A1 A2 : Option Addr) (c1 c2 : Nat) (p : Pl) (w : World) (hB : B ≤ w.heap.size) (hls : p.s.length ≤ 2000000) (hlo : p.o.length ≤ 2000000) (hr : RdP w B A1 A2 p) :
    Calls Try.prog 16 #[.agg #[.int .i64 p.n, .slice A1 p.s.length c1, .slice A2 p.o.length c2]] w fun e w' =>
      ∃ A c, e = .returned (.tuple #[.slice A (usR p).length c, .bool (good p)]) ∧ OwI w' w.heap.size (.slice A (usR p).length c) (usR p) ∧ Below w.heap.size w w' := by
  have H := Lib.hid hr
  clear hr
  obtain ⟨gd, hgd⟩ : ∃ x, good p = x := ⟨_, rfl⟩
  have HG := Lib.hid hgd
  go_enter Try.func16, Try.ntmps16
  go_wp2_with fail
  go_at_call 58
  generalize hw1 : World.alloc w _ = w1
  obtain ⟨x0, x1, x2, xs, xb⟩ := box3 hw1
  clear hw1
  have hC := plGood_any w.heap.size A1 A2 c1 c2 p w1 (by omega) hls hlo ((H.out.below' xb hB).more hB)
  rw [hgd] at hC
  refine hC.mono ?_
  rintro e w2 ⟨rfl, hb2⟩
  clear hC hgd
  have y0 := (hb2.cell (p := ⟨w.heap.size, 0, none⟩) (by simp only []; omega)).trans x0
  have y1 := (hb2.cell (p := ⟨w.heap.size, 1, none⟩) (by simp only []; omega)).trans x1
  have y2 := (hb2.cell (p := ⟨w.heap.size, 2, none⟩) (by simp only []; omega)).trans x2
  have HB2 := Lib.hid (xb.trans (hb2.mono (show w.heap.size ≤ w1.heap.size by omega)))
  have hs2 : w.heap.size + 1 ≤ w2.heap.size := by have := hb2.size; omega
  clear x0 x1 x2 xs xb hb2
  cases gd with
  | false =>
    have EA := Lib.hid (usR_bad HG.out)
    go_wp2
    go_ret2
    exact ⟨none, 0, by rw [EA.out, HG.out]; rfl, by rw [EA.out]; exact OwI.nil _ _, HB2.out⟩
  | true =>
    obtain ⟨N, hN, n1, n6, hs40, ho6, hok, hout, _⟩ := good_facts HG.out
    have EA := Lib.hid (usR_good HG.out hN)
    have HC := Lib.hid (duUses_any w.heap.size N (N + p.s.length) A1 A2 c1 c2 p w2 hN n6 hs40 ho6 rfl (by omega) hok hout ((H.out.below' HB2.out hB).more hB))
    clear hok hout hN
    go_wp2_with fail
    go_at_call 59
    refine HC.out.mono ?_
    rintro e w3 ⟨A3, c3, rfl, hown3, hb3⟩
    have HO := Lib.hid (own_base hown3 (show w.heap.size ≤ w2.heap.size by omega))
    have HB3 := Lib.hid (HB2.out.trans (hb3.mono (show w.heap.size ≤ w2.heap.size by omega)))
    clear hown3 hb3
    go_wp2
    go_ret2
    refine ⟨A3, c3, by rw [EA.out, HG.out, cL_length]; rfl, ?_, HB3.out⟩
    show World.ownsRow _ _ _ _ _ _ _
    rw [EA.out, cL_length]
    exact HO.out

/-- The first k counts. -/
def cK (s : List (Int × Int)) (o : List Int) (k : Nat) : List Int := cL s o k s.length o.length
theorem cK_succ (s : List (Int × Int)) (o : List Int) (k : Nat) : cK s o (k + 1) = cK s o k ++ [((usC s o s.length o.length (k : Int) : Nat) : Int)] := by
  unfold cK cL
  rw [List.range_succ, List.map_append]
  rfl
theorem cK_len (s : List (Int × Int)) (o : List Int) (k : Nat) : (cK s o k).length = k := cL_length _ _ _ _ _

set_option maxRecDepth 100000 in
set_option maxHeartbeats 2000000 in
theorem implUses_any (B : Nat) (A1 A2 : Option Addr) (c1 c2 : Nat) (p : Pl) (w : World) (hB : B ≤ w.heap.size) (hls : p.s.length ≤ 2000000) (hlo : p.o.length ≤ 2000000) (hr : RdP w B A1 A2 p) :
    Calls Try.prog 18 #[.agg #[.int .i64 p.n, .slice A1 p.s.length c1, .slice A2 p.o.length c2]] w fun e w' =>
      ∃ A c, e = .returned (.tuple #[.slice A (usR p).length c, .bool (good p)]) ∧ OwI w' w.heap.size (.slice A (usR p).length c) (usR p) ∧ Below w.heap.size w w' := by
  have H := Lib.hid hr
  clear hr
  go_enter Try.func18, Try.ntmps18
  go_wp2_with fail
  go_at_call 62
  generalize hw1 : World.alloc w _ = w1
  obtain ⟨x0, x1, x2, xs, xb⟩ := box3 hw1
  clear hw1
  refine (withValues_any B A1 A2 c1 c2 p w1 (by omega) hls hlo (H.out.below' xb hB)).mono ?_
  rintro e w2 ⟨hb2, hpost⟩
  have HB2 := Lib.hid (xb.trans (hb2.mono (show w.heap.size ≤ w1.heap.size by omega)))
  clear x0 x1 x2 hb2
  rw [valsI_eq] at hpost
  by_cases hg : good p = true
  · rw [if_pos hg] at hpost
    simp only at hpost
    obtain ⟨A, c, rfl, _⟩ := hpost
    obtain ⟨N, hN, n1, n6, hs40, ho6, _, _, _⟩ := good_facts hg
    have hn' : p.n.toNat = N := by omega
    have EA := Lib.hid (usR_good hg hN)
    have HG := Lib.hid hg
    have hel := exps_length N p.s
    obtain ⟨R, hR⟩ : ∃ R, N + p.s.length = R := ⟨_, rfl⟩
    rw [hn', List.length_map, hel, hR, hN]
    rw [hR] at EA
    have hR46 : R ≤ 46 := by omega
    have US := fun W hW hr => allUses_any B N R A1 A2 A c1 c2 c p W hs40 ho6 hR46 hW hr
    have US := Lib.hid US
    clear hn' hN hg hel hR xs xb
    go_wp2_with fail
    go_at_call 63
    generalize hw3 : World.alloc w2 _ = w3
    obtain ⟨_, xs, xb⟩ := box4v hw3
    clear hw3
    have hs2 := HB2.out.size
    have HB3 := Lib.hid (HB2.out.trans (xb.mono hs2))
    refine (US.out w3 (by omega) (H.out.below' HB3.out hB)).mono ?_
    rintro e w4 ⟨A3, c3, fo, fs, rfl, hU, hb4⟩
    have HU := Lib.hid hU
    have HB4 := Lib.hid (HB3.out.trans (hb4.mono (show w.heap.size ≤ w3.heap.size by omega)))
    have hs4 : w.heap.size ≤ w4.heap.size := HB4.out.size
    clear hU hb4 xs xb
    go_wp2
    go_loopw [6, 19] (fun ov iv wr => ∃ (k : Nat) (A4 : Option Addr) (c4 : Nat), k ≤ R ∧ iv = .int .i64 k ∧ ov = .slice A4 k c4 ∧ wr.ownsRow w4.heap.size 3 1 (.slice A4 k c4) k ((cK p.s p.o k).map I) ∧ Below w4.heap.size w4 wr) (fun _ i _ => R - (intOf i).toNat)
    case atStart => exact ⟨0, none, 0, by omega, rfl, rfl, World.ownsRow_nil _ _ _ _, Below.refl _ _⟩
    case round =>
      obtain ⟨k, A4, c4, hk, rfl, rfl, hown, hbel⟩ := hrel
      have hsz : w4.heap.size ≤ wr.heap.size := hbel.size
      by_cases hlt : k < R
      · have iqk : (k : Int) < (R : Int) := by omega
        obtain ⟨g, rfl, _, hg4, d0, d1⟩ := (HU.out.below hbel).at_ hlt
        have SUC := Lib.hid (cK_succ p.s p.o k)
        have l1 := usS_le p.s (k : Int) p.s.length
        have l2 := usO_le p.o (k : Int) p.o.length
        have hc : usC p.s p.o p.s.length p.o.length (k : Int) = (usS p.s (k : Int) p.s.length).length + (usO p.o (k : Int) p.o.length).length := rfl
        rw [hc] at SUC
        obtain ⟨n, hn⟩ : ∃ n, (usO p.o (k : Int) p.o.length).length = n := ⟨_, rfl⟩
        obtain ⟨m, hm⟩ : ∃ m, (usS p.s (k : Int) p.s.length).length = m := ⟨_, rfl⟩
        obtain ⟨a1, ha1⟩ : ∃ a, fo k = a := ⟨_, rfl⟩
        obtain ⟨a2, ha2⟩ : ∃ a, fs k = a := ⟨_, rfl⟩
        rw [hn, ha1] at d0
        rw [hm, ha2] at d1
        rw [hn, hm] at SUC
        rw [hm] at l1
        rw [hn] at l2
        have HCN := Lib.hid (fun W => count_any a1.1 a2.1 n m a1.2 a2.2 W (by omega) (by omega))
        have OWN := Lib.hid hown
        have BEL := Lib.hid hbel
        clear hc hn hm hown hbel ha1 ha2
        go_wp2_with fail
        go_at_call 64
        generalize hw5 : World.alloc wr _ = w5
        obtain ⟨e0, e1, es, eb⟩ := box2 hw5
        clear hw5
        refine (HCN.out w5).mono ?_
        rintro e w6 ⟨rfl, hb6⟩
        have hb56 : Below wr.heap.size wr w6 := eb.trans (hb6.mono (by omega))
        have OWN6 := Lib.hid (own_below OWN.out hb56)
        have BEL6 := Lib.hid (BEL.out.trans (hb56.mono hsz))
        have hs6 : w4.heap.size ≤ w6.heap.size := BEL6.out.size
        have hkl : (cK p.s p.o k).length = k := cK_len _ _ _
        have HKL := Lib.hid hkl
        clear e0 e1 es eb hb6 hb56 hkl
        go_wp2_with (at_builtin; refine list_step (fun K hK => ?_); refine step_app1 Try.underlying23 info_int rfl (by omega) rfl (.tmp 23) (.tmp 26) rfl w4.heap.size k _ _ rfl (World.ownsRow.alloc OWN6.out _) w6.heap.size 1 (I ((n : Int) + (m : Int))) rfl (by simp) rfl (by omega) (by simp; omega) ?_; intro A7 c7 w7 hown7 hg7 hbel7; go_simp; refine hK _ _ ?_; clear hK K)
        go_roundw
        case rel =>
          refine ⟨k + 1, A7, c7, by omega, by go_num, rfl, ?_, (BEL6.out.alloc hs6 _).trans hbel7⟩
          have e : (cK p.s p.o (k + 1)).map I = (cK p.s p.o k).map I ++ [I ((n : Int) + (m : Int))] := by
            rw [SUC.out, List.map_append, show (((m + n : Nat)) : Int) = (n : Int) + (m : Int) by omega]
            rfl
          rw [e]
          exact hown7
        case measure => simp [intOf]; omega
      · have hk' : k = R := by omega
        subst hk'
        have OWN := Lib.hid (own_base hown hs4)
        have HB5 := Lib.hid (HB4.out.trans (hbel.mono hs4))
        clear hown hbel
        go_wp2
        go_ret2
        refine ⟨A4, c4, by rw [EA.out, HG.out, cL_length]; rfl, ?_, HB5.out⟩
        show World.ownsRow _ _ _ _ _ _ _
        rw [EA.out, cL_length]
        exact OWN.out
  · rw [if_neg hg] at hpost
    simp only at hpost
    subst hpost
    have hg' : good p = false := by simpa using hg
    have EA := Lib.hid (usR_bad hg')
    have HG := Lib.hid hg'
    clear hg hg'
    go_wp2
    go_ret2
    exact ⟨none, 0, by rw [EA.out, HG.out]; rfl, by rw [EA.out]; exact OwI.nil _ _, HB2.out.alloc HB2.out.size _⟩
end Go.Proofs.Ytlkieebmfmiafaa
