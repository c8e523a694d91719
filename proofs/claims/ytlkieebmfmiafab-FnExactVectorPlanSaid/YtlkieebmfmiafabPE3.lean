/- Joined: Jk Jm Pi Ju Jv Pj Pl. -/
import Derived.Test.YtlkieebmfmiafabPE2
import Derived.Test.YtlkieebmfmiafabPE1
import Derived.Shelf.RegionOpen
import Derived.Test.YtlkieebmfmiafabPE0
/- Plans turned round, by the model. -/
namespace Go.Proofs.Ytlkieebmfmiafab
open Go.RowKit

def turnP (p : Pl) (N : Nat) : Pl := ⟨(p.o.length : Int), (trn N p.s p.o (N + p.s.length) (N + p.s.length)).1, (trn N p.s p.o (N + p.s.length) (N + p.s.length)).2.take N⟩
/-- The product of the first i further factors. -/
def mlt (n : Int) (x : List (Int × Int) × Int) (l : List Int) (i : Nat) : List (Int × Int) × Int := (l.take i).foldl (muS n) x
theorem mlt_succ {n : Int} {x : List (Int × Int) × Int} {l : List Int} {i : Nat} (h : i < l.length) : mlt n x l (i + 1) = muS n (mlt n x l i) l[i] := by
  unfold mlt
  rw [List.take_succ_eq_append_getElem h, List.foldl_append]
  rfl
theorem mlt_len (n : Int) (x : List (Int × Int) × Int) (l : List Int) (i : Nat) (h : i ≤ l.length) : (mlt n x l i).1.length = x.1.length + i := by
  unfold mlt
  rw [muS_fold_len, List.length_take]
  omega
theorem tn_boxes {w w1 : World} {a b c : Value} {n : Int} (h : ((w.alloc (.cells #[a, b, c] 25)).alloc (.cells #[.int .i64 0, .slice none 0 0, .slice none 0 0] 25)).alloc (.cells #[.int .i64 n, .slice none 0 0, .slice none 0 0] 25) = w1) :
    w1.cell? ⟨w.heap.size, 0, none⟩ = some a ∧ w1.cell? ⟨w.heap.size, 1, none⟩ = some b ∧ w1.cell? ⟨w.heap.size, 2, none⟩ = some c ∧
      w1.heap[w.heap.size + 1]? = some (.cells #[.int .i64 0, .slice none 0 0, .slice none 0 0] 25 (0, 0)) ∧ PkS w1 (w.heap.size + 3) (w.heap.size + 1 + 1) n [] ∧ w1.heap.size = w.heap.size + 3 ∧ Below w.heap.size w w1 := by
  generalize ha : w.alloc (.cells #[a, b, c] 25) = wa at h
  generalize hb : wa.alloc (.cells #[.int .i64 0, .slice none 0 0, .slice none 0 0] 25) = wb at h
  obtain ⟨x0, x1, x2, xs, xb⟩ := box3 ha
  obtain ⟨_, _, _, ys, yb⟩ := box3 hb
  obtain ⟨_, _, _, zs, zb⟩ := box3 h
  have h2 := heap_alloc_new wa (.cells #[.int .i64 0, .slice none 0 0, .slice none 0 0] 25)
  rw [hb, xs] at h2
  obtain ⟨pk, _⟩ := pk_new (B := w.heap.size + 3) h
  rw [ys, xs] at pk
  have yz : Below (w.heap.size + 1) wa w1 := (yb.mono (by omega)).trans (zb.mono (by omega))
  exact ⟨(yz.cell (p := ⟨w.heap.size, 0, none⟩) (by simp)).trans x0, (yz.cell (p := ⟨w.heap.size, 1, none⟩) (by simp)).trans x1, (yz.cell (p := ⟨w.heap.size, 2, none⟩) (by simp)).trans x2, (zb.block (w.heap.size + 1) (by omega)).trans h2, pk, by omega, xb.trans (yz.mono (by omega))⟩

theorem PkS.set {w : World} {B g gb k : Nat} {n : Int} {s : List (Int × Int)} {cs : Array Value} (hp : PkS w B g n s) (hh : w.heap[gb]? = some (.cells cs 3 (0, 0))) (u : Value) : PkS (w.setCell ⟨gb, k, none⟩ u) B g n s := by
  obtain ⟨A, c, h1, h2⟩ := hp
  refine ⟨A, c, ?_, own_set h2 hh (by decide) u⟩
  rw [Below.heap_setCell w ⟨gb, k, none⟩ u g (fun e => ?_)]
  · exact h1
  · simp only at e
    rw [← e, h1] at hh
    injection hh with hh
    injection hh with _ hh
    exact absurd hh (by decide)

set_option maxRecDepth 100000 in
set_option maxHeartbeats 4000000 in
theorem duTurn_any (B N R : Nat) (A1 A2 : Option Addr) (c1 c2 : Nat) (p : Pl) (w : World) (hpn : p.n = N) (n1 : 1 ≤ N) (h6 : N ≤ 6) (hs40 : p.s.length ≤ 40) (ho6 : p.o.length ≤ 6) (hR : R = N + p.s.length) (hB : B ≤ w.heap.size) (hu : Usd p.s p.o R) (hr : RdP w B A1 A2 p) :
    Calls Try.prog 57 #[.agg #[.int .i64 p.n, .slice A1 p.s.length c1, .slice A2 p.o.length c2]] w fun e w' =>
      ∃ R1 R2 v1 v2, e = .returned (.agg #[.int .i64 (turnP p N).n, .slice R1 (turnP p N).s.length v1, .slice R2 (turnP p N).o.length v2]) ∧ OwP w' w.heap.size R1 R2 v1 v2 (turnP p N) ∧ Below w.heap.size w w' := by
  have H := Lib.hid hr
  have HU := Lib.hid hu
  have HR := Lib.hid hR
  have hR46 : R ≤ 46 := by omega
  have hNR : (N : Int) + (p.s.length : Int) = (R : Int) := by omega
  have HNN := Lib.hid (trn_nonneg (N := N) hu)
  have HTL := Lib.hid (trn_le (N := N) hu)
  clear hr hu hR
  have DF := fun (W : World) (v : Nat) b Ab cb hbl hr hb => duFactors_any W.heap.size N R A1 A2 Ab c1 c2 cb p (v : Int) b W hpn hs40 ho6 h6 HR.out hbl (Nat.le_refl _) hr hb
  rw [hpn] at DF ⊢
  have DF := Lib.hid DF
  have HPN := Lib.hid hpn
  clear hpn
  have hmk := run_make_row' (P := Try.prog) 22 3 (.int .i64 0) 8 Try.underlying22 info_int rfl .i64 .i64 R (by omega) (by omega)
  go_enter Try.func57, Try.ntmps57
  go_wp2
  clear hmk
  generalize hw1 : World.alloc (World.alloc (World.alloc w _) _) _ = w1
  obtain ⟨x0, x1, x2, q0, pk, xs, xb⟩ := tn_boxes hw1
  clear hw1
  obtain ⟨g, hg⟩ : ∃ g, w.heap.size + 1 + 1 = g := ⟨_, rfl⟩
  rw [hg] at pk ⊢
  obtain ⟨gb, hh⟩ : ∃ gb, g + 1 = gb := ⟨_, rfl⟩
  have hgb : gb = g + 1 := by omega
  rw [hh] at ⊢
  have hw1h : w1.heap.size = gb := by omega
  have hwg : w.heap.size + 1 < g := by omega
  rw [show w.heap.size + 3 = g + 1 by omega] at pk
  generalize hw2 : World.alloc w1 _ = w2
  have hmade : w2.ownsRow gb 3 1 (.slice (some ⟨gb, 0, none⟩) R R) R ((trn N p.s p.o R 0).2.map I) := by
    have hz := zeros_row (w := w1) (B := gb) R (by omega) (by omega)
    rw [hw2, hw1h] at hz
    simpa [trn] using hz
  have hb2 : Below gb w1 w2 := by rw [← hw2]; exact (Below.refl _ _).alloc (by omega) _
  have pk2 : PkS w2 (g + 1) g (p.o.length : Int) (trn N p.s p.o R 0).1 := pk.below (hb2.mono (by omega))
  have q2 := (hb2.block (w.heap.size + 1) (by omega)).trans q0
  have y0 := (hb2.cell (p := ⟨w.heap.size, 0, none⟩) (by simp only []; omega)).trans x0
  have y1 := (hb2.cell (p := ⟨w.heap.size, 1, none⟩) (by simp only []; omega)).trans x1
  have y2 := (hb2.cell (p := ⟨w.heap.size, 2, none⟩) (by simp only []; omega)).trans x2
  have HB2 := Lib.hid (xb.trans (hb2.mono (show w.heap.size ≤ gb by omega)))
  have HM := Lib.hid hmade
  have PK2 := Lib.hid pk2
  have Q2 := Lib.hid q2
  have hs2 : gb < w2.heap.size := ((own_block hmade) _ rfl).2
  have hgb1 : gb ≤ g + 1 := by omega
  have hgb2 : g + 1 ≤ gb := by omega
  clear hw2 hmade hb2 pk2 q2 x0 x1 x2 xs xb q0 pk hg hh hNR hgb hw1h
  go_loopw [5] (fun iv wr => ∃ (j : Nat) (x : Int), j ≤ R ∧ iv = .int .i64 x ∧ x = (R : Int) - 1 - j ∧ PkS wr (g + 1) g (p.o.length : Int) (trn N p.s p.o R j).1 ∧ wr.ownsRow gb 3 1 (.slice (some ⟨gb, 0, none⟩) R R) R ((trn N p.s p.o R j).2.map I) ∧ Below g w2 wr) (fun i _ => (intOf i + 1).toNat)
  case atStart => exact ⟨0, _, by omega, rfl, by simp, PK2.out, HM.out, Below.refl _ _⟩
  case round =>
    obtain ⟨j, x, hj, rfl, hx, hpk, hown, hbel⟩ := hrel
    have hsr := hbel.size
    have hsh : gb < wr.heap.size := by omega
    have v0 := (hbel.cell (p := ⟨w.heap.size, 0, none⟩) (by simp only []; omega)).trans y0
    have v1 := (hbel.cell (p := ⟨w.heap.size, 1, none⟩) (by simp only []; omega)).trans y1
    have v2 := (hbel.cell (p := ⟨w.heap.size, 2, none⟩) (by simp only []; omega)).trans y2
    by_cases hlt : j < R
    · obtain ⟨i, hi⟩ : ∃ i : Nat, R - 1 - j = i := ⟨_, rfl⟩
      have hxi : x = (i : Int) := by omega
      subst hxi
      have hiR : i < R := by omega
      have iiR : (i : Int) < (R : Int) := by omega
      have ii0 : (0 : Int) ≤ (i : Int) := by omega
      have hnn := HNN.out j (by omega)
      have htl := HTL.out j (by omega)
      obtain ⟨f, l, hfl⟩ := fcs_cons (N := N) (b := (trn N p.s p.o R j).2) HU.out hiR
      have hf0 : 0 ≤ f := fcs_nonneg hnn f (by rw [hfl]; exact List.mem_cons_self)
      have hfn := fcs_len N p.s p.o (i : Int) (trn N p.s p.o R j).2
      have hcl := usC_le p.s p.o p.s.length p.o.length (i : Int)
      rw [hfl, List.length_cons] at hfn
      have htr1 : (trn N p.s p.o R (j + 1)).1 = (l.foldl (muS (p.o.length : Int)) ((trn N p.s p.o R j).1, f)).1 := by
        simp only [trn]; rw [hi, hfl, on_fold0 (by omega) _ _ _ hf0]
      have htr2 : (trn N p.s p.o R (j + 1)).2 = (trn N p.s p.o R j).2.set i (l.foldl (muS (p.o.length : Int)) ((trn N p.s p.o R j).1, f)).2 := by
        simp only [trn]; rw [hi, hfl, on_fold0 (by omega) _ _ _ hf0]
      have hbw := HB2.out.trans (hbel.mono (show w.heap.size ≤ g by omega))
      have hd := DF.out wr i (trn N p.s p.o R j).2 (some ⟨gb, 0, none⟩) R (trn_blen N p.s p.o R j) ((H.out.below' hbw hB).more (by have := hbw.size; omega)) (Rd.of_own hown)
      rw [hfl] at hd
      have HD := Lib.hid hd
      have PKJ := Lib.hid hpk
      have OWN := Lib.hid hown
      have BEL := Lib.hid hbel
      have TR1 := Lib.hid htr1
      have TR2 := Lib.hid htr2
      have HX := Lib.hid hx
      obtain ⟨b, hb⟩ : ∃ b, (trn N p.s p.o R j).2 = b := ⟨_, rfl⟩
      obtain ⟨s0, hs0⟩ : ∃ s0, (trn N p.s p.o R j).1 = s0 := ⟨_, rfl⟩
      rw [hb] at OWN TR2
      rw [hs0] at PKJ TR1 TR2 htl
      have HFN := Lib.hid hfn
      have hll : l.length ≤ 86 := by omega
      clear hd hpk hown hbel htr1 htr2 hx hb hs0 hfl hnn hbw hfn hcl
      go_wp2_with fail
      go_at_call 80
      refine HD.out.mono ?_
      rintro e w3 ⟨A3, c3, rfl, ho3, hb3⟩
      obtain ⟨g3, rfl, hg3, hg3w, hc3, _⟩ := own_at ho3 (by simp)
      have HC3 := Lib.hid hc3
      have d0 : w3.cell? ⟨g3, 0, none⟩ = some (.int .i64 f) := hc3 0 (by simp)
      have hs3 := hb3.size
      have PK3 := Lib.hid (PKJ.out.below hb3)
      have OW3 := Lib.hid (own_below OWN.out hb3)
      have B3 := Lib.hid (BEL.out.trans (hb3.mono (by omega)))
      rw [List.length_cons]
      have hcap := own_cap ho3
      rw [List.length_cons] at hcap
      clear ho3 hb3 hc3 v0 v1 v2
      have i1l : (1 : Int) ≤ (l.length : Int) + 1 := by omega
      by_cases hc1 : c3 = 1
      · have hl0 : l = [] := by
          apply List.eq_nil_of_length_eq_zero
          omega
        subst hl0
        subst hc1
        rw [List.foldl_nil] at TR1 TR2
        rw [List.length_nil]
        clear hcap
        go_wp2
        go_loopw [7, 38] (fun vv iv wq => iv = .int .i64 0 ∧ vv = .int .i64 f ∧ w3 = wq) (fun _ _ _ => 0)
        case atStart => exact ⟨rfl, rfl, rfl⟩
        case round =>
          obtain ⟨rfl, rfl, rfl⟩ := hrel
          obtain ⟨a1, f1⟩ : (∃ u, w3.cell? ⟨gb, i, none⟩ = some (.int .i64 u)) ∧ w3.frozen? ⟨gb, i, none⟩ = false := ⟨⟨_, OwI.cellD OW3.out hiR⟩, OW3.out.frozenAt _⟩
          obtain ⟨a1, e1⟩ := a1
          go_wp2
          go_roundw
          case rel =>
            obtain ⟨ws, hws⟩ := own_heap OW3.out
            refine ⟨j + 1, _, by omega, rfl, by have := HX.out; omega, ?_, ?_, B3.out.setCell (show g ≤ gb by omega) _⟩
            · rw [TR1.out]
              exact PK3.out.set hws _
            · have h1 := OwI.set (a := i) OW3.out f
              rw [TR2.out]
              exact h1
          case measure => simp [intOf]
      · have hc1' : ¬ c3 = 1 := hc1
        clear hcap
        go_wp2
        go_loopw [7, 38] (fun vv iv wq => ∃ t : Nat, t ≤ l.length ∧ iv = .int .i64 t ∧ vv = .int .i64 (mlt (p.o.length : Int) (s0, f) l t).2 ∧ PkS wq (g + 1) g (p.o.length : Int) (mlt (p.o.length : Int) (s0, f) l t).1 ∧ wq.ownsRow gb 3 1 (.slice (some ⟨gb, 0, none⟩) R R) R (b.map I) ∧ (∀ k, k < l.length → wq.cell? ⟨g3, k + 1, none⟩ = some (.int .i64 (l.getD k 0))) ∧ w3.heap.size ≤ wq.heap.size ∧ Below g w2 wq) (fun _ i _ => l.length - (intOf i).toNat)
        case atStart =>
          refine ⟨0, by omega, rfl, rfl, PK3.out, OW3.out, fun k hk => ?_, Nat.le_refl _, B3.out⟩
          rw [HC3.out (k + 1) (by simp; omega)]
          simp [I, hk]
        case round =>
          obtain ⟨t, ht, rfl, rfl, hpk, hown, hcl, hsz3, hbel⟩ := hrel
          have OWN := Lib.hid hown
          have BEL := Lib.hid hbel
          have HCL := Lib.hid hcl
          have hml := mlt_len (p.o.length : Int) (s0, f) l t ht
          by_cases htl2 : t < l.length
          · have d1 := hcl t htl2
            have e1 : l.getD t 0 = l[t] := by simp [htl2]
            rw [e1, Nat.add_comm] at d1
            have itl : (t : Int) < (l.length : Int) := by omega
            have ES := Lib.hid (mlt_succ (n := (p.o.length : Int)) (x := (s0, f)) htl2)
            obtain ⟨y, hy⟩ : ∃ y, mlt (p.o.length : Int) (s0, f) l t = y := ⟨_, rfl⟩
            have HY := Lib.hid hy
            rw [hy] at ES hpk hml
            have hyl : y.1.length ≤ 300 := by simp only at hml; omega
            obtain ⟨A4, c4, hblk, hos⟩ := hpk
            obtain ⟨y0, y1, y2, _, _, _⟩ := cells3 hblk
            have BLK := Lib.hid hblk
            have hT := meTimes_any wr.heap.size A4 none c4 0 0 (p.o.length : Int) y.1 y.2 l[t] wr (Nat.le_refl _) (by omega) (by omega) (by omega) (Rd.of_own hos)
            have HT := Lib.hid hT
            obtain ⟨q, hq⟩ : ∃ q, l[t] = q := ⟨_, rfl⟩
            rw [hq] at d1 ES HT
            rw [hy]
            clear hblk hos hT hown hbel hcl hy e1 hq hml
            go_wp2_with (go_at_call 52; refine HT.out.mono ?_; rintro e' w5 ⟨A5, c5, rfl, ho5, hb5⟩; have h5 := (hb5.block _ (Array.getElem?_eq_some_iff.1 BLK.out).1).trans BLK.out; obtain ⟨t0, t1, t2, f0, f1, f2⟩ := cells3 h5)
            obtain ⟨w6, hw6⟩ : ∃ w6, ((World.setCell w5 ⟨g, 0, none⟩ (.int .i64 (p.o.length : Int))).setCell ⟨g, 1, none⟩ (.slice A5 (y.1.length + 1) c5)).setCell ⟨g, 2, none⟩ (.slice none 0 0) = w6 := ⟨_, rfl⟩
            rw [hw6]
            have hs5 := hb5.size
            have MN := Lib.hid (pk_set (n := (p.o.length : Int)) (cs := #[_, _, _]) (by simp) h5 (own_base ho5 (show g + 1 ≤ wr.heap.size by omega)) hw6)
            have BN := Lib.hid (show Below g w2 w6 from by subst hw6; exact (((BEL.out.trans (hb5.mono (by omega))).setCell (Nat.le_refl _) _).setCell (Nat.le_refl _) _).setCell (Nat.le_refl _) _)
            have ON := Lib.hid (show w6.ownsRow gb 3 1 (.slice (some ⟨gb, 0, none⟩) R R) R (b.map I) from by subst hw6; exact own_set3 (own_below OWN.out hb5) h5 (by decide) _ _ _)
            have CN := Lib.hid (show ∀ k, k < l.length → w6.cell? ⟨g3, k + 1, none⟩ = some (.int .i64 (l.getD k 0)) from fun k hk => by
              subst hw6
              have h1 := (hb5.cell (p := ⟨g3, k + 1, none⟩) (by simp only []; omega)).trans (HCL.out k hk)
              rw [← h1]
              have n1 := Below.heap_setCell w5 ⟨g, 0, none⟩ (.int .i64 (p.o.length : Int)) g3 (by simp only []; omega)
              have n2 := Below.heap_setCell (World.setCell w5 ⟨g, 0, none⟩ (.int .i64 (p.o.length : Int))) ⟨g, 1, none⟩ (.slice A5 (y.1.length + 1) c5) g3 (by simp only []; omega)
              have n3 := Below.heap_setCell ((World.setCell w5 ⟨g, 0, none⟩ (.int .i64 (p.o.length : Int))).setCell ⟨g, 1, none⟩ (.slice A5 (y.1.length + 1) c5)) ⟨g, 2, none⟩ (.slice none 0 0) g3 (by simp only []; omega)
              exact World.cell?_of_block (a := ⟨g3, k + 1, none⟩) (n3.trans (n2.trans n1)))
            have SN := Lib.hid (show w5.heap.size = w6.heap.size from by subst hw6; simp [World.setCell])
            clear hw6 h5 ho5 hb5 y0 y1 y2 t0 t1 t2 f0 f1 f2
            go_roundw
            case rel => exact ⟨t + 1, by omega, by go_num, by rw [ES.out]; rfl, by rw [ES.out]; exact MN.out, ON.out, CN.out, by have := SN.out; omega, BN.out⟩
            case measure => simp [intOf]; omega
          · have ht' : t = l.length := by omega
            subst ht'
            have hm : mlt (p.o.length : Int) (s0, f) l l.length = l.foldl (muS (p.o.length : Int)) (s0, f) := by unfold mlt; rw [List.take_length]
            rw [hm] at hpk ⊢
            obtain ⟨y, hy⟩ : ∃ y, l.foldl (muS (p.o.length : Int)) (s0, f) = y := ⟨_, rfl⟩
            rw [hy] at hpk TR1 TR2
            rw [hy]
            have PKN := Lib.hid hpk
            obtain ⟨a1, e1⟩ : ∃ u, wr.cell? ⟨gb, i, none⟩ = some (.int .i64 u) := ⟨_, OwI.cellD OWN.out hiR⟩
            have f1 : wr.frozen? ⟨gb, i, none⟩ = false := OWN.out.frozenAt _
            clear hpk hown hcl hm hbel hy
            go_wp2
            go_roundw
            case rel =>
              obtain ⟨ws, hws⟩ := own_heap OWN.out
              refine ⟨j + 1, _, by omega, rfl, by have := HX.out; omega, ?_, ?_, BEL.out.setCell (show g ≤ gb by omega) _⟩
              · rw [TR1.out]
                exact PKN.out.set hws _
              · have h1 := OwI.set (a := i) OWN.out y.2
                rw [TR2.out]
                exact h1
            case measure => simp [intOf]
    · have hj' : j = R := by omega
      subst hj'
      have hx1 : x = -1 := by omega
      subst hx1
      obtain ⟨A4, c4, hblk, hos⟩ := hpk
      obtain ⟨t0, t1, t2, f0, f1, f2⟩ := cells3 hblk
      have q3 := (hbel.block (w.heap.size + 1) (by omega)).trans Q2.out
      obtain ⟨r0, r1, r2, _, _, _⟩ := cells3 q3
      have BLK := Lib.hid hblk
      have OS := Lib.hid hos
      have OWN := Lib.hid hown
      have BEL := Lib.hid hbel
      have Q3 := Lib.hid q3
      have iNR : (N : Int) ≤ (j : Int) := by have := HR.out; omega
      clear hblk hos hown hbel q3 hx
      obtain ⟨b, hb⟩ : ∃ b, (trn N p.s p.o j j).2 = b := ⟨_, rfl⟩
      obtain ⟨s0, hs0⟩ : ∃ s0, (trn N p.s p.o j j).1 = s0 := ⟨_, rfl⟩
      have hbl : b.length = j := by rw [← hb]; exact trn_blen _ _ _ _ _
      have ET := Lib.hid (show turnP p N = ⟨(p.o.length : Int), s0, b.take N⟩ by unfold turnP; rw [← HR.out, hb, hs0])
      rw [hb] at OWN
      rw [hs0] at BLK OS
      have hbt : (b.take N).length = N := by rw [List.length_take]; omega
      have hO := l1Own_any wr.heap.size (some ⟨gb, 0, none⟩) j (b.take N) wr (by omega) (Nat.le_refl _) ⟨by simp, fun _ => ⟨gb, 0, rfl, ((own_block OWN.out) _ rfl).2, fun i hi => by
        have hi' : i < N := by rw [hbt] at hi; omega
        rw [Nat.zero_add, OWN.out.cellAt _ (by omega), List.map_take, List.getElem?_take, if_pos hi']⟩⟩
      rw [hbt] at hO
      have HO := Lib.hid hO
      have HBT := Lib.hid hbt
      rw [hs0] at t1
      clear r0 r1 r2
      clear hb hs0 hbl hO hbt
      go_wp2_with (go_at_call 73; refine HO.out.mono ?_; rintro e' w5 ⟨A5, c5, rfl, ho5, hb5⟩; have h5 := (hb5.block _ (Array.getElem?_eq_some_iff.1 BLK.out).1).trans BLK.out; obtain ⟨t0', t1', t2', f0', f1', f2'⟩ := cells3 h5; have q5 := (hb5.block _ (Array.getElem?_eq_some_iff.1 Q3.out).1).trans Q3.out; have q6 := (Below.heap_setCell w5 ⟨g, 2, none⟩ (.slice A5 N c5) (w.heap.size + 1) (by simp only []; omega)).trans q5; obtain ⟨r0', r1', r2', k0', k1', k2'⟩ := cells3 q6)
      have OS6 := own_set (o := 2) (own_below OS.out hb5) h5 (by decide) (.slice A5 N c5)
      have OI6 := own_set (o := 2) ho5 h5 (by decide) (.slice A5 N c5)
      have hs5 := hb5.size
      have hsw : w.heap.size ≤ wr.heap.size := by have := HB2.out.size; have := BEL.out.size; omega
      refine bodyPost_ret (v := .agg #[.int .i64 (p.o.length : Int), .slice A4 s0.length c4, .slice A5 N c5]) (by simp [results, Try.results57, go_sem, r0', r1', r2']) rfl ⟨A4, A5, c4, c5, by rw [ET.out]; simp only [HBT.out], ?_, ?_⟩
      · rw [ET.out]
        exact owP_of3 (own_base OS6 (by omega)) (own_base (show World.ownsRow _ _ _ _ _ _ _ from OI6) (by omega)) q6 (by decide) (by decide) rfl HBT.out _ _ _
      · have hb := (HB2.out.trans (BEL.out.mono (by omega))).trans (hb5.mono hsw)
        exact (((hb.setCell (show w.heap.size ≤ g by omega) _).setCell (show w.heap.size ≤ w.heap.size + 1 by omega) _).setCell (show w.heap.size ≤ w.heap.size + 1 by omega) _).setCell (show w.heap.size ≤ w.heap.size + 1 by omega) _
end Go.Proofs.Ytlkieebmfmiafab
/- TurnedCost, of the model and of the program. -/
namespace Go.Proofs.Ytlkieebmfmiafab
open Go.RowKit

def tcR (p : Pl) : Int := if canR p then ((turnP p p.n.toNat).s.length : Int) else 0
theorem tcR_can {p : Pl} {N : Nat} (h : canR p = true) (hN : p.n = N) : tcR p = ((trn N p.s p.o (N + p.s.length) (N + p.s.length)).1.length : Int) := by
  have : p.n.toNat = N := by omega
  unfold tcR turnP
  rw [if_pos h, this]
theorem tcR_not {p : Pl} (h : canR p = false) : tcR p = 0 := by unfold tcR; rw [if_neg (by rw [h]; decide)]
theorem usd_of {p : Pl} {N : Nat} (hN : p.n = N) (h : canB p = true) (n1 : 1 ≤ N) (hok : OkS N p.s) : Usd p.s p.o (N + p.s.length) := by
  rw [can_eq hN n1 hok] at h
  intro v hv
  rcases Nat.eq_zero_or_pos (usC p.s p.o p.s.length p.o.length (v : Int)) with h0 | h0
  · have : noU p.s p.o (N + p.s.length) (N + p.s.length) = true := (noU_iff _).2 ⟨v, hv, h0⟩
    rw [this] at h
    exact absurd h (by decide)
  · exact h0


/-- The cost of the first k values. -/
def tcK (s : List (Int × Int)) (o : List Int) (k : Nat) : Int := (sm (fun v => usC s o s.length o.length (v : Int)) k : Int) - (k : Int)

end Go.Proofs.Ytlkieebmfmiafab
/- The turned plan, by the program. -/
namespace Go.Proofs.Ytlkieebmfmiafab
open Go.RowKit Go.Shelf

attribute [local go_sem] Oper.semAt_some

def tnP (N R : Nat) (p : Pl) : Pl := ⟨(p.o.length : Int), (trn N p.s p.o R R).1, (trn N p.s p.o R R).2.take N⟩

theorem row_ownP {β : Type} (n₀ : Nat) (e : TypeId) (size : Nat) (v : Value) (k : Nat) (f : β → List Value) (_ : Unit) : Own (fun s W => W.ownsRow n₀ e size v k (f s)) := by
  intro s X Y row h hg hr
  exact row_kept h hg hr
theorem mk_own {β : Type} (B g : Nat) (n : Int) (f : β → List (Int × Int)) (_ : Unit) : Own (fun s W => MkS W B g n (f s)) := by
  intro s X Y row h hg hr
  exact h.kept hg hr

theorem own_above {W W' : World} {B sz n : Nat} {e : TypeId} {v : Value} {xs : List Value} (h : W.ownsRow B e sz v n xs) (hk : ∀ k, B ≤ k → W'.heap[k]? = W.heap[k]?) : W'.ownsRow B e sz v n xs := by
  refine ⟨h.1, ?_⟩
  rcases h.2 with h0 | ⟨g, cap, cur, hv, hb, hg, r⟩
  · exact .inl h0
  · exact .inr ⟨g, cap, cur, hv, hb, (hk g hb).trans hg, r⟩
theorem drop_rd {W : World} {B gb N R c : Nat} {b : List Int} {A3 : Option Addr} (h : W.ownsRow B 3 1 (.slice (some ⟨gb, 0, none⟩) R c) R (b.map I)) (hl : b.length = R) (hA : (if R = N then some (⟨gb, 0, none⟩ : Addr) else some ⟨gb, N, none⟩) = A3) :
    Rd W W.heap.size 1 A3 (R - N) ((b.drop N).map I) := by
  refine ⟨by simp [hl], fun h0 => ?_⟩
  rw [if_neg (by omega)] at hA
  subst hA
  obtain ⟨cs, hcs⟩ := own_heap h
  refine ⟨gb, N, rfl, (Array.getElem?_eq_some_iff.1 hcs).1, fun j hj => ?_⟩
  rw [OwI.cellD h (show N + j < R by omega)]
  have hj2 : N + j < b.length := by omega
  simp [I, hj2]

set_option maxRecDepth 100000 in
set_option maxHeartbeats 4000000 in
theorem turned_any (B N R : Nat) (A1 A2 A : Option Addr) (c1 c2 c : Nat) (p : Pl) (w : World) (n1 : 1 ≤ N) (h6 : N ≤ 6) (hs40 : p.s.length ≤ 40) (ho6 : p.o.length ≤ 6) (hR : R = N + p.s.length) (hB : B ≤ w.heap.size) (hu : Usd p.s p.o R) (hr : RdP w B A1 A2 p) :
    Calls Try.prog 68 #[.agg #[.int .i64 N, .slice A1 p.s.length c1, .slice A2 p.o.length c2, .slice A R c]] w fun e w' =>
      ∃ R1 R2 v1 v2, e = .returned (.tuple #[.agg #[.int .i64 (mkR (tnP N R p)).n, .slice R1 (mkR (tnP N R p)).s.length v1, .slice R2 (mkR (tnP N R p)).o.length v2], .bool (good (tnP N R p))]) ∧ OwP w' w.heap.size R1 R2 v1 v2 (mkR (tnP N R p)) ∧ Below w.heap.size w w' := by
  have H := Lib.hid hr
  have HR := Lib.hid hR
  have HU := Lib.hid hu
  have hR46 : R ≤ 46 := by omega
  have hNR : N ≤ R := by omega
  clear hr hR hu
  have hmk := run_make_row' (P := Try.prog) 22 3 (.int .i64 0) 8 Try.underlying22 info_int rfl .i64 .i64 R (by omega) (by omega)
  refine (callsIn_wide (n := 3)).1 ?_
  refine callsIn_of_wp_marks Try.func68 rfl trivial ?_ rfl
  simp only [Try.ntmps68, List.size_toArray, List.length_cons, List.length_nil, Nat.reduceAdd, Nat.reduceSub, Array.replicate_succ, Array.replicate_zero, List.push_toArray, List.append_toArray, List.nil_append, List.cons_append]
  obtain ⟨w3, hw3⟩ : ∃ w3, ((((w.alloc (.cells #[.int .i64 N, .slice A1 p.s.length c1, .slice A2 p.o.length c2, .slice A R c] 71)).alloc (.cells #[.int .i64 0, .slice none 0 0, .slice none 0 0] 25)).alloc (.cells #[.int .i64 p.o.length, .slice none 0 0] 62)).alloc (.cells (madeCells #[.int .i64 0] R) 3)).alloc (.cells #[.slice (some ⟨w.heap.size + 3, 0, none⟩) R R] 22) = w3 := ⟨_, rfl⟩
  obtain ⟨⟨b0, b1, b2, b3, b4⟩, bs, bb⟩ := td_boxes rfl hw3
  have x0 : w3.cell? ⟨w.heap.size, 0, none⟩ = some (.int .i64 N) := by rw [cell_of_row w3 w.heap.size 0 _ _ (0, 0) b0]; rfl
  have x1 : w3.cell? ⟨w.heap.size, 1, none⟩ = some (.slice A1 p.s.length c1) := by rw [cell_of_row w3 w.heap.size 1 _ _ (0, 0) b0]; rfl
  have x2 : w3.cell? ⟨w.heap.size, 2, none⟩ = some (.slice A2 p.o.length c2) := by rw [cell_of_row w3 w.heap.size 2 _ _ (0, 0) b0]; rfl
  have x3 : w3.cell? ⟨w.heap.size, 3, none⟩ = some (.slice A R c) := by rw [cell_of_row w3 w.heap.size 3 _ _ (0, 0) b0]; rfl
  have hrow : w3.ownsRow (w.heap.size + 3) 3 1 (.slice (some ⟨w.heap.size + 3, 0, none⟩) R R) R ((trF N p.s p.o R []).2.map I) := by
    have h := zeros_row (w := ((w.alloc (.cells #[.int .i64 N, .slice A1 p.s.length c1, .slice A2 p.o.length c2, .slice A R c] 71)).alloc (.cells #[.int .i64 0, .slice none 0 0, .slice none 0 0] 25)).alloc (.cells #[.int .i64 p.o.length, .slice none 0 0] 62)) (B := w.heap.size + 3) R (by omega) (by simp)
    simp only [World.size_alloc] at h
    have h2 := own_below h (show Below _ _ w3 from by rw [← hw3]; exact (Below.refl _ _).alloc (Nat.le_refl _) _)
    show w3.ownsRow _ _ _ _ _ ((List.replicate R (0 : Int)).map I)
    rw [List.map_replicate]
    exact h2
  have hmk3 : MkS w3 (w.heap.size + 2) (w.heap.size + 2) (p.o.length : Int) (trF N p.s p.o R []).1 := ⟨none, 0, b2, World.ownsRow_nil _ _ _ _⟩
  have HB3 := Lib.hid bb
  have HR3 := Lib.hid hrow
  have HM3 := Lib.hid hmk3
  have D3 := Lib.hid (And.intro b0 (And.intro b1 b4))
  have hs3 : w.heap.size + 5 ≤ w3.heap.size := by omega
  clear b0 b1 b2 b3 b4 bs bb hrow hmk3
  gi_wp2_with fail
  refine ⟨trivial, ?_⟩
  gi_at_call 89
  refine (callsIn_wide.2 (allUses_any B N R A1 A2 A c1 c2 c p w3 hs40 ho6 hR46 (by omega) (H.out.below' HB3.out hB))).mono ?_
  rintro en w4 ⟨A', c', fo, fs, rfl, hU4, hb4⟩
  clear x0 x1 x2 x3 hmk hw3
  have HB4 := Lib.hid (HB3.out.trans (hb4.mono (by omega)))
  have HR4 := Lib.hid (own_below HR3.out hb4)
  have HM4 := Lib.hid (HM3.out.below hb4)
  have D4 := Lib.hid (And.intro ((hb4.block w.heap.size (by omega)).trans D3.out.1) (And.intro ((hb4.block (w.heap.size + 1) (by omega)).trans D3.out.2.1) ((hb4.block (w.heap.size + 4) (by omega)).trans D3.out.2.2)))
  have HU4 := Lib.hid hU4
  have hs4 : w3.heap.size ≤ w4.heap.size := hb4.size
  clear hb4 hU4
  gi_wp2_with fail
  refine ⟨trivial, ?_⟩
  gi_at_call 92
  refine (backUses_in Fence.wide _ trivial rfl _ _ _ _).mono ?_
  rintro en w' ⟨rfl, hww⟩
  subst hww
  gi_wp2_with fail
  obtain ⟨w5, hw5⟩ : ∃ w5, w4.alloc (.cells #[.slice A' R c'] 95) = w5 := ⟨_, rfl⟩
  rw [hw5]
  have hb5 : Below w4.heap.size w4 w5 := by rw [← hw5]; exact (Below.refl _ _).alloc (Nat.le_refl _) _
  have z5 : w5.heap[w4.heap.size]? = some (.cells #[.slice A' R c'] 95 (0, 0)) := by rw [← hw5]; exact heap_alloc_new w4 _
  have hs5 : w5.heap.size = w4.heap.size + 1 := by rw [← hw5]; simp
  have HB5 := Lib.hid (HB4.out.trans (hb5.mono (by omega)))
  have HR5 := Lib.hid (own_below HR4.out hb5)
  have HM5 := Lib.hid (HM4.out.below hb5)
  have D5 := Lib.hid (And.intro ((hb5.block w.heap.size (by omega)).trans D4.out.1) (And.intro ((hb5.block (w.heap.size + 1) (by omega)).trans D4.out.2.1) ((hb5.block (w.heap.size + 4) (by omega)).trans D4.out.2.2)))
  have HU5 := Lib.hid (HU4.out.below hb5)
  have Z5 := Lib.hid z5
  have hs5' : w4.heap.size + 1 ≤ w5.heap.size := by omega
  have hs5'' : w5.heap.size ≤ w4.heap.size + 1 := by omega
  clear hw5 hb5 z5 hs5
  refine wpIn_rangeFunc_ownH (w0 := w5) rfl (by omega) (gf := 102) (lb := #[.pointer (some ⟨w4.heap.size, 0, none⟩)]) rfl trivial (enters_of Try.func102 (by kernel_rfl) rfl)
    (backUses_stops Fence.wide _ trivial rfl (by omega) w4.heap.size w3.heap.size R A' c' fo fs p.s p.o (by omega) w5 Z5.out HU5.out.1) kpU_t (kpU_b (by omega)) (Below.refl _ _) (fun _ => rfl)
    (fun pre W => MkS W (w.heap.size + 2) (w.heap.size + 2) (p.o.length : Int) (trF N p.s p.o R pre).1 ∧ (W.ownsRow (w.heap.size + 3) 3 1 (.slice (some ⟨w.heap.size + 3, 0, none⟩) R R) R ((trF N p.s p.o R pre).2.map I) ∧
      (W.heap[w.heap.size]? = some (.cells #[.int .i64 N, .slice A1 p.s.length c1, .slice A2 p.o.length c2, .slice A R c] 71 (0, 0)) ∧ (W.heap[w.heap.size + 1]? = some (.cells #[.int .i64 0, .slice none 0 0, .slice none 0 0] 25 (0, 0)) ∧
      (W.heap[w.heap.size + 4]? = some (.cells #[.slice (some ⟨w.heap.size + 3, 0, none⟩) R R] 22 (0, 0)) ∧ (W.heap[w4.heap.size]? = some (.cells #[.slice A' R c'] 95 (0, 0)) ∧ (OwU W w3.heap.size A' c' fo fs p.s p.o R ∧ Below w.heap.size w W)))))))
    (fun _ _ _ => False)
    (OwnFrom.and (Own.from (mk_own _ _ _ _ ()) _) (OwnFrom.and (Own.from (row_ownP _ _ _ _ _ _ ()) _) (OwnFrom.and (Own.from (fun s A B row hs hg hr => blk_kept hs hg hr) _) (OwnFrom.and (Own.from (fun s A B row hs hg hr => blk_kept hs hg hr) _)
      (OwnFrom.and (Own.from (fun s A B row hs hg hr => blk_kept hs hg hr) _) (OwnFrom.and (Own.from (fun s A B row hs hg hr => blk_kept hs hg hr) _) (OwnFrom.and (Own.from (fun s A B row hs hg hr => OwU.kept hs hg hr) _) (ownFrom_below (Nat.le_refl _) (by omega)))))))))
    (fun _ _ _ _ _ hs _ _ => hs)
    ⟨HM5.out, HR5.out, D5.out.1, D5.out.2.1, D5.out.2.2, Z5.out, HU5.out, HB5.out⟩
    (fun x a' W => ∃ g : Nat, w5.heap.size ≤ g ∧ W.heap[g]? = some (.cells #[.slice (fo x.val).1 (usO p.o (x.val : Int) p.o.length).length (fo x.val).2, .slice (fs x.val).1 (usS p.s (x.val : Int) p.s.length).length (fs x.val).2] 97 (0, 0)) ∧ a' = { tmps := #[.agg #[.int .i64 N, .slice A1 p.s.length c1, .slice A2 p.o.length c2, .slice A R c], .pointer (some ⟨w.heap.size, 0, none⟩), .pointer (some ⟨w.heap.size + 1, 0, none⟩), .bool false, .pointer (some ⟨w.heap.size + 1 + 1, 0, none⟩), .pointer (some ⟨w.heap.size + 1 + 1 + 1 + 1, 0, none⟩), .int .i64 ((x.val : Nat) : Int), .pointer (some ⟨g, 0, none⟩), undef, .pointer (some ⟨w.heap.size, 0, none⟩), .pointer (some ⟨w.heap.size, 2, none⟩), .slice A2 p.o.length c2, .int .i64 (p.o.length : Int), .agg #[.int .i64 (p.o.length : Int), .slice none 0 0], .pointer (some ⟨w.heap.size, 3, none⟩), .pointer (some ⟨w.heap.size, 3, none⟩), .slice A R c, .int .i64 (R : Int), .slice (some ⟨w.heap.size + 1 + 1 + 1, 0, none⟩) R R, .agg #[.int .i64 N, .slice A1 p.s.length c1, .slice A2 p.o.length c2, .slice A R c], .slice A' R c', .func (.func 102) #[] #[.pointer (some ⟨w4.heap.size, 0, none⟩)], .int .i64 ((x.val : Nat) : Int), .agg #[.slice (fo x.val).1 (usO p.o (x.val : Int) p.o.length).length (fo x.val).2, .slice (fs x.val).1 (usS p.s (x.val : Int) p.s.length).length (fs x.val).2], undef, undef, undef, undef, undef, undef, undef, undef, undef, undef, undef, undef, undef, undef, undef, undef, undef, undef, undef, undef, undef, undef, undef, undef, undef, undef], defers := [] })
    (fun x a' => by
      rintro _ X Y row ⟨g, h1, h2, h3⟩ hg hr
      exact ⟨g, h1, blk_kept h2 hg (fun r e => (hr r e).2), h3⟩) ?assign ?body ?done ?stop
  case assign =>
    intro l pre x W K hI hK
    simp only [uuE]
    gi_wp2
    obtain ⟨i1, i2, i3, i4, i5, i6, i7, i8⟩ := hI
    have hsW := i8.size
    have bw := (Below.refl W.heap.size W).alloc (Nat.le_refl _) (.cells #[.slice (fo x.val).1 (usO p.o (x.val : Int) p.o.length).length (fo x.val).2, .slice (fs x.val).1 (usS p.s (x.val : Int) p.s.length).length (fs x.val).2] 97)
    refine hK _ _ ((KeepsOthers.alloc W _).from _) ⟨fun _ _ _ _ h => h.alloc _, fun hl => Below.heap_alloc _ _ _ hl, by simp⟩ ⟨i1.below bw, World.ownsRow.alloc i2 _, (bw.block _ (Array.getElem?_eq_some_iff.1 i3).1).trans i3, (bw.block _ (Array.getElem?_eq_some_iff.1 i4).1).trans i4, (bw.block _ (Array.getElem?_eq_some_iff.1 i5).1).trans i5, (bw.block _ (Array.getElem?_eq_some_iff.1 i6).1).trans i6, i7.below bw, i8.trans (bw.mono hsW)⟩ ⟨W.heap.size, by have := (Array.getElem?_eq_some_iff.1 i6).1; omega, heap_alloc_new W _, rfl⟩
  case body =>
    rintro lr pre x a' W _ _ ⟨i1, i2, i3, i4, i5, i6, i7, i8⟩ ⟨g, hg, hgb, rfl⟩ hpl
    have hlt4 : w4.heap.size < W.heap.size := (Array.getElem?_eq_some_iff.1 i6).1
    have hsW := i8.size
    have EF := Lib.hid (trF_snoc N p.s p.o R pre x)
    obtain ⟨hl1, hl2⟩ := trF_len N p.s p.o R hs40 ho6 pre
    obtain ⟨st, hst⟩ : ∃ st, trF N p.s p.o R pre = st := ⟨_, rfl⟩
    rw [hst] at i1 i2 hl1 hl2 EF
    obtain ⟨s0, b⟩ := st
    simp only at i1 i2 hl1 hl2
    obtain ⟨v, hv⟩ : ∃ v : Nat, x.val = v := ⟨_, rfl⟩
    have hvR : v < R := by rw [← hv]; exact x.isLt
    simp only [hv] at hgb EF ⊢
    obtain ⟨r1, r2⟩ := i7.2 v hvR
    have hin : ∀ q ∈ usS p.s (v : Int) p.s.length, 0 ≤ q ∧ q < ((b.drop N).length : Int) := fun q hq => by
      have h := usS_inR hq
      have hR := HR.out
      rw [List.length_drop, hl2]
      omega
    have hU1 := usO_le p.o (v : Int) p.o.length
    have hU2 := usS_le p.s (v : Int) p.s.length
    unfold trS at EF
    simp only at EF
    rw [fcs_drop] at EF
    obtain ⟨U1, hU1e⟩ : ∃ U, usO p.o (v : Int) p.o.length = U := ⟨_, rfl⟩
    obtain ⟨U2, hU2e⟩ : ∃ U, usS p.s (v : Int) p.s.length = U := ⟨_, rfl⟩
    rw [hU1e] at hgb r1 hU1 EF ⊢
    rw [hU2e] at hgb r2 hin hU2 EF ⊢
    obtain ⟨⟨a1, q1⟩, ha1⟩ : ∃ a, fo v = a := ⟨_, rfl⟩
    obtain ⟨⟨a2, q2⟩, ha2⟩ : ∃ a, fs v = a := ⟨_, rfl⟩
    rw [ha1] at hgb r1 ⊢
    rw [ha2] at hgb r2 ⊢
    simp only at hgb r1 r2 ⊢
    obtain ⟨k0, k1, _, _⟩ := us_cells hgb
    have k2 : W.cell? ⟨w.heap.size + 1 + 1 + 1 + 1, 0, none⟩ = some (.slice (some ⟨w.heap.size + 1 + 1 + 1, 0, none⟩) R R) := by rw [cell_of_row W (w.heap.size + 1 + 1 + 1 + 1) 0 _ _ (0, 0) i5]; rfl
    have k3 : W.cell? ⟨w.heap.size, 0, none⟩ = some (.int .i64 N) := by rw [cell_of_row W w.heap.size 0 _ _ (0, 0) i3]; rfl
    have ivR : (v : Int) < (R : Int) := by omega
    have I1 := Lib.hid i1
    have I2 := Lib.hid i2
    have II := Lib.hid (And.intro i3 (And.intro i4 (And.intro i5 (And.intro i6 (And.intro i7 i8)))))
    have R12 := Lib.hid (And.intro r1 r2)
    have HIN := Lib.hid hin
    have HL2 := Lib.hid hl2
    have hl1' : s0.length ≤ 4000 := by omega
    clear i1 i2 i3 i4 i5 i6 i7 i8 r1 r2 hin hl2 hst hU1e hU2e ha1 ha2 hgb hl1
    gi_wp2
    have HS := Lib.hid (show (fun x : World => x.cell? ⟨g, 0, none⟩ = some (.slice a1 U1.length q1) ∧ x.cell? ⟨g, 1, none⟩ = some (.slice a2 U2.length q2) ∧ x.cell? ⟨w.heap.size + 1 + 1 + 1 + 1, 0, none⟩ = some (.slice (some ⟨w.heap.size + 1 + 1 + 1, 0, none⟩) R R) ∧ x.cell? ⟨w.heap.size, 0, none⟩ = some (.int .i64 N)) W.drew from ⟨k0, k1, k2, k3⟩)
    refine wp_region_J (fun _ => trivial) (fun x : World => x.cell? ⟨g, 0, none⟩ = some (.slice a1 U1.length q1) ∧ x.cell? ⟨g, 1, none⟩ = some (.slice a2 U2.length q2) ∧ x.cell? ⟨w.heap.size + 1 + 1 + 1 + 1, 0, none⟩ = some (.slice (some ⟨w.heap.size + 1 + 1 + 1, 0, none⟩) R R) ∧ x.cell? ⟨w.heap.size, 0, none⟩ = some (.int .i64 N)) [0, 1, 2, 3, 4, 5, 6, 7, 8, 12] [1, 3, 4, 7] (.lp 0 (.lp 2 (.lp 5 (.lp 6 (.ls 1 (.ls 3 (.ls 4 (.ls 7 (.lp 8 (.hv 9 (.hv 10 (.hv 11 (.lp 12 (.done)))))))))))))) (by kernel_rfl) (by kernel_rfl) ?_
    (repeat (refine J_lp rfl (fun K hK => ?_); go_simp; refine hK _ ?_; clear hK K))
    refine J_ls1 (v := .slice a1 U1.length q1) rfl rfl HS.out (fun x hx => (by obtain ⟨h1, h2, h3, h4⟩ := hx; go_simp)) (fun K hK => ?_)
    (go_simp; refine hK _ ?_; clear hK K)
    refine J_ls1 (v := .slice a2 U2.length q2) rfl rfl HS.out (fun x hx => (by obtain ⟨h1, h2, h3, h4⟩ := hx; go_simp)) (fun K hK => ?_)
    (go_simp; refine hK _ ?_; clear hK K)
    refine J_ls1 (v := .slice (some ⟨w.heap.size + 1 + 1 + 1, 0, none⟩) R R) rfl rfl HS.out (fun x hx => (by obtain ⟨h1, h2, h3, h4⟩ := hx; go_simp)) (fun K hK => ?_)
    (go_simp; refine hK _ ?_; clear hK K)
    refine J_ls1 (v := .int .i64 N) rfl rfl HS.out (fun x hx => (by obtain ⟨h1, h2, h3, h4⟩ := hx; go_simp)) (fun K hK => ?_)
    (go_simp; refine hK _ ?_; clear hK K)
    (repeat (refine J_lp rfl (fun K hK => ?_); go_simp; refine hK _ ?_; clear hK K))
    obtain ⟨A3, hA3⟩ : ∃ A3, (if R = N then some (⟨w.heap.size + 1 + 1 + 1, 0, none⟩ : Addr) else some ⟨w.heap.size + 1 + 1 + 1, N, none⟩) = A3 := ⟨_, rfl⟩
    rw [hA3]
    have RD3 := Lib.hid (drop_rd I2.out HL2.out hA3)
    have hbl : (b.drop N).length = R - N := by rw [List.length_drop, HL2.out]
    have hrn := fun d => renamed_any W.heap.size a2 A3 q2 d U2 (b.drop N) W.drew (by omega) (Nat.le_refl _) HIN.out (R12.out.2.rd.drew) (by rw [hbl]; exact RD3.out.drew)
    rw [hbl] at hrn
    have HRN := Lib.hid hrn
    obtain ⟨U3, hU3⟩ : ∃ U3, (U2.map fun x => (b.drop N).getD x.toNat 0) = U3 := ⟨_, rfl⟩
    have hU3l : U3.length = U2.length := by rw [← hU3]; simp
    rw [hU3] at EF HRN
    clear hrn hbl hA3 hU3
    refine J_hvS rfl (fun K hK => ?_)
    go_simp
    refine ⟨trivial, ?_⟩
    refine (CallsIn.inRound lr (callsIn_wide.2 (HRN.out _))).mono ?_
    rintro e w6 ⟨A4, c4, rfl, hown6, hb6⟩
    have hb6' : Below W.heap.size W w6 := (Below.refl _ _).drew.trans hb6
    have hs6 := hb6'.size
    have hgW : g < W.heap.size := by
      rcases Nat.lt_or_ge g W.heap.size with h | h
      · exact h
      · have := k0; simp [World.cell?, h] at this
    have j0 := (hb6'.cell (p := ⟨g, 0, none⟩) hgW).trans k0
    have j1 := (hb6'.cell (p := ⟨g, 1, none⟩) hgW).trans k1
    have j2 := (hb6'.cell (p := ⟨w.heap.size + 1 + 1 + 1 + 1, 0, none⟩) (by simp only []; omega)).trans k2
    have j3 := (hb6'.cell (p := ⟨w.heap.size, 0, none⟩) (by simp only []; omega)).trans k3
    go_simp
    refine hK _ _ ⟨j0, j1, j2, j3⟩ ?_
    clear hK K
    have OW6 := Lib.hid hown6
    have HB6 := Lib.hid hb6'
    have k2' := k2
    clear hown6 hb6 hb6' k0 k1 k2 k3 j0 j1 j3
    refine J_hv rfl (by kernel_rfl) (fun K hK => ?_)
    go_simp
    refine hK _ _ ?_
    clear hK K
    generalize hw7 : World.alloc w6 _ = w7
    obtain ⟨e0, e1, es, eb⟩ := box2 hw7
    clear hw7
    have hb67 : Below w6.heap.size w6 w7 := eb
    have HB7 := Lib.hid (HB6.out.trans (hb67.mono hs6))
    have e1' : w7.cell? ⟨w6.heap.size, 1, none⟩ = some (.slice A4 U3.length c4) := by rw [hU3l]; exact e1
    have OW7 : OwI w7 W.heap.size (.slice A4 U3.length c4) U3 := by
      have h := own_below OW6.out hb67
      rw [hU3l]
      exact h
    have hC := fun d => concatI_any w7.heap.size w6.heap.size a1 A4 q1 c4 d U1 U3 w7 (by omega) (by omega) (Nat.le_refl _) e0 e1' (by omega) (R12.out.1.below HB7.out).rd OW7.rd
    obtain ⟨F5, hF5⟩ : ∃ F5, U1 ++ U3 = F5 := ⟨_, rfl⟩
    have hFl : F5.length ≤ 100 := by rw [← hF5, List.length_append]; omega
    rw [hF5] at hC EF
    rw [← List.length_append, hF5] at hC
    have HC := Lib.hid hC
    clear e0 e1 e1' OW7 hC hF5 es eb hb67 hU3l j2
    have hs7 := HB7.out.size
    refine J_hv rfl (by kernel_rfl) (fun K hK => ?_)
    go_simp
    refine ⟨trivial, ?_⟩
    refine (CallsIn.inRound lr (callsIn_wide.2 (HC.out _))).mono ?_
    rintro e w8 ⟨A5, c5, rfl, hown8, hb8⟩
    go_simp
    refine hK _ _ ?_
    clear hK K
    (repeat (refine J_lp rfl (fun K hK => ?_); go_simp; refine hK _ ?_; clear hK K))
    refine J_done ?_
    have HB8 := Lib.hid (HB7.out.trans (hb8.mono (by omega)))
    have OW8 := Lib.hid hown8
    have hs8 := HB8.out.size
    clear hown8 hb8
    gi_wp2
    have t5 : w8.cell? ⟨w.heap.size + 1 + 1 + 1 + 1, 0, none⟩ = some (.slice (some ⟨w.heap.size + 1 + 1 + 1, 0, none⟩) R R) := (HB8.out.cell (p := ⟨w.heap.size + 1 + 1 + 1 + 1, 0, none⟩) (by simp only []; omega)).trans k2'
    have HS7 := Lib.hid (show (fun x : World => x.cell? ⟨w.heap.size + 1 + 1 + 1 + 1, 0, none⟩ = some (.slice (some ⟨w.heap.size + 1 + 1 + 1, 0, none⟩) R R)) w8.drew from t5)
    have HB8d := Lib.hid (show Below W.heap.size W w8.drew from HB8.out.drew)
    have M8 := Lib.hid (show MkS w8.drew (w.heap.size + 2) (w.heap.size + 2) (p.o.length : Int) s0 from I1.out.below HB8d.out)
    have OW8d := Lib.hid (show OwI w8.drew w7.heap.size (.slice A5 F5.length c5) F5 from OW8.out)
    have HP := product_any (w.heap.size + 2) (w.heap.size + 2) (p.o.length : Int) s0 A5 c5 F5 w8.drew (Nat.le_refl _) M8.out (by omega) (by omega) (by omega) (fun X _ hk => (hk.ints OW8d.out).rd)
    obtain ⟨y, hy⟩ : ∃ y, F5.foldl (onS (p.o.length : Int)) (s0, -1) = y := ⟨_, rfl⟩
    rw [hy] at HP EF
    have HP := Lib.hid HP
    clear hy t5
    refine wp_region_J (fun _ => trivial) (fun x : World => x.cell? ⟨w.heap.size + 1 + 1 + 1 + 1, 0, none⟩ = some (.slice (some ⟨w.heap.size + 1 + 1 + 1, 0, none⟩) R R)) [0, 1, 2, 4] [0] (.lp 1 (.lp 2 (.ls 0 (.hv 3 (.lp 4 (.hv 5 (.done))))))) (by kernel_rfl) (by kernel_rfl) ?_
    (repeat (refine J_lp rfl (fun K hK => ?_); go_simp; refine hK _ ?_; clear hK K))
    refine J_ls1 (v := .slice (some ⟨w.heap.size + 1 + 1 + 1, 0, none⟩) R R) rfl rfl HS7.out (fun x hx => (by go_simp)) (fun K hK => ?_)
    (go_simp; refine hK _ ?_; clear hK K)
    refine J_hvS rfl (fun K hK => ?_)
    go_simp
    refine ⟨trivial, ?_⟩
    refine (CallsIn.inRound lr (callsIn_wide.2 HP.out)).mono ?_
    rintro e w9 ⟨rfl, hm9, hb9, hk9⟩
    obtain ⟨i3, i4, i5, i6, i7, i8⟩ := II.out
    have g5 := hk9.blkT (show w8.drew.heap[w.heap.size + 4]? = some (.cells #[.slice (some ⟨w.heap.size + 3, 0, none⟩) R R] 22 (0, 0)) from (HB8d.out.block _ (by omega)).trans i5)
    have g6 := hk9.blkT (show w8.drew.heap[w4.heap.size]? = some (.cells #[.slice A' R c'] 95 (0, 0)) from (HB8d.out.block _ (by omega)).trans i6)
    have g3 := (hb9.block w.heap.size (by omega)).trans ((HB8d.out.block _ (by omega)).trans i3)
    have g4 := (hb9.block (w.heap.size + 1) (by omega)).trans ((HB8d.out.block _ (by omega)).trans i4)
    have g7 := (i7.below HB8d.out).kp hk9
    have r9 := hk9.1 _ _ _ _ _ _ (by decide) (by decide) (own_below I2.out HB8d.out)
    have G := Lib.hid (And.intro g3 (And.intro g4 (And.intro g5 (And.intro g6 g7))))
    have M9 := Lib.hid hm9
    have R9 := Lib.hid r9
    have HB9 := Lib.hid hb9
    have HK9 := Lib.hid hk9
    have u9 : w9.cell? ⟨w.heap.size + 1 + 1 + 1, v, none⟩ = some (.int .i64 (b.getD v 0)) := OwI.cellD r9 hvR
    have f9 : w9.frozen? ⟨w.heap.size + 1 + 1 + 1, v, none⟩ = false := r9.frozenAt _
    have t9 : w9.cell? ⟨w.heap.size + 1 + 1 + 1 + 1, 0, none⟩ = some (.slice (some ⟨w.heap.size + 1 + 1 + 1, 0, none⟩) R R) := by rw [cell_of_row w9 (w.heap.size + 1 + 1 + 1 + 1) 0 _ _ (0, 0) g5]; rfl
    clear i3 i4 i5 i6 i7 i8 g3 g4 g5 g6 g7 r9 hm9 hb9 hk9
    go_simp
    refine hK _ _ t9 ?_
    clear hK K t9
    (repeat (refine J_lp rfl (fun K hK => ?_); go_simp; refine hK _ ?_; clear hK K))
    refine J_hv rfl (by kernel_rfl) (fun K hK => ?_)
    go_simp
    refine hK _ _ ?_
    clear hK K
    refine J_done ?_
    gi_wp2
    obtain ⟨i3, i4, i5, i6, i7, i8⟩ := II.out
    obtain ⟨g3, g4, g5, g6, g7⟩ := G.out
    have hEF : trF N p.s p.o R (pre ++ [x]) = (y.1, b.set v y.2) := EF.out
    obtain ⟨cs, hcs⟩ := own_heap R9.out
    have sz9 : W.heap.size ≤ w9.heap.size := Nat.le_trans HB8d.out.size HB9.out.size
    have ko : KeepsOthers W w9 := ⟨sz9, fun k o hk ho => HK9.out.2.same k o ((HB8d.out.block k (Array.getElem?_eq_some_iff.1 hk).1).trans hk) ho⟩
    obtain ⟨W2, hW2⟩ : ∃ W2, w9.setCell ⟨w.heap.size + 3, v, none⟩ (.int .i64 y.2) = W2 := ⟨_, rfl⟩
    have sk : ∀ k, k ≠ w.heap.size + 3 → W2.heap[k]? = w9.heap[k]? := fun k hk => by rw [← hW2]; exact Below.heap_setCell w9 ⟨w.heap.size + 3, v, none⟩ _ k hk
    have m2 : MkS W2 (w.heap.size + 2) (w.heap.size + 2) (p.o.length : Int) y.1 := by
      obtain ⟨Am, cm, h1, h2⟩ := M9.out
      refine ⟨Am, cm, (sk _ (by omega)).trans h1, ?_⟩
      rw [← hW2]
      exact own_set h2 hcs (by decide) _
    have r2' := OwI.set (a := v) R9.out y.2
    rw [hW2] at r2'
    have hk3 : ∀ k, w3.heap.size ≤ k → W2.heap[k]? = w9.heap[k]? := fun k hk => sk k (by omega)
    have ko2 : KeepsOthers W W2 := by rw [← hW2]; exact ko.trans (KeepsOthers.setCell _ _ _)
    have ku : KpU w4.heap.size W W2 := by
      refine ⟨fun B' n v' xs h => ?_, fun _ => ((sk _ (by omega)).trans g6).trans i6.symm, ko2.size⟩
      rw [← hW2]
      exact own_set (HK9.out.1 _ _ _ _ _ _ (by decide) (by decide) (own_below h HB8d.out)) hcs (by decide) _
    have bw2 : Below w.heap.size w W2 := by rw [← hW2]; exact ((i8.trans (HB8d.out.mono hsW)).trans (HB9.out.mono (by omega))).setCell (by simp) _
    show ownPostG w5.heap.size (KpU w4.heap.size) _ _ (pre ++ [x]) W Exit.normal _ (w9.setCell ⟨w.heap.size + 3, v, none⟩ (.int .i64 y.2))
    rw [hW2]
    refine ⟨ko2.from _, ku, ?_⟩
    simp only [hEF]
    exact ⟨m2, r2', (sk _ (by omega)).trans g3, (sk _ (by omega)).trans g4, (sk _ (by omega)).trans g5, (sk _ (by omega)).trans g6, ⟨own_above g7.1 hk3, fun i hi => ⟨own_above (g7.2 i hi).1 hk3, own_above (g7.2 i hi).2 hk3⟩⟩, bw2⟩
  case done =>
    rintro D' ys W hD' rfl ⟨i1, i2, i3, i4, i5, i6, i7, i8⟩ hK
    rw [trF_dwn N p.s p.o R R (Nat.le_refl _)] at i1 i2
    have hle := trn_le (N := N) HU.out R (Nat.le_refl _)
    have hbl := trn_blen N p.s p.o R R
    obtain ⟨st, hst⟩ : ∃ st, trn N p.s p.o R R = st := ⟨_, rfl⟩
    have ETP := Lib.hid (show tnP N R p = ⟨(p.o.length : Int), st.1, st.2.take N⟩ by unfold tnP; rw [hst])
    rw [hst] at i1 i2 hle hbl
    obtain ⟨s9, b9⟩ := st
    simp only at i1 i2 hle hbl ETP
    have hTl : (b9.take N).length = N := by rw [List.length_take]; omega
    have hrd := Rd.of_own i2
    rw [← hbl] at hrd
    have hrt := hrd.take (n := N) (by omega)
    obtain ⟨T, hT⟩ : ∃ T, b9.take N = T := ⟨_, rfl⟩
    rw [hT] at hTl hrt ETP
    have hcl := fun d => cloneI_any W.heap.size (some ⟨w.heap.size + 1 + 1 + 1, 0, none⟩) d T W (by omega) (by omega) (Nat.le_refl _) (by rw [hTl]; exact hrt)
    rw [hTl] at hcl
    have HCL := Lib.hid hcl
    have k2 : W.cell? ⟨w.heap.size + 1 + 1 + 1 + 1, 0, none⟩ = some (.slice (some ⟨w.heap.size + 1 + 1 + 1, 0, none⟩) R R) := by rw [cell_of_row W (w.heap.size + 1 + 1 + 1 + 1) 0 _ _ (0, 0) i5]; rfl
    have k3 : W.cell? ⟨w.heap.size, 0, none⟩ = some (.int .i64 N) := by rw [cell_of_row W w.heap.size 0 _ _ (0, 0) i3]; rfl
    have iNR : (N : Int) ≤ (R : Int) := by omega
    have hsW := i8.size
    have hltB : w4.heap.size < W.heap.size := (Array.getElem?_eq_some_iff.1 i6).1
    have hDW : D' < W.heap.size := (Array.getElem?_eq_some_iff.1 hK).1
    have I1 := Lib.hid i1
    have I4 := Lib.hid i4
    have I8 := Lib.hid i8
    have HKK := Lib.hid hK
    have HTL := Lib.hid hTl
    have hs9 : s9.length ≤ 100 := by omega
    clear i1 i2 i3 i4 i5 i6 i7 i8 hrd hrt hcl hT hTl hst hle hbl hK
    gi_wp2_with fail
    refine ⟨trivial, ?_⟩
    gi_at_call 74
    refine (callsIn_wide.2 (HCL.out _)).mono ?_
    rintro e w6 ⟨A5, c5, rfl, hown6, hb6⟩
    have hs6 := hb6.size
    have hM := makerPlan_any (w.heap.size + 2) (w.heap.size + 2) A5 c5 ⟨(p.o.length : Int), s9, T⟩ w6 (Nat.le_refl _) (I1.out.below hb6) (by
      have h : OwI w6 W.heap.size (.slice A5 T.length c5) T := by rw [HTL.out]; exact hown6
      exact h.base (by omega)) (by simp only; omega) (by simp only [HTL.out]; omega)
    simp only [HTL.out] at hM
    have HM := Lib.hid hM
    have Q6 := Lib.hid ((hb6.block (w.heap.size + 1) (by omega)).trans I4.out)
    have HK6 := Lib.hid ((hb6.block D' hDW).trans HKK.out)
    have B6 := Lib.hid (I8.out.trans (hb6.mono hsW))
    clear hown6 hb6 hM k2 k3
    gi_wp2_with fail
    refine ⟨trivial, ?_⟩
    gi_at_call 65
    refine (callsIn_wide.2 HM.out).mono ?_
    rintro e w7 ⟨R1, R2, v1, v2, rfl, hOP, hb7⟩
    have Q7 := Lib.hid ((hb7.block (w.heap.size + 1) (by omega)).trans Q6.out)
    have HK7 := Lib.hid ((hb7.block D' (by omega)).trans HK6.out)
    have B7 := Lib.hid (B6.out.trans (hb7.mono (by omega)))
    have OP7 := Lib.hid hOP
    obtain ⟨t0, t1, t2, g0, g1, g2⟩ := cells3 Q7.out
    clear hOP hb7
    gi_wp2
    obtain ⟨M, hM⟩ : ∃ M, mkR ⟨(p.o.length : Int), s9, T⟩ = M := ⟨_, rfl⟩
    have OP := Lib.hid (show OwP w7 (w.heap.size + 2) R1 R2 v1 v2 M by rw [← hM]; exact OP7.out)
    have HMM := Lib.hid hM
    rw [hM]
    obtain ⟨W8, hW8⟩ : ∃ W8, ((w7.setCell ⟨w.heap.size + 1, 0, none⟩ (.int .i64 M.n)).setCell ⟨w.heap.size + 1, 1, none⟩ (.slice R1 M.s.length v1)).setCell ⟨w.heap.size + 1, 2, none⟩ (.slice R2 M.o.length v2) = W8 := ⟨_, rfl⟩
    rw [hW8]
    have hsk : ∀ k, k ≠ w.heap.size + 1 → W8.heap[k]? = w7.heap[k]? := fun k hk => by
      rw [← hW8, Below.heap_setCell _ ⟨w.heap.size + 1, 2, none⟩ _ k hk, Below.heap_setCell _ ⟨w.heap.size + 1, 1, none⟩ _ k hk, Below.heap_setCell _ ⟨w.heap.size + 1, 0, none⟩ _ k hk]
    have HK8 := (hsk D' (by omega)).trans HK7.out
    have Q8 : W8.heap[w.heap.size + 1]? = some (.cells #[.int .i64 M.n, .slice R1 M.s.length v1, .slice R2 M.o.length v2] 25 (0, 0)) := by
      rw [← hW8]
      have h1 := heap_setCell_same w7 (w.heap.size + 1) 0 _ _ (.int .i64 M.n) Q7.out
      have h2 := heap_setCell_same _ (w.heap.size + 1) 1 _ _ (.slice R1 M.s.length v1) h1
      exact heap_setCell_same _ (w.heap.size + 1) 2 _ _ (.slice R2 M.o.length v2) h2
    have OP8 : OwP W8 (w.heap.size + 2) R1 R2 v1 v2 M := ⟨own_above OP.out.1 fun k hk => hsk k (by omega), own_above OP.out.2 fun k hk => hsk k (by omega)⟩
    have B8 : Below w.heap.size w W8 := by rw [← hW8]; exact ((B7.out.setCell (by simp) _).setCell (by simp) _).setCell (by simp) _
    refine ⟨by simp, .inl ⟨_, _, rfl, run_takeDeferred HK8, ?_⟩⟩
    obtain ⟨W9, hW9⟩ : ∃ W9, W8.putObj D' (.deferred none) = W9 := ⟨_, rfl⟩
    rw [hW9]
    have Q9 : W9.heap[w.heap.size + 1]? = some (.cells #[.int .i64 M.n, .slice R1 M.s.length v1, .slice R2 M.o.length v2] 25 (0, 0)) := by
      rw [← hW9, World.putObj_heap_other (by omega)]
      exact Q8
    obtain ⟨t0, t1, t2, _, _, _⟩ := cells3 Q9
    refine ⟨.tuple #[.agg #[.int .i64 M.n, .slice R1 M.s.length v1, .slice R2 M.o.length v2], .bool (good ⟨(p.o.length : Int), s9, T⟩)], by simp [results, Try.results68, go_sem, t0, t1, t2], R1, R2, v1, v2, by rw [ETP.out, HMM.out], ?_, ?_⟩
    · rw [ETP.out, HMM.out, ← hW9]
      exact ⟨ownsRow_putObj (own_base OP8.1 (by omega)) _ HK8 rfl, ownsRow_putObj (own_base OP8.2 (by omega)) _ HK8 rfl⟩
    · rw [← hW9]
      exact B8.trans (belowK_b (w := w) (Nat.le_refl _) W8 D' _ _ (by omega) HK8 rfl rfl)
  case stop =>
    rintro D' c' pre W _ _ h _
    exact h.elim
end Go.Proofs.Ytlkieebmfmiafab
/- FoldOutputs, of the model and of the program. -/
namespace Go.Proofs.Ytlkieebmfmiafab
open Go.RowKit

/-- A local plan of the model at block g, whatever its outputs. -/
def PkT (w : World) (B g : Nat) (n : Int) (s : List (Int × Int)) : Prop :=
  ∃ A c A2 n2 c2, w.heap[g]? = some (.cells #[.int .i64 n, .slice A s.length c, .slice A2 n2 c2] 25 (0, 0)) ∧ OwS w B (.slice A s.length c) s
theorem PkS.t {w : World} {B g : Nat} {n : Int} {s : List (Int × Int)} (h : PkS w B g n s) : PkT w B g n s := by
  obtain ⟨A, c, h1, h2⟩ := h
  exact ⟨A, c, none, 0, 0, h1, h2⟩
theorem PkT.below {w w' : World} {B g : Nat} {n : Int} {s : List (Int × Int)} (h : PkT w B g n s) (hb : Below w.heap.size w w') : PkT w' B g n s := by
  obtain ⟨A, c, A2, n2, c2, h1, h2⟩ := h
  exact ⟨A, c, A2, n2, c2, (hb.block g (Array.getElem?_eq_some_iff.1 h1).1).trans h1, own_below h2 hb⟩
theorem fo_boxes {w w1 : World} {a b c : Value} (h : (w.alloc (.cells #[a, b, c] 25)).alloc (.cells #[.int .i64 0, .slice none 0 0, .slice none 0 0] 25) = w1) :
    w1.heap[w.heap.size]? = some (.cells #[a, b, c] 25 (0, 0)) ∧ w1.heap[w.heap.size + 1]? = some (.cells #[.int .i64 0, .slice none 0 0, .slice none 0 0] 25 (0, 0)) ∧ w1.heap.size = w.heap.size + 2 ∧ Below w.heap.size w w1 := by
  generalize ha : w.alloc (.cells #[a, b, c] 25) = wa at h
  obtain ⟨_, _, _, xs, xb⟩ := box3 ha
  obtain ⟨_, _, _, ys, yb⟩ := box3 h
  have h1 := heap_alloc_new w (.cells #[a, b, c] 25)
  have h2 := heap_alloc_new wa (.cells #[.int .i64 0, .slice none 0 0, .slice none 0 0] 25)
  rw [ha] at h1
  rw [h, xs] at h2
  exact ⟨(yb.block w.heap.size (by omega)).trans h1, h2, by omega, xb.trans (yb.mono (by omega))⟩

end Go.Proofs.Ytlkieebmfmiafab
/- FoldOutputs, by the program. -/
namespace Go.Proofs.Ytlkieebmfmiafab
open Go.RowKit

theorem mk_set0 {w : World} {g : Nat} {a b : Value} {t : TypeId} (h : w.heap[g]? = some (.cells #[a, b] t (0, 0))) (u : Value) : (w.setCell ⟨g, 0, none⟩ u).heap[g]? = some (.cells #[u, b] t (0, 0)) := by
  rw [heap_setCell_same w g 0 _ t u h]
  rfl
theorem mk_set1 {w : World} {g : Nat} {a b : Value} {t : TypeId} (h : w.heap[g]? = some (.cells #[a, b] t (0, 0))) (u : Value) : (w.setCell ⟨g, 1, none⟩ u).heap[g]? = some (.cells #[a, u] t (0, 0)) := by
  rw [heap_setCell_same w g 1 _ t u h]
  rfl
/-- The maker's block, stored. -/
theorem mk_stored {w : World} {B g : Nat} {n : Int} {s : List (Int × Int)} {A : Option Addr} {c : Nat} {a b : Value} (hg : w.heap[g]? = some (.cells #[a, b] 62 (0, 0))) (ho : OwS w B (.slice A s.length c) s) :
    MkS ((w.setCell ⟨g, 0, none⟩ (.int .i64 n)).setCell ⟨g, 1, none⟩ (.slice A s.length c)) B g n s := by
  have h0 := mk_set0 hg (.int .i64 n)
  have h1 := mk_set1 h0 (.slice A s.length c)
  exact ⟨A, c, h1, own_set (own_set ho hg (by decide) _) h0 (by decide) _⟩

end Go.Proofs.Ytlkieebmfmiafab
/- TurnPlan, of the model and of the program. -/
namespace Go.Proofs.Ytlkieebmfmiafab
open Go.RowKit

def tuB (p : Pl) : Bool := canR p && good (turnP p p.n.toNat)
def tuR (p : Pl) : Pl := if tuB p then turnP p p.n.toNat else zeroP
theorem tu_not {p : Pl} (h : canR p = false) : tuB p = false ∧ tuR p = zeroP := by
  have h1 : tuB p = false := by unfold tuB; rw [h]; rfl
  exact ⟨h1, by unfold tuR; rw [h1]; rfl⟩
theorem tu_yes {p : Pl} {N : Nat} (h : canR p = true) (hN : p.n = N) : tuB p = good (turnP p N) ∧ tuR p = mkR (turnP p N) := by
  have hn : p.n.toNat = N := by omega
  have h1 : tuB p = good (turnP p N) := by unfold tuB; rw [h, hn]; rfl
  exact ⟨h1, by unfold tuR mkR; rw [h1, hn]⟩
theorem tuR_len (p : Pl) : (tuR p).s.length ≤ 1000 ∧ (tuR p).o.length ≤ 1000 := by
  unfold tuR
  split
  · rename_i h
    unfold tuB at h
    simp only [Bool.and_eq_true] at h
    obtain ⟨_, _, _, _, h1, h2, _⟩ := good_facts h.2
    omega
  · simp [zeroP]

set_option maxRecDepth 100000 in
set_option maxHeartbeats 2000000 in
theorem specTurn_any (B : Nat) (A1 A2 : Option Addr) (c1 c2 : Nat) (p : Pl) (w : World) (hB : B ≤ w.heap.size) (hls : p.s.length ≤ 2000000) (hlo : p.o.length ≤ 2000000) (hr : RdP w B A1 A2 p) :
    Calls Try.prog 29 #[.agg #[.int .i64 p.n, .slice A1 p.s.length c1, .slice A2 p.o.length c2]] w fun e w' =>
      ∃ R1 R2 v1 v2, e = .returned (.tuple #[.agg #[.int .i64 (tuR p).n, .slice R1 (tuR p).s.length v1, .slice R2 (tuR p).o.length v2], .bool (tuB p)]) ∧ OwP w' w.heap.size R1 R2 v1 v2 (tuR p) ∧ Below w.heap.size w w' := by
  have H := Lib.hid hr
  clear hr
  obtain ⟨gd, hgd⟩ : ∃ x, good p = x := ⟨_, rfl⟩
  have HG := Lib.hid hgd
  go_enter Try.func29, Try.ntmps29
  go_wp2_with fail
  go_at_call 55
  generalize hw1 : World.alloc (World.alloc w _) _ = w1
  obtain ⟨q0, q1, xs, xb⟩ := fo_boxes hw1
  clear hw1
  have hC := plGood_any w.heap.size A1 A2 c1 c2 p w1 (by omega) hls hlo ((H.out.below' xb hB).more hB)
  rw [hgd] at hC
  refine hC.mono ?_
  rintro e w2 ⟨rfl, hb2⟩
  clear hC hgd
  have r0 := (hb2.block w.heap.size (by omega)).trans q0
  have r1 := (hb2.block (w.heap.size + 1) (by omega)).trans q1
  obtain ⟨y0, y1, y2, _, _, _⟩ := cells3 r0
  obtain ⟨t0, t1, t2, g0, g1, g2⟩ := cells3 r1
  have R0 := Lib.hid r0
  have R1 := Lib.hid r1
  have HB2 := Lib.hid (xb.trans (hb2.mono (show w.heap.size ≤ w1.heap.size by omega)))
  have hs2 : w.heap.size + 2 ≤ w2.heap.size := by have := hb2.size; omega
  clear q0 q1 xs xb hb2 r0 r1
  cases gd with
  | false =>
    obtain ⟨e1, e2⟩ := tu_not (p := p) (by unfold canR; rw [HG.out]; rfl)
    have EB := Lib.hid e1
    have ER := Lib.hid e2
    clear e1 e2
    go_wp2
    refine bodyPost_ret (v := .tuple #[.agg #[.int .i64 0, .slice none 0 0, .slice none 0 0], .bool false]) (by simp [results, Try.results29, go_sem, t0, t1, t2]) rfl ⟨none, none, 0, 0, by rw [ER.out, EB.out]; rfl, by rw [ER.out]; exact OwP.zero _ _, ?_⟩
    exact ((HB2.out.setCell (show w.heap.size ≤ w.heap.size + 1 by omega) _).setCell (show w.heap.size ≤ w.heap.size + 1 by omega) _).setCell (show w.heap.size ≤ w.heap.size + 1 by omega) _
  | true =>
    obtain ⟨N, hN, n1, n6, hs40, ho6, hok, hout, _⟩ := good_facts HG.out
    have hcr : canR p = canB p := by unfold canR; rw [HG.out]; rfl
    have HC := Lib.hid (duCan_any w.heap.size N A1 A2 c1 c2 p w2 hN n6 hs40 ho6 (by omega) hok hout ((H.out.below' HB2.out hB).more hB))
    have HU := Lib.hid (fun h => usd_of hN h n1 hok)
    have HNN := Lib.hid hN
    have DT := Lib.hid (fun W hu hW hr => duTurn_any w.heap.size N (N + p.s.length) A1 A2 c1 c2 p W hN n1 n6 hs40 ho6 rfl hW hu hr)
    have hTP : (turnP p N).s.length ≤ 2000000 ∨ canB p = false := by
      cases hc : canB p with
      | false => exact .inr rfl
      | true =>
        left
        have := trn_le (N := N) (usd_of hN hc n1 hok) (N + p.s.length) (Nat.le_refl _)
        unfold turnP
        simp only
        omega
    have hTO : (turnP p N).o.length ≤ 2000000 := by
      unfold turnP
      simp only [List.length_take]
      omega
    obtain ⟨P, hP⟩ : ∃ P, turnP p N = P := ⟨_, rfl⟩
    rw [hP] at DT hTP hTO
    have HPP := Lib.hid hP
    obtain ⟨cb, hcb⟩ : ∃ x, canB p = x := ⟨_, rfl⟩
    rw [hcb] at HC hcr hTP
    have HCB := Lib.hid hcb
    have HCR := Lib.hid hcr
    clear hN hok hout hP hcb hcr n1 n6
    go_wp2_with fail
    go_at_call 56
    refine HC.out.mono ?_
    rintro e w3 ⟨rfl, hb3⟩
    have r0 := (hb3.block w.heap.size (by omega)).trans R0.out
    have r1 := (hb3.block (w.heap.size + 1) (by omega)).trans R1.out
    have HB3 := Lib.hid (HB2.out.trans (hb3.mono (show w.heap.size ≤ w2.heap.size by omega)))
    have hs3 : w.heap.size + 2 ≤ w3.heap.size := by have := hb3.size; omega
    clear y0 y1 y2 t0 t1 t2 g0 g1 g2 hb3
    obtain ⟨y0, y1, y2, _, _, _⟩ := cells3 r0
    obtain ⟨t0, t1, t2, g0, g1, g2⟩ := cells3 r1
    have R1' := Lib.hid r1
    clear r0 r1
    cases cb with
    | false =>
      obtain ⟨e1, e2⟩ := tu_not HCR.out
      have EB := Lib.hid e1
      have ER := Lib.hid e2
      clear e1 e2
      go_wp2
      refine bodyPost_ret (v := .tuple #[.agg #[.int .i64 0, .slice none 0 0, .slice none 0 0], .bool false]) (by simp [results, Try.results29, go_sem, t0, t1, t2]) rfl ⟨none, none, 0, 0, by rw [ER.out, EB.out]; rfl, by rw [ER.out]; exact OwP.zero _ _, ?_⟩
      exact ((HB3.out.setCell (show w.heap.size ≤ w.heap.size + 1 by omega) _).setCell (show w.heap.size ≤ w.heap.size + 1 by omega) _).setCell (show w.heap.size ≤ w.heap.size + 1 by omega) _
    | true =>
      obtain ⟨e1, e2⟩ := tu_yes (p := p) HCR.out HNN.out
      rw [HPP.out] at e1 e2
      have EB := Lib.hid e1
      have ER := Lib.hid e2
      have hTS : P.s.length ≤ 2000000 := by rcases hTP with h | h; exact h; cases h
      clear e1 e2 hTP t0 t1 t2 g0 g1 g2
      go_wp2_with fail
      go_at_call 57
      refine (DT.out w3 (HU.out HCB.out) (by omega) ((H.out.below' HB3.out hB).more hB)).mono ?_
      rintro e w4 ⟨E1, E2, d1, d2, rfl, hOW, hb4⟩
      have HB4 := Lib.hid (HB3.out.trans (hb4.mono (show w.heap.size ≤ w3.heap.size by omega)))
      have OW4 := Lib.hid hOW
      have R4 := Lib.hid ((hb4.block (w.heap.size + 1) (by omega)).trans R1'.out)
      have hs4 := hb4.size
      clear hb4 hOW y0 y1 y2
      go_wp2_with fail
      go_at_call 54
      refine (plIf_any w4.heap.size E1 E2 d1 d2 P w4 (Nat.le_refl _) hTS hTO OW4.out.rd).mono ?_
      rintro e w6 ⟨rfl, hb6⟩
      have B6 := Lib.hid (HB4.out.trans (hb6.mono (by omega)))
      have Q6 := Lib.hid ((hb6.block (w.heap.size + 1) (by omega)).trans R4.out)
      have O6 := Lib.hid (OW4.out.below hb6)
      obtain ⟨X1, X2, v1, v2, hsel, hres, hbf⟩ := selV_mk (w0 := w) (B := w.heap.size) (g := w.heap.size + 1) rfl O6.out (by omega) ⟨_, Q6.out⟩ B6.out (by omega)
      rw [hsel]
      rw [← ER.out] at hres hbf
      rw [← ER.out, ← EB.out]
      obtain ⟨t0, t1, t2, g0, g1, g2⟩ := cells3 Q6.out
      have RES := Lib.hid hres
      have BRES := Lib.hid hbf
      clear hb6 hsel hres hbf
      go_wp2
      refine bodyPost_ret (v := .tuple #[.agg #[.int .i64 (tuR p).n, .slice X1 (tuR p).s.length v1, .slice X2 (tuR p).o.length v2], .bool (tuB p)]) (by simp [results, Try.results29, go_sem, t0, t1, t2]) rfl ⟨X1, X2, v1, v2, rfl, RES.out, BRES.out⟩

set_option maxRecDepth 100000 in
set_option maxHeartbeats 2000000 in
theorem implTurn_any (B : Nat) (A1 A2 : Option Addr) (c1 c2 : Nat) (p : Pl) (w : World) (hB : B ≤ w.heap.size) (hls : p.s.length ≤ 2000000) (hlo : p.o.length ≤ 2000000) (hr : RdP w B A1 A2 p) :
    Calls Try.prog 31 #[.agg #[.int .i64 p.n, .slice A1 p.s.length c1, .slice A2 p.o.length c2]] w fun e w' =>
      ∃ R1 R2 v1 v2, e = .returned (.tuple #[.agg #[.int .i64 (tuR p).n, .slice R1 (tuR p).s.length v1, .slice R2 (tuR p).o.length v2], .bool (tuB p)]) ∧ OwP w' w.heap.size R1 R2 v1 v2 (tuR p) ∧ Below w.heap.size w w' := by
  have H := Lib.hid hr
  clear hr
  go_enter Try.func31, Try.ntmps31
  go_wp2_with fail
  go_at_call 66
  generalize hw1 : World.alloc (World.alloc w _) _ = w1
  obtain ⟨q0, q1, xs, xb⟩ := fo_boxes hw1
  clear hw1
  refine (withValues_any B A1 A2 c1 c2 p w1 (by omega) hls hlo (H.out.below' xb hB)).mono ?_
  rintro e w2 ⟨hb2, hpost⟩
  have R1 := Lib.hid ((hb2.block (w.heap.size + 1) (by omega)).trans q1)
  have HB2 := Lib.hid (xb.trans (hb2.mono (show w.heap.size ≤ w1.heap.size by omega)))
  have hs2 : w.heap.size + 2 ≤ w2.heap.size := by have := hb2.size; omega
  clear q0 q1 hb2 xs xb
  rw [valsI_eq] at hpost
  by_cases hg : good p = true
  · rw [if_pos hg] at hpost
    simp only at hpost
    obtain ⟨A, c, rfl, _⟩ := hpost
    obtain ⟨N, hN, n1, n6, hs40, ho6, hok, _, _⟩ := good_facts hg
    have hn' : p.n.toNat = N := by omega
    have hcan := can_eq hN n1 hok
    have hel := exps_length N p.s
    have hcr : canR p = canB p := by unfold canR; rw [hg]; rfl
    have HU := Lib.hid (fun h => usd_of hN h n1 hok)
    have HN := Lib.hid hN
    obtain ⟨R, hR⟩ : ∃ R, N + p.s.length = R := ⟨_, rfl⟩
    have TD := Lib.hid (fun W hu hW hr => turned_any B N R A1 A2 A c1 c2 c p W n1 n6 hs40 ho6 hR.symm hW hu hr)
    have HTP := Lib.hid (show tnP N R p = turnP p N by unfold tnP turnP; rw [hR])
    rw [hn', List.length_map, hel, hR, hN]
    rw [hR] at hcan HU
    have hR46 : R ≤ 46 := by omega
    have CT := fun W hW hr => canTurn_any B N R A1 A2 A c1 c2 c p W hs40 ho6 hR46 hW hr
    rw [← hcan] at CT
    obtain ⟨cb, hcb⟩ : ∃ x, canB p = x := ⟨_, rfl⟩
    rw [hcb] at hcr CT
    have CT := Lib.hid CT
    have HCB := Lib.hid hcb
    have HCR := Lib.hid hcr
    clear hn' hN hg hel hR hcan hok hcb hcr n1 n6
    go_wp2_with fail
    go_at_call 67
    generalize hw3 : World.alloc w2 _ = w3
    obtain ⟨⟨x0, x1, x2, x3⟩, xs, xb⟩ := box4v hw3
    clear hw3
    have HB3 := Lib.hid (HB2.out.trans (xb.mono (by omega)))
    have R3 := Lib.hid ((xb.block (w.heap.size + 1) (by omega)).trans R1.out)
    refine (CT.out w3 (by omega) (H.out.below' HB3.out hB)).mono ?_
    rintro e w4 ⟨rfl, hb4⟩
    have y0 := (hb4.cell (p := ⟨w2.heap.size, 0, none⟩) (by simp only []; omega)).trans x0
    have y1 := (hb4.cell (p := ⟨w2.heap.size, 1, none⟩) (by simp only []; omega)).trans x1
    have y2 := (hb4.cell (p := ⟨w2.heap.size, 2, none⟩) (by simp only []; omega)).trans x2
    have y3 := (hb4.cell (p := ⟨w2.heap.size, 3, none⟩) (by simp only []; omega)).trans x3
    have R4 := Lib.hid ((hb4.block (w.heap.size + 1) (by omega)).trans R3.out)
    have HB4 := Lib.hid (HB3.out.trans (hb4.mono (show w.heap.size ≤ w3.heap.size by omega)))
    have hs4 : w.heap.size + 2 ≤ w4.heap.size := by have := hb4.size; omega
    clear hb4 xb x0 x1 x2 x3 xs
    obtain ⟨t0, t1, t2, g0, g1, g2⟩ := cells3 R4.out
    cases cb with
    | false =>
      obtain ⟨e1, e2⟩ := tu_not HCR.out
      have EB := Lib.hid e1
      have ER := Lib.hid e2
      clear e1 e2
      go_wp2
      refine bodyPost_ret (v := .tuple #[.agg #[.int .i64 0, .slice none 0 0, .slice none 0 0], .bool false]) (by simp [results, Try.results31, go_sem, t0, t1, t2]) rfl ⟨none, none, 0, 0, by rw [ER.out, EB.out]; rfl, by rw [ER.out]; exact OwP.zero _ _, ?_⟩
      exact ((HB4.out.setCell (show w.heap.size ≤ w.heap.size + 1 by omega) _).setCell (show w.heap.size ≤ w.heap.size + 1 by omega) _).setCell (show w.heap.size ≤ w.heap.size + 1 by omega) _
    | true =>
      obtain ⟨e1, e2⟩ := tu_yes (p := p) HCR.out HN.out
      have EB := Lib.hid e1
      have ER := Lib.hid e2
      have hT := TD.out w4 (HU.out HCB.out) (by omega) (H.out.below' HB4.out hB)
      rw [HTP.out, ← e1, ← e2] at hT
      have HT := Lib.hid hT
      clear e1 e2 hT t0 t1 t2 g0 g1 g2
      go_wp2_with fail
      go_at_call 68
      refine HT.out.mono ?_
      rintro e w7 ⟨E1, E2, d1, d2, rfl, hOW, hb7⟩
      have Q7 := Lib.hid ((hb7.block (w.heap.size + 1) (by omega)).trans R4.out)
      have B7 := Lib.hid (HB4.out.trans (hb7.mono (by omega)))
      have OW7 := Lib.hid hOW
      obtain ⟨t0, t1, t2, g0, g1, g2⟩ := cells3 Q7.out
      clear hOW hb7 y0 y1 y2 y3
      go_wp2
      refine bodyPost_ret (v := .tuple #[.agg #[.int .i64 (tuR p).n, .slice E1 (tuR p).s.length d1, .slice E2 (tuR p).o.length d2], .bool (tuB p)]) (by simp [results, Try.results31, go_sem, t0, t1, t2]) rfl ⟨E1, E2, d1, d2, rfl, ?_, ?_⟩
      · exact ⟨own_base (own_set3 OW7.out.1 Q7.out (by decide) _ _ _) (by omega), own_base (own_set3 OW7.out.2 Q7.out (by decide) _ _ _) (by omega)⟩
      · exact ((B7.out.setCell (show w.heap.size ≤ w.heap.size + 1 by omega) _).setCell (show w.heap.size ≤ w.heap.size + 1 by omega) _).setCell (show w.heap.size ≤ w.heap.size + 1 by omega) _
  · rw [if_neg hg] at hpost
    simp only at hpost
    subst hpost
    have hg' : good p = false := by simpa using hg
    obtain ⟨e1, e2⟩ := tu_not (p := p) (by unfold canR; rw [hg']; rfl)
    have EB := Lib.hid e1
    have ER := Lib.hid e2
    have R3 : (w2.alloc (.cells #[.int .i64 0, .slice none 0 0, .slice none 0 0, .slice none 0 0] 71)).heap[w.heap.size + 1]? = some (.cells #[.int .i64 0, .slice none 0 0, .slice none 0 0] 25 (0, 0)) := (Below.heap_alloc _ _ _ (by omega)).trans R1.out
    have HB3 := Lib.hid (HB2.out.alloc HB2.out.size (.cells #[.int .i64 0, .slice none 0 0, .slice none 0 0, .slice none 0 0] 71))
    obtain ⟨t0, t1, t2, g0, g1, g2⟩ := cells3 R3
    clear hg hg' e1 e2 R3
    go_wp2
    refine bodyPost_ret (v := .tuple #[.agg #[.int .i64 0, .slice none 0 0, .slice none 0 0], .bool false]) (by simp [results, Try.results31, go_sem, t0, t1, t2]) rfl ⟨none, none, 0, 0, by rw [ER.out, EB.out]; rfl, by rw [ER.out]; exact OwP.zero _ _, ?_⟩
    exact ((HB3.out.setCell (show w.heap.size ≤ w.heap.size + 1 by omega) _).setCell (show w.heap.size ≤ w.heap.size + 1 by omega) _).setCell (show w.heap.size ≤ w.heap.size + 1 by omega) _
end Go.Proofs.Ytlkieebmfmiafab
/- VectorPlan, of the model and of the program. -/
namespace Go.Proofs.Ytlkieebmfmiafab
open Go.RowKit

def vpR (l : List Int) : Pl := tuR (sqR l)
def vpG (l : List Int) : Bool := tuB (sqR l)
theorem vp_len (l : List Int) : (vpR l).s.length ≤ 1000 ∧ (vpR l).o.length ≤ 1000 := tuR_len _
theorem tu_zero : tuB zeroP = false ∧ tuR zeroP = zeroP := tu_not (by unfold canR; rw [show good zeroP = false by decide +kernel]; rfl)
theorem sqR_bad {l : List Int} (h : sqG l = false) : sqR l = zeroP := by
  unfold sqG at h
  unfold sqR
  split
  · rename_i h1
    rw [h1, Bool.true_and] at h
    exact mkR_false h
  · rfl
theorem vp_bad {l : List Int} (h : sqG l = false) : vpG l = false ∧ vpR l = zeroP := by
  unfold vpG vpR
  rw [sqR_bad h]
  exact tu_zero
theorem zbox {w w1 : World} (h : w.alloc (.cells #[.int .i64 0, .slice none 0 0, .slice none 0 0] 25) = w1) :
    w1.heap[w.heap.size]? = some (.cells #[.int .i64 0, .slice none 0 0, .slice none 0 0] 25 (0, 0)) ∧ w1.heap.size = w.heap.size + 1 ∧ Below w.heap.size w w1 := by
  obtain ⟨_, _, _, xs, xb⟩ := box3 h
  exact ⟨by rw [← h]; exact heap_alloc_new w _, xs, xb⟩

set_option maxRecDepth 100000 in
set_option maxHeartbeats 2000000 in
theorem implVector_any (B : Nat) (A : Option Addr) (c : Nat) (l : List Int) (w : World) (hB : B ≤ w.heap.size) (hl : l.length ≤ 1048576) (hcap : l.length ≤ c) (hr : Rd w B 1 A l.length (l.map I)) :
    Calls Try.prog 11 #[.slice A l.length c] w fun e w' =>
      ∃ R1 R2 v1 v2, e = .returned (.tuple #[.agg #[.int .i64 (vpR l).n, .slice R1 (vpR l).s.length v1, .slice R2 (vpR l).o.length v2], .bool (vpG l)]) ∧ OwP w' w.heap.size R1 R2 v1 v2 (vpR l) ∧ Below w.heap.size w w' := by
  have H := Lib.hid hr
  obtain ⟨hl1, hl2⟩ := sq_len l
  have SQ := Lib.hid (fun W hW hr => implSquares_any B A c l W hW hl hcap hr)
  obtain ⟨P, hP⟩ : ∃ P, sqR l = P := ⟨_, rfl⟩
  have EV := Lib.hid (show vpR l = tuR P ∧ vpG l = tuB P by unfold vpR vpG; rw [hP]; exact ⟨rfl, rfl⟩)
  rw [hP] at SQ hl1 hl2
  clear hr hP hl hcap
  go_enter Try.func11, Try.ntmps11
  go_wp2_with fail
  go_at_call 30
  generalize hw1 : World.alloc w _ = w1
  obtain ⟨q0, xs, xb⟩ := zbox hw1
  clear hw1
  refine (SQ.out w1 (by omega) (H.out.below' xb hB)).mono ?_
  rintro e w2 ⟨R1, R2, v1, v2, rfl, hOP, hb2⟩
  have q2 := (hb2.block w.heap.size (by omega)).trans q0
  have HB2 := Lib.hid (xb.trans (hb2.mono (show w.heap.size ≤ w1.heap.size by omega)))
  have hs2 : w.heap.size + 1 ≤ w2.heap.size := by have := hb2.size; omega
  have OP2 := Lib.hid hOP
  clear hOP hb2 q0 xs xb
  go_wp2_with fail
  go_at_call 31
  generalize hw3 : World.alloc w2 _ = w3
  obtain ⟨_, _, _, xs, xb⟩ := box3 hw3
  clear hw3
  have Q3 := Lib.hid ((xb.block w.heap.size (by omega)).trans q2)
  have HB3 := Lib.hid (HB2.out.trans (xb.mono (by omega)))
  refine (implTurn_any w3.heap.size R1 R2 v1 v2 P w3 (Nat.le_refl _) (by omega) (by omega) (OP2.out.below xb).rd).mono ?_
  rintro e w4 ⟨E1, E2, d1, d2, rfl, hOW, hb4⟩
  have Q4 := Lib.hid ((hb4.block w.heap.size (by omega)).trans Q3.out)
  have HB4 := Lib.hid (HB3.out.trans (hb4.mono (by omega)))
  have OW4 := Lib.hid hOW
  obtain ⟨t0, t1, t2, g0, g1, g2⟩ := cells3 Q4.out
  rw [← EV.out.1, ← EV.out.2]
  have OV := Lib.hid (show OwP w4 w3.heap.size E1 E2 d1 d2 (vpR l) by rw [EV.out.1]; exact OW4.out)
  clear hOW hb4 q2 xb
  go_wp2
  refine bodyPost_ret (v := .tuple #[.agg #[.int .i64 (vpR l).n, .slice E1 (vpR l).s.length d1, .slice E2 (vpR l).o.length d2], .bool (vpG l)]) (by simp [results, Try.results11, go_sem, t0, t1, t2]) rfl ⟨E1, E2, d1, d2, rfl, ?_, ?_⟩
  · exact ⟨own_base (own_set3 OV.out.1 Q4.out (by decide) _ _ _) (by omega), own_base (own_set3 OV.out.2 Q4.out (by decide) _ _ _) (by omega)⟩
  · exact ((HB4.out.setCell (by simp) _).setCell (by simp) _).setCell (by simp) _

set_option maxRecDepth 100000 in
set_option maxHeartbeats 2000000 in
theorem specVector_any (B : Nat) (A : Option Addr) (c : Nat) (l : List Int) (w : World) (hB : B ≤ w.heap.size) (hl : l.length ≤ 1048576) (hcap : l.length ≤ c) (hr : Rd w B 1 A l.length (l.map I)) :
    Calls Try.prog 9 #[.slice A l.length c] w fun e w' =>
      ∃ R1 R2 v1 v2, e = .returned (.tuple #[.agg #[.int .i64 (vpR l).n, .slice R1 (vpR l).s.length v1, .slice R2 (vpR l).o.length v2], .bool (vpG l)]) ∧ OwP w' w.heap.size R1 R2 v1 v2 (vpR l) ∧ Below w.heap.size w w' := by
  have H := Lib.hid hr
  obtain ⟨hl1, hl2⟩ := sq_len l
  have SQ := Lib.hid (fun W hW hr => specSquares_any B A c l W hW hl hcap hr)
  obtain ⟨gd, hgd⟩ : ∃ x, sqG l = x := ⟨_, rfl⟩
  have VB := Lib.hid (fun h => vp_bad (l := l) h)
  obtain ⟨P, hP⟩ : ∃ P, sqR l = P := ⟨_, rfl⟩
  have EV := Lib.hid (show vpR l = tuR P ∧ vpG l = tuB P by unfold vpR vpG; rw [hP]; exact ⟨rfl, rfl⟩)
  rw [hP, hgd] at SQ
  rw [hP] at hl1 hl2
  have HG := Lib.hid hgd
  clear hr hP hl hcap hgd
  go_enter Try.func9, Try.ntmps9
  go_wp2_with fail
  go_at_call 28
  generalize hw1 : World.alloc w _ = w1
  obtain ⟨q0, xs, xb⟩ := zbox hw1
  clear hw1
  refine (SQ.out w1 (by omega) (H.out.below' xb hB)).mono ?_
  rintro e w2 ⟨R1, R2, v1, v2, rfl, hOP, hb2⟩
  have q2 := (hb2.block w.heap.size (by omega)).trans q0
  have HB2 := Lib.hid (xb.trans (hb2.mono (show w.heap.size ≤ w1.heap.size by omega)))
  have hs2 : w.heap.size + 1 ≤ w2.heap.size := by have := hb2.size; omega
  have OP2 := Lib.hid hOP
  clear hOP hb2 q0 xs xb
  cases gd with
  | false =>
    obtain ⟨e1, e2⟩ := VB.out HG.out
    have EB := Lib.hid e1
    have ER := Lib.hid e2
    have R3 : (w2.alloc (.cells #[.int .i64 P.n, .slice R1 P.s.length v1, .slice R2 P.o.length v2] 25)).heap[w.heap.size]? = some (.cells #[.int .i64 0, .slice none 0 0, .slice none 0 0] 25 (0, 0)) := (Below.heap_alloc _ _ _ (by omega)).trans q2
    have HB3 := Lib.hid (HB2.out.alloc HB2.out.size (.cells #[.int .i64 P.n, .slice R1 P.s.length v1, .slice R2 P.o.length v2] 25))
    obtain ⟨t0, t1, t2, g0, g1, g2⟩ := cells3 R3
    clear e1 e2 R3 q2
    go_wp2
    refine bodyPost_ret (v := .tuple #[.agg #[.int .i64 0, .slice none 0 0, .slice none 0 0], .bool false]) (by simp [results, Try.results9, go_sem, t0, t1, t2]) rfl ⟨none, none, 0, 0, by rw [ER.out, EB.out]; rfl, by rw [ER.out]; exact OwP.zero _ _, ?_⟩
    exact ((HB3.out.setCell (by simp) _).setCell (by simp) _).setCell (by simp) _
  | true =>
    go_wp2_with fail
    go_at_call 29
    generalize hw3 : World.alloc w2 _ = w3
    obtain ⟨_, _, _, xs, xb⟩ := box3 hw3
    clear hw3
    have Q3 := Lib.hid ((xb.block w.heap.size (by omega)).trans q2)
    have HB3 := Lib.hid (HB2.out.trans (xb.mono (by omega)))
    refine (specTurn_any w3.heap.size R1 R2 v1 v2 P w3 (Nat.le_refl _) (by omega) (by omega) (OP2.out.below xb).rd).mono ?_
    rintro e w4 ⟨E1, E2, d1, d2, rfl, hOW, hb4⟩
    have Q4 := Lib.hid ((hb4.block w.heap.size (by omega)).trans Q3.out)
    have HB4 := Lib.hid (HB3.out.trans (hb4.mono (by omega)))
    have OW4 := Lib.hid hOW
    obtain ⟨t0, t1, t2, g0, g1, g2⟩ := cells3 Q4.out
    rw [← EV.out.1, ← EV.out.2]
    have OV := Lib.hid (show OwP w4 w3.heap.size E1 E2 d1 d2 (vpR l) by rw [EV.out.1]; exact OW4.out)
    clear hOW hb4 q2 xb
    go_wp2
    refine bodyPost_ret (v := .tuple #[.agg #[.int .i64 (vpR l).n, .slice E1 (vpR l).s.length d1, .slice E2 (vpR l).o.length d2], .bool (vpG l)]) (by simp [results, Try.results9, go_sem, t0, t1, t2]) rfl ⟨E1, E2, d1, d2, rfl, ?_, ?_⟩
    · exact ⟨own_base (own_set3 OV.out.1 Q4.out (by decide) _ _ _) (by omega), own_base (own_set3 OV.out.2 Q4.out (by decide) _ _ _) (by omega)⟩
    · exact ((HB4.out.setCell (by simp) _).setCell (by simp) _).setCell (by simp) _
end Go.Proofs.Ytlkieebmfmiafab
