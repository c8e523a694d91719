/- Joined: Rqe. -/
import Derived.Test.YtbbjgcagkmlngabPP3
import Derived.Test.YtbbjgcagkmlngabPP0
/- PackRegisters, of the model and of the program. -/
namespace Go.Proofs.Ytbbjgcagkmlngab
open Go.RowKit

theorem op_rngP {R : Nat} {x : Int × Int × Int} (h : opIn R x = true) : (0 ≤ x.1 ∧ x.1 < (R : Int)) ∧ (0 ≤ x.2.1 ∧ x.2.1 < (R : Int)) ∧ (0 ≤ x.2.2 ∧ x.2.2 < (R : Int)) := by
  unfold opIn inB at h
  simp only [Bool.and_eq_true, decide_eq_true_eq] at h
  omega
theorem pk_false {c : Rc} (h : rcB c = false) : pkC c = zeroRc := by unfold pkC; rw [if_neg (by rw [h]; decide)]
theorem zeros_rowP {w : World} {B : Nat} (n : Nat) (hn : n ≤ 1000) (hB : B ≤ w.heap.size) :
    (w.alloc (.cells (madeCells #[Value.int .i64 0] n) 3)).ownsRow B 3 1 (.slice (some ⟨w.heap.size, 0, none⟩) n n) n ((List.replicate n (0 : Int)).map I) := by
  have h := World.ownsRow_lit (base := B) (e := 3) (size := 1) w (madeCells #[Value.int .i64 0] n) n hB (by unfold maxLen; omega) (by simp [size_madeCells])
  rw [toList_madeCells_one] at h
  rw [List.map_replicate]
  exact h
theorem ownI_setP {w : World} {B g a R c : Nat} {l : List Int} (h : w.ownsRow B 3 1 (.slice (some ⟨g, 0, none⟩) R c) R (l.map I)) (x : Int) :
    (w.setCell ⟨g, a, none⟩ (.int .i64 x)).ownsRow B 3 1 (.slice (some ⟨g, 0, none⟩) R c) R ((l.set a x).map I) := by
  have h1 := (h.stored a (.int .i64 x)).1
  rw [List.map_set]
  exact h1

set_option maxRecDepth 100000 in
set_option maxHeartbeats 16000000 in
theorem specPack_any (B : Nat) (A1 A2 A3 : Option Addr) (c1 c2 c3 : Nat) (c : Rc) (w : World) (hB : B ≤ w.heap.size) (hl1 : c.i.length ≤ 1048576) (hl2 : c.ops.length ≤ 1048576) (hl3 : c.o.length ≤ 1048576) (hcap : c.i.length ≤ c1 ∧ c.ops.length ≤ c2 ∧ c.o.length ≤ c3) (hr : RdC w B A1 A2 A3 c) :
    Calls Try.prog 16 #[.agg #[.int .i64 c.r, .slice A1 c.i.length c1, .slice A2 c.ops.length c2, .slice A3 c.o.length c3]] w fun e w' =>
      ∃ E1 E2 E3 e1 e2 e3, e = .returned (.tuple #[.agg #[.int .i64 (pkC c).r, .slice E1 (pkC c).i.length e1, .slice E2 (pkC c).ops.length e2, .slice E3 (pkC c).o.length e3], .bool (rcB c)]) ∧ OwC w' w.heap.size E1 E2 E3 e1 e2 e3 (pkC c) ∧ Below w.heap.size w w' := by
  have H := Lib.hid hr
  have RC := fun W hW hrW => reCode_any B A1 A2 A3 c1 c2 c3 c W hW hl1 hl2 hl3 hcap hrW
  clear hr hcap
  obtain ⟨rb, hrb⟩ : ∃ t, rcB c = t := ⟨_, rfl⟩
  rw [hrb] at RC
  rw [hrb]
  have RC := Lib.hid RC
  have HRB := Lib.hid hrb
  clear hrb
  go_enter Try.func16, Try.ntmps16
  go_wp2_with fail
  go_at_call 69
  generalize hw1 : World.alloc w _ = w1
  obtain ⟨⟨x0, x1, x2, x3⟩, xs, xb⟩ := bx4r hw1
  clear hw1
  generalize hw2 : World.alloc w1 _ = w2
  have q0 : w2.heap[w1.heap.size]? = some (.cells #[.int .i64 0, .slice none 0 0, .slice none 0 0, .slice none 0 0] 29 (0, 0)) := by rw [← hw2]; exact heap_alloc_new w1 _
  obtain ⟨_, ys, yb⟩ := bx4r hw2
  clear hw2
  rw [xs] at q0
  have x0 := (yb.cell (p := ⟨w.heap.size, 0, none⟩) (by simp only []; omega)).trans x0
  have x1 := (yb.cell (p := ⟨w.heap.size, 1, none⟩) (by simp only []; omega)).trans x1
  have x2 := (yb.cell (p := ⟨w.heap.size, 2, none⟩) (by simp only []; omega)).trans x2
  have x3 := (yb.cell (p := ⟨w.heap.size, 3, none⟩) (by simp only []; omega)).trans x3
  have HB2 := Lib.hid (xb.trans (yb.mono (by omega)))
  have hs2 : w.heap.size + 2 = w2.heap.size := by omega
  clear xs ys xb yb
  refine (RC.out w2 (by omega) (H.out.below' HB2.out hB)).mono ?_
  rintro e w3 ⟨rfl, hb3⟩
  have x0 := (hb3.cell (p := ⟨w.heap.size, 0, none⟩) (by simp only []; omega)).trans x0
  have x1 := (hb3.cell (p := ⟨w.heap.size, 1, none⟩) (by simp only []; omega)).trans x1
  have x2 := (hb3.cell (p := ⟨w.heap.size, 2, none⟩) (by simp only []; omega)).trans x2
  have x3 := (hb3.cell (p := ⟨w.heap.size, 3, none⟩) (by simp only []; omega)).trans x3
  have Q3 := Lib.hid ((hb3.block (w.heap.size + 1) (by omega)).trans q0)
  have HB3 := Lib.hid (HB2.out.trans (hb3.mono (by omega)))
  have hs3 : w.heap.size + 2 ≤ w3.heap.size := by have := hb3.size; omega
  clear q0 hb3 hs2
  cases rb with
  | false =>
    obtain ⟨t0, t1, t2, t3, g0, g1, g2, g3⟩ := cells4n Q3.out
    have EP := pk_false HRB.out
    go_wp2
    refine bodyPost_ret (v := .tuple #[.agg #[.int .i64 0, .slice none 0 0, .slice none 0 0, .slice none 0 0], .bool false]) (by simp [results, Try.results16, go_sem, t0, t1, t2, t3]) rfl ⟨none, none, none, 0, 0, 0, by rw [EP]; rfl, by rw [EP]; exact OwC.zero _ _, ?_⟩
    exact (((HB3.out.setCell (by simp) _).setCell (by simp) _).setCell (by simp) _).setCell (by simp) _
  | true =>
  obtain ⟨R, hR, r1, r46, i1, i6, p40, o6, hnd, hin, hop, hou, hgd⟩ := rcB_facts HRB.out
  have HIN := Lib.hid hin
  have HOP := Lib.hid hop
  have HOU := Lib.hid hou
  have HR := Lib.hid hR
  rw [hR] at x0
  have TLE := Lib.hid (tlK_le c.i c.ops)
  have CL := Lib.hid (fun W hW hrW => l1Own_any B A1 c1 c.i W (by omega) hW hrW)
  clear hin hop hou hgd hnd hR
  go_wp2_with fail
  go_at_call 70
  refine (CL.out w3 (by omega) (H.out.below' HB3.out hB).1).mono ?_
  rintro e w4 ⟨E0, d0, rfl, hown, hb4⟩
  have x0 := (hb4.cell (p := ⟨w.heap.size, 0, none⟩) (by simp only []; omega)).trans x0
  have x1 := (hb4.cell (p := ⟨w.heap.size, 1, none⟩) (by simp only []; omega)).trans x1
  have x2 := (hb4.cell (p := ⟨w.heap.size, 2, none⟩) (by simp only []; omega)).trans x2
  have x3 := (hb4.cell (p := ⟨w.heap.size, 3, none⟩) (by simp only []; omega)).trans x3
  have OW := Lib.hid hown
  have Q4 := Lib.hid ((hb4.block (w.heap.size + 1) (by omega)).trans Q3.out)
  have HB4 := Lib.hid (HB3.out.trans (hb4.mono (by omega)))
  have hs4 : w3.heap.size ≤ w4.heap.size := hb4.size
  clear hown hb4
  go_wp2
  go_loopw [4, 22] (fun tv iv wr => ∃ (k : Nat) (E : Option Addr) (d : Nat), k ≤ c.ops.length ∧ iv = .int .i64 k ∧ tv = .slice E (tlK c.i c.ops k).length d ∧ OwI wr w3.heap.size (.slice E (tlK c.i c.ops k).length d) (tlK c.i c.ops k) ∧ Below w3.heap.size w4 wr) (fun _ i _ => c.ops.length - (intOf i).toNat)
  case atStart => exact ⟨0, E0, d0, by omega, rfl, rfl, OW.out, Below.refl _ _⟩
  case round =>
    obtain ⟨k, E, d, hk, rfl, rfl, hown, hbel⟩ := hrel
    have OWN := Lib.hid hown
    have BEL := Lib.hid hbel
    have hsz := hbel.size
    have HBW := Lib.hid (HB4.out.trans (hbel.mono (show w.heap.size ≤ w3.heap.size by omega)))
    by_cases hlt : k < c.ops.length
    · have iqk : (k : Int) < (c.ops.length : Int) := by omega
      obtain ⟨b, off, rfl, hb, hc1, hc2, hc3⟩ := (H.out.below' HBW.out hB).2.1.op hlt
      obtain ⟨⟨t, a, d'⟩, hx⟩ : ∃ x, c.ops[k] = x := ⟨_, rfl⟩
      rw [hx] at hc1 hc2 hc3
      simp only at hc1 hc2 hc3
      have TH := Lib.hid (tlK_three (i := c.i) hlt hx)
      have tle := TLE.out k
      obtain ⟨T, hT⟩ : ∃ T, tlK c.i c.ops k = T := ⟨_, rfl⟩
      have th := TH.out
      rw [hT] at OWN tle th ⊢
      have TH := Lib.hid th
      clear hown hbel hx th hT
      go_wp2
      generalize hw5 : World.alloc (World.alloc wr _) _ = w5
      have q1 : w5.heap[wr.heap.size + 1]? = some (.cells #[.int .i64 a, .int .i64 d', .int .i64 t] 3 (0, 0)) := by rw [← hw5]; exact heap_alloc_new' (by simp) _
      have hb5 : Below wr.heap.size wr w5 := by rw [← hw5]; exact ((Below.refl _ _).alloc (Nat.le_refl _) _).alloc (by simp) _
      have hs5 : w5.heap.size = wr.heap.size + 2 := by rw [← hw5]; simp
      clear hw5
      have Q1 := Lib.hid q1
      have O5 := Lib.hid (own_below OWN.out hb5)
      have B5 := Lib.hid (BEL.out.trans (hb5.mono (by omega)))
      have NE := Lib.hid (show ∀ q, (Value.slice E T.length d).ownBlock = some q → q ≠ wr.heap.size + 1 from fun q h => by have := (own_block OWN.out q h).2; omega)
      obtain ⟨ga, hga⟩ : ∃ ga, wr.heap.size + 1 = ga := ⟨_, rfl⟩
      rw [hga] at Q1 NE ⊢
      have hgl : ga < w5.heap.size := by omega
      have hgw : w3.heap.size ≤ ga := by omega
      clear q1 hb5 hga hs5 hc1 hc2 hc3
      go_loopw [4, 34] (fun tv jv wq => ∃ (j : Nat) (F : Option Addr) (f : Nat), j ≤ 3 ∧ jv = .int .i64 j ∧ tv = .slice F (tlJ T [a, d', t] j).length f ∧ OwI wq w3.heap.size (.slice F (tlJ T [a, d', t] j).length f) (tlJ T [a, d', t] j) ∧ (∀ q, (Value.slice F (tlJ T [a, d', t] j).length f).ownBlock = some q → q ≠ ga) ∧ wq.heap[ga]? = some (.cells #[.int .i64 a, .int .i64 d', .int .i64 t] 3 (0, 0)) ∧ Below w3.heap.size w4 wq) (fun _ j _ => 3 - (intOf j).toNat)
      case atStart => exact ⟨0, E, d, by omega, rfl, rfl, O5.out, NE.out, Q1.out, B5.out⟩
      case round =>
        obtain ⟨j, F, f, hj, rfl, rfl, hown, hne, hga, hbel⟩ := hrel
        have OW := Lib.hid hown
        have NEq := Lib.hid hne
        have GA := Lib.hid hga
        have BL := Lib.hid hbel
        have hgr : ga < wr.heap.size := (Array.getElem?_eq_some_iff.1 hga).1
        have hjl := tlJ_le T [a, d', t] j
        by_cases hjt : j < 3
        · have iqj : (j : Int) < 3 := by omega
          have hcell := three_cells hga hjt
          have SUC := Lib.hid (show tlJ T [a, d', t] (j + 1) = adT (tlJ T [a, d', t] j) ([a, d', t].getD j 0) from rfl)
          obtain ⟨x, hx⟩ : ∃ x, [a, d', t].getD j 0 = x := ⟨_, rfl⟩
          have suc := SUC.out
          rw [hx] at hcell suc
          obtain ⟨L, hL⟩ : ∃ L, tlJ T [a, d', t] j = L := ⟨_, rfl⟩
          rw [hL] at suc OW NEq hjl ⊢
          have SUC := Lib.hid suc
          have CO := l1Has_any wr.heap.size F f L x wr (by omega) OW.out.rd
          obtain ⟨u, hu⟩ : ∃ u, hasI L x = u := ⟨_, rfl⟩
          rw [hu] at CO
          have CO := Lib.hid CO
          have HU := Lib.hid hu
          clear hx hL suc hu hown hne hga hbel
          go_wp2_with fail
          go_at_call 71
          refine CO.out.mono ?_
          rintro e w6 ⟨rfl, rfl⟩
          cases u with
          | true =>
            have E2 := Lib.hid (show tlJ T [a, d', t] (j + 1) = L by rw [SUC.out]; unfold adT; rw [HU.out]; rfl)
            go_wp2
            go_roundw
            case rel => exact ⟨j + 1, F, f, by omega, by go_num, by rw [E2.out], by rw [E2.out]; exact OW.out, by rw [E2.out]; exact NEq.out, GA.out, BL.out⟩
            case measure => simp [intOf]; omega
          | false =>
            have E2 := Lib.hid (show tlJ T [a, d', t] (j + 1) = L ++ [x] by rw [SUC.out]; unfold adT; rw [HU.out]; rfl)
            have hss := BL.out.size
            go_wp2_with (at_builtin; refine list_step (fun K hK => ?_); refine step_app_intG rfl (.tmp 42) (.tmp 44) rfl w3.heap.size L.length _ L rfl (own_below OW.out ((Below.refl _ _).alloc (Nat.le_refl _) _)) rfl wr.heap.size 1 x rfl (by simp) (by omega) (by simp; omega) ?_; intro g7 c7 w7 hown7 hg7 hbel7 hlie7; go_simp; refine hK _ _ ?_; clear hK K)
            go_roundw
            case rel =>
              have el : (L ++ [x]).length = L.length + 1 := by simp
              refine ⟨j + 1, some ⟨g7, 0, none⟩, c7, by omega, by go_num, by rw [E2.out, el], by rw [E2.out, el]; exact hown7, ?_, ?_, (BL.out.alloc (by omega) _).trans hbel7⟩
              · rw [E2.out]
                intro q hq
                have hq' : g7 = q := by simpa [Value.ownBlock] using hq
                rcases hlie7 with h | h
                · exact hq' ▸ NEq.out g7 h
                · simp at h; omega
              · have := hg7.block ga (by simp; omega) (fun e => NEq.out ga e.symm rfl)
                rw [this, Below.heap_alloc _ _ _ hgr]
                exact GA.out
            case measure => simp [intOf]; omega
        · have hj' : j = 3 := by omega
          subst hj'
          clear hown hne hga hbel
          go_wp2
          go_roundw
          case rel => exact ⟨k + 1, F, f, by omega, by go_num, by rw [TH.out], by rw [TH.out]; exact OW.out, BL.out⟩
          case measure => simp [intOf]; omega
    · have hk' : k = c.ops.length := by omega
      subst hk'
      have x0 := (hbel.cell (p := ⟨w.heap.size, 0, none⟩) (by simp only []; omega)).trans x0
      have x1 := (hbel.cell (p := ⟨w.heap.size, 1, none⟩) (by simp only []; omega)).trans x1
      have x2 := (hbel.cell (p := ⟨w.heap.size, 2, none⟩) (by simp only []; omega)).trans x2
      have x3 := (hbel.cell (p := ⟨w.heap.size, 3, none⟩) (by simp only []; omega)).trans x3
      have QR := Lib.hid ((hbel.block (w.heap.size + 1) (by omega)).trans Q4.out)
      have tle := TLE.out c.ops.length
      have TIN := Lib.hid (tlK_in HIN.out HOP.out c.ops.length (Nat.le_refl _))
      have PKS := Lib.hid (pk_same HRB.out HR.out)
      have PKS := Lib.hid (show rnC (nmF (nmZ R (tlK c.i c.ops c.ops.length) (tlK c.i c.ops c.ops.length).length)) ((tlK c.i c.ops c.ops.length).length : Int) c = pkC c from PKS.out)
      obtain ⟨T, hT⟩ : ∃ T, tlK c.i c.ops c.ops.length = T := ⟨_, rfl⟩
      have pks := PKS.out
      have tin := TIN.out
      rw [hT] at OWN pks tin tle ⊢
      have PKS := Lib.hid pks
      have TIN := Lib.hid tin
      have HT := Lib.hid OWN.out.rd
      have hmk : ∀ W : World, (Instr.makeSlice 22 (.int .i64 (R : Int)) (.int .i64 (R : Int))).run Try.prog W = .ok (.slice (some ⟨W.heap.size, 0, none⟩) R R) (W.alloc (.cells (madeCells #[.int .i64 0] R) 3)) := run_make_row' (P := Try.prog) 22 3 (.int .i64 0) 8 Try.underlying22 info_int rfl .i64 .i64 R (by omega) (by omega)
      clear hown hbel hT pks tin
      obtain ⟨wz, hwz⟩ : ∃ wz, wz = wr := ⟨_, rfl⟩
      subst hwz
      go_wp2
      clear hmk
      generalize hw5 : World.alloc wz _ = w5
      have hmade : w5.ownsRow wz.heap.size 3 1 (.slice (some ⟨wz.heap.size, 0, none⟩) R R) R ((nmZ R T 0).map I) := by rw [← hw5]; exact zeros_rowP R (by omega) (Nat.le_refl _)
      have hb5 : Below wz.heap.size wz w5 := by rw [← hw5]; exact (Below.refl _ _).alloc (Nat.le_refl _) _
      clear hw5
      have HM := Lib.hid hmade
      have HB5 := Lib.hid hb5
      clear hmade hb5
      go_loopw [53] (fun iv wr => ∃ q : Nat, q ≤ T.length ∧ iv = .int .i64 q ∧ wr.ownsRow wz.heap.size 3 1 (.slice (some ⟨wz.heap.size, 0, none⟩) R R) R ((nmZ R T q).map I) ∧ Below wz.heap.size wz wr) (fun i _ => T.length - (intOf i).toNat)
      case atStart => exact ⟨0, by omega, rfl, HM.out, HB5.out⟩
      case round =>
        obtain ⟨q, hq, rfl, hown, hbel⟩ := hrel
        have OWQ := Lib.hid hown
        have BEQ := Lib.hid hbel
        by_cases hlt : q < T.length
        · have iqq : (q : Int) < (T.length : Int) := by omega
          obtain ⟨b, off, rfl, hb, hc⟩ := (HT.out.below' BEQ.out (Nat.le_refl _)).int hlt
          obtain ⟨v0, v1⟩ := TIN.out _ (List.getElem_mem hlt)
          have NX := Lib.hid (show nmZ R T (q + 1) = (nmZ R T q).set (T[q]).toNat (q : Int) by simp only [nmZ]; congr 2; simp [hlt])
          have nx := NX.out
          obtain ⟨v, hv⟩ : ∃ v : Nat, T[q] = v := ⟨(T[q]).toNat, by omega⟩
          rw [hv] at hc v1 nx
          rw [Int.toNat_natCast] at nx
          have NX := Lib.hid nx
          have hvR : v < R := by omega
          have hcell : wr.cell? ⟨wz.heap.size, v, none⟩ = some (I ((nmZ R T q).getD v 0)) := by
            rw [hown.cellAt _ (by omega), List.getElem?_map, List.getElem?_eq_getElem (by rw [nmZ_len]; exact hvR), List.getD_eq_getElem?_getD, List.getElem?_eq_getElem (by rw [nmZ_len]; exact hvR)]
            rfl
          have hf : wr.frozen? ⟨wz.heap.size, v, none⟩ = false := hown.frozenAt _
          clear hown hbel hv v0 nx
          go_wp2
          go_roundw
          case rel => exact ⟨q + 1, by omega, by go_num, by rw [NX.out]; exact ownI_setP OWQ.out _, BEQ.out.setCell (Nat.le_refl _) _⟩
          case measure => simp [intOf]; omega
        · have hq' : q = T.length := by omega
          subst hq'
          have x0 := (hbel.cell (p := ⟨w.heap.size, 0, none⟩) (by simp only []; omega)).trans x0
          have x1 := (hbel.cell (p := ⟨w.heap.size, 1, none⟩) (by simp only []; omega)).trans x1
          have x2 := (hbel.cell (p := ⟨w.heap.size, 2, none⟩) (by simp only []; omega)).trans x2
          have x3 := (hbel.cell (p := ⟨w.heap.size, 3, none⟩) (by simp only []; omega)).trans x3
          have QR := Lib.hid ((hbel.block (w.heap.size + 1) (by omega)).trans QR.out)
          have HBQ := Lib.hid (HBW.out.trans (hbel.mono (show w.heap.size ≤ wz.heap.size by omega)))
          have hsq := hbel.size
          have el := nmZ_len R T T.length
          obtain ⟨N, hN⟩ : ∃ N, nmZ R T T.length = N := ⟨_, rfl⟩
          have pks := PKS.out
          rw [hN] at hown el pks
          have RDN : Rd wr wr.heap.size 1 (some ⟨wz.heap.size, 0, none⟩) N.length (N.map I) := by rw [el]; exact Rd.of_own hown
          have rn := reNamed_any wr.heap.size A1 A2 A3 c1 c2 c3 c (some ⟨wz.heap.size, 0, none⟩) R N (T.length : Int) wr (by omega) (by omega) (by omega) (by omega) (by rw [el]; exact HIN.out) (by rw [el]; exact HOP.out) (by rw [el]; exact HOU.out) (Nat.le_refl _) ((H.out.below' HBQ.out hB).more (by omega)) RDN
          rw [el, HR.out, pks] at rn
          have RN := Lib.hid rn
          have LE := Lib.hid (show (pkC c).r = (T.length : Int) ∧ (pkC c).i.length = c.i.length ∧ (pkC c).ops.length = c.ops.length ∧ (pkC c).o.length = c.o.length by rw [← pks]; simp [rnC])
          clear hown hbel rn pks el hN RDN
          go_wp2_with fail
          go_at_call 72
          refine RN.out.mono ?_
          rintro e w6 ⟨E1, E2, E3, e1, e2, e3, rfl, hown, hb6⟩
          have Q6 := Lib.hid ((hb6.block (w.heap.size + 1) (by omega)).trans QR.out)
          have HB6 := Lib.hid (HBQ.out.trans (hb6.mono HBQ.out.size))
          have OWN6 := Lib.hid hown
          clear hown hb6
          obtain ⟨t0, t1, t2, t3, g0, g1, g2, g3⟩ := cells4n Q6.out
          go_wp2
          refine bodyPost_ret (v := .tuple #[.agg #[.int .i64 (T.length : Int), .slice E1 c.i.length e1, .slice E2 c.ops.length e2, .slice E3 c.o.length e3], .bool true]) (by simp [results, Try.results16, go_sem, t0, t1, t2, t3]) rfl ⟨E1, E2, E3, e1, e2, e3, ?_, ?_, ?_⟩
          · obtain ⟨l0, l1, l2, l3⟩ := LE.out
            rw [l0, l1, l2, l3]
          · obtain ⟨o1, o2, o3, o4⟩ := OwC.base OWN6.out (show w.heap.size ≤ wr.heap.size by omega)
            exact ⟨own_set4 o1 Q6.out (by decide) _ _ _ _, own_set4 o2 Q6.out (by decide) _ _ _ _, own_set4 o3 Q6.out (by decide) _ _ _ _, o4⟩
          · exact (((HB6.out.setCell (by simp) _).setCell (by simp) _).setCell (by simp) _).setCell (by simp) _

/-- In a plain region: one cell of integers, written; the world is named. -/
theorem wpList_store1 {ops : Array Oper} {Q : Exit → Act → World → Prop} {rest : List Oper} {a : Act} {w : World} {o : Oper} {n m : Nat} {p : Addr} {u : Value} {x : Int} (hc : w.cell? p = some u) (hf : w.frozen? p = false) (hg : o.guard = none) (ho : o.op = .store 3 (.tmp n) (.tmp m))
    (hp : a.eval (.tmp n) = .pointer (some p)) (hv : a.eval (.tmp m) = .int .i64 x) (h : ∀ w', w' = w.setCell p (.int .i64 x) → wpList Try.prog ops Q rest (a.put o.dst undef) w') : wpList Try.prog ops Q (o :: rest) a w := by
  refine wpList_plain hg fun K hK => ?_
  have hk := hK _ _ (h _ rfl)
  have e : (execOp a.eval o).run Try.prog w = .ok .skip (w.setCell p (.int .i64 x)) := by
    unfold execOp
    rw [ho]
    simp only [hp, hv]
    simp [go_sem, hc, hf]
  unfold Oper.wp
  rw [e]
  exact hk
set_option maxRecDepth 100000 in
set_option maxHeartbeats 1000000 in
theorem idxOf_any (g B : Nat) (E : Option Addr) (d : Nat) (T : List Int) (x : Int) (w : World) (hm : T.length ≤ 4000000) (hg : w.cell? ⟨g, 0, none⟩ = some (.slice E T.length d)) (hr : Rd w B 1 E T.length (T.map I)) :
    Calls Try.prog 78 #[.int .i64 x, .pointer (some ⟨g, 0, none⟩)] w fun e w' => e = .returned (.int .i64 (plc T x 0)) ∧ Below w.heap.size w w' := by
  have HI := Lib.hid (indexI_any B E d T x w hm hr)
  clear hr
  go_enter Try.func78, Try.ntmps78
  go_wp2_with fail
  go_at_call 79
  refine HI.out.mono ?_
  rintro e w2 ⟨rfl, rfl⟩
  go_wp2
  go_ret
  exact ⟨rfl, Below.refl _ _⟩

set_option maxRecDepth 100000 in
set_option maxHeartbeats 8000000 in
theorem implPack_any (B : Nat) (A1 A2 A3 : Option Addr) (c1 c2 c3 : Nat) (c : Rc) (w : World) (hB : B ≤ w.heap.size) (hl1 : c.i.length ≤ 1048576) (hl2 : c.ops.length ≤ 1048576) (hl3 : c.o.length ≤ 1048576) (hcap : c.i.length ≤ c1 ∧ c.ops.length ≤ c2 ∧ c.o.length ≤ c3) (hr : RdC w B A1 A2 A3 c) :
    Calls Try.prog 18 #[.agg #[.int .i64 c.r, .slice A1 c.i.length c1, .slice A2 c.ops.length c2, .slice A3 c.o.length c3]] w fun e w' =>
      ∃ E1 E2 E3 e1 e2 e3, e = .returned (.tuple #[.agg #[.int .i64 (pkC c).r, .slice E1 (pkC c).i.length e1, .slice E2 (pkC c).ops.length e2, .slice E3 (pkC c).o.length e3], .bool (rcB c)]) ∧ OwC w' w.heap.size E1 E2 E3 e1 e2 e3 (pkC c) ∧ Below w.heap.size w w' := by
  have H := Lib.hid hr
  have RC := fun W hW hrW => implIsRc_any B A1 A2 A3 c1 c2 c3 c W hW hl1 hl2 hl3 hcap hrW
  clear hr hcap
  obtain ⟨rb, hrb⟩ : ∃ t, rcB c = t := ⟨_, rfl⟩
  rw [hrb] at RC
  rw [hrb]
  have RC := Lib.hid RC
  have HRB := Lib.hid hrb
  clear hrb
  go_enter Try.func18, Try.ntmps18
  go_wp2_with fail
  go_at_call 75
  generalize hw1 : World.alloc w _ = w1
  obtain ⟨⟨x0, x1, x2, x3⟩, xs, xb⟩ := bx4r hw1
  clear hw1
  generalize hw2 : World.alloc w1 _ = w2
  have q0 : w2.heap[w1.heap.size]? = some (.cells #[.int .i64 0, .slice none 0 0, .slice none 0 0, .slice none 0 0] 29 (0, 0)) := by rw [← hw2]; exact heap_alloc_new w1 _
  obtain ⟨_, ys, yb⟩ := bx4r hw2
  clear hw2
  rw [xs] at q0
  have x0 := (yb.cell (p := ⟨w.heap.size, 0, none⟩) (by simp only []; omega)).trans x0
  have x1 := (yb.cell (p := ⟨w.heap.size, 1, none⟩) (by simp only []; omega)).trans x1
  have x2 := (yb.cell (p := ⟨w.heap.size, 2, none⟩) (by simp only []; omega)).trans x2
  have x3 := (yb.cell (p := ⟨w.heap.size, 3, none⟩) (by simp only []; omega)).trans x3
  have HB2 := Lib.hid (xb.trans (yb.mono (by omega)))
  have hs2 : w.heap.size + 2 = w2.heap.size := by omega
  clear xs ys xb yb
  refine (RC.out w2 (by omega) (H.out.below' HB2.out hB)).mono ?_
  rintro e w3 ⟨rfl, hb3⟩
  have x0 := (hb3.cell (p := ⟨w.heap.size, 0, none⟩) (by simp only []; omega)).trans x0
  have x1 := (hb3.cell (p := ⟨w.heap.size, 1, none⟩) (by simp only []; omega)).trans x1
  have x2 := (hb3.cell (p := ⟨w.heap.size, 2, none⟩) (by simp only []; omega)).trans x2
  have x3 := (hb3.cell (p := ⟨w.heap.size, 3, none⟩) (by simp only []; omega)).trans x3
  have Q3 := Lib.hid ((hb3.block (w.heap.size + 1) (by omega)).trans q0)
  have HB3 := Lib.hid (HB2.out.trans (hb3.mono (by omega)))
  have hs3 : w.heap.size + 2 ≤ w3.heap.size := by have := hb3.size; omega
  clear q0 hb3 hs2
  cases rb with
  | false =>
    obtain ⟨t0, t1, t2, t3, g0, g1, g2, g3⟩ := cells4n Q3.out
    have EP := pk_false HRB.out
    go_wp2
    refine bodyPost_ret (v := .tuple #[.agg #[.int .i64 0, .slice none 0 0, .slice none 0 0, .slice none 0 0], .bool false]) (by simp [results, Try.results18, go_sem, t0, t1, t2, t3]) rfl ⟨none, none, none, 0, 0, 0, by rw [EP]; rfl, by rw [EP]; exact OwC.zero _ _, ?_⟩
    exact (((HB3.out.setCell (by simp) _).setCell (by simp) _).setCell (by simp) _).setCell (by simp) _
  | true =>
  obtain ⟨R, hR, r1, r46, i1, i6, p40, o6, hnd, hin, hop, hou, hgd⟩ := rcB_facts HRB.out
  have HR := Lib.hid hR
  have TD := Lib.hid (fun W hW hrW => told_any B A1 A2 A3 c1 c2 c3 c W (by omega) i6 p40 hW hrW)
  have tle := tlK_le c.i c.ops c.ops.length
  have hPK : pkC c = rnC (fun x => plc (tld c) x 0) ((tld c).length : Int) c := by unfold pkC; rw [if_pos HRB.out]
  have LE := Lib.hid (show (pkC c).r = ((tld c).length : Int) ∧ (pkC c).i.length = c.i.length ∧ (pkC c).ops.length = c.ops.length ∧ (pkC c).o.length = c.o.length by rw [hPK]; simp [rnC])
  have hOw : ∀ (W : World) (B' : Nat) E1 E2 E3 e1 e2 e3 (f : Int → Int), f = (fun x => plc (tld c) x 0) → OwC W B' E1 E2 E3 e1 e2 e3 (rnC f c.r c) → OwC W B' E1 E2 E3 e1 e2 e3 (pkC c) := by
    intro W B' E1 E2 E3 e1 e2 e3 f hf h
    rw [hPK, ← hf]
    exact h
  have HOW := Lib.hid hOw
  clear hin hop hou hgd hnd hR hPK hOw
  have tle : (tld c).length ≤ 200 := by show (tlK c.i c.ops c.ops.length).length ≤ 200; omega
  have tdo := TD.out w3 (by omega) (H.out.below' HB3.out hB)
  rw [HR.out] at tdo x0
  obtain ⟨T, hT⟩ : ∃ T, tld c = T := ⟨_, rfl⟩
  have le := LE.out
  have how := HOW.out
  rw [hT] at le how tle tdo
  have TD := Lib.hid tdo
  have LE := Lib.hid le
  have HOW := Lib.hid how
  clear hT le how tdo
  go_wp2_with fail
  go_at_call 76
  refine TD.out.mono ?_
  rintro e w4 ⟨E, d, rfl, hown, hb4⟩
  have OWT := Lib.hid hown
  have x0 := (hb4.cell (p := ⟨w.heap.size, 0, none⟩) (by simp only []; omega)).trans x0
  have x1 := (hb4.cell (p := ⟨w.heap.size, 1, none⟩) (by simp only []; omega)).trans x1
  have x2 := (hb4.cell (p := ⟨w.heap.size, 2, none⟩) (by simp only []; omega)).trans x2
  have x3 := (hb4.cell (p := ⟨w.heap.size, 3, none⟩) (by simp only []; omega)).trans x3
  have Q4 := Lib.hid ((hb4.block (w.heap.size + 1) (by omega)).trans Q3.out)
  have HB4 := Lib.hid (HB3.out.trans (hb4.mono (by omega)))
  have hs4 : w3.heap.size ≤ w4.heap.size := hb4.size
  clear hown hb4
  have k0 := cell_kept x0
  have k1 := cell_kept x1
  have k2 := cell_kept x2
  have k3 := cell_kept x3
  go_wp2_with fail
  go_at_call 77
  generalize hw5 : World.alloc w4 _ = w5
  obtain ⟨y0, ys, yb⟩ := box1w hw5
  clear hw5
  have Q5 := Lib.hid ((yb.block (w.heap.size + 1) (by omega)).trans Q4.out)
  have HB5 := Lib.hid (HB4.out.trans (yb.mono (by omega)))
  have RDT := Lib.hid (OWT.out.rd.below' yb (Nat.le_refl _))
  clear x0 x1 x2 x3 k0 k1 k2 k3
  have cl0 := called_any B 78 #[.pointer (some ⟨w4.heap.size, 0, none⟩)] (enters_of Try.func78 (by kernel_rfl) rfl) (fun x => plc T x 0) (fun _ => True) A1 A2 A3 c1 c2 c3 c w5 hl1 hl2 hl3 (fun _ _ => trivial) (fun _ _ => ⟨trivial, trivial, trivial⟩) (fun _ _ => trivial) (by omega) (H.out.below' HB5.out hB)
    (by
      intro W x hW _
      have e : (#[Value.int .i64 x] ++ #[.pointer (some ⟨w4.heap.size, 0, none⟩)] : Array Value) = #[.int .i64 x, .pointer (some ⟨w4.heap.size, 0, none⟩)] := rfl
      rw [e]
      exact idxOf_any w4.heap.size w4.heap.size E d T x W (by omega) ((hW.cell (p := ⟨w4.heap.size, 0, none⟩) (by simp only []; omega)).trans y0) (RDT.out.below' hW (by omega)))
  have HOWN := Lib.hid (fun W B' E1 E2 E3 e1 e2 e3 h => HOW.out W B' E1 E2 E3 e1 e2 e3 (fun x => plc T x 0) rfl h)
  have howr := HOWN.out
  rw [HR.out] at cl0 howr
  have CL := Lib.hid cl0
  have HOWN := Lib.hid howr
  clear cl0 howr yb
  refine CL.out.mono ?_
  rintro e w6 ⟨E1, E2, E3, e1, e2, e3, rfl, hown, hb6⟩
  have y0 := (hb6.cell (p := ⟨w4.heap.size, 0, none⟩) (by simp only []; omega)).trans y0
  have Q6 := Lib.hid ((hb6.block (w.heap.size + 1) (by omega)).trans Q5.out)
  have HB6 := Lib.hid (HB5.out.trans (hb6.mono (by omega)))
  have OWN := Lib.hid (HOWN.out _ _ _ _ _ _ _ _ hown)
  have hs6 : w5.heap.size ≤ w6.heap.size := hb6.size
  have Y0 := Lib.hid y0
  clear hown hb6 y0
  obtain ⟨w7, hw7⟩ : ∃ w7, w6.alloc (.cells #[.int .i64 (R : Int), .slice E1 c.i.length e1, .slice E2 c.ops.length e2, .slice E3 c.o.length e3] 29) = w7 := ⟨_, rfl⟩
  have q7 : w7.heap[w6.heap.size]? = some (.cells #[.int .i64 (R : Int), .slice E1 c.i.length e1, .slice E2 c.ops.length e2, .slice E3 c.o.length e3] 29 (0, 0)) := by rw [← hw7]; exact heap_alloc_new w6 _
  obtain ⟨_, zs, zb⟩ := bx4r hw7
  have y0 := (zb.cell (p := ⟨w4.heap.size, 0, none⟩) (by simp only []; omega)).trans Y0.out
  have hfact : ∀ w8, w8 = w7.setCell ⟨w6.heap.size, 0, none⟩ (.int .i64 (T.length : Int)) → w8.heap[w6.heap.size]? = some (.cells #[.int .i64 (T.length : Int), .slice E1 c.i.length e1, .slice E2 c.ops.length e2, .slice E3 c.o.length e3] 29 (0, 0)) ∧ Below w6.heap.size w6 w8 ∧ w8.heap[w.heap.size + 1]? = some (.cells #[.int .i64 0, .slice none 0 0, .slice none 0 0, .slice none 0 0] 29 (0, 0)) := by
    rintro w8 rfl
    have hb : Below w6.heap.size w6 (w7.setCell ⟨w6.heap.size, 0, none⟩ (.int .i64 (T.length : Int))) := zb.setCell (by simp) _
    exact ⟨by rw [heap_setCell_same _ _ 0 _ _ _ q7]; rfl, hb, (hb.block (w.heap.size + 1) (by omega)).trans Q6.out⟩
  have b0 := (cells4n q7).1
  have b4 := (cells4n q7).2.2.2.2.1
  have FACT := Lib.hid hfact
  clear q7 hfact zb
  subst hw7
  go_wp2_with (refine wpList_store1 (p := ⟨w6.heap.size, 0, none⟩) b0 b4 rfl rfl rfl rfl ?_; intro w8 hw8; obtain ⟨f1, f2, f3⟩ := FACT.out w8 hw8; obtain ⟨s0, s1, s2, s3, _, _, _, _⟩ := cells4n f1; obtain ⟨t0, t1, t2, t3, g0, g1, g2, g3⟩ := cells4n f3; have HB8 := Lib.hid f2; have Q8 := Lib.hid f3; clear hw8 f1 f2 f3; go_simp)
  refine bodyPost_ret (v := .tuple #[.agg #[.int .i64 (T.length : Int), .slice E1 c.i.length e1, .slice E2 c.ops.length e2, .slice E3 c.o.length e3], .bool true]) (by simp [results, Try.results18, go_sem, t0, t1, t2, t3]) rfl ⟨E1, E2, E3, e1, e2, e3, ?_, ?_, ?_⟩
  · obtain ⟨l0, l1, l2, l3⟩ := LE.out
    rw [l0, l1, l2, l3]
  · obtain ⟨o1, o2, o3, o4⟩ := OwC.base (OwC.below OWN.out HB8.out) (show w.heap.size ≤ w5.heap.size by omega)
    exact ⟨own_set4 o1 Q8.out (by decide) _ _ _ _, own_set4 o2 Q8.out (by decide) _ _ _ _, own_set4 o3 Q8.out (by decide) _ _ _ _, o4⟩
  · exact ((((HB6.out.trans (HB8.out.mono HB6.out.size)).setCell (by simp) _).setCell (by simp) _).setCell (by simp) _).setCell (by simp) _
end Go.Proofs.Ytbbjgcagkmlngab
