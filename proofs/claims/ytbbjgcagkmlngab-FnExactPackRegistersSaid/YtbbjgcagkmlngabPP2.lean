/- Joined: Pa Rmb Moa Or Sp Os Mob Moc Mod Moj Rmc Rmd Jd Je. -/
import Derived.Test.YtbbjgcagkmlngabPP1
import Derived.Test.YtbbjgcagkmlngabPP0
import Derived.WalkMore
/- PickOutputs: what both sides answer; the model's. -/
namespace Go.Proofs.Ytbbjgcagkmlngab
open Go.RowKit

theorem boxes2b {w w2 : World} {a b c : Value} {t : TypeId} (h : (w.alloc (.cells #[a, b, c] t)).alloc (.cells #[.int .i64 0, .slice none 0 0, .slice none 0 0] 44) = w2) :
    w2.heap[w.heap.size]? = some (.cells #[a, b, c] t (0, 0)) ∧ w2.heap[w.heap.size + 1]? = some (.cells #[.int .i64 0, .slice none 0 0, .slice none 0 0] 44 (0, 0)) ∧ w2.heap.size = w.heap.size + 2 ∧ Below w.heap.size w w2 := by
  subst h
  refine ⟨?_, ?_, by simp, ((Below.refl _ _).alloc (Nat.le_refl _) _).alloc (by simp) _⟩
  · rw [Below.heap_alloc _ _ _ (by simp)]; exact heap_alloc_new w _
  · have := heap_alloc_new (w.alloc (.cells #[a, b, c] t)) (.cells #[.int .i64 0, .slice none 0 0, .slice none 0 0] 44)
    simpa using this
theorem cells3b {w : World} {g : Nat} {a b c : Value} {t : TypeId} (h : w.heap[g]? = some (.cells #[a, b, c] t (0, 0))) :
    w.cell? ⟨g, 0, none⟩ = some a ∧ w.cell? ⟨g, 1, none⟩ = some b ∧ w.cell? ⟨g, 2, none⟩ = some c ∧ w.frozen? ⟨g, 0, none⟩ = false ∧ w.frozen? ⟨g, 1, none⟩ = false ∧ w.frozen? ⟨g, 2, none⟩ = false := by
  refine ⟨?_, ?_, ?_, frozen_of_row w _ 0 _ _ h, frozen_of_row w _ 1 _ _ h, frozen_of_row w _ 2 _ _ h⟩
  · rw [cell_of_row w _ 0 _ _ (0, 0) h]; rfl
  · rw [cell_of_row w _ 1 _ _ (0, 0) h]; rfl
  · rw [cell_of_row w _ 2 _ _ (0, 0) h]; rfl
def selV (b : Bool) (x y : Value) : Value := if b then x else y
def zeroQ : Pl := ⟨0, [], []⟩
theorem OwP.zeroQ (w : World) (B : Nat) : OwP w B none none 0 0 zeroQ := ⟨World.ownsRow_nil _ _ _ _, World.ownsRow_nil _ _ _ _⟩

def pickO (p : Pl) (l : List Int) (k : Nat) : List Int := (l.take k).map fun i => p.o.getD i.toNat 0
def pickB (p : Pl) (l : List Int) : Bool := good p && (allB l 0 ((p.o.length : Int) - 1) && decide (l.length ≤ 6))
def pickR (p : Pl) (l : List Int) : Pl := if pickB p l then ⟨p.n, p.s, pickO p l l.length⟩ else zeroQ
theorem pickO_len (p : Pl) (l : List Int) {k : Nat} (hk : k ≤ l.length) : (pickO p l k).length = k := by simp [pickO]; omega
theorem pickO_succ {p : Pl} {l : List Int} {k v : Nat} (hk : k < l.length) (hv : l[k] = (v : Int)) (hvl : v < p.o.length) : pickO p l (k + 1) = pickO p l k ++ [p.o[v]] := by
  unfold pickO
  rw [List.take_succ_eq_append_getElem hk, List.map_append, hv]
  simp [hvl]
theorem pickR_len (p : Pl) (l : List Int) : (pickR p l).s.length ≤ 1000 ∧ (pickR p l).o.length ≤ 1000 := by
  unfold pickR
  split
  · rename_i h
    unfold pickB at h
    simp only [Bool.and_eq_true, decide_eq_true_eq] at h
    obtain ⟨_, _, _, _, h40, _⟩ := good_facts h.1
    simp only
    rw [pickO_len p l (Nat.le_refl _)]
    omega
  · simp [zeroQ]
theorem all_in {l : List Int} {m : Int} (h : allB l 0 m = true) : ∀ x ∈ l, 0 ≤ x ∧ x ≤ m := by
  intro x hx
  unfold allB at h
  rw [List.all_eq_true] at h
  have := h x hx
  simpa [inB] using this
/-- The plan with picked outputs is a plan, unless there are too many of them. -/
theorem good_pick {p : Pl} {l : List Int} (hg : good p = true) (ha : allB l 0 ((p.o.length : Int) - 1) = true) : good ⟨p.n, p.s, pickO p l l.length⟩ = decide (l.length ≤ 6) := by
  have hin := all_in ha
  have hlen := pickO_len p l (Nat.le_refl _)
  have ho : allB (pickO p l l.length) 0 (p.n + p.s.length - 1) = true := by
    unfold good at hg
    simp only [Bool.and_eq_true] at hg
    have hall := hg.2.2.2.2.2
    unfold allB at hall ⊢
    rw [List.all_eq_true] at hall ⊢
    intro x hx
    unfold pickO at hx
    rw [List.take_of_length_le (Nat.le_refl _)] at hx
    obtain ⟨i, hi, rfl⟩ := List.mem_map.1 hx
    obtain ⟨h0, h1⟩ := hin i hi
    have hlt : i.toNat < p.o.length := by omega
    have e : p.o.getD i.toNat 0 = p.o[i.toNat] := by simp [hlt]
    rw [e]
    exact hall _ (List.getElem_mem hlt)
  unfold good at hg ⊢
  simp only [Bool.and_eq_true] at hg
  obtain ⟨g1, g2, _, g4, g5, _⟩ := hg
  simp only [g1, g2, g4, g5, ho, hlen, Bool.true_and, Bool.and_true]

end Go.Proofs.Ytbbjgcagkmlngab
/- The plan of code of registers, by the model: what is in the registers. -/
namespace Go.Proofs.Ytbbjgcagkmlngab
open Go.RowKit

theorem rep_snoc (k : Nat) (x : Int) : List.replicate k x ++ [x] = List.replicate (k + 1) x := by
  rw [List.replicate_succ']
theorem own_reg {w : World} {B g R c r : Nat} {l : List Int} (h : w.ownsRow B 3 1 (.slice (some ⟨g, 0, none⟩) R c) R (l.map I)) (hr : r < R) : w.cell? ⟨g, r, none⟩ = some (.int .i64 (reg l (r : Int))) := by
  have hl : l.length = R := by have := h.1; simpa using this
  rw [h.cellAt _ (by omega), reg_get (by omega)]
  simp [I, hl, hr]
theorem rgS_succ {a : List Int} {n : Nat} {ops : List (Int × Int × Int)} {k : Nat} (hk : k < ops.length) : rgS a n ops (k + 1) = rgS a n ops k ++ [stI (reg (rgM a n ops k) (ops[k]).2.1) (reg (rgM a n ops k) (ops[k]).2.2)] := by
  have hg : ops.getD k (0, 0, 0) = ops[k] := by simp [hk]
  simp only [rgS]
  rw [hg]
theorem rcA_succ {m : Nat} {c : Rc} {k : Nat} (hk : k < c.ops.length) : rcA m c (k + 1) = (rcA m c k).set (c.ops[k]).1.toNat (((c.i.length + k : Nat) : Int)) := by
  have hg : c.ops.getD k (0, 0, 0) = c.ops[k] := by simp [hk]
  show rgM _ _ _ (k + 1) = _
  simp only [rgM]
  rw [hg]
  rfl
theorem rgI_succ {m : Nat} {i : List Int} {k : Nat} (hk : k < i.length) : rgI m i (k + 1) = (rgI m i k).set (i[k]).toNat (k : Int) := by
  have hg : i.getD k 0 = i[k] := by simp [hk]
  simp only [rgI]
  rw [hg]
theorem opIn_nat {R : Nat} {x : Int × Int × Int} (h : opIn R x = true) : ∃ t a b : Nat, x = ((t : Int), (a : Int), (b : Int)) ∧ t < R ∧ a < R ∧ b < R := by
  unfold opIn inB at h
  simp only [Bool.and_eq_true, decide_eq_true_eq] at h
  obtain ⟨p, q, s⟩ := x
  simp only at h
  exact ⟨p.toNat, q.toNat, s.toNat, by rw [show ((p.toNat : Nat) : Int) = p by omega, show ((q.toNat : Nat) : Int) = q by omega, show ((s.toNat : Nat) : Int) = s by omega], by omega, by omega, by omega⟩

set_option maxRecDepth 100000 in
set_option maxHeartbeats 8000000 in
theorem reValues_any (B R : Nat) (A1 A2 A3 : Option Addr) (c1 c2 c3 : Nat) (c : Rc) (w : World) (hR : c.r = R) (h1 : 1 ≤ R) (h46 : R ≤ 46) (hi6 : c.i.length ≤ 6) (hp40 : c.ops.length ≤ 40) (hin : ∀ x ∈ c.i, 0 ≤ x ∧ x < (R : Int)) (hop : ∀ x ∈ c.ops, opIn R x = true) (hcap : c.ops.length ≤ c2) (hB : B ≤ w.heap.size) (hr : RdC w B A1 A2 A3 c) :
    Calls Try.prog 153 #[.agg #[.int .i64 c.r, .slice A1 c.i.length c1, .slice A2 c.ops.length c2, .slice A3 c.o.length c3], .int .i64 (c.ops.length : Int)] w fun e w' =>
      Below w.heap.size w w' ∧ ((∃ E1 E2 e1 e2, e = .returned (.tuple #[.slice E1 R e1, .slice E2 c.ops.length e2, .bool true]) ∧ w'.ownsRow w.heap.size 3 1 (.slice E1 R e1) R ((rcA R c c.ops.length).map I) ∧ w'.ownsRow w.heap.size 114 2 (.slice E2 c.ops.length e2) c.ops.length (fl (rcP c).s)) ∨ (e = .returned (.tuple #[.slice none 0 0, .slice none 0 0, .bool false]) ∧ rcB c = false)) := by
  have H := Lib.hid hr
  have HIN := Lib.hid hin
  have HOP := Lib.hid hop
  have RGS := Lib.hid (show rgS (rgI R c.i c.i.length) c.i.length c.ops c.ops.length = (rcP c).s from rgS_less h46 hop _ (Nat.le_refl _))
  have icap : (c.ops.length : Int) ≤ (c2 : Int) := by omega
  have BAD := Lib.hid (fun j hj h => bad_read (c := c) (j := j) hj h)
  have REG := Lib.hid (fun k r h0 h1 => rcA_reg (m := R) (c := c) h46 (k := k) (r := r) h0 h1)
  clear hr hin hop
  rw [hR]
  clear hR
  go_enter Try.func153, Try.ntmps153
  go_wp2
  generalize hw1 : World.alloc w _ = w1
  obtain ⟨⟨x0, x1, x2, x3⟩, xs, xb⟩ := bx4r hw1
  clear hw1
  have XB := Lib.hid xb
  clear xb
  go_loopw [7, 8] (fun av iv wr => ∃ (k : Nat) (A4 : Option Addr) (c4 : Nat), k ≤ R ∧ iv = .int .i64 k ∧ av = .slice A4 k c4 ∧ wr.ownsRow w1.heap.size 3 1 (.slice A4 k c4) k ((List.replicate k (-1)).map I) ∧ Below w1.heap.size w1 wr) (fun _ i _ => R - (intOf i).toNat)
  case atStart => exact ⟨0, none, 0, by omega, rfl, rfl, World.ownsRow_nil _ _ _ _, Below.refl _ _⟩
  case round =>
    obtain ⟨k, A4, c4, hk, rfl, rfl, hown, hbel⟩ := hrel
    have hsz := hbel.size
    have z0 := (hbel.cell (p := ⟨w.heap.size, 0, none⟩) (by simp only []; omega)).trans x0
    have OWN := Lib.hid hown
    have BEL := Lib.hid hbel
    clear hown hbel
    by_cases hlt : k < R
    · have iqk : (k : Int) < (R : Int) := by omega
      go_wp2_with (at_builtin; refine list_step (fun K hK => ?_); refine step_app1 Try.underlying22 info_int rfl (by omega) rfl (.tmp 20) (.tmp 21) rfl w1.heap.size k _ ((List.replicate k (-1)).map I) rfl (World.ownsRow.alloc OWN.out _) wr.heap.size 1 (I (-1)) rfl (by simp) rfl (by omega) (by simp; omega) ?_; intro A7 c7 w7 hown7 hg7 hbel7; go_simp; refine hK _ _ ?_; clear hK K)
      go_roundw
      case rel => exact ⟨k + 1, A7, c7, by omega, by go_num, rfl, by rw [← rep_snoc, List.map_append]; exact hown7, (BEL.out.alloc hsz _).trans hbel7⟩
      case measure => simp [intOf]; omega
    · have hk' : k = R := by omega
      subst hk'
      obtain ⟨g, rfl, hgB, hgs, _, _⟩ := own_at OWN.out (by omega)
      have z1 := (BEL.out.cell (p := ⟨w.heap.size, 1, none⟩) (by simp only []; omega)).trans x1
      have z2 := (BEL.out.cell (p := ⟨w.heap.size, 2, none⟩) (by simp only []; omega)).trans x2
      obtain ⟨w2, hw2⟩ : ∃ x, wr = x := ⟨_, rfl⟩
      rw [hw2] at hsz z0 OWN BEL hgs z1 z2 ⊢
      clear hw2
      clear x0 x1 x2 x3
      go_wp2
      go_loopw [26] (fun iv wr => ∃ j : Nat, j ≤ c.i.length ∧ iv = .int .i64 j ∧ wr.ownsRow w1.heap.size 3 1 (.slice (some ⟨g, 0, none⟩) k c4) k ((rgI k c.i j).map I) ∧ Below w1.heap.size w2 wr) (fun i _ => c.i.length - (intOf i).toNat)
      case atStart => exact ⟨0, by omega, rfl, OWN.out, Below.refl _ _⟩
      case round =>
        obtain ⟨j, hj, rfl, hown, hbel⟩ := hrel
        have hsz2 := hbel.size
        have OW := Lib.hid hown
        have BL := Lib.hid hbel
        have HBW := Lib.hid (XB.out.trans ((BEL.out.trans hbel).mono (by omega)))
        by_cases hlt : j < c.i.length
        · have iqj : (j : Int) < (c.i.length : Int) := by omega
          obtain ⟨b, off, rfl, hb, hc⟩ := (H.out.below' HBW.out hB).1.int hlt
          obtain ⟨v0, v1⟩ := HIN.out _ (List.getElem_mem hlt)
          obtain ⟨v, hv⟩ : ∃ v : Nat, c.i[j] = v := ⟨(c.i[j]).toNat, by omega⟩
          have SUC := Lib.hid (show rgI k c.i (j + 1) = (rgI k c.i j).set v (j : Int) by rw [rgI_succ hlt, hv]; rfl)
          rw [hv] at hc
          have ivk : (v : Int) < (k : Int) := by omega
          have d0 := own_reg hown (show v < k by omega)
          have f0 := hown.frozenAt v
          clear hown hbel hv v0 v1
          go_wp2
          go_roundw
          case rel => exact ⟨j + 1, by omega, by go_num, by rw [SUC.out]; exact OwI.set OW.out _, BL.out.setCell hgB _⟩
          case measure => simp [intOf]; omega
        · have hj' : j = c.i.length := by omega
          have OW0 := Lib.hid (show wr.ownsRow w1.heap.size 3 1 (.slice (some ⟨g, 0, none⟩) k c4) k ((rcA k c 0).map I) by subst hj'; exact OW.out)
          have y1 := (hbel.cell (p := ⟨w.heap.size, 1, none⟩) (by simp only []; omega)).trans z1
          have y2 := (hbel.cell (p := ⟨w.heap.size, 2, none⟩) (by simp only []; omega)).trans z2
          clear hj'
          obtain ⟨w3, hw3⟩ : ∃ x, wr = x := ⟨_, rfl⟩
          rw [hw3] at hsz2 BL HBW OW0 y1 y2 ⊢
          clear hw3 hown hbel OW z0 z1 z2 OWN
          have hgs3 : g < w3.heap.size := by omega
          go_wp2
          go_loopw [11, 41] (fun sv iv wr => ∃ (n : Nat) (A5 : Option Addr) (c5 : Nat), n ≤ c.ops.length ∧ iv = .int .i64 n ∧ sv = .slice A5 n c5 ∧ wr.ownsRow w1.heap.size 3 1 (.slice (some ⟨g, 0, none⟩) k c4) k ((rcA k c n).map I) ∧ wr.ownsRow w1.heap.size 114 2 (.slice A5 n c5) n (fl (rgS (rgI k c.i c.i.length) c.i.length c.ops n)) ∧ Below w1.heap.size w3 wr) (fun _ i _ => c.ops.length - (intOf i).toNat)
          case atStart => exact ⟨0, none, 0, by omega, rfl, rfl, OW0.out, World.ownsRow_nil _ _ _ _, Below.refl _ _⟩
          case round =>
            obtain ⟨n, A5, c5, hn, rfl, rfl, hown, hst, hbel⟩ := hrel
            have hsz3 := hbel.size
            have hgsr : g < wr.heap.size := by omega
            have OW := Lib.hid hown
            have OS := Lib.hid hst
            have BLr := Lib.hid hbel
            have HBWr := Lib.hid (HBW.out.trans (hbel.mono (show w.heap.size ≤ w1.heap.size by omega)))
            have q1 := (hbel.cell (p := ⟨w.heap.size, 1, none⟩) (by simp only []; omega)).trans y1
            by_cases hlt : n < c.ops.length
            · have iqn : (n : Int) < (c.ops.length : Int) := by omega
              obtain ⟨b, off, rfl, hb, hc1, hc2, hc3⟩ := (H.out.below' HBWr.out hB).2.1.op hlt
              obtain ⟨t, a, d, hx, ht, ha, hd⟩ := opIn_nat (HOP.out _ (List.getElem_mem hlt))
              have SUA := Lib.hid (show rcA k c (n + 1) = (rcA k c n).set t (((c.i.length + n : Nat) : Int)) by rw [rcA_succ hlt, hx]; rfl)
              obtain ⟨va, hva⟩ : ∃ v, reg (rcA k c n) (a : Int) = v := ⟨_, rfl⟩
              obtain ⟨vd, hvd⟩ : ∃ v, reg (rcA k c n) (d : Int) = v := ⟨_, rfl⟩
              have SUS := Lib.hid (show rgS (rgI k c.i c.i.length) c.i.length c.ops (n + 1) = rgS (rgI k c.i c.i.length) c.i.length c.ops n ++ [(leastI va vd, mostI va vd)] by
                rw [rgS_succ hlt, hx]
                show _ ++ [stI (reg (rcA k c n) (a : Int)) (reg (rcA k c n) (d : Int))] = _
                rw [hva, hvd]
                rfl)
              have BR := Lib.hid (show va < 0 ∨ vd < 0 → rcB c = false by
                intro h
                have hg : c.ops.getD n (0, 0, 0) = c.ops[n] := by simp [hlt]
                refine BAD.out n hlt ?_
                rw [hg, hx]
                show reg (rcA 46 c n) (a : Int) < 0 ∨ reg (rcA 46 c n) (d : Int) < 0
                rw [← REG.out n (a : Int) (by omega) (by omega), ← REG.out n (d : Int) (by omega) (by omega), hva, hvd]
                exact h)
              rw [hx] at hc1 hc2 hc3
              simp only at hc1 hc2 hc3
              have iak : (a : Int) < (k : Int) := by omega
              have idk : (d : Int) < (k : Int) := by omega
              have itk : (t : Int) < (k : Int) := by omega
              have da := own_reg hown ha
              have dd := own_reg hown hd
              rw [hva] at da
              rw [hvd] at dd
              have DA := cell_kept da
              have DD := cell_kept dd
              clear hx hva hvd hown hst hbel
              by_cases ha0 : va < 0
              · have E := Lib.hid (BR.out (.inl ha0))
                go_wp2
                exact bodyPost_ret (v := .tuple #[.slice none 0 0, .slice none 0 0, .bool false]) (by simp [results, Try.results153, go_sem]) rfl ⟨HBWr.out.alloc HBWr.out.size _, .inr ⟨rfl, E.out⟩⟩
              by_cases hd0 : vd < 0
              · have E := Lib.hid (BR.out (.inr hd0))
                go_wp2
                exact bodyPost_ret (v := .tuple #[.slice none 0 0, .slice none 0 0, .bool false]) (by simp [results, Try.results153, go_sem]) rfl ⟨HBWr.out.alloc HBWr.out.size _, .inr ⟨rfl, E.out⟩⟩
              go_wp2
              generalize hw5 : World.alloc wr _ = w5
              obtain ⟨⟨e0, e1, e2⟩, es, eb⟩ := box3' hw5
              have EBLK := Lib.hid (show w5.heap[wr.heap.size]? = some (.cells #[.int .i64 t, .int .i64 a, .int .i64 d] 88 (0, 0)) by rw [← hw5]; exact heap_alloc_new wr _)
              clear hw5
              have g1 := (eb.cell (p := ⟨w.heap.size, 1, none⟩) (by simp only []; omega)).trans q1
              have ga := (eb.cell (p := ⟨g, a, none⟩) hgsr).trans da
              have gd := (eb.cell (p := ⟨g, d, none⟩) hgsr).trans dd
              have FS := Lib.hid (show ∀ x, Below w5.heap.size w5 x → x.cell? ⟨wr.heap.size, 0, none⟩ = some (.int .i64 t) ∧ x.cell? ⟨wr.heap.size, 1, none⟩ = some (.int .i64 a) ∧ x.cell? ⟨wr.heap.size, 2, none⟩ = some (.int .i64 d) ∧ x.cell? ⟨g, a, none⟩ = some (.int .i64 va) ∧ x.cell? ⟨g, d, none⟩ = some (.int .i64 vd) ∧ x.cell? ⟨w.heap.size, 1, none⟩ = some (.slice A1 c.i.length c1) from fun x hx =>
                ⟨(hx.cell (p := ⟨wr.heap.size, 0, none⟩) (by simp only []; omega)).trans e0, (hx.cell (p := ⟨wr.heap.size, 1, none⟩) (by simp only []; omega)).trans e1, (hx.cell (p := ⟨wr.heap.size, 2, none⟩) (by simp only []; omega)).trans e2, (hx.cell (p := ⟨g, a, none⟩) (by simp only []; omega)).trans ga, (hx.cell (p := ⟨g, d, none⟩) (by simp only []; omega)).trans gd, (hx.cell (p := ⟨w.heap.size, 1, none⟩) (by simp only []; omega)).trans g1⟩)
              have OW5 := Lib.hid (own_below OW.out eb)
              have OS5 := Lib.hid (own_below OS.out eb)
              have BL5 := Lib.hid (BLr.out.trans (eb.mono (by omega)))
              have S0 := Lib.hid (show Below w5.heap.size w5 w5.drew from (Below.refl _ _).drew)
              have hb15 : w1.heap.size ≤ w5.heap.size := by omega
              clear e0 e1 e2 eb da dd DA DD ga gd g1 q1 hc1 hc2 hc3
              refine wp_region_T (fun x : World => Below w5.heap.size w5 x) [0, 1, 2, 3, 4, 5, 6, 7, 8, 9, 10, 14] [3, 5, 8, 10] (.lp 0 (.lp 1 (.lp 2 (.lp 6 (.lp 7 (.ls 3 (.lp 4 (.ls 5 (.ls 8 (.lp 9 (.ls 10 (.hv 11 (.hv 12 (.hv 13 (.lp 14 (.done)))))))))))))))) (by kernel_rfl) (by kernel_rfl) ?_
              (repeat (refine T_lp rfl (fun K hK => ?_); go_simp; refine hK _ ?_; clear hK K))
              refine T_ls1 (v := .int .i64 a) rfl rfl S0.out (fun x hx => (by obtain ⟨h0, h1, h2, h3, h4, h5⟩ := FS.out x hx; go_simp)) (fun K hK => ?_)
              (go_simp; refine hK _ ?_; clear hK K)
              (repeat (refine T_lp rfl (fun K hK => ?_); go_simp; refine hK _ ?_; clear hK K))
              refine T_ls1 (v := .int .i64 va) rfl rfl S0.out (fun x hx => (by obtain ⟨h0, h1, h2, h3, h4, h5⟩ := FS.out x hx; go_simp)) (fun K hK => ?_)
              (go_simp; refine hK _ ?_; clear hK K)
              refine T_ls1 (v := .int .i64 d) rfl rfl S0.out (fun x hx => (by obtain ⟨h0, h1, h2, h3, h4, h5⟩ := FS.out x hx; go_simp)) (fun K hK => ?_)
              (go_simp; refine hK _ ?_; clear hK K)
              (repeat (refine T_lp rfl (fun K hK => ?_); go_simp; refine hK _ ?_; clear hK K))
              refine T_ls1 (v := .int .i64 vd) rfl rfl S0.out (fun x hx => (by obtain ⟨h0, h1, h2, h3, h4, h5⟩ := FS.out x hx; go_simp)) (fun K hK => ?_)
              (go_simp; refine hK _ ?_; clear hK K)
              refine T_hvS rfl (fun K hK => ?_)
              go_simp
              go_at_call 93
              refine (plStep_any _ _ _).mono ?_
              rintro e w7 ⟨rfl, hb7⟩
              have hb57 : Below w5.heap.size w5 w7 := S0.out.trans (hb7.mono (by simp))
              have HB7 := Lib.hid hb57
              have OW7 := Lib.hid (own_below OW5.out hb57)
              have OS7 := Lib.hid (own_below OS5.out hb57)
              have hs57 : w5.heap.size ≤ w7.heap.size := hb57.size
              go_simp
              refine hK _ _ hb57 ?_
              clear hK K hb57 hb7
              refine T_hvS rfl (fun K hK => ?_)
              go_simp
              refine hK _ _ (HB7.out.alloc HB7.out.size _) ?_
              clear hK K
              refine T_hv rfl (by kernel_rfl) (fun K hK => ?_)
              refine step_app2 Try.underlying42 info_step rfl (by omega) rfl (.tmp 59) (.tmp 71) rfl w1.heap.size n _ (fl (rgS (rgI k c.i c.i.length) c.i.length c.ops n)) rfl (World.ownsRow.alloc OS7.out _) w7.heap.size 1 (I (leastI va vd)) (I (mostI va vd)) rfl (by simp) (by simp) rfl rfl (by omega) (by simp; omega) ?_
              intro A6 c6 w8 hown8 hg8 hbel8
              have o8 := World.ownsRow.kept (World.ownsRow.alloc OW7.out _) hg8 (own_ne OW7.out OS7.out (by decide))
              have hb58 := (HB7.out.alloc HB7.out.size _).mono (show w1.heap.size ≤ w5.heap.size by omega) |>.trans hbel8
              have d8 := own_reg o8 ht
              have f8 := o8.frozenAt t
              have lst := rgS_len (rgI k c.i c.i.length) c.i.length c.ops n
              have FE := Lib.hid (show w8.cell? ⟨wr.heap.size, 0, none⟩ = some (.int .i64 t) ∧ w8.cell? ⟨w.heap.size, 1, none⟩ = some (.slice A1 c.i.length c1) from by
                have eb7 := (Below.heap_alloc w7 (.cells #[.int .i64 (leastI va vd), .int .i64 (mostI va vd)] 114) wr.heap.size (by omega)).trans ((HB7.out.block wr.heap.size (by omega)).trans EBLK.out)
                have eb8 := (hg8.block wr.heap.size (by simp; omega) (own_ne_blk (World.ownsRow.alloc OS7.out _) eb7 (by decide))).trans eb7
                exact ⟨by rw [cell_of_row w8 _ 0 _ _ (0, 0) eb8]; rfl, (hbel8.cell (p := ⟨w.heap.size, 1, none⟩) (by simp only []; omega)).trans (cell_kept (FS.out w7 HB7.out).2.2.2.2.2 _)⟩)
              have OW8 := Lib.hid o8
              have OS8 := Lib.hid hown8
              have B8 := Lib.hid (BL5.out.trans hb58)
              clear o8 hown8 hg8 hbel8 hb58 lst
              (go_simp; refine hK _ _ ?_; clear hK K)
              (repeat (first | (refine T_lp rfl (fun K hK => ?_); go_simp; refine hK _ ?_; clear hK K) | (refine T_ls rfl rfl (fun K hK => ?_); go_simp; refine hK _ ?_; clear hK K)))
              refine T_done ?_
              obtain ⟨u0, u1⟩ := FE.out
              have hwa : IntKind.i64.wrap ((c.i.length : Int) + ((n : Int) + 1)) = (c.i.length : Int) + ((n : Int) + 1) := IntWalk.i64_in _ (by omega)
              have hwb : IntKind.i64.wrap ((c.i.length : Int) + ((n : Int) + 1) - 1) = ((c.i.length + n : Nat) : Int) := by rw [IntWalk.i64_in _ (by omega)]; omega
              go_wp2
              go_roundw
              case rel =>
                refine ⟨n + 1, A6, c6, by omega, by go_num, rfl, by rw [SUA.out]; exact OwI.set OW8.out _, ?_, B8.out.setCell hgB _⟩
                rw [SUS.out, fl_snoc]
                obtain ⟨cs, hcs⟩ := own_heap OW8.out
                exact own_set (o := t) OS8.out hcs (by decide) _
              case measure => simp [intOf]; omega
            · have hn' : n = c.ops.length := by omega
              subst hn'
              go_wp2
              exact bodyPost_ret (v := .tuple #[.slice (some ⟨g, 0, none⟩) k c4, .slice A5 c.ops.length c5, .bool true]) (by simp [results, Try.results153, go_sem]) rfl ⟨HBWr.out, .inl ⟨_, _, _, _, rfl, own_base OW.out (by omega), by rw [← RGS.out]; exact own_base OS.out (by omega)⟩⟩
end Go.Proofs.Ytbbjgcagkmlngab
/- Orders of residues; powers by squaring, as data. -/
namespace Go.Proofs.Ytbbjgcagkmlngab
open Go.RowKit

/-- The least k in 1..n with P k, or 0. -/
def fstK (P : Nat → Bool) : Nat → Nat
  | 0 => 0
  | n + 1 => if fstK P n ≠ 0 then fstK P n else if P (n + 1) then n + 1 else 0
theorem fstK_none {P : Nat → Bool} : ∀ n, (∀ k, 1 ≤ k → k ≤ n → P k = false) → fstK P n = 0 := by
  intro n
  induction n with
  | zero => intro _; rfl
  | succ n ih =>
    intro h
    have h0 := ih (fun k h1 h2 => h k h1 (by omega))
    simp [fstK, h0, h (n + 1) (by omega) (by omega)]
theorem fstK_hit {P : Nat → Bool} {e : Nat} (he : 1 ≤ e) (hP : P e = true) (hno : ∀ k, 1 ≤ k → k < e → P k = false) : ∀ n, e ≤ n → fstK P n = e := by
  intro n
  induction n with
  | zero => intro h; omega
  | succ n ih =>
    intro h
    rcases Nat.lt_or_ge n e with h1 | h1
    · have e1 : e = n + 1 := by omega
      subst e1
      have h0 := fstK_none (P := P) n (fun k h1 h2 => hno k h1 (by omega))
      simp [fstK, h0, hP]
    · have h0 := ih h1
      simp only [fstK, h0]
      rw [if_pos (by omega)]

/-- The power e of x modulo m. -/
def pwm (m x e : Nat) : Nat := x ^ e % m
theorem pw_succ (m x e : Nat) : pwm m x (e + 1) = pwm m x e * x % m := by
  unfold pwm
  rw [Nat.pow_succ, Nat.mod_mul_mod]
theorem pw_one {m x : Nat} (h : x < m) : pwm m x 1 = x := by unfold pwm; rw [Nat.pow_one, Nat.mod_eq_of_lt h]
theorem pw_zero {m : Nat} (x : Nat) (h : 2 ≤ m) : pwm m x 0 = 1 := by unfold pwm; rw [Nat.pow_zero]; exact Nat.mod_eq_of_lt (by omega)
theorem pw_lt {m : Nat} (x e : Nat) (h : 0 < m) : pwm m x e < m := Nat.mod_lt _ h
theorem pw_add (m x a b : Nat) : pwm m x (a + b) = pwm m x a * pwm m x b % m := by
  unfold pwm
  rw [Nat.pow_add, Nat.mul_mod]
/-- The least order of a residue, or 0. -/
def ordN (m x : Nat) : Nat := fstK (fun e => pwm m x e == 1) (m - 1)

theorem pigN : ∀ (m : Nat) (l : List Nat), l.Nodup → (∀ x ∈ l, x < m) → l.length ≤ m := by
  intro m
  induction m with
  | zero =>
    intro l _ h
    cases l with
    | nil => simp
    | cons x l => have := h x (by simp); omega
  | succ m ih =>
    intro l hn h
    by_cases hm : m ∈ l
    · have h1 := ih (l.erase m) (hn.erase _) (fun x hx => by
        obtain ⟨h2, h3⟩ := (hn.mem_erase_iff).1 hx
        have := h x h3
        omega)
      rw [List.length_erase_of_mem hm] at h1
      omega
    · have h1 := ih l hn (fun x hx => by
        have h2 := h x hx
        have h3 : x ≠ m := fun e => hm (e ▸ hx)
        omega)
      omega
/-- Of n + 1 numbers below n two are the same. -/
theorem pig_two {n : Nat} (f : Nat → Nat) (h : ∀ i, i ≤ n → f i < n) : ∃ i j, i < j ∧ j ≤ n ∧ f i = f j := by
  apply Classical.byContradiction
  intro hno
  have h1 := pigN n ((List.range (n + 1)).map f) (by
    rw [List.nodup_iff_pairwise_ne, List.pairwise_iff_getElem]
    intro i j hi hj hij
    simp only [List.length_map, List.length_range] at hi hj
    simp only [List.getElem_map, List.getElem_range]
    intro he
    exact hno ⟨i, j, hij, by omega, he⟩) (by
    intro x hx
    obtain ⟨i, hi, rfl⟩ := List.mem_map.1 hx
    exact h i (by have := List.mem_range.1 hi; omega))
  simp at h1
  omega
/-- A power m that is 1 is none that is the first one. -/
theorem pw_first {m x : Nat} (hm : 2 ≤ m) (h : pwm m x m = 1) : ∃ e, 1 ≤ e ∧ e < m ∧ pwm m x e = 1 := by
  have hnz : ∀ k, k ≤ m → pwm m x k ≠ 0 := fun k hk h0 => by
    have := pw_add m x k (m - k)
    rw [show k + (m - k) = m by omega, h, h0] at this
    simp at this
  obtain ⟨i, j, hij, hj, he⟩ := pig_two (n := m - 1) (fun i => pwm m x (i + 1) - 1) (fun i hi => by
    have h1 := hnz (i + 1) (by omega)
    have h2 := pw_lt (m := m) x (i + 1) (by omega)
    omega)
  have h1 := hnz (i + 1) (by omega)
  have h2 := hnz (j + 1) (by omega)
  have h3 : pwm m x (i + 1) = pwm m x (j + 1) := by omega
  refine ⟨j - i, by omega, by omega, ?_⟩
  have h4 := pw_add m x (i + 1) (m - (i + 1))
  have h5 := pw_add m x (j + 1) (m - (i + 1))
  rw [h3, ← h5, show i + 1 + (m - (i + 1)) = m by omega, show j + 1 + (m - (i + 1)) = m + (j - i) by omega, pw_add, h] at h4
  rw [Nat.one_mul, Nat.mod_eq_of_lt (pw_lt x (j - i) (by omega))] at h4
  exact h4.symm
theorem ordN_none {m x : Nat} (hm : 2 ≤ m) (h : ∀ e, 1 ≤ e → e < m → pwm m x e ≠ 1) : ordN m x = 0 ∧ pwm m x m ≠ 1 :=
  ⟨fstK_none _ fun k h1 h2 => by simpa using h k h1 (by omega), fun hm1 => by
    obtain ⟨e, h1, h2, h3⟩ := pw_first hm hm1
    exact h e h1 h2 h3⟩
theorem ordN_hit {m x e : Nat} (h1 : 1 ≤ e) (h2 : e < m) (h : pwm m x e = 1) (hno : ∀ k, 1 ≤ k → k < e → pwm m x k ≠ 1) : ordN m x = e :=
  fstK_hit (P := fun e => pwm m x e == 1) h1 (by simpa using h) (fun k a b => by simpa using hno k a b) _ (by omega)

/-- The loop that multiplies by a power: first, then v as often as e says. -/
def pwr {α : Type} (mul : α → α → α) : Nat → Nat → α → α → α
  | 0, _, p, _ => p
  | f + 1, e, p, v => if e = 0 then p else pwr mul f (e / 2) (if e % 2 = 1 then mul p v else p) (mul v v)
theorem pwL_zero {α : Type} (mul : α → α → α) (f : Nat) (p v : α) : pwr mul f 0 p v = p := by cases f <;> simp [pwr]
theorem pwL_odd {α : Type} (mul : α → α → α) (f e : Nat) (p v : α) (h : e % 2 = 1) : pwr mul (f + 1) e p v = pwr mul f (e / 2) (mul p v) (mul v v) := by
  rw [pwr, if_neg (by omega), if_pos h]
theorem pwL_even {α : Type} (mul : α → α → α) (f e : Nat) (p v : α) (h0 : 0 < e) (h : e % 2 = 0) : pwr mul (f + 1) e p v = pwr mul f (e / 2) p (mul v v) := by
  rw [pwr, if_neg (by omega), if_neg (by omega)]
theorem half_lt {e f : Nat} (h : e < 2 ^ (f + 1)) : e / 2 < 2 ^ f := by rw [Nat.pow_succ] at h; omega

def mulM (m a b : Nat) : Nat := a * b % m
theorem pwL_closed (m : Nat) : ∀ (f e p v : Nat), e < 2 ^ f → p < m → pwr (mulM m) f e p v = p * v ^ e % m := by
  intro f
  induction f with
  | zero =>
    intro e p v he hp
    have h0 : e = 0 := by simpa using he
    subst h0
    simp [pwr, Nat.mod_eq_of_lt hp]
  | succ f ih =>
    intro e p v he hp
    have hm : 0 < m := by omega
    rcases Nat.eq_zero_or_pos e with rfl | h0
    · simp [pwr, Nat.mod_eq_of_lt hp]
    · have hh := half_lt he
      have hv : (mulM m v v) ^ (e / 2) % m = v ^ (2 * (e / 2)) % m := by
        unfold mulM
        rw [← Nat.pow_mod, Nat.pow_mul, Nat.pow_two]
      have h2 := Nat.mod_lt e (show 2 > 0 by omega)
      by_cases ho : e % 2 = 1
      · have hpv : mulM m p v < m := Nat.mod_lt _ hm
        rw [pwL_odd _ _ _ _ _ ho, ih _ _ _ hh hpv, Nat.mul_mod, hv]
        unfold mulM
        rw [Nat.mod_mod, ← Nat.mul_mod, Nat.mul_assoc, Nat.mul_comm v, ← Nat.pow_succ, show (2 * (e / 2)).succ = e by omega]
      · rw [pwL_even _ _ _ _ _ h0 (by omega), ih _ _ _ hh hp, Nat.mul_mod, hv, ← Nat.mul_mod, show 2 * (e / 2) = e by omega]
theorem pwL_one {m : Nat} (hm : 2 ≤ m) {f e v p : Nat} (he : e < 2 ^ f) (hp : p < m) : pwr (mulM m) f e p v = p * pwr (mulM m) f e (1 % m) v % m := by
  rw [pwL_closed m f e p v he hp, pwL_closed m f e _ v he (Nat.mod_lt _ (by omega)), Nat.mul_mod_mod, Nat.mod_eq_of_lt (show 1 < m by omega), Nat.one_mul]
end Go.Proofs.Ytbbjgcagkmlngab
/- Orders of steps: what they are; the model's. -/
namespace Go.Proofs.Ytbbjgcagkmlngab
open Go.RowKit

def ordAt (N : Nat) (p : Pl) (l : List Int) (i : Nat) : Bool := inB (l.getD i 0) 0 ((p.s.length : Int) - 1) && (!hasI (l.take i) (l.getD i 0) && (nmOk N (l.take i) (stepAt p l i).1 && nmOk N (l.take i) (stepAt p l i).2))
def ordK (N : Nat) (p : Pl) (l : List Int) (k : Nat) : Bool := (List.range k).all (ordAt N p l)
def ordB (N : Nat) (p : Pl) (l : List Int) : Bool := decide (l.length = p.s.length) && ordK N p l l.length
theorem ordK_succ (N : Nat) (p : Pl) (l : List Int) (k : Nat) : ordK N p l (k + 1) = (ordK N p l k && ordAt N p l k) := by
  unfold ordK
  rw [List.range_succ, List.all_append]
  simp
theorem ordB_bad {N : Nat} {p : Pl} {l : List Int} {k : Nat} (hk : k < l.length) (h : ordAt N p l k = false) : ordB N p l = false := by
  unfold ordB ordK
  rw [Bool.and_eq_false_iff]
  right
  rw [List.all_eq_false]
  exact ⟨k, by simpa using hk, by rw [h]; decide⟩
theorem rd_take {w : World} {B n k : Nat} {A : Option Addr} {xs : List Value} (h : Rd w B 1 A n xs) (hk : k ≤ n) : Rd w B 1 A k (xs.take k) := by
  have hl := h.1
  refine ⟨by simp; omega, fun hn => ?_⟩
  obtain ⟨b, off, e, hb, hc⟩ := h.2 (by omega)
  refine ⟨b, off, e, hb, fun j hj => ?_⟩
  rw [hc j (by omega), List.getElem?_take, if_pos (by omega)]

end Go.Proofs.Ytbbjgcagkmlngab
/- Six exponents in an array. -/
namespace Go.Proofs.Ytbbjgcagkmlngab
open Go.RowKit
theorem six_pad {N : Nat} {E : List (List Int)} (hE : OkR N E) (h6 : N ≤ 6) : Six (E.map (pad N)) := by
  intro r hr
  obtain ⟨r0, h0, rfl⟩ := List.mem_map.1 hr
  have := (hE r0 h0).1
  simp [pad]
  omega
theorem box4b {w w1 : World} {a b c d : Value} {t : TypeId} (h : w.alloc (.cells #[a, b, c, d] t) = w1) :
    w1.cell? ⟨w.heap.size, 0, none⟩ = some a ∧ w1.cell? ⟨w.heap.size, 1, none⟩ = some b ∧ w1.cell? ⟨w.heap.size, 2, none⟩ = some c ∧ w1.cell? ⟨w.heap.size, 3, none⟩ = some d ∧ w1.heap.size = w.heap.size + 1 ∧ Below w.heap.size w w1 := by
  subst h
  refine ⟨?_, ?_, ?_, ?_, by simp, (Below.refl _ _).alloc (Nat.le_refl _) _⟩ <;> (rw [World.cell?_alloc_at _ _ _ _ rfl]; rfl)
end Go.Proofs.Ytbbjgcagkmlngab
/- ReorderSteps, of the model and of the program. -/
namespace Go.Proofs.Ytbbjgcagkmlngab
open Go.RowKit

theorem pig : ∀ (m : Nat) (l : List Int), l.Nodup → (∀ x ∈ l, 0 ≤ x ∧ x < (m : Int)) → l.length ≤ m := by
  intro m
  induction m with
  | zero =>
    intro l _ h
    cases l with
    | nil => simp
    | cons x l => have := h x (by simp); omega
  | succ m ih =>
    intro l hn h
    by_cases hm : (m : Int) ∈ l
    · have h1 := ih (l.erase (m : Int)) (hn.erase _) (fun x hx => by
        obtain ⟨h2, h3⟩ := (hn.mem_erase_iff).1 hx
        have := h x h3
        omega)
      rw [List.length_erase_of_mem hm] at h1
      omega
    · have h1 := ih l hn (fun x hx => by
        have h2 := h x hx
        have h3 : x ≠ (m : Int) := fun e => hm (e ▸ hx)
        omega)
      omega
theorem pig_mem {m : Nat} {l : List Int} (hn : l.Nodup) (h : ∀ x ∈ l, 0 ≤ x ∧ x < (m : Int)) (hl : l.length = m) {x : Int} (h0 : 0 ≤ x) (h1 : x < m) : x ∈ l := by
  by_cases hx : x ∈ l
  · exact hx
  · exfalso
    have := pig m (x :: l) (List.nodup_cons.2 ⟨hx, hn⟩) (fun y hy => by
      rcases List.mem_cons.1 hy with rfl | hy
      · exact ⟨h0, h1⟩
      · exact h y hy)
    simp at this
    omega

def prmAt (m : Nat) (l : List Int) (i : Nat) : Bool := hasB (l.getD i 0) m && !hasI (l.take i) (l.getD i 0)
def prmK (m : Nat) (l : List Int) (k : Nat) : Bool := (List.range k).all (prmAt m l)
def prmB (m : Nat) (l : List Int) : Bool := decide (l.length = m) && prmK m l l.length
theorem prmK_succ (m : Nat) (l : List Int) (k : Nat) : prmK m l (k + 1) = (prmK m l k && prmAt m l k) := by
  unfold prmK
  rw [List.range_succ, List.all_append]
  simp
theorem prmB_bad {m : Nat} {l : List Int} {k : Nat} (hk : k < l.length) (h : prmAt m l k = false) : prmB m l = false := by
  unfold prmB prmK
  rw [Bool.and_eq_false_iff]
  right
  rw [List.all_eq_false]
  exact ⟨k, by simpa using hk, by rw [h]; decide⟩
theorem prm_facts {m : Nat} {l : List Int} (h : prmB m l = true) : l.length = m ∧ l.Nodup ∧ ∀ x ∈ l, 0 ≤ x ∧ x < (m : Int) := by
  unfold prmB prmK at h
  rw [Bool.and_eq_true, decide_eq_true_eq, List.all_eq_true] at h
  obtain ⟨h1, h2⟩ := h
  have key : ∀ i (hi : i < l.length), (0 ≤ l[i] ∧ l[i] < (m : Int)) ∧ hasI (l.take i) l[i] = false := fun i hi => by
    have h3 := h2 i (by simpa using hi)
    have e : l.getD i 0 = l[i] := by simp [hi]
    unfold prmAt at h3
    rw [e, Bool.and_eq_true] at h3
    refine ⟨by simpa [hasB] using h3.1, by simpa using h3.2⟩
  refine ⟨h1, ?_, fun x hx => ?_⟩
  · rw [List.nodup_iff_pairwise_ne, List.pairwise_iff_getElem]
    intro i j hi hj hij he
    have h3 := (key j hj).2
    unfold hasI at h3
    simp only [List.contains_eq_mem, decide_eq_false_iff_not] at h3
    refine h3 (List.mem_iff_getElem.2 ⟨i, by simp; omega, ?_⟩)
    rw [List.getElem_take]
    exact he
  · obtain ⟨i, hi, rfl⟩ := List.mem_iff_getElem.1 hx
    exact (key i hi).1
theorem ord_split (N : Nat) (p : Pl) (l : List Int) : ordB N p l = (prmB p.s.length l && kOk N p l l.length) := by
  unfold ordB prmB ordK prmK kOk
  rw [Bool.and_assoc]
  congr 1
  rw [Bool.eq_iff_iff, Bool.and_eq_true, List.all_eq_true, List.all_eq_true, List.all_eq_true]
  have hb : ∀ x : Int, inB x 0 ((p.s.length : Int) - 1) = hasB x p.s.length := fun x => by
    rw [Bool.eq_iff_iff]
    simp only [inB, hasB, Bool.and_eq_true, decide_eq_true_eq]
    omega
  constructor
  · intro h
    refine ⟨fun i hi => ?_, fun i hi => ?_⟩
    · have := h i hi
      unfold ordAt at this
      rw [Bool.and_eq_true, Bool.and_eq_true, hb] at this
      unfold prmAt
      rw [this.1, this.2.1]
      rfl
    · have := h i hi
      unfold ordAt at this
      rw [Bool.and_eq_true, Bool.and_eq_true] at this
      exact this.2.2
  · intro h i hi
    have h1 := h.1 i hi
    have h2 := h.2 i hi
    unfold prmAt at h1
    rw [Bool.and_eq_true] at h1
    unfold ordAt
    rw [hb, h1.1, h1.2, h2]
    rfl

theorem info_boolB : (Try.prog.info? 4).map (fun i => (i.zero, i.size, i.bytes)) = some (some (.bool false), 1, 1) := by kernel_rfl
def boolsB (l : List Int) (R : Nat) : List Value := (List.range R).map fun v : Nat => Value.bool (hasI l (v : Int))
theorem boolsB_length (l : List Int) (R : Nat) : (boolsB l R).length = R := by simp [boolsB]
theorem boolsB_nil (R : Nat) : boolsB [] R = List.replicate R (.bool false) := by
  apply List.ext_getElem?
  intro j
  by_cases hj : j < R <;> simp [boolsB, hj, hasI]
theorem boolsB_set (l : List Int) {R a : Nat} (ha : a < R) : (boolsB l R).set a (.bool true) = boolsB (l ++ [(a : Int)]) R := by
  apply List.ext_getElem?
  intro j
  by_cases hj : j < R
  · by_cases hja : a = j
    · subst hja
      rw [List.getElem?_set_self (by rw [boolsB_length]; exact ha)]
      simp [boolsB, ha, hasI]
    · rw [List.getElem?_set_ne hja]
      have : ¬ (j : Int) = (a : Int) := by omega
      simp [boolsB, hj, hasI, this]
  · rw [List.getElem?_eq_none (by simp [boolsB]; omega), List.getElem?_eq_none (by simp [boolsB]; omega)]
theorem boolsB_at (l : List Int) {R a : Nat} (ha : a < R) : (boolsB l R)[a]? = some (.bool (hasI l (a : Int))) := by simp [boolsB, ha]
theorem boolsB_own {w : World} {B : Nat} (n : Nat) (hn : n ≤ 1000) (hB : B ≤ w.heap.size) :
    (w.alloc (.cells (madeCells #[Value.bool false] n) 4)).ownsRow B 4 1 (.slice (some ⟨w.heap.size, 0, none⟩) n n) n (boolsB [] n) := by
  have h := World.ownsRow_lit (base := B) (e := 4) (size := 1) w (madeCells #[Value.bool false] n) n hB (by unfold maxLen; omega) (by simp [size_madeCells])
  rw [toList_madeCells_one] at h
  rw [boolsB_nil]
  exact h

set_option maxRecDepth 100000 in
set_option maxHeartbeats 2000000 in
theorem isOrderOf_any (B m : Nat) (AL : Option Addr) (cl : Nat) (l : List Int) (w : World) (hm : m ≤ 1000) (hll : l.length ≤ 1048576) (hB : B ≤ w.heap.size) (hrl : Rd w B 1 AL l.length (l.map I)) :
    Calls Try.prog 204 #[.slice AL l.length cl, .int .i64 (m : Int)] w fun e w' => e = .returned (.bool (prmB m l)) ∧ Below w.heap.size w w' := by
  have HL := Lib.hid hrl
  clear hrl
  by_cases hlen : l.length = m
  case neg =>
    have hb : prmB m l = false := by simp [prmB, hlen]
    have HBF := Lib.hid hb
    have hne : ((l.length : Int) != (m : Int)) = true := by rw [bne_iff_ne]; omega
    clear hb hlen
    go_enter Try.func204, Try.ntmps204
    go_wp2
    go_ret
    exact ⟨ret_bool HBF.out.symm, Below.refl _ _⟩
  case pos =>
  have hne : ((l.length : Int) != (m : Int)) = false := by simp [hlen]
  have HLEN := Lib.hid hlen
  have hmk := run_make_row' (P := Try.prog) 225 4 (.bool false) 1 Try.underlying225 info_boolB rfl .i64 .i64 m (by omega) (by omega)
  clear hlen
  go_enter Try.func204, Try.ntmps204
  go_wp2
  clear hmk
  generalize hw2 : World.alloc w _ = w2
  have hmade : w2.ownsRow w.heap.size 4 1 (.slice (some ⟨w.heap.size, 0, none⟩) m m) m (boolsB [] m) := by rw [← hw2]; exact boolsB_own m hm (Nat.le_refl _)
  have hb2 : Below w.heap.size w w2 := by rw [← hw2]; exact (Below.refl _ _).alloc (Nat.le_refl _) _
  clear hw2
  have HM := Lib.hid hmade
  have HB2 := Lib.hid hb2
  clear hmade hb2
  go_loopw [16] (fun iv wr => ∃ k : Nat, k ≤ l.length ∧ iv = .int .i64 k ∧ prmK m l k = true ∧ wr.ownsRow w.heap.size 4 1 (.slice (some ⟨w.heap.size, 0, none⟩) m m) m (boolsB (l.take k) m) ∧ Below w.heap.size w wr) (fun i _ => l.length - (intOf i).toNat)
  case atStart => exact ⟨0, by omega, rfl, rfl, HM.out, HB2.out⟩
  case round =>
    obtain ⟨k, hk, rfl, hq, hown, hbel⟩ := hrel
    have Q := Lib.hid hq
    have OWN := Lib.hid hown
    have BEL := Lib.hid hbel
    by_cases hlt : k < l.length
    · obtain ⟨lb, lo, rfl, hlb, hlc⟩ := (HL.out.below' hbel hB).int hlt
      obtain ⟨x, hx⟩ : ∃ x, l[k] = x := ⟨_, rfl⟩
      rw [hx] at hlc
      have hget : l.getD k 0 = x := by simp [hlt, hx]
      have HX := Lib.hid hx
      have HGET := Lib.hid hget
      clear hq hown hbel hx hget
      by_cases h0 : x < 0
      · have hb : prmB m l = false := prmB_bad hlt (by
          unfold prmAt hasB
          rw [HGET.out]
          have : ¬ 0 ≤ x := by omega
          simp [this])
        have HBF := Lib.hid hb
        clear hb
        go_wp2
        go_ret
        exact ⟨ret_bool HBF.out.symm, BEL.out⟩
      · by_cases h1 : (m : Int) ≤ x
        · have hb : prmB m l = false := prmB_bad hlt (by
            unfold prmAt hasB
            rw [HGET.out]
            have : ¬ x < (m : Int) := by omega
            simp [this])
          have HBF := Lib.hid hb
          clear hb
          go_wp2
          go_ret
          exact ⟨ret_bool HBF.out.symm, BEL.out⟩
        · obtain ⟨n, rfl⟩ : ∃ n : Nat, x = n := ⟨x.toNat, by omega⟩
          have hnm : n < m := by omega
          have inm : (n : Int) < (m : Int) := by omega
          have hc : wr.cell? ⟨w.heap.size, n, none⟩ = some (.bool (hasI (l.take k) (n : Int))) := by rw [OWN.out.cellAt _ (by omega)]; exact boolsB_at _ hnm
          have hf : wr.frozen? ⟨w.heap.size, n, none⟩ = false := OWN.out.frozenAt _
          have hnn : ¬ m ≤ n := by omega
          cases hh : hasI (l.take k) (n : Int) with
          | true =>
            rw [hh] at hc
            have hb : prmB m l = false := prmB_bad hlt (by
              unfold prmAt
              rw [HGET.out, hh]
              simp)
            have HBF := Lib.hid hb
            clear hb hh
            go_wp2
            go_ret
            exact ⟨ret_bool HBF.out.symm, BEL.out⟩
          | false =>
            rw [hh] at hc
            have hat : prmAt m l k = true := by
              unfold prmAt hasB
              rw [HGET.out, hh]
              simp [hnm]
            have HAT := Lib.hid hat
            clear hat hh
            go_wp2
            go_roundw
            case rel =>
              refine ⟨k + 1, by omega, by go_num, by rw [prmK_succ, Q.out, HAT.out]; rfl, ?_, BEL.out.setCell (Nat.le_refl _) _⟩
              have h := (OWN.out.stored n (.bool true)).1
              rw [boolsB_set _ hnm, ← HX.out, ← List.take_succ_eq_append_getElem hlt] at h
              exact h
            case measure => simp [intOf]; omega
    · have hk' : k = l.length := by omega
      rw [hk'] at hq
      have hb : prmB m l = true := by
        unfold prmB
        rw [hq, Bool.and_true]
        exact decide_eq_true HLEN.out
      have HBF := Lib.hid hb
      clear hb hq hk' hown hbel
      go_wp2
      go_ret
      exact ⟨ret_bool HBF.out.symm, BEL.out⟩
end Go.Proofs.Ytbbjgcagkmlngab
/- Permutations as data. -/
namespace Go.Proofs.Ytbbjgcagkmlngab
open Go.RowKit

/-- A list of as many numbers, each below their number. -/
def Pt (n : Nat) (l : List Int) : Prop := l.length = n ∧ ∀ x ∈ l, 0 ≤ x ∧ x < (n : Int)
/-- The product of two permutations. -/
def thn (a b : List Int) : List Int := a.map fun x => b.getD x.toNat 0
/-- Whether a list is a permutation. -/
def isPm (l : List Int) : Bool := decide (1 ≤ l.length) && (decide (l.length ≤ 8) && prmB l.length l)
theorem isPm_facts {l : List Int} (h : isPm l = true) : 1 ≤ l.length ∧ l.length ≤ 8 ∧ l.Nodup ∧ Pt l.length l := by
  unfold isPm at h
  simp only [Bool.and_eq_true, decide_eq_true_eq] at h
  obtain ⟨h1, h2, h3⟩ := h
  obtain ⟨_, h4, h5⟩ := prm_facts h3
  exact ⟨h1, h2, h4, rfl, h5⟩
theorem thn_len (a b : List Int) : (thn a b).length = a.length := by simp [thn]
theorem getD_mem6 {l : List Int} {i : Nat} (h : i < l.length) : l.getD i 0 ∈ l := by
  rw [List.getD_eq_getElem?_getD, List.getElem?_eq_getElem h]
  exact List.getElem_mem h
theorem Pt.at_ {n : Nat} {l : List Int} (h : Pt n l) {x : Int} (h0 : 0 ≤ x) (h1 : x < n) : 0 ≤ l.getD x.toNat 0 ∧ l.getD x.toNat 0 < (n : Int) :=
  h.2 _ (getD_mem6 (by rw [h.1]; omega))
theorem Pt.thn {n : Nat} {a b : List Int} (ha : Pt n a) (hb : Pt n b) : Pt n (thn a b) := by
  refine ⟨by rw [thn_len, ha.1], fun x hx => ?_⟩
  obtain ⟨y, hy, rfl⟩ := List.mem_map.1 hx
  obtain ⟨h0, h1⟩ := ha.2 y hy
  exact hb.at_ h0 h1
/-- Where a leads i in e steps. -/
def itf (a : List Int) : Nat → Int → Int
  | 0, i => i
  | e + 1, i => a.getD (itf a e i).toNat 0
theorem itf_rng {n : Nat} {a : List Int} (h : Pt n a) {x : Int} (h0 : 0 ≤ x) (h1 : x < n) : ∀ e, 0 ≤ itf a e x ∧ itf a e x < (n : Int) := by
  intro e
  induction e with
  | zero => exact ⟨h0, h1⟩
  | succ e ih => exact h.at_ ih.1 ih.2
theorem itf_add (a : List Int) (x : Int) (e : Nat) : ∀ k, itf a (e + k) x = itf a k (itf a e x) := by
  intro k
  induction k with
  | zero => rfl
  | succ k ih => show a.getD (itf a (e + k) x).toNat 0 = _; rw [ih]; rfl
theorem itf_first (a : List Int) (x : Int) (k : Nat) : itf a (k + 1) x = itf a k (a.getD x.toNat 0) := by
  rw [Nat.add_comm, itf_add]
  rfl
theorem thn_at {a b : List Int} {i : Nat} (h : i < a.length) : (thn a b).getD i 0 = b.getD (a.getD i 0).toNat 0 := by
  unfold thn
  simp [List.getD_eq_getElem?_getD, h]
theorem itf_two {n : Nat} {v : List Int} (hv : Pt n v) {x : Int} (h0 : 0 ≤ x) (h1 : x < n) : ∀ k, itf (thn v v) k x = itf v (2 * k) x := by
  intro k
  induction k with
  | zero => rfl
  | succ k ih =>
    obtain ⟨r0, r1⟩ := itf_rng hv h0 h1 (2 * k)
    show (thn v v).getD (itf (thn v v) k x).toNat 0 = v.getD (v.getD (itf v (2 * k) x).toNat 0).toNat 0
    rw [ih, thn_at (by rw [hv.1]; omega)]
theorem pwL_thn {n : Nat} : ∀ (f e : Nat) (p v : List Int), e < 2 ^ f → Pt n p → Pt n v → pwr thn f e p v = p.map (itf v e) := by
  intro f
  induction f with
  | zero =>
    intro e p v he _ _
    have h0 : e = 0 := by simpa using he
    subst h0
    show p = p.map fun x => x
    simp
  | succ f ih =>
    intro e p v he hp hv
    rcases Nat.eq_zero_or_pos e with rfl | h0
    · show p = p.map fun x => x
      simp
    · have hh := half_lt he
      have h2 := Nat.mod_lt e (show 2 > 0 by omega)
      by_cases ho : e % 2 = 1
      · rw [pwL_odd _ _ _ _ _ ho, ih _ _ _ hh (hp.thn hv) (hv.thn hv)]
        unfold thn
        rw [List.map_map]
        refine List.map_congr_left fun x hx => ?_
        obtain ⟨r0, r1⟩ := hp.2 x hx
        obtain ⟨q0, q1⟩ := hv.at_ r0 r1
        show itf (Go.Proofs.Ytbbjgcagkmlngab.thn v v) (e / 2) (v.getD x.toNat 0) = _
        rw [itf_two hv q0 q1, ← itf_first, show 2 * (e / 2) + 1 = e by omega]
      · rw [pwL_even _ _ _ _ _ h0 (by omega), ih _ _ _ hh hp (hv.thn hv)]
        refine List.map_congr_left fun x hx => ?_
        obtain ⟨r0, r1⟩ := hp.2 x hx
        rw [itf_two hv r0 r1, show 2 * (e / 2) = e by omega]
theorem ups_pt (n : Nat) : Pt n (ups n) := by
  refine ⟨ups_length n, fun x hx => ?_⟩
  unfold ups at hx
  obtain ⟨i, hi, rfl⟩ := List.mem_map.1 hx
  have := List.mem_range.1 hi
  omega
/-- The power e of a permutation. -/
def itr (a : List Int) (e : Nat) : List Int := (ups a.length).map (itf a e)
theorem itr_len (a : List Int) (e : Nat) : (itr a e).length = a.length := by simp [itr, ups_length]
theorem itr_pt {n : Nat} {a : List Int} (h : Pt n a) (e : Nat) : Pt n (itr a e) := by
  refine ⟨by rw [itr_len, h.1], fun x hx => ?_⟩
  unfold itr at hx
  obtain ⟨y, hy, rfl⟩ := List.mem_map.1 hx
  obtain ⟨r0, r1⟩ := (ups_pt a.length).2 y hy
  rw [h.1] at r1
  exact itf_rng h r0 r1 e
theorem itr_zero (a : List Int) : itr a 0 = ups a.length := by
  show (ups a.length).map (fun x => x) = _
  simp
theorem itr_one (a : List Int) : itr a 1 = a := by
  apply List.ext_getElem (by rw [itr_len])
  intro i h1 h2
  unfold itr ups
  simp [itf, h2]
theorem itr_succ (a : List Int) (e : Nat) : thn (itr a e) a = itr a (e + 1) := by
  unfold thn itr
  rw [List.map_map]
  rfl
theorem pwL_itr {n : Nat} {a : List Int} (h : Pt n a) {f e : Nat} (he : e < 2 ^ f) : pwr thn f e (ups a.length) a = itr a e := by
  have h' : Pt a.length a := ⟨rfl, by rw [h.1]; exact h.2⟩
  exact pwL_thn f e _ a he (ups_pt _) h'

theorem getD_inj {l : List Int} (hn : l.Nodup) {i j : Nat} (hi : i < l.length) (hj : j < l.length) (h : l.getD i 0 = l.getD j 0) : i = j := by
  rw [List.getD_eq_getElem?_getD, List.getD_eq_getElem?_getD, List.getElem?_eq_getElem hi, List.getElem?_eq_getElem hj] at h
  simp only [Option.getD_some] at h
  apply Classical.byContradiction
  intro hne
  rw [List.nodup_iff_pairwise_ne, List.pairwise_iff_getElem] at hn
  rcases Nat.lt_or_ge i j with h1 | h1
  · exact hn i j hi hj h1 h
  · exact hn j i hj hi (by omega) h.symm
theorem itf_inj {n : Nat} {a : List Int} (h : Pt n a) (hn : a.Nodup) {x y : Int} (x0 : 0 ≤ x) (x1 : x < n) (y0 : 0 ≤ y) (y1 : y < n) : ∀ e, itf a e x = itf a e y → x = y := by
  intro e
  induction e with
  | zero => exact fun h => h
  | succ e ih =>
    intro he
    obtain ⟨r0, r1⟩ := itf_rng h x0 x1 e
    obtain ⟨q0, q1⟩ := itf_rng h y0 y1 e
    have hl := h.1
    have := getD_inj hn (by omega) (by omega) he
    exact ih (by omega)
/-- Each point comes back within as many steps as there are points. -/
theorem itf_back {n : Nat} {a : List Int} (h : Pt n a) (hn : a.Nodup) {x : Int} (x0 : 0 ≤ x) (x1 : x < n) : ∃ k, 1 ≤ k ∧ k ≤ n ∧ itf a k x = x := by
  obtain ⟨i, j, hij, hj, he⟩ := pig_two (n := n) (fun i => (itf a i x).toNat) (fun i _ => by
    obtain ⟨r0, r1⟩ := itf_rng h x0 x1 i
    omega)
  obtain ⟨r0, r1⟩ := itf_rng h x0 x1 i
  obtain ⟨q0, q1⟩ := itf_rng h x0 x1 j
  obtain ⟨s0, s1⟩ := itf_rng h x0 x1 (j - i)
  have e1 : itf a i x = itf a j x := by omega
  have e2 := itf_add a x (j - i) i
  rw [show j - i + i = j by omega, ← e1] at e2
  exact ⟨j - i, by omega, by omega, (itf_inj h hn x0 x1 s0 s1 i e2).symm⟩
theorem itf_mul {a : List Int} {x : Int} {k : Nat} (h : itf a k x = x) : ∀ t, itf a (k * t) x = x := by
  intro t
  induction t with
  | zero => rfl
  | succ t ih => rw [Nat.mul_succ, itf_add, ih, h]
theorem itr_840 {n : Nat} {a : List Int} (h : Pt n a) (hn : a.Nodup) (h8 : n ≤ 8) : itr a 840 = ups a.length := by
  unfold itr
  rw [show ups a.length = (ups a.length).map (fun x => x) by simp]
  rw [List.map_map]
  refine List.map_congr_left fun x hx => ?_
  obtain ⟨x0, x1⟩ := (ups_pt a.length).2 x hx
  rw [h.1] at x1
  obtain ⟨k, k1, k2, hk⟩ := itf_back h hn x0 x1
  obtain ⟨t, ht⟩ : ∃ t, 840 = k * t := by
    match k, k1, (show k ≤ 8 by omega) with
    | 1, _, _ => exact ⟨840, rfl⟩
    | 2, _, _ => exact ⟨420, rfl⟩
    | 3, _, _ => exact ⟨280, rfl⟩
    | 4, _, _ => exact ⟨210, rfl⟩
    | 5, _, _ => exact ⟨168, rfl⟩
    | 6, _, _ => exact ⟨140, rfl⟩
    | 7, _, _ => exact ⟨120, rfl⟩
    | 8, _, _ => exact ⟨105, rfl⟩
  show itf a 840 x = x
  rw [ht]
  exact itf_mul hk t
/-- The least power that leads each point to itself. -/
def ordP (a : List Int) : Nat := fstK (fun e => itr a e == ups a.length) 840
theorem ordP_hit {a : List Int} {e : Nat} (h1 : 1 ≤ e) (h2 : e ≤ 840) (h : itr a e = ups a.length) (hno : ∀ k, 1 ≤ k → k < e → itr a k ≠ ups a.length) : ordP a = e :=
  fstK_hit (P := fun e => itr a e == ups a.length) h1 (by simpa using h) (fun k a b => by simpa using hno k a b) _ h2
theorem fstK_pos {P : Nat → Bool} {e : Nat} : ∀ n, 1 ≤ e → e ≤ n → P e = true → 1 ≤ fstK P n := by
  intro n
  induction n with
  | zero => intro _ _; omega
  | succ n ih =>
    intro h1 h2 h3
    simp only [fstK]
    split
    · omega
    · rename_i h4
      have h5 : fstK P n = 0 := by omega
      rcases Nat.lt_or_ge n e with h6 | h6
      · have : e = n + 1 := by omega
        subst this
        rw [h3]
        simp
      · have := ih h1 h6 h3
        omega
theorem fstK_le (P : Nat → Bool) : ∀ n, fstK P n ≤ n := by
  intro n
  induction n with
  | zero => exact Nat.le_refl _
  | succ n ih =>
    simp only [fstK]
    split
    · omega
    · split <;> omega
theorem fstK_is {P : Nat → Bool} : ∀ n, fstK P n ≠ 0 → P (fstK P n) = true := by
  intro n
  induction n with
  | zero => intro h; exact absurd rfl h
  | succ n ih =>
    intro h
    simp only [fstK] at h ⊢
    by_cases h1 : fstK P n ≠ 0
    · rw [if_pos h1]; exact ih h1
    · rw [if_neg h1] at h ⊢
      by_cases h2 : P (n + 1) = true
      · rw [if_pos h2]; exact h2
      · rw [if_neg h2] at h; exact absurd rfl h
theorem fstK_before {P : Nat → Bool} {k : Nat} : ∀ n, k < fstK P n → 1 ≤ k → P k = false := by
  intro n
  induction n with
  | zero => intro h; exact absurd h (by simp [fstK])
  | succ n ih =>
    intro h h1
    simp only [fstK] at h
    by_cases h2 : fstK P n ≠ 0
    · rw [if_pos h2] at h; exact ih h h1
    · rw [if_neg h2] at h
      cases hk : P k with
      | false => rfl
      | true =>
        split at h
        · have := fstK_pos n h1 (by omega) hk; omega
        · omega
theorem ordP_pos {n : Nat} {a : List Int} (h : Pt n a) (hn : a.Nodup) (h8 : n ≤ 8) : 1 ≤ ordP a ∧ ordP a ≤ 840 :=
  ⟨fstK_pos (e := 840) _ (by omega) (by omega) (by simpa using itr_840 h hn h8), fstK_le _ _⟩
theorem ordP_is {a : List Int} (h : 1 ≤ ordP a) : itr a (ordP a) = ups a.length := by
  have := fstK_is (P := fun e => itr a e == ups a.length) 840 (by unfold ordP at h; omega)
  unfold ordP
  simpa using this
theorem ordP_before {a : List Int} {k : Nat} (h : k < ordP a) (h1 : 1 ≤ k) : itr a k ≠ ups a.length := by
  have := fstK_before (P := fun e => itr a e == ups a.length) 840 h h1
  simpa using this

/-- Whether each number is at most the next one. -/
def srtB (l : List Int) : Bool := (List.range (l.length - 1)).all fun i => decide (l.getD i 0 ≤ l.getD (i + 1) 0)
theorem srt_ups {l : List Int} {n : Nat} (hp : Pt n l) (hn : l.Nodup) : srtB l = true ↔ l = ups l.length := by
  unfold srtB
  rw [List.all_eq_true]
  constructor
  · intro h
    have h1 : ∀ i, i + 1 < l.length → l.getD i 0 < l.getD (i + 1) 0 := fun i hi => by
      have h2 := h i (by simp; omega)
      simp only [decide_eq_true_eq] at h2
      have h3 : l.getD i 0 ≠ l.getD (i + 1) 0 := fun he => by
        have := getD_inj hn (by omega) hi he
        omega
      omega
    have h2 : ∀ i, i < l.length → (i : Int) ≤ l.getD i 0 := by
      intro i
      induction i with
      | zero => intro hi; exact (hp.2 _ (getD_mem6 hi)).1
      | succ i ih => intro hi; have := ih (by omega); have := h1 i hi; omega
    have h3 : ∀ k i, i + k + 1 = l.length → l.getD i 0 ≤ (i : Int) := by
      intro k
      induction k with
      | zero => intro i hi; have := (hp.2 _ (getD_mem6 (l := l) (i := i) (by omega))).2; have := hp.1; omega
      | succ k ih => intro i hi; have := ih (i + 1) (by omega); have := h1 i (by omega); omega
    apply List.ext_getElem (by rw [ups_length])
    intro i hi _
    have a1 := h2 i hi
    have a2 := h3 (l.length - 1 - i) i (by omega)
    have e : l.getD i 0 = l[i] := by simp [hi]
    simp only [ups, List.getElem_map, List.getElem_range]
    omega
  · intro h i hi
    simp at hi
    rw [h]
    have h4 : i < l.length := by omega
    have h5 : i + 1 < l.length := by omega
    simp [ups, List.getD_eq_getElem?_getD, h4, h5]
    omega
theorem itr_nodup {n : Nat} {a : List Int} (h : Pt n a) (hn : a.Nodup) (e : Nat) : (itr a e).Nodup := by
  unfold itr
  rw [List.nodup_iff_pairwise_ne, List.pairwise_iff_getElem]
  intro i j hi hj hij he
  simp only [List.length_map, ups_length] at hi hj
  simp only [List.getElem_map, ups, List.getElem_range] at he
  have hl := h.1
  have := itf_inj h hn (by omega) (by omega) (by omega) (by omega) e he
  omega
end Go.Proofs.Ytbbjgcagkmlngab
/- Runs of plans over values of any kind, as data. -/
namespace Go.Proofs.Ytbbjgcagkmlngab
open Go.RowKit

section
variable {α : Type}
/-- The product of a step. -/
def prd (mul : α → α → α) (z : α) (vs : List α) (s : Int × Int) : α := mul (vs.getD s.1.toNat z) (vs.getD s.2.toNat z)
/-- All values of a plan, or nothing if one is none. -/
def runG (has : α → Bool) (mul : α → α → α) (z : α) : List α → List (Int × Int) → Option (List α)
  | vs, [] => some vs
  | vs, s :: r => if has (prd mul z vs s) then runG has mul z (vs ++ [prd mul z vs s]) r else none
variable {has : α → Bool} {mul : α → α → α} {z : α}
theorem runG_good {vs : List α} {s : List (Int × Int)} {k : Nat} (hk : k < s.length) (h : has (prd mul z vs s[k]) = true) : runG has mul z vs (s.drop k) = runG has mul z (vs ++ [prd mul z vs s[k]]) (s.drop (k + 1)) := by
  rw [List.drop_eq_getElem_cons hk, runG, if_pos h]
theorem runG_bad {vs : List α} {s : List (Int × Int)} {k : Nat} (hk : k < s.length) (h : has (prd mul z vs s[k]) = false) : runG has mul z vs (s.drop k) = none := by
  rw [List.drop_eq_getElem_cons hk, runG, h]; rfl
theorem runG_end {vs : List α} {s : List (Int × Int)} {k : Nat} (hk : s.length ≤ k) : runG has mul z vs (s.drop k) = some vs := by
  rw [List.drop_eq_nil_of_le hk, runG]
/-- Where all products are values, nothing fails. -/
theorem runG_all {N : Nat} (hm : ∀ a b, has a = true → has b = true → has (mul a b) = true) : ∀ (s : List (Int × Int)) (vs : List α), vs.length = N → (∀ x ∈ vs, has x = true) → (∀ i (h : i < s.length), 0 ≤ (s[i]).1 ∧ (s[i]).1 ≤ (s[i]).2 ∧ (s[i]).2 < N + i) →
    ∃ V, runG has mul z vs s = some V ∧ V.length = N + s.length ∧ ∀ x ∈ V, has x = true := by
  intro s
  induction s generalizing N with
  | nil => intro vs hl hv _; exact ⟨vs, rfl, by simpa using hl, hv⟩
  | cons q r ih =>
    intro vs hl hv hs
    obtain ⟨h0, h1, h2⟩ := hs 0 (by simp)
    simp only [List.getElem_cons_zero] at h0 h1 h2
    have hin : ∀ x : Int, 0 ≤ x → x < N → has (vs.getD x.toNat z) = true := fun x a b => by
      have hx : x.toNat < vs.length := by omega
      rw [List.getD_eq_getElem?_getD, List.getElem?_eq_getElem hx]
      exact hv _ (List.getElem_mem hx)
    have hp : has (prd mul z vs q) = true := hm _ _ (hin _ h0 (by omega)) (hin _ (by omega) (by omega))
    obtain ⟨V, e, hV, hh⟩ := ih (N := N + 1) (vs ++ [prd mul z vs q]) (by simp [hl]) (by
      intro x hx
      rcases List.mem_append.1 hx with hx | hx
      · exact hv x hx
      · rw [List.mem_singleton.1 hx]; exact hp) (by
      intro i hi
      have := hs (i + 1) (by simpa using hi)
      simp only [List.getElem_cons_succ] at this
      refine ⟨this.1, this.2.1, ?_⟩
      have := this.2.2
      push_cast at this ⊢
      omega)
    refine ⟨V, by rw [runG, if_pos hp]; exact e, by rw [hV]; simp; omega, hh⟩
theorem runG_len {N : Nat} : ∀ (s : List (Int × Int)) (vs V : List α), vs.length = N → runG has mul z vs s = some V → V.length = N + s.length := by
  intro s
  induction s generalizing N with
  | nil => intro vs V hl h; rw [runG] at h; cases h; simpa using hl
  | cons q r ih =>
    intro vs V hl h
    rw [runG] at h
    split at h
    · have := ih (N := N + 1) _ _ (by simp [hl]) h
      rw [this]; simp; omega
    · cases h
/-- The values of the outputs. -/
def outs (z : α) (V : List α) (o : List Int) : List α := o.map fun x => V.getD x.toNat z
theorem outs_len (z : α) (V : List α) (o : List Int) : (outs z V o).length = o.length := by simp [outs]
end

def mulR (m : Nat) (a b : Int) : Int := a * b % (m : Int)
def inR (m : Int) (x : Int) : Bool := inB m 2 10000 && inB x 0 (m - 1)
theorem inR_rng {m x : Int} (h : inR m x = true) : 2 ≤ m ∧ m ≤ 10000 ∧ 0 ≤ x ∧ x < m := by
  unfold inR inB at h
  simp only [Bool.and_eq_true, decide_eq_true_eq] at h
  omega
theorem mulR_in {m : Nat} {a b : Int} (ha : inR m a = true) (_ : inR m b = true) : inR m (mulR m a b) = true := by
  obtain ⟨h1, h2, _, _⟩ := inR_rng ha
  have h3 := Int.emod_nonneg (a * b) (b := (m : Int)) (by omega)
  have h4 := Int.emod_lt_of_pos (a * b) (b := (m : Int)) (by omega)
  unfold inR inB mulR
  simp only [Bool.and_eq_true, decide_eq_true_eq]
  omega
theorem mulR_nat (m a b : Nat) : mulR m (a : Int) (b : Int) = ((mulM m a b : Nat) : Int) := by unfold mulR mulM; push_cast; rfl
theorem pwL_nat (m : Nat) : ∀ (f e a b : Nat), pwr (mulR m) f e (a : Int) (b : Int) = ((pwr (mulM m) f e a b : Nat) : Int) := by
  intro f
  induction f with
  | zero => intro e a b; rfl
  | succ f ih =>
    intro e a b
    rcases Nat.eq_zero_or_pos e with rfl | h0
    · rfl
    · have h2 := Nat.mod_lt e (show 2 > 0 by omega)
      by_cases ho : e % 2 = 1
      · rw [pwL_odd _ _ _ _ _ ho, pwL_odd _ _ _ _ _ ho, mulR_nat, mulR_nat, ih]
      · rw [pwL_even _ _ _ _ _ h0 (by omega), pwL_even _ _ _ _ _ h0 (by omega), mulR_nat, ih]
/-- Products of powers: the first k. -/
def pmK (m : Nat) (es xs : List Int) : Nat → Nat
  | 0 => 1
  | k + 1 => pwr (mulM m) 20 (es.getD k 0).toNat (pmK m es xs k) (xs.getD k 0).toNat
theorem pwL_lt {m : Nat} (hm : 0 < m) : ∀ (f e p v : Nat), p < m → pwr (mulM m) f e p v < m := by
  intro f
  induction f with
  | zero => intro e p v h; exact h
  | succ f ih =>
    intro e p v h
    rw [pwr]
    split
    · exact h
    · refine ih _ _ _ ?_
      split
      · exact Nat.mod_lt _ hm
      · exact h
theorem pmK_lt {m : Nat} (hm : 2 ≤ m) (es xs : List Int) : ∀ k, pmK m es xs k < m := by
  intro k
  induction k with
  | zero => show 1 < m; omega
  | succ k ih => exact pwL_lt (by omega) _ _ _ _ ih
end Go.Proofs.Ytbbjgcagkmlngab
/- Residues: orders, of the model and of the program. -/
namespace Go.Proofs.Ytbbjgcagkmlngab
open Go.RowKit

theorem nremI (a m : Nat) : ((a : Nat) : Int) % (m : Int) = ((a % m : Nat) : Int) := by push_cast; rfl
theorem tmodN (P m : Nat) : (P : Int).tmod (m : Int) = ((P % m : Nat) : Int) := by rw [Int.tmod_eq_emod_of_nonneg (Int.natCast_nonneg P)]; exact nremI P m
theorem inR_eq (m x : Int) : inR m x = (decide (2 ≤ m) && (decide (m ≤ 10000) && (decide (0 ≤ x) && decide (x < m)))) := by
  rw [Bool.eq_iff_iff]
  simp only [inR, inB, Bool.and_eq_true, decide_eq_true_eq]
  omega
set_option maxHeartbeats 1000000 in
theorem resHas_any (m x : Int) (w : World) : Calls Try.prog 195 #[.agg #[.int .i64 m], .int .i64 x] w fun e w' => e = .returned (.bool (inR m x)) ∧ Below w.heap.size w w' := by
  have hc : (¬ 2 ≤ m) ∨ (2 ≤ m ∧ ¬ m ≤ 10000) ∨ (2 ≤ m ∧ m ≤ 10000 ∧ ¬ 0 ≤ x) ∨ (2 ≤ m ∧ m ≤ 10000 ∧ 0 ≤ x ∧ ¬ x < m) ∨ (2 ≤ m ∧ m ≤ 10000 ∧ 0 ≤ x ∧ x < m) := by omega
  obtain ⟨b, hb⟩ : ∃ b, inR m x = b := ⟨_, rfl⟩
  have HB := Lib.hid hb
  rw [hb]
  clear hb
  rcases hc with h1 | ⟨h1, h2⟩ | ⟨h1, h2, h3⟩ | ⟨h1, h2, h3, h4⟩ | ⟨h1, h2, h3, h4⟩
  all_goals
    go_enter Try.func195, Try.ntmps195
    go_wp2
    go_ret
    exact ⟨ret_bool (by rw [← HB.out, inR_eq]; simp [*] <;> omega), (Below.refl _ _).alloc (Nat.le_refl _) _⟩
theorem mulM_lt {m a b : Nat} (h : 2 ≤ m) : mulM m a b < m := Nat.mod_lt _ (by omega)
theorem mulM_int (m a b : Nat) : ((mulM m a b : Nat) : Int) = (a : Int) * (b : Int) % (m : Int) := by unfold mulM; push_cast; rfl
theorem prod_le {m a b : Nat} (hm : m ≤ 10000) (ha : a < m) (hb : b < m) : a * b ≤ 100000000 := Nat.le_trans (Nat.mul_le_mul (show a ≤ 10000 by omega) (show b ≤ 10000 by omega)) (by omega)
theorem wrapN {P : Nat} (h : P ≤ 100000000) : IntKind.i64.wrap ((P : Nat) : Int) = ((P : Nat) : Int) := IntWalk.i64_in _ (by omega)
theorem wrapP {m a b : Nat} (hm : m ≤ 10000) (ha : a < m) (hb : b < m) : IntKind.i64.wrap ((a : Int) * (b : Int)) = ((a * b : Nat) : Int) := by
  rw [show (a : Int) * (b : Int) = ((a * b : Nat) : Int) by push_cast; rfl]
  exact wrapN (prod_le hm ha hb)
set_option maxHeartbeats 1000000 in
theorem resMul_any (m a b : Nat) (w : World) (h2 : 2 ≤ m) (hm : m ≤ 10000) (ha : a < m) (hb : b < m) :
    Calls Try.prog 196 #[.agg #[.int .i64 (m : Int)], .int .i64 (a : Int), .int .i64 (b : Int)] w fun e w' => e = .returned (.int .i64 ((mulM m a b : Nat) : Int)) ∧ Below w.heap.size w w' := by
  have hp := prod_le hm ha hb
  have E := Lib.hid (mulM_int m a b)
  have e1 : (a : Int) * (b : Int) = ((a * b : Nat) : Int) := by push_cast; rfl
  rw [e1] at E
  have hw : wrap64 ((a : Int) * (b : Int)) = ((a * b : Nat) : Int) := by rw [e1]; unfold wrap64; omega
  have hm0 : ((m : Int) == 0) = false := by simp; omega
  obtain ⟨P, hP⟩ : ∃ P, a * b = P := ⟨_, rfl⟩
  rw [hP] at hw hp E
  clear hP e1
  go_enter Try.func196, Try.ntmps196
  go_wp2
  go_ret
  exact ⟨by rw [E.out]; rfl, (Below.refl _ _).alloc (Nat.le_refl _) _⟩

theorem moModulus_any (m : Int) (w : World) : Calls Try.prog 100 #[.int .i64 m] w fun e w' => e = .returned (.bool (inB m 2 10000)) ∧ w = w' := by
  go_enter Try.func100, Try.ntmps100
  go_wp2_with (go_at_call 85; refine (l1In_any _ _ _ _).mono ?_; rintro e w' ⟨rfl, rfl⟩)
  go_ret
  exact ⟨rfl, rfl⟩

/-- The order of a residue. -/
def ordG (x m : Int) : Bool := inR m x && decide (ordN m.toNat x.toNat ≠ 0)
def ordV (x m : Int) : Int := if inR m x then (ordN m.toNat x.toNat : Int) else 0
theorem ord_bad {x m : Int} (h : inR m x = false) : ordG x m = false ∧ ordV x m = 0 := by unfold ordG ordV; rw [h]; exact ⟨rfl, rfl⟩
theorem ord_is {M X e : Nat} (h : inR M X = true) (he : ordN M X = e) : ordG X M = decide (e ≠ 0) ∧ ordV X M = (e : Int) := by
  unfold ordG ordV
  rw [h, show (M : Int).toNat = M by omega, show (X : Int).toNat = X by omega, he]
  exact ⟨rfl, rfl⟩

theorem box1 {w w1 : World} {a : Value} {t : TypeId} (h : w.alloc (.cells #[a] t) = w1) :
    w1.cell? ⟨w.heap.size, 0, none⟩ = some a ∧ w1.heap.size = w.heap.size + 1 ∧ Below w.heap.size w w1 := by
  subst h
  refine ⟨?_, by simp, (Below.refl _ _).alloc (Nat.le_refl _) _⟩
  rw [World.cell?_alloc_at _ _ _ _ rfl]; rfl

end Go.Proofs.Ytbbjgcagkmlngab
/- Plans run on residues, by the model. -/
namespace Go.Proofs.Ytbbjgcagkmlngab
open Go.RowKit

theorem outs_take (l o : List Int) {k : Nat} (hk : k < o.length) {v : Nat} (hv : o[k] = (v : Int)) (hl : v < l.length) : outs 0 l (o.take (k + 1)) = outs 0 l (o.take k) ++ [l[v]] := by
  unfold outs
  rw [List.take_succ_eq_append_getElem hk, List.map_append, hv]
  simp [hl]

set_option maxRecDepth 100000 in
set_option maxHeartbeats 2000000 in
theorem moPick_any (B : Nat) (A A' : Option Addr) (c c' : Nat) (l o : List Int) (w : World) (hl : o.length ≤ 1000) (hB : B ≤ w.heap.size) (hin : ∀ x ∈ o, 0 ≤ x ∧ x < l.length) (hr : Rd w B 1 A l.length (l.map I)) (hr' : Rd w B 1 A' o.length (o.map I)) :
    Calls Try.prog 125 #[.slice A l.length c, .slice A' o.length c'] w fun e w' => ∃ A2 c2, e = .returned (.slice A2 o.length c2) ∧ OwI w' w.heap.size (.slice A2 o.length c2) (outs 0 l o) ∧ Below w.heap.size w w' := by
  have H := Lib.hid hr
  have H' := Lib.hid hr'
  have HIN := Lib.hid hin
  clear hr hr' hin
  go_enter Try.func125, Try.ntmps125
  go_wp2
  go_loopw [5, 10] (fun ov iv wr => ∃ (k : Nat) (A1 : Option Addr) (c1 : Nat), k ≤ o.length ∧ iv = .int .i64 (k : Int) ∧ ov = .slice A1 k c1 ∧ OwI wr w.heap.size ov (outs 0 l (o.take k)) ∧ Below w.heap.size w wr) (fun _ iv _ => o.length - (intOf iv).toNat)
  case atStart => exact ⟨0, none, 0, by omega, rfl, rfl, OwI.nil _ _, Below.refl _ _⟩
  case round =>
    obtain ⟨k, A1, c1, hk, rfl, rfl, hown, hbel⟩ := hrel
    have OWN := Lib.hid hown
    have BEL := Lib.hid hbel
    have hs := hbel.size
    by_cases hlt : k < o.length
    · obtain ⟨ob, oo, rfl, hob, hoc⟩ := (H'.out.below' hbel hB).int hlt
      obtain ⟨q1, q2⟩ := HIN.out _ (List.getElem_mem hlt)
      obtain ⟨v, hv⟩ : ∃ v : Nat, o[k] = v := ⟨(o[k]).toNat, by omega⟩
      rw [hv] at hoc q2
      have hvl : v < l.length := by omega
      obtain ⟨nb, no, rfl, hnb, hnc⟩ := (H.out.below' hbel hB).int hvl
      have E1 := Lib.hid (outs_take l o hlt hv hvl)
      have EL := Lib.hid (show (outs 0 l (o.take k)).length = k by rw [outs_len, List.length_take]; omega)
      obtain ⟨u, hu⟩ : ∃ u, l[v] = u := ⟨_, rfl⟩
      rw [hu] at hnc E1
      have ik : (k : Int) < (o.length : Int) := by omega
      have iv : (v : Int) < (l.length : Int) := by omega
      clear hu hv q1 q2 hown hbel hvl
      go_wp2_with (at_builtin; refine list_step (fun K hK => ?_); refine step_app_int rfl (.tmp 14) (.tmp 19) rfl w.heap.size k _ (outs 0 l (o.take k)) rfl (OWN.out.alloc _) EL.out wr.heap.size 1 u rfl (by simp) (by omega) (by simp; omega) ?_; intro A3 c3 w3 hown3 hg3 hbel3; go_simp; refine hK _ _ ?_; clear hK K)
      go_roundw
      case rel => exact ⟨k + 1, A3, c3, by omega, by go_num, rfl, by rw [E1.out]; exact hown3, (BEL.out.alloc hs _).trans hbel3⟩
      case measure => simp [intOf]; omega
    · have hk' : k = o.length := by omega
      subst hk'
      rw [List.take_of_length_le (Nat.le_refl _)] at OWN
      clear hown hbel
      go_wp2
      go_ret
      exact ⟨A1, c1, rfl, OWN.out, BEL.out⟩

theorem getD_at {l : List Int} {i : Nat} (h : i < l.length) : l.getD i 0 = l[i] := by simp [h]

end Go.Proofs.Ytbbjgcagkmlngab
/- The plan of code of registers, by the model. -/
namespace Go.Proofs.Ytbbjgcagkmlngab
open Go.RowKit

theorem map_reg_take {l o : List Int} {k : Nat} (hk : k < o.length) : (o.take (k + 1)).map (reg l) = (o.take k).map (reg l) ++ [reg l o[k]] := by
  rw [List.take_succ_eq_append_getElem hk, List.map_append]
  rfl
/-- The plan that the model gives back, whatever it is where there is no code. -/
def PlanV (w w' : World) (c : Rc) (V : Value) : Prop := (rcB c = true → ∃ R1 R2 v1 v2, V = .agg #[.int .i64 (rcP c).n, .slice R1 (rcP c).s.length v1, .slice R2 (rcP c).o.length v2] ∧ OwP w' w.heap.size R1 R2 v1 v2 (rcP c)) ∧ ∃ a n1 n2 R1 R2 v1 v2, V = .agg #[.int .i64 a, .slice R1 n1 v1, .slice R2 n2 v2]
theorem cells3n {w : World} {g : Nat} {a b d : Value} {t : TypeId} (h : w.heap[g]? = some (.cells #[a, b, d] t (0, 0))) :
    w.cell? ⟨g, 0, none⟩ = some a ∧ w.cell? ⟨g, 1, none⟩ = some b ∧ w.cell? ⟨g, 2, none⟩ = some d ∧ w.frozen? ⟨g, 0, none⟩ = false ∧ w.frozen? ⟨g, 1, none⟩ = false ∧ w.frozen? ⟨g, 2, none⟩ = false :=
  ⟨by rw [cell_of_row w g 0 _ _ (0, 0) h]; rfl, by rw [cell_of_row w g 1 _ _ (0, 0) h]; rfl, by rw [cell_of_row w g 2 _ _ (0, 0) h]; rfl, frozen_of_row w g 0 _ _ h, frozen_of_row w g 1 _ _ h, frozen_of_row w g 2 _ _ h⟩
theorem PlanV.bad {w w' : World} {c : Rc} (h : rcB c = false) : PlanV w w' c (.agg #[.int .i64 0, .slice none 0 0, .slice none 0 0]) := ⟨fun e => (by rw [h] at e; cases e), 0, 0, 0, none, none, 0, 0, rfl⟩

set_option maxRecDepth 100000 in
set_option maxHeartbeats 8000000 in
theorem rePlan_any (B : Nat) (A1 A2 A3 : Option Addr) (c1 c2 c3 : Nat) (c : Rc) (w : World) (hB : B ≤ w.heap.size) (hl1 : c.i.length ≤ 1048576) (hl2 : c.ops.length ≤ 1048576) (hl3 : c.o.length ≤ 1048576) (hcap : c.i.length ≤ c1 ∧ c.ops.length ≤ c2 ∧ c.o.length ≤ c3) (hr : RdC w B A1 A2 A3 c) :
    Calls Try.prog 124 #[.agg #[.int .i64 c.r, .slice A1 c.i.length c1, .slice A2 c.ops.length c2, .slice A3 c.o.length c3]] w fun e w' =>
      ∃ V, e = .returned (.tuple #[V, .bool (rcB c)]) ∧ PlanV w w' c V ∧ Below w.heap.size w w' := by
  have H := Lib.hid hr
  have CAP := Lib.hid hcap
  have SH := fun W hW hrW => reShape_any B A1 A2 A3 c1 c2 c3 c W hW hl1 hl2 hl3 hcap hrW
  obtain ⟨t, ht⟩ : ∃ t, shpB c = t := ⟨_, rfl⟩
  rw [ht] at SH
  have SH := Lib.hid SH
  have HT := Lib.hid ht
  clear hr hcap ht
  go_enter Try.func124, Try.ntmps124
  go_wp2_with fail
  go_at_call 152
  generalize hw1 : World.alloc w _ = w1
  obtain ⟨⟨x0, x1, x2, x3⟩, xs, xb⟩ := bx4r hw1
  clear hw1
  generalize hw2 : World.alloc w1 _ = w2
  have q0 : w2.heap[w1.heap.size]? = some (.cells #[.int .i64 0, .slice none 0 0, .slice none 0 0] 44 (0, 0)) := by rw [← hw2]; exact heap_alloc_new w1 _
  obtain ⟨_, ys, yb⟩ := box3' hw2
  clear hw2
  rw [xs] at q0
  have x0 := (yb.cell (p := ⟨w.heap.size, 0, none⟩) (by simp only []; omega)).trans x0
  have x1 := (yb.cell (p := ⟨w.heap.size, 1, none⟩) (by simp only []; omega)).trans x1
  have x2 := (yb.cell (p := ⟨w.heap.size, 2, none⟩) (by simp only []; omega)).trans x2
  have x3 := (yb.cell (p := ⟨w.heap.size, 3, none⟩) (by simp only []; omega)).trans x3
  have HB2 := Lib.hid (xb.trans (yb.mono (by omega)))
  have hs2 : w.heap.size + 2 = w2.heap.size := by omega
  clear xs ys xb yb
  refine (SH.out w2 (by omega) (H.out.below' HB2.out hB)).mono ?_
  rintro e w3 ⟨rfl, hb3⟩
  have y0 := (hb3.cell (p := ⟨w.heap.size, 0, none⟩) (by simp only []; omega)).trans x0
  have y1 := (hb3.cell (p := ⟨w.heap.size, 1, none⟩) (by simp only []; omega)).trans x1
  have y2 := (hb3.cell (p := ⟨w.heap.size, 2, none⟩) (by simp only []; omega)).trans x2
  have y3 := (hb3.cell (p := ⟨w.heap.size, 3, none⟩) (by simp only []; omega)).trans x3
  have q3 := (hb3.block (w.heap.size + 1) (by omega)).trans q0
  obtain ⟨t0, t1, t2, g0, g1, g2⟩ := cells3n q3
  have HB3 := Lib.hid (HB2.out.trans (hb3.mono (by omega)))
  have hs3 : w.heap.size + 2 ≤ w3.heap.size := by have := hb3.size; omega
  have Q3 := Lib.hid q3
  clear x0 x1 x2 x3 q0 q3 hb3 hs2
  cases t with
  | false =>
    have E := Lib.hid (shape_bad HT.out)
    go_wp2
    refine bodyPost_ret (v := .tuple #[.agg #[.int .i64 0, .slice none 0 0, .slice none 0 0], .bool false]) (by simp [results, Try.results124, go_sem, t0, t1, t2]) rfl ⟨_, by rw [E.out], PlanV.bad E.out, ?_⟩
    exact ((HB3.out.setCell (by simp) _).setCell (by simp) _).setCell (by simp) _
  | true =>
    have EQ := Lib.hid (shape_rcB HT.out)
    obtain ⟨R, hR, hr1, hr46, hi6, hp40, ho6, hin, hop, hou⟩ : ∃ R : Nat, c.r = R ∧ 1 ≤ R ∧ R ≤ 46 ∧ c.i.length ≤ 6 ∧ c.ops.length ≤ 40 ∧ c.o.length ≤ 6 ∧ (∀ x ∈ c.i, 0 ≤ x ∧ x < (R : Int)) ∧ (∀ x ∈ c.ops, opIn R x = true) ∧ (∀ x ∈ c.o, 0 ≤ x ∧ x < (R : Int)) := by
      have h := HT.out
      unfold shpB rcIn at h
      simp only [Bool.and_eq_true, decide_eq_true_eq] at h
      obtain ⟨h1, h2, h3, h4, h5, h6, h7, h8⟩ := h
      unfold inB at h1 h2
      simp only [Bool.and_eq_true, decide_eq_true_eq] at h1 h2
      refine ⟨c.r.toNat, by omega, by omega, by omega, by omega, by omega, by omega, ?_, ?_, ?_⟩
      · intro x hx
        have := List.all_eq_true.1 h6 x hx
        unfold inB at this
        simp only [Bool.and_eq_true, decide_eq_true_eq] at this
        omega
      · intro x hx
        have := List.all_eq_true.1 h7 x hx
        rw [show ((c.r.toNat : Nat) : Int) = c.r by omega]
        exact this
      · intro x hx
        have := List.all_eq_true.1 h8 x hx
        unfold inB at this
        simp only [Bool.and_eq_true, decide_eq_true_eq] at this
        omega
    have RV := Lib.hid (fun W hW hrW => reValues_any B R A1 A2 A3 c1 c2 c3 c W hR hr1 hr46 hi6 hp40 hin hop CAP.out.2.1 hW hrW)
    have OUT := Lib.hid hou
    have REGE := Lib.hid (fun k r h0 h1 => rcA_reg (m := R) (c := c) hr46 (k := k) (r := r) h0 h1)
    have BADO := Lib.hid (fun j hj h => bad_out (c := c) (j := j) hj h)
    have PL := Lib.hid (rgS_len (rgI 46 c.i c.i.length) c.i.length c.ops c.ops.length)
    have HR := Lib.hid hR
    clear hin hop hou hR
    go_wp2_with fail
    go_at_call 153
    refine (RV.out w3 (by omega) (H.out.below' HB3.out hB)).mono ?_
    rintro e w4 ⟨hb4, hpost⟩
    have z0 := (hb4.cell (p := ⟨w.heap.size, 1, none⟩) (by simp only []; omega)).trans y1
    have z3 := (hb4.cell (p := ⟨w.heap.size, 3, none⟩) (by simp only []; omega)).trans y3
    have q4 := (hb4.block (w.heap.size + 1) (by omega)).trans Q3.out
    obtain ⟨t0', t1', t2', g0', g1', g2'⟩ := cells3n q4
    have HB4 := Lib.hid (HB3.out.trans (hb4.mono (by omega)))
    have hs4 : w.heap.size + 2 ≤ w4.heap.size := by have := hb4.size; omega
    have Q4 := Lib.hid q4
    clear y0 y1 y2 y3 t0 t1 t2 g0 g1 g2 hb4 q4
    rcases hpost with ⟨E1, E2, e1, e2, rfl, how, hos⟩ | ⟨rfl, hbad⟩
    · have OW := Lib.hid how
      have OS := Lib.hid hos
      obtain ⟨g, rfl, hgB, hgs, _, _⟩ := own_at how (by omega)
      clear how hos
      have Z3 := cell_kept z3
      go_wp2
      clear Z3
      generalize hw5 : World.alloc w4 _ = w5
      have q5 : w5.heap[w4.heap.size]? = some (.cells #[.int .i64 c.i.length, .slice E2 c.ops.length e2, .slice none 0 0] 44 (0, 0)) := by rw [← hw5]; exact heap_alloc_new w4 _
      have hb5 : Below w4.heap.size w4 w5 := by rw [← hw5]; exact (Below.refl _ _).alloc (Nat.le_refl _) _
      have hs5 : w5.heap.size = w4.heap.size + 1 := by rw [← hw5]; simp
      clear hw5
      have Q5 := Lib.hid q5
      have HB5 := Lib.hid hb5
      clear q5 hb5 t0' t1' t2' g0' g1' g2'
      go_loopw [34] (fun iv wr => ∃ (k : Nat) (A6 : Option Addr) (c6 : Nat), k ≤ c.o.length ∧ iv = .int .i64 k ∧ wr.heap[w4.heap.size]? = some (.cells #[.int .i64 c.i.length, .slice E2 c.ops.length e2, .slice A6 k c6] 44 (0, 0)) ∧
        wr.ownsRow (w4.heap.size + 1) 3 1 (.slice A6 k c6) k (((c.o.take k).map (reg (rcA 46 c c.ops.length))).map I) ∧ Below w4.heap.size w4 wr) (fun i _ => c.o.length - (intOf i).toNat)
      case atStart => exact ⟨0, none, 0, by omega, rfl, Q5.out, World.ownsRow_nil _ _ _ _, HB5.out⟩
      case round =>
        obtain ⟨k, A6, c6, hk, rfl, hbox, hown, hbel⟩ := hrel
        have hszr : w4.heap.size + 1 ≤ wr.heap.size := (Array.getElem?_eq_some_iff.1 hbox).1
        have v3 := (hbel.cell (p := ⟨w.heap.size, 3, none⟩) (by simp only []; omega)).trans z3
        have HBW := Lib.hid (HB4.out.trans (hbel.mono (by omega)))
        have OWr := Lib.hid (own_below OW.out hbel)
        have OSr := Lib.hid (own_below OS.out hbel)
        have BX := Lib.hid hbox
        have OWN := Lib.hid hown
        have BEL := Lib.hid hbel
        obtain ⟨t0, t1, t2, g0, g1, g2⟩ := cells3n ((hbel.block (w.heap.size + 1) (by omega)).trans Q4.out)
        by_cases hlt : k < c.o.length
        · have iqk : (k : Int) < (c.o.length : Int) := by omega
          obtain ⟨b, off, rfl, hb, hc⟩ := (H.out.below' HBW.out hB).2.2.int hlt
          obtain ⟨v0, v1⟩ := OUT.out _ (List.getElem_mem hlt)
          obtain ⟨v, hv⟩ : ∃ v : Nat, c.o[k] = v := ⟨(c.o[k]).toNat, by omega⟩
          have hvR : v < R := by omega
          have ivR : (v : Int) < (R : Int) := by omega
          have da := own_reg OWr.out hvR
          obtain ⟨y, hy⟩ : ∃ y, reg (rcA R c c.ops.length) (v : Int) = y := ⟨_, rfl⟩
          have hy46 : reg (rcA 46 c c.ops.length) c.o[k] = y := by rw [hv, ← REGE.out _ _ (by omega) (by omega), hy]
          have SUC := Lib.hid (show (c.o.take (k + 1)).map (reg (rcA 46 c c.ops.length)) = (c.o.take k).map (reg (rcA 46 c c.ops.length)) ++ [y] by rw [map_reg_take hlt, hy46])
          have BD := Lib.hid (show y < 0 → rcB c = false from fun h => BADO.out k hlt (by rw [hy46]; exact h))
          rw [hv] at hc
          rw [hy] at da
          clear hv hy hy46 v0 v1 hbox hown hbel
          by_cases hy0 : y < 0
          · have E := Lib.hid (BD.out hy0)
            go_wp2
            refine bodyPost_ret (v := .tuple #[.agg #[.int .i64 0, .slice none 0 0, .slice none 0 0], .bool false]) (by simp [results, Try.results124, go_sem, t0, t1, t2]) rfl ⟨_, by rw [E.out], PlanV.bad E.out, ?_⟩
            exact ((HBW.out.setCell (by simp) _).setCell (by simp) _).setCell (by simp) _
          · obtain ⟨b0, b1, b2, _, _, _⟩ := cells3n BX.out
            have FS := Lib.hid (show ∀ x, Below wr.heap.size wr x → x.cell? ⟨w4.heap.size, 2, none⟩ = some (.slice A6 k c6) ∧ x.cell? ⟨g, v, none⟩ = some (.int .i64 y) from fun x hx =>
              ⟨(hx.cell (p := ⟨w4.heap.size, 2, none⟩) (by simp only []; omega)).trans b2, (hx.cell (p := ⟨g, v, none⟩) (by simp only []; omega)).trans da⟩)
            have S0 := Lib.hid (show Below wr.heap.size wr wr.drew from (Below.refl _ _).drew)
            go_wp2
            clear t0 t1 t2 g0 g1 g2 b0 b1 b2 v3 z0 z3
            refine wp_region_T (fun x : World => Below wr.heap.size wr x) [0, 1, 2, 3, 4, 5, 8] [1, 5] (.lp 0 (.lp 2 (.lp 3 (.lp 4 (.ls 1 (.ls 5 (.hv 6 (.hv 7 (.lp 8 (.hv 9 (.done))))))))))) (by kernel_rfl) (by kernel_rfl) ?_
            (repeat (refine T_lp rfl (fun K hK => ?_); go_simp; refine hK _ ?_; clear hK K))
            refine T_ls1 (v := .slice A6 k c6) rfl rfl S0.out (fun x hx => (by obtain ⟨h0, h1⟩ := FS.out x hx; go_simp)) (fun K hK => ?_)
            (go_simp; refine hK _ ?_; clear hK K)
            refine T_ls1 (v := .int .i64 y) rfl rfl S0.out (fun x hx => (by obtain ⟨h0, h1⟩ := FS.out x hx; go_simp)) (fun K hK => ?_)
            (go_simp; refine hK _ ?_; clear hK K)
            refine T_hvS rfl (fun K hK => ?_)
            go_simp
            refine hK _ _ (S0.out.alloc (Nat.le_refl _) _) ?_
            clear hK K
            refine T_hv rfl (by kernel_rfl) (fun K hK => ?_)
            refine step_app1 Try.underlying22 info_int rfl (by omega) rfl (.tmp 45) (.tmp 50) rfl (w4.heap.size + 1) k _ (((c.o.take k).map (reg (rcA 46 c c.ops.length))).map I) rfl (World.ownsRow.alloc OWN.out _) wr.heap.size 1 (I y) rfl (by simp) rfl (by omega) (by simp; omega) ?_
            intro A8 c8 w8 hown8 hg8 hbel8
            have bx8 : w8.heap[w4.heap.size]? = _ := (hbel8.block w4.heap.size (by omega)).trans ((Below.heap_alloc wr _ w4.heap.size (by omega)).trans BX.out)
            obtain ⟨_, _, k2, _, _, f2⟩ := cells3n bx8
            have BX8 := Lib.hid bx8
            clear bx8
            (go_simp; refine hK _ _ ?_; clear hK K)
            (repeat (first | (refine T_lp rfl (fun K hK => ?_); go_simp; refine hK _ ?_; clear hK K) | (refine T_ls rfl rfl (fun K hK => ?_); go_simp; refine hK _ ?_; clear hK K)))
            (refine T_hv rfl (by kernel_rfl) (fun K hK => ?_); go_simp; refine hK _ _ ?_; clear hK K)
            refine T_done ?_
            go_wp2
            go_roundw
            case rel =>
              refine ⟨k + 1, A8, c8, by omega, by go_num, ?_, ?_, ((((BEL.out.alloc (show w4.heap.size ≤ wr.heap.size by omega) _).drew).trans (hbel8.mono (show w4.heap.size ≤ w4.heap.size + 1 by omega))).setCell (by simp) _)⟩
              · rw [heap_setCell_same w8 _ 2 _ _ _ BX8.out]; rfl
              · rw [SUC.out, List.map_append]
                exact own_set (o := 2) hown8 BX8.out (by decide) (.slice A8 (k + 1) c8)
            case measure => simp [intOf]; omega
        · have hk' : k = c.o.length := by omega
          have HPP := Lib.hid (show OwP wr w.heap.size E2 A6 e2 c6 (rcP c) by
            have h1 : (rcP c).s.length = c.ops.length := PL.out
            have h2 : (rcP c).o.length = c.o.length := List.length_map _
            refine ⟨?_, ?_⟩
            · show World.ownsRow _ _ _ _ _ _ _
              rw [h1]
              exact own_base OSr.out (by omega)
            · show World.ownsRow _ _ _ _ _ _ _
              rw [h2]
              have h := own_base OWN.out (show w.heap.size ≤ w4.heap.size + 1 by omega)
              rw [hk', List.take_length] at h
              exact h)
          have LS := Lib.hid (show (rcP c).s.length = c.ops.length from PL.out)
          have LO := Lib.hid (show (rcP c).o.length = c.o.length from List.length_map _)
          have BX2 := Lib.hid (show wr.heap[w4.heap.size]? = some (.cells #[.int .i64 c.i.length, .slice E2 c.ops.length e2, .slice A6 c.o.length c6] 44 (0, 0)) by rw [← hk']; exact BX.out)
          have hpg := fun W hW hrW => plGood_any wr.heap.size E2 A6 e2 c6 (rcP c) W hW (by rw [LS.out]; omega) (by rw [LO.out]; omega) hrW
          rw [LS.out, LO.out, ← EQ.out, show (rcP c).n = (c.i.length : Int) from rfl] at hpg
          obtain ⟨gb, hgb⟩ : ∃ t, rcB c = t := ⟨_, rfl⟩
          rw [hgb] at hpg
          have HPG := Lib.hid hpg
          have HGB := Lib.hid hgb
          obtain ⟨b0, b1, b2, _, _, _⟩ := cells3n BX2.out
          have FS := Lib.hid (show ∀ x, Below wr.heap.size wr x → x.cell? ⟨w4.heap.size, 0, none⟩ = some (.int .i64 c.i.length) ∧ x.cell? ⟨w4.heap.size, 1, none⟩ = some (.slice E2 c.ops.length e2) ∧ x.cell? ⟨w4.heap.size, 2, none⟩ = some (.slice A6 c.o.length c6) from fun x hx =>
            ⟨(hx.cell (p := ⟨w4.heap.size, 0, none⟩) (by simp only []; omega)).trans b0, (hx.cell (p := ⟨w4.heap.size, 1, none⟩) (by simp only []; omega)).trans b1, (hx.cell (p := ⟨w4.heap.size, 2, none⟩) (by simp only []; omega)).trans b2⟩)
          have S0 := Lib.hid (show Below wr.heap.size wr wr.drew from (Below.refl _ _).drew)
          have Q4r := Lib.hid ((hbel.block (w.heap.size + 1) (by omega)).trans Q4.out)
          clear hpg hgb b0 b1 b2 t0 t1 t2 g0 g1 g2 v3 hbox hown hbel
          subst hk'
          go_wp2
          refine wp_region_T (fun x : World => Below wr.heap.size wr x) [0, 1, 4] [0, 1] (.ls 0 (.ls 1 (.hv 2 (.hv 3 (.lp 4 (.done)))))) (by kernel_rfl) (by kernel_rfl) ?_
          refine T_ls1 (v := .agg #[.int .i64 c.i.length, .slice E2 c.ops.length e2, .slice A6 c.o.length c6]) rfl rfl S0.out (fun x hx => (by obtain ⟨h0, h1, h2⟩ := FS.out x hx; go_simp)) (fun K hK => ?_)
          (go_simp; refine hK _ ?_; clear hK K)
          refine T_ls1 (v := .agg #[.int .i64 c.i.length, .slice E2 c.ops.length e2, .slice A6 c.o.length c6]) rfl rfl S0.out (fun x hx => (by obtain ⟨h0, h1, h2⟩ := FS.out x hx; go_simp)) (fun K hK => ?_)
          (go_simp; refine hK _ ?_; clear hK K)
          refine T_hvS rfl (fun K hK => ?_)
          go_simp
          go_at_call 84
          refine (HPG.out wr.drew (by simp) HPP.out.rd.drew).mono ?_
          rintro e w7 ⟨rfl, hb7⟩
          have hb57 : Below wr.heap.size wr w7 := S0.out.trans (hb7.mono (by simp))
          have q7 := (hb57.block (w.heap.size + 1) (by omega)).trans Q4r.out
          obtain ⟨t0, t1, t2, g0, g1, g2⟩ := cells3n q7
          have Q7 := Lib.hid q7
          have HPP7 := Lib.hid (HPP.out.below hb57)
          have HBW7 := Lib.hid (HBW.out.trans (hb57.mono HBW.out.size))
          go_simp
          refine hK _ _ hb57 ?_
          clear hK K q7 hb57 hb7
          (refine T_hv rfl (by kernel_rfl) (fun K hK => ?_); go_simp; refine hK _ _ ?_; clear hK K)
          (repeat (first | (refine T_lp rfl (fun K hK => ?_); go_simp; refine hK _ ?_; clear hK K) | (refine T_ls rfl rfl (fun K hK => ?_); go_simp; refine hK _ ?_; clear hK K)))
          refine T_done ?_
          go_wp2
          refine bodyPost_ret (v := .tuple #[.agg #[.int .i64 c.i.length, .slice E2 c.ops.length e2, .slice A6 c.o.length c6], .bool gb]) (by simp [results, Try.results124, go_sem, t0, t1, t2]) rfl ⟨_, by rw [HGB.out], ⟨fun _ => ⟨E2, A6, e2, c6, by rw [LS.out, LO.out]; rfl, own_set3 HPP7.out.1 Q7.out (by decide) _ _ _, own_set3 HPP7.out.2 Q7.out (by decide) _ _ _⟩, _, _, _, _, _, _, _, rfl⟩, ?_⟩
          exact ((HBW7.out.setCell (by simp) _).setCell (by simp) _).setCell (by simp) _
    · go_wp2
      refine bodyPost_ret (v := .tuple #[.agg #[.int .i64 0, .slice none 0 0, .slice none 0 0], .bool false]) (by simp [results, Try.results124, go_sem, t0', t1', t2']) rfl ⟨_, by rw [hbad], PlanV.bad hbad, ?_⟩
      exact ((HB4.out.setCell (by simp) _).setCell (by simp) _).setCell (by simp) _
end Go.Proofs.Ytbbjgcagkmlngab
/- Whether it is code, and the plan of code, by the model. -/
namespace Go.Proofs.Ytbbjgcagkmlngab
open Go.RowKit

theorem rcR_len (c : Rc) : (rcR c).s.length ≤ 1000 ∧ (rcR c).o.length ≤ 1000 := by
  cases h : rcB c with
  | false => rw [rcR_false h]; exact ⟨by simp [zeroP], by simp [zeroP]⟩
  | true =>
    rw [rcR_true h]
    unfold rcB at h
    simp only [Bool.and_eq_true] at h
    obtain ⟨N, _, _, _, h3, h4, _⟩ := good_facts h.2.2.2
    omega

set_option maxRecDepth 100000 in
set_option maxHeartbeats 2000000 in
theorem reCode_any (B : Nat) (A1 A2 A3 : Option Addr) (c1 c2 c3 : Nat) (c : Rc) (w : World) (hB : B ≤ w.heap.size) (hl1 : c.i.length ≤ 1048576) (hl2 : c.ops.length ≤ 1048576) (hl3 : c.o.length ≤ 1048576) (hcap : c.i.length ≤ c1 ∧ c.ops.length ≤ c2 ∧ c.o.length ≤ c3) (hr : RdC w B A1 A2 A3 c) :
    Calls Try.prog 69 #[.agg #[.int .i64 c.r, .slice A1 c.i.length c1, .slice A2 c.ops.length c2, .slice A3 c.o.length c3]] w fun e w' => e = .returned (.bool (rcB c)) ∧ Below w.heap.size w w' := by
  have H := Lib.hid hr
  have RP := Lib.hid (fun W hW hrW => rePlan_any B A1 A2 A3 c1 c2 c3 c W hW hl1 hl2 hl3 hcap hrW)
  clear hr hcap
  go_enter Try.func69, Try.ntmps69
  go_wp2_with fail
  go_at_call 124
  generalize hw1 : World.alloc w _ = w1
  obtain ⟨_, xs, xb⟩ := bx4r hw1
  clear hw1
  refine (RP.out w1 (by omega) (H.out.below' xb hB)).mono ?_
  rintro e w2 ⟨V, rfl, hV, hb⟩
  obtain ⟨a, n1, n2, R1, R2, v1, v2, rfl⟩ := hV.2
  have HB := Lib.hid (xb.trans (hb.mono (by omega)))
  clear hV hb xb
  go_wp2
  go_ret
  exact ⟨rfl, HB.out.alloc HB.out.size _⟩


end Go.Proofs.Ytbbjgcagkmlngab
/- The uses of one value, and of all values, by the program. -/
namespace Go.Proofs.Ytbbjgcagkmlngab
open Go.RowKit

set_option maxRecDepth 100000 in
set_option maxHeartbeats 1000000 in
theorem sidesOf_any (a b v : Int) (w : World) :
    Calls Try.prog 178 #[.agg #[.int .i64 a, .int .i64 b], .int .i64 v] w fun e w' => e = .returned (.int .i64 (sid (a, b) v : Nat)) ∧ Below w.heap.size w w' := by
  have e0 : sid (a, b) v = (if a = v then 1 else 0) + (if b = v then 1 else 0) := rfl
  by_cases ha : a = v
  · by_cases hb : b = v
    · have q1 : (a == v) = true := by simpa using ha
      have q2 : (b == v) = true := by simpa using hb
      rw [if_pos ha, if_pos hb] at e0
      have E := Lib.hid e0
      clear e0 ha hb
      go_enter Try.func178, Try.ntmps178
      go_wp2
      go_ret
      exact ⟨by rw [E.out]; rfl, (Below.refl _ _).alloc (Nat.le_refl _) _⟩
    · have q1 : (a == v) = true := by simpa using ha
      have q2 : (b == v) = false := by simpa using hb
      rw [if_pos ha, if_neg hb] at e0
      have E := Lib.hid e0
      clear e0 ha hb
      go_enter Try.func178, Try.ntmps178
      go_wp2
      go_ret
      exact ⟨by rw [E.out]; rfl, (Below.refl _ _).alloc (Nat.le_refl _) _⟩
  · by_cases hb : b = v
    · have q1 : (a == v) = false := by simpa using ha
      have q2 : (b == v) = true := by simpa using hb
      rw [if_neg ha, if_pos hb] at e0
      have E := Lib.hid e0
      clear e0 ha hb
      go_enter Try.func178, Try.ntmps178
      go_wp2
      go_ret
      exact ⟨by rw [E.out]; rfl, (Below.refl _ _).alloc (Nat.le_refl _) _⟩
    · have q1 : (a == v) = false := by simpa using ha
      have q2 : (b == v) = false := by simpa using hb
      rw [if_neg ha, if_neg hb] at e0
      have E := Lib.hid e0
      clear e0 ha hb
      go_enter Try.func178, Try.ntmps178
      go_wp2
      go_ret
      exact ⟨by rw [E.out]; rfl, (Below.refl _ _).alloc (Nat.le_refl _) _⟩

theorem us_set0 {w : World} {g : Nat} {a b : Value} {t : TypeId} (h : w.heap[g]? = some (.cells #[a, b] t (0, 0))) (u : Value) : (w.setCell ⟨g, 0, none⟩ u).heap[g]? = some (.cells #[u, b] t (0, 0)) := by
  rw [heap_setCell_same w g 0 _ t u h]
  rfl
theorem us_set1 {w : World} {g : Nat} {a b : Value} {t : TypeId} (h : w.heap[g]? = some (.cells #[a, b] t (0, 0))) (u : Value) : (w.setCell ⟨g, 1, none⟩ u).heap[g]? = some (.cells #[a, u] t (0, 0)) := by
  rw [heap_setCell_same w g 1 _ t u h]
  rfl

theorem apart_lt {w : World} {v v' : Value} {m sz n : Nat} {e : TypeId} {xs : List Value} (h : ∀ k, v.ownBlock = some k → k < m) (h' : w.ownsRow m e sz v' n xs) : v.ownBlock = none ∨ v.ownBlock ≠ v'.ownBlock := by
  cases hv : v.ownBlock with
  | none => exact .inl rfl
  | some k =>
    right
    intro e
    have h1 := h k hv
    have h2 := (own_block h' k e.symm).1
    omega
theorem us_boxes {w w1 : World} {a b c d : Value} (h : ((w.alloc (.cells #[a, b, c, d] 106)).alloc (.cells #[.slice none 0 0, .slice none 0 0] 194)).alloc (.cells #[.slice none 0 0, .slice none 0 0] 194) = w1) :
    w1.cell? ⟨w.heap.size, 1, none⟩ = some b ∧ w1.cell? ⟨w.heap.size, 2, none⟩ = some c ∧ w1.heap[w.heap.size + 1]? = some (.cells #[.slice none 0 0, .slice none 0 0] 194 (0, 0)) ∧
      w1.heap[w.heap.size + 1 + 1]? = some (.cells #[.slice none 0 0, .slice none 0 0] 194 (0, 0)) ∧ w1.heap.size = w.heap.size + 3 ∧ Below w.heap.size w w1 := by
  generalize ha : w.alloc (.cells #[a, b, c, d] 106) = wa at h
  generalize hb : wa.alloc (.cells #[.slice none 0 0, .slice none 0 0] 194) = wb at h
  obtain ⟨x0, x1, x2, x3, xs, xb⟩ := box4 ha
  obtain ⟨_, _, ys, yb⟩ := box2 hb
  obtain ⟨_, _, zs, zb⟩ := box2 h
  have h2 := heap_alloc_new wa (.cells #[.slice none 0 0, .slice none 0 0] 194)
  have h3 := heap_alloc_new wb (.cells #[.slice none 0 0, .slice none 0 0] 194)
  rw [hb, xs] at h2
  rw [h, ys, xs] at h3
  have yz : Below (w.heap.size + 1) wa w1 := (yb.mono (by omega)).trans (zb.mono (by omega))
  refine ⟨(yz.cell (p := ⟨w.heap.size, 1, none⟩) (by simp)).trans x1, (yz.cell (p := ⟨w.heap.size, 2, none⟩) (by simp)).trans x2, (zb.block (w.heap.size + 1) (by omega)).trans h2, h3, by omega, xb.trans (yz.mono (by omega))⟩

set_option maxRecDepth 100000 in
set_option maxHeartbeats 4000000 in
theorem usesOf_any (B N R : Nat) (A1 A2 A : Option Addr) (c1 c2 c : Nat) (p : Pl) (v : Int) (w : World) (hs40 : p.s.length ≤ 40) (ho6 : p.o.length ≤ 6) (hB : B ≤ w.heap.size) (hr : RdP w B A1 A2 p) :
    Calls Try.prog 174 #[.agg #[.int .i64 N, .slice A1 p.s.length c1, .slice A2 p.o.length c2, .slice A R c], .int .i64 v] w fun e w' =>
      ∃ O co S cs, e = .returned (.agg #[.slice O (usO p.o v p.o.length).length co, .slice S (usS p.s v p.s.length).length cs]) ∧
        OwI w' w.heap.size (.slice O (usO p.o v p.o.length).length co) (usO p.o v p.o.length) ∧ OwI w' w.heap.size (.slice S (usS p.s v p.s.length).length cs) (usS p.s v p.s.length) ∧ Below w.heap.size w w' := by
  have H := Lib.hid hr
  clear hr
  go_enter Try.func174, Try.ntmps174
  go_wp2
  generalize hw1 : World.alloc (World.alloc (World.alloc w _) _) _ = w1
  obtain ⟨x1, x2, RES1, BLK1, xs, xb⟩ := us_boxes hw1
  clear hw1
  obtain ⟨g, hg⟩ : ∃ g, w.heap.size + 1 + 1 = g := ⟨_, rfl⟩
  rw [hg] at BLK1 ⊢
  obtain ⟨q, hq⟩ : ∃ q, w.heap.size + 1 = q := ⟨_, rfl⟩
  rw [hq] at RES1 ⊢
  have hgw : w.heap.size ≤ g := by omega
  have hqw : w.heap.size ≤ q := by omega
  have hqg : q < g := by omega
  have hw1s : w1.heap.size = g + 1 := by omega
  clear hg hq xs
  go_loopw [14] (fun iv wr => ∃ (k : Nat) (A4 : Option Addr) (c4 : Nat), k ≤ p.o.length ∧ iv = .int .i64 k ∧ wr.heap[g]? = some (.cells #[.slice A4 (usO p.o v k).length c4, .slice none 0 0] 194 (0, 0)) ∧
    OwI wr (g + 1) (.slice A4 (usO p.o v k).length c4) (usO p.o v k) ∧ Below g w1 wr) (fun i _ => p.o.length - (intOf i).toNat)
  case atStart => exact ⟨0, none, 0, by omega, rfl, by simpa [usO] using BLK1, by simpa [usO] using OwI.nil w1 (g + 1), Below.refl _ _⟩
  case round =>
    obtain ⟨k, A4, c4, hk, rfl, hblk, hown, hbel⟩ := hrel
    have hsz : g + 1 ≤ wr.heap.size := by have := hbel.size; omega
    have hul := usO_le p.o v k
    by_cases hlt : k < p.o.length
    · obtain ⟨ob, oo, rfl, hob, hoc⟩ := ((H.out.2.below' xb hB).below' hbel (by omega)).int hlt
      have iqk : (k : Int) < (p.o.length : Int) := by omega
      have hst : p.o.getD k 0 = p.o[k] := by simp [hlt]
      obtain ⟨d0, d1, g0, g1⟩ := us_cells hblk
      have BLK := Lib.hid hblk
      have OWN := Lib.hid hown
      have BEL := Lib.hid hbel
      have XB := Lib.hid xb
      clear hblk hown hbel xb BLK1 RES1
      by_cases he : p.o[k] = v
      · have q : (p.o[k] == v) = true := by simpa using he
        have HIT := Lib.hid (usO_hit (hst.trans he))
        clear hst he
        go_wp2_with (at_builtin; refine list_step (fun K hK => ?_); refine step_app_int rfl (.tmp 23) (.tmp 25) rfl (g + 1) (usO p.o v k).length _ (usO p.o v k) rfl (OWN.out.alloc _) rfl wr.heap.size 1 (k : Int) rfl (by simp) (by omega) (by simp; omega) ?_; intro A5 c5 w5 hown5 hg5 hbel5; have hb5 := us_kept BLK.out OWN.out hg5; obtain ⟨e0, e1, h0, h1⟩ := us_cells hb5; go_simp; refine hK _ _ ?_; clear hK K)
        go_roundw
        case rel =>
          have hl : (usO p.o v (k + 1)).length = (usO p.o v k).length + 1 := by rw [HIT.out]; simp
          refine ⟨k + 1, A5, c5, by omega, by go_num, by rw [hl]; exact us_set0 hb5 _, by rw [hl, HIT.out]; exact own_set (h := hown5) hb5 (by decide) _, ?_⟩
          exact (((BEL.out.alloc (by omega) _)).trans (hbel5.mono (by omega))).setCell (Nat.le_refl _) _
        case measure => simp [intOf]; omega
      · have q : (p.o[k] == v) = false := by simpa using he
        have MISS := Lib.hid (usO_miss (v := v) (o := p.o) (k := k) (by rw [hst]; exact he))
        clear hst he
        go_wp2
        go_roundw
        case rel => exact ⟨k + 1, A4, c4, by omega, by go_num, by rw [MISS.out]; exact BLK.out, by rw [MISS.out]; exact OWN.out, BEL.out⟩
        case measure => simp [intOf]; omega
    · have hk' : k = p.o.length := by omega
      subst hk'
      have z1 := (hbel.cell (p := ⟨w.heap.size, 1, none⟩) (by simp; omega)).trans x1
      have RESr := Lib.hid ((hbel.block q (by omega)).trans RES1)
      have HB2 := Lib.hid (xb.trans (hbel.mono hgw))
      have hOB := fun k hk => (own_block hown k hk).2
      have OWN := Lib.hid hown
      have BLK := Lib.hid hblk
      have OBL := Lib.hid hOB
      obtain ⟨lo, hlo⟩ : ∃ l, usO p.o v p.o.length = l := ⟨_, rfl⟩
      rw [hlo] at OWN BLK OBL
      have HLO := Lib.hid hlo
      clear hown hblk hbel hOB hlo xb x1 x2 RES1 BLK1
      obtain ⟨m, hm⟩ : ∃ m, wr.heap.size = m := ⟨_, rfl⟩
      rw [hm] at OBL hsz
      have HMm := Lib.hid hm
      clear hm
      go_wp2
      go_loopw [33] (fun iv wq => ∃ (k : Nat) (A5 : Option Addr) (c5 : Nat), k ≤ p.s.length ∧ iv = .int .i64 k ∧ wq.heap[g]? = some (.cells #[.slice A4 lo.length c4, .slice A5 (usS p.s v k).length c5] 194 (0, 0)) ∧
        OwI wq (g + 1) (.slice A4 lo.length c4) lo ∧ OwI wq m (.slice A5 (usS p.s v k).length c5) (usS p.s v k) ∧ Below g wr wq) (fun i _ => p.s.length - (intOf i).toNat)
      case atStart => exact ⟨0, none, 0, by omega, rfl, by simpa [usS] using BLK.out, OWN.out, by simpa [usS] using OwI.nil wr m, Below.refl _ _⟩
      case round =>
        obtain ⟨k, A5, c5, hk, rfl, hblk, hownO, hownS, hbel⟩ := hrel
        have hsr := hbel.size
        have hsq : g + 1 ≤ wr.heap.size := by have := HMm.out; omega
        have hmq : m ≤ wr.heap.size := by have := HMm.out; omega
        by_cases hlt : k < p.s.length
        · obtain ⟨sb, off, rfl, hsb, hc1, hc2⟩ := ((H.out.1.below' HB2.out hB).below' hbel (by omega)).stp hlt
          have iqk : (k : Int) < (p.s.length : Int) := by omega
          have hst : p.s.getD k (0, 0) = p.s[k] := by simp [hlt]
          have SUC := Lib.hid (show usS p.s v (k + 1) = usS p.s v k ++ List.replicate (sid p.s[k] v) (k : Int) by rw [← hst]; rfl)
          obtain ⟨a, ha⟩ : ∃ a, (p.s[k]).1 = a := ⟨_, rfl⟩
          obtain ⟨b, hb⟩ : ∃ b, (p.s[k]).2 = b := ⟨_, rfl⟩
          have hab : p.s[k] = (a, b) := by rw [← ha, ← hb]
          rw [hab] at SUC
          rw [ha] at hc1
          rw [hb] at hc2
          have hsd := sid_le (a, b) v
          have hsl := usS_le p.s v k
          have SD := fun W => sidesOf_any a b v W
          obtain ⟨n, hn⟩ : ∃ n, sid (a, b) v = n := ⟨_, rfl⟩
          rw [hn] at SUC hsd SD
          have SD := Lib.hid SD
          obtain ⟨l, hl⟩ : ∃ l, usS p.s v k = l := ⟨_, rfl⟩
          rw [hl] at SUC hsl hblk hownS
          have BLK2 := Lib.hid hblk
          have OWO := Lib.hid hownO
          have OWS := Lib.hid hownS
          have BEL := Lib.hid hbel
          clear hblk hownO hownS hbel hst ha hb hab hn hl
          go_wp2_with fail
          go_at_call 178
          generalize hw3 : World.alloc wr _ = w3
          obtain ⟨_, _, es, eb⟩ := box2 hw3
          clear hw3
          refine (SD.out w3).mono ?_
          rintro e w4 ⟨rfl, hb4⟩
          have hb14 : Below wr.heap.size wr w4 := eb.trans (hb4.mono (by omega))
          have BLK4 := Lib.hid ((hb14.block g (by omega)).trans BLK2.out)
          have OWO4 := Lib.hid (OWO.out.below hb14)
          have OWS4 := Lib.hid (OWS.out.below hb14)
          have BEL4 := Lib.hid (BEL.out.trans (hb14.mono (by omega)))
          have hs4 : wr.heap.size ≤ w4.heap.size := hb14.size
          clear eb es hb4 hb14
          go_wp2
          go_loopw [41] (fun iv wt => ∃ (t : Nat) (A6 : Option Addr) (c6 : Nat), t ≤ n ∧ iv = .int .i64 t ∧ wt.heap[g]? = some (.cells #[.slice A4 lo.length c4, .slice A6 (l.length + t) c6] 194 (0, 0)) ∧
            OwI wt (g + 1) (.slice A4 lo.length c4) lo ∧ wt.ownsRow m 3 1 (.slice A6 (l.length + t) c6) (l.length + t) ((l ++ List.replicate t (k : Int)).map I) ∧ Below g w4 wt) (fun i _ => n - (intOf i).toNat)
          case atStart => exact ⟨0, A5, c5, by omega, rfl, BLK4.out, OWO4.out, by simpa [OwI] using OWS4.out, Below.refl _ _⟩
          case round =>
            obtain ⟨t, A6, c6, ht, rfl, hblk, hownO, hownS, hbel⟩ := hrel
            have hst4 : w4.heap.size ≤ wr.heap.size := hbel.size
            obtain ⟨d0, d1, g0, g1⟩ := us_cells hblk
            have BLK5 := Lib.hid hblk
            have OWO5 := Lib.hid hownO
            have OWS5 := Lib.hid hownS
            have BEL5 := Lib.hid hbel
            clear hblk hownO hownS hbel
            by_cases htl : t < n
            · have iqt : (t : Int) < (n : Int) := by omega
              have hll : (l ++ List.replicate t (k : Int)).length = l.length + t := by simp
              have HLL := Lib.hid hll
              clear hll
              go_wp2_with (at_builtin; refine list_step (fun K hK => ?_); refine step_app1 Try.underlying22 info_int rfl (by omega) rfl (.tmp 44) (.tmp 46) rfl m (l.length + t) _ _ rfl (World.ownsRow.alloc OWS5.out _) wr.heap.size 1 (I (k : Int)) rfl (by simp) rfl (by omega) (by simp; omega) ?_; intro A7 c7 w5 hown5 hg5 hbel5; have hb5 := us_kept BLK5.out OWS5.out hg5; have hO5 := World.ownsRow.kept (World.ownsRow.alloc OWO5.out _) hg5 (apart_lt OBL.out OWS5.out); obtain ⟨e0, e1, h0, h1⟩ := us_cells hb5; go_simp; refine hK _ _ ?_; clear hK K)
              go_roundw
              case rel =>
                refine ⟨t + 1, A7, c7, by omega, by go_num, us_set1 hb5 _, own_set (h := hO5) hb5 (by decide) _, ?_, ?_⟩
                · have h := own_set (g := g) (o := 1) hown5 hb5 (by decide) (.slice A7 (l.length + t + 1) c7)
                  have e : (l ++ List.replicate t (k : Int)).map I ++ [I (k : Int)] = (l ++ List.replicate (t + 1) (k : Int)).map I := by
                    simp [List.replicate_succ']
                  rw [e] at h
                  exact h
                · exact (((BEL5.out.alloc (by omega) _)).trans (hbel5.mono (by omega))).setCell (Nat.le_refl _) _
              case measure => simp [intOf]; omega
            · have ht' : t = n := by omega
              subst ht'
              go_wp2
              go_roundw
              case rel =>
                have hll : (usS p.s v (k + 1)).length = l.length + t := by rw [SUC.out]; simp
                refine ⟨k + 1, A6, c6, by omega, by go_num, by rw [hll]; exact BLK5.out, OWO5.out, ?_, BEL4.out.trans BEL5.out⟩
                show World.ownsRow _ _ _ _ _ _ _
                rw [hll, SUC.out]
                exact OWS5.out
              case measure => simp [intOf]; omega
        · have hk' : k = p.s.length := by omega
          subst hk'
          obtain ⟨d0, d1, _, _⟩ := us_cells hblk
          have RESq := (hbel.block q hqg).trans RESr.out
          obtain ⟨_, _, f0, f1⟩ := us_cells RESq
          have BLK2 := Lib.hid hblk
          have OWO := Lib.hid hownO
          have OWS := Lib.hid hownS
          have HB3 := Lib.hid (HB2.out.trans (hbel.mono hgw))
          have RESQ := Lib.hid RESq
          obtain ⟨r0, r1, _, _⟩ := us_cells RESq
          clear hblk hownO hownS hbel RESq
          go_wp2
          have hq1 := us_set0 RESQ.out (.slice A4 lo.length c4)
          refine bodyPost_ret (v := .agg #[.slice A4 lo.length c4, .slice A5 (usS p.s v p.s.length).length c5]) (by simp [results, Try.results174, go_sem, r0, r1]) rfl ⟨A4, c4, A5, c5, by rw [HLO.out], ?_, ?_, ?_⟩
          · rw [HLO.out]
            exact own_base (own_set (own_set (h := OWO.out) RESQ.out (by decide) _) hq1 (by decide) _) (by omega)
          · exact own_base (own_set (own_set (h := OWS.out) RESQ.out (by decide) _) hq1 (by decide) _) (by omega)
          · exact (HB3.out.setCell hqw _).setCell hqw _
end Go.Proofs.Ytbbjgcagkmlngab
/- The uses of all values, by the program. -/
namespace Go.Proofs.Ytbbjgcagkmlngab
open Go.RowKit

theorem fill2 (l : List Value) (z a b : Value) {n k : Nat} (hl : l.length = k * 2) (hk : k < n) :
    ((l ++ List.replicate ((n - k) * 2) z).set (k * 2) a).set (k * 2 + 1) b = l ++ [a, b] ++ List.replicate ((n - (k + 1)) * 2) z := by
  rw [show (n - k) * 2 = (n - (k + 1)) * 2 + 1 + 1 by omega, List.replicate_succ, List.replicate_succ, List.set_append_right _ _ (by omega), List.set_append_right _ _ (by omega), hl, Nat.sub_self, show k * 2 + 1 - k * 2 = 1 by omega]
  simp
theorem info_uses : (Try.prog.info? 194).map (fun i => (i.zero, i.size, i.bytes)) = some (some (.agg #[.slice none 0 0, .slice none 0 0]), 2, 48) := by kernel_rfl

def uuV (fo fs : Nat → Option Addr × Nat) (s : List (Int × Int)) (o : List Int) (i : Nat) : List Value :=
  [.slice (fo i).1 (usO o (i : Int) o.length).length (fo i).2, .slice (fs i).1 (usS s (i : Int) s.length).length (fs i).2]
def UU (fo fs : Nat → Option Addr × Nat) (s : List (Int × Int)) (o : List Int) (k : Nat) : List Value := (List.range k).flatMap (uuV fo fs s o)
def updU (f : Nat → Option Addr × Nat) (k : Nat) (a : Option Addr × Nat) : Nat → Option Addr × Nat := fun i => if i = k then a else f i
theorem UU_succ (fo fs : Nat → Option Addr × Nat) (s : List (Int × Int)) (o : List Int) (k : Nat) : UU fo fs s o (k + 1) = UU fo fs s o k ++ uuV fo fs s o k := by
  unfold UU
  rw [List.range_succ, List.flatMap_append]
  simp
theorem UU_len (fo fs : Nat → Option Addr × Nat) (s : List (Int × Int)) (o : List Int) (k : Nat) : (UU fo fs s o k).length = k * 2 := by
  induction k with
  | zero => rfl
  | succ k ih => rw [UU_succ, List.length_append, ih]; simp [uuV]; omega
theorem UU_at (fo fs : Nat → Option Addr × Nat) (s : List (Int × Int)) (o : List Int) {i k : Nat} (h : i < k) :
    (UU fo fs s o k)[i * 2]? = some (.slice (fo i).1 (usO o (i : Int) o.length).length (fo i).2) ∧ (UU fo fs s o k)[i * 2 + 1]? = some (.slice (fs i).1 (usS s (i : Int) s.length).length (fs i).2) := by
  induction k with
  | zero => omega
  | succ k ih =>
    rw [UU_succ]
    rcases Nat.lt_or_ge i k with h1 | h1
    · obtain ⟨e1, e2⟩ := ih h1
      have hl := UU_len fo fs s o k
      exact ⟨by rw [List.getElem?_append_left (by omega), e1], by rw [List.getElem?_append_left (by omega), e2]⟩
    · have e : i = k := by omega
      subst e
      have hl := UU_len fo fs s o i
      exact ⟨by rw [List.getElem?_append_right (by omega), hl, Nat.sub_self]; rfl, by rw [List.getElem?_append_right (by omega), hl, show i * 2 + 1 - i * 2 = 1 by omega]; rfl⟩
theorem UU_upd (fo fs : Nat → Option Addr × Nat) (s : List (Int × Int)) (o : List Int) (k : Nat) (a b : Option Addr × Nat) :
    UU (updU fo k a) (updU fs k b) s o (k + 1) = UU fo fs s o k ++ [.slice a.1 (usO o (k : Int) o.length).length a.2, .slice b.1 (usS s (k : Int) s.length).length b.2] := by
  have key : ∀ j, j ≤ k → UU (updU fo k a) (updU fs k b) s o j = UU fo fs s o j := by
    intro j
    induction j with
    | zero => intro _; rfl
    | succ j ih =>
      intro hj
      rw [UU_succ, UU_succ, ih (by omega)]
      have : ¬ j = k := by omega
      simp [uuV, updU, this]
  rw [UU_succ, key k (Nat.le_refl _)]
  simp [uuV, updU]
/-- Rows of outputs and of steps, of the first k values. -/
def OwX (w : World) (B : Nat) (fo fs : Nat → Option Addr × Nat) (s : List (Int × Int)) (o : List Int) (k : Nat) : Prop :=
  ∀ i : Nat, i < k → OwI w B (.slice (fo i).1 (usO o (i : Int) o.length).length (fo i).2) (usO o (i : Int) o.length) ∧ OwI w B (.slice (fs i).1 (usS s (i : Int) s.length).length (fs i).2) (usS s (i : Int) s.length)
/-- A list of the uses of R values, all of it own. -/
def OwU (w : World) (B : Nat) (A : Option Addr) (c : Nat) (fo fs : Nat → Option Addr × Nat) (s : List (Int × Int)) (o : List Int) (R : Nat) : Prop :=
  w.ownsRow B 194 2 (.slice A R c) R (UU fo fs s o R) ∧ OwX w B fo fs s o R
section
variable {w w' : World} {B B' c k R : Nat} {A : Option Addr} {fo fs : Nat → Option Addr × Nat} {s : List (Int × Int)} {o : List Int}
theorem OwX.below (h : OwX w B fo fs s o k) (hb : Below w.heap.size w w') : OwX w' B fo fs s o k := fun i hi => ⟨(h i hi).1.below hb, (h i hi).2.below hb⟩
theorem OwX.base (h : OwX w B fo fs s o k) (hB : B' ≤ B) : OwX w B' fo fs s o k := fun i hi => ⟨(h i hi).1.base hB, (h i hi).2.base hB⟩
theorem OwX.set {g j : Nat} {cs : Array Value} {t : TypeId} (h : OwX w B fo fs s o k) (hg : w.heap[g]? = some (.cells cs t (0, 0))) (ht : t ≠ 3) (u : Value) : OwX (w.setCell ⟨g, j, none⟩ u) B fo fs s o k :=
  fun i hi => ⟨own_set (h := (h i hi).1) hg ht u, own_set (h := (h i hi).2) hg ht u⟩
theorem OwX.upd {a b : Option Addr × Nat} (h : OwX w B fo fs s o k) (ha : OwI w B (.slice a.1 (usO o (k : Int) o.length).length a.2) (usO o (k : Int) o.length)) (hb : OwI w B (.slice b.1 (usS s (k : Int) s.length).length b.2) (usS s (k : Int) s.length)) :
    OwX w B (updU fo k a) (updU fs k b) s o (k + 1) := by
  intro i hi
  by_cases e : i = k
  · subst e
    simp only [updU, if_true]
    exact ⟨ha, hb⟩
  · have := h i (by omega)
    simp only [updU, if_neg e]
    exact this
theorem OwU.below (h : OwU w B A c fo fs s o R) (hb : Below w.heap.size w w') : OwU w' B A c fo fs s o R := ⟨own_below h.1 hb, h.2.below hb⟩
theorem OwU.base (h : OwU w B A c fo fs s o R) (hB : B' ≤ B) : OwU w B' A c fo fs s o R := ⟨own_base h.1 hB, h.2.base hB⟩
/-- The two cells of value i, and its rows. -/
theorem OwU.at_ (h : OwU w B A c fo fs s o R) {i : Nat} (hi : i < R) : ∃ g, A = some ⟨g, 0, none⟩ ∧ B ≤ g ∧ g < w.heap.size ∧
    w.cell? ⟨g, i * 2, none⟩ = some (.slice (fo i).1 (usO o (i : Int) o.length).length (fo i).2) ∧ w.cell? ⟨g, i * 2 + 1, none⟩ = some (.slice (fs i).1 (usS s (i : Int) s.length).length (fs i).2) := by
  obtain ⟨g, rfl, hB, hg, hc, _⟩ := own_at h.1 (by omega)
  obtain ⟨e1, e2⟩ := UU_at fo fs s o hi
  exact ⟨g, rfl, hB, hg, (hc _ (by omega)).trans e1, (hc _ (by omega)).trans e2⟩
end

set_option maxRecDepth 100000 in
set_option maxHeartbeats 4000000 in
theorem allUses_any (B N R : Nat) (A1 A2 A : Option Addr) (c1 c2 c : Nat) (p : Pl) (w : World) (hs40 : p.s.length ≤ 40) (ho6 : p.o.length ≤ 6) (hR : R ≤ 46) (hB : B ≤ w.heap.size) (hr : RdP w B A1 A2 p) :
    Calls Try.prog 162 #[.agg #[.int .i64 N, .slice A1 p.s.length c1, .slice A2 p.o.length c2, .slice A R c]] w fun e w' =>
      ∃ A' c' fo fs, e = .returned (.slice A' R c') ∧ OwU w' w.heap.size A' c' fo fs p.s p.o R ∧ Below w.heap.size w w' := by
  have H := Lib.hid hr
  clear hr
  obtain ⟨i0, hi, hz0, hz1, hz2⟩ := info_parts info_uses
  have hmk : ∀ W : World, (Instr.makeSlice 191 (.int .i64 (R : Int)) (.int .i64 (R : Int))).run Try.prog W = .ok (.slice (some ⟨W.heap.size, 0, none⟩) R R) (W.alloc (.cells (madeCells #[.slice none 0 0, .slice none 0 0] (R * 2)) 194)) := fun W => by
    have hr := run_make (P := Try.prog) W 191 194 i0 _ Try.underlying191 hi hz0 .i64 .i64 R R (by omega) (Int.le_refl _) (by rw [hz2]; omega) (by omega)
    simp only [Int.toNat_natCast] at hr
    rw [hz1] at hr
    exact hr
  go_enter Try.func162, Try.ntmps162
  go_wp2
  clear hmk hi hz0 hz1 hz2
  generalize hw1 : World.alloc w _ = w1
  obtain ⟨x0, x1, x2, x3, xs, xb⟩ := box4 hw1
  clear hw1
  rw [← xs]
  generalize hw2 : World.alloc w1 _ = w2
  have hmade : w2.ownsRow (w.heap.size + 1) 194 2 (.slice (some ⟨w1.heap.size, 0, none⟩) R R) R (UU (fun _ => (none, 0)) (fun _ => (none, 0)) p.s p.o 0 ++ List.replicate ((R - 0) * 2) (.slice none 0 0)) := by
    have h := World.ownsRow_lit (base := w.heap.size + 1) (e := 194) (size := 2) w1 (madeCells #[Value.slice none 0 0, Value.slice none 0 0] (R * 2)) R (by omega) (by unfold maxLen; omega) (by simp [size_madeCells])
    rw [made2, hw2] at h
    simpa [UU] using h
  have hb2 : Below (w.heap.size + 1) w1 w2 := by rw [← hw2]; exact (Below.refl _ _).alloc (by omega) _
  clear hw2
  have y0 := (hb2.cell (p := ⟨w.heap.size, 0, none⟩) (by simp)).trans x0
  have y1 := (hb2.cell (p := ⟨w.heap.size, 1, none⟩) (by simp)).trans x1
  have y2 := (hb2.cell (p := ⟨w.heap.size, 2, none⟩) (by simp)).trans x2
  have y3 := (hb2.cell (p := ⟨w.heap.size, 3, none⟩) (by simp)).trans x3
  have HB2 := Lib.hid (xb.trans (hb2.mono (show w.heap.size ≤ w.heap.size + 1 by omega)))
  have HM := Lib.hid hmade
  have hg : w.heap.size + 1 ≤ w1.heap.size := by omega
  have hw12 : w.heap.size + 1 < w2.heap.size := by have := ((own_block hmade) _ rfl).2; have e : w1.heap.size < w2.heap.size := this; omega
  clear x0 x1 x2 x3 xs xb hb2 hmade
  go_loopw [12] (fun iv wr => ∃ (k : Nat) (fo fs : Nat → Option Addr × Nat), k ≤ R ∧ iv = .int .i64 k ∧ wr.ownsRow (w.heap.size + 1) 194 2 (.slice (some ⟨w1.heap.size, 0, none⟩) R R) R (UU fo fs p.s p.o k ++ List.replicate ((R - k) * 2) (.slice none 0 0)) ∧
    OwX wr (w.heap.size + 1) fo fs p.s p.o k ∧ Below (w.heap.size + 1) w2 wr) (fun i _ => R - (intOf i).toNat)
  case atStart => exact ⟨0, _, _, by omega, rfl, HM.out, fun i hi => absurd hi (by omega), Below.refl _ _⟩
  case round =>
    obtain ⟨k, fo, fs, hk, rfl, hown, hX, hbel⟩ := hrel
    have hsz : w.heap.size + 1 < wr.heap.size := by have := hbel.size; omega
    have OWN := Lib.hid hown
    have OWX := Lib.hid hX
    by_cases hlt : k < R
    · have iqk : (k : Int) < (R : Int) := by omega
      have hbw := HB2.out.trans (hbel.mono (show w.heap.size ≤ w.heap.size + 1 by omega))
      have FS := Lib.hid (show ∀ x, Below wr.heap.size wr x → x.cell? ⟨w.heap.size, 0, none⟩ = some (.int .i64 N) ∧ x.cell? ⟨w.heap.size, 1, none⟩ = some (.slice A1 p.s.length c1) ∧ x.cell? ⟨w.heap.size, 2, none⟩ = some (.slice A2 p.o.length c2) ∧ x.cell? ⟨w.heap.size, 3, none⟩ = some (.slice A R c) from fun x hx =>
        ⟨((hx.cell (p := ⟨w.heap.size, 0, none⟩) (by simp only []; omega)).trans (hbel.cell (p := ⟨w.heap.size, 0, none⟩) (by simp))).trans y0, ((hx.cell (p := ⟨w.heap.size, 1, none⟩) (by simp only []; omega)).trans (hbel.cell (p := ⟨w.heap.size, 1, none⟩) (by simp))).trans y1,
        ((hx.cell (p := ⟨w.heap.size, 2, none⟩) (by simp only []; omega)).trans (hbel.cell (p := ⟨w.heap.size, 2, none⟩) (by simp))).trans y2, ((hx.cell (p := ⟨w.heap.size, 3, none⟩) (by simp only []; omega)).trans (hbel.cell (p := ⟨w.heap.size, 3, none⟩) (by simp))).trans y3⟩)
      have US := Lib.hid (show ∀ W, Below wr.heap.size wr W → _ from fun W hW => usesOf_any B N R A1 A2 A c1 c2 c p (k : Int) W hs40 ho6 (by have := hW.size; omega) ((H.out.below' hbw hB).below' hW (by omega)))
      have BEL := Lib.hid hbel
      clear hown hX hbel hbw
      obtain ⟨v0, v1, v2, v3⟩ := FS.out wr (Below.refl _ _)
      go_wp2_with fail
      go_at_call 174
      refine (US.out wr (Below.refl _ _)).mono ?_
      rintro e w5 ⟨O, co, S, cs, rfl, hO5, hS5, hb5⟩
      have hown5 := own_below OWN.out hb5
      have hX5 := OWX.out.below hb5
      have hl := UU_len fo fs p.s p.o k
      have d0 : w5.cell? ⟨w1.heap.size, k * 2, none⟩ = some (.slice none 0 0) := by
        rw [hown5.cellAt _ (by omega), List.getElem?_append_right (by omega), List.getElem?_replicate, if_pos (by omega)]
      have d1 : w5.cell? ⟨w1.heap.size, k * 2 + 1, none⟩ = some (.slice none 0 0) := by
        rw [hown5.cellAt _ (by omega), List.getElem?_append_right (by omega), List.getElem?_replicate, if_pos (by omega)]
      have f0 : w5.frozen? ⟨w1.heap.size, k * 2, none⟩ = false := hown5.frozenAt _
      have f1 : w5.frozen? ⟨w1.heap.size, k * 2 + 1, none⟩ = false := hown5.frozenAt _
      have OWN5 := Lib.hid hown5
      have OWX5 := Lib.hid hX5
      have HO5 := Lib.hid hO5
      have HS5 := Lib.hid hS5
      have BEL5 := Lib.hid (BEL.out.trans (hb5.mono (show w.heap.size + 1 ≤ wr.heap.size by omega)))
      clear hown5 hX5 hO5 hS5 hb5 hl v0 v1 v2 v3
      go_wp2
      go_roundw
      case rel =>
        refine ⟨k + 1, updU fo k (O, co), updU fs k (S, cs), by omega, by go_num, ?_, ?_, (BEL5.out.setCell hg _).setCell hg _⟩
        · have h := ((OWN5.out.stored (k * 2) (.slice O (usO p.o (k : Int) p.o.length).length co)).1.stored (k * 2 + 1) (.slice S (usS p.s (k : Int) p.s.length).length cs)).1
          rw [fill2 _ _ _ _ (UU_len fo fs p.s p.o k) hlt] at h
          rw [UU_upd]
          exact h
        · obtain ⟨ws, hws⟩ := own_heap OWN5.out
          have h2 := (OWN5.out.stored (k * 2) (.slice O (usO p.o (k : Int) p.o.length).length co)).1
          obtain ⟨ws2, hws2⟩ := own_heap h2
          refine OwX.upd ((OWX5.out.set hws (by decide) _).set hws2 (by decide) _) ?_ ?_
          · exact own_base (own_set (own_set (h := HO5.out) hws (by decide) _) hws2 (by decide) _) (by omega)
          · exact own_base (own_set (own_set (h := HS5.out) hws (by decide) _) hws2 (by decide) _) (by omega)
      case measure => simp [intOf]; omega
    · have hk' : k = R := by omega
      subst hk'
      have HB3 := Lib.hid (HB2.out.trans (hbel.mono (show w.heap.size ≤ w.heap.size + 1 by omega)))
      clear hown hX hbel
      go_wp2
      go_ret
      refine ⟨_, _, rfl, ⟨fo, fs, ?_, OWX.out.base (by omega)⟩, HB3.out⟩
      have h := own_base OWN.out (show w.heap.size ≤ w.heap.size + 1 by omega)
      simpa using h
end Go.Proofs.Ytbbjgcagkmlngab
