/- Joined: Mu Mt Mg. -/
import Derived.Test.YtodjnafalbbmjaaP3
import Derived.Test.YtodjnafalbbmjaaP2
import Derived.Laws.BitsLemmas
/- The maker of plans of the program: one step more, squares, the plan that it has made. -/
namespace Go.Proofs.Ytodjnafalbbmjaa
open Go.RowKit

/-- A maker at block g with n inputs and the steps s. -/
def MkS (w : World) (B g : Nat) (n : Int) (s : List (Int × Int)) : Prop :=
  ∃ A c, w.heap[g]? = some (.cells #[.int .i64 n, .slice A s.length c] 109 (0, 0)) ∧ OwS w B (.slice A s.length c) s
theorem MkS.same {w w' : World} {B g : Nat} {n : Int} {s : List (Int × Int)} (h : MkS w B g n s) (hk : ∀ k, k < w.heap.size → w'.heap[k]? = w.heap[k]?) : MkS w' B g n s := by
  obtain ⟨A, c, h1, h2⟩ := h
  exact ⟨A, c, (hk g (Array.getElem?_eq_some_iff.1 h1).1).trans h1, own_same h2 hk⟩
theorem MkS.below {w w' : World} {B g : Nat} {n : Int} {s : List (Int × Int)} (h : MkS w B g n s) (hb : Below w.heap.size w w') : MkS w' B g n s := h.same hb.block
theorem MkS.lt {w : World} {B g : Nat} {n : Int} {s : List (Int × Int)} (h : MkS w B g n s) : g < w.heap.size := by
  obtain ⟨A, c, h1, _⟩ := h
  exact (Array.getElem?_eq_some_iff.1 h1).1

/-- Own rows of neither steps nor makers are kept. -/
def Kp (w w' : World) : Prop := ∀ (B sz n : Nat) (e : TypeId) (v : Value) (xs : List Value), e ≠ 68 → e ≠ 109 → w.ownsRow B e sz v n xs → w'.ownsRow B e sz v n xs
theorem Kp.refl (w : World) : Kp w w := fun _ _ _ _ _ _ _ _ h => h
theorem Kp.trans {a b c : World} (h : Kp a b) (h' : Kp b c) : Kp a c := fun B sz n e v xs h1 h2 h3 => h' B sz n e v xs h1 h2 (h B sz n e v xs h1 h2 h3)
theorem Kp.ints {a b : World} (h : Kp a b) {B : Nat} {v : Value} {l : List Int} (ho : OwI a B v l) : OwI b B v l := h _ _ _ _ _ _ (by decide) (by decide) ho
theorem stI_min (a b : Int) : stI a b = (min a b, max a b) := by
  have h1 : leastI a b = min a b := by unfold leastI; split <;> omega
  have h2 : mostI a b = max a b := by unfold mostI; split <;> omega
  unfold stI
  rw [h1, h2]
theorem mk_kept {w w3 : World} {B g c : Nat} {n : Int} {s : List (Int × Int)} {A : Option Addr} {o : Obj} (hb : w.heap[g]? = some (.cells #[.int .i64 n, .slice A s.length c] 109 (0, 0))) (ho : OwS w B (.slice A s.length c) s)
    (hg : (w.alloc o).grownBy w3 (Value.slice A s.length c).ownBlock) :
    w3.heap[g]? = some (.cells #[.int .i64 n, .slice A s.length c] 109 (0, 0)) ∧ w3.frozen? ⟨g, 1, none⟩ = false ∧ w3.cell? ⟨g, 1, none⟩ = some (.slice A s.length c) := by
  have hgl : g < w.heap.size := (Array.getElem?_eq_some_iff.1 hb).1
  have hbA : (w.alloc o).heap[g]? = _ := (Below.heap_alloc w o g hgl).trans hb
  have h3 := (hg.block g (by simp; omega) (own_ne_blk (World.ownsRow.alloc ho o) hbA (by decide))).trans hbA
  exact ⟨h3, frozen_of_row w3 g 1 _ _ h3, by rw [cell_of_row w3 g 1 _ _ (0, 0) h3]; rfl⟩
theorem mk_set {w w' : World} {g : Nat} {a b u : Value} {t : TypeId} (hb : w.heap[g]? = some (.cells #[a, b] t (0, 0))) (h : w.setCell ⟨g, 1, none⟩ u = w') : w'.heap[g]? = some (.cells #[a, u] t (0, 0)) := by
  subst h
  rw [heap_setCell_same w g 1 _ t u hb]
  rfl

set_option maxRecDepth 100000 in
set_option maxHeartbeats 1000000 in
theorem makerMul_any (B g : Nat) (n : Int) (s : List (Int × Int)) (a b : Int) (w : World) (hB : B ≤ g) (hm : MkS w B g n s) (hl : s.length ≤ 1000) (hn0 : 0 ≤ n) (hn1 : n ≤ 1000) :
    Calls Try.prog 107 #[.pointer (some ⟨g, 0, none⟩), .int .i64 a, .int .i64 b] w fun e w' =>
      e = .returned (.int .i64 (n + s.length)) ∧ MkS w' B g n (s ++ [stI a b]) ∧ Below B w w' ∧ Kp w w' := by
  obtain ⟨A, c, hblk, hown⟩ := hm
  have hgl : g < w.heap.size := (Array.getElem?_eq_some_iff.1 hblk).1
  have c1 : w.cell? ⟨g, 1, none⟩ = some (.slice A s.length c) := by rw [cell_of_row w g 1 _ _ (0, 0) hblk]; rfl
  have HB := Lib.hid hblk
  have HO := Lib.hid hown
  have hBs : B ≤ w.heap.size := by omega
  clear hblk hown
  have HXY := Lib.hid (stI_min a b)
  go_enter Try.func107, Try.ntmps107
  go_wp2_with (at_builtin; refine list_step (fun K hK => ?_); refine step_app2 Try.underlying31 info_step rfl (by omega) rfl (.tmp 11) (.tmp 19) rfl B s.length _ (fl s) rfl (World.ownsRow.alloc HO.out _) w.heap.size 1 (I _) (I _) rfl (by simp; rfl) (by simp; rfl) rfl rfl (by omega) (by simp; omega) ?_; intro A3 c3 w3 hown3 hg3 hbel3; obtain ⟨hb3, f3, k3⟩ := mk_kept HB.out HO.out hg3; go_simp; refine hK _ _ ?_; clear hK K)
  obtain ⟨w4, hw4⟩ : ∃ w4, World.setCell w3 ⟨g, 1, none⟩ (.slice A3 (s.length + 1) c3) = w4 := ⟨_, rfl⟩
  rw [hw4]
  have hb4 := mk_set hb3 hw4
  have x0 : w4.cell? ⟨g, 0, none⟩ = some (.int .i64 n) := by rw [cell_of_row w4 g 0 _ _ (0, 0) hb4]; rfl
  have x1 : w4.cell? ⟨g, 1, none⟩ = some (.slice A3 (s.length + 1) c3) := by rw [cell_of_row w4 g 1 _ _ (0, 0) hb4]; rfl
  have hw : IntKind.i64.wrap (n + ((s.length : Int) + 1)) = n + ((s.length : Int) + 1) := IntWalk.i64_in _ (by omega)
  have hw2 : IntKind.i64.wrap (n + ((s.length : Int) + 1) - 1) = n + (s.length : Int) := by
    rw [IntWalk.i64_in _ (by omega)]
    omega
  have R4 := Lib.hid (show OwS w4 B (.slice A3 (s.length + 1) c3) (s ++ [stI a b]) from by
    subst hw4
    unfold OwS
    rw [HXY.out, fl_snoc, List.length_append, List.length_singleton]
    exact own_set hown3 hb3 (by decide) _)
  have B4 := Lib.hid (show Below B w w4 from by
    subst hw4
    exact (((Below.refl _ _).alloc hBs _).trans hbel3).setCell hB _)
  have K4 := Lib.hid (show Kp w w4 from fun B' sz n' e v xs h1 h2 h3 => by
    subst hw4
    exact own_set (World.ownsRow.kept (World.ownsRow.alloc h3 _) hg3 (own_ne h3 HO.out h1)) hb3 (Ne.symm h2) _)
  have HB4 := Lib.hid hb4
  clear hw4 hb4 hb3 f3 k3 hown3 hg3 hbel3
  refine wp_region_Tw [0, 1, 2, 3, 4, 5, 6, 7, 8, 9, 10, 11] [3, 7] (.lp 0 (.lp 1 (.lp 2 (.lp 4 (.lp 5 (.lp 6 (.ls 3 (.ls 7 (.lp 8 (.lp 9 (.lp 10 (.lp 11 (.done))))))))))))) (by kernel_rfl) (by kernel_rfl) ?_
  (repeat (first | (refine T_lp rfl (fun K hK => ?_); go_simp; refine hK _ ?_; clear hK K) | (refine T_ls rfl rfl (fun K hK => ?_); go_simp; refine hK _ ?_; clear hK K)))
  refine T_done ?_
  go_wp2
  go_ret
  exact ⟨rfl, ⟨A3, c3, by rw [List.length_append, List.length_singleton]; exact HB4.out, by rw [List.length_append, List.length_singleton]; exact R4.out⟩, B4.out.drew, K4.out⟩

/-- One product more: the steps and the value. -/
def muS (n : Int) (x : List (Int × Int) × Int) (b : Int) : List (Int × Int) × Int := (x.1 ++ [stI x.2 b], n + x.1.length)
/-- A product that may have no factor yet. -/
def onS (n : Int) (x : List (Int × Int) × Int) (b : Int) : List (Int × Int) × Int := if x.2 = -1 then (x.1, b) else muS n x b
/-- Squared k times. -/
def sqN (n : Int) (x : List (Int × Int) × Int) : Nat → List (Int × Int) × Int
  | 0 => x
  | k + 1 => muS n (sqN n x k) (sqN n x k).2
theorem sqN_len (n : Int) (x : List (Int × Int) × Int) (k : Nat) : (sqN n x k).1.length = x.1.length + k := by
  induction k with
  | zero => rfl
  | succ k ih => show ((sqN n x k).1 ++ [_]).length = _; rw [List.length_append, ih]; simp; omega
theorem onS_len (n : Int) (x : List (Int × Int) × Int) (b : Int) : (onS n x b).1.length ≤ x.1.length + 1 := by
  unfold onS muS
  split <;> simp

set_option maxRecDepth 100000 in
set_option maxHeartbeats 1000000 in
theorem makerOnto_any (B g : Nat) (n : Int) (x : List (Int × Int) × Int) (b : Int) (w : World) (hB : B ≤ g) (hm : MkS w B g n x.1) (hl : x.1.length ≤ 1000) (hn0 : 0 ≤ n) (hn1 : n ≤ 1000) :
    Calls Try.prog 132 #[.pointer (some ⟨g, 0, none⟩), .int .i64 x.2, .int .i64 b] w fun e w' =>
      e = .returned (.int .i64 (onS n x b).2) ∧ MkS w' B g n (onS n x b).1 ∧ Below B w w' ∧ Kp w w' := by
  obtain ⟨s, v⟩ := x
  by_cases h : v = -1
  · have E := Lib.hid (show onS n (s, v) b = (s, b) by unfold onS; rw [if_pos h])
    have HM := Lib.hid hm
    have hv : (v == -1) = true := by simpa using h
    clear hm h
    go_enter Try.func132, Try.ntmps132
    go_wp2
    go_ret
    exact ⟨by rw [E.out]; rfl, by rw [E.out]; exact HM.out, Below.refl _ _, Kp.refl _⟩
  · have E := Lib.hid (show onS n (s, v) b = muS n (s, v) b by unfold onS; rw [if_neg h])
    have HM := Lib.hid (makerMul_any B g n s v b w hB hm hl hn0 hn1)
    have hv : (v == -1) = false := by simpa using h
    clear hm h
    go_enter Try.func132, Try.ntmps132
    go_wp2_with (go_at_call 107; refine HM.out.mono ?_; rintro e w2 ⟨rfl, hm2, hb2, hk2⟩)
    go_ret
    exact ⟨by rw [E.out]; rfl, by rw [E.out]; exact hm2, hb2, hk2⟩

set_option maxRecDepth 100000 in
set_option maxHeartbeats 1000000 in
theorem makerSquare_any (B g : Nat) (n : Int) (x : List (Int × Int) × Int) (m : Nat) (w : World) (hB : B ≤ g) (hm : MkS w B g n x.1) (hl : x.1.length + m ≤ 1000) (hn0 : 0 ≤ n) (hn1 : n ≤ 1000) :
    Calls Try.prog 106 #[.pointer (some ⟨g, 0, none⟩), .int .i64 x.2, .int .i64 (m : Int)] w fun e w' =>
      e = .returned (.int .i64 (sqN n x m).2) ∧ MkS w' B g n (sqN n x m).1 ∧ Below B w w' ∧ Kp w w' := by
  have HM := Lib.hid hm
  clear hm
  go_enter Try.func106, Try.ntmps106
  go_wp2
  go_loopw [1, 8] (fun v i wr => ∃ k : Nat, k ≤ m ∧ i = .int .i64 k ∧ v = .int .i64 (sqN n x k).2 ∧ MkS wr B g n (sqN n x k).1 ∧ Below B w wr ∧ Kp w wr) (fun _ i _ => m - (intOf i).toNat)
  case atStart => exact ⟨0, by omega, rfl, rfl, HM.out, Below.refl _ _, Kp.refl _⟩
  case round =>
    obtain ⟨k, hk, rfl, rfl, hm, hbel, hkp⟩ := hrel
    have KP := Lib.hid hkp
    have BEL := Lib.hid hbel
    have M := Lib.hid hm
    clear hm hbel hkp
    by_cases hlt : k < m
    · have ik : (k : Int) < (m : Int) := by omega
      have hM := makerMul_any B g n (sqN n x k).1 (sqN n x k).2 (sqN n x k).2 wr hB M.out (by rw [sqN_len]; omega) hn0 hn1
      have HM2 := Lib.hid hM
      clear hM
      obtain ⟨y, hy⟩ : ∃ y, sqN n x k = y := ⟨_, rfl⟩
      have E := Lib.hid (show sqN n x (k + 1) = muS n y y.2 by rw [← hy]; rfl)
      rw [hy] at HM2
      rw [hy]
      clear hy
      go_wp2_with (go_at_call 107; refine HM2.out.mono ?_; rintro e w2 ⟨rfl, hm2, hb2, hk2⟩)
      go_roundw
      case rel => exact ⟨k + 1, by omega, by go_num, by rw [E.out]; rfl, by rw [E.out]; exact hm2, BEL.out.trans hb2, KP.out.trans hk2⟩
      case measure => simp [intOf]; omega
    · have e : k = m := by omega
      subst e
      go_wp2
      go_ret
      exact ⟨rfl, M.out, BEL.out, KP.out⟩

/-- The plan if it is one, otherwise the zero plan. -/
def mkR (p : Pl) : Pl := if good p then p else zeroP
theorem mkR_true {p : Pl} (h : good p = true) : mkR p = p := by unfold mkR; rw [if_pos h]
theorem mkR_false {p : Pl} (h : good p = false) : mkR p = zeroP := by unfold mkR; rw [if_neg (by rw [h]; decide)]
theorem mkR_len (p : Pl) (hs : p.s.length ≤ 1000) (ho : p.o.length ≤ 1000) : (mkR p).s.length ≤ 1000 ∧ (mkR p).o.length ≤ 1000 := by
  unfold mkR
  split
  · exact ⟨hs, ho⟩
  · exact ⟨by simp [zeroP], by simp [zeroP]⟩

set_option maxRecDepth 100000 in
set_option maxHeartbeats 2000000 in
theorem makerPlan_any (B g : Nat) (A2 : Option Addr) (c2 : Nat) (p : Pl) (w : World) (_hB : B ≤ g) (hm : MkS w B g p.n p.s) (hO : OwI w B (.slice A2 p.o.length c2) p.o) (hl : p.s.length ≤ 1000) (hlo : p.o.length ≤ 1000) :
    Calls Try.prog 133 #[.pointer (some ⟨g, 0, none⟩), .slice A2 p.o.length c2] w fun e w' =>
      ∃ R1 R2 v1 v2, e = .returned (.tuple #[.agg #[.int .i64 (mkR p).n, .slice R1 (mkR p).s.length v1, .slice R2 (mkR p).o.length v2], .bool (good p)]) ∧ OwP w' B R1 R2 v1 v2 (mkR p) ∧ Below w.heap.size w w' := by
  obtain ⟨gd, hgd⟩ : ∃ x, good p = x := ⟨_, rfl⟩
  obtain ⟨A1, c1, hblk, hown⟩ := hm
  have hgl : g < w.heap.size := (Array.getElem?_eq_some_iff.1 hblk).1
  have HBLK := Lib.hid hblk
  have HOW := Lib.hid hown
  have HO := Lib.hid hO
  have HGD := Lib.hid hgd
  have hIf := fun W E1 E2 e1 e2 hrW => planOrNone_any W.heap.size E1 E2 e1 e2 p W (Nat.le_refl _) (by omega) (by omega) hrW
  rw [hgd] at hIf
  have HIF := Lib.hid hIf
  clear hblk hown hO hgd hIf
  go_enter Try.func133, Try.ntmps133
  go_wp2
  generalize hw1 : World.alloc w _ = w1
  obtain ⟨_, _, _, xs, xb⟩ := box3 hw1
  have q0 : w1.heap[w.heap.size]? = some (.cells #[.int .i64 0, .slice none 0 0, .slice none 0 0] 33 (0, 0)) := by subst hw1; exact heap_alloc_new w _
  have hb := (xb.block g hgl).trans HBLK.out
  have x0 : w1.cell? ⟨g, 0, none⟩ = some (.int .i64 p.n) := by rw [cell_of_row w1 g 0 _ _ (0, 0) hb]; rfl
  have x1 : w1.cell? ⟨g, 1, none⟩ = some (.slice A1 p.s.length c1) := by rw [cell_of_row w1 g 1 _ _ (0, 0) hb]; rfl
  have XB := Lib.hid xb
  have XS := Lib.hid xs
  have Q0 := Lib.hid q0
  clear hw1 xb xs q0 hb
  refine wp_region_Tw [0, 1, 2, 3, 4, 5, 6, 7, 8, 9, 11, 12, 14] [3, 7] (.lp 0 (.lp 1 (.lp 2 (.lp 4 (.lp 5 (.lp 6 (.lp 8 (.ls 3 (.ls 7 (.lp 9 (.hv 10 (.lp 11 (.lp 12 (.hv 13 (.lp 14 (.done)))))))))))))))) (by kernel_rfl) (by kernel_rfl) ?_
  (repeat (first | (refine T_lp rfl (fun K hK => ?_); go_simp; refine hK _ ?_; clear hK K) | (refine T_ls rfl rfl (fun K hK => ?_); go_simp; refine hK _ ?_; clear hK K)))
  refine T_hv rfl (by kernel_rfl) (fun K hK => ?_)
  go_simp
  go_at_call 134
  have RD := Lib.hid (show RdP w1.drew w1.drew.heap.size A1 A2 p from ⟨(Rd.of_own (own_below HOW.out XB.out)).drew, (Rd.of_own (own_below HO.out XB.out)).drew⟩)
  refine (HIF.out w1.drew A1 A2 c1 c2 RD.out).mono ?_
  rintro e w5 ⟨rfl, hb5⟩
  have hb15 : Below w1.heap.size w1 w5 := ((Below.refl _ w1).drew).trans hb5
  have Q5 := Lib.hid ((hb15.block w.heap.size (by have := XS.out; omega)).trans Q0.out)
  obtain ⟨t0, t1, t2, g0, g1, g2⟩ := cells3 Q5.out
  have O5 := Lib.hid (own_below (own_below HOW.out XB.out) hb15)
  have I5 := Lib.hid (own_below (own_below HO.out XB.out) hb15)
  have B5 := Lib.hid (XB.out.trans (hb15.mono (by have := XS.out; omega)))
  clear hb15 hb5 x0 x1
  cases gd with
  | false =>
    have ER := Lib.hid (mkR_false HGD.out)
    simp only [selV, Bool.false_eq_true, if_false]
    (go_simp; refine hK _ _ ?_; clear hK K)
    (repeat (first | (refine T_lp rfl (fun K hK => ?_); go_simp; refine hK _ ?_; clear hK K) | (refine T_ls rfl rfl (fun K hK => ?_); go_simp; refine hK _ ?_; clear hK K)))
    (refine T_hv rfl (by kernel_rfl) (fun K hK => ?_); go_simp; refine hK _ _ ?_; clear hK K)
    (repeat (first | (refine T_lp rfl (fun K hK => ?_); go_simp; refine hK _ ?_; clear hK K) | (refine T_ls rfl rfl (fun K hK => ?_); go_simp; refine hK _ ?_; clear hK K)))
    refine T_done ?_
    go_wp2
    refine bodyPost_ret (v := .tuple #[.agg #[.int .i64 0, .slice none 0 0, .slice none 0 0], .bool false]) (by simp [results, Try.results133, go_sem, t0, t1, t2]) rfl ⟨none, none, 0, 0, by rw [ER.out, HGD.out]; rfl, by rw [ER.out]; exact OwP.zero _ _, ?_⟩
    exact ((B5.out.setCell (by simp) _).setCell (by simp) _).setCell (by simp) _
  | true =>
    have ER := Lib.hid (mkR_true HGD.out)
    simp only [selV, if_true]
    (go_simp; refine hK _ _ ?_; clear hK K)
    (repeat (first | (refine T_lp rfl (fun K hK => ?_); go_simp; refine hK _ ?_; clear hK K) | (refine T_ls rfl rfl (fun K hK => ?_); go_simp; refine hK _ ?_; clear hK K)))
    (refine T_hv rfl (by kernel_rfl) (fun K hK => ?_); go_simp; refine hK _ _ ?_; clear hK K)
    (repeat (first | (refine T_lp rfl (fun K hK => ?_); go_simp; refine hK _ ?_; clear hK K) | (refine T_ls rfl rfl (fun K hK => ?_); go_simp; refine hK _ ?_; clear hK K)))
    refine T_done ?_
    go_wp2
    refine bodyPost_ret (v := .tuple #[.agg #[.int .i64 p.n, .slice A1 p.s.length c1, .slice A2 p.o.length c2], .bool true]) (by simp [results, Try.results133, go_sem, t0, t1, t2]) rfl ⟨A1, A2, c1, c2, by rw [ER.out, HGD.out], ?_, ?_⟩
    · rw [ER.out]
      exact owP_of3 O5.out I5.out Q5.out (by decide) (by decide) rfl rfl _ _ _
    · exact ((B5.out.setCell (by simp) _).setCell (by simp) _).setCell (by simp) _
end Go.Proofs.Ytodjnafalbbmjaa
/- A plan with a step more, and its value, by the model. -/
namespace Go.Proofs.Ytodjnafalbbmjaa
open Go.RowKit

theorem mt_set3 {w w' : World} {g : Nat} {a b c a' b' c' : Value} {t : TypeId} (h : w.heap[g]? = some (.cells #[a, b, c] t (0, 0))) (e : ((w.setCell ⟨g, 0, none⟩ a').setCell ⟨g, 1, none⟩ b').setCell ⟨g, 2, none⟩ c' = w') : w'.heap[g]? = some (.cells #[a', b', c'] t (0, 0)) := by
  subst e
  have h1 := heap_setCell_same w g 0 _ t a' h
  have h2 := heap_setCell_same _ g 1 _ t b' h1
  have h3 := heap_setCell_same _ g 2 _ t c' h2
  rw [h3]
  rfl
theorem mt_row {w : World} {B g n : Nat} {t : TypeId} {cs : Array Value} {v u0 u1 u2 : Value} {s : List (Int × Int)} {a b : Int} (h : w.ownsRow B 68 2 v n (fl s ++ [I (leastI a b), I (mostI a b)])) (hg : w.heap[g]? = some (.cells cs t (0, 0))) (hn : n = s.length + 1 := by rfl) (ht : t ≠ 68 := by decide) :
    OwS (((w.drew.setCell ⟨g, 0, none⟩ u0).setCell ⟨g, 1, none⟩ u1).setCell ⟨g, 2, none⟩ u2) B v (s ++ [stI a b]) := by
  subst hn
  unfold OwS
  rw [fl_snoc, List.length_append, List.length_singleton]
  exact own_set3 (w := w.drew) h hg ht _ _ _

set_option maxRecDepth 100000 in
set_option maxHeartbeats 4000000 in
theorem meTimes_any (B : Nat) (A1 A2 : Option Addr) (c1 n2 c2 : Nat) (n : Int) (s : List (Int × Int)) (a b : Int) (w : World) (hB : B ≤ w.heap.size) (hl : s.length ≤ 1000) (hn0 : 0 ≤ n) (hn1 : n ≤ 1000) (hr : Rd w B 2 A1 s.length (fl s)) :
    Calls Try.prog 62 #[.agg #[.int .i64 n, .slice A1 s.length c1, .slice A2 n2 c2], .int .i64 a, .int .i64 b] w fun e w' =>
      ∃ A' c', e = .returned (.tuple #[.agg #[.int .i64 n, .slice A' (s.length + 1) c', .slice none 0 0], .int .i64 (n + s.length)]) ∧ OwS w' w.heap.size (.slice A' (s.length + 1) c') (s ++ [stI a b]) ∧ Below w.heap.size w w' := by
  have H := Lib.hid hr
  clear hr
  have hw : IntKind.i64.wrap (n + (s.length : Int)) = n + (s.length : Int) := IntWalk.i64_in _ (by omega)
  go_enter Try.func62, Try.ntmps62
  go_wp2
  generalize hw1 : World.alloc (World.alloc w _) _ = w1
  obtain ⟨q0, q1, xs, xb⟩ := boxes2b hw1
  clear hw1
  obtain ⟨y0, y1, y2, _, _, _⟩ := cells3b q0
  have Q1 := Lib.hid q1
  have XB := Lib.hid xb
  have XS := Lib.hid xs
  have FS := Lib.hid (show ∀ x, Below w1.heap.size w1 x → x.cell? ⟨w.heap.size, 0, none⟩ = some (.int .i64 n) ∧ x.cell? ⟨w.heap.size, 1, none⟩ = some (.slice A1 s.length c1) ∧ x.cell? ⟨w.heap.size, 2, none⟩ = some (.slice A2 n2 c2) from fun x hx =>
    ⟨(hx.cell (p := ⟨w.heap.size, 0, none⟩) (by simp only []; omega)).trans y0, (hx.cell (p := ⟨w.heap.size, 1, none⟩) (by simp only []; omega)).trans y1, (hx.cell (p := ⟨w.heap.size, 2, none⟩) (by simp only []; omega)).trans y2⟩)
  have HC := Lib.hid (show Below w1.heap.size w1 w1.drew from (Below.refl _ _).drew)
  clear q0 q1 xb xs y0 y1 y2
  refine wp_region_T (fun x : World => Below w1.heap.size w1 x) [0, 1, 3, 4, 6, 7, 11] [1, 4] (.lp 0 (.lp 3 (.lp 6 (.lp 7 (.ls 1 (.ls 4 (.hv2 2 (.hv2 5 (.hv2 8 (.hv2 9 (.hv2 10 (.lp 11 (.hv 12 (.hv 13 (.done)))) 12 (.hv 10 (.lp 11 (.hv 13 (.done))))) 12 (.hv 9 (.hv 10 (.lp 11 (.hv 13 (.done)))))) 12 (.hv 8 (.hv 9 (.hv 10 (.lp 11 (.hv 13 (.done))))))) 12 (.hv 5 (.hv 8 (.hv 9 (.hv 10 (.lp 11 (.hv 13 (.done)))))))) 12 (.hv 2 (.hv 5 (.hv 8 (.hv 9 (.hv 10 (.lp 11 (.hv 13 (.done))))))))))))))) (by kernel_rfl) (by kernel_rfl) ?_
  (repeat (refine T_lp rfl (fun K hK => ?_); go_simp; refine hK _ ?_; clear hK K))
  refine T_ls1 (v := .int .i64 n) rfl rfl HC.out (fun x hx => (by obtain ⟨h0, h1, h2⟩ := FS.out x hx; go_simp)) (fun K hK => ?_)
  (go_simp; refine hK _ ?_; clear hK K)
  refine T_ls1 (v := .slice A1 s.length c1) rfl rfl HC.out (fun x hx => (by obtain ⟨h0, h1, h2⟩ := FS.out x hx; go_simp)) (fun K hK => ?_)
  (go_simp; refine hK _ ?_; clear hK K)
  generalize hwd : World.drew w1 = wd at HC ⊢
  clear hwd
  refine T_hv2 ?_ ?_
  · refine T_hvS rfl (fun K hK => ?_)
    go_simp
    refine hK _ _ (HC.out.alloc HC.out.size _) ?_
    clear hK K
    generalize hx : World.alloc wd _ = x1
    have OWn := Lib.hid (show x1.ownsRow w1.heap.size 68 2 (.slice (some ⟨wd.heap.size, 0, none⟩) 0 0) 0 [] from by subst hx; exact own_empty 2 HC.out.size)
    have hD := (show Below wd.heap.size wd x1 from by subst hx; exact (Below.refl _ _).alloc (Nat.le_refl _) _)
    have HC := Lib.hid (HC.out.trans (hD.mono HC.out.size))
    clear hD
    clear hx
    have OW := OWn
    refine T_hv2 ?_ ?_
    · refine T_hvS rfl (fun K hK => ?_)
      refine step_appM Try.underlying31 info_step rfl (by omega) (by omega) rfl (.tmp 11) (.tmp 13) rfl w1.heap.size 0 _ [] rfl OW.out A1 s.length c1 (fl s) rfl (H.out.below' (XB.out.trans (HC.out.mono (by have := XS.out; omega))) hB) (fl_one s) (by omega) HC.out.size ?_
      intro A4 c4 x2 hown4 hg4 hbel4
      have OWn := Lib.hid (show x2.ownsRow w1.heap.size 68 2 (.slice A4 s.length c4) s.length (fl s) from by have h := hown4; simp only [Nat.zero_add, List.nil_append] at h; exact h)
      have HC := Lib.hid (HC.out.trans hbel4)
      have OW := OWn
      clear OWn
      go_simp
      refine hK _ _ HC.out ?_
      clear hK K hown4 hg4 hbel4
      refine T_hv2 ?_ ?_
      · refine T_hvS rfl (fun K hK => ?_)
        go_simp
        go_at_call 74
        refine (plStep_any a b x2).mono ?_
        rintro e x3 ⟨rfl, hbx3⟩
        go_simp
        refine hK _ _ (HC.out.trans (hbx3.mono HC.out.size)) ?_
        clear hK K
        have hD := hbx3
        have OW := Lib.hid (own_below OW.out hD)
        have HC := Lib.hid (HC.out.trans (hD.mono HC.out.size))
        clear hD
        clear hbx3
        refine T_hv2 ?_ ?_
        · refine T_hvS rfl (fun K hK => ?_)
          go_simp
          refine hK _ _ (HC.out.alloc HC.out.size _) ?_
          clear hK K
          generalize hx : World.alloc x3 _ = x4
          have BXn := Lib.hid (show x4.heap[x3.heap.size]? = some (.cells #[.int .i64 (leastI a b), .int .i64 (mostI a b)] 68 (0, 0)) from by subst hx; exact heap_alloc_new x3 _)
          have hD := (show Below x3.heap.size x3 x4 from by subst hx; exact (Below.refl _ _).alloc (Nat.le_refl _) _)
          have OW := Lib.hid (own_below OW.out hD)
          have HC := Lib.hid (HC.out.trans (hD.mono HC.out.size))
          clear hD
          clear hx
          have BX := BXn
          refine T_hv2 ?_ ?_
          · refine T_hvS rfl (fun K hK => ?_)
            have u0 : x4.cell? ⟨x3.heap.size, 0, none⟩ = some (I (leastI a b)) := by rw [cell_of_row x4 _ 0 _ _ (0, 0) BX.out]; rfl
            have u1 : x4.cell? ⟨x3.heap.size, 1, none⟩ = some (I (mostI a b)) := by rw [cell_of_row x4 _ 1 _ _ (0, 0) BX.out]; rfl
            refine step_app2 Try.underlying31 info_step rfl (by omega) rfl (.tmp 14) (.tmp 18) rfl w1.heap.size s.length _ (fl s) rfl OW.out _ 1 (I (leastI a b)) (I (mostI a b)) rfl u0 u1 rfl rfl (by omega) HC.out.size ?_
            intro A4 c4 x5 hown4 hg4 hbel4
            clear u0 u1
            have OWn := Lib.hid hown4
            have HC := Lib.hid (HC.out.trans hbel4)
            have OW := OWn
            clear OWn
            clear BX
            go_simp
            refine hK _ _ HC.out ?_
            clear hK K hown4 hg4 hbel4
            (repeat (refine T_lp rfl (fun K hK => ?_); go_simp; refine hK _ ?_; clear hK K))
            refine T_hvS rfl (fun K hK => ?_)
            go_simp
            refine hK _ _ (HC.out.alloc HC.out.size _) ?_
            clear hK K
            generalize hx : World.alloc x5 _ = x6
            have GBn := Lib.hid (show x6.heap[x5.heap.size]? = some (.cells #[.int .i64 0, .slice none 0 0, .slice none 0 0] 33 (0, 0)) from by subst hx; exact heap_alloc_new x5 _)
            have hGs := Lib.hid (show w1.heap.size ≤ x5.heap.size from HC.out.size)
            have hD := (show Below x5.heap.size x5 x6 from by subst hx; exact (Below.refl _ _).alloc (Nat.le_refl _) _)
            have OW := Lib.hid (own_below OW.out hD)
            have HC := Lib.hid (HC.out.trans (hD.mono HC.out.size))
            clear hD
            clear hx
            have GB := GBn
            (repeat (refine T_lp rfl (fun K hK => ?_); go_simp; refine hK _ ?_; clear hK K))
            obtain ⟨t0, t1, t2, g0, g1, g2⟩ := cells3 GB.out
            refine T_hvS rfl (fun K hK => ?_)
            go_simp
            obtain ⟨x7, hy⟩ : ∃ y, ((World.setCell x6 ⟨x5.heap.size, 0, none⟩ (.int .i64 n)).setCell ⟨x5.heap.size, 1, none⟩ (.slice A4 (s.length + 1) c4)).setCell ⟨x5.heap.size, 2, none⟩ (.slice none 0 0) = y := ⟨_, rfl⟩
            rw [hy]
            have hG := Lib.hid (show x7.heap[x5.heap.size]? = some (.cells #[.int .i64 n, .slice A4 (s.length + 1) c4, .slice none 0 0] 33 (0, 0)) from mt_set3 GB.out hy)
            have hC := Lib.hid (show Below w1.heap.size w1 x7 from by subst hy; exact ((HC.out.setCell hGs.out _).setCell hGs.out _).setCell hGs.out _)
            have hO := Lib.hid (show x7.ownsRow w1.heap.size 68 2 (.slice A4 (s.length + 1) c4) (s.length + 1) (fl s ++ [I (leastI a b), I (mostI a b)]) from by subst hy; exact own_set3 OW.out GB.out (by decide) _ _ _)
            refine hK _ _ hC.out ?_
            clear hK K hy t0 t1 t2 g0 g1 g2
            refine T_done ?_
            obtain ⟨y0, y1, y2⟩ := FS.out x7 hC.out
            obtain ⟨r0, r1, r2, f0, f1, f2⟩ := cells3 ((hC.out.block (w.heap.size + 1) (by have := XS.out; omega)).trans Q1.out)
            obtain ⟨t0, t1, t2, _, _, _⟩ := cells3 hG.out
            have FS2 := Lib.hid (show ∀ x : World, (∀ k, k ≠ w.heap.size + 1 → x.heap[k]? = x7.heap[k]?) → x.cell? ⟨x5.heap.size, 0, none⟩ = some (.int .i64 n) ∧ x.cell? ⟨x5.heap.size, 1, none⟩ = some (.slice A4 (s.length + 1) c4) ∧ x.cell? ⟨x5.heap.size, 2, none⟩ = some (.slice none 0 0) ∧ x.cell? ⟨w.heap.size, 0, none⟩ = some (.int .i64 n) ∧ x.cell? ⟨w.heap.size, 1, none⟩ = some (.slice A1 s.length c1) from fun x hx =>
              have e1 := hx (x5.heap.size) (by have := hGs.out; have := XS.out; omega)
              have e2 := hx w.heap.size (by omega)
              ⟨(World.cell?_of_block (a := ⟨x5.heap.size, 0, none⟩) e1).trans t0, (World.cell?_of_block (a := ⟨x5.heap.size, 1, none⟩) e1).trans t1, (World.cell?_of_block (a := ⟨x5.heap.size, 2, none⟩) e1).trans t2, (World.cell?_of_block (a := ⟨w.heap.size, 0, none⟩) e2).trans y0, (World.cell?_of_block (a := ⟨w.heap.size, 1, none⟩) e2).trans y1⟩)
            have S0 := Lib.hid (show (∀ k, k ≠ w.heap.size + 1 → x7.drew.heap[k]? = x7.heap[k]?) from fun k _ => rfl)
            clear y0 y1 y2 t0 t1 t2
            go_wp2
            refine wp_region_T (fun x : World => ∀ k, k ≠ w.heap.size + 1 → x.heap[k]? = x7.heap[k]?) [0, 1, 2, 3, 4, 5, 6, 8] [0, 2, 4] (.lp 1 (.lp 3 (.ls 0 (.ls 2 (.ls 4 (.lp 5 (.lp 6 (.hv 7 (.lp 8 (.done)))))))))) (by kernel_rfl) (by kernel_rfl) ?_
            (repeat (refine T_lp rfl (fun K hK => ?_); go_simp; refine hK _ ?_; clear hK K))
            refine T_ls1 (v := .agg #[.int .i64 n, .slice A4 (s.length + 1) c4, .slice none 0 0]) rfl rfl S0.out (fun x hx => (by obtain ⟨h0, h1, h2, h3, h4⟩ := FS2.out x hx; go_simp)) (fun K hK => ?_)
            (go_simp; refine hK _ ?_; clear hK K)
            refine T_ls1 (v := .int .i64 n) rfl rfl S0.out (fun x hx => (by obtain ⟨h0, h1, h2, h3, h4⟩ := FS2.out x hx; go_simp)) (fun K hK => ?_)
            (go_simp; refine hK _ ?_; clear hK K)
            refine T_ls1 (v := .slice A1 s.length c1) rfl rfl S0.out (fun x hx => (by obtain ⟨h0, h1, h2, h3, h4⟩ := FS2.out x hx; go_simp)) (fun K hK => ?_)
            (go_simp; refine hK _ ?_; clear hK K)
            (repeat (refine T_lp rfl (fun K hK => ?_); go_simp; refine hK _ ?_; clear hK K))
            refine T_hvS rfl (fun K hK => ?_)
            go_simp
            refine hK _ _ (fun k hk => ?_) ?_
            · exact (Below.heap_setCell _ _ _ k (fun e => hk e)).trans ((Below.heap_setCell _ _ _ k (fun e => hk e)).trans (Below.heap_setCell _ _ _ k (fun e => hk e)))
            clear hK K
            (repeat (refine T_lp rfl (fun K hK => ?_); go_simp; refine hK _ ?_; clear hK K))
            refine T_done ?_
            go_wp2
            refine bodyPost_ret (v := .tuple #[.agg #[.int .i64 n, .slice A4 (s.length + 1) c4, .slice none 0 0], .int .i64 (n + s.length)]) (by simp [results, Try.results62, go_sem, r0, r1, r2]) rfl ⟨A4, c4, rfl, ?_, ?_⟩
            · exact mt_row (own_base hO.out (by have := XS.out; omega)) ((hC.out.block (w.heap.size + 1) (by have := XS.out; omega)).trans Q1.out)
            · exact ((((XB.out.trans (hC.out.mono (by have := XS.out; omega))).drew).setCell (by simp) _).setCell (by simp) _).setCell (by simp) _
          · refine T_hvS rfl (fun K hK => ?_)
            go_simp
            refine hK _ _ (HC.out.alloc HC.out.size _) ?_
            clear hK K
            generalize hx : World.alloc x4 _ = x8
            have GBn := Lib.hid (show x8.heap[x4.heap.size]? = some (.cells #[.int .i64 0, .slice none 0 0, .slice none 0 0] 33 (0, 0)) from by subst hx; exact heap_alloc_new x4 _)
            have hGs := Lib.hid (show w1.heap.size ≤ x4.heap.size from HC.out.size)
            have hD := (show Below x4.heap.size x4 x8 from by subst hx; exact (Below.refl _ _).alloc (Nat.le_refl _) _)
            have OW := Lib.hid (own_below OW.out hD)
            have BX := Lib.hid ((hD.block _ (Array.getElem?_eq_some_iff.1 BX.out).1).trans BX.out)
            have HC := Lib.hid (HC.out.trans (hD.mono HC.out.size))
            clear hD
            clear hx
            have GB := GBn
            refine T_hvS rfl (fun K hK => ?_)
            have u0 : x8.cell? ⟨x3.heap.size, 0, none⟩ = some (I (leastI a b)) := by rw [cell_of_row x8 _ 0 _ _ (0, 0) BX.out]; rfl
            have u1 : x8.cell? ⟨x3.heap.size, 1, none⟩ = some (I (mostI a b)) := by rw [cell_of_row x8 _ 1 _ _ (0, 0) BX.out]; rfl
            refine step_app2 Try.underlying31 info_step rfl (by omega) rfl (.tmp 14) (.tmp 18) rfl w1.heap.size s.length _ (fl s) rfl OW.out _ 1 (I (leastI a b)) (I (mostI a b)) rfl u0 u1 rfl rfl (by omega) HC.out.size ?_
            intro A4 c4 x9 hown4 hg4 hbel4
            clear u0 u1
            have OWn := Lib.hid hown4
            have GB := Lib.hid ((hg4.block _ (Array.getElem?_eq_some_iff.1 GB.out).1 (own_ne_blk OW.out GB.out (by decide))).trans GB.out)
            have HC := Lib.hid (HC.out.trans hbel4)
            have OW := OWn
            clear OWn
            clear BX
            go_simp
            refine hK _ _ HC.out ?_
            clear hK K hown4 hg4 hbel4
            (repeat (refine T_lp rfl (fun K hK => ?_); go_simp; refine hK _ ?_; clear hK K))
            obtain ⟨t0, t1, t2, g0, g1, g2⟩ := cells3 GB.out
            refine T_hvS rfl (fun K hK => ?_)
            go_simp
            obtain ⟨x10, hy⟩ : ∃ y, ((World.setCell x9 ⟨x4.heap.size, 0, none⟩ (.int .i64 n)).setCell ⟨x4.heap.size, 1, none⟩ (.slice A4 (s.length + 1) c4)).setCell ⟨x4.heap.size, 2, none⟩ (.slice none 0 0) = y := ⟨_, rfl⟩
            rw [hy]
            have hG := Lib.hid (show x10.heap[x4.heap.size]? = some (.cells #[.int .i64 n, .slice A4 (s.length + 1) c4, .slice none 0 0] 33 (0, 0)) from mt_set3 GB.out hy)
            have hC := Lib.hid (show Below w1.heap.size w1 x10 from by subst hy; exact ((HC.out.setCell hGs.out _).setCell hGs.out _).setCell hGs.out _)
            have hO := Lib.hid (show x10.ownsRow w1.heap.size 68 2 (.slice A4 (s.length + 1) c4) (s.length + 1) (fl s ++ [I (leastI a b), I (mostI a b)]) from by subst hy; exact own_set3 OW.out GB.out (by decide) _ _ _)
            refine hK _ _ hC.out ?_
            clear hK K hy t0 t1 t2 g0 g1 g2
            refine T_done ?_
            obtain ⟨y0, y1, y2⟩ := FS.out x10 hC.out
            obtain ⟨r0, r1, r2, f0, f1, f2⟩ := cells3 ((hC.out.block (w.heap.size + 1) (by have := XS.out; omega)).trans Q1.out)
            obtain ⟨t0, t1, t2, _, _, _⟩ := cells3 hG.out
            have FS2 := Lib.hid (show ∀ x : World, (∀ k, k ≠ w.heap.size + 1 → x.heap[k]? = x10.heap[k]?) → x.cell? ⟨x4.heap.size, 0, none⟩ = some (.int .i64 n) ∧ x.cell? ⟨x4.heap.size, 1, none⟩ = some (.slice A4 (s.length + 1) c4) ∧ x.cell? ⟨x4.heap.size, 2, none⟩ = some (.slice none 0 0) ∧ x.cell? ⟨w.heap.size, 0, none⟩ = some (.int .i64 n) ∧ x.cell? ⟨w.heap.size, 1, none⟩ = some (.slice A1 s.length c1) from fun x hx =>
              have e1 := hx (x4.heap.size) (by have := hGs.out; have := XS.out; omega)
              have e2 := hx w.heap.size (by omega)
              ⟨(World.cell?_of_block (a := ⟨x4.heap.size, 0, none⟩) e1).trans t0, (World.cell?_of_block (a := ⟨x4.heap.size, 1, none⟩) e1).trans t1, (World.cell?_of_block (a := ⟨x4.heap.size, 2, none⟩) e1).trans t2, (World.cell?_of_block (a := ⟨w.heap.size, 0, none⟩) e2).trans y0, (World.cell?_of_block (a := ⟨w.heap.size, 1, none⟩) e2).trans y1⟩)
            have S0 := Lib.hid (show (∀ k, k ≠ w.heap.size + 1 → x10.drew.heap[k]? = x10.heap[k]?) from fun k _ => rfl)
            clear y0 y1 y2 t0 t1 t2
            go_wp2
            refine wp_region_T (fun x : World => ∀ k, k ≠ w.heap.size + 1 → x.heap[k]? = x10.heap[k]?) [0, 1, 2, 3, 4, 5, 6, 8] [0, 2, 4] (.lp 1 (.lp 3 (.ls 0 (.ls 2 (.ls 4 (.lp 5 (.lp 6 (.hv 7 (.lp 8 (.done)))))))))) (by kernel_rfl) (by kernel_rfl) ?_
            (repeat (refine T_lp rfl (fun K hK => ?_); go_simp; refine hK _ ?_; clear hK K))
            refine T_ls1 (v := .agg #[.int .i64 n, .slice A4 (s.length + 1) c4, .slice none 0 0]) rfl rfl S0.out (fun x hx => (by obtain ⟨h0, h1, h2, h3, h4⟩ := FS2.out x hx; go_simp)) (fun K hK => ?_)
            (go_simp; refine hK _ ?_; clear hK K)
            refine T_ls1 (v := .int .i64 n) rfl rfl S0.out (fun x hx => (by obtain ⟨h0, h1, h2, h3, h4⟩ := FS2.out x hx; go_simp)) (fun K hK => ?_)
            (go_simp; refine hK _ ?_; clear hK K)
            refine T_ls1 (v := .slice A1 s.length c1) rfl rfl S0.out (fun x hx => (by obtain ⟨h0, h1, h2, h3, h4⟩ := FS2.out x hx; go_simp)) (fun K hK => ?_)
            (go_simp; refine hK _ ?_; clear hK K)
            (repeat (refine T_lp rfl (fun K hK => ?_); go_simp; refine hK _ ?_; clear hK K))
            refine T_hvS rfl (fun K hK => ?_)
            go_simp
            refine hK _ _ (fun k hk => ?_) ?_
            · exact (Below.heap_setCell _ _ _ k (fun e => hk e)).trans ((Below.heap_setCell _ _ _ k (fun e => hk e)).trans (Below.heap_setCell _ _ _ k (fun e => hk e)))
            clear hK K
            (repeat (refine T_lp rfl (fun K hK => ?_); go_simp; refine hK _ ?_; clear hK K))
            refine T_done ?_
            go_wp2
            refine bodyPost_ret (v := .tuple #[.agg #[.int .i64 n, .slice A4 (s.length + 1) c4, .slice none 0 0], .int .i64 (n + s.length)]) (by simp [results, Try.results62, go_sem, r0, r1, r2]) rfl ⟨A4, c4, rfl, ?_, ?_⟩
            · exact mt_row (own_base hO.out (by have := XS.out; omega)) ((hC.out.block (w.heap.size + 1) (by have := XS.out; omega)).trans Q1.out)
            · exact ((((XB.out.trans (hC.out.mono (by have := XS.out; omega))).drew).setCell (by simp) _).setCell (by simp) _).setCell (by simp) _
        · refine T_hvS rfl (fun K hK => ?_)
          go_simp
          refine hK _ _ (HC.out.alloc HC.out.size _) ?_
          clear hK K
          generalize hx : World.alloc x3 _ = x11
          have GBn := Lib.hid (show x11.heap[x3.heap.size]? = some (.cells #[.int .i64 0, .slice none 0 0, .slice none 0 0] 33 (0, 0)) from by subst hx; exact heap_alloc_new x3 _)
          have hGs := Lib.hid (show w1.heap.size ≤ x3.heap.size from HC.out.size)
          have hD := (show Below x3.heap.size x3 x11 from by subst hx; exact (Below.refl _ _).alloc (Nat.le_refl _) _)
          have OW := Lib.hid (own_below OW.out hD)
          have HC := Lib.hid (HC.out.trans (hD.mono HC.out.size))
          clear hD
          clear hx
          have GB := GBn
          refine T_hvS rfl (fun K hK => ?_)
          go_simp
          refine hK _ _ (HC.out.alloc HC.out.size _) ?_
          clear hK K
          generalize hx : World.alloc x11 _ = x12
          have BXn := Lib.hid (show x12.heap[x11.heap.size]? = some (.cells #[.int .i64 (leastI a b), .int .i64 (mostI a b)] 68 (0, 0)) from by subst hx; exact heap_alloc_new x11 _)
          have hD := (show Below x11.heap.size x11 x12 from by subst hx; exact (Below.refl _ _).alloc (Nat.le_refl _) _)
          have OW := Lib.hid (own_below OW.out hD)
          have GB := Lib.hid ((hD.block _ (Array.getElem?_eq_some_iff.1 GB.out).1).trans GB.out)
          have HC := Lib.hid (HC.out.trans (hD.mono HC.out.size))
          clear hD
          clear hx
          have BX := BXn
          refine T_hvS rfl (fun K hK => ?_)
          have u0 : x12.cell? ⟨x11.heap.size, 0, none⟩ = some (I (leastI a b)) := by rw [cell_of_row x12 _ 0 _ _ (0, 0) BX.out]; rfl
          have u1 : x12.cell? ⟨x11.heap.size, 1, none⟩ = some (I (mostI a b)) := by rw [cell_of_row x12 _ 1 _ _ (0, 0) BX.out]; rfl
          refine step_app2 Try.underlying31 info_step rfl (by omega) rfl (.tmp 14) (.tmp 18) rfl w1.heap.size s.length _ (fl s) rfl OW.out _ 1 (I (leastI a b)) (I (mostI a b)) rfl u0 u1 rfl rfl (by omega) HC.out.size ?_
          intro A4 c4 x13 hown4 hg4 hbel4
          clear u0 u1
          have OWn := Lib.hid hown4
          have GB := Lib.hid ((hg4.block _ (Array.getElem?_eq_some_iff.1 GB.out).1 (own_ne_blk OW.out GB.out (by decide))).trans GB.out)
          have HC := Lib.hid (HC.out.trans hbel4)
          have OW := OWn
          clear OWn
          clear BX
          go_simp
          refine hK _ _ HC.out ?_
          clear hK K hown4 hg4 hbel4
          (repeat (refine T_lp rfl (fun K hK => ?_); go_simp; refine hK _ ?_; clear hK K))
          obtain ⟨t0, t1, t2, g0, g1, g2⟩ := cells3 GB.out
          refine T_hvS rfl (fun K hK => ?_)
          go_simp
          obtain ⟨x14, hy⟩ : ∃ y, ((World.setCell x13 ⟨x3.heap.size, 0, none⟩ (.int .i64 n)).setCell ⟨x3.heap.size, 1, none⟩ (.slice A4 (s.length + 1) c4)).setCell ⟨x3.heap.size, 2, none⟩ (.slice none 0 0) = y := ⟨_, rfl⟩
          rw [hy]
          have hG := Lib.hid (show x14.heap[x3.heap.size]? = some (.cells #[.int .i64 n, .slice A4 (s.length + 1) c4, .slice none 0 0] 33 (0, 0)) from mt_set3 GB.out hy)
          have hC := Lib.hid (show Below w1.heap.size w1 x14 from by subst hy; exact ((HC.out.setCell hGs.out _).setCell hGs.out _).setCell hGs.out _)
          have hO := Lib.hid (show x14.ownsRow w1.heap.size 68 2 (.slice A4 (s.length + 1) c4) (s.length + 1) (fl s ++ [I (leastI a b), I (mostI a b)]) from by subst hy; exact own_set3 OW.out GB.out (by decide) _ _ _)
          refine hK _ _ hC.out ?_
          clear hK K hy t0 t1 t2 g0 g1 g2
          refine T_done ?_
          obtain ⟨y0, y1, y2⟩ := FS.out x14 hC.out
          obtain ⟨r0, r1, r2, f0, f1, f2⟩ := cells3 ((hC.out.block (w.heap.size + 1) (by have := XS.out; omega)).trans Q1.out)
          obtain ⟨t0, t1, t2, _, _, _⟩ := cells3 hG.out
          have FS2 := Lib.hid (show ∀ x : World, (∀ k, k ≠ w.heap.size + 1 → x.heap[k]? = x14.heap[k]?) → x.cell? ⟨x3.heap.size, 0, none⟩ = some (.int .i64 n) ∧ x.cell? ⟨x3.heap.size, 1, none⟩ = some (.slice A4 (s.length + 1) c4) ∧ x.cell? ⟨x3.heap.size, 2, none⟩ = some (.slice none 0 0) ∧ x.cell? ⟨w.heap.size, 0, none⟩ = some (.int .i64 n) ∧ x.cell? ⟨w.heap.size, 1, none⟩ = some (.slice A1 s.length c1) from fun x hx =>
            have e1 := hx (x3.heap.size) (by have := hGs.out; have := XS.out; omega)
            have e2 := hx w.heap.size (by omega)
            ⟨(World.cell?_of_block (a := ⟨x3.heap.size, 0, none⟩) e1).trans t0, (World.cell?_of_block (a := ⟨x3.heap.size, 1, none⟩) e1).trans t1, (World.cell?_of_block (a := ⟨x3.heap.size, 2, none⟩) e1).trans t2, (World.cell?_of_block (a := ⟨w.heap.size, 0, none⟩) e2).trans y0, (World.cell?_of_block (a := ⟨w.heap.size, 1, none⟩) e2).trans y1⟩)
          have S0 := Lib.hid (show (∀ k, k ≠ w.heap.size + 1 → x14.drew.heap[k]? = x14.heap[k]?) from fun k _ => rfl)
          clear y0 y1 y2 t0 t1 t2
          go_wp2
          refine wp_region_T (fun x : World => ∀ k, k ≠ w.heap.size + 1 → x.heap[k]? = x14.heap[k]?) [0, 1, 2, 3, 4, 5, 6, 8] [0, 2, 4] (.lp 1 (.lp 3 (.ls 0 (.ls 2 (.ls 4 (.lp 5 (.lp 6 (.hv 7 (.lp 8 (.done)))))))))) (by kernel_rfl) (by kernel_rfl) ?_
          (repeat (refine T_lp rfl (fun K hK => ?_); go_simp; refine hK _ ?_; clear hK K))
          refine T_ls1 (v := .agg #[.int .i64 n, .slice A4 (s.length + 1) c4, .slice none 0 0]) rfl rfl S0.out (fun x hx => (by obtain ⟨h0, h1, h2, h3, h4⟩ := FS2.out x hx; go_simp)) (fun K hK => ?_)
          (go_simp; refine hK _ ?_; clear hK K)
          refine T_ls1 (v := .int .i64 n) rfl rfl S0.out (fun x hx => (by obtain ⟨h0, h1, h2, h3, h4⟩ := FS2.out x hx; go_simp)) (fun K hK => ?_)
          (go_simp; refine hK _ ?_; clear hK K)
          refine T_ls1 (v := .slice A1 s.length c1) rfl rfl S0.out (fun x hx => (by obtain ⟨h0, h1, h2, h3, h4⟩ := FS2.out x hx; go_simp)) (fun K hK => ?_)
          (go_simp; refine hK _ ?_; clear hK K)
          (repeat (refine T_lp rfl (fun K hK => ?_); go_simp; refine hK _ ?_; clear hK K))
          refine T_hvS rfl (fun K hK => ?_)
          go_simp
          refine hK _ _ (fun k hk => ?_) ?_
          · exact (Below.heap_setCell _ _ _ k (fun e => hk e)).trans ((Below.heap_setCell _ _ _ k (fun e => hk e)).trans (Below.heap_setCell _ _ _ k (fun e => hk e)))
          clear hK K
          (repeat (refine T_lp rfl (fun K hK => ?_); go_simp; refine hK _ ?_; clear hK K))
          refine T_done ?_
          go_wp2
          refine bodyPost_ret (v := .tuple #[.agg #[.int .i64 n, .slice A4 (s.length + 1) c4, .slice none 0 0], .int .i64 (n + s.length)]) (by simp [results, Try.results62, go_sem, r0, r1, r2]) rfl ⟨A4, c4, rfl, ?_, ?_⟩
          · exact mt_row (own_base hO.out (by have := XS.out; omega)) ((hC.out.block (w.heap.size + 1) (by have := XS.out; omega)).trans Q1.out)
          · exact ((((XB.out.trans (hC.out.mono (by have := XS.out; omega))).drew).setCell (by simp) _).setCell (by simp) _).setCell (by simp) _
      · refine T_hvS rfl (fun K hK => ?_)
        go_simp
        refine hK _ _ (HC.out.alloc HC.out.size _) ?_
        clear hK K
        generalize hx : World.alloc x2 _ = x15
        have GBn := Lib.hid (show x15.heap[x2.heap.size]? = some (.cells #[.int .i64 0, .slice none 0 0, .slice none 0 0] 33 (0, 0)) from by subst hx; exact heap_alloc_new x2 _)
        have hGs := Lib.hid (show w1.heap.size ≤ x2.heap.size from HC.out.size)
        have hD := (show Below x2.heap.size x2 x15 from by subst hx; exact (Below.refl _ _).alloc (Nat.le_refl _) _)
        have OW := Lib.hid (own_below OW.out hD)
        have HC := Lib.hid (HC.out.trans (hD.mono HC.out.size))
        clear hD
        clear hx
        have GB := GBn
        refine T_hvS rfl (fun K hK => ?_)
        go_simp
        go_at_call 74
        refine (plStep_any a b x15).mono ?_
        rintro e x16 ⟨rfl, hbx16⟩
        go_simp
        refine hK _ _ (HC.out.trans (hbx16.mono HC.out.size)) ?_
        clear hK K
        have hD := hbx16
        have OW := Lib.hid (own_below OW.out hD)
        have GB := Lib.hid ((hD.block _ (Array.getElem?_eq_some_iff.1 GB.out).1).trans GB.out)
        have HC := Lib.hid (HC.out.trans (hD.mono HC.out.size))
        clear hD
        clear hbx16
        refine T_hvS rfl (fun K hK => ?_)
        go_simp
        refine hK _ _ (HC.out.alloc HC.out.size _) ?_
        clear hK K
        generalize hx : World.alloc x16 _ = x17
        have BXn := Lib.hid (show x17.heap[x16.heap.size]? = some (.cells #[.int .i64 (leastI a b), .int .i64 (mostI a b)] 68 (0, 0)) from by subst hx; exact heap_alloc_new x16 _)
        have hD := (show Below x16.heap.size x16 x17 from by subst hx; exact (Below.refl _ _).alloc (Nat.le_refl _) _)
        have OW := Lib.hid (own_below OW.out hD)
        have GB := Lib.hid ((hD.block _ (Array.getElem?_eq_some_iff.1 GB.out).1).trans GB.out)
        have HC := Lib.hid (HC.out.trans (hD.mono HC.out.size))
        clear hD
        clear hx
        have BX := BXn
        refine T_hvS rfl (fun K hK => ?_)
        have u0 : x17.cell? ⟨x16.heap.size, 0, none⟩ = some (I (leastI a b)) := by rw [cell_of_row x17 _ 0 _ _ (0, 0) BX.out]; rfl
        have u1 : x17.cell? ⟨x16.heap.size, 1, none⟩ = some (I (mostI a b)) := by rw [cell_of_row x17 _ 1 _ _ (0, 0) BX.out]; rfl
        refine step_app2 Try.underlying31 info_step rfl (by omega) rfl (.tmp 14) (.tmp 18) rfl w1.heap.size s.length _ (fl s) rfl OW.out _ 1 (I (leastI a b)) (I (mostI a b)) rfl u0 u1 rfl rfl (by omega) HC.out.size ?_
        intro A4 c4 x18 hown4 hg4 hbel4
        clear u0 u1
        have OWn := Lib.hid hown4
        have GB := Lib.hid ((hg4.block _ (Array.getElem?_eq_some_iff.1 GB.out).1 (own_ne_blk OW.out GB.out (by decide))).trans GB.out)
        have HC := Lib.hid (HC.out.trans hbel4)
        have OW := OWn
        clear OWn
        clear BX
        go_simp
        refine hK _ _ HC.out ?_
        clear hK K hown4 hg4 hbel4
        (repeat (refine T_lp rfl (fun K hK => ?_); go_simp; refine hK _ ?_; clear hK K))
        obtain ⟨t0, t1, t2, g0, g1, g2⟩ := cells3 GB.out
        refine T_hvS rfl (fun K hK => ?_)
        go_simp
        obtain ⟨x19, hy⟩ : ∃ y, ((World.setCell x18 ⟨x2.heap.size, 0, none⟩ (.int .i64 n)).setCell ⟨x2.heap.size, 1, none⟩ (.slice A4 (s.length + 1) c4)).setCell ⟨x2.heap.size, 2, none⟩ (.slice none 0 0) = y := ⟨_, rfl⟩
        rw [hy]
        have hG := Lib.hid (show x19.heap[x2.heap.size]? = some (.cells #[.int .i64 n, .slice A4 (s.length + 1) c4, .slice none 0 0] 33 (0, 0)) from mt_set3 GB.out hy)
        have hC := Lib.hid (show Below w1.heap.size w1 x19 from by subst hy; exact ((HC.out.setCell hGs.out _).setCell hGs.out _).setCell hGs.out _)
        have hO := Lib.hid (show x19.ownsRow w1.heap.size 68 2 (.slice A4 (s.length + 1) c4) (s.length + 1) (fl s ++ [I (leastI a b), I (mostI a b)]) from by subst hy; exact own_set3 OW.out GB.out (by decide) _ _ _)
        refine hK _ _ hC.out ?_
        clear hK K hy t0 t1 t2 g0 g1 g2
        refine T_done ?_
        obtain ⟨y0, y1, y2⟩ := FS.out x19 hC.out
        obtain ⟨r0, r1, r2, f0, f1, f2⟩ := cells3 ((hC.out.block (w.heap.size + 1) (by have := XS.out; omega)).trans Q1.out)
        obtain ⟨t0, t1, t2, _, _, _⟩ := cells3 hG.out
        have FS2 := Lib.hid (show ∀ x : World, (∀ k, k ≠ w.heap.size + 1 → x.heap[k]? = x19.heap[k]?) → x.cell? ⟨x2.heap.size, 0, none⟩ = some (.int .i64 n) ∧ x.cell? ⟨x2.heap.size, 1, none⟩ = some (.slice A4 (s.length + 1) c4) ∧ x.cell? ⟨x2.heap.size, 2, none⟩ = some (.slice none 0 0) ∧ x.cell? ⟨w.heap.size, 0, none⟩ = some (.int .i64 n) ∧ x.cell? ⟨w.heap.size, 1, none⟩ = some (.slice A1 s.length c1) from fun x hx =>
          have e1 := hx (x2.heap.size) (by have := hGs.out; have := XS.out; omega)
          have e2 := hx w.heap.size (by omega)
          ⟨(World.cell?_of_block (a := ⟨x2.heap.size, 0, none⟩) e1).trans t0, (World.cell?_of_block (a := ⟨x2.heap.size, 1, none⟩) e1).trans t1, (World.cell?_of_block (a := ⟨x2.heap.size, 2, none⟩) e1).trans t2, (World.cell?_of_block (a := ⟨w.heap.size, 0, none⟩) e2).trans y0, (World.cell?_of_block (a := ⟨w.heap.size, 1, none⟩) e2).trans y1⟩)
        have S0 := Lib.hid (show (∀ k, k ≠ w.heap.size + 1 → x19.drew.heap[k]? = x19.heap[k]?) from fun k _ => rfl)
        clear y0 y1 y2 t0 t1 t2
        go_wp2
        refine wp_region_T (fun x : World => ∀ k, k ≠ w.heap.size + 1 → x.heap[k]? = x19.heap[k]?) [0, 1, 2, 3, 4, 5, 6, 8] [0, 2, 4] (.lp 1 (.lp 3 (.ls 0 (.ls 2 (.ls 4 (.lp 5 (.lp 6 (.hv 7 (.lp 8 (.done)))))))))) (by kernel_rfl) (by kernel_rfl) ?_
        (repeat (refine T_lp rfl (fun K hK => ?_); go_simp; refine hK _ ?_; clear hK K))
        refine T_ls1 (v := .agg #[.int .i64 n, .slice A4 (s.length + 1) c4, .slice none 0 0]) rfl rfl S0.out (fun x hx => (by obtain ⟨h0, h1, h2, h3, h4⟩ := FS2.out x hx; go_simp)) (fun K hK => ?_)
        (go_simp; refine hK _ ?_; clear hK K)
        refine T_ls1 (v := .int .i64 n) rfl rfl S0.out (fun x hx => (by obtain ⟨h0, h1, h2, h3, h4⟩ := FS2.out x hx; go_simp)) (fun K hK => ?_)
        (go_simp; refine hK _ ?_; clear hK K)
        refine T_ls1 (v := .slice A1 s.length c1) rfl rfl S0.out (fun x hx => (by obtain ⟨h0, h1, h2, h3, h4⟩ := FS2.out x hx; go_simp)) (fun K hK => ?_)
        (go_simp; refine hK _ ?_; clear hK K)
        (repeat (refine T_lp rfl (fun K hK => ?_); go_simp; refine hK _ ?_; clear hK K))
        refine T_hvS rfl (fun K hK => ?_)
        go_simp
        refine hK _ _ (fun k hk => ?_) ?_
        · exact (Below.heap_setCell _ _ _ k (fun e => hk e)).trans ((Below.heap_setCell _ _ _ k (fun e => hk e)).trans (Below.heap_setCell _ _ _ k (fun e => hk e)))
        clear hK K
        (repeat (refine T_lp rfl (fun K hK => ?_); go_simp; refine hK _ ?_; clear hK K))
        refine T_done ?_
        go_wp2
        refine bodyPost_ret (v := .tuple #[.agg #[.int .i64 n, .slice A4 (s.length + 1) c4, .slice none 0 0], .int .i64 (n + s.length)]) (by simp [results, Try.results62, go_sem, r0, r1, r2]) rfl ⟨A4, c4, rfl, ?_, ?_⟩
        · exact mt_row (own_base hO.out (by have := XS.out; omega)) ((hC.out.block (w.heap.size + 1) (by have := XS.out; omega)).trans Q1.out)
        · exact ((((XB.out.trans (hC.out.mono (by have := XS.out; omega))).drew).setCell (by simp) _).setCell (by simp) _).setCell (by simp) _
    · refine T_hvS rfl (fun K hK => ?_)
      go_simp
      refine hK _ _ (HC.out.alloc HC.out.size _) ?_
      clear hK K
      generalize hx : World.alloc x1 _ = x20
      have GBn := Lib.hid (show x20.heap[x1.heap.size]? = some (.cells #[.int .i64 0, .slice none 0 0, .slice none 0 0] 33 (0, 0)) from by subst hx; exact heap_alloc_new x1 _)
      have hGs := Lib.hid (show w1.heap.size ≤ x1.heap.size from HC.out.size)
      have hD := (show Below x1.heap.size x1 x20 from by subst hx; exact (Below.refl _ _).alloc (Nat.le_refl _) _)
      have OW := Lib.hid (own_below OW.out hD)
      have HC := Lib.hid (HC.out.trans (hD.mono HC.out.size))
      clear hD
      clear hx
      have GB := GBn
      refine T_hvS rfl (fun K hK => ?_)
      refine step_appM Try.underlying31 info_step rfl (by omega) (by omega) rfl (.tmp 11) (.tmp 13) rfl w1.heap.size 0 _ [] rfl OW.out A1 s.length c1 (fl s) rfl (H.out.below' (XB.out.trans (HC.out.mono (by have := XS.out; omega))) hB) (fl_one s) (by omega) HC.out.size ?_
      intro A4 c4 x21 hown4 hg4 hbel4
      have OWn := Lib.hid (show x21.ownsRow w1.heap.size 68 2 (.slice A4 s.length c4) s.length (fl s) from by have h := hown4; simp only [Nat.zero_add, List.nil_append] at h; exact h)
      have GB := Lib.hid ((hg4.block _ (Array.getElem?_eq_some_iff.1 GB.out).1 (own_ne_blk OW.out GB.out (by decide))).trans GB.out)
      have HC := Lib.hid (HC.out.trans hbel4)
      have OW := OWn
      clear OWn
      go_simp
      refine hK _ _ HC.out ?_
      clear hK K hown4 hg4 hbel4
      refine T_hvS rfl (fun K hK => ?_)
      go_simp
      go_at_call 74
      refine (plStep_any a b x21).mono ?_
      rintro e x22 ⟨rfl, hbx22⟩
      go_simp
      refine hK _ _ (HC.out.trans (hbx22.mono HC.out.size)) ?_
      clear hK K
      have hD := hbx22
      have OW := Lib.hid (own_below OW.out hD)
      have GB := Lib.hid ((hD.block _ (Array.getElem?_eq_some_iff.1 GB.out).1).trans GB.out)
      have HC := Lib.hid (HC.out.trans (hD.mono HC.out.size))
      clear hD
      clear hbx22
      refine T_hvS rfl (fun K hK => ?_)
      go_simp
      refine hK _ _ (HC.out.alloc HC.out.size _) ?_
      clear hK K
      generalize hx : World.alloc x22 _ = x23
      have BXn := Lib.hid (show x23.heap[x22.heap.size]? = some (.cells #[.int .i64 (leastI a b), .int .i64 (mostI a b)] 68 (0, 0)) from by subst hx; exact heap_alloc_new x22 _)
      have hD := (show Below x22.heap.size x22 x23 from by subst hx; exact (Below.refl _ _).alloc (Nat.le_refl _) _)
      have OW := Lib.hid (own_below OW.out hD)
      have GB := Lib.hid ((hD.block _ (Array.getElem?_eq_some_iff.1 GB.out).1).trans GB.out)
      have HC := Lib.hid (HC.out.trans (hD.mono HC.out.size))
      clear hD
      clear hx
      have BX := BXn
      refine T_hvS rfl (fun K hK => ?_)
      have u0 : x23.cell? ⟨x22.heap.size, 0, none⟩ = some (I (leastI a b)) := by rw [cell_of_row x23 _ 0 _ _ (0, 0) BX.out]; rfl
      have u1 : x23.cell? ⟨x22.heap.size, 1, none⟩ = some (I (mostI a b)) := by rw [cell_of_row x23 _ 1 _ _ (0, 0) BX.out]; rfl
      refine step_app2 Try.underlying31 info_step rfl (by omega) rfl (.tmp 14) (.tmp 18) rfl w1.heap.size s.length _ (fl s) rfl OW.out _ 1 (I (leastI a b)) (I (mostI a b)) rfl u0 u1 rfl rfl (by omega) HC.out.size ?_
      intro A4 c4 x24 hown4 hg4 hbel4
      clear u0 u1
      have OWn := Lib.hid hown4
      have GB := Lib.hid ((hg4.block _ (Array.getElem?_eq_some_iff.1 GB.out).1 (own_ne_blk OW.out GB.out (by decide))).trans GB.out)
      have HC := Lib.hid (HC.out.trans hbel4)
      have OW := OWn
      clear OWn
      clear BX
      go_simp
      refine hK _ _ HC.out ?_
      clear hK K hown4 hg4 hbel4
      (repeat (refine T_lp rfl (fun K hK => ?_); go_simp; refine hK _ ?_; clear hK K))
      obtain ⟨t0, t1, t2, g0, g1, g2⟩ := cells3 GB.out
      refine T_hvS rfl (fun K hK => ?_)
      go_simp
      obtain ⟨x25, hy⟩ : ∃ y, ((World.setCell x24 ⟨x1.heap.size, 0, none⟩ (.int .i64 n)).setCell ⟨x1.heap.size, 1, none⟩ (.slice A4 (s.length + 1) c4)).setCell ⟨x1.heap.size, 2, none⟩ (.slice none 0 0) = y := ⟨_, rfl⟩
      rw [hy]
      have hG := Lib.hid (show x25.heap[x1.heap.size]? = some (.cells #[.int .i64 n, .slice A4 (s.length + 1) c4, .slice none 0 0] 33 (0, 0)) from mt_set3 GB.out hy)
      have hC := Lib.hid (show Below w1.heap.size w1 x25 from by subst hy; exact ((HC.out.setCell hGs.out _).setCell hGs.out _).setCell hGs.out _)
      have hO := Lib.hid (show x25.ownsRow w1.heap.size 68 2 (.slice A4 (s.length + 1) c4) (s.length + 1) (fl s ++ [I (leastI a b), I (mostI a b)]) from by subst hy; exact own_set3 OW.out GB.out (by decide) _ _ _)
      refine hK _ _ hC.out ?_
      clear hK K hy t0 t1 t2 g0 g1 g2
      refine T_done ?_
      obtain ⟨y0, y1, y2⟩ := FS.out x25 hC.out
      obtain ⟨r0, r1, r2, f0, f1, f2⟩ := cells3 ((hC.out.block (w.heap.size + 1) (by have := XS.out; omega)).trans Q1.out)
      obtain ⟨t0, t1, t2, _, _, _⟩ := cells3 hG.out
      have FS2 := Lib.hid (show ∀ x : World, (∀ k, k ≠ w.heap.size + 1 → x.heap[k]? = x25.heap[k]?) → x.cell? ⟨x1.heap.size, 0, none⟩ = some (.int .i64 n) ∧ x.cell? ⟨x1.heap.size, 1, none⟩ = some (.slice A4 (s.length + 1) c4) ∧ x.cell? ⟨x1.heap.size, 2, none⟩ = some (.slice none 0 0) ∧ x.cell? ⟨w.heap.size, 0, none⟩ = some (.int .i64 n) ∧ x.cell? ⟨w.heap.size, 1, none⟩ = some (.slice A1 s.length c1) from fun x hx =>
        have e1 := hx (x1.heap.size) (by have := hGs.out; have := XS.out; omega)
        have e2 := hx w.heap.size (by omega)
        ⟨(World.cell?_of_block (a := ⟨x1.heap.size, 0, none⟩) e1).trans t0, (World.cell?_of_block (a := ⟨x1.heap.size, 1, none⟩) e1).trans t1, (World.cell?_of_block (a := ⟨x1.heap.size, 2, none⟩) e1).trans t2, (World.cell?_of_block (a := ⟨w.heap.size, 0, none⟩) e2).trans y0, (World.cell?_of_block (a := ⟨w.heap.size, 1, none⟩) e2).trans y1⟩)
      have S0 := Lib.hid (show (∀ k, k ≠ w.heap.size + 1 → x25.drew.heap[k]? = x25.heap[k]?) from fun k _ => rfl)
      clear y0 y1 y2 t0 t1 t2
      go_wp2
      refine wp_region_T (fun x : World => ∀ k, k ≠ w.heap.size + 1 → x.heap[k]? = x25.heap[k]?) [0, 1, 2, 3, 4, 5, 6, 8] [0, 2, 4] (.lp 1 (.lp 3 (.ls 0 (.ls 2 (.ls 4 (.lp 5 (.lp 6 (.hv 7 (.lp 8 (.done)))))))))) (by kernel_rfl) (by kernel_rfl) ?_
      (repeat (refine T_lp rfl (fun K hK => ?_); go_simp; refine hK _ ?_; clear hK K))
      refine T_ls1 (v := .agg #[.int .i64 n, .slice A4 (s.length + 1) c4, .slice none 0 0]) rfl rfl S0.out (fun x hx => (by obtain ⟨h0, h1, h2, h3, h4⟩ := FS2.out x hx; go_simp)) (fun K hK => ?_)
      (go_simp; refine hK _ ?_; clear hK K)
      refine T_ls1 (v := .int .i64 n) rfl rfl S0.out (fun x hx => (by obtain ⟨h0, h1, h2, h3, h4⟩ := FS2.out x hx; go_simp)) (fun K hK => ?_)
      (go_simp; refine hK _ ?_; clear hK K)
      refine T_ls1 (v := .slice A1 s.length c1) rfl rfl S0.out (fun x hx => (by obtain ⟨h0, h1, h2, h3, h4⟩ := FS2.out x hx; go_simp)) (fun K hK => ?_)
      (go_simp; refine hK _ ?_; clear hK K)
      (repeat (refine T_lp rfl (fun K hK => ?_); go_simp; refine hK _ ?_; clear hK K))
      refine T_hvS rfl (fun K hK => ?_)
      go_simp
      refine hK _ _ (fun k hk => ?_) ?_
      · exact (Below.heap_setCell _ _ _ k (fun e => hk e)).trans ((Below.heap_setCell _ _ _ k (fun e => hk e)).trans (Below.heap_setCell _ _ _ k (fun e => hk e)))
      clear hK K
      (repeat (refine T_lp rfl (fun K hK => ?_); go_simp; refine hK _ ?_; clear hK K))
      refine T_done ?_
      go_wp2
      refine bodyPost_ret (v := .tuple #[.agg #[.int .i64 n, .slice A4 (s.length + 1) c4, .slice none 0 0], .int .i64 (n + s.length)]) (by simp [results, Try.results62, go_sem, r0, r1, r2]) rfl ⟨A4, c4, rfl, ?_, ?_⟩
      · exact mt_row (own_base hO.out (by have := XS.out; omega)) ((hC.out.block (w.heap.size + 1) (by have := XS.out; omega)).trans Q1.out)
      · exact ((((XB.out.trans (hC.out.mono (by have := XS.out; omega))).drew).setCell (by simp) _).setCell (by simp) _).setCell (by simp) _
  · refine T_hvS rfl (fun K hK => ?_)
    go_simp
    refine hK _ _ (HC.out.alloc HC.out.size _) ?_
    clear hK K
    generalize hx : World.alloc wd _ = x26
    have GBn := Lib.hid (show x26.heap[wd.heap.size]? = some (.cells #[.int .i64 0, .slice none 0 0, .slice none 0 0] 33 (0, 0)) from by subst hx; exact heap_alloc_new wd _)
    have hGs := Lib.hid (show w1.heap.size ≤ wd.heap.size from HC.out.size)
    have hD := (show Below wd.heap.size wd x26 from by subst hx; exact (Below.refl _ _).alloc (Nat.le_refl _) _)
    have HC := Lib.hid (HC.out.trans (hD.mono HC.out.size))
    clear hD
    clear hx
    have GB := GBn
    refine T_hvS rfl (fun K hK => ?_)
    go_simp
    refine hK _ _ (HC.out.alloc HC.out.size _) ?_
    clear hK K
    generalize hx : World.alloc x26 _ = x27
    have OWn := Lib.hid (show x27.ownsRow w1.heap.size 68 2 (.slice (some ⟨x26.heap.size, 0, none⟩) 0 0) 0 [] from by subst hx; exact own_empty 2 HC.out.size)
    have hD := (show Below x26.heap.size x26 x27 from by subst hx; exact (Below.refl _ _).alloc (Nat.le_refl _) _)
    have GB := Lib.hid ((hD.block _ (Array.getElem?_eq_some_iff.1 GB.out).1).trans GB.out)
    have HC := Lib.hid (HC.out.trans (hD.mono HC.out.size))
    clear hD
    clear hx
    have OW := OWn
    refine T_hvS rfl (fun K hK => ?_)
    refine step_appM Try.underlying31 info_step rfl (by omega) (by omega) rfl (.tmp 11) (.tmp 13) rfl w1.heap.size 0 _ [] rfl OW.out A1 s.length c1 (fl s) rfl (H.out.below' (XB.out.trans (HC.out.mono (by have := XS.out; omega))) hB) (fl_one s) (by omega) HC.out.size ?_
    intro A4 c4 x28 hown4 hg4 hbel4
    have OWn := Lib.hid (show x28.ownsRow w1.heap.size 68 2 (.slice A4 s.length c4) s.length (fl s) from by have h := hown4; simp only [Nat.zero_add, List.nil_append] at h; exact h)
    have GB := Lib.hid ((hg4.block _ (Array.getElem?_eq_some_iff.1 GB.out).1 (own_ne_blk OW.out GB.out (by decide))).trans GB.out)
    have HC := Lib.hid (HC.out.trans hbel4)
    have OW := OWn
    clear OWn
    go_simp
    refine hK _ _ HC.out ?_
    clear hK K hown4 hg4 hbel4
    refine T_hvS rfl (fun K hK => ?_)
    go_simp
    go_at_call 74
    refine (plStep_any a b x28).mono ?_
    rintro e x29 ⟨rfl, hbx29⟩
    go_simp
    refine hK _ _ (HC.out.trans (hbx29.mono HC.out.size)) ?_
    clear hK K
    have hD := hbx29
    have OW := Lib.hid (own_below OW.out hD)
    have GB := Lib.hid ((hD.block _ (Array.getElem?_eq_some_iff.1 GB.out).1).trans GB.out)
    have HC := Lib.hid (HC.out.trans (hD.mono HC.out.size))
    clear hD
    clear hbx29
    refine T_hvS rfl (fun K hK => ?_)
    go_simp
    refine hK _ _ (HC.out.alloc HC.out.size _) ?_
    clear hK K
    generalize hx : World.alloc x29 _ = x30
    have BXn := Lib.hid (show x30.heap[x29.heap.size]? = some (.cells #[.int .i64 (leastI a b), .int .i64 (mostI a b)] 68 (0, 0)) from by subst hx; exact heap_alloc_new x29 _)
    have hD := (show Below x29.heap.size x29 x30 from by subst hx; exact (Below.refl _ _).alloc (Nat.le_refl _) _)
    have OW := Lib.hid (own_below OW.out hD)
    have GB := Lib.hid ((hD.block _ (Array.getElem?_eq_some_iff.1 GB.out).1).trans GB.out)
    have HC := Lib.hid (HC.out.trans (hD.mono HC.out.size))
    clear hD
    clear hx
    have BX := BXn
    refine T_hvS rfl (fun K hK => ?_)
    have u0 : x30.cell? ⟨x29.heap.size, 0, none⟩ = some (I (leastI a b)) := by rw [cell_of_row x30 _ 0 _ _ (0, 0) BX.out]; rfl
    have u1 : x30.cell? ⟨x29.heap.size, 1, none⟩ = some (I (mostI a b)) := by rw [cell_of_row x30 _ 1 _ _ (0, 0) BX.out]; rfl
    refine step_app2 Try.underlying31 info_step rfl (by omega) rfl (.tmp 14) (.tmp 18) rfl w1.heap.size s.length _ (fl s) rfl OW.out _ 1 (I (leastI a b)) (I (mostI a b)) rfl u0 u1 rfl rfl (by omega) HC.out.size ?_
    intro A4 c4 x31 hown4 hg4 hbel4
    clear u0 u1
    have OWn := Lib.hid hown4
    have GB := Lib.hid ((hg4.block _ (Array.getElem?_eq_some_iff.1 GB.out).1 (own_ne_blk OW.out GB.out (by decide))).trans GB.out)
    have HC := Lib.hid (HC.out.trans hbel4)
    have OW := OWn
    clear OWn
    clear BX
    go_simp
    refine hK _ _ HC.out ?_
    clear hK K hown4 hg4 hbel4
    (repeat (refine T_lp rfl (fun K hK => ?_); go_simp; refine hK _ ?_; clear hK K))
    obtain ⟨t0, t1, t2, g0, g1, g2⟩ := cells3 GB.out
    refine T_hvS rfl (fun K hK => ?_)
    go_simp
    obtain ⟨x32, hy⟩ : ∃ y, ((World.setCell x31 ⟨wd.heap.size, 0, none⟩ (.int .i64 n)).setCell ⟨wd.heap.size, 1, none⟩ (.slice A4 (s.length + 1) c4)).setCell ⟨wd.heap.size, 2, none⟩ (.slice none 0 0) = y := ⟨_, rfl⟩
    rw [hy]
    have hG := Lib.hid (show x32.heap[wd.heap.size]? = some (.cells #[.int .i64 n, .slice A4 (s.length + 1) c4, .slice none 0 0] 33 (0, 0)) from mt_set3 GB.out hy)
    have hC := Lib.hid (show Below w1.heap.size w1 x32 from by subst hy; exact ((HC.out.setCell hGs.out _).setCell hGs.out _).setCell hGs.out _)
    have hO := Lib.hid (show x32.ownsRow w1.heap.size 68 2 (.slice A4 (s.length + 1) c4) (s.length + 1) (fl s ++ [I (leastI a b), I (mostI a b)]) from by subst hy; exact own_set3 OW.out GB.out (by decide) _ _ _)
    refine hK _ _ hC.out ?_
    clear hK K hy t0 t1 t2 g0 g1 g2
    refine T_done ?_
    obtain ⟨y0, y1, y2⟩ := FS.out x32 hC.out
    obtain ⟨r0, r1, r2, f0, f1, f2⟩ := cells3 ((hC.out.block (w.heap.size + 1) (by have := XS.out; omega)).trans Q1.out)
    obtain ⟨t0, t1, t2, _, _, _⟩ := cells3 hG.out
    have FS2 := Lib.hid (show ∀ x : World, (∀ k, k ≠ w.heap.size + 1 → x.heap[k]? = x32.heap[k]?) → x.cell? ⟨wd.heap.size, 0, none⟩ = some (.int .i64 n) ∧ x.cell? ⟨wd.heap.size, 1, none⟩ = some (.slice A4 (s.length + 1) c4) ∧ x.cell? ⟨wd.heap.size, 2, none⟩ = some (.slice none 0 0) ∧ x.cell? ⟨w.heap.size, 0, none⟩ = some (.int .i64 n) ∧ x.cell? ⟨w.heap.size, 1, none⟩ = some (.slice A1 s.length c1) from fun x hx =>
      have e1 := hx (wd.heap.size) (by have := hGs.out; have := XS.out; omega)
      have e2 := hx w.heap.size (by omega)
      ⟨(World.cell?_of_block (a := ⟨wd.heap.size, 0, none⟩) e1).trans t0, (World.cell?_of_block (a := ⟨wd.heap.size, 1, none⟩) e1).trans t1, (World.cell?_of_block (a := ⟨wd.heap.size, 2, none⟩) e1).trans t2, (World.cell?_of_block (a := ⟨w.heap.size, 0, none⟩) e2).trans y0, (World.cell?_of_block (a := ⟨w.heap.size, 1, none⟩) e2).trans y1⟩)
    have S0 := Lib.hid (show (∀ k, k ≠ w.heap.size + 1 → x32.drew.heap[k]? = x32.heap[k]?) from fun k _ => rfl)
    clear y0 y1 y2 t0 t1 t2
    go_wp2
    refine wp_region_T (fun x : World => ∀ k, k ≠ w.heap.size + 1 → x.heap[k]? = x32.heap[k]?) [0, 1, 2, 3, 4, 5, 6, 8] [0, 2, 4] (.lp 1 (.lp 3 (.ls 0 (.ls 2 (.ls 4 (.lp 5 (.lp 6 (.hv 7 (.lp 8 (.done)))))))))) (by kernel_rfl) (by kernel_rfl) ?_
    (repeat (refine T_lp rfl (fun K hK => ?_); go_simp; refine hK _ ?_; clear hK K))
    refine T_ls1 (v := .agg #[.int .i64 n, .slice A4 (s.length + 1) c4, .slice none 0 0]) rfl rfl S0.out (fun x hx => (by obtain ⟨h0, h1, h2, h3, h4⟩ := FS2.out x hx; go_simp)) (fun K hK => ?_)
    (go_simp; refine hK _ ?_; clear hK K)
    refine T_ls1 (v := .int .i64 n) rfl rfl S0.out (fun x hx => (by obtain ⟨h0, h1, h2, h3, h4⟩ := FS2.out x hx; go_simp)) (fun K hK => ?_)
    (go_simp; refine hK _ ?_; clear hK K)
    refine T_ls1 (v := .slice A1 s.length c1) rfl rfl S0.out (fun x hx => (by obtain ⟨h0, h1, h2, h3, h4⟩ := FS2.out x hx; go_simp)) (fun K hK => ?_)
    (go_simp; refine hK _ ?_; clear hK K)
    (repeat (refine T_lp rfl (fun K hK => ?_); go_simp; refine hK _ ?_; clear hK K))
    refine T_hvS rfl (fun K hK => ?_)
    go_simp
    refine hK _ _ (fun k hk => ?_) ?_
    · exact (Below.heap_setCell _ _ _ k (fun e => hk e)).trans ((Below.heap_setCell _ _ _ k (fun e => hk e)).trans (Below.heap_setCell _ _ _ k (fun e => hk e)))
    clear hK K
    (repeat (refine T_lp rfl (fun K hK => ?_); go_simp; refine hK _ ?_; clear hK K))
    refine T_done ?_
    go_wp2
    refine bodyPost_ret (v := .tuple #[.agg #[.int .i64 n, .slice A4 (s.length + 1) c4, .slice none 0 0], .int .i64 (n + s.length)]) (by simp [results, Try.results62, go_sem, r0, r1, r2]) rfl ⟨A4, c4, rfl, ?_, ?_⟩
    · exact mt_row (own_base hO.out (by have := XS.out; omega)) ((hC.out.block (w.heap.size + 1) (by have := XS.out; omega)).trans Q1.out)
    · exact ((((XB.out.trans (hC.out.mono (by have := XS.out; omega))).drew).setCell (by simp) _).setCell (by simp) _).setCell (by simp) _
end Go.Proofs.Ytodjnafalbbmjaa
/- Greatest and least of a list; single binary digits. -/
namespace Go.Proofs.Ytodjnafalbbmjaa
open Go.RowKit

/-- The greatest of the first k, at least 0. -/
def grI (l : List Int) (k : Nat) : Int := (l.take k).foldl mostI 0
theorem grI_succ (l : List Int) {k : Nat} (hk : k < l.length) : grI l (k + 1) = mostI (grI l k) l[k] := by
  unfold grI
  rw [List.take_succ_eq_append_getElem hk, List.foldl_append]
  rfl
theorem mostI_eq (a b : Int) : mostI a b = max a b := by unfold mostI; split <;> omega
theorem grI_prop (l : List Int) : ∀ k, k ≤ l.length → 0 ≤ grI l k ∧ (∀ x ∈ l.take k, x ≤ grI l k) ∧ (grI l k = 0 ∨ grI l k ∈ l.take k) := by
  intro k
  induction k with
  | zero => intro _; simp [grI]
  | succ k ih =>
    intro hk
    obtain ⟨h1, h2, h3⟩ := ih (by omega)
    rw [grI_succ l (by omega), mostI_eq, List.take_succ_eq_append_getElem (by omega)]
    refine ⟨by omega, ?_, ?_⟩
    · intro x hx
      rcases List.mem_append.1 hx with hx | hx
      · have := h2 x hx; omega
      · rw [List.mem_singleton] at hx; omega
    · by_cases h : grI l k < l[k]
      · right; rw [show max (grI l k) l[k] = l[k] by omega]; exact List.mem_append_right _ (List.mem_singleton.2 rfl)
      · rw [show max (grI l k) l[k] = grI l k by omega]
        rcases h3 with h3 | h3
        · exact .inl h3
        · exact .inr (List.mem_append_left _ h3)
def grA (l : List Int) : Int := grI l l.length
theorem grA_prop (l : List Int) : 0 ≤ grA l ∧ (∀ x ∈ l, x ≤ grA l) ∧ (grA l = 0 ∨ grA l ∈ l) := by
  have h := grI_prop l l.length (Nat.le_refl _)
  rwa [List.take_length] at h

set_option maxHeartbeats 400000 in
theorem meGreatest_any (B : Nat) (A : Option Addr) (c : Nat) (l : List Int) (w : World) (hl : l.length ≤ 1000000) (hr : Rd w B 1 A l.length (l.map I)) :
    Calls Try.prog 66 #[.slice A l.length c] w fun e w' => e = .returned (.int .i64 (grA l)) ∧ w = w' := by
  have H := Lib.hid hr
  clear hr
  go_enter Try.func66, Try.ntmps66
  go_wp2
  go_loop [3, 8] (fun m i => ∃ k : Nat, k ≤ l.length ∧ i = .int .i64 k ∧ m = .int .i64 (grI l k)) (fun _ i => l.length - (intOf i).toNat)
  case atStart => exact ⟨0, by omega, rfl, rfl⟩
  case round =>
    obtain ⟨k, hk, rfl, rfl⟩ := hrel
    by_cases hlt : k < l.length
    · obtain ⟨b, off, rfl, hb, hcell⟩ := H.out.int hlt
      obtain ⟨m, hm⟩ : ∃ m, grI l k = m := ⟨_, rfl⟩
      have E := Lib.hid (grI_succ l hlt)
      rw [hm] at E
      rw [hm]
      clear hm
      go_wp2_with (go_at_call 75; refine (l1Most_any _ _ _).mono ?_; rintro e w' ⟨rfl, rfl⟩)
      go_round
      case rel => exact ⟨k + 1, by omega, by go_num, by rw [E.out]⟩
      case measure => simp [intOf]; omega
    · have e : k = l.length := by omega
      subst e
      go_wp2
      go_ret
      exact ⟨rfl, rfl⟩

/-- The greatest and the least of the first k of a list that is not empty. -/
def mxI (l : List Int) (k : Nat) : Int := (l.take k).foldl (fun a b => max a b) (l.getD 0 0)
def mnI (l : List Int) (k : Nat) : Int := (l.take k).foldl (fun a b => min a b) (l.getD 0 0)
theorem mxI_succ (l : List Int) {k : Nat} (hk : k < l.length) : mxI l (k + 1) = max (mxI l k) l[k] := by
  unfold mxI
  rw [List.take_succ_eq_append_getElem hk, List.foldl_append]
  rfl
theorem mnI_succ (l : List Int) {k : Nat} (hk : k < l.length) : mnI l (k + 1) = min (mnI l k) l[k] := by
  unfold mnI
  rw [List.take_succ_eq_append_getElem hk, List.foldl_append]
  rfl
theorem mxI_one {l : List Int} (h : 0 < l.length) : mxI l 1 = l[0] := by
  rw [mxI_succ l h]
  simp [mxI, h]
theorem mnI_one {l : List Int} (h : 0 < l.length) : mnI l 1 = l[0] := by
  rw [mnI_succ l h]
  simp [mnI, h]
theorem mxI_prop {l : List Int} (h0 : 0 < l.length) : ∀ k, k ≤ l.length → (∀ x ∈ l.take k, x ≤ mxI l k) ∧ mxI l k ∈ l := by
  intro k
  induction k with
  | zero => intro _; simp [mxI, h0]
  | succ k ih =>
    intro hk
    obtain ⟨h1, h2⟩ := ih (by omega)
    rw [mxI_succ l (by omega), List.take_succ_eq_append_getElem (by omega)]
    refine ⟨?_, ?_⟩
    · intro x hx
      rcases List.mem_append.1 hx with hx | hx
      · have := h1 x hx; omega
      · rw [List.mem_singleton] at hx; omega
    · by_cases h : mxI l k < l[k]
      · rw [show max (mxI l k) l[k] = l[k] by omega]; simp
      · rw [show max (mxI l k) l[k] = mxI l k by omega]; exact h2
theorem mnI_prop {l : List Int} (h0 : 0 < l.length) : ∀ k, k ≤ l.length → (∀ x ∈ l.take k, mnI l k ≤ x) ∧ mnI l k ∈ l := by
  intro k
  induction k with
  | zero => intro _; simp [mnI, h0]
  | succ k ih =>
    intro hk
    obtain ⟨h1, h2⟩ := ih (by omega)
    rw [mnI_succ l (by omega), List.take_succ_eq_append_getElem (by omega)]
    refine ⟨?_, ?_⟩
    · intro x hx
      rcases List.mem_append.1 hx with hx | hx
      · have := h1 x hx; omega
      · rw [List.mem_singleton] at hx; omega
    · by_cases h : mnI l k < l[k]
      · rw [show min (mnI l k) l[k] = mnI l k by omega]; exact h2
      · rw [show min (mnI l k) l[k] = l[k] by omega]; simp
def mxA (l : List Int) : Int := mxI l l.length
def mnA (l : List Int) : Int := mnI l l.length
theorem mxA_prop {l : List Int} (h0 : 0 < l.length) : (∀ x ∈ l, x ≤ mxA l) ∧ mxA l ∈ l := by
  have h := mxI_prop h0 l.length (Nat.le_refl _)
  rwa [List.take_length] at h
theorem mnA_prop {l : List Int} (h0 : 0 < l.length) : (∀ x ∈ l, mnA l ≤ x) ∧ mnA l ∈ l := by
  have h := mnI_prop h0 l.length (Nat.le_refl _)
  rwa [List.take_length] at h

/-- The binary digit at a place. -/
def bitB (n p : Nat) : Bool := n / 2 ^ p % 2 == 1
theorem i64_and1 (n : Int) : bits .and .i64 n 1 = n % 2 := by
  have h127 : (BitVec.ofInt 64 1).toNat = 2 ^ 1 - 1 := by decide
  have key : (BitVec.ofInt 64 n &&& BitVec.ofInt 64 1).toNat = (n % ((2 ^ 64 : Nat) : Int)).toNat % 2 ^ 1 := by
    rw [BitVec.toNat_and, BitVec.toNat_ofInt, h127, Nat.and_two_pow_sub_one_eq_mod]
  show IntKind.i64.wrap ((BitVec.ofInt 64 n &&& BitVec.ofInt 64 1).toNat : Nat) = n % 2
  rw [key, IntKind.wrap_i64]
  omega
set_option maxHeartbeats 400000 in
theorem hasDigit_any (n p : Nat) (w : World) (hp : p ≤ 60) :
    Calls Try.prog 131 #[.int .i64 (n : Int), .int .i64 (p : Int)] w fun e w' => e = .returned (.bool (bitB n p)) ∧ w = w' := by
  obtain ⟨m, hm⟩ : ∃ m, n / 2 ^ p = m := ⟨_, rfl⟩
  have e : (n : Int) / 2 ^ p = (m : Int) := by rw [← hm]; push_cast; rfl
  have ha : bits .and .i64 (m : Int) 1 = ((m % 2 : Nat) : Int) := by rw [i64_and1]; omega
  have E := Lib.hid (show bitB n p = (m % 2 == 1) by unfold bitB; rw [hm])
  clear hm
  rcases Nat.mod_two_eq_zero_or_one m with h | h
  all_goals
    rw [h] at ha
    rw [h] at E
    clear h
    go_enter Try.func131, Try.ntmps131
    go_wp2
    go_ret
    exact ⟨ret_bool (by rw [E.out]; rfl), rfl⟩
end Go.Proofs.Ytodjnafalbbmjaa
