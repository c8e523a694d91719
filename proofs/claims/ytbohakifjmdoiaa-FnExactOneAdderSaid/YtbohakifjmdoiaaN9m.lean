/- OneAdder: of both programs. -/
import Derived.Test.YtbohakifjmdoiaaN9i
import Derived.Test.YtbohakifjmdoiaaN9b
namespace Go.Proofs.Ytbohakifjmdoiaa
open Go.RowKit

/-- The adder of two shifts that has the multiple n, the sum first. -/
def oneC (n : Int) (a b : Nat) : Option Ad := if (2 : Int) ^ a + 2 ^ b = n then some (0, (a : Int), 0, (b : Int), false) else if (2 : Int) ^ a - 2 ^ b = n then some (0, (a : Int), 0, (b : Int), true) else none
def oneI (n : Int) (a : Nat) : Nat → Option Ad
  | 0 => none
  | r + 1 => (oneC n a (20 - r)).or (oneI n a r)
def oneO (n : Int) : Nat → Option Ad
  | 0 => none
  | r + 1 => (oneI n (20 - r) 21).or (oneO n r)
def oaF (n : Int) : Option Ad := if isN9 n then oneO n 21 else none
def oaB (n : Int) : Bool := (oaF n).isSome
def zAd : Ad := (0, 0, 0, 0, false)
def oaV (n : Int) : Ad := (oaF n).getD zAd
theorem oneI_step (n : Int) (a b : Nat) (h : b ≤ 20) : oneI n a (21 - b) = (oneC n a b).or (oneI n a (20 - b)) := by
  rw [show 21 - b = (20 - b) + 1 by omega, oneI, show 20 - (20 - b) = b by omega]
theorem oneO_step (n : Int) (a : Nat) (h : a ≤ 20) : oneO n (21 - a) = (oneI n a 21).or (oneO n (20 - a)) := by
  rw [show 21 - a = (20 - a) + 1 by omega, oneO, show 20 - (20 - a) = a by omega]
theorem oaV_some {n : Int} {a : Ad} (h : oaF n = some a) : oaV n = a ∧ oaB n = true := by unfold oaV oaB; rw [h]; exact ⟨rfl, rfl⟩
theorem oaV_none {n : Int} (h : oaF n = none) : oaV n = zAd ∧ oaB n = false := by unfold oaV oaB; rw [h]; exact ⟨rfl, rfl⟩
/-- What stands in the first box: the answer. -/
theorem ad_cells {w : World} {g : Nat} {a b c d e : Value} {t : TypeId} (h : w.heap[g]? = some (.cells #[a, b, c, d, e] t (0, 0))) :
    w.cell? ⟨g, 0, none⟩ = some a ∧ w.cell? ⟨g, 1, none⟩ = some b ∧ w.cell? ⟨g, 2, none⟩ = some c ∧ w.cell? ⟨g, 3, none⟩ = some d ∧ w.cell? ⟨g, 4, none⟩ = some e ∧ (∀ k, w.frozen? ⟨g, k, none⟩ = false) := by
  refine ⟨?_, ?_, ?_, ?_, ?_, fun k => frozen_of_row w g k _ _ h⟩
  · rw [cell_of_row w g 0 _ _ (0, 0) h]; rfl
  · rw [cell_of_row w g 1 _ _ (0, 0) h]; rfl
  · rw [cell_of_row w g 2 _ _ (0, 0) h]; rfl
  · rw [cell_of_row w g 3 _ _ (0, 0) h]; rfl
  · rw [cell_of_row w g 4 _ _ (0, 0) h]; rfl
theorem cells_set5 {w : World} {g : Nat} {a b c d e : Value} {t : TypeId} (h : w.heap[g]? = some (.cells #[a, b, c, d, e] t (0, 0))) (p q r s u : Value) :
    (((((w.setCell ⟨g, 0, none⟩ p).setCell ⟨g, 1, none⟩ q).setCell ⟨g, 2, none⟩ r).setCell ⟨g, 3, none⟩ s).setCell ⟨g, 4, none⟩ u).heap[g]? = some (.cells #[p, q, r, s, u] t (0, 0)) := by
  have h1 := heap_setCell_same w g 0 _ t p h
  have h2 := heap_setCell_same _ g 1 _ t q h1
  have h3 := heap_setCell_same _ g 2 _ t r h2
  have h4 := heap_setCell_same _ g 3 _ t s h3
  have h5 := heap_setCell_same _ g 4 _ t u h4
  rw [h5]; rfl

theorem bel_set5 {w0 w : World} {B g : Nat} (h : Below B w0 w) (hg : B ≤ g) (p q r s u : Value) : Below B w0 (((((w.setCell ⟨g, 0, none⟩ p).setCell ⟨g, 1, none⟩ q).setCell ⟨g, 2, none⟩ r).setCell ⟨g, 3, none⟩ s).setCell ⟨g, 4, none⟩ u) :=
  ((((h.setCell hg _).setCell hg _).setCell hg _).setCell hg _).setCell hg _
theorem blk_new5 {w w1 : World} {a b c d e : Value} {t : TypeId} (h : w.alloc (.cells #[a, b, c, d, e] t) = w1) : w1.heap[w.heap.size]? = some (.cells #[a, b, c, d, e] t (0, 0)) ∧ w1.heap.size = w.heap.size + 1 ∧ Below w.heap.size w w1 := by
  subst h
  exact ⟨heap_alloc_new w _, by simp, (Below.refl _ _).alloc (Nat.le_refl _) _⟩
theorem multiple1_any (B c : Nat) (A : Option Addr) (a b : Nat) (m : Bool) (w : World) (hs : a ≤ 20) (ht : b ≤ 20) (hB : B ≤ w.heap.size) (hr : Rd w B 1 A 1 [I 1]) :
    Calls Try.prog 75 #[.agg #[.int .i64 0, .int .i64 (a : Int), .int .i64 0, .int .i64 (b : Int), .bool m], .slice A 1 c] w fun e w' => e = .returned (.int .i64 (if m then (2 : Int) ^ a - 2 ^ b else 2 ^ a + 2 ^ b)) ∧ Below w.heap.size w w' := by
  have h := multipleA_any B A c [1] 0 a 0 b m w (by simp) (by simp) (by simp) (by simp) hs ht hB hr
  rw [vlA_nat (by simp) (by simp)] at h
  simpa using h

theorem bools2 {w : World} {g : Nat} {a b : Value} {t : TypeId} (h : w.heap[g]? = some (.cells #[a, b] t (0, 0))) : w.cell? ⟨g, 0, none⟩ = some a ∧ w.cell? ⟨g, 1, none⟩ = some b := by
  refine ⟨?_, ?_⟩
  · rw [cell_of_row w g 0 _ _ (0, 0) h]; rfl
  · rw [cell_of_row w g 1 _ _ (0, 0) h]; rfl
theorem ad_one {w w1 : World} {a b c d e : Value} {t : TypeId} (h : (w.alloc (.cells #[a, b, c, d, e] t)).alloc (.cells #[.int .i64 1] 3) = w1) :
    w1.cell? ⟨w.heap.size, 0, none⟩ = some a ∧ w1.cell? ⟨w.heap.size, 1, none⟩ = some b ∧ w1.cell? ⟨w.heap.size, 2, none⟩ = some c ∧ w1.cell? ⟨w.heap.size, 3, none⟩ = some d ∧ w1.cell? ⟨w.heap.size, 4, none⟩ = some e ∧
      w1.cell? ⟨w.heap.size + 1, 0, none⟩ = some (I 1) ∧ Rd w1 w1.heap.size 1 (some ⟨w.heap.size + 1, 0, none⟩) 1 [I 1] ∧ w1.heap.size = w.heap.size + 2 ∧ Below w.heap.size w w1 := by
  have h0 : w1.heap[w.heap.size]? = some (.cells #[a, b, c, d, e] t (0, 0)) := by
    subst h
    rw [Below.heap_alloc _ _ _ (by simp)]
    exact heap_alloc_new w _
  have h1 : w1.heap[w.heap.size + 1]? = some (.cells #[.int .i64 1] 3 (0, 0)) := by
    subst h
    have := heap_alloc_new (w.alloc (.cells #[a, b, c, d, e] t)) (.cells #[.int .i64 1] 3)
    simpa using this
  have hs : w1.heap.size = w.heap.size + 2 := by subst h; simp
  have hb : Below w.heap.size w w1 := by subst h; exact ((Below.refl _ _).alloc (Nat.le_refl _) _).alloc (by simp) _
  obtain ⟨x0, x1, x2, x3, x4, _⟩ := ad_cells h0
  have c0 : w1.cell? ⟨w.heap.size + 1, 0, none⟩ = some (I 1) := by rw [cell_of_row w1 _ 0 _ _ (0, 0) h1]; rfl
  refine ⟨x0, x1, x2, x3, x4, c0, ⟨rfl, fun _ => ⟨_, 0, rfl, by omega, fun j hj => ?_⟩⟩, hs, hb⟩
  obtain rfl : j = 0 := by omega
  rw [Nat.zero_add, c0]
  rfl

set_option maxRecDepth 100000 in
set_option maxHeartbeats 8000000 in
theorem specOneAdder_any (B : Nat) (n : Int) (w : World) (_ : B ≤ w.heap.size) :
    Calls Try.prog 35 #[.int .i64 n] w fun e w' => e = .returned (.tuple #[.agg #[.int .i64 (oaV n).1, .int .i64 (oaV n).2.1, .int .i64 (oaV n).2.2.1, .int .i64 (oaV n).2.2.2.1, .bool (oaV n).2.2.2.2], .bool (oaB n)]) ∧ Below w.heap.size w w' := by
  obtain ⟨g1, h1⟩ : ∃ g, isN9 n = g := ⟨_, rfl⟩
  have H1 := Lib.hid (fun W => siNumber_any n W)
  rw [h1] at H1
  cases g1 with
  | false =>
    have E := Lib.hid (oaV_none (show oaF n = none by unfold oaF; rw [h1]; rfl))
    clear h1
    go_enter Try.func35, Try.ntmps35
    go_wp2_with fail
    go_at_call 49
    generalize hw1 : World.alloc w _ = w1
    obtain ⟨qb, qs, ql⟩ := blk_new5 hw1
    clear hw1
    refine (H1.out _).mono ?_
    rintro e w' ⟨rfl, rfl⟩
    obtain ⟨v1, v2, v3, v4, v5, vf⟩ := ad_cells qb
    have vf0 := vf 0
    have vf1 := vf 1
    have vf2 := vf 2
    have vf3 := vf 3
    have vf4 := vf 4
    clear vf
    go_wp2
    refine bodyPost_ret (v := .tuple #[.agg #[.int .i64 0, .int .i64 0, .int .i64 0, .int .i64 0, .bool false], .bool false]) (by simp [results, Try.results35, go_sem, v1, v2, v3, v4, v5]) rfl ⟨by rw [E.out.1, E.out.2]; rfl, ?_⟩
    exact bel_set5 ql (by omega) _ _ _ _ _
  | true =>
    obtain ⟨F, hF⟩ : ∃ F, oaF n = F := ⟨_, rfl⟩
    have EF := Lib.hid (show oneO n 21 = F by rw [← hF]; unfold oaF; rw [if_pos h1])
    have ES := Lib.hid (fun a => (show F = some a → oaV n = a ∧ oaB n = true from fun h => oaV_some (hF.trans h)))
    have EN := Lib.hid (show F = none → oaV n = zAd ∧ oaB n = false from fun h => oaV_none (hF.trans h))
    clear h1 hF
    go_enter Try.func35, Try.ntmps35
    go_wp2_with fail
    go_at_call 49
    generalize hw1 : World.alloc w _ = w1
    obtain ⟨qb, qs, ql⟩ := blk_new5 hw1
    have QB := Lib.hid qb
    have QL := Lib.hid ql
    clear hw1 qb ql
    refine (H1.out _).mono ?_
    rintro e w' ⟨rfl, rfl⟩
    go_wp2
    go_loopw [4] (fun av wr => ∃ a : Nat, a ≤ 21 ∧ av = .int .i64 (a : Int) ∧ oneO n (21 - a) = F ∧ wr.heap[w.heap.size]? = some (.cells #[.int .i64 0, .int .i64 0, .int .i64 0, .int .i64 0, .bool false] 39 (0, 0)) ∧ Below w.heap.size w wr) (fun av _ => 21 - (intOf av).toNat)
    case atStart => exact ⟨0, by omega, rfl, EF.out, QB.out, QL.out⟩
    case round =>
      obtain ⟨a, ha, rfl, hq, hblk, hbel⟩ := hrel
      have BL := Lib.hid hblk
      have BEL := Lib.hid hbel
      have hs := hbel.size
      have hgl : w.heap.size < wr.heap.size := (Array.getElem?_eq_some_iff.1 hblk).1
      clear hblk hbel
      by_cases hlt : a ≤ 20
      · have ia : (a : Int) ≤ 20 := by omega
        rw [oneO_step n a hlt] at hq
        have Q := Lib.hid hq
        obtain ⟨pa0, pa1⟩ := pw20 hlt
        obtain ⟨P, hP⟩ : ∃ P : Int, 2 ^ a = P := ⟨_, rfl⟩
        have EP := Lib.hid hP
        clear hq
        go_wp2
        go_loopw [5] (fun bv wr => ∃ b : Nat, b ≤ 21 ∧ bv = .int .i64 (b : Int) ∧ (oneI n a (21 - b)).or (oneO n (20 - a)) = F ∧ wr.heap[w.heap.size]? = some (.cells #[.int .i64 0, .int .i64 0, .int .i64 0, .int .i64 0, .bool false] 39 (0, 0)) ∧ Below w.heap.size w wr) (fun bv _ => 21 - (intOf bv).toNat)
        case atStart => exact ⟨0, by omega, rfl, Q.out, BL.out, BEL.out⟩
        case round =>
          obtain ⟨b, hb, rfl, hq2, hblk2, hbel2⟩ := hrel
          have BL2 := Lib.hid hblk2
          have BEL2 := Lib.hid hbel2
          have hgl2 : w.heap.size < wr.heap.size := (Array.getElem?_eq_some_iff.1 hblk2).1
          clear hblk2 hbel2
          by_cases hlt2 : b ≤ 20
          · have ib : (b : Int) ≤ 20 := by omega
            rw [oneI_step n a b hlt2] at hq2
            obtain ⟨pb0, pb1⟩ := pw20 hlt2
            obtain ⟨R, hR⟩ : ∃ R : Int, 2 ^ b = R := ⟨_, rfl⟩
            rw [hP] at pa0 pa1
            rw [hR] at pb0 pb1
            have EC := Lib.hid (show oneC n a b = if P + R = n then some (0, (a : Int), 0, (b : Int), false) else if P - R = n then some (0, (a : Int), 0, (b : Int), true) else none by unfold oneC; rw [hP, hR])
            have e1 : IntKind.i64.wrap (2 ^ a) = P := by rw [hP]; exact IntWalk.i64_in P (by omega)
            have e1' : IntKind.i64.wrap (1 * 2 ^ a) = P := by rw [hP, Int.one_mul]; exact IntWalk.i64_in P (by omega)
            have e2 : IntKind.i64.wrap (2 ^ b) = R := by rw [hR]; exact IntWalk.i64_in R (by omega)
            have e2' : IntKind.i64.wrap (1 * 2 ^ b) = R := by rw [hR, Int.one_mul]; exact IntWalk.i64_in R (by omega)
            have e3 : IntKind.i64.wrap (P + R) = P + R := IntWalk.i64_in _ (by omega)
            have e4 : IntKind.i64.wrap (P - R) = P - R := IntWalk.i64_in _ (by omega)
            have a64 : (a : Int) ≤ 64 := by omega
            have b64 : (b : Int) ≤ 64 := by omega
            clear hP hR
            by_cases k1 : P + R = n
            · have E := Lib.hid (ES.out (0, (a : Int), 0, (b : Int), false) (by rw [← hq2, EC.out, if_pos k1]; rfl))
              have i1 : (P + R == n) = true := by simpa using k1
              clear hq2 k1
              go_wp2
              refine wp_region_Tw [0, 1, 2, 3, 4, 5, 6] [] (.lp 0 (.lp 1 (.lp 2 (.lp 3 (.lp 4 (.lp 5 (.lp 6 (.done)))))))) (by kernel_rfl) (by kernel_rfl) ?_
              (repeat (first | (refine T_lp rfl (fun K hK => ?_); go_simp; refine hK _ ?_; clear hK K) | (refine T_ls rfl rfl (fun K hK => ?_); go_simp; refine hK _ ?_; clear hK K)))
              refine T_done ?_
              have BL2 := Lib.hid (show wr.drew.heap[w.heap.size]? = some (.cells #[.int .i64 0, .int .i64 0, .int .i64 0, .int .i64 0, .bool false] 39 (0, 0)) from BL2.out)
              have BEL2 := Lib.hid (BEL2.out.drew)
              have hgl2 : w.heap.size < wr.drew.heap.size := hgl2
              generalize World.drew wr = wd at BL2 BEL2 hgl2 ⊢
              obtain ⟨v1, v2, v3, v4, v5, vf⟩ := ad_cells BL2.out
              have vf0 := vf 0
              have vf1 := vf 1
              have vf2 := vf 2
              have vf3 := vf 3
              have vf4 := vf 4
              clear vf
              go_wp2
              refine bodyPost_ret (v := .tuple #[.agg #[.int .i64 0, .int .i64 (a : Int), .int .i64 0, .int .i64 (b : Int), .bool false], .bool true]) (by simp [results, Try.results35, go_sem, v1, v2, v3, v4, v5]) rfl ⟨by rw [E.out.1, E.out.2], ?_⟩
              exact bel_set5 BEL2.out (by omega) _ _ _ _ _
            · have i1 : (P + R == n) = false := by simpa using k1
              by_cases k2 : P - R = n
              · have E := Lib.hid (ES.out (0, (a : Int), 0, (b : Int), true) (by rw [← hq2, EC.out, if_neg k1, if_pos k2]; rfl))
                have i2 : (P - R == n) = true := by simpa using k2
                clear hq2 k1 k2
                go_wp2
                refine wp_region_Tw [0, 1, 2, 3, 4, 5, 6] [] (.lp 0 (.lp 1 (.lp 2 (.lp 3 (.lp 4 (.lp 5 (.lp 6 (.done)))))))) (by kernel_rfl) (by kernel_rfl) ?_
                (repeat (first | (refine T_lp rfl (fun K hK => ?_); go_simp; refine hK _ ?_; clear hK K) | (refine T_ls rfl rfl (fun K hK => ?_); go_simp; refine hK _ ?_; clear hK K)))
                refine T_done ?_
                go_wp2
                refine wp_region_Tw [0, 1, 2, 3, 4, 5, 6] [] (.lp 0 (.lp 1 (.lp 2 (.lp 3 (.lp 4 (.lp 5 (.lp 6 (.done)))))))) (by kernel_rfl) (by kernel_rfl) ?_
                (repeat (first | (refine T_lp rfl (fun K hK => ?_); go_simp; refine hK _ ?_; clear hK K) | (refine T_ls rfl rfl (fun K hK => ?_); go_simp; refine hK _ ?_; clear hK K)))
                refine T_done ?_
                have BL2 := Lib.hid (show wr.drew.drew.heap[w.heap.size]? = some (.cells #[.int .i64 0, .int .i64 0, .int .i64 0, .int .i64 0, .bool false] 39 (0, 0)) from BL2.out)
                have BEL2 := Lib.hid (BEL2.out.drew.drew)
                have hgl2 : w.heap.size < wr.drew.drew.heap.size := hgl2
                generalize World.drew (World.drew wr) = wd at BL2 BEL2 hgl2 ⊢
                obtain ⟨v1, v2, v3, v4, v5, vf⟩ := ad_cells BL2.out
                have vf0 := vf 0
                have vf1 := vf 1
                have vf2 := vf 2
                have vf3 := vf 3
                have vf4 := vf 4
                clear vf
                go_wp2
                refine bodyPost_ret (v := .tuple #[.agg #[.int .i64 0, .int .i64 (a : Int), .int .i64 0, .int .i64 (b : Int), .bool true], .bool true]) (by simp [results, Try.results35, go_sem, v1, v2, v3, v4, v5]) rfl ⟨by rw [E.out.1, E.out.2], ?_⟩
                exact bel_set5 BEL2.out (by omega) _ _ _ _ _
              · have i2 : (P - R == n) = false := by simpa using k2
                have Q2 := Lib.hid (show (oneI n a (21 - (b + 1))).or (oneO n (20 - a)) = F by rw [← hq2, EC.out, if_neg k1, if_neg k2, Option.none_or, show 21 - (b + 1) = 20 - b by omega])
                clear hq2 k1 k2
                go_wp2
                refine wp_region_Tw [0, 1, 2, 3, 4, 5, 6] [] (.lp 0 (.lp 1 (.lp 2 (.lp 3 (.lp 4 (.lp 5 (.lp 6 (.done)))))))) (by kernel_rfl) (by kernel_rfl) ?_
                (repeat (first | (refine T_lp rfl (fun K hK => ?_); go_simp; refine hK _ ?_; clear hK K) | (refine T_ls rfl rfl (fun K hK => ?_); go_simp; refine hK _ ?_; clear hK K)))
                refine T_done ?_
                go_wp2
                refine wp_region_Tw [0, 1, 2, 3, 4, 5, 6] [] (.lp 0 (.lp 1 (.lp 2 (.lp 3 (.lp 4 (.lp 5 (.lp 6 (.done)))))))) (by kernel_rfl) (by kernel_rfl) ?_
                (repeat (first | (refine T_lp rfl (fun K hK => ?_); go_simp; refine hK _ ?_; clear hK K) | (refine T_ls rfl rfl (fun K hK => ?_); go_simp; refine hK _ ?_; clear hK K)))
                refine T_done ?_
                go_wp2
                go_roundw
                case rel => exact ⟨b + 1, by omega, by go_num, Q2.out, BL2.out, BEL2.out.drew.drew⟩
                case measure => simp [intOf]; omega
          · have hb' : b = 21 := by omega
            subst hb'
            have Q2 := Lib.hid (show oneO n (21 - (a + 1)) = F by rw [show 21 - (a + 1) = 20 - a by omega, ← hq2]; rfl)
            clear hq2
            go_wp2
            go_roundw
            case rel => exact ⟨a + 1, by omega, by go_num, Q2.out, BL2.out, BEL2.out⟩
            case measure => simp [intOf]; omega
      · have ha' : a = 21 := by omega
        subst ha'
        have E := Lib.hid (EN.out hq.symm)
        clear hq
        obtain ⟨v1, v2, v3, v4, v5, vf⟩ := ad_cells BL.out
        have vf0 := vf 0
        have vf1 := vf 1
        have vf2 := vf 2
        have vf3 := vf 3
        have vf4 := vf 4
        clear vf
        go_wp2
        refine bodyPost_ret (v := .tuple #[.agg #[.int .i64 0, .int .i64 0, .int .i64 0, .int .i64 0, .bool false], .bool false]) (by simp [results, Try.results35, go_sem, v1, v2, v3, v4, v5]) rfl ⟨by rw [E.out.1, E.out.2]; rfl, ?_⟩
        exact bel_set5 BEL.out (by omega) _ _ _ _ _
set_option maxRecDepth 100000 in
set_option maxHeartbeats 8000000 in
theorem implOneAdder_any (B : Nat) (n : Int) (w : World) (_ : B ≤ w.heap.size) :
    Calls Try.prog 36 #[.int .i64 n] w fun e w' => e = .returned (.tuple #[.agg #[.int .i64 (oaV n).1, .int .i64 (oaV n).2.1, .int .i64 (oaV n).2.2.1, .int .i64 (oaV n).2.2.2.1, .bool (oaV n).2.2.2.2], .bool (oaB n)]) ∧ Below w.heap.size w w' := by
  obtain ⟨g1, h1⟩ : ∃ g, isN9 n = g := ⟨_, rfl⟩
  have H1 := Lib.hid (fun W => isSignedNumber_any n W)
  rw [h1] at H1
  cases g1 with
  | false =>
    have E := Lib.hid (oaV_none (show oaF n = none by unfold oaF; rw [h1]; rfl))
    clear h1
    go_enter Try.func36, Try.ntmps36
    go_wp2_with fail
    go_at_call 52
    generalize hw1 : World.alloc w _ = w1
    obtain ⟨qb, qs, ql⟩ := blk_new5 hw1
    clear hw1
    refine (H1.out _).mono ?_
    rintro e w' ⟨rfl, rfl⟩
    obtain ⟨v1, v2, v3, v4, v5, vf⟩ := ad_cells qb
    have vf0 := vf 0
    have vf1 := vf 1
    have vf2 := vf 2
    have vf3 := vf 3
    have vf4 := vf 4
    clear vf
    go_wp2
    refine bodyPost_ret (v := .tuple #[.agg #[.int .i64 0, .int .i64 0, .int .i64 0, .int .i64 0, .bool false], .bool false]) (by simp [results, Try.results36, go_sem, v1, v2, v3, v4, v5]) rfl ⟨by rw [E.out.1, E.out.2]; rfl, ?_⟩
    exact bel_set5 ql (by omega) _ _ _ _ _
  | true =>
    obtain ⟨F, hF⟩ : ∃ F, oaF n = F := ⟨_, rfl⟩
    have EF := Lib.hid (show oneO n 21 = F by rw [← hF]; unfold oaF; rw [if_pos h1])
    have ES := Lib.hid (fun a => (show F = some a → oaV n = a ∧ oaB n = true from fun h => oaV_some (hF.trans h)))
    have EN := Lib.hid (show F = none → oaV n = zAd ∧ oaB n = false from fun h => oaV_none (hF.trans h))
    clear h1 hF
    go_enter Try.func36, Try.ntmps36
    go_wp2_with fail
    go_at_call 52
    generalize hw1 : World.alloc w _ = w1
    obtain ⟨qb, qs, ql⟩ := blk_new5 hw1
    have QB := Lib.hid qb
    have QL := Lib.hid ql
    clear hw1 qb ql
    refine (H1.out _).mono ?_
    rintro e w' ⟨rfl, rfl⟩
    go_wp2
    go_loopw [13] (fun av wr => ∃ a : Nat, a ≤ 21 ∧ av = .int .i64 (a : Int) ∧ oneO n (21 - a) = F ∧ wr.heap[w.heap.size]? = some (.cells #[.int .i64 0, .int .i64 0, .int .i64 0, .int .i64 0, .bool false] 39 (0, 0)) ∧ Below w.heap.size w wr) (fun av _ => 21 - (intOf av).toNat)
    case atStart => exact ⟨0, by omega, rfl, EF.out, QB.out, QL.out⟩
    case round =>
      obtain ⟨a, ha, rfl, hq, hblk, hbel⟩ := hrel
      have BL := Lib.hid hblk
      have BEL := Lib.hid hbel
      have hgl : w.heap.size < wr.heap.size := (Array.getElem?_eq_some_iff.1 hblk).1
      clear hblk hbel
      by_cases hlt : a ≤ 20
      · have ia : (a : Int) < 21 := by omega
        rw [oneO_step n a hlt] at hq
        have Q := Lib.hid hq
        clear hq
        go_wp2
        go_loopw [16] (fun bv wr => ∃ b : Nat, b ≤ 21 ∧ bv = .int .i64 (b : Int) ∧ (oneI n a (21 - b)).or (oneO n (20 - a)) = F ∧ wr.heap[w.heap.size]? = some (.cells #[.int .i64 0, .int .i64 0, .int .i64 0, .int .i64 0, .bool false] 39 (0, 0)) ∧ Below w.heap.size w wr) (fun bv _ => 21 - (intOf bv).toNat)
        case atStart => exact ⟨0, by omega, rfl, Q.out, BL.out, BEL.out⟩
        case round =>
          obtain ⟨b, hb, rfl, hq2, hblk2, hbel2⟩ := hrel
          have hs2 := hbel2.size
          have BL2 := Lib.hid hblk2
          have BEL2 := Lib.hid hbel2
          have hgl2 : w.heap.size < wr.heap.size := (Array.getElem?_eq_some_iff.1 hblk2).1
          clear hblk2 hbel2
          by_cases hlt2 : b ≤ 20
          · have ib : (b : Int) < 21 := by omega
            rw [oneI_step n a b hlt2] at hq2
            obtain ⟨P, hP⟩ : ∃ P : Int, 2 ^ a = P := ⟨_, rfl⟩
            obtain ⟨R, hR⟩ : ∃ R : Int, 2 ^ b = R := ⟨_, rfl⟩
            have EC := Lib.hid (show oneC n a b = if P + R = n then some (0, (a : Int), 0, (b : Int), false) else if P - R = n then some (0, (a : Int), 0, (b : Int), true) else none by unfold oneC; rw [hP, hR])
            have Q2 := Lib.hid hq2
            have MU := Lib.hid (fun (B c : Nat) (A : Option Addr) (m : Bool) W hB hr => (show Calls Try.prog 75 #[.agg #[.int .i64 0, .int .i64 (a : Int), .int .i64 0, .int .i64 (b : Int), .bool m], .slice A 1 c] W fun e w' => e = .returned (.int .i64 (if m then P - R else P + R)) ∧ Below W.heap.size W w' by rw [← hP, ← hR]; exact multiple1_any B c A a b m W hlt hlt2 hB hr))
            clear hP hR hq2
            go_wp2
            generalize hw2 : World.alloc wr _ = w2
            have s2 : w2.heap.size = wr.heap.size + 1 := by rw [← hw2]; simp
            have b2 : Below wr.heap.size wr w2 := by rw [← hw2]; exact (Below.refl _ _).alloc (Nat.le_refl _) _
            have c0 : w2.heap[wr.heap.size]? = some (.cells #[.bool false, .bool true] 4 (0, 0)) := by rw [← hw2]; exact heap_alloc_new wr _
            have C0 := Lib.hid c0
            have BL3 := Lib.hid ((b2.block _ hgl2).trans BL2.out)
            have BEL3 := Lib.hid (BEL2.out.trans (b2.mono hs2))
            have SW := Lib.hid s2
            clear hw2 c0 b2 s2
            go_loopw [21] (fun iv wq => ∃ i : Nat, i ≤ 2 ∧ iv = .int .i64 (i : Int) ∧ (i = 0 ∨ (i = 1 ∧ P + R ≠ n) ∨ (i = 2 ∧ P + R ≠ n ∧ P - R ≠ n)) ∧ wq.heap[w.heap.size]? = some (.cells #[.int .i64 0, .int .i64 0, .int .i64 0, .int .i64 0, .bool false] 39 (0, 0)) ∧ wq.heap[wr.heap.size]? = some (.cells #[.bool false, .bool true] 4 (0, 0)) ∧ Below w.heap.size w wq) (fun iv _ => 2 - (intOf iv).toNat)
            case atStart => exact ⟨0, by omega, rfl, .inl rfl, BL3.out, C0.out, BEL3.out⟩
            case round =>
              obtain ⟨i, hi, rfl, hst, hblk3, hc3, hbel3⟩ := hrel
              have BL4 := Lib.hid hblk3
              have C4 := Lib.hid hc3
              have BEL4 := Lib.hid hbel3
              have hgl4 : w.heap.size < wr.heap.size := (Array.getElem?_eq_some_iff.1 hblk3).1
              clear hblk3 hc3 hbel3
              have SS := BEL4.out.size
              obtain ⟨cc0, cc1⟩ := bools2 C4.out
              have CB := Lib.hid C4.out
              by_cases hi2 : i = 2
              · subst hi2
                have hne : P + R ≠ n ∧ P - R ≠ n := by rcases hst with h | ⟨h, _⟩ | ⟨_, h⟩ <;> first | omega | exact h
                have Q3 := Lib.hid (show (oneI n a (21 - (b + 1))).or (oneO n (20 - a)) = F by rw [← Q2.out, EC.out, if_neg hne.1, if_neg hne.2, Option.none_or, show 21 - (b + 1) = 20 - b by omega])
                clear hst hne
                go_wp2
                go_roundw
                case rel => exact ⟨b + 1, by omega, by go_num, Q3.out, BL4.out, BEL4.out⟩
                case measure => simp [intOf]; omega
              · have hm : ∃ m : Bool, i = (if m then 1 else 0) ∧ (m = true → P + R ≠ n) := by
                  rcases hst with h | ⟨h, h2⟩ | ⟨h, _⟩
                  · exact ⟨false, by simp [h], by simp⟩
                  · exact ⟨true, by simp [h], fun _ => h2⟩
                  · omega
                obtain ⟨m, him, hmn⟩ := hm
                have HMN := Lib.hid hmn
                clear hst hmn
                cases m with
                | false =>
                  obtain rfl : i = 0 := by simpa using him
                  clear him hi2
                  go_wp2_with fail
                  go_at_call 75
                  generalize hw5 : World.alloc (World.alloc _ _) _ = w5
                  obtain ⟨y0, y1, y2, y3, y4, y5, yr, ys, yb⟩ := ad_one hw5
                  clear hw5
                  have BL5 := Lib.hid ((yb.block _ hgl4).trans BL4.out)
                  have C5 := Lib.hid ((yb.block _ (Array.getElem?_eq_some_iff.1 CB.out).1).trans CB.out)
                  have BEL5 := Lib.hid (BEL4.out.trans (yb.mono SS))
                  refine (MU.out w5.heap.size 1 _ false w5 (Nat.le_refl _) yr).mono ?_
                  rintro e w6 ⟨rfl, hb6⟩
                  simp only [if_false, Bool.false_eq_true]
                  have BL6 := Lib.hid ((hb6.block _ (by omega)).trans BL5.out)
                  have C6 := Lib.hid ((hb6.block _ (Array.getElem?_eq_some_iff.1 C5.out).1).trans C5.out)
                  have BEL6 := Lib.hid (BEL5.out.trans (hb6.mono BEL5.out.size))
                  have y0 := (hb6.cell (p := ⟨_, 0, none⟩) (by simp only []; omega)).trans y0
                  have y1 := (hb6.cell (p := ⟨_, 1, none⟩) (by simp only []; omega)).trans y1
                  have y2 := (hb6.cell (p := ⟨_, 2, none⟩) (by simp only []; omega)).trans y2
                  have y3 := (hb6.cell (p := ⟨_, 3, none⟩) (by simp only []; omega)).trans y3
                  have y4 := (hb6.cell (p := ⟨_, 4, none⟩) (by simp only []; omega)).trans y4
                  have s6 := hb6.size
                  clear hb6 yr y5
                  by_cases k1 : P + R = n
                  · have i1 : (P + R == n) = true := by simpa using k1
                    have hgl6 : w.heap.size < w6.heap.size := (Array.getElem?_eq_some_iff.1 BL6.out).1
                    have E := Lib.hid (ES.out (0, (a : Int), 0, (b : Int), false) (by rw [← Q2.out, EC.out, if_pos k1]; rfl))
                    clear k1
                    obtain ⟨v1, v2, v3, v4, v5, vf⟩ := ad_cells BL6.out
                    have vf0 := vf 0
                    have vf1 := vf 1
                    have vf2 := vf 2
                    have vf3 := vf 3
                    have vf4 := vf 4
                    clear vf
                    go_wp2
                    refine bodyPost_ret (v := .tuple #[.agg #[.int .i64 0, .int .i64 (a : Int), .int .i64 0, .int .i64 (b : Int), .bool false], .bool true]) (by simp [results, Try.results36, go_sem, v1, v2, v3, v4, v5]) rfl ⟨by rw [E.out.1, E.out.2], ?_⟩
                    exact bel_set5 BEL6.out (by omega) _ _ _ _ _
                  · have i1 : (P + R == n) = false := by simpa using k1
                    have K1 := Lib.hid k1
                    clear k1
                    go_wp2
                    go_roundw
                    case rel => exact ⟨1, by omega, by go_num, .inr (.inl ⟨rfl, K1.out⟩), BL6.out, C6.out, BEL6.out⟩
                    case measure => simp [intOf]
                | true =>
                  obtain rfl : i = 1 := by simpa using him
                  clear him hi2
                  go_wp2_with fail
                  go_at_call 75
                  generalize hw5 : World.alloc (World.alloc _ _) _ = w5
                  obtain ⟨y0, y1, y2, y3, y4, y5, yr, ys, yb⟩ := ad_one hw5
                  clear hw5
                  have BL5 := Lib.hid ((yb.block _ hgl4).trans BL4.out)
                  have C5 := Lib.hid ((yb.block _ (Array.getElem?_eq_some_iff.1 CB.out).1).trans CB.out)
                  have BEL5 := Lib.hid (BEL4.out.trans (yb.mono SS))
                  refine (MU.out w5.heap.size 1 _ true w5 (Nat.le_refl _) yr).mono ?_
                  rintro e w6 ⟨rfl, hb6⟩
                  simp only [if_true]
                  have BL6 := Lib.hid ((hb6.block _ (by omega)).trans BL5.out)
                  have C6 := Lib.hid ((hb6.block _ (Array.getElem?_eq_some_iff.1 C5.out).1).trans C5.out)
                  have BEL6 := Lib.hid (BEL5.out.trans (hb6.mono BEL5.out.size))
                  have y0 := (hb6.cell (p := ⟨_, 0, none⟩) (by simp only []; omega)).trans y0
                  have y1 := (hb6.cell (p := ⟨_, 1, none⟩) (by simp only []; omega)).trans y1
                  have y2 := (hb6.cell (p := ⟨_, 2, none⟩) (by simp only []; omega)).trans y2
                  have y3 := (hb6.cell (p := ⟨_, 3, none⟩) (by simp only []; omega)).trans y3
                  have y4 := (hb6.cell (p := ⟨_, 4, none⟩) (by simp only []; omega)).trans y4
                  have s6 := hb6.size
                  clear hb6 yr y5
                  by_cases k1 : P - R = n
                  · have i1 : (P - R == n) = true := by simpa using k1
                    have hgl6 : w.heap.size < w6.heap.size := (Array.getElem?_eq_some_iff.1 BL6.out).1
                    have E := Lib.hid (ES.out (0, (a : Int), 0, (b : Int), true) (by rw [← Q2.out, EC.out, if_neg (HMN.out (by first | rfl | trivial)), if_pos k1]; rfl))
                    clear k1
                    obtain ⟨v1, v2, v3, v4, v5, vf⟩ := ad_cells BL6.out
                    have vf0 := vf 0
                    have vf1 := vf 1
                    have vf2 := vf 2
                    have vf3 := vf 3
                    have vf4 := vf 4
                    clear vf
                    go_wp2
                    refine bodyPost_ret (v := .tuple #[.agg #[.int .i64 0, .int .i64 (a : Int), .int .i64 0, .int .i64 (b : Int), .bool true], .bool true]) (by simp [results, Try.results36, go_sem, v1, v2, v3, v4, v5]) rfl ⟨by rw [E.out.1, E.out.2], ?_⟩
                    exact bel_set5 BEL6.out (by omega) _ _ _ _ _
                  · have i1 : (P - R == n) = false := by simpa using k1
                    have K1 := Lib.hid k1
                    clear k1
                    go_wp2
                    go_roundw
                    case rel => exact ⟨2, by omega, by go_num, .inr (.inr ⟨rfl, HMN.out (by first | rfl | trivial), K1.out⟩), BL6.out, C6.out, BEL6.out⟩
                    case measure => simp [intOf]
          · have hb' : b = 21 := by omega
            subst hb'
            have Q2 := Lib.hid (show oneO n (21 - (a + 1)) = F by rw [show 21 - (a + 1) = 20 - a by omega, ← hq2]; rfl)
            clear hq2
            go_wp2
            go_roundw
            case rel => exact ⟨a + 1, by omega, by go_num, Q2.out, BL2.out, BEL2.out⟩
            case measure => simp [intOf]; omega
      · have ha' : a = 21 := by omega
        subst ha'
        have E := Lib.hid (EN.out hq.symm)
        clear hq
        obtain ⟨v1, v2, v3, v4, v5, vf⟩ := ad_cells BL.out
        have vf0 := vf 0
        have vf1 := vf 1
        have vf2 := vf 2
        have vf3 := vf 3
        have vf4 := vf 4
        clear vf
        go_wp2
        refine bodyPost_ret (v := .tuple #[.agg #[.int .i64 0, .int .i64 0, .int .i64 0, .int .i64 0, .bool false], .bool false]) (by simp [results, Try.results36, go_sem, v1, v2, v3, v4, v5]) rfl ⟨by rw [E.out.1, E.out.2]; rfl, ?_⟩
        exact bel_set5 BEL.out (by omega) _ _ _ _ _
end Go.Proofs.Ytbohakifjmdoiaa
