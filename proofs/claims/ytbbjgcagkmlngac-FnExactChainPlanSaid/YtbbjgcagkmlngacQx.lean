/- The plan of a chain. -/
import Derived.Test.YtbbjgcagkmlngacQg
namespace Go.Proofs.Ytbbjgcagkmlngac
open Go.RowKit

def zPl : Pl := ⟨0, [], []⟩
theorem OwP.zPl (w : World) (B : Nat) : OwP w B none none 0 0 zPl := ⟨World.ownsRow_nil _ _ _ _, World.ownsRow_nil _ _ _ _⟩
/-- The plan of a list, if it is a chain. -/
def chP (l : List Int) : Pl := if chG l then ⟨1, stepsK l l.length, [(l.length : Int) - 1]⟩ else zPl
theorem chP_true {l : List Int} (h : chG l = true) : chP l = ⟨1, stepsK l l.length, [(l.length : Int) - 1]⟩ := by unfold chP; rw [if_pos h]
theorem chP_false {l : List Int} (h : chG l = false) : chP l = zPl := by unfold chP; rw [h]; rfl
theorem chP_s (l : List Int) : (chP l).s.length ≤ 1000 := by
  cases hg : chG l with
  | true => rw [chP_true hg]; simp only [stepsK_length]; have := (chG_chn hg).most; omega
  | false => rw [chP_false hg]; simp [zPl]
theorem chP_o (l : List Int) : (chP l).o.length ≤ 1000 := by
  cases hg : chG l with
  | true => rw [chP_true hg]; simp
  | false => rw [chP_false hg]; simp [zPl]
theorem cells3Q {w : World} {g : Nat} {a b c : Value} {t : TypeId} (h : w.heap[g]? = some (.cells #[a, b, c] t (0, 0))) :
    w.cell? ⟨g, 0, none⟩ = some a ∧ w.cell? ⟨g, 1, none⟩ = some b ∧ w.cell? ⟨g, 2, none⟩ = some c ∧ w.frozen? ⟨g, 0, none⟩ = false ∧ w.frozen? ⟨g, 1, none⟩ = false ∧ w.frozen? ⟨g, 2, none⟩ = false := by
  refine ⟨?_, ?_, ?_, frozen_of_row w _ 0 _ _ h, frozen_of_row w _ 1 _ _ h, frozen_of_row w _ 2 _ _ h⟩
  · rw [cell_of_row w _ 0 _ _ (0, 0) h]; rfl
  · rw [cell_of_row w _ 1 _ _ (0, 0) h]; rfl
  · rw [cell_of_row w _ 2 _ _ (0, 0) h]; rfl
theorem own_set3Q {w : World} {g B sz n : Nat} {t e : TypeId} {v : Value} {xs : List Value} {cs : Array Value} (h : w.ownsRow B e sz v n xs) (hg : w.heap[g]? = some (.cells cs t (0, 0))) (ht : t ≠ e) (a b c : Value) :
    (((w.setCell ⟨g, 0, none⟩ a).setCell ⟨g, 1, none⟩ b).setCell ⟨g, 2, none⟩ c).ownsRow B e sz v n xs := by
  have h1 := own_set (o := 0) h hg ht a
  have k1 := heap_setCell_same w g 0 _ t a hg
  have h2 := own_set (o := 1) h1 k1 ht b
  have k2 := heap_setCell_same _ g 1 _ t b k1
  exact own_set (o := 2) h2 k2 ht c
/-- A literal of one number. -/
theorem one_own {w : World} {B : Nat} (x : Int) (hB : B ≤ w.heap.size) : (w.alloc (.cells #[.int .i64 x] 3)).ownsRow B 3 1 (.slice (some ⟨w.heap.size, 0, none⟩) 1 1) 1 [I x] :=
  World.ownsRow_lit (base := B) (e := 3) (size := 1) w #[.int .i64 x] 1 hB (by unfold maxLen; omega) (by simp)

set_option maxRecDepth 100000 in
set_option maxHeartbeats 2000000 in
theorem chPlan_any (B : Nat) (A : Option Addr) (c : Nat) (l : List Int) (w : World) (hg : chG l = true) (hB : B ≤ w.heap.size) (hr : Rd w B 1 A l.length (l.map I)) :
    Calls Try.prog 58 #[.slice A l.length c] w fun e w' =>
      ∃ R1 R2 v1 v2, e = .returned (.agg #[.int .i64 1, .slice R1 (stepsK l l.length).length v1, .slice R2 1 v2]) ∧ OwP w' w.heap.size R1 R2 v1 v2 ⟨1, stepsK l l.length, [(l.length : Int) - 1]⟩ ∧ Below w.heap.size w w' := by
  have hS := fun (W : World) (hb : Below w.heap.size w W) => chSteps_any B A c l W hg (by have := hb.size; omega) (hr.below' hb hB)
  have hl1 := (chG_chn hg).pos
  have hl2 := (chG_chn hg).most
  obtain ⟨S, hSe⟩ : ∃ S, stepsK l l.length = S := ⟨_, rfl⟩
  rw [hSe] at hS ⊢
  have HS := Lib.hid hS
  clear hS hg hr hSe
  go_enter Try.func58, Try.ntmps58
  go_wp2_with fail
  go_at_call 50
  generalize hw1 : World.alloc w _ = w1
  have r1 : w1.heap[w.heap.size]? = some (.cells #[.int .i64 0, .slice none 0 0, .slice none 0 0] 39 (0, 0)) := by rw [← hw1]; exact Array.getElem?_push_size
  have hb1 : Below w.heap.size w w1 := by rw [← hw1]; exact (Below.refl _ _).alloc (Nat.le_refl _) _
  have hs1 : w1.heap.size = w.heap.size + 1 := by rw [← hw1]; simp
  clear hw1
  refine (HS.out w1 hb1).mono ?_
  rintro e w2 ⟨A2, c2, rfl, hown2, hb2⟩
  have r2 := (hb2.block w.heap.size (by omega)).trans r1
  have hR : ∀ o, (w2.alloc o).heap[w.heap.size]? = some (.cells #[.int .i64 0, .slice none 0 0, .slice none 0 0] 39 (0, 0)) := fun o => (Below.heap_alloc w2 o _ (by have := hb2.size; omega)).trans r2
  have t0 := fun o => (cells3Q (hR o)).1
  have t1 := fun o => (cells3Q (hR o)).2.1
  have t2 := fun o => (cells3Q (hR o)).2.2.1
  have g0 := fun o => (cells3Q (hR o)).2.2.2.1
  have g1 := fun o => (cells3Q (hR o)).2.2.2.2.1
  have g2 := fun o => (cells3Q (hR o)).2.2.2.2.2
  have hs2 : w.heap.size + 1 ≤ w2.heap.size := by have := hb2.size; omega
  have HB2 := Lib.hid (hb1.trans (hb2.mono (by omega)))
  have OW2 := Lib.hid hown2
  have HR := Lib.hid hR
  have hsub : IntKind.i64.wrap ((l.length : Int) - 1) = (l.length : Int) - 1 := IntWalk.i64_in _ (by omega)
  clear r1 r2 hb1 hb2 hown2 hR
  go_wp2
  refine bodyPost_ret (v := .agg #[.int .i64 1, .slice A2 S.length c2, .slice (some ⟨w2.heap.size, 0, none⟩) 1 1]) (by simp [results, Try.results58, go_sem, t0, t1, t2]) rfl ⟨A2, some ⟨w2.heap.size, 0, none⟩, c2, 1, rfl, ?_, ?_⟩
  · refine ⟨own_set3Q (own_base (World.ownsRow.alloc OW2.out _) (by omega)) (HR.out _) (by decide) _ _ _, own_set3Q (one_own _ (by omega)) (HR.out _) (by decide) _ _ _⟩
  · exact (((HB2.out.alloc (by omega) _).setCell (by simp) _).setCell (by simp) _).setCell (by simp) _

set_option maxRecDepth 100000 in
set_option maxHeartbeats 2000000 in
theorem specChainPlan_any (B : Nat) (A : Option Addr) (c : Nat) (l : List Int) (w : World) (hB : B ≤ w.heap.size) (hl : l.length ≤ 1048576) (_hcap : l.length ≤ c) (hr : Rd w B 1 A l.length (l.map I)) :
    Calls Try.prog 32 #[.slice A l.length c] w fun e w' =>
      ∃ R1 R2 v1 v2, e = .returned (.tuple #[.agg #[.int .i64 (chP l).n, .slice R1 (chP l).s.length v1, .slice R2 (chP l).o.length v2], .bool (chG l)]) ∧ OwP w' w.heap.size R1 R2 v1 v2 (chP l) ∧ Below w.heap.size w w' := by
  have hS := fun (W : World) (hb : Below w.heap.size w W) => chGood_any B A c l W hl (by have := hb.size; omega) (hr.below' hb hB)
  have H := Lib.hid hr
  clear hr
  cases hg : chG l with
  | false =>
    rw [hg] at hS
    have HS := Lib.hid hS
    have GG := Lib.hid hg
    rw [chP_false hg]
    clear hS hg
    go_enter Try.func32, Try.ntmps32
    go_wp2_with fail
    go_at_call 49
    generalize hw1 : World.alloc w _ = w1
    have r1 : w1.heap[w.heap.size]? = some (.cells #[.int .i64 0, .slice none 0 0, .slice none 0 0] 39 (0, 0)) := by rw [← hw1]; exact Array.getElem?_push_size
    have hb1 : Below w.heap.size w w1 := by rw [← hw1]; exact (Below.refl _ _).alloc (Nat.le_refl _) _
    have hs1 : w1.heap.size = w.heap.size + 1 := by rw [← hw1]; simp
    clear hw1
    refine (HS.out w1 hb1).mono ?_
    rintro e w2 ⟨rfl, hb2⟩
    have hb2' : Below w1.heap.size w1 w2 := hb2
    have r2 := (hb2'.block w.heap.size (by omega)).trans r1
    obtain ⟨t0, t1, t2, g0, g1, g2⟩ := cells3Q r2
    have HB2 := Lib.hid (hb1.trans (hb2'.mono (by omega)))
    clear r1 r2 hb1 hb2 hb2'
    go_wp2
    refine bodyPost_ret (v := .tuple #[.agg #[.int .i64 0, .slice none 0 0, .slice none 0 0], .bool false]) (by simp [results, Try.results32, go_sem, t0, t1, t2]) rfl ⟨none, none, 0, 0, rfl, OwP.zPl _ _, ?_⟩
    exact ((HB2.out.setCell (by simp) _).setCell (by simp) _).setCell (by simp) _
  | true =>
    rw [hg] at hS
    have HS := Lib.hid hS
    have hP := fun (W : World) (hb : Below w.heap.size w W) => chPlan_any B A c l W hg (by have := hb.size; omega) (H.out.below' hb hB)
    rw [chP_true hg]
    simp only
    obtain ⟨S, hSe⟩ : ∃ S, stepsK l l.length = S := ⟨_, rfl⟩
    rw [hSe] at hP ⊢
    have HP := Lib.hid hP
    have GG := Lib.hid hg
    clear hS hg hP hSe
    go_enter Try.func32, Try.ntmps32
    go_wp2_with fail
    go_at_call 49
    generalize hw1 : World.alloc w _ = w1
    have r1 : w1.heap[w.heap.size]? = some (.cells #[.int .i64 0, .slice none 0 0, .slice none 0 0] 39 (0, 0)) := by rw [← hw1]; exact Array.getElem?_push_size
    have hb1 : Below w.heap.size w w1 := by rw [← hw1]; exact (Below.refl _ _).alloc (Nat.le_refl _) _
    have hs1 : w1.heap.size = w.heap.size + 1 := by rw [← hw1]; simp
    clear hw1
    refine (HS.out w1 hb1).mono ?_
    rintro e w2 ⟨rfl, hb2⟩
    have HB2 := Lib.hid (hb1.trans (hb2.mono (by omega)))
    have HB12 := Lib.hid hb2
    have R1 := Lib.hid r1
    have hs2 : w1.heap.size ≤ w2.heap.size := hb2.size
    clear r1 hb1 hb2
    go_wp2_with fail
    go_at_call 58
    refine (HP.out w2 HB2.out).mono ?_
    rintro e w3 ⟨Q1, Q2, v1, v2, rfl, hown3, hb3⟩
    have r3 := ((HB12.out.trans (hb3.mono hs2)).block w.heap.size (by omega)).trans R1.out
    obtain ⟨t0, t1, t2, g0, g1, g2⟩ := cells3Q r3
    have R3 := Lib.hid r3
    have OW3 := Lib.hid (hown3.base (show w.heap.size ≤ w2.heap.size by omega))
    have HB3 := Lib.hid (HB2.out.trans (hb3.mono (by omega)))
    clear r3 hown3 hb3
    go_wp2
    refine bodyPost_ret (v := .tuple #[.agg #[.int .i64 1, .slice Q1 S.length v1, .slice Q2 1 v2], .bool true]) (by simp [results, Try.results32, go_sem, t0, t1, t2]) rfl ⟨Q1, Q2, v1, v2, rfl, ?_, ?_⟩
    · exact ⟨own_set3Q OW3.out.1 R3.out (by decide) _ _ _, own_set3Q OW3.out.2 R3.out (by decide) _ _ _⟩
    · exact ((HB3.out.setCell (by simp) _).setCell (by simp) _).setCell (by simp) _

set_option maxRecDepth 100000 in
set_option maxHeartbeats 2000000 in
theorem implChainPlan_any (B : Nat) (A : Option Addr) (c : Nat) (l : List Int) (w : World) (hB : B ≤ w.heap.size) (hl : l.length ≤ 1048576) (hcap : l.length ≤ c) (hr : Rd w B 1 A l.length (l.map I)) :
    Calls Try.prog 33 #[.slice A l.length c] w fun e w' =>
      ∃ R1 R2 v1 v2, e = .returned (.tuple #[.agg #[.int .i64 (chP l).n, .slice R1 (chP l).s.length v1, .slice R2 (chP l).o.length v2], .bool (chG l)]) ∧ OwP w' w.heap.size R1 R2 v1 v2 (chP l) ∧ Below w.heap.size w w' := by
  have hS := fun (W : World) (hb : Below w.heap.size w W) => implSteps_any B A c l W (by have := hb.size; omega) hl hcap (hr.below' hb hB)
  clear hr
  cases hg : chG l with
  | false =>
    rw [hg] at hS
    rw [chS_false hg] at hS
    have HS := Lib.hid hS
    rw [chP_false hg]
    clear hS hg
    go_enter Try.func33, Try.ntmps33
    go_wp2_with fail
    go_at_call 20
    generalize hw1 : World.alloc w _ = w1
    have r1 : w1.heap[w.heap.size]? = some (.cells #[.int .i64 0, .slice none 0 0, .slice none 0 0] 39 (0, 0)) := by rw [← hw1]; exact Array.getElem?_push_size
    have hb1 : Below w.heap.size w w1 := by rw [← hw1]; exact (Below.refl _ _).alloc (Nat.le_refl _) _
    have hs1 : w1.heap.size = w.heap.size + 1 := by rw [← hw1]; simp
    clear hw1
    refine (HS.out w1 hb1).mono ?_
    rintro e w2 ⟨A2, c2, rfl, _, hb2⟩
    have r2 := (hb2.block w.heap.size (by omega)).trans r1
    obtain ⟨t0, t1, t2, g0, g1, g2⟩ := cells3Q r2
    have HB2 := Lib.hid (hb1.trans (hb2.mono (by omega)))
    clear r1 r2 hb1 hb2
    go_wp2
    refine bodyPost_ret (v := .tuple #[.agg #[.int .i64 0, .slice none 0 0, .slice none 0 0], .bool false]) (by simp [results, Try.results33, go_sem, t0, t1, t2]) rfl ⟨none, none, 0, 0, rfl, OwP.zPl _ _, ?_⟩
    exact ((HB2.out.setCell (by simp) _).setCell (by simp) _).setCell (by simp) _
  | true =>
    have hlen : ((stepsK l l.length).length : Int) = (l.length : Int) - 1 := by rw [stepsK_length]; have := (chG_chn hg).pos; omega
    have hSl : (stepsK l l.length).length ≤ 40 := by rw [stepsK_length]; have := (chG_chn hg).most; omega
    rw [hg] at hS
    rw [chS_true hg] at hS
    rw [chP_true hg]
    simp only
    obtain ⟨S, hSe⟩ : ∃ S, stepsK l l.length = S := ⟨_, rfl⟩
    rw [hSe] at hS hlen hSl ⊢
    have HS := Lib.hid hS
    have HL := Lib.hid hlen
    clear hS hg hSe hlen
    go_enter Try.func33, Try.ntmps33
    go_wp2_with fail
    go_at_call 20
    generalize hw1 : World.alloc w _ = w1
    have r1 : w1.heap[w.heap.size]? = some (.cells #[.int .i64 0, .slice none 0 0, .slice none 0 0] 39 (0, 0)) := by rw [← hw1]; exact Array.getElem?_push_size
    have hb1 : Below w.heap.size w w1 := by rw [← hw1]; exact (Below.refl _ _).alloc (Nat.le_refl _) _
    have hs1 : w1.heap.size = w.heap.size + 1 := by rw [← hw1]; simp
    clear hw1
    refine (HS.out w1 hb1).mono ?_
    rintro e w2 ⟨A2, c2, rfl, hown2, hb2⟩
    have r2 := (hb2.block w.heap.size (by omega)).trans r1
    have hR : ∀ o, (w2.alloc o).heap[w.heap.size]? = some (.cells #[.int .i64 0, .slice none 0 0, .slice none 0 0] 39 (0, 0)) := fun o => (Below.heap_alloc w2 o _ (by have := hb2.size; omega)).trans r2
    have t0 := fun o => (cells3Q (hR o)).1
    have t1 := fun o => (cells3Q (hR o)).2.1
    have t2 := fun o => (cells3Q (hR o)).2.2.1
    have g0 := fun o => (cells3Q (hR o)).2.2.2.1
    have g1 := fun o => (cells3Q (hR o)).2.2.2.2.1
    have g2 := fun o => (cells3Q (hR o)).2.2.2.2.2
    have hs2 : w.heap.size + 1 ≤ w2.heap.size := by have := hb2.size; omega
    have HB2 := Lib.hid (hb1.trans (hb2.mono (by omega)))
    have OW2 := Lib.hid hown2
    have HR := Lib.hid hR
    clear r1 r2 hb1 hb2 hown2 hR
    go_wp2
    refine bodyPost_ret (v := .tuple #[.agg #[.int .i64 1, .slice A2 S.length c2, .slice (some ⟨w2.heap.size, 0, none⟩) 1 1], .bool true]) (by simp [results, Try.results33, go_sem, t0, t1, t2]) rfl ⟨A2, some ⟨w2.heap.size, 0, none⟩, c2, 1, rfl, ?_, ?_⟩
    · rw [← HL.out]
      refine ⟨own_set3Q (own_base (World.ownsRow.alloc OW2.out _) (by omega)) (HR.out _) (by decide) _ _ _, own_set3Q (one_own _ (by omega)) (HR.out _) (by decide) _ _ _⟩
    · exact (((HB2.out.alloc (by omega) _).setCell (by simp) _).setCell (by simp) _).setCell (by simp) _
end Go.Proofs.Ytbbjgcagkmlngac
