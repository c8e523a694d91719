/- TreeChain of both sides: the program finds the way among all ways of the tree. -/
import Derived.Test.YtbbjgcagkmlngabYd
import Derived.Test.YtbbjgcagkmlngabHy
import Derived.Test.YtbbjgcagkmlngabYg
namespace Go.Proofs.Ytbbjgcagkmlngab
open Go.RowKit

def trB (x : Int) : Bool := inB x 1 400
def trR (x : Int) : List Int := if trB x then cs (twN x.toNat) else []
theorem trB_rng {x : Int} (h : trB x = true) : 1 ≤ x ∧ x ≤ 400 := by simpa [trB, inB] using h
theorem trR_le (x : Int) : (trR x).length ≤ 1000 := by
  unfold trR
  split
  · rename_i h
    have ⟨h1, h2⟩ := trB_rng h
    rw [cs_len]
    have := twN_len (n := x.toNat) (by omega)
    omega
  · simp
theorem trR_true {n : Nat} (h : trB (n : Int) = true) : trR (n : Int) = cs (twN n) := by unfold trR; rw [if_pos h]; rfl
theorem trR_false {x : Int} (h : trB x = false) : trR x = [] := by unfold trR; rw [h]; rfl

set_option maxRecDepth 100000 in
set_option maxHeartbeats 1000000 in
theorem specTree_any (x : Int) (w : World) : Calls Try.prog 65 #[.int .i64 x] w fun e w' =>
    ∃ A' c', e = .returned (.tuple #[.slice A' (trR x).length c', .bool (trB x)]) ∧ OwI w' w.heap.size (.slice A' (trR x).length c') (trR x) ∧ Below w.heap.size w w' := by
  cases hg : trB x with
  | false =>
    have HG := Lib.hid hg
    have E := Lib.hid (trR_false hg)
    clear hg
    go_enter Try.func65, Try.ntmps65
    go_wp2_with (go_at_call 85; refine (l1In_any _ _ _ _).mono ?_; rw [show inB x 1 400 = false from HG.out]; rintro e w' ⟨rfl, rfl⟩)
    go_ret2
    exact ⟨none, 0, by rw [E.out]; rfl, by rw [E.out]; exact OwI.nil _ _, Below.refl _ _⟩
  | true =>
    have ⟨h1, h2⟩ := trB_rng hg
    obtain ⟨n, rfl⟩ : ∃ n : Nat, x = n := ⟨x.toNat, by omega⟩
    have HM := Lib.hid (fun W => meTree_any n W (by omega) (by omega))
    have E := Lib.hid (trR_true hg)
    have HG := Lib.hid hg
    clear hg
    go_enter Try.func65, Try.ntmps65
    go_wp2_with (first | (go_at_call 85; refine (l1In_any _ _ _ _).mono ?_; rw [show inB (n : Int) 1 400 = true from HG.out]; rintro e w' ⟨rfl, rfl⟩) | (go_at_call 121; refine (HM.out _).mono ?_; rintro e w' ⟨A2, c2, rfl, ho2, hb2⟩))
    go_ret2
    exact ⟨A2, c2, by rw [E.out, cs_len]; rfl, by rw [E.out, cs_len]; exact ho2, hb2⟩

set_option maxRecDepth 100000 in
set_option maxHeartbeats 2000000 in
theorem treeEnd_any (g : Nat) (A : Option Addr) (c : Nat) (p : List Nat) (n : Nat) (w : World) (h1 : 1 ≤ p.length) (hl : p.length ≤ 40) (hg : w.cell? ⟨g, 0, none⟩ = some (.int .i64 (n : Int))) (hr : Rd w w.heap.size 1 A p.length ((cs p).map I)) :
    Calls Try.prog 123 #[.slice A p.length c, .pointer (some ⟨g, 0, none⟩)] w fun e w' => e = .returned (.bool (((lastN p : Nat) : Int) == (n : Int))) ∧ Below w.heap.size w w' := by
  have he := endOf_any w.heap.size A c (cs p) w.drew (by rw [cs_len]; exact h1) (by rw [cs_len]; omega) (by rw [cs_len]; exact hr.drew)
  rw [cs_getD, cs_len] at he
  have HEND := Lib.hid he
  have HG := Lib.hid hg
  clear hr hg he
  obtain ⟨y, hy⟩ : ∃ y : Int, ((lastN p : Nat) : Int) = y := ⟨_, rfl⟩
  have HEND := Lib.hid (show Calls Try.prog 117 #[.slice A p.length c] w.drew fun e w' => e = .returned (.int .i64 y) ∧ w' = w.drew by rw [← hy]; exact HEND.out)
  rw [hy]
  clear hy
  go_enter Try.func123, Try.ntmps123
  go_wp2
  have HS := Lib.hid (show (fun x : World => x.cell? ⟨g, 0, none⟩ = some (.int .i64 (n : Int))) w.drew from HG.out)
  refine wp_region_T (fun x : World => x.cell? ⟨g, 0, none⟩ = some (.int .i64 (n : Int))) [0, 2, 3, 4] [2] (.lp 0 (.ls 2 (.hv 1 (.lp 3 (.lp 4 (.done)))))) (by kernel_rfl) (by kernel_rfl) ?_
  (repeat (refine T_lp rfl (fun K hK => ?_); go_simp; refine hK _ ?_; clear hK K))
  refine T_ls1 (v := .int .i64 (n : Int)) rfl rfl HS.out (fun x hx => (by go_simp)) (fun K hK => ?_)
  (go_simp; refine hK _ ?_; clear hK K)
  refine T_hvS rfl (fun K hK => ?_)
  go_simp
  go_at_call 117
  refine HEND.out.mono ?_
  rintro e w2 ⟨rfl, rfl⟩
  go_simp
  refine hK _ _ HS.out ?_
  clear hK K
  (repeat (refine T_lp rfl (fun K hK => ?_); go_simp; refine hK _ ?_; clear hK K))
  (repeat (refine T_lp rfl (fun K hK => ?_); go_simp; refine hK _ ?_; clear hK K))
  refine T_done ?_
  go_wp2
  go_ret
  exact ⟨rfl, (Below.refl _ _).drew⟩

set_option maxRecDepth 100000 in
set_option maxHeartbeats 2000000 in
theorem treeIdx_any (B g : Nat) (A : Option Addr) (c : Nat) (f : Nat → Option Addr × Nat) (T : List (List Nat)) (n : Nat) (w : World) (hT : T.length ≤ 400) (hrow : ∀ i, i < T.length → 1 ≤ (T.getD i []).length ∧ (T.getD i []).length ≤ 40) (hhas : (T.all fun q => !(lastN q == n)) = false)
    (hgs : g < w.heap.size) (hg : w.cell? ⟨g, 0, none⟩ = some (.int .i64 (n : Int))) (hown : OwN w B A c f T) :
    Calls Try.prog 122 #[.slice A T.length c, .func (.func 123) #[] #[.pointer (some ⟨g, 0, none⟩)]] w fun e w' => (∃ i : Nat, i < T.length ∧ e = .returned (.int .i64 (i : Int)) ∧ lastN (T.getD i []) = n) ∧ Below w.heap.size w w' := by
  have OWN := Lib.hid hown
  have HG := Lib.hid hg
  have HROW := Lib.hid hrow
  have HHAS := Lib.hid hhas
  clear hown hg hrow hhas
  go_enter Try.func122, Try.ntmps122
  go_wp2
  go_loopw [8] (fun iv wr => ∃ j : Nat, j ≤ T.length ∧ iv = .int .i64 j ∧ (T.take j).all (fun q => !(lastN q == n)) = true ∧ Below w.heap.size w wr) (fun i _ => T.length - (intOf i).toNat)
  case atStart => exact ⟨0, by omega, rfl, rfl, Below.refl _ _⟩
  case round =>
    obtain ⟨j, hj, rfl, hno, hbel⟩ := hrel
    by_cases hlt : j < T.length
    · have iqk : (j : Int) < (T.length : Int) := by omega
      have ow := OWN.out.below hbel
      obtain ⟨b, rfl, hb, hc⟩ := ow.at_ hlt
      have hrd := ow.2 j hlt
      unfold OwI at hrd
      rw [cs_len] at hrd
      obtain ⟨r1, r40⟩ := HROW.out j hlt
      have hno2 : (T.take (j + 1)).all (fun q => !(lastN q == n)) = !(lastN (T.getD j []) == n) := by
        rw [List.take_succ_eq_append_getElem hlt, List.all_append, hno]
        simp [hlt]
      have HB := treeEnd_any g (f j).1 (f j).2 (T.getD j []) n wr r1 r40 ((hbel.cell (p := ⟨g, 0, none⟩) hgs).trans HG.out) (Rd.of_own hrd)
      obtain ⟨p, hp⟩ : ∃ p, T.getD j [] = p := ⟨_, rfl⟩
      have HP := Lib.hid hp
      rw [hp] at HB hno2 hc r1 r40
      obtain ⟨F, hF⟩ : ∃ F, f j = F := ⟨_, rfl⟩
      rw [hF] at HB hc
      have heq : (((lastN p : Nat) : Int) == (n : Int)) = (lastN p == n) := by
        rw [Bool.eq_iff_iff, beq_iff_eq, beq_iff_eq]
        omega
      rw [heq] at HB
      obtain ⟨t, ht⟩ : ∃ t, (lastN p == n) = t := ⟨_, rfl⟩
      rw [ht] at HB hno2
      have HB := Lib.hid HB
      have NO2 := Lib.hid hno2
      have HT := Lib.hid ht
      have BEL := Lib.hid hbel
      have hsz := hbel.size
      clear hno hno2 hp hF ht hbel heq hrd ow
      go_wp2_with fail
      refine HB.out.mono ?_
      rintro e w5 ⟨rfl, hb5⟩
      have BEL5 := Lib.hid (BEL.out.trans (hb5.mono hsz))
      clear hb5
      cases t with
      | true =>
        go_wp2
        go_ret
        refine ⟨⟨j, hlt, rfl, ?_⟩, BEL5.out⟩
        rw [HP.out]
        exact beq_iff_eq.1 HT.out
      | false =>
        go_wp2
        go_roundw
        case rel => exact ⟨j + 1, by omega, by go_num, NO2.out, BEL5.out⟩
        case measure => simp [intOf]; omega
    · have hj' : j = T.length := by omega
      subst hj'
      rw [List.take_length, HHAS.out] at hno
      cases hno

set_option maxRecDepth 100000 in
set_option maxHeartbeats 4000000 in
theorem implTree2_some (n : Nat) (w : World) (h1 : 1 ≤ n) (hn : n ≤ 400) : Calls Try.prog 66 #[.int .i64 (n : Int)] w fun e w' =>
    ∃ A' c', e = .returned (.tuple #[.slice A' (twN n).length c', .bool true]) ∧ OwI w' w.heap.size (.slice A' (twN n).length c') (cs (twN n)) ∧ Below w.heap.size w w' := by
  obtain ⟨hl, hrows⟩ := tree_facts (T := treeT) (List.prefix_refl _)
  have hhas := tree_has h1 hn
  have hTR := fun (i : Nat) (hi : i < treeT.length) => tree_row hi
  have hW := fun W => treeWays_any W
  obtain ⟨T, hT⟩ : ∃ T, treeT = T := ⟨_, rfl⟩
  rw [hT] at hl hrows hhas hTR
  have hW : ∀ W, Calls Try.prog 116 #[] W fun e w' => ∃ A c f, e = .returned (.slice A T.length c) ∧ OwN w' W.heap.size A c f T ∧ Below W.heap.size W w' := by
    intro W
    rw [← hT]
    exact hW W
  have HW := Lib.hid hW
  have HTR := Lib.hid hTR
  have HROW := Lib.hid (fun i hi => (⟨(hrows i hi).1, (hrows i hi).2.1⟩ : 1 ≤ (T.getD i []).length ∧ (T.getD i []).length ≤ 40))
  have HHAS := Lib.hid hhas
  have i1 : ¬ (n : Int) < 1 := by omega
  have i2 : ¬ (400 : Int) < (n : Int) := by omega
  clear hW hTR hrows hhas hT
  go_enter Try.func66, Try.ntmps66
  go_wp2_with fail
  go_at_call 116
  generalize hw1 : World.alloc w _ = w1
  have x0 : w1.cell? ⟨w.heap.size, 0, none⟩ = some (.int .i64 (n : Int)) := by rw [← hw1, World.cell?_alloc_at _ _ _ _ rfl]; rfl
  have xs : w1.heap.size = w.heap.size + 1 := by rw [← hw1]; simp
  have xb : Below w.heap.size w w1 := by rw [← hw1]; exact (Below.refl _ _).alloc (Nat.le_refl _) _
  clear hw1
  have HB1 := Lib.hid xb
  clear xb
  refine (HW.out w1).mono ?_
  rintro e w2 ⟨A, c, f, rfl, hown, hb2⟩
  have OWN := Lib.hid hown
  have x0 := (hb2.cell (p := ⟨w.heap.size, 0, none⟩) (by simp only []; omega)).trans x0
  have HB2 := Lib.hid (HB1.out.trans (hb2.mono (by omega)))
  have hs2 := hb2.size
  clear hown hb2
  go_wp2_with fail
  go_at_call 122
  refine (treeIdx_any w1.heap.size w.heap.size A c f T n w2 hl HROW.out HHAS.out (by omega) x0 OWN.out).mono ?_
  rintro e w3 ⟨⟨i, hi, rfl, hla⟩, hb3⟩
  have ow := OWN.out.below hb3
  obtain ⟨b, rfl, hb, hc⟩ := ow.at_ hi
  have hrow := ow.2 i hi
  obtain ⟨htw, _⟩ := HTR.out i hi
  rw [hla] at htw
  rw [htw] at hc hrow
  have HR := Lib.hid hrow
  have HB3 := Lib.hid (HB2.out.trans (hb3.mono (by omega)))
  have ii : (i : Int) < (T.length : Int) := by omega
  obtain ⟨F, hF⟩ : ∃ F, f i = F := ⟨_, rfl⟩
  rw [hF] at hc HR
  clear hb3 ow hrow hla htw hF x0
  go_wp2
  go_ret2
  exact ⟨F.1, F.2, rfl, own_base HR.out (by omega), HB3.out⟩

set_option maxRecDepth 100000 in
set_option maxHeartbeats 1000000 in
theorem implTree2_any (x : Int) (w : World) : Calls Try.prog 66 #[.int .i64 x] w fun e w' =>
    ∃ A' c', e = .returned (.tuple #[.slice A' (trR x).length c', .bool (trB x)]) ∧ OwI w' w.heap.size (.slice A' (trR x).length c') (trR x) ∧ Below w.heap.size w w' := by
  cases hg : trB x with
  | false =>
    have E := Lib.hid (trR_false hg)
    have hb : x < 1 ∨ 400 < x := by
      by_cases h1 : x < 1
      · exact .inl h1
      · refine .inr ?_
        by_cases h2 : 400 < x
        · exact h2
        · have : trB x = true := by unfold trB inB; simp; omega
          rw [this] at hg
          cases hg
    clear hg
    by_cases h1 : x < 1
    · go_enter Try.func66, Try.ntmps66
      go_wp2
      go_ret2
      exact ⟨none, 0, by rw [E.out]; rfl, by rw [E.out]; exact OwI.nil _ _, (Below.refl _ _).alloc (Nat.le_refl _) _⟩
    · have h2 : 400 < x := by omega
      clear hb
      go_enter Try.func66, Try.ntmps66
      go_wp2
      go_ret2
      exact ⟨none, 0, by rw [E.out]; rfl, by rw [E.out]; exact OwI.nil _ _, (Below.refl _ _).alloc (Nat.le_refl _) _⟩
  | true =>
    have ⟨h1, h2⟩ := trB_rng hg
    obtain ⟨n, rfl⟩ : ∃ n : Nat, x = n := ⟨x.toNat, by omega⟩
    have E := trR_true hg
    refine (implTree2_some n w (by omega) (by omega)).mono ?_
    rintro e w' ⟨A2, c2, rfl, ho, hb⟩
    exact ⟨A2, c2, by rw [E, cs_len], by rw [E, cs_len]; exact ho, hb⟩
end Go.Proofs.Ytbbjgcagkmlngab
