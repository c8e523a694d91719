/- Used steps: what they are, and the model's. -/
import Derived.Test.YtbbjgcagkmlngacUs
namespace Go.Proofs.Ytbbjgcagkmlngac
open Go.RowKit

def needI (N : Nat) (s : List (Int × Int)) (o : List Int) : Nat → List Int
  | 0 => o
  | j + 1 => if hasI (needI N s o j) ((N : Int) + ((s.length - 1 - j : Nat) : Int)) then needI N s o j ++ [(s.getD (s.length - 1 - j) (0, 0)).1, (s.getD (s.length - 1 - j) (0, 0)).2] else needI N s o j
def finI (N : Nat) (s : List (Int × Int)) (o : List Int) (i : Nat) : Bool := hasI (needI N s o s.length) ((N : Int) + (i : Int))
def usT (N : Nat) (s : List (Int × Int)) (o : List Int) (j : Nat) : List Int := ((List.range' (s.length - j) j).filter (finI N s o)).map fun i : Nat => (i : Int)
def usd (N : Nat) (s : List (Int × Int)) (o : List Int) : List Int := usT N s o s.length

theorem hasI_two (l : List Int) (a b x : Int) : hasI (l ++ [a, b]) x = (hasI l x || (x == a || x == b)) := by
  unfold hasI
  rw [Bool.eq_iff_iff]
  simp
theorem need_hit {N : Nat} {s : List (Int × Int)} {o : List Int} {j i : Nat} (hi : i < s.length) (hij : s.length - 1 - j = i) (h : hasI (needI N s o j) ((N : Int) + (i : Int)) = true) : needI N s o (j + 1) = needI N s o j ++ [(s[i]).1, (s[i]).2] := by
  subst hij
  simp only [needI]
  rw [if_pos h]
  simp [hi]
theorem need_miss {N : Nat} {s : List (Int × Int)} {o : List Int} {j i : Nat} (hij : s.length - 1 - j = i) (h : hasI (needI N s o j) ((N : Int) + (i : Int)) = false) : needI N s o (j + 1) = needI N s o j := by
  subst hij
  simp only [needI]
  rw [if_neg (by rw [h]; decide)]
theorem need_len (N : Nat) (s : List (Int × Int)) (o : List Int) : ∀ j, (needI N s o j).length ≤ o.length + 2 * j := by
  intro j
  induction j with
  | zero => simp [needI]
  | succ j ih =>
    simp only [needI]
    split
    · simp; omega
    · omega
theorem need_stable {N : Nat} {s : List (Int × Int)} {o : List Int} (hs : OkS N s) {j i : Nat} (hj : j < s.length) (hij : s.length - 1 - j = i) : ∀ d, j + d ≤ s.length → hasI (needI N s o (j + d)) ((N : Int) + (i : Int)) = hasI (needI N s o j) ((N : Int) + (i : Int)) := by
  intro d
  induction d with
  | zero => intro _; rfl
  | succ d ih =>
    intro hd
    have ih := ih (by omega)
    have hlt : s.length - 1 - (j + d) < s.length := by omega
    obtain ⟨h1, h2, h3⟩ := hs _ hlt
    show hasI (needI N s o (j + d + 1)) _ = _
    cases hq : hasI (needI N s o (j + d)) ((N : Int) + ((s.length - 1 - (j + d) : Nat) : Int)) with
    | true =>
      rw [need_hit hlt rfl hq, hasI_two, ih]
      have e1 : (((N : Int) + (i : Int)) == (s[s.length - 1 - (j + d)]).1) = false := by rw [beq_eq_false_iff_ne]; omega
      have e2 : (((N : Int) + (i : Int)) == (s[s.length - 1 - (j + d)]).2) = false := by rw [beq_eq_false_iff_ne]; omega
      rw [e1, e2]
      simp
    | false => rw [need_miss rfl hq, ih]
theorem fin_at {N : Nat} {s : List (Int × Int)} {o : List Int} (hs : OkS N s) {j i : Nat} (hj : j < s.length) (hij : s.length - 1 - j = i) : finI N s o i = hasI (needI N s o j) ((N : Int) + (i : Int)) := by
  have h := need_stable (o := o) hs hj hij (s.length - j) (by omega)
  rw [show j + (s.length - j) = s.length by omega] at h
  exact h
theorem us_hit {N : Nat} {s : List (Int × Int)} {o : List Int} {j i : Nat} (hj : j < s.length) (hij : s.length - 1 - j = i) (h : finI N s o i = true) : usT N s o (j + 1) = (i : Int) :: usT N s o j := by
  unfold usT
  rw [show s.length - (j + 1) = i by omega, List.range'_succ, show i + 1 = s.length - j by omega, List.filter_cons_of_pos h]
  rfl
theorem us_miss {N : Nat} {s : List (Int × Int)} {o : List Int} {j i : Nat} (hj : j < s.length) (hij : s.length - 1 - j = i) (h : finI N s o i = false) : usT N s o (j + 1) = usT N s o j := by
  unfold usT
  rw [show s.length - (j + 1) = i by omega, List.range'_succ, show i + 1 = s.length - j by omega, List.filter_cons_of_neg (by rw [h]; decide)]
theorem us_gt {N : Nat} {s : List (Int × Int)} {o : List Int} {j i : Nat} (hj : j < s.length) (hij : s.length - 1 - j = i) : ∀ x ∈ usT N s o j, (i : Int) < x := by
  intro x hx
  unfold usT at hx
  simp only [List.mem_map, List.mem_filter, List.mem_range'_1] at hx
  obtain ⟨y, ⟨hy, _⟩, rfl⟩ := hx
  omega
theorem us_len (N : Nat) (s : List (Int × Int)) (o : List Int) (j : Nat) : (usT N s o j).length ≤ j := by
  unfold usT
  rw [List.length_map]
  exact Nat.le_trans (List.length_filter_le _ _) (by simp)
theorem own_cap {w : World} {B e sz n c : Nat} {A : Option Addr} {xs : List Value} (h : w.ownsRow B e sz (.slice A n c) n xs) : n ≤ c := by
  obtain ⟨A0, c0, e0, h0⟩ := own_form h
  injection e0 with _ _ e1
  omega
theorem rd_two {w : World} {g : Nat} {a b : Int} (h0 : w.cell? ⟨g, 0, none⟩ = some (I a)) (h1 : w.cell? ⟨g, 1, none⟩ = some (I b)) : Rd w (g + 1) 1 (some ⟨g, 0, none⟩) 2 ([a, b].map I) :=
  ⟨rfl, fun _ => ⟨g, 0, rfl, by omega, fun j hj => by
    have hj2 : j = 0 ∨ j = 1 := by omega
    rcases hj2 with rfl | rfl
    · exact h0
    · exact h1⟩⟩

set_option maxRecDepth 100000 in
set_option maxHeartbeats 2000000 in
theorem plUsed_any (B N : Nat) (A1 A2 : Option Addr) (c1 c2 : Nat) (p : Pl) (w : World) (hpn : p.n = N) (h6 : N ≤ 6) (hs40 : p.s.length ≤ 1000) (ho6 : p.o.length ≤ 1000) (hB : B ≤ w.heap.size) (hok : OkS N p.s) (hr : RdP w B A1 A2 p) :
    Calls Try.prog 74 #[.agg #[.int .i64 p.n, .slice A1 p.s.length c1, .slice A2 p.o.length c2]] w fun e w' =>
      ∃ A c, e = .returned (.slice A (usd N p.s p.o).length c) ∧ OwI w' w.heap.size (.slice A (usd N p.s p.o).length c) (usd N p.s p.o) ∧ Below w.heap.size w w' := by
  have H := Lib.hid hr
  have HO := Lib.hid hok
  clear hr hok
  rw [hpn]
  clear hpn
  go_enter Try.func74, Try.ntmps74
  go_wp2_with fail
  go_at_call 61
  generalize hw1 : World.alloc w _ = w1
  obtain ⟨x0, x1, x2, xs, xb⟩ := box3 hw1
  clear hw1
  refine (l1Own_any B A2 c2 p.o w1 (by omega) (by omega) (H.out.below' xb hB).2).mono ?_
  rintro e w2 ⟨A3, c3, rfl, hown2, hb2⟩
  rw [xs] at hown2 hb2
  have y0 := (hb2.cell (p := ⟨w.heap.size, 0, none⟩) (by simp)).trans x0
  have y1 := (hb2.cell (p := ⟨w.heap.size, 1, none⟩) (by simp)).trans x1
  have hs2 : w.heap.size + 1 ≤ w2.heap.size := by have := hb2.size; omega
  have HB2 := Lib.hid (xb.trans (hb2.mono (show w.heap.size ≤ w.heap.size + 1 by omega)))
  have HOWN := Lib.hid hown2
  clear x0 x1 x2 xs xb hb2 hown2
  go_wp2
  go_loopw [3, 4, 5] (fun nd ou iv wr => ∃ (j : Nat) (x : Int) (A : Option Addr) (c : Nat) (A' : Option Addr) (c' : Nat), j ≤ p.s.length ∧ iv = .int .i64 x ∧ x = (p.s.length : Int) - 1 - j ∧ nd = .slice A (needI N p.s p.o j).length c ∧ OwI wr (w.heap.size + 1) nd (needI N p.s p.o j) ∧
    ou = .slice A' (usT N p.s p.o j).length c' ∧ OwI wr (w.heap.size + 1) ou (usT N p.s p.o j) ∧ (ou.ownBlock = none ∨ ou.ownBlock ≠ nd.ownBlock) ∧ Below (w.heap.size + 1) w2 wr) (fun _ _ i _ => (intOf i + 1).toNat)
  case atStart => exact ⟨0, _, A3, c3, none, 0, by omega, rfl, by simp, rfl, HOWN.out, by simp [usT], by simpa [usT] using OwI.nil w2 (w.heap.size + 1), .inl rfl, Below.refl _ _⟩
  case round =>
    obtain ⟨j, x, A, c, A', c', hj, rfl, hx, rfl, hnd, rfl, hou, hap, hbel⟩ := hrel
    have hsz : w.heap.size + 1 ≤ wr.heap.size := by have := hbel.size; omega
    have z0 := (hbel.cell (p := ⟨w.heap.size, 0, none⟩) (by simp)).trans y0
    have z1 := (hbel.cell (p := ⟨w.heap.size, 1, none⟩) (by simp)).trans y1
    have hnl := need_len N p.s p.o j
    have hul := us_len N p.s p.o j
    by_cases hlt : j < p.s.length
    · obtain ⟨i, hi⟩ : ∃ i : Nat, p.s.length - 1 - j = i := ⟨_, rfl⟩
      have hxi : x = (i : Int) := by omega
      subst hxi
      have hil : i < p.s.length := by omega
      have iil : (i : Int) < (p.s.length : Int) := by omega
      have HI := Lib.hid hi
      have HND := Lib.hid hnd
      have HOU := Lib.hid hou
      have HAP := Lib.hid hap
      have HBL := Lib.hid hbel
      clear hi hnd hou hap hbel hx
      cases hq : hasI (needI N p.s p.o j) ((N : Int) + (i : Int)) with
      | false =>
        have hf := fin_at (o := p.o) HO.out hlt HI.out
        rw [hq] at hf
        have HQ := Lib.hid hq
        go_wp2_with fail
        go_at_call 64
        have hE := l1Has_any wr.heap.size A c (needI N p.s p.o j) ((N : Int) + (i : Int)) wr (by omega) HND.out.rd
        rw [hq] at hE
        refine hE.mono ?_
        rintro e w' ⟨rfl, rfl⟩
        clear hE hq
        go_wp2
        go_roundw
        case rel =>
          refine ⟨j + 1, _, A, c, A', c', by omega, rfl, by have := HI.out; omega, by rw [need_miss HI.out HQ.out], ?_, by rw [us_miss hlt HI.out hf], ?_, HAP.out, HBL.out⟩
          · rw [need_miss HI.out HQ.out]; exact HND.out
          · rw [us_miss hlt HI.out hf]; exact HOU.out
        case measure => simp [intOf]
      | true =>
        have hf := fin_at (o := p.o) HO.out hlt HI.out
        rw [hq] at hf
        have HQ := Lib.hid hq
        obtain ⟨sb, off, rfl, hsb, hc1, hc2⟩ := ((H.out.1.below' HB2.out hB).below' HBL.out (by omega)).stp hil
        go_wp2_with fail
        go_at_call 64
        have hE := l1Has_any wr.heap.size A c (needI N p.s p.o j) ((N : Int) + (i : Int)) wr (by omega) HND.out.rd
        rw [hq] at hE
        refine hE.mono ?_
        rintro e w' ⟨rfl, rfl⟩
        clear hE hq
        go_wp2
        refine wp_region_Tw [0, 1, 2, 3, 4, 5, 6, 7, 8, 9, 10, 11, 12, 15] [2, 6, 8, 12] (.lp 0 (.lp 1 (.lp 3 (.lp 7 (.lp 9 (.ls 2 (.lp 4 (.lp 5 (.ls 6 (.ls 8 (.lp 10 (.lp 11 (.ls 12 (.hv 13 (.hv 14 (.lp 15 (.done))))))))))))))))) (by kernel_rfl) (by kernel_rfl) ?_
        (repeat (first | (refine T_lp rfl (fun K hK => ?_); go_simp; refine hK _ ?_; clear hK K) | (refine T_ls rfl rfl (fun K hK => ?_); go_simp; refine hK _ ?_; clear hK K)))
        (refine T_hv rfl (by kernel_rfl) (fun K hK => ?_); go_simp; refine hK _ _ ?_; clear hK K)
        refine T_hv rfl (by kernel_rfl) (fun K hK => ?_)
        refine step_appM Try.underlying22 info_int rfl (by omega) (by omega) rfl (.tmp 23) (.tmp 36) rfl (w.heap.size + 1) (needI N p.s p.o j).length _ ((needI N p.s p.o j).map I) rfl (OwI.alloc (HND.out.drew) _) (some ⟨wr.heap.size, 0, none⟩) 2 2 ([(p.s[i]).1, (p.s[i]).2].map I) rfl (rd_two (by simp) (by simp)) (ints_one _) (by omega) (by simp; omega) ?_
        intro A4 c4 w4 hown4 hg4 hbel4
        (go_simp; refine hK _ _ ?_; clear hK K)
        (repeat (first | (refine T_lp rfl (fun K hK => ?_); go_simp; refine hK _ ?_; clear hK K) | (refine T_ls rfl rfl (fun K hK => ?_); go_simp; refine hK _ ?_; clear hK K)))
        refine T_done ?_
        have hou4 : OwI w4 (w.heap.size + 1) _ _ := World.ownsRow.kept (OwI.alloc (HOU.out.drew) _) hg4 HAP.out
        have hnd4 : OwI w4 (w.heap.size + 1) (.slice A4 ((needI N p.s p.o j).length + 2) c4) (needI N p.s p.o j ++ [(p.s[i]).1, (p.s[i]).2]) := by
          show w4.ownsRow _ _ _ _ _ _
          rw [List.map_append, show (needI N p.s p.o j ++ [(p.s[i]).1, (p.s[i]).2]).length = (needI N p.s p.o j).length + 2 by simp]
          exact hown4
        have hb4 : Below (w.heap.size + 1) w2 w4 := (((HBL.out.drew).alloc hsz _)).trans hbel4
        have HOU4 := Lib.hid hou4
        have HND4 := Lib.hid hnd4
        have HB4 := Lib.hid hb4
        have hcap := own_cap hou4
        clear hou4 hnd4 hb4 hown4 hg4 hbel4
        go_wp2_with fail
        go_at_call 65
        have hs4 : w.heap.size + 1 ≤ w4.heap.size := by have := HB4.out.size; omega
        refine (l1Put_any w4.heap.size A' c' (usT N p.s p.o j) i w4 (by omega) (Nat.le_refl _) (us_gt hlt HI.out) hcap HOU4.out.rd).mono ?_
        rintro e w5 ⟨A5, c5, rfl, hou5, hb5⟩
        go_wp2
        go_roundw
        case rel =>
          refine ⟨j + 1, _, A4, c4, A5, c5, by omega, rfl, by have := HI.out; omega, by rw [need_hit hil HI.out HQ.out]; simp, ?_, by rw [us_hit hlt HI.out hf]; simp, ?_, ?_, HB4.out.trans (hb5.mono hs4)⟩
          · rw [need_hit hil HI.out HQ.out]; exact HND4.out.below hb5
          · rw [us_hit hlt HI.out hf]; exact hou5.base hs4
          · right
            intro he
            have h1 := own_block hou5
            have h2 := own_block HND4.out
            obtain ⟨g, hg⟩ : ∃ g, (Value.slice A5 ((usT N p.s p.o j).length + 1) c5).ownBlock = some g := by
              obtain ⟨g, rfl, _⟩ := own_at hou5 (by simp)
              exact ⟨g, rfl⟩
            have := h1 g hg
            have := h2 g (by rw [← he]; exact hg)
            omega
        case measure => simp [intOf]
    · have hj' : j = p.s.length := by omega
      subst hj'
      have hx1 : x = -1 := by omega
      subst hx1
      have HB3 := Lib.hid (HB2.out.trans (hbel.mono (show w.heap.size ≤ w.heap.size + 1 by omega)))
      have HOU := Lib.hid hou
      clear hbel hou hnd hap
      go_wp2
      go_ret
      exact ⟨A', c', rfl, HOU.out.base (by omega), HB3.out⟩
end Go.Proofs.Ytbbjgcagkmlngac
