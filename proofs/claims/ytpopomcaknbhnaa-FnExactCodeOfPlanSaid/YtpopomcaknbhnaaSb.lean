/- The exponents of a plan in the model. -/
import Derived.Test.YtpopomcaknbhnaaBase2
import Derived.Test.YtpopomcaknbhnaaSa
namespace Go.Proofs.Ytpopomcaknbhnaa
open Go.RowKit

def units (n : Nat) : List (List Int) := (List.range n).map fun i => (List.replicate n (0 : Int)).set i 1
def expStep (out : List (List Int)) (s : Int × Int) : List (List Int) := out ++ [sumL (out.getD s.1.toNat []) (out.getD s.2.toNat [])]
def exps (n : Nat) (s : List (Int × Int)) : List (List Int) := s.foldl expStep (units n)
/-- Each step has two values that stand before it, in order. -/
def OkS (n : Nat) (s : List (Int × Int)) : Prop := ∀ i (h : i < s.length), 0 ≤ (s[i]).1 ∧ (s[i]).1 ≤ (s[i]).2 ∧ (s[i]).2 < n + i
def OkR (n : Nat) (rows : List (List Int)) : Prop := ∀ r ∈ rows, r.length = n ∧ ∀ x ∈ r, 0 ≤ x ∧ x ≤ 1000001

theorem units_length (n : Nat) : (units n).length = n := by simp [units]
theorem exps_take (n : Nat) {s : List (Int × Int)} {k : Nat} (hk : k < s.length) : exps n (s.take (k + 1)) = expStep (exps n (s.take k)) s[k] := by
  unfold exps
  rw [List.take_succ_eq_append_getElem hk, List.foldl_append]
  rfl
theorem foldl_expStep_length (s : List (Int × Int)) : ∀ (out : List (List Int)), (s.foldl expStep out).length = out.length + s.length := by
  induction s with
  | nil => intro out; rfl
  | cons p s ih => intro out; rw [List.foldl_cons, ih]; simp [expStep]; omega
theorem exps_length (n : Nat) (s : List (Int × Int)) : (exps n s).length = n + s.length := by
  unfold exps
  rw [foldl_expStep_length, units_length]
theorem units_ok (n : Nat) : OkR n (units n) := by
  intro r hr
  simp only [units, List.mem_map, List.mem_range] at hr
  obtain ⟨i, hi, rfl⟩ := hr
  refine ⟨by simp, fun x hx => ?_⟩
  rcases List.mem_or_eq_of_mem_set hx with h | h
  · have := List.eq_of_mem_replicate h; omega
  · omega
theorem leastI_le (a b : Int) (h0 : 0 ≤ a) (hb : 0 ≤ b) : 0 ≤ leastI a b ∧ leastI a b ≤ b := by
  unfold leastI; split <;> omega
theorem sumL_ok {n : Nat} {a b : List Int} (ha : a.length = n ∧ ∀ x ∈ a, 0 ≤ x ∧ x ≤ 1000001) (hb : b.length = n ∧ ∀ x ∈ b, 0 ≤ x ∧ x ≤ 1000001) :
    (sumL a b).length = n ∧ ∀ x ∈ sumL a b, 0 ≤ x ∧ x ≤ 1000001 := by
  refine ⟨by rw [sumL_length a b (by omega)]; exact ha.1, fun x hx => ?_⟩
  unfold sumL at hx
  rw [List.mem_iff_getElem] at hx
  obtain ⟨i, hi, rfl⟩ := hx
  simp only [List.length_zipWith] at hi
  rw [List.getElem_zipWith]
  have h1 := ha.2 _ (List.getElem_mem (show i < a.length by omega))
  have h2 := hb.2 _ (List.getElem_mem (show i < b.length by omega))
  exact leastI_le _ _ (by omega) (by omega)
theorem okS_take {n : Nat} {s : List (Int × Int)} (h : OkS n s) (k : Nat) : OkS n (s.take k) := by
  intro i hi
  have hi' : i < s.length := by simp at hi; omega
  rw [List.getElem_take]
  exact h i hi'
theorem getD_ok {n : Nat} {rows : List (List Int)} (h : OkR n rows) {j : Nat} (hj : j < rows.length) : (rows.getD j []).length = n ∧ ∀ x ∈ rows.getD j [], 0 ≤ x ∧ x ≤ 1000001 := by
  have e : rows.getD j [] = rows[j] := by simp [hj]
  rw [e]
  exact h _ (List.getElem_mem hj)
theorem exps_ok {n : Nat} {s : List (Int × Int)} (h : OkS n s) : ∀ k, k ≤ s.length → OkR n (exps n (s.take k)) := by
  intro k
  induction k with
  | zero => intro _; simp only [List.take_zero]; exact units_ok n
  | succ k ih =>
    intro hk
    have hk' : k < s.length := by omega
    have ih := ih (by omega)
    obtain ⟨h1, h2, h3⟩ := h k hk'
    rw [exps_take n hk']
    have hl := exps_length n (s.take k)
    rw [List.length_take, Nat.min_eq_left (by omega)] at hl
    intro r hr
    simp only [expStep, List.mem_append, List.mem_singleton] at hr
    rcases hr with hr | rfl
    · exact ih r hr
    · exact sumL_ok (getD_ok ih (by omega)) (getD_ok ih (by omega))

theorem made_own {w : World} {B : Nat} (n k : Nat) (hn : n ≤ 1000) (hB : B ≤ w.heap.size) :
    OwI (w.alloc (.cells ((madeCells #[Value.int .i64 0] n).setIfInBounds k (.int .i64 1)) 3)) B (.slice (some ⟨w.heap.size, 0, none⟩) n n) ((List.replicate n (0 : Int)).set k 1) := by
  have h := World.ownsRow_lit (base := B) (e := 3) (size := 1) w ((madeCells #[Value.int .i64 0] n).setIfInBounds k (.int .i64 1)) n hB (by unfold maxLen; omega) (by simp [size_madeCells])
  unfold OwI
  simp only [List.length_set, List.length_replicate]
  rw [Array.toList_setIfInBounds, toList_madeCells_one] at h
  rw [List.map_set, List.map_replicate]
  exact h

set_option maxRecDepth 100000 in
set_option maxHeartbeats 2000000 in
theorem plExponents_any (B N : Nat) (A1 A2 : Option Addr) (c1 c2 : Nat) (p : Pl) (w : World) (hpn : p.n = N) (h1 : 1 ≤ N) (h6 : N ≤ 6) (hs40 : p.s.length ≤ 1000) (hB : B ≤ w.heap.size) (hok : OkS N p.s)
    (hr : RdP w B A1 A2 p) :
    Calls Try.prog 131 #[.agg #[.int .i64 p.n, .slice A1 p.s.length c1, .slice A2 p.o.length c2]] w fun e w' =>
      ∃ A c, e = .returned (.slice A (exps N p.s).length c) ∧ OwR w' w.heap.size (.slice A (exps N p.s).length c) (exps N p.s) ∧ Below w.heap.size w w' := by
  have H := Lib.hid hr
  have HO := Lib.hid hok
  clear hr hok
  rw [hpn]
  have HN := Lib.hid hpn
  clear hpn
  go_enter Try.func131, Try.ntmps131
  go_wp2
  generalize hw1 : World.alloc w _ = w1
  obtain ⟨x0, x1, x2, xs, xb⟩ := box3 hw1
  clear hw1
  have X := Lib.hid xs
  have XB := Lib.hid xb
  clear xs xb
  go_loopw [3, 4] (fun o i wr => ∃ (k : Nat) (A : Option Addr) (c : Nat), k ≤ N ∧ i = .int .i64 k ∧ o = .slice A k c ∧ OwR wr (w.heap.size + 1) o ((units N).take k) ∧ Below (w.heap.size + 1) w1 wr) (fun _ i _ => N - (intOf i).toNat)
  case atStart => exact ⟨0, none, 0, by omega, rfl, rfl, OwR.nil _ _, Below.refl _ _⟩
  case round =>
    obtain ⟨k, A, c, hk, rfl, rfl, hown, hbel⟩ := hrel
    have hsz : w.heap.size + 1 ≤ wr.heap.size := by have := X.out; have := hbel.size; omega
    have y0 := (hbel.cell (p := ⟨w.heap.size, 0, none⟩) (by simp)).trans x0
    have y1 := (hbel.cell (p := ⟨w.heap.size, 1, none⟩) (by simp)).trans x1
    by_cases hlt : k < N
    · have hmk := run_make_row' (P := Try.prog) 36 3 (.int .i64 0) 8 Try.underlying36 info_int rfl .i64 .i64 N (by omega) (by omega)
      obtain ⟨vs, hv1, hv2, hv3⟩ := hown
      have hlen : ((units N).take k).length = k := by simp [units_length]; omega
      rw [hlen] at hv1 hv2
      have V1 := Lib.hid hv1
      have V2 := Lib.hid hv2
      have V3 := Lib.hid hv3
      have HL := Lib.hid hlen
      have HB := Lib.hid hbel
      have hcm := made_at (.int .i64 0) N k hlt
      clear hv1 hv2 hv3 hlen hbel
      go_wp2_with (first
        | (at_builtin; refine list_step (fun K hK => ?_); refine step_app1 Try.underlying74 info_ints rfl (by omega) rfl (.tmp 20) (.tmp 22) rfl (w.heap.size + 1) k _ vs rfl ((V1.out.alloc _).alloc _) (wr.heap.size + 1) 1 (.slice (some ⟨wr.heap.size, 0, none⟩) N N) rfl ?c1 rfl (by omega) ?c2 ?_; rotate_right; intro A2 c2' w2 hown2 hg2 hbel2; go_simp; refine hK _ _ ?_; clear hK K))
      case c1 => simp
      case c2 => simp; omega
      go_roundw
      case rel =>
        refine ⟨k + 1, A2, c2', by omega, by go_num, rfl, ?_, ((HB.out.alloc hsz _).alloc (by simp; omega) _).trans hbel2⟩
        have ho : OwI _ _ _ _ := World.ownsRow.alloc (made_own (w := wr) (B := w.heap.size + 1) N k (by omega) hsz) (Obj.cells #[Value.slice (some ⟨wr.heap.size, 0, none⟩) N N] 36)
        have h3' : ∀ i (h : i < ((units N).take k).length), ∃ A c, vs[i]? = some (.slice A (((units N).take k)[i]).length c) ∧ OwI ((wr.alloc (.cells ((madeCells #[Value.int .i64 0] N).setIfInBounds k (.int .i64 1)) 3)).alloc (Obj.cells #[Value.slice (some ⟨wr.heap.size, 0, none⟩) N N] 36)) (w.heap.size + 1) (.slice A (((units N).take k)[i]).length c) ((units N).take k)[i] := fun i h => by
          obtain ⟨A0, c0, e0, ho0⟩ := V3.out i h
          exact ⟨A0, c0, e0, World.ownsRow.alloc (World.ownsRow.alloc ho0 _) _⟩
        have hu : (units N).take (k + 1) = (units N).take k ++ [(List.replicate N (0 : Int)).set k 1] := by
          rw [List.take_succ_eq_append_getElem (by rw [units_length]; exact hlt)]
          simp [units]
        rw [hu]
        have hll : ((List.replicate N (0 : Int)).set k 1).length = N := by simp
        exact OwR.app HL.out hll (World.ownsRow.alloc (World.ownsRow.alloc V1.out _) _) V2.out h3' ho hg2 hown2
      case measure => simp [intOf]; omega
    · have hk' : k = N := by omega
      subst hk'
      clear hlt
      have hfull : (units k).take k = units k := List.take_of_length_le (by rw [units_length]; exact Nat.le_refl _)
      rw [hfull] at hown
      have OWN := Lib.hid hown
      have HB := Lib.hid hbel
      clear hown hbel hfull
      go_wp2
      go_loopw [3, 27] (fun o i wr => ∃ (j : Nat) (A : Option Addr) (c : Nat), j ≤ p.s.length ∧ i = .int .i64 j ∧ o = .slice A (k + j) c ∧ OwR wr (w.heap.size + 1) o (exps k (p.s.take j)) ∧ Below (w.heap.size + 1) w1 wr) (fun _ i _ => p.s.length - (intOf i).toNat)
      case atStart => exact ⟨0, A, c, by omega, rfl, rfl, OWN.out, HB.out⟩
      case round =>
        obtain ⟨j, A0, c0, hj, rfl, rfl, hown, hbel⟩ := hrel
        have hsz : w.heap.size + 1 ≤ wr.heap.size := by have := X.out; have := hbel.size; omega
        clear y0 y1 x0 x1 x2 OWN HB
        by_cases hlt : j < p.s.length
        · obtain ⟨rows, hrows⟩ : ∃ rows, rows = exps k (p.s.take j) := ⟨_, rfl⟩
          have hrl : rows.length = k + j := by rw [hrows, exps_length]; simp; omega
          have hro : OkR k rows := by rw [hrows]; exact exps_ok HO.out j hj
          obtain ⟨o1, o2, o3⟩ := HO.out j hlt
          obtain ⟨a, ha⟩ : ∃ a : Nat, (p.s[j]).1 = a := ⟨(p.s[j]).1.toNat, by omega⟩
          obtain ⟨b, hb⟩ : ∃ b : Nat, (p.s[j]).2 = b := ⟨(p.s[j]).2.toNat, by omega⟩
          obtain ⟨sb, off, rfl, hsb, hc1, hc2⟩ := ((H.out.1.below' XB.out hB).below' hbel (by omega)).stp hlt
          rw [ha] at hc1
          rw [hb] at hc2
          rw [← hrows, ← hrl] at hown
          have hal : a < k + j := by omega
          have hbl : b < k + j := by omega
          have ia : (a : Int) < (k : Int) + (j : Int) := by omega
          have ib : (b : Int) < (k : Int) + (j : Int) := by omega
          have har : a < rows.length := by omega
          have hbr : b < rows.length := by omega
          obtain ⟨g, B1, d1, rfl, hg, hca, hoa⟩ := hown.at_ har
          obtain ⟨g', B2, d2, hg', _, hcb, hob⟩ := hown.at_ hbr
          obtain rfl : g = g' := by injection hg' with hg'; injection hg'
          have OWN := Lib.hid hown
          have OA := Lib.hid hoa
          have OB := Lib.hid hob
          have HB := Lib.hid hbel
          have HR := Lib.hid hrl
          have HRO := Lib.hid hro
          have HRW := Lib.hid hrows
          have HA := Lib.hid ha
          have HB2 := Lib.hid hb
          clear hown hoa hob hbel hrl hro hrows ha hb hg' o1 o2 o3
          go_wp2
          refine wp_region_Tw [0, 1, 2, 3, 4, 5, 6, 7, 8, 9, 10, 14] [3, 5, 8, 10] (.lp 0 (.lp 1 (.lp 2 (.lp 6 (.lp 7 (.ls 3 (.lp 4 (.ls 5 (.ls 8 (.lp 9 (.ls 10 (.hv 11 (.hv 12 (.hv 13 (.lp 14 (.done)))))))))))))))) (by kernel_rfl) (by kernel_rfl) ?_
          (repeat (first | (refine T_lp rfl (fun K hK => ?_); go_simp; refine hK _ ?_; clear hK K) | (refine T_ls rfl rfl (fun K hK => ?_); go_simp; refine hK _ ?_; clear hK K)))
          (refine T_hv rfl (by kernel_rfl) (fun K hK => ?_); go_simp)
          go_at_call 150
          have hW : wr.heap.size ≤ (wr.alloc (Obj.cells #[Value.int .i64 ↑a, Value.int .i64 ↑b] 108)).drew.heap.size := by simp
          refine (plSum_any wr.heap.size _ _ _ _ rows[a] rows[b] _ (by have := (HRO.out _ (List.getElem_mem har)).1; omega) (by rw [(HRO.out _ (List.getElem_mem har)).1, (HRO.out _ (List.getElem_mem hbr)).1]; exact Nat.le_refl _) hW
            (HRO.out _ (List.getElem_mem _)).2 (HRO.out _ (List.getElem_mem _)).2 (OA.out.rd.alloc (Nat.le_refl _) _) (OB.out.rd.alloc (Nat.le_refl _) _)).mono ?_
          rintro e w2 ⟨A3, c3, rfl, hown3, hbel3⟩
          (go_simp; refine hK _ _ ?_; clear hK K)
          (refine T_hv rfl (by kernel_rfl) (fun K hK => ?_); go_simp; refine hK _ _ ?_; clear hK K)
          refine T_hv rfl (by kernel_rfl) (fun K hK => ?_)
          have OW2 := (((OWN.out.alloc (Obj.cells #[Value.int .i64 ↑a, Value.int .i64 ↑b] 108)).drew).below hbel3).alloc (Obj.cells #[Value.slice A3 (rows[a]).length c3] 36)
          obtain ⟨vs, v1, v2, v3⟩ := OW2
          have OR3 : OwI _ (w.heap.size + 1) _ _ := (World.ownsRow.alloc (own_base hown3 (by simp; omega)) (Obj.cells #[Value.slice A3 (rows[a]).length c3] 36))
          have hs2 : wr.heap.size ≤ w2.heap.size := by have := hbel3.size; simp at this; omega
          have v1' := v1
          rw [HR.out] at v1'
          refine step_app1 Try.underlying74 info_ints rfl (by omega) rfl (.tmp 31) (.tmp 43) rfl (w.heap.size + 1) (k + j) _ vs rfl v1' w2.heap.size 1 (.slice A3 (rows[a]).length c3) rfl (by simp) rfl (by omega) (by simp; omega) ?_
          intro A4 c4 w4 hown4 hg4 hbel4
          (go_simp; refine hK _ _ ?_; clear hK K)
          (repeat (first | (refine T_lp rfl (fun K hK => ?_); go_simp; refine hK _ ?_; clear hK K) | (refine T_ls rfl rfl (fun K hK => ?_); go_simp; refine hK _ ?_; clear hK K)))
          refine T_done ?_
          go_wp2
          have hsl : (sumL rows[a] rows[b]).length = (rows[a]).length := sumL_length _ _ (by rw [(HRO.out _ (List.getElem_mem har)).1, (HRO.out _ (List.getElem_mem hbr)).1]; exact Nat.le_refl _)
          go_roundw
          case rel =>
            refine ⟨j + 1, A4, c4, by omega, by go_num, rfl, ?_, ((((HB.out.alloc hsz _).drew).trans (hbel3.mono (by simp; omega))).alloc (by omega) _).trans hbel4⟩
            rw [exps_take k hlt, ← HRW.out]
            have e : expStep rows p.s[j] = rows ++ [sumL rows[a] rows[b]] := by
              unfold expStep
              rw [HA.out, HB2.out]
              simp [har, hbr]
            rw [e]
            exact OwR.app HR.out hsl v1' (by rw [v2, HR.out]) v3 OR3 hg4 hown4
          case measure => simp [intOf]; omega
        · have hj' : j = p.s.length := by omega
          subst hj'
          have hl := exps_length k p.s
          rw [List.take_of_length_le (Nat.le_refl _)] at hown
          rw [← hl] at hown
          go_wp2
          go_ret
          refine ⟨A0, c0, ret_slice hl.symm, hown.base (by omega), XB.out.trans (hbel.mono (by omega))⟩
end Go.Proofs.Ytpopomcaknbhnaa
