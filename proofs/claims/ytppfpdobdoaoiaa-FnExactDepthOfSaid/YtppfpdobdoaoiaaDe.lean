/- Depths of values, of the model and of the program. -/
import Derived.Test.YtppfpdobdoaoiaaFa
namespace Go.Proofs.Ytppfpdobdoaoiaa
open Go.RowKit

def depStep (d : List Int) (st : Int × Int) : List Int := d ++ [1 + mostI (d.getD st.1.toNat 0) (d.getD st.2.toNat 0)]
def deps (n : Nat) (s : List (Int × Int)) : List Int := s.foldl depStep (List.replicate n 0)
def outD (d : List Int) (o : List Int) (k : Nat) : Int := (o.take k).foldl (fun m v => mostI m (d.getD v.toNat 0)) 0
def dep (p : Pl) : Int := if good p then outD (deps p.n.toNat p.s) p.o p.o.length else 0
theorem deps_take (n : Nat) {s : List (Int × Int)} {k : Nat} (hk : k < s.length) : deps n (s.take (k + 1)) = depStep (deps n (s.take k)) s[k] := by
  unfold deps
  rw [List.take_succ_eq_append_getElem hk, List.foldl_append]
  rfl
theorem deps_length (n : Nat) (s : List (Int × Int)) : (deps n s).length = n + s.length := by
  have h : ∀ (s : List (Int × Int)) (d : List Int), (s.foldl depStep d).length = d.length + s.length := by
    intro s
    induction s with
    | nil => intro d; rfl
    | cons a s ih => intro d; rw [List.foldl_cons, ih]; simp [depStep]; omega
  unfold deps
  rw [h]
  simp
theorem getD_bd {d : List Int} {m : Int} (hm : 0 ≤ m) (h : ∀ x ∈ d, 0 ≤ x ∧ x ≤ m) (i : Nat) : 0 ≤ d.getD i 0 ∧ d.getD i 0 ≤ m := by
  by_cases hi : i < d.length
  · have e : d.getD i 0 = d[i] := by simp [hi]
    rw [e]
    exact h _ (List.getElem_mem hi)
  · have e : d.getD i 0 = 0 := by simp [show d.length ≤ i by omega]
    rw [e]
    omega
theorem deps_bd (n : Nat) (s : List (Int × Int)) : ∀ x ∈ deps n s, 0 ≤ x ∧ x ≤ s.length := by
  have h : ∀ (s : List (Int × Int)) (d : List Int) (m : Int), 0 ≤ m → (∀ x ∈ d, 0 ≤ x ∧ x ≤ m) → ∀ x ∈ s.foldl depStep d, 0 ≤ x ∧ x ≤ m + s.length := by
    intro s
    induction s with
    | nil => intro d m _ hd x hx; simpa using hd x hx
    | cons a s ih =>
      intro d m hm hd x hx
      have h1 := ih (depStep d a) (m + 1) (by omega) (by
        intro y hy
        simp only [depStep, List.mem_append, List.mem_singleton] at hy
        rcases hy with hy | rfl
        · have := hd y hy; omega
        · have e1 := getD_bd hm hd a.1.toNat
          have e2 := getD_bd hm hd a.2.toNat
          unfold mostI
          split <;> omega) x hx
      simp only [List.length_cons]
      omega
  intro x hx
  have := h s (List.replicate n 0) 0 (by omega) (by intro y hy; have := List.eq_of_mem_replicate hy; omega) x hx
  omega
theorem outD_succ (d o : List Int) {k : Nat} (hk : k < o.length) : outD d o (k + 1) = mostI (outD d o k) (d.getD (o[k]).toNat 0) := by
  unfold outD
  rw [List.take_succ_eq_append_getElem hk, List.foldl_append]
  rfl
theorem mostI_max (a b : Int) : (if a < b then b else a) = mostI a b := by
  unfold mostI
  split <;> split <;> omega
theorem zeros_own {w : World} {B : Nat} (n : Nat) (hn : n ≤ 1000) (hB : B ≤ w.heap.size) :
    OwI (w.alloc (.cells (madeCells #[Value.int .i64 0] n) 3)) B (.slice (some ⟨w.heap.size, 0, none⟩) n n) (List.replicate n (0 : Int)) := by
  have h := World.ownsRow_lit (base := B) (e := 3) (size := 1) w (madeCells #[Value.int .i64 0] n) n hB (by unfold maxLen; omega) (by simp [size_madeCells])
  unfold OwI
  simp only [List.length_replicate]
  rw [toList_madeCells_one] at h
  rw [List.map_replicate]
  exact h

set_option maxRecDepth 100000 in
set_option maxHeartbeats 2000000 in
theorem specDepth_any (B : Nat) (A1 A2 : Option Addr) (c1 c2 : Nat) (p : Pl) (w : World) (hB : B ≤ w.heap.size) (hls : p.s.length ≤ 2000000) (hlo : p.o.length ≤ 2000000) (hr : RdP w B A1 A2 p) :
    Calls Try.prog 40 #[.agg #[.int .i64 p.n, .slice A1 p.s.length c1, .slice A2 p.o.length c2]] w fun e w' => e = .returned (.tuple #[.int .i64 (dep p), .bool (good p)]) ∧ Below w.heap.size w w' := by
  have H := Lib.hid hr
  clear hr
  obtain ⟨gd, hgd⟩ : ∃ x, good p = x := ⟨_, rfl⟩
  have HG := Lib.hid hgd
  go_enter Try.func40, Try.ntmps40
  go_wp2_with fail
  go_at_call 59
  generalize hw1 : World.alloc w _ = w1
  obtain ⟨x0, x1, x2, xs, xb⟩ := box3 hw1
  clear hw1
  have hC := plGood_any w.heap.size A1 A2 c1 c2 p w1 (by omega) hls hlo ((H.out.below' xb hB).more hB)
  rw [hgd] at hC
  refine hC.mono ?_
  rintro e w2 ⟨rfl, hb2⟩
  clear hC hgd
  have y0 := (hb2.cell (p := ⟨w.heap.size, 0, none⟩) (by simp only []; omega)).trans x0
  have y1 := (hb2.cell (p := ⟨w.heap.size, 1, none⟩) (by simp only []; omega)).trans x1
  have y2 := (hb2.cell (p := ⟨w.heap.size, 2, none⟩) (by simp only []; omega)).trans x2
  have HB2 := Lib.hid (xb.trans (hb2.mono (show w.heap.size ≤ w1.heap.size by omega)))
  have hs2 : w.heap.size + 1 ≤ w2.heap.size := by have := hb2.size; omega
  clear x0 x1 x2 xs xb hb2
  cases gd with
  | false =>
    have ea : dep p = 0 := by simp [dep, HG.out]
    have EA := Lib.hid ea
    clear ea
    go_wp2
    go_ret2
    exact ⟨by rw [EA.out, HG.out]; rfl, HB2.out⟩
  | true =>
    obtain ⟨N, hN, n1, n6, hs40, ho6, hok, hout, _⟩ := good_facts HG.out
    have ea : dep p = outD (deps N p.s) p.o p.o.length := by simp [dep, HG.out, hN]
    have EA := Lib.hid ea
    have HOK := Lib.hid hok
    have HOUT := Lib.hid hout
    rw [hN] at y0
    have HN := Lib.hid hN
    clear ea hok hout hN
    have hmk := run_make_row' (P := Try.prog) 25 3 (.int .i64 0) 8 Try.underlying25 info_int rfl .i64 .i64 N (by omega) (by omega)
    have k1 := cell_kept y1
    go_wp2
    clear hmk k1
    generalize hw3 : World.alloc w2 _ = w3
    have hmade : OwI w3 (w.heap.size + 1) (.slice (some ⟨w2.heap.size, 0, none⟩) N N) (List.replicate N 0) := by rw [← hw3]; exact zeros_own N (by omega) hs2
    have hb3 : Below (w.heap.size + 1) w2 w3 := by rw [← hw3]; exact (Below.refl _ _).alloc hs2 _
    clear hw3
    have z0 := (hb3.cell (p := ⟨w.heap.size, 0, none⟩) (by simp)).trans y0
    have z1 := (hb3.cell (p := ⟨w.heap.size, 1, none⟩) (by simp)).trans y1
    have z2 := (hb3.cell (p := ⟨w.heap.size, 2, none⟩) (by simp)).trans y2
    have HM := Lib.hid hmade
    have HB3 := Lib.hid (HB2.out.trans (hb3.mono (show w.heap.size ≤ w.heap.size + 1 by omega)))
    have hs3 : w.heap.size + 1 ≤ w3.heap.size := by have := hb3.size; omega
    clear hmade hb3 y0 y1 y2
    go_loopw [4, 19] (fun d i wr => ∃ (k : Nat) (A : Option Addr) (c : Nat), k ≤ p.s.length ∧ i = .int .i64 k ∧ d = .slice A (N + k) c ∧ OwI wr (w.heap.size + 1) d (deps N (p.s.take k)) ∧ Below (w.heap.size + 1) w3 wr) (fun _ i _ => p.s.length - (intOf i).toNat)
    case atStart => exact ⟨0, _, _, by omega, rfl, rfl, HM.out, Below.refl _ _⟩
    case round =>
      obtain ⟨k, A, c, hk, rfl, rfl, hown, hbel⟩ := hrel
      have hsz : w.heap.size + 1 ≤ wr.heap.size := by have := hbel.size; omega
      have hdl : (deps N (p.s.take k)).length = N + k := by rw [deps_length]; simp; omega
      by_cases hlt : k < p.s.length
      · obtain ⟨o1, o2, o3⟩ := HOK.out k hlt
        obtain ⟨a, ha⟩ : ∃ a : Nat, (p.s[k]).1 = a := ⟨(p.s[k]).1.toNat, by omega⟩
        obtain ⟨b, hb⟩ : ∃ b : Nat, (p.s[k]).2 = b := ⟨(p.s[k]).2.toNat, by omega⟩
        obtain ⟨sb, off, rfl, hsb, hc1, hc2⟩ := ((H.out.1.below' HB3.out hB).below' hbel (by omega)).stp hlt
        rw [ha] at hc1
        rw [hb] at hc2
        obtain ⟨D, hD⟩ : ∃ D, D = deps N (p.s.take k) := ⟨_, rfl⟩
        have hbd : ∀ x ∈ D, 0 ≤ x ∧ x ≤ 1000 := by
          rw [hD]
          intro x hx
          have := deps_bd N (p.s.take k) x hx
          simp at this
          omega
        rw [← hD] at hown hdl
        have hal : a < D.length := by omega
        have hbl : b < D.length := by omega
        have ia : (a : Int) < (N : Int) + (k : Int) := by omega
        have ib : (b : Int) < (N : Int) + (k : Int) := by omega
        have qa := hbd _ (List.getElem_mem hal)
        have qb := hbd _ (List.getElem_mem hbl)
        have OWN := Lib.hid hown
        rw [← hdl] at hown
        obtain ⟨g, off2, rfl, hg, hca⟩ := hown.rd.int hal
        obtain ⟨g', off3, hg', _, hcb⟩ := hown.rd.int hbl
        obtain ⟨rfl, rfl⟩ : g = g' ∧ off2 = off3 := by
          injection hg' with hg'
          injection hg' with e1 e2
          exact ⟨e1, e2⟩
        have hmx : 0 ≤ mostI D[a] D[b] ∧ mostI D[a] D[b] ≤ 1000 := by unfold mostI; split <;> omega
        have hsum : IntKind.i64.wrap (1 + mostI D[a] D[b]) = 1 + mostI D[a] D[b] := IntWalk.i64_in _ (by omega)
        have HBL := Lib.hid hbel
        have HD := Lib.hid hD
        have HDL := Lib.hid hdl
        have HA := Lib.hid ha
        have HBB := Lib.hid hb
        clear hown hbel hD hdl ha hb o1 o2 o3 hbd qa qb hmx
        go_wp2
        refine wp_region_Tw [0, 1, 2, 3, 4, 5, 6, 7, 8, 9, 10, 12, 15] [3, 5, 8, 10] (.lp 0 (.lp 1 (.lp 2 (.lp 6 (.lp 7 (.ls 3 (.lp 4 (.ls 5 (.ls 8 (.lp 9 (.ls 10 (.hv 11 (.lp 12 (.hv 13 (.hv 14 (.lp 15 (.done))))))))))))))))) (by kernel_rfl) (by kernel_rfl) ?_
        (repeat (first | (refine T_lp rfl (fun K hK => ?_); go_simp; refine hK _ ?_; clear hK K) | (refine T_ls rfl rfl (fun K hK => ?_); go_simp; refine hK _ ?_; clear hK K)))
        (refine T_hv rfl (by kernel_rfl) (fun K hK => ?_); go_simp)
        go_at_call 54
        refine (l1Most_any _ _ _).mono ?_
        rintro e w' ⟨rfl, rfl⟩
        (go_simp; refine hK _ _ ?_; clear hK K)
        (repeat (first | (refine T_lp rfl (fun K hK => ?_); go_simp; refine hK _ ?_; clear hK K) | (refine T_ls rfl rfl (fun K hK => ?_); go_simp; refine hK _ ?_; clear hK K)))
        (refine T_hv rfl (by kernel_rfl) (fun K hK => ?_); go_simp; refine hK _ _ ?_; clear hK K)
        refine T_hv rfl (by kernel_rfl) (fun K hK => ?_)
        refine step_app_int rfl (.tmp 23) (.tmp 36) rfl (w.heap.size + 1) (N + k) _ D rfl (((OWN.out.alloc _).drew).alloc _) HDL.out _ 1 (1 + mostI D[a] D[b]) rfl (by simp) (by omega) (by simp; omega) ?_
        intro A2 c2 w4 hown4 hg4 hbel4
        (go_simp; refine hK _ _ ?_; clear hK K)
        (repeat (first | (refine T_lp rfl (fun K hK => ?_); go_simp; refine hK _ ?_; clear hK K) | (refine T_ls rfl rfl (fun K hK => ?_); go_simp; refine hK _ ?_; clear hK K)))
        refine T_done ?_
        go_wp2
        go_roundw
        case rel =>
          refine ⟨k + 1, A2, c2, by omega, by go_num, rfl, ?_, (((HBL.out.alloc hsz _).drew).alloc (by simp; omega) _).trans hbel4⟩
          rw [deps_take N hlt, ← HD.out]
          have e : depStep D p.s[k] = D ++ [1 + mostI D[a] D[b]] := by
            unfold depStep
            rw [HA.out, HBB.out]
            simp [hal, hbl]
          rw [e]
          exact hown4
        case measure => simp [intOf]; omega
      · have hk' : k = p.s.length := by omega
        subst hk'
        rw [List.take_of_length_le (Nat.le_refl _)] at hown hdl
        have v2 := (hbel.cell (p := ⟨w.heap.size, 2, none⟩) (by simp)).trans z2
        have HB4 := Lib.hid (HB3.out.trans (hbel.mono (show w.heap.size ≤ w.heap.size + 1 by omega)))
        have OWN := Lib.hid hown
        have HDL := Lib.hid hdl
        clear hown hdl hbel z0 z1 z2
        go_wp2
        go_loopw [7, 42] (fun m i wr2 => ∃ k : Nat, k ≤ p.o.length ∧ i = .int .i64 k ∧ m = .int .i64 (outD (deps N p.s) p.o k) ∧ wr2 = wr) (fun _ i _ => p.o.length - (intOf i).toNat)
        case atStart => exact ⟨0, by omega, rfl, rfl, rfl⟩
        case round =>
          obtain ⟨k, hk, rfl, rfl, rfl⟩ := hrel
          by_cases hlt : k < p.o.length
          · obtain ⟨ob, oo, rfl, hob, hoc⟩ := (H.out.2.below' HB4.out hB).int hlt
            obtain ⟨q1, q2⟩ := HOUT.out _ (List.getElem_mem hlt)
            obtain ⟨v, hv⟩ : ∃ v : Nat, p.o[k] = v := ⟨(p.o[k]).toNat, by omega⟩
            rw [hv] at hoc
            obtain ⟨D, hD⟩ : ∃ D, D = deps N p.s := ⟨_, rfl⟩
            have hdl := HDL.out
            rw [← hD] at hdl
            have hvl : v < D.length := by omega
            have iv : (v : Int) < (N : Int) + (p.s.length : Int) := by omega
            have hown := OWN.out
            rw [← hD, ← hdl] at hown
            obtain ⟨g, off2, rfl, hg, hca⟩ := hown.rd.int hvl
            have hst : outD (deps N p.s) p.o (k + 1) = mostI (outD (deps N p.s) p.o k) D[v] := by
              rw [outD_succ _ _ hlt, hv, ← hD]
              simp [hvl]
            have HST := Lib.hid hst
            clear hown hD hdl q1 q2 hv hst
            go_wp2_with (go_at_call 54; refine (l1Most_any _ _ _).mono ?_; rintro e w' ⟨rfl, rfl⟩)
            go_roundw
            case rel => exact ⟨k + 1, by omega, by go_num, by rw [HST.out], trivial⟩
            case measure => simp [intOf]; omega
          · have hk' : k = p.o.length := by omega
            subst hk'
            go_wp2
            go_ret2
            exact ⟨by rw [EA.out, HG.out]; rfl, HB4.out⟩

set_option maxRecDepth 100000 in
set_option maxHeartbeats 2000000 in
theorem implDepth_any (B : Nat) (A1 A2 : Option Addr) (c1 c2 : Nat) (p : Pl) (w : World) (hB : B ≤ w.heap.size) (hls : p.s.length ≤ 2000000) (hlo : p.o.length ≤ 2000000) (hr : RdP w B A1 A2 p) :
    Calls Try.prog 41 #[.agg #[.int .i64 p.n, .slice A1 p.s.length c1, .slice A2 p.o.length c2]] w fun e w' => e = .returned (.tuple #[.int .i64 (dep p), .bool (good p)]) ∧ Below w.heap.size w w' := by
  have H := Lib.hid hr
  clear hr
  obtain ⟨gd, hgd⟩ : ∃ x, good p = x := ⟨_, rfl⟩
  have HG := Lib.hid hgd
  go_enter Try.func41, Try.ntmps41
  go_wp2_with fail
  go_at_call 24
  generalize hw1 : World.alloc w _ = w1
  obtain ⟨x0, x1, x2, xs, xb⟩ := box3 hw1
  clear hw1
  have hC := implIsPlan_any w.heap.size A1 A2 c1 c2 p w1 (by omega) hls hlo ((H.out.below' xb hB).more hB)
  rw [hgd] at hC
  refine hC.mono ?_
  rintro e w2 ⟨rfl, hb2⟩
  clear hC hgd
  have y0 := (hb2.cell (p := ⟨w.heap.size, 0, none⟩) (by simp only []; omega)).trans x0
  have y1 := (hb2.cell (p := ⟨w.heap.size, 1, none⟩) (by simp only []; omega)).trans x1
  have y2 := (hb2.cell (p := ⟨w.heap.size, 2, none⟩) (by simp only []; omega)).trans x2
  have HB2 := Lib.hid (xb.trans (hb2.mono (show w.heap.size ≤ w1.heap.size by omega)))
  have hs2 : w.heap.size + 1 ≤ w2.heap.size := by have := hb2.size; omega
  clear x0 x1 x2 xs xb hb2
  cases gd with
  | false =>
    have ea : dep p = 0 := by simp [dep, HG.out]
    have EA := Lib.hid ea
    clear ea
    go_wp2
    go_ret2
    exact ⟨by rw [EA.out, HG.out]; rfl, HB2.out⟩
  | true =>
    obtain ⟨N, hN, n1, n6, hs40, ho6, hok, hout, _⟩ := good_facts HG.out
    have ea : dep p = outD (deps N p.s) p.o p.o.length := by simp [dep, HG.out, hN]
    have EA := Lib.hid ea
    have HOK := Lib.hid hok
    have HOUT := Lib.hid hout
    rw [hN] at y0
    have HN := Lib.hid hN
    clear ea hok hout hN
    have hmk := run_make_row' (P := Try.prog) 25 3 (.int .i64 0) 8 Try.underlying25 info_int rfl .i64 .i64 N (by omega) (by omega)
    have k1 := cell_kept y1
    go_wp2
    clear hmk k1
    generalize hw3 : World.alloc w2 _ = w3
    have hmade : OwI w3 (w.heap.size + 1) (.slice (some ⟨w2.heap.size, 0, none⟩) N N) (List.replicate N 0) := by rw [← hw3]; exact zeros_own N (by omega) hs2
    have hb3 : Below (w.heap.size + 1) w2 w3 := by rw [← hw3]; exact (Below.refl _ _).alloc hs2 _
    clear hw3
    have z0 := (hb3.cell (p := ⟨w.heap.size, 0, none⟩) (by simp)).trans y0
    have z1 := (hb3.cell (p := ⟨w.heap.size, 1, none⟩) (by simp)).trans y1
    have z2 := (hb3.cell (p := ⟨w.heap.size, 2, none⟩) (by simp)).trans y2
    have HM := Lib.hid hmade
    have HB3 := Lib.hid (HB2.out.trans (hb3.mono (show w.heap.size ≤ w.heap.size + 1 by omega)))
    have hs3 : w.heap.size + 1 ≤ w3.heap.size := by have := hb3.size; omega
    clear hmade hb3 y0 y1 y2
    go_loopw [4, 19] (fun d i wr => ∃ (k : Nat) (A : Option Addr) (c : Nat), k ≤ p.s.length ∧ i = .int .i64 k ∧ d = .slice A (N + k) c ∧ OwI wr (w.heap.size + 1) d (deps N (p.s.take k)) ∧ Below (w.heap.size + 1) w3 wr) (fun _ i _ => p.s.length - (intOf i).toNat)
    case atStart => exact ⟨0, _, _, by omega, rfl, rfl, HM.out, Below.refl _ _⟩
    case round =>
      obtain ⟨k, A, c, hk, rfl, rfl, hown, hbel⟩ := hrel
      have hsz : w.heap.size + 1 ≤ wr.heap.size := by have := hbel.size; omega
      have hdl : (deps N (p.s.take k)).length = N + k := by rw [deps_length]; simp; omega
      by_cases hlt : k < p.s.length
      · obtain ⟨o1, o2, o3⟩ := HOK.out k hlt
        obtain ⟨a, ha⟩ : ∃ a : Nat, (p.s[k]).1 = a := ⟨(p.s[k]).1.toNat, by omega⟩
        obtain ⟨b, hb⟩ : ∃ b : Nat, (p.s[k]).2 = b := ⟨(p.s[k]).2.toNat, by omega⟩
        obtain ⟨sb, off, rfl, hsb, hc1, hc2⟩ := ((H.out.1.below' HB3.out hB).below' hbel (by omega)).stp hlt
        rw [ha] at hc1
        rw [hb] at hc2
        obtain ⟨D, hD⟩ : ∃ D, D = deps N (p.s.take k) := ⟨_, rfl⟩
        have hbd : ∀ x ∈ D, 0 ≤ x ∧ x ≤ 1000 := by
          rw [hD]
          intro x hx
          have := deps_bd N (p.s.take k) x hx
          simp at this
          omega
        rw [← hD] at hown hdl
        have hal : a < D.length := by omega
        have hbl : b < D.length := by omega
        have ia : (a : Int) < (N : Int) + (k : Int) := by omega
        have ib : (b : Int) < (N : Int) + (k : Int) := by omega
        have qa := hbd _ (List.getElem_mem hal)
        have qb := hbd _ (List.getElem_mem hbl)
        have OWN := Lib.hid hown
        rw [← hdl] at hown
        obtain ⟨g, off2, rfl, hg, hca⟩ := hown.rd.int hal
        obtain ⟨g', off3, hg', _, hcb⟩ := hown.rd.int hbl
        obtain ⟨rfl, rfl⟩ : g = g' ∧ off2 = off3 := by
          injection hg' with hg'
          injection hg' with e1 e2
          exact ⟨e1, e2⟩
        have hmx : 0 ≤ mostI D[a] D[b] ∧ mostI D[a] D[b] ≤ 1000 := by unfold mostI; split <;> omega
        have hsum : IntKind.i64.wrap (1 + mostI D[a] D[b]) = 1 + mostI D[a] D[b] := IntWalk.i64_in _ (by omega)
        have HBL := Lib.hid hbel
        have HD := Lib.hid hD
        have HDL := Lib.hid hdl
        have HA := Lib.hid ha
        have HBB := Lib.hid hb
        clear hown hbel hD hdl ha hb o1 o2 o3 hbd qa qb hmx
        go_wp2
        refine wp_region_Tw [0, 1, 2, 3, 4, 5, 6, 7, 8, 9, 10, 11, 12, 15] [3, 5, 8, 10] (.lp 0 (.lp 1 (.lp 2 (.lp 6 (.lp 7 (.ls 3 (.lp 4 (.ls 5 (.ls 8 (.lp 9 (.ls 10 (.lp 11 (.lp 12 (.hv 13 (.hv 14 (.lp 15 (.done))))))))))))))))) (by kernel_rfl) (by kernel_rfl) ?_
        (repeat (first | (refine T_lp rfl (fun K hK => ?_); go_simp; refine hK _ ?_; clear hK K) | (refine T_ls rfl rfl (fun K hK => ?_); go_simp; refine hK _ ?_; clear hK K)))
        (refine T_hv rfl (by kernel_rfl) (fun K hK => ?_); go_simp; refine hK _ _ ?_; clear hK K)
        refine T_hv rfl (by kernel_rfl) (fun K hK => ?_)
        refine step_app_int rfl (.tmp 23) (.tmp 36) rfl (w.heap.size + 1) (N + k) _ D rfl (((OWN.out.alloc _).drew).alloc _) HDL.out _ 1 (1 + mostI D[a] D[b]) rfl (by simp [mostI_max, hsum]) (by omega) (by simp; omega) ?_
        intro A2 c2 w4 hown4 hg4 hbel4
        (go_simp; refine hK _ _ ?_; clear hK K)
        (repeat (first | (refine T_lp rfl (fun K hK => ?_); go_simp; refine hK _ ?_; clear hK K) | (refine T_ls rfl rfl (fun K hK => ?_); go_simp; refine hK _ ?_; clear hK K)))
        refine T_done ?_
        go_wp2
        go_roundw
        case rel =>
          refine ⟨k + 1, A2, c2, by omega, by go_num, rfl, ?_, (((HBL.out.alloc hsz _).drew).alloc (by simp; omega) _).trans hbel4⟩
          rw [deps_take N hlt, ← HD.out]
          have e : depStep D p.s[k] = D ++ [1 + mostI D[a] D[b]] := by
            unfold depStep
            rw [HA.out, HBB.out]
            simp [hal, hbl]
          rw [e]
          exact hown4
        case measure => simp [intOf]; omega
      · have hk' : k = p.s.length := by omega
        subst hk'
        rw [List.take_of_length_le (Nat.le_refl _)] at hown hdl
        have v2 := (hbel.cell (p := ⟨w.heap.size, 2, none⟩) (by simp)).trans z2
        have HB4 := Lib.hid (HB3.out.trans (hbel.mono (show w.heap.size ≤ w.heap.size + 1 by omega)))
        have OWN := Lib.hid hown
        have HDL := Lib.hid hdl
        clear hown hdl hbel z0 z1 z2
        go_wp2
        go_loopw [7, 42] (fun m i wr2 => ∃ k : Nat, k ≤ p.o.length ∧ i = .int .i64 k ∧ m = .int .i64 (outD (deps N p.s) p.o k) ∧ wr2 = wr) (fun _ i _ => p.o.length - (intOf i).toNat)
        case atStart => exact ⟨0, by omega, rfl, rfl, rfl⟩
        case round =>
          obtain ⟨k, hk, rfl, rfl, rfl⟩ := hrel
          by_cases hlt : k < p.o.length
          · obtain ⟨ob, oo, rfl, hob, hoc⟩ := (H.out.2.below' HB4.out hB).int hlt
            obtain ⟨q1, q2⟩ := HOUT.out _ (List.getElem_mem hlt)
            obtain ⟨v, hv⟩ : ∃ v : Nat, p.o[k] = v := ⟨(p.o[k]).toNat, by omega⟩
            rw [hv] at hoc
            obtain ⟨D, hD⟩ : ∃ D, D = deps N p.s := ⟨_, rfl⟩
            have hdl := HDL.out
            rw [← hD] at hdl
            have hvl : v < D.length := by omega
            have iv : (v : Int) < (N : Int) + (p.s.length : Int) := by omega
            have hown := OWN.out
            rw [← hD, ← hdl] at hown
            obtain ⟨g, off2, rfl, hg, hca⟩ := hown.rd.int hvl
            have hst : outD (deps N p.s) p.o (k + 1) = mostI (outD (deps N p.s) p.o k) D[v] := by
              rw [outD_succ _ _ hlt, hv, ← hD]
              simp [hvl]
            have HST := Lib.hid hst
            clear hown hD hdl q1 q2 hv hst
            go_wp2
            go_roundw
            case rel => exact ⟨k + 1, by omega, by go_num, by rw [HST.out]; simp only [mostI_max], trivial⟩
            case measure => simp [intOf]; omega
          · have hk' : k = p.o.length := by omega
            subst hk'
            go_wp2
            go_ret2
            exact ⟨by rw [EA.out, HG.out]; rfl, HB4.out⟩
end Go.Proofs.Ytppfpdobdoaoiaa
