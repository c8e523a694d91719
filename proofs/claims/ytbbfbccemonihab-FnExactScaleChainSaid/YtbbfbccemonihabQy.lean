/- A chain behind another one. -/
import Derived.Test.YtbbfbccemonihabQn
namespace Go.Proofs.Ytbbfbccemonihab
open Go.RowKit

/-- The products of the end of a with the numbers of b behind the first, up to the k-th. -/
def scK (a b : List Int) (k : Nat) : List Int := a ++ (List.range k).map fun i => a.getD (a.length - 1) 0 * b.getD (i + 1) 0
theorem scK_zero (a b : List Int) : scK a b 0 = a := by simp [scK]
theorem scK_succ (a b : List Int) (k : Nat) : scK a b (k + 1) = scK a b k ++ [a.getD (a.length - 1) 0 * b.getD (k + 1) 0] := by
  unfold scK
  rw [List.range_succ, List.map_append, List.append_assoc]
  rfl
theorem scK_length (a b : List Int) (k : Nat) : (scK a b k).length = a.length + k := by simp [scK]
def sc (a b : List Int) : List Int := scK a b (b.length - 1)
def scG (a b : List Int) : Bool := (chG a && chG b) && chG (sc a b)

set_option maxRecDepth 100000 in
set_option maxHeartbeats 2000000 in
theorem specScale_any (B : Nat) (A : Option Addr) (c : Nat) (a : List Int) (A1 : Option Addr) (c1 : Nat) (b : List Int) (w : World) (hB : B ≤ w.heap.size) (hl : a.length ≤ 1048576) (hl1 : b.length ≤ 1048576) (_hcap : a.length ≤ c) (hcap1 : b.length ≤ c1)
    (hr : Rd w B 1 A a.length (a.map I)) (hr1 : Rd w B 1 A1 b.length (b.map I)) :
    Calls Try.prog 74 #[.slice A a.length c, .slice A1 b.length c1] w fun e w' =>
      ∃ A' c', e = .returned (.tuple #[.slice A' (selL (scG a b) (sc a b)).length c', .bool (scG a b)]) ∧ OwI w' w.heap.size (.slice A' (selL (scG a b) (sc a b)).length c') (selL (scG a b) (sc a b)) ∧ Below w.heap.size w w' := by
  have hS := chGood_any B A c a w hl hB hr
  have H := Lib.hid hr
  have H1 := Lib.hid hr1
  clear hr hr1
  cases hg : chG a with
  | false =>
    rw [hg] at hS
    have HS := Lib.hid hS
    have E := Lib.hid (show scG a b = false by unfold scG; rw [hg]; rfl)
    clear hS hg
    go_enter Try.func74, Try.ntmps74
    go_wp2_with (go_at_call 141; refine HS.out.mono ?_; rintro e w2 ⟨rfl, hb2⟩)
    go_ret2
    exact ⟨none, 0, by rw [E.out]; rfl, by rw [E.out]; exact OwI.nil _ _, hb2⟩
  | true =>
    rw [hg] at hS
    have HS := Lib.hid hS
    clear hS
    have hS1 := fun (W : World) (hb : Below w.heap.size w W) => chGood_any B A1 c1 b W hl1 (by have := hb.size; omega) (H1.out.below' hb hB)
    cases hg1 : chG b with
    | false =>
      rw [hg1] at hS1
      have HS1 := Lib.hid hS1
      have E := Lib.hid (show scG a b = false by unfold scG; rw [hg1]; simp)
      clear hS1 hg hg1
      go_enter Try.func74, Try.ntmps74
      go_wp2_with fail
      go_at_call 141
      refine HS.out.mono ?_
      rintro e w2 ⟨rfl, hb2⟩
      have HB2 := Lib.hid hb2
      have hs2 : w.heap.size ≤ w2.heap.size := hb2.size
      clear hb2
      go_wp2_with (go_at_call 141; refine (HS1.out w2 HB2.out).mono ?_; rintro e w3 ⟨rfl, hb3⟩)
      go_ret2
      exact ⟨none, 0, by rw [E.out]; rfl, by rw [E.out]; exact OwI.nil _ _, HB2.out.trans (hb3.mono hs2)⟩
    | true =>
      rw [hg1] at hS1
      have HS1 := Lib.hid hS1
      have CA := chG_chn hg
      have CB := chG_chn hg1
      have hla := CA.most
      have hlb := CB.most
      have ha0 := CA.pos
      have hb0 := CB.pos
      have hze := CA.rng (a.length - 1) (by omega)
      have RB := Lib.hid CB.rng
      obtain ⟨N, hN⟩ : ∃ N, a.length = N + 1 := ⟨a.length - 1, by omega⟩
      obtain ⟨M, hM⟩ : ∃ M, b.length = M + 1 := ⟨b.length - 1, by omega⟩
      have E := Lib.hid (show scG a b = chG (sc a b) by unfold scG; rw [hg, hg1]; rfl)
      have hsc : sc a b = scK a b M := by unfold sc; rw [hM]; rfl
      have hscl : (sc a b).length = N + 1 + M := by rw [hsc, scK_length, hN]
      obtain ⟨g1, off1, rfl, hbB1, hc1⟩ := H1.out.cells (by omega)
      obtain ⟨g, off, rfl, hbB, hc⟩ := H.out.cells (by omega)
      have HC1 := Lib.hid hc1
      have hcN := hc N (by omega)
      obtain ⟨z, hz⟩ : ∃ z, a.getD N 0 = z := ⟨_, rfl⟩
      rw [show a.length - 1 = N by omega, hz] at hze
      rw [hz] at hcN
      have HCN := Lib.hid hcN
      have SUC := Lib.hid (fun k => show scK a b (k + 1) = scK a b k ++ [z * b.getD (k + 1) 0] by rw [scK_succ, show a.length - 1 = N by omega, hz])
      rw [E.out]
      have hC := fun W A' c' hown => chIf_any w.heap.size A' c' (sc a b) W (by omega) hown
      obtain ⟨r, hr'⟩ : ∃ r, selL (chG (sc a b)) (sc a b) = r := ⟨_, rfl⟩
      obtain ⟨gd, hg'⟩ : ∃ g, chG (sc a b) = g := ⟨_, rfl⟩
      rw [hr', hg', hscl] at hC
      rw [hr', hg']
      have HC := Lib.hid hC
      have HSC := Lib.hid hsc
      have hsub : IntKind.i64.wrap ((a.length : Int) - 1) = (N : Int) := by rw [IntWalk.i64_in _ (by omega)]; omega
      have iN : (N : Int) < (a.length : Int) := by omega
      have i1 : (1 : Int) ≤ (b.length : Int) := by omega
      have i1c : ¬ (c1 = 1) ∨ M = 0 := by omega
      have hbl : b.length - 1 = M := by omega
      have HN := Lib.hid hN
      have HM := Lib.hid hM
      clear hC hr' hg' E hS1 hg hg1 hc hc1 hcN hz hsc hscl hN hM CA CB
      by_cases hcc : c1 = 1
      · have HM0 := Lib.hid (show M = 0 by omega)
        subst hcc
        go_enter Try.func74, Try.ntmps74
        go_wp2_with fail
        go_at_call 141
        refine HS.out.mono ?_
        rintro e w2 ⟨rfl, hb2⟩
        have HB2 := Lib.hid hb2
        have hs2 : w.heap.size ≤ w2.heap.size := hb2.size
        clear hb2
        go_wp2_with (first
          | (go_at_call 141; refine (HS1.out w2 HB2.out).mono ?_; rintro e w3 ⟨rfl, hb3⟩; have HB3 := Lib.hid (HB2.out.trans (hb3.mono hs2)); have hs3 : w.heap.size ≤ w3.heap.size := HB3.out.size; clear hb3)
          | (go_at_call 86; refine (l1Own_any B _ c a w3 (by omega) (by omega) (H.out.below' HB3.out hB)).mono ?_; rintro e w4 ⟨A4, c4, rfl, hown4, hb4⟩; have OW4 := Lib.hid (show w4.ownsRow w.heap.size 3 1 (.slice A4 a.length c4) a.length (a.map I) from own_base hown4 hs3); have HB4 := Lib.hid (HB3.out.trans (hb4.mono hs3)); clear hown4 hb4))
        go_loopw [6, 22] (fun ov iv wr => ∃ (k n : Nat) (A3 : Option Addr) (c3 : Nat), k ≤ M ∧ iv = .int .i64 k ∧ ov = .slice A3 n c3 ∧ n = N + 1 + k ∧ wr.ownsRow w.heap.size 3 1 (.slice A3 n c3) n ((scK a b k).map I) ∧ Below w.heap.size w wr) (fun _ i _ => M - (intOf i).toNat)
        case atStart => exact ⟨0, a.length, A4, c4, by omega, rfl, rfl, HN.out, by rw [scK_zero]; exact OW4.out, HB4.out⟩
        case round =>
          obtain ⟨k, n, A3, c3, hk, rfl, rfl, hn, hown, hbel⟩ := hrel
          have OWN := Lib.hid hown
          have BEL := Lib.hid hbel
          have hs : w.heap.size ≤ wr.heap.size := hbel.size
          have HNN := Lib.hid hn
          have hn100 : n ≤ 100 := by have := HN.out; have := HM.out; omega
          clear hown hbel hn
          by_cases hlt : k < M
          · have ik : (k : Int) < (M : Int) := by omega
            omega
          · have e : k = M := by omega
            subst e
            have HOM := Lib.hid (show OwI wr w.heap.size (.slice A3 (N + 1 + k) c3) (sc a b) from (by
              have h := OWN.out
              rw [← HSC.out] at h
              have hl := h.1
              unfold OwI
              rw [show (sc a b).length = n by simpa using hl, ← HNN.out]
              exact h))
            have hn := HNN.out
            subst hn
            go_wp2_with (go_at_call 142; refine (HC.out wr A3 c3 HOM.out).mono ?_; rintro e w6 ⟨A6, c6, rfl, hown6, hb6⟩)
            go_ret2
            exact ⟨A6, c6, rfl, hown6, BEL.out.trans (hb6.mono hs)⟩
      · have hcc' : ¬ (1 = c1) := fun h => hcc h.symm
        go_enter Try.func74, Try.ntmps74
        go_wp2_with fail
        go_at_call 141
        refine HS.out.mono ?_
        rintro e w2 ⟨rfl, hb2⟩
        have HB2 := Lib.hid hb2
        have hs2 : w.heap.size ≤ w2.heap.size := hb2.size
        clear hb2
        go_wp2_with (first
          | (go_at_call 141; refine (HS1.out w2 HB2.out).mono ?_; rintro e w3 ⟨rfl, hb3⟩; have HB3 := Lib.hid (HB2.out.trans (hb3.mono hs2)); have hs3 : w.heap.size ≤ w3.heap.size := HB3.out.size; clear hb3)
          | (go_at_call 86; refine (l1Own_any B _ c a w3 (by omega) (by omega) (H.out.below' HB3.out hB)).mono ?_; rintro e w4 ⟨A4, c4, rfl, hown4, hb4⟩; have OW4 := Lib.hid (show w4.ownsRow w.heap.size 3 1 (.slice A4 a.length c4) a.length (a.map I) from own_base hown4 hs3); have HB4 := Lib.hid (HB3.out.trans (hb4.mono hs3)); clear hown4 hb4))
        go_loopw [6, 22] (fun ov iv wr => ∃ (k n : Nat) (A3 : Option Addr) (c3 : Nat), k ≤ M ∧ iv = .int .i64 k ∧ ov = .slice A3 n c3 ∧ n = N + 1 + k ∧ wr.ownsRow w.heap.size 3 1 (.slice A3 n c3) n ((scK a b k).map I) ∧ Below w.heap.size w wr) (fun _ i _ => M - (intOf i).toNat)
        case atStart => exact ⟨0, a.length, A4, c4, by omega, rfl, rfl, HN.out, by rw [scK_zero]; exact OW4.out, HB4.out⟩
        case round =>
          obtain ⟨k, n, A3, c3, hk, rfl, rfl, hn, hown, hbel⟩ := hrel
          have OWN := Lib.hid hown
          have BEL := Lib.hid hbel
          have hs : w.heap.size ≤ wr.heap.size := hbel.size
          have HNN := Lib.hid hn
          have hn100 : n ≤ 100 := by have := HN.out; have := HM.out; omega
          clear hown hbel hn
          by_cases hlt : k < M
          · have ik : (k : Int) < (M : Int) := by omega
            have hkb : k + 1 < b.length := by have := HM.out; omega
            have cb : wr.cell? ⟨g1, off1 + 1 + k, none⟩ = some (.int .i64 (b.getD (k + 1) 0)) := (BEL.out.cell (p := ⟨g1, off1 + 1 + k, none⟩) (by simp only []; omega)).trans (by rw [show off1 + 1 + k = off1 + (k + 1) by omega]; exact HC1.out (k + 1) hkb)
            have cn := (BEL.out.cell (p := ⟨g, off + N, none⟩) (by simp only []; omega)).trans HCN.out
            have hyr := RB.out (k + 1) hkb
            have S := Lib.hid (SUC.out k)
            obtain ⟨y, hy⟩ : ∃ y, b.getD (k + 1) 0 = y := ⟨_, rfl⟩
            rw [hy] at cb hyr S
            have hmul : 0 ≤ z * y ∧ z * y ≤ 1000000 * 1000000 := ⟨Int.mul_nonneg (by omega) (by omega), Int.mul_le_mul hze.2 hyr.2 (by omega) (by omega)⟩
            have hwm : IntKind.i64.wrap (z * y) = z * y := IntWalk.i64_in _ (by omega)
            clear hy
            go_wp2_with (at_builtin; refine list_step (fun K hK => ?_); refine step_app1 Try.underlying23 info_int rfl (by omega) rfl (.tmp 26) (.tmp 35) rfl w.heap.size n _ ((scK a b k).map I) rfl (World.ownsRow.alloc OWN.out _) wr.heap.size 1 (I (z * y)) rfl (by rw [World.cell?_alloc_at _ _ _ _ rfl]; rfl) rfl (by omega) (by simp; omega) ?_; intro A5 c5 w6 hown6 hg6 hbel6; go_simp; refine hK _ _ ?_; clear hK K)
            go_roundw
            case rel =>
              refine ⟨k + 1, n + 1, A5, c5, by omega, by go_num, rfl, by have := HNN.out; omega, ?_, (BEL.out.alloc (by omega) _).trans hbel6⟩
              rw [S.out, List.map_append]
              exact hown6
            case measure => simp [intOf]; omega
          · have e : k = M := by omega
            subst e
            have HOM := Lib.hid (show OwI wr w.heap.size (.slice A3 (N + 1 + k) c3) (sc a b) from (by
              have h := OWN.out
              rw [← HSC.out] at h
              have hl := h.1
              unfold OwI
              rw [show (sc a b).length = n by simpa using hl, ← HNN.out]
              exact h))
            have hn := HNN.out
            subst hn
            go_wp2_with (go_at_call 142; refine (HC.out wr A3 c3 HOM.out).mono ?_; rintro e w6 ⟨A6, c6, rfl, hown6, hb6⟩)
            go_ret2
            exact ⟨A6, c6, rfl, hown6, BEL.out.trans (hb6.mono hs)⟩

set_option maxRecDepth 100000 in
set_option maxHeartbeats 2000000 in
theorem implScale_any (B : Nat) (A : Option Addr) (c : Nat) (a : List Int) (A1 : Option Addr) (c1 : Nat) (b : List Int) (w : World) (hB : B ≤ w.heap.size) (hl : a.length ≤ 1048576) (hl1 : b.length ≤ 1048576) (hcap : a.length ≤ c) (hcap1 : b.length ≤ c1)
    (hr : Rd w B 1 A a.length (a.map I)) (hr1 : Rd w B 1 A1 b.length (b.map I)) :
    Calls Try.prog 75 #[.slice A a.length c, .slice A1 b.length c1] w fun e w' =>
      ∃ A' c', e = .returned (.tuple #[.slice A' (selL (scG a b) (sc a b)).length c', .bool (scG a b)]) ∧ OwI w' w.heap.size (.slice A' (selL (scG a b) (sc a b)).length c') (selL (scG a b) (sc a b)) ∧ Below w.heap.size w w' := by
  have hS := implIsChain_any B A c a w hB hl hcap hr
  have H := Lib.hid hr
  have H1 := Lib.hid hr1
  clear hr hr1
  cases hg : chG a with
  | false =>
    rw [hg] at hS
    have HS := Lib.hid hS
    have E := Lib.hid (show scG a b = false by unfold scG; rw [hg]; rfl)
    clear hS hg
    go_enter Try.func75, Try.ntmps75
    go_wp2_with (go_at_call 143; refine HS.out.mono ?_; rintro e w2 ⟨rfl, hb2⟩)
    go_ret2
    exact ⟨none, 0, by rw [E.out]; rfl, by rw [E.out]; exact OwI.nil _ _, hb2⟩
  | true =>
    rw [hg] at hS
    have HS := Lib.hid hS
    clear hS
    have hS1 := fun (W : World) (hb : Below w.heap.size w W) => implIsChain_any B A1 c1 b W (by have := hb.size; omega) hl1 hcap1 (H1.out.below' hb hB)
    cases hg1 : chG b with
    | false =>
      rw [hg1] at hS1
      have HS1 := Lib.hid hS1
      have E := Lib.hid (show scG a b = false by unfold scG; rw [hg1]; simp)
      clear hS1 hg hg1
      go_enter Try.func75, Try.ntmps75
      go_wp2_with fail
      go_at_call 143
      refine HS.out.mono ?_
      rintro e w2 ⟨rfl, hb2⟩
      have HB2 := Lib.hid hb2
      have hs2 : w.heap.size ≤ w2.heap.size := hb2.size
      clear hb2
      go_wp2_with (go_at_call 143; refine (HS1.out w2 HB2.out).mono ?_; rintro e w3 ⟨rfl, hb3⟩)
      go_ret2
      exact ⟨none, 0, by rw [E.out]; rfl, by rw [E.out]; exact OwI.nil _ _, HB2.out.trans (hb3.mono hs2)⟩
    | true =>
      rw [hg1] at hS1
      have HS1 := Lib.hid hS1
      have CA := chG_chn hg
      have CB := chG_chn hg1
      have hla := CA.most
      have hlb := CB.most
      have ha0 := CA.pos
      have hb0 := CB.pos
      have hze := CA.rng (a.length - 1) (by omega)
      have RB := Lib.hid CB.rng
      obtain ⟨N, hN⟩ : ∃ N, a.length = N + 1 := ⟨a.length - 1, by omega⟩
      obtain ⟨M, hM⟩ : ∃ M, b.length = M + 1 := ⟨b.length - 1, by omega⟩
      have E := Lib.hid (show scG a b = chG (sc a b) by unfold scG; rw [hg, hg1]; rfl)
      have hsc : sc a b = scK a b M := by unfold sc; rw [hM]; rfl
      have hscl : (sc a b).length = N + 1 + M := by rw [hsc, scK_length, hN]
      obtain ⟨g1, off1, rfl, hbB1, hc1⟩ := H1.out.cells (by omega)
      obtain ⟨g, off, rfl, hbB, hc⟩ := H.out.cells (by omega)
      have HC1 := Lib.hid hc1
      have hcN := hc N (by omega)
      obtain ⟨z, hz⟩ : ∃ z, a.getD N 0 = z := ⟨_, rfl⟩
      rw [show a.length - 1 = N by omega, hz] at hze
      rw [hz] at hcN
      have HCN := Lib.hid hcN
      have ZE := Lib.hid (show a.getD (a.length - 1) 0 = z by rw [show a.length - 1 = N by omega]; exact hz)
      have SUC := Lib.hid (fun k => show scK a b (k + 1) = scK a b k ++ [z * b.getD (k + 1) 0] by rw [scK_succ, show a.length - 1 = N by omega, hz])
      rw [E.out]
      have hC := fun W A' c' hown => chainOrNone_any w.heap.size A' c' (sc a b) W (by omega) hown
      obtain ⟨r, hr'⟩ : ∃ r, selL (chG (sc a b)) (sc a b) = r := ⟨_, rfl⟩
      obtain ⟨gd, hg'⟩ : ∃ g, chG (sc a b) = g := ⟨_, rfl⟩
      rw [hr', hg', hscl] at hC
      rw [hr', hg']
      have HC := Lib.hid hC
      have HSC := Lib.hid hsc
      have hsub : IntKind.i64.wrap ((a.length : Int) - 1) = (N : Int) := by rw [IntWalk.i64_in _ (by omega)]; omega
      have iN : (N : Int) < (a.length : Int) := by omega
      have i1 : (1 : Int) ≤ (b.length : Int) := by omega
      have i1c : ¬ (c1 = 1) ∨ M = 0 := by omega
      have hbl : b.length - 1 = M := by omega
      have HN := Lib.hid hN
      have HM := Lib.hid hM
      clear hC hr' hg' E hS1 hg hg1 hc hc1 hcN hz hsc hscl hN hM CA CB
      by_cases hcc : c1 = 1
      · have HM0 := Lib.hid (show M = 0 by omega)
        subst hcc
        go_enter Try.func75, Try.ntmps75
        go_wp2_with fail
        go_at_call 143
        refine HS.out.mono ?_
        rintro e w2 ⟨rfl, hb2⟩
        have HB2 := Lib.hid hb2
        have hs2 : w.heap.size ≤ w2.heap.size := hb2.size
        clear hb2
        go_wp2_with (first
          | (go_at_call 143; refine (HS1.out w2 HB2.out).mono ?_; rintro e w3 ⟨rfl, hb3⟩; have HB3 := Lib.hid (HB2.out.trans (hb3.mono hs2)); have hs3 : w.heap.size ≤ w3.heap.size := HB3.out.size; clear hb3)
          | (go_at_call 144; refine (cloneI_any B _ c a w3 (by omega) (by omega) (by omega) (H.out.below' HB3.out hB)).mono ?_; rintro e w4 ⟨A4, c4, rfl, hown4, hb4⟩; have OW4 := Lib.hid (show w4.ownsRow w.heap.size 3 1 (.slice A4 a.length c4) a.length (a.map I) from own_base hown4 hs3); have HB4 := Lib.hid (HB3.out.trans (hb4.mono hs3)); clear hown4 hb4))
        go_loopw [6, 22] (fun ov iv wr => ∃ (k n : Nat) (A3 : Option Addr) (c3 : Nat), k ≤ M ∧ iv = .int .i64 k ∧ ov = .slice A3 n c3 ∧ n = N + 1 + k ∧ wr.ownsRow w.heap.size 3 1 (.slice A3 n c3) n ((scK a b k).map I) ∧ Below w.heap.size w wr) (fun _ i _ => M - (intOf i).toNat)
        case atStart => exact ⟨0, a.length, A4, c4, by omega, rfl, rfl, HN.out, by rw [scK_zero]; exact OW4.out, HB4.out⟩
        case round =>
          obtain ⟨k, n, A3, c3, hk, rfl, rfl, hn, hown, hbel⟩ := hrel
          have OWN := Lib.hid hown
          have BEL := Lib.hid hbel
          have hs : w.heap.size ≤ wr.heap.size := hbel.size
          have HNN := Lib.hid hn
          have hn100 : n ≤ 100 := by have := HN.out; have := HM.out; omega
          clear hown hbel hn
          by_cases hlt : k < M
          · have ik : (k : Int) < (M : Int) := by omega
            omega
          · have e : k = M := by omega
            subst e
            have HOM := Lib.hid (show OwI wr w.heap.size (.slice A3 (N + 1 + k) c3) (sc a b) from (by
              have h := OWN.out
              rw [← HSC.out] at h
              have hl := h.1
              unfold OwI
              rw [show (sc a b).length = n by simpa using hl, ← HNN.out]
              exact h))
            have hn := HNN.out
            subst hn
            go_wp2_with (go_at_call 145; refine (HC.out wr A3 c3 HOM.out).mono ?_; rintro e w6 ⟨A6, c6, rfl, hown6, hb6⟩)
            go_ret2
            exact ⟨A6, c6, rfl, hown6, BEL.out.trans (hb6.mono hs)⟩
      · have hcc' : ¬ (1 = c1) := fun h => hcc h.symm
        go_enter Try.func75, Try.ntmps75
        go_wp2_with fail
        go_at_call 143
        refine HS.out.mono ?_
        rintro e w2 ⟨rfl, hb2⟩
        have HB2 := Lib.hid hb2
        have hs2 : w.heap.size ≤ w2.heap.size := hb2.size
        clear hb2
        go_wp2_with (first
          | (go_at_call 143; refine (HS1.out w2 HB2.out).mono ?_; rintro e w3 ⟨rfl, hb3⟩; have HB3 := Lib.hid (HB2.out.trans (hb3.mono hs2)); have hs3 : w.heap.size ≤ w3.heap.size := HB3.out.size; clear hb3)
          | (go_at_call 144; refine (cloneI_any B _ c a w3 (by omega) (by omega) (by omega) (H.out.below' HB3.out hB)).mono ?_; rintro e w4 ⟨A4, c4, rfl, hown4, hb4⟩; have OW4 := Lib.hid (show w4.ownsRow w.heap.size 3 1 (.slice A4 a.length c4) a.length (a.map I) from own_base hown4 hs3); have HB4 := Lib.hid (HB3.out.trans (hb4.mono hs3)); clear hown4 hb4))
        go_loopw [6, 22] (fun ov iv wr => ∃ (k n : Nat) (A3 : Option Addr) (c3 : Nat), k ≤ M ∧ iv = .int .i64 k ∧ ov = .slice A3 n c3 ∧ n = N + 1 + k ∧ wr.ownsRow w.heap.size 3 1 (.slice A3 n c3) n ((scK a b k).map I) ∧ Below w.heap.size w wr) (fun _ i _ => M - (intOf i).toNat)
        case atStart => exact ⟨0, a.length, A4, c4, by omega, rfl, rfl, HN.out, by rw [scK_zero]; exact OW4.out, HB4.out⟩
        case round =>
          obtain ⟨k, n, A3, c3, hk, rfl, rfl, hn, hown, hbel⟩ := hrel
          have OWN := Lib.hid hown
          have BEL := Lib.hid hbel
          have hs : w.heap.size ≤ wr.heap.size := hbel.size
          have HNN := Lib.hid hn
          have hn100 : n ≤ 100 := by have := HN.out; have := HM.out; omega
          clear hown hbel hn
          by_cases hlt : k < M
          · have ik : (k : Int) < (M : Int) := by omega
            have hkb : k + 1 < b.length := by have := HM.out; omega
            have cb : wr.cell? ⟨g1, off1 + 1 + k, none⟩ = some (.int .i64 (b.getD (k + 1) 0)) := (BEL.out.cell (p := ⟨g1, off1 + 1 + k, none⟩) (by simp only []; omega)).trans (by rw [show off1 + 1 + k = off1 + (k + 1) by omega]; exact HC1.out (k + 1) hkb)
            have cn := (BEL.out.cell (p := ⟨g, off + N, none⟩) (by simp only []; omega)).trans HCN.out
            have hyr := RB.out (k + 1) hkb
            have S := Lib.hid (SUC.out k)
            obtain ⟨y, hy⟩ : ∃ y, b.getD (k + 1) 0 = y := ⟨_, rfl⟩
            rw [hy] at cb hyr S
            have hmul : 0 ≤ z * y ∧ z * y ≤ 1000000 * 1000000 := ⟨Int.mul_nonneg (by omega) (by omega), Int.mul_le_mul hze.2 hyr.2 (by omega) (by omega)⟩
            have hwm : IntKind.i64.wrap (z * y) = z * y := IntWalk.i64_in _ (by omega)
            clear hy
            have HE := Lib.hid (show Calls Try.prog 134 #[.slice (some ⟨g, off, none⟩) a.length c] wr fun e w' => e = .returned (.int .i64 z) ∧ w' = wr by
              have h := endOf_any B (some ⟨g, off, none⟩) c a wr (by have := HN.out; omega) hl (H.out.below' BEL.out hB)
              rw [ZE.out] at h
              exact h)
            go_wp2_with fail
            go_at_call 134
            refine HE.out.mono ?_
            rintro e w9 ⟨rfl, h9⟩
            have h9 := h9.symm
            subst h9
            go_wp2_with (at_builtin; refine list_step (fun K hK => ?_); refine step_app1 Try.underlying23 info_int rfl (by omega) rfl (.tmp 26) (.tmp 31) rfl w.heap.size n _ ((scK a b k).map I) rfl (World.ownsRow.alloc OWN.out _) wr.heap.size 1 (I (z * y)) rfl (by rw [World.cell?_alloc_at _ _ _ _ rfl]; rfl) rfl (by omega) (by simp; omega) ?_; intro A5 c5 w6 hown6 hg6 hbel6; go_simp; refine hK _ _ ?_; clear hK K)
            go_roundw
            case rel =>
              refine ⟨k + 1, n + 1, A5, c5, by omega, by go_num, rfl, by have := HNN.out; omega, ?_, (BEL.out.alloc (by omega) _).trans hbel6⟩
              rw [S.out, List.map_append]
              exact hown6
            case measure => simp [intOf]; omega
          · have e : k = M := by omega
            subst e
            have HOM := Lib.hid (show OwI wr w.heap.size (.slice A3 (N + 1 + k) c3) (sc a b) from (by
              have h := OWN.out
              rw [← HSC.out] at h
              have hl := h.1
              unfold OwI
              rw [show (sc a b).length = n by simpa using hl, ← HNN.out]
              exact h))
            have hn := HNN.out
            subst hn
            go_wp2_with (go_at_call 145; refine (HC.out wr A3 c3 HOM.out).mono ?_; rintro e w6 ⟨A6, c6, rfl, hown6, hb6⟩)
            go_ret2
            exact ⟨A6, c6, rfl, hown6, BEL.out.trans (hb6.mono hs)⟩
end Go.Proofs.Ytbbfbccemonihab
