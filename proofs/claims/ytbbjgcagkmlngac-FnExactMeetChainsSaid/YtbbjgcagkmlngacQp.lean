/- What is in both of two chains. -/
import Derived.Test.YtbbjgcagkmlngacQn
namespace Go.Proofs.Ytbbjgcagkmlngac
open Go.RowKit

theorem hasI_mem (l : List Int) (n : Int) : hasI l n = decide (n ∈ l) := by unfold hasI; exact List.contains_eq_mem n l
def metK (a b : List Int) (k : Nat) : List Int := (a.take k).filter fun n => hasI b n
def met (a b : List Int) : List Int := a.filter fun n => hasI b n
theorem metK_end (a b : List Int) : metK a b a.length = met a b := by unfold metK met; rw [List.take_length]
theorem metK_hit {a b : List Int} {k : Nat} (hk : k < a.length) (h : hasI b (a.getD k 0) = true) : metK a b (k + 1) = metK a b k ++ [a.getD k 0] := by
  unfold metK
  rw [take_succ_getD hk, List.filter_append]
  simp only [List.filter_cons, List.filter_nil, h]
  rfl
theorem metK_miss {a b : List Int} {k : Nat} (hk : k < a.length) (h : hasI b (a.getD k 0) = false) : metK a b (k + 1) = metK a b k := by
  unfold metK
  rw [take_succ_getD hk, List.filter_append]
  simp only [List.filter_cons, List.filter_nil, h]
  simp
theorem metK_le (a b : List Int) (k : Nat) : (metK a b k).length ≤ k := by
  unfold metK
  exact Nat.le_trans (List.length_filter_le _ _) (by simp; omega)
theorem met_le (a b : List Int) : (met a b).length ≤ a.length := List.length_filter_le _ _
def meG (a b : List Int) : Bool := (chG a && chG b) && chG (met a b)

theorem hasA_any (B : Nat) (A : Option Addr) (c : Nat) (l : List Int) (x : Int) (w : World) (hm : l.length ≤ 4000000) (ha : Asc l) (hr : Rd w B 1 A l.length (l.map I)) :
    Calls Try.prog 66 #[.slice A l.length c, .int .i64 x] w fun e w' => e = .returned (.bool (hasI l x)) ∧ Dr w w' := by
  have hF := find_any B A c l x w hm ha hr
  rw [← hasI_mem] at hF
  have H := Lib.hid hF
  clear ha hr hF
  go_enter Try.func66, Try.ntmps66
  go_wp2_with (go_at_call 75; refine H.out.mono ?_; rintro e w' ⟨rfl, hd⟩)
  go_ret
  exact ⟨rfl, hd⟩

set_option maxRecDepth 100000 in
set_option maxHeartbeats 2000000 in
theorem meet_any (B : Nat) (A : Option Addr) (c : Nat) (a : List Int) (A1 : Option Addr) (c1 : Nat) (b : List Int) (w : World) (ha : Chn a) (hb : Chn b) (hB : B ≤ w.heap.size) (hr : Rd w B 1 A a.length (a.map I)) (hr1 : Rd w B 1 A1 b.length (b.map I)) :
    Calls Try.prog 68 #[.slice A a.length c, .slice A1 b.length c1] w fun e w' =>
      ∃ A' c', e = .returned (.slice A' (met a b).length c') ∧ OwI w' w.heap.size (.slice A' (met a b).length c') (met a b) ∧ Below w.heap.size w w' := by
  obtain ⟨g, off, rfl, hbB, hc⟩ := hr.cells (by have := ha.pos; omega)
  have HC := Lib.hid hc
  have H1 := Lib.hid hr1
  have hla := ha.most
  have hlb := hb.most
  have HB := Lib.hid hb.asc
  clear hr hr1 hc ha hb
  go_enter Try.func68, Try.ntmps68
  go_wp2
  go_loopw [5, 10] (fun ov iv wr => ∃ (k n : Nat) (A2 : Option Addr) (c2 : Nat), k ≤ a.length ∧ iv = .int .i64 k ∧ ov = .slice A2 n c2 ∧ n = (metK a b k).length ∧ wr.ownsRow w.heap.size 3 1 (.slice A2 n c2) n ((metK a b k).map I) ∧ Below w.heap.size w wr) (fun _ i _ => a.length - (intOf i).toNat)
  case atStart => exact ⟨0, 0, none, 0, by omega, rfl, rfl, rfl, World.ownsRow_nil _ _ _ _, Below.refl _ _⟩
  case round =>
    obtain ⟨k, n, A2, c2, hk, rfl, rfl, hn, hown, hbel⟩ := hrel
    have OWN := Lib.hid hown
    have BEL := Lib.hid hbel
    have HN := Lib.hid hn
    have hs : w.heap.size ≤ wr.heap.size := hbel.size
    have hnb : n ≤ 41 := by rw [hn]; exact Nat.le_trans (metK_le a b k) (by omega)
    clear hown hbel hn
    by_cases hlt : k < a.length
    · have ik : (k : Int) < (a.length : Int) := by omega
      have ck := (BEL.out.cell (p := ⟨g, off + k, none⟩) (by simp only []; omega)).trans (HC.out k hlt)
      have hh := metK_hit (b := b) hlt
      have hm := metK_miss (b := b) hlt
      obtain ⟨x, hx⟩ : ∃ x, a.getD k 0 = x := ⟨_, rfl⟩
      rw [hx] at ck hh hm
      have hH := hasA_any B A1 c1 b x wr (by omega) HB.out (H1.out.below' BEL.out hB)
      clear hx
      cases hq : hasI b x with
      | true =>
        have S := Lib.hid (hh hq)
        rw [hq] at hH
        have HH := Lib.hid hH
        clear hh hm hH hq
        go_wp2_with (first
          | (go_at_call 66; refine HH.out.mono ?_; rintro e w5 ⟨rfl, ⟨nd, rfl⟩⟩)
          | (at_builtin; refine list_step (fun K hK => ?_); refine step_app1 Try.underlying60 info_int rfl (by omega) rfl (.tmp 17) (.tmp 19) rfl w.heap.size n _ ((metK a b k).map I) rfl (World.ownsRow.alloc (own_below OWN.out (bDrewN (Below.refl _ wr) nd)) _) (wr.drewN nd).heap.size 1 (I x) rfl (by rw [World.cell?_alloc_at _ _ _ _ rfl]; rfl) rfl (by omega) (by simp; omega) ?_; intro A5 c5 w6 hown6 hg6 hbel6; go_simp; refine hK _ _ ?_; clear hK K))
        go_roundw
        case rel =>
          refine ⟨k + 1, n + 1, A5, c5, by omega, by go_num, rfl, by rw [S.out, List.length_append, ← HN.out]; rfl, ?_, ((bDrewN BEL.out nd).alloc (by simp; omega) _).trans hbel6⟩
          rw [S.out, List.map_append]
          exact hown6
        case measure => simp [intOf]; omega
      | false =>
        have S := Lib.hid (hm hq)
        rw [hq] at hH
        have HH := Lib.hid hH
        clear hh hm hH hq
        go_wp2_with (go_at_call 66; refine HH.out.mono ?_; rintro e w5 ⟨rfl, ⟨nd, rfl⟩⟩)
        go_roundw
        case rel => exact ⟨k + 1, n, A2, c2, by omega, by go_num, rfl, by rw [S.out]; exact HN.out, by rw [S.out]; exact own_below OWN.out (bDrewN (Below.refl _ wr) nd), bDrewN BEL.out nd⟩
        case measure => simp [intOf]; omega
    · have e : k = a.length := by omega
      subst e
      have hn := HN.out
      rw [metK_end] at hn
      subst hn
      go_wp2
      go_ret
      refine ⟨A2, c2, rfl, ?_, BEL.out⟩
      have h := OWN.out
      rw [metK_end] at h
      exact h

set_option maxRecDepth 100000 in
set_option maxHeartbeats 2000000 in
theorem implMeet_any (B : Nat) (A : Option Addr) (c : Nat) (a : List Int) (A1 : Option Addr) (c1 : Nat) (b : List Int) (w : World) (hB : B ≤ w.heap.size) (hl : a.length ≤ 1048576) (hl1 : b.length ≤ 1048576) (hcap : a.length ≤ c) (hcap1 : b.length ≤ c1)
    (hr : Rd w B 1 A a.length (a.map I)) (hr1 : Rd w B 1 A1 b.length (b.map I)) :
    Calls Try.prog 42 #[.slice A a.length c, .slice A1 b.length c1] w fun e w' =>
      ∃ A' c', e = .returned (.tuple #[.slice A' (selL (meG a b) (met a b)).length c', .bool (meG a b)]) ∧ OwI w' w.heap.size (.slice A' (selL (meG a b) (met a b)).length c') (selL (meG a b) (met a b)) ∧ Below w.heap.size w w' := by
  have hS := implIsChain_any B A c a w hB hl hcap hr
  have H := Lib.hid hr
  have H1 := Lib.hid hr1
  clear hr hr1
  cases hg : chG a with
  | false =>
    rw [hg] at hS
    have HS := Lib.hid hS
    have E := Lib.hid (show meG a b = false by unfold meG; rw [hg]; rfl)
    clear hS hg
    go_enter Try.func42, Try.ntmps42
    go_wp2_with (go_at_call 17; refine HS.out.mono ?_; rintro e w2 ⟨rfl, hb2⟩)
    go_ret2
    exact ⟨none, 0, by rw [E.out]; rfl, by rw [E.out]; exact OwI.nil _ _, hb2⟩
  | true =>
    rw [hg] at hS
    have HS := Lib.hid hS
    clear hS
    have hS1 := fun (W : World) (hb : Below w.heap.size w W) => implIsChain_any B A1 c1 b W (by have := hb.size; omega) hl1 hcap1 (H1.out.below' hb hB)
    cases hg1 : chG b with
    | false =>
      rw [hg1] at hS1
      have HS1 := Lib.hid hS1
      have E := Lib.hid (show meG a b = false by unfold meG; rw [hg1]; simp)
      clear hS1 hg hg1
      go_enter Try.func42, Try.ntmps42
      go_wp2_with fail
      go_at_call 17
      refine HS.out.mono ?_
      rintro e w2 ⟨rfl, hb2⟩
      have HB2 := Lib.hid hb2
      have hs2 : w.heap.size ≤ w2.heap.size := hb2.size
      clear hb2
      go_wp2_with (go_at_call 17; refine (HS1.out w2 HB2.out).mono ?_; rintro e w3 ⟨rfl, hb3⟩)
      go_ret2
      exact ⟨none, 0, by rw [E.out]; rfl, by rw [E.out]; exact OwI.nil _ _, HB2.out.trans (hb3.mono hs2)⟩
    | true =>
      rw [hg1] at hS1
      have HS1 := Lib.hid hS1
      have CA := Lib.hid (chG_chn hg)
      have CB := Lib.hid (chG_chn hg1)
      have hla := CA.out.most
      have E := Lib.hid (show meG a b = chG (met a b) by unfold meG; rw [hg, hg1]; rfl)
      have hmm : (met a b).length ≤ 41 := Nat.le_trans (met_le a b) hla
      rw [E.out]
      have hM := fun W hB' r1 r2 => meet_any B A c a A1 c1 b W CA.out CB.out hB' r1 r2
      have hC := fun W A' c' hown => chainOrNone_any w.heap.size A' c' (met a b) W (by omega) hown
      obtain ⟨u, hu⟩ : ∃ u, met a b = u := ⟨_, rfl⟩
      rw [hu] at hM hC hmm ⊢
      obtain ⟨r, hr'⟩ : ∃ r, selL (chG u) u = r := ⟨_, rfl⟩
      obtain ⟨g, hg'⟩ : ∃ g, chG u = g := ⟨_, rfl⟩
      rw [hr', hg'] at hC ⊢
      have HC := Lib.hid hC
      have HM := Lib.hid hM
      clear hC hM hr' hg' E hu hS1 hg hg1
      go_enter Try.func42, Try.ntmps42
      go_wp2_with fail
      go_at_call 17
      refine HS.out.mono ?_
      rintro e w2 ⟨rfl, hb2⟩
      have HB2 := Lib.hid hb2
      have hs2 : w.heap.size ≤ w2.heap.size := hb2.size
      clear hb2
      go_wp2_with (first
        | (go_at_call 17; refine (HS1.out w2 HB2.out).mono ?_; rintro e w3 ⟨rfl, hb3⟩; have HB3 := Lib.hid (HB2.out.trans (hb3.mono hs2)); have hs3 : w.heap.size ≤ w3.heap.size := HB3.out.size; clear hb3)
        | (go_at_call 68; refine (HM.out w3 (by omega) (H.out.below' HB3.out hB) (H1.out.below' HB3.out hB)).mono ?_; rintro e w4 ⟨A4, c4, rfl, hown4, hb4⟩; have OW4 := Lib.hid (hown4.base hs3); have HB4 := Lib.hid (HB3.out.trans (hb4.mono hs3)); have hs4 : w.heap.size ≤ w4.heap.size := HB4.out.size; clear hown4 hb4)
        | (go_at_call 62; refine (HC.out w4 A4 c4 OW4.out).mono ?_; rintro e w6 ⟨A6, c6, rfl, hown6, hb6⟩))
      go_ret2
      exact ⟨A6, c6, rfl, hown6, HB4.out.trans (hb6.mono hs4)⟩

set_option maxRecDepth 100000 in
set_option maxHeartbeats 2000000 in
theorem specMeet_any (B : Nat) (A : Option Addr) (c : Nat) (a : List Int) (A1 : Option Addr) (c1 : Nat) (b : List Int) (w : World) (hB : B ≤ w.heap.size) (hl : a.length ≤ 1048576) (hl1 : b.length ≤ 1048576) (_hcap : a.length ≤ c) (_hcap1 : b.length ≤ c1)
    (hr : Rd w B 1 A a.length (a.map I)) (hr1 : Rd w B 1 A1 b.length (b.map I)) :
    Calls Try.prog 41 #[.slice A a.length c, .slice A1 b.length c1] w fun e w' =>
      ∃ A' c', e = .returned (.tuple #[.slice A' (selL (meG a b) (met a b)).length c', .bool (meG a b)]) ∧ OwI w' w.heap.size (.slice A' (selL (meG a b) (met a b)).length c') (selL (meG a b) (met a b)) ∧ Below w.heap.size w w' := by
  have hS := chGood_any B A c a w hl hB hr
  have H := Lib.hid hr
  have H1 := Lib.hid hr1
  clear hr hr1
  cases hg : chG a with
  | false =>
    rw [hg] at hS
    have HS := Lib.hid hS
    have E := Lib.hid (show meG a b = false by unfold meG; rw [hg]; rfl)
    clear hS hg
    go_enter Try.func41, Try.ntmps41
    go_wp2_with (go_at_call 49; refine HS.out.mono ?_; rintro e w2 ⟨rfl, hb2⟩)
    go_ret2
    exact ⟨none, 0, by rw [E.out]; rfl, by rw [E.out]; exact OwI.nil _ _, hb2⟩
  | true =>
    rw [hg] at hS
    have HS := Lib.hid hS
    clear hS
    have hS1 := fun (W : World) (hb : Below w.heap.size w W) => chGood_any B A1 c1 b W hl1 (by have := hb.size; omega) (H1.out.below' hb hB)
    cases hg1 : chG b with
    | false =>
      rw [hg1] at hS1
      have HS1 := Lib.hid hS1
      have E := Lib.hid (show meG a b = false by unfold meG; rw [hg1]; simp)
      clear hS1 hg hg1
      go_enter Try.func41, Try.ntmps41
      go_wp2_with fail
      go_at_call 49
      refine HS.out.mono ?_
      rintro e w2 ⟨rfl, hb2⟩
      have HB2 := Lib.hid hb2
      have hs2 : w.heap.size ≤ w2.heap.size := hb2.size
      clear hb2
      go_wp2_with (go_at_call 49; refine (HS1.out w2 HB2.out).mono ?_; rintro e w3 ⟨rfl, hb3⟩)
      go_ret2
      exact ⟨none, 0, by rw [E.out]; rfl, by rw [E.out]; exact OwI.nil _ _, HB2.out.trans (hb3.mono hs2)⟩
    | true =>
      rw [hg1] at hS1
      have HS1 := Lib.hid hS1
      have CA := Lib.hid (chG_chn hg)
      have CB := Lib.hid (chG_chn hg1)
      have hla := CA.out.most
      have hlb := CB.out.most
      have hl0 := CA.out.pos
      have E := Lib.hid (show meG a b = chG (met a b) by unfold meG; rw [hg, hg1]; rfl)
      have hmm : (met a b).length ≤ 41 := Nat.le_trans (met_le a b) hla
      rw [E.out]
      have hC := fun W A' c' hown => chIf_any w.heap.size A' c' (met a b) W (by omega) hown
      obtain ⟨r, hr'⟩ : ∃ r, selL (chG (met a b)) (met a b) = r := ⟨_, rfl⟩
      obtain ⟨gd, hg'⟩ : ∃ g, chG (met a b) = g := ⟨_, rfl⟩
      rw [hr', hg'] at hC ⊢
      have HC := Lib.hid hC
      obtain ⟨g, off, rfl, hbB, hc⟩ := H.out.cells (by omega)
      have HCE := Lib.hid hc
      clear hC hr' hg' E hS1 hg hg1 hc
      go_enter Try.func41, Try.ntmps41
      go_wp2_with fail
      go_at_call 49
      refine HS.out.mono ?_
      rintro e w2 ⟨rfl, hb2⟩
      have HB2 := Lib.hid hb2
      have hs2 : w.heap.size ≤ w2.heap.size := hb2.size
      clear hb2
      go_wp2_with (go_at_call 49; refine (HS1.out w2 HB2.out).mono ?_; rintro e w3 ⟨rfl, hb3⟩; have HB3 := Lib.hid (HB2.out.trans (hb3.mono hs2)); have hs3 : w.heap.size ≤ w3.heap.size := HB3.out.size; clear hb3)
      go_loopw [6, 19] (fun ov iv wr => ∃ (k n : Nat) (A2 : Option Addr) (c2 : Nat), k ≤ a.length ∧ iv = .int .i64 k ∧ ov = .slice A2 n c2 ∧ n = (metK a b k).length ∧ wr.ownsRow w.heap.size 3 1 (.slice A2 n c2) n ((metK a b k).map I) ∧ Below w.heap.size w wr) (fun _ i _ => a.length - (intOf i).toNat)
      case atStart => exact ⟨0, 0, none, 0, by omega, rfl, rfl, rfl, World.ownsRow_nil _ _ _ _, HB3.out⟩
      case round =>
        obtain ⟨k, n, A2, c2, hk, rfl, rfl, hn, hown, hbel⟩ := hrel
        have OWN := Lib.hid hown
        have BEL := Lib.hid hbel
        have HN := Lib.hid hn
        have hs : w.heap.size ≤ wr.heap.size := hbel.size
        have hnb : n ≤ 41 := by rw [hn]; exact Nat.le_trans (metK_le a b k) (by omega)
        clear hown hbel hn
        by_cases hlt : k < a.length
        · have ik : (k : Int) < (a.length : Int) := by omega
          have ck := (BEL.out.cell (p := ⟨g, off + k, none⟩) (by simp only []; omega)).trans (HCE.out k hlt)
          have hh := metK_hit (b := b) hlt
          have hm := metK_miss (b := b) hlt
          obtain ⟨x, hx⟩ : ∃ x, a.getD k 0 = x := ⟨_, rfl⟩
          rw [hx] at ck hh hm
          have hH := l1Has_any B A1 c1 b x wr (by omega) (H1.out.below' BEL.out hB)
          clear hx
          cases hq : hasI b x with
          | true =>
            have S := Lib.hid (hh hq)
            rw [hq] at hH
            have HH := Lib.hid hH
            clear hh hm hH hq
            go_wp2_with (first
              | (go_at_call 64; refine HH.out.mono ?_; rintro e w5 ⟨rfl, rfl⟩)
              | (at_builtin; refine list_step (fun K hK => ?_); refine step_app1 Try.underlying22 info_int rfl (by omega) rfl (.tmp 26) (.tmp 28) rfl w.heap.size n _ ((metK a b k).map I) rfl (World.ownsRow.alloc OWN.out _) wr.heap.size 1 (I x) rfl (by rw [World.cell?_alloc_at _ _ _ _ rfl]; rfl) rfl (by omega) (by simp; omega) ?_; intro A5 c5 w6 hown6 hg6 hbel6; go_simp; refine hK _ _ ?_; clear hK K))
            go_roundw
            case rel =>
              refine ⟨k + 1, n + 1, A5, c5, by omega, by go_num, rfl, by rw [S.out, List.length_append, ← HN.out]; rfl, ?_, (BEL.out.alloc (by omega) _).trans hbel6⟩
              rw [S.out, List.map_append]
              exact hown6
            case measure => simp [intOf]; omega
          | false =>
            have S := Lib.hid (hm hq)
            rw [hq] at hH
            have HH := Lib.hid hH
            clear hh hm hH hq
            go_wp2_with (go_at_call 64; refine HH.out.mono ?_; rintro e w5 ⟨rfl, rfl⟩)
            go_roundw
            case rel => exact ⟨k + 1, n, A2, c2, by omega, by go_num, rfl, by rw [S.out]; exact HN.out, by rw [S.out]; exact OWN.out, BEL.out⟩
            case measure => simp [intOf]; omega
        · have e : k = a.length := by omega
          subst e
          have hn := HN.out
          rw [metK_end] at hn
          have HOM := Lib.hid (show OwI wr w.heap.size (.slice A2 (met a b).length c2) (met a b) from (by have h := OWN.out; rw [metK_end, hn] at h; exact h))
          subst hn
          go_wp2_with (go_at_call 60; refine (HC.out wr A2 c2 HOM.out).mono ?_; rintro e w6 ⟨A6, c6, rfl, hown6, hb6⟩)
          go_ret2
          exact ⟨A6, c6, rfl, hown6, BEL.out.trans (hb6.mono hs)⟩
end Go.Proofs.Ytbbjgcagkmlngac
