/- A chain with a further number; what is in both of two chains. -/
import Derived.Test.YtbbjgcagkmlngacQn
namespace Go.Proofs.Ytbbjgcagkmlngac
open Go.RowKit

theorem chG_snoc {l : List Int} {n : Int} (h : chG (l ++ [n]) = true) : isNum n = true := by
  have h1 := (chG_chn h).rng l.length (by simp)
  have e : (l ++ [n]).getD l.length 0 = n := by simp
  rw [e] at h1
  unfold isNum inB
  simpa using h1
def exG (l : List Int) (n : Int) : Bool := chG l && chG (l ++ [n])

set_option maxRecDepth 100000 in
set_option maxHeartbeats 2000000 in
theorem specExtend_any (B : Nat) (A : Option Addr) (c : Nat) (l : List Int) (n : Int) (w : World) (hB : B ≤ w.heap.size) (hl : l.length ≤ 1048576) (_hcap : l.length ≤ c) (hr : Rd w B 1 A l.length (l.map I)) :
    Calls Try.prog 37 #[.slice A l.length c, .int .i64 n] w fun e w' =>
      ∃ A' c', e = .returned (.tuple #[.slice A' (selL (exG l n) (l ++ [n])).length c', .bool (exG l n)]) ∧ OwI w' w.heap.size (.slice A' (selL (exG l n) (l ++ [n])).length c') (selL (exG l n) (l ++ [n])) ∧ Below w.heap.size w w' := by
  have hS := chGood_any B A c l w hl hB hr
  cases hg : chG l with
  | false =>
    rw [hg] at hS
    have HS := Lib.hid hS
    have E := Lib.hid (show exG l n = false by unfold exG; rw [hg]; rfl)
    clear hS hr hg
    go_enter Try.func37, Try.ntmps37
    go_wp2_with (go_at_call 49; refine HS.out.mono ?_; rintro e w2 ⟨rfl, hb2⟩)
    go_ret2
    exact ⟨none, 0, by rw [E.out]; rfl, by rw [E.out]; exact OwI.nil _ _, hb2⟩
  | true =>
    rw [hg] at hS
    have hl2 := (chG_chn hg).most
    have E := Lib.hid (show exG l n = chG (l ++ [n]) by unfold exG; rw [hg]; rfl)
    have HS := Lib.hid hS
    have H := Lib.hid hr
    have hN := fun W => chNumber_any n W
    clear hS hr hg
    cases hn : isNum n with
    | false =>
      have F := Lib.hid (show exG l n = false by
        rw [E.out]
        cases hq : chG (l ++ [n]) with
        | false => rfl
        | true => rw [chG_snoc hq] at hn; cases hn)
      rw [hn] at hN
      have HN := Lib.hid hN
      clear hN hn
      go_enter Try.func37, Try.ntmps37
      go_wp2_with (first
        | (go_at_call 49; refine HS.out.mono ?_; rintro e w2 ⟨rfl, hb2⟩)
        | (go_at_call 59; refine (HN.out _).mono ?_; rintro e w3 ⟨rfl, rfl⟩))
      go_ret2
      exact ⟨none, 0, by rw [F.out]; rfl, by rw [F.out]; exact OwI.nil _ _, hb2⟩
    | true =>
      rw [hn] at hN
      have HN := Lib.hid hN
      clear hN hn
      rw [E.out]
      have hC := fun W A' c' hown => chIf_any w.heap.size A' c' (l ++ [n]) W (by simp; omega) hown
      rw [show (l ++ [n]).length = l.length + 1 by simp] at hC
      obtain ⟨r, hr'⟩ : ∃ r, selL (chG (l ++ [n])) (l ++ [n]) = r := ⟨_, rfl⟩
      obtain ⟨g, hg'⟩ : ∃ g, chG (l ++ [n]) = g := ⟨_, rfl⟩
      rw [hr', hg'] at hC ⊢
      have HC := Lib.hid hC
      clear hC hr' hg' E
      go_enter Try.func37, Try.ntmps37
      go_wp2_with (first
        | (go_at_call 49; refine HS.out.mono ?_; rintro e w2 ⟨rfl, hb2⟩; have HB2 := Lib.hid hb2; have hs2 : w.heap.size ≤ w2.heap.size := hb2.size; clear hb2)
        | (go_at_call 59; refine (HN.out _).mono ?_; rintro e w3 ⟨rfl, rfl⟩)
        | (go_at_call 61; refine (l1Own_any B A c l w2 (by omega) (by omega) (H.out.below' HB2.out hB)).mono ?_; rintro e w4 ⟨A4, c4, rfl, hown4, hb4⟩; have OW4 := Lib.hid (show w4.ownsRow w.heap.size 3 1 (.slice A4 l.length c4) l.length (l.map I) from own_base hown4 hs2); have HB4 := Lib.hid (HB2.out.trans (hb4.mono hs2)); have hs4 : w2.heap.size ≤ w4.heap.size := hb4.size; clear hown4 hb4)
        | (at_builtin; refine list_step (fun K hK => ?_); refine step_app1 Try.underlying22 info_int rfl (by omega) rfl (.tmp 15) (.tmp 17) rfl w.heap.size l.length _ (l.map I) rfl (World.ownsRow.alloc OW4.out _) w4.heap.size 1 (I n) rfl (by rw [World.cell?_alloc_at _ _ _ _ rfl]; rfl) rfl (by omega) (by simp; omega) ?_; intro A5 c5 w5 hown5 hg5 hbel5; have OW5 := Lib.hid (show OwI w5 w.heap.size (.slice A5 (l.length + 1) c5) (l ++ [n]) from (by unfold OwI; rw [List.map_append, show (l ++ [n]).length = l.length + 1 by simp]; exact hown5)); have HB5 := Lib.hid ((HB4.out.alloc (by omega) _).trans hbel5); have hs5 : w.heap.size ≤ w5.heap.size := HB5.out.size; clear hown5 hg5 hbel5; go_simp; refine hK _ _ ?_; clear hK K)
        | (go_at_call 60; refine (HC.out w5 A5 c5 OW5.out).mono ?_; rintro e w6 ⟨A6, c6, rfl, hown6, hb6⟩))
      go_ret2
      exact ⟨A6, c6, rfl, hown6, HB5.out.trans (hb6.mono hs5)⟩

set_option maxRecDepth 100000 in
set_option maxHeartbeats 2000000 in
theorem implExtend_any (B : Nat) (A : Option Addr) (c : Nat) (l : List Int) (n : Int) (w : World) (hB : B ≤ w.heap.size) (hl : l.length ≤ 1048576) (hcap : l.length ≤ c) (hr : Rd w B 1 A l.length (l.map I)) :
    Calls Try.prog 38 #[.slice A l.length c, .int .i64 n] w fun e w' =>
      ∃ A' c', e = .returned (.tuple #[.slice A' (selL (exG l n) (l ++ [n])).length c', .bool (exG l n)]) ∧ OwI w' w.heap.size (.slice A' (selL (exG l n) (l ++ [n])).length c') (selL (exG l n) (l ++ [n])) ∧ Below w.heap.size w w' := by
  have hS := implIsChain_any B A c l w hB hl hcap hr
  cases hg : chG l with
  | false =>
    rw [hg] at hS
    have HS := Lib.hid hS
    have E := Lib.hid (show exG l n = false by unfold exG; rw [hg]; rfl)
    clear hS hr hg
    go_enter Try.func38, Try.ntmps38
    go_wp2_with (go_at_call 17; refine HS.out.mono ?_; rintro e w2 ⟨rfl, hb2⟩)
    go_ret2
    exact ⟨none, 0, by rw [E.out]; rfl, by rw [E.out]; exact OwI.nil _ _, hb2⟩
  | true =>
    rw [hg] at hS
    have hl1 := (chG_chn hg).pos
    have hl2 := (chG_chn hg).most
    have E := Lib.hid (show exG l n = chG (l ++ [n]) by unfold exG; rw [hg]; rfl)
    have HS := Lib.hid hS
    have H := Lib.hid hr
    clear hS hr hg
    rw [E.out]
    have hC := fun W A' c' hown => chainOrNone_any w.heap.size A' c' (l ++ [n]) W (by simp; omega) hown
    rw [show (l ++ [n]).length = l.length + 1 by simp] at hC
    obtain ⟨r, hr'⟩ : ∃ r, selL (chG (l ++ [n])) (l ++ [n]) = r := ⟨_, rfl⟩
    obtain ⟨g, hg'⟩ : ∃ g, chG (l ++ [n]) = g := ⟨_, rfl⟩
    rw [hr', hg'] at hC ⊢
    have HC := Lib.hid hC
    clear hC hr' hg' E
    go_enter Try.func38, Try.ntmps38
    go_wp2_with (first
      | (go_at_call 17; refine HS.out.mono ?_; rintro e w2 ⟨rfl, hb2⟩; have HB2 := Lib.hid hb2; have hs2 : w.heap.size ≤ w2.heap.size := hb2.size; clear hb2)
      | (go_at_call 63; refine (cloneI_any B A c l w2 (by omega) (by omega) (by omega) (H.out.below' HB2.out hB)).mono ?_; rintro e w4 ⟨A4, c4, rfl, hown4, hb4⟩; have OW4 := Lib.hid (show w4.ownsRow w.heap.size 3 1 (.slice A4 l.length c4) l.length (l.map I) from own_base hown4 hs2); have HB4 := Lib.hid (HB2.out.trans (hb4.mono hs2)); have hs4 : w2.heap.size ≤ w4.heap.size := hb4.size; clear hown4 hb4)
      | (at_builtin; refine list_step (fun K hK => ?_); refine step_app1 Try.underlying22 info_int rfl (by omega) rfl (.tmp 10) (.tmp 12) rfl w.heap.size l.length _ (l.map I) rfl (World.ownsRow.alloc OW4.out _) w4.heap.size 1 (I n) rfl (by rw [World.cell?_alloc_at _ _ _ _ rfl]; rfl) rfl (by omega) (by simp; omega) ?_; intro A5 c5 w5 hown5 hg5 hbel5; have OW5 := Lib.hid (show OwI w5 w.heap.size (.slice A5 (l.length + 1) c5) (l ++ [n]) from (by unfold OwI; rw [List.map_append, show (l ++ [n]).length = l.length + 1 by simp]; exact hown5)); have HB5 := Lib.hid ((HB4.out.alloc (by omega) _).trans hbel5); have hs5 : w.heap.size ≤ w5.heap.size := HB5.out.size; clear hown5 hg5 hbel5; go_simp; refine hK _ _ ?_; clear hK K)
      | (go_at_call 62; refine (HC.out w5 A5 c5 OW5.out).mono ?_; rintro e w6 ⟨A6, c6, rfl, hown6, hb6⟩))
    go_ret2
    exact ⟨A6, c6, rfl, hown6, HB5.out.trans (hb6.mono hs5)⟩
end Go.Proofs.Ytbbjgcagkmlngac
