/- A number put into a chain. -/
import Derived.Test.YtbbjgcagkmlngacQu
namespace Go.Proofs.Ytbbjgcagkmlngac
open Go.RowKit

theorem mem_putI (l : List Int) (x : Int) : x ∈ putI l x := by
  unfold putI
  split
  · assumption
  · unfold insA
    exact List.mem_append_right _ List.mem_cons_self
theorem chG_mem {r : List Int} {x : Int} (h : chG r = true) (hx : x ∈ r) : isNum x = true := by
  obtain ⟨i, hi, rfl⟩ := List.mem_iff_getElem.1 hx
  have h1 := (chG_chn h).rng i hi
  have e : r.getD i 0 = r[i] := by simp [hi]
  rw [e] at h1
  unfold isNum inB
  simpa using h1
def inG (l : List Int) (x : Int) : Bool := (chG l && !hasI l x) && chG (putI l x)
theorem hasI_not {l : List Int} {x : Int} (h : hasI l x = false) : ¬ x ∈ l := by rw [hasI_mem] at h; simpa using h

set_option maxRecDepth 100000 in
set_option maxHeartbeats 2000000 in
theorem specInsert_any (B : Nat) (A : Option Addr) (c : Nat) (l : List Int) (x : Int) (w : World) (hB : B ≤ w.heap.size) (hl : l.length ≤ 1048576) (hcap : l.length ≤ c) (hr : Rd w B 1 A l.length (l.map I)) :
    Calls Try.prog 39 #[.slice A l.length c, .int .i64 x] w fun e w' =>
      ∃ A' c', e = .returned (.tuple #[.slice A' (selL (inG l x) (putI l x)).length c', .bool (inG l x)]) ∧ OwI w' w.heap.size (.slice A' (selL (inG l x) (putI l x)).length c') (selL (inG l x) (putI l x)) ∧ Below w.heap.size w w' := by
  have hS := chGood_any B A c l w hl hB hr
  have H := Lib.hid hr
  clear hr
  cases hg : chG l with
  | false =>
    rw [hg] at hS
    have HS := Lib.hid hS
    have E := Lib.hid (show inG l x = false by unfold inG; rw [hg]; rfl)
    clear hS hg
    go_enter Try.func39, Try.ntmps39
    go_wp2_with (go_at_call 49; refine HS.out.mono ?_; rintro e w2 ⟨rfl, hb2⟩)
    go_ret2
    exact ⟨none, 0, by rw [E.out]; rfl, by rw [E.out]; exact OwI.nil _ _, hb2⟩
  | true =>
    rw [hg] at hS
    have CH := chG_chn hg
    have hl2 := CH.most
    have HA := Lib.hid CH.asc
    have HS := Lib.hid hS
    have hN := fun W => chNumber_any x W
    clear hS CH
    cases hn : isNum x with
    | false =>
      have F := Lib.hid (show inG l x = false by
        unfold inG
        cases hq : chG (putI l x) with
        | false => simp
        | true => rw [chG_mem hq (mem_putI l x)] at hn; cases hn)
      rw [hn] at hN
      have HN := Lib.hid hN
      clear hN hn hg
      go_enter Try.func39, Try.ntmps39
      go_wp2_with (first
        | (go_at_call 49; refine HS.out.mono ?_; rintro e w2 ⟨rfl, hb2⟩)
        | (go_at_call 59; refine (HN.out _).mono ?_; rintro e w3 ⟨rfl, rfl⟩))
      go_ret2
      exact ⟨none, 0, by rw [F.out]; rfl, by rw [F.out]; exact OwI.nil _ _, hb2⟩
    | true =>
      rw [hn] at hN
      have HN := Lib.hid hN
      clear hN hn
      have hH := fun (W : World) (hb : Below w.heap.size w W) => l1Has_any B A c l x W (by omega) (H.out.below' hb hB)
      cases hh : hasI l x with
      | true =>
        have F := Lib.hid (show inG l x = false by unfold inG; rw [hh]; simp)
        rw [hh] at hH
        have HH := Lib.hid hH
        clear hH hh hg
        go_enter Try.func39, Try.ntmps39
        go_wp2_with (first
          | (go_at_call 49; refine HS.out.mono ?_; rintro e w2 ⟨rfl, hb2⟩; have HB2 := Lib.hid hb2; clear hb2)
          | (go_at_call 59; refine (HN.out _).mono ?_; rintro e w3 ⟨rfl, rfl⟩)
          | (go_at_call 64; refine (HH.out w2 HB2.out).mono ?_; rintro e w4 ⟨rfl, rfl⟩))
        go_ret2
        exact ⟨none, 0, by rw [F.out]; rfl, by rw [F.out]; exact OwI.nil _ _, HB2.out⟩
      | false =>
        rw [hh] at hH
        have HH := Lib.hid hH
        have E := Lib.hid (show inG l x = chG (putI l x) by unfold inG; rw [hg, hh]; rfl)
        have NX := Lib.hid (hasI_not hh)
        clear hH hh hg
        rw [E.out]
        have hpl : (putI l x).length ≤ 1048576 := Nat.le_trans (putI_le l x) (by omega)
        have hP := fun (W : World) (hb : Below w.heap.size w W) => l1PutN_any B A c l x W (by omega) HA.out NX.out hcap (by have := hb.size; omega) (H.out.below' hb hB)
        obtain ⟨u, hu⟩ : ∃ u, putI l x = u := ⟨_, rfl⟩
        rw [hu] at hP hpl ⊢
        have hC := fun W A' c' hown => chIf_any w.heap.size A' c' u W hpl hown
        obtain ⟨r, hr'⟩ : ∃ r, selL (chG u) u = r := ⟨_, rfl⟩
        obtain ⟨g, hg'⟩ : ∃ g, chG u = g := ⟨_, rfl⟩
        rw [hr', hg'] at hC ⊢
        have HC := Lib.hid hC
        have HP := Lib.hid hP
        clear hC hP hr' hg' hu E
        go_enter Try.func39, Try.ntmps39
        go_wp2_with (first
          | (go_at_call 49; refine HS.out.mono ?_; rintro e w2 ⟨rfl, hb2⟩; have HB2 := Lib.hid hb2; have hs2 : w.heap.size ≤ w2.heap.size := hb2.size; clear hb2)
          | (go_at_call 59; refine (HN.out _).mono ?_; rintro e w3 ⟨rfl, rfl⟩)
          | (go_at_call 64; refine (HH.out w2 HB2.out).mono ?_; rintro e w4 ⟨rfl, rfl⟩)
          | (go_at_call 65; refine (HP.out w2 HB2.out).mono ?_; rintro e w5 ⟨A5, c5, rfl, hown5, hb5⟩; have OW5 := Lib.hid (hown5.base hs2); have HB5 := Lib.hid (HB2.out.trans (hb5.mono hs2)); have hs5 : w.heap.size ≤ w5.heap.size := HB5.out.size; clear hown5 hb5)
          | (go_at_call 60; refine (HC.out w5 A5 c5 OW5.out).mono ?_; rintro e w6 ⟨A6, c6, rfl, hown6, hb6⟩))
        go_ret2
        exact ⟨A6, c6, rfl, hown6, HB5.out.trans (hb6.mono hs5)⟩

set_option maxRecDepth 100000 in
set_option maxHeartbeats 2000000 in
theorem implInsert_any (B : Nat) (A : Option Addr) (c : Nat) (l : List Int) (x : Int) (w : World) (hB : B ≤ w.heap.size) (hl : l.length ≤ 1048576) (hcap : l.length ≤ c) (hr : Rd w B 1 A l.length (l.map I)) :
    Calls Try.prog 40 #[.slice A l.length c, .int .i64 x] w fun e w' =>
      ∃ A' c', e = .returned (.tuple #[.slice A' (selL (inG l x) (putI l x)).length c', .bool (inG l x)]) ∧ OwI w' w.heap.size (.slice A' (selL (inG l x) (putI l x)).length c') (selL (inG l x) (putI l x)) ∧ Below w.heap.size w w' := by
  have hS := implIsChain_any B A c l w hB hl hcap hr
  have H := Lib.hid hr
  clear hr
  cases hg : chG l with
  | false =>
    rw [hg] at hS
    have HS := Lib.hid hS
    have E := Lib.hid (show inG l x = false by unfold inG; rw [hg]; rfl)
    clear hS hg
    go_enter Try.func40, Try.ntmps40
    go_wp2_with (go_at_call 17; refine HS.out.mono ?_; rintro e w2 ⟨rfl, hb2⟩)
    go_ret2
    exact ⟨none, 0, by rw [E.out]; rfl, by rw [E.out]; exact OwI.nil _ _, hb2⟩
  | true =>
    rw [hg] at hS
    have CH := chG_chn hg
    have hl1 := CH.pos
    have hl2 := CH.most
    have HA := Lib.hid CH.asc
    have HS := Lib.hid hS
    clear hS CH
    have hH := fun (W : World) (hb : Below w.heap.size w W) => hasA_any B A c l x W (by omega) HA.out (H.out.below' hb hB)
    cases hh : hasI l x with
    | true =>
      have F := Lib.hid (show inG l x = false by unfold inG; rw [hh]; simp)
      rw [hh] at hH
      have HH := Lib.hid hH
      clear hH hh hg
      go_enter Try.func40, Try.ntmps40
      go_wp2_with (first
        | (go_at_call 17; refine HS.out.mono ?_; rintro e w2 ⟨rfl, hb2⟩; have HB2 := Lib.hid hb2; clear hb2)
        | (go_at_call 66; refine (HH.out w2 HB2.out).mono ?_; rintro e w4 ⟨rfl, ⟨nd, rfl⟩⟩))
      go_ret2
      exact ⟨none, 0, by rw [F.out]; rfl, by rw [F.out]; exact OwI.nil _ _, bDrewN HB2.out nd⟩
    | false =>
      rw [hh] at hH
      have HH := Lib.hid hH
      have E := Lib.hid (show inG l x = chG (putI l x) by unfold inG; rw [hg, hh]; rfl)
      clear hH hh hg
      rw [E.out]
      have hpl : (putI l x).length ≤ 1048576 := Nat.le_trans (putI_le l x) (by omega)
      have hP := fun (W : World) (hb : Below w.heap.size w W) => with_any B A c l x W (by omega) HA.out (fun h => by rw [h] at hl1; simp at hl1) (by have := hb.size; omega) (H.out.below' hb hB)
      obtain ⟨u, hu⟩ : ∃ u, putI l x = u := ⟨_, rfl⟩
      rw [hu] at hP hpl ⊢
      have hC := fun W A' c' hown => chainOrNone_any w.heap.size A' c' u W hpl hown
      obtain ⟨r, hr'⟩ : ∃ r, selL (chG u) u = r := ⟨_, rfl⟩
      obtain ⟨g, hg'⟩ : ∃ g, chG u = g := ⟨_, rfl⟩
      rw [hr', hg'] at hC ⊢
      have HC := Lib.hid hC
      have HP := Lib.hid hP
      clear hC hP hr' hg' hu E
      go_enter Try.func40, Try.ntmps40
      go_wp2_with (first
        | (go_at_call 17; refine HS.out.mono ?_; rintro e w2 ⟨rfl, hb2⟩; have HB2 := Lib.hid hb2; have hs2 : w.heap.size ≤ w2.heap.size := hb2.size; clear hb2)
        | (go_at_call 66; refine (HH.out w2 HB2.out).mono ?_; rintro e w4 ⟨rfl, ⟨nd, rfl⟩⟩)
        | (go_at_call 67; refine (HP.out (w2.drewN nd) (bDrewN HB2.out nd)).mono ?_; rintro e w5 ⟨A5, c5, rfl, hown5, hb5⟩; have OW5 := Lib.hid (hown5.base hs2); have HB5 := Lib.hid ((bDrewN HB2.out nd).trans (hb5.mono hs2)); have hs5 : w.heap.size ≤ w5.heap.size := HB5.out.size; clear hown5 hb5)
        | (go_at_call 62; refine (HC.out w5 A5 c5 OW5.out).mono ?_; rintro e w6 ⟨A6, c6, rfl, hown6, hb6⟩))
      go_ret2
      exact ⟨A6, c6, rfl, hown6, HB5.out.trans (hb6.mono hs5)⟩
end Go.Proofs.Ytbbjgcagkmlngac
