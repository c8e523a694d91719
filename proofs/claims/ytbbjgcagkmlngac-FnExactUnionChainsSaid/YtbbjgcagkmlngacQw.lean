/- What is in one of two chains. -/
import Derived.Test.YtbbjgcagkmlngacQv
namespace Go.Proofs.Ytbbjgcagkmlngac
open Go.RowKit

theorem mem_at_cnt {l : List Int} (ha : Asc l) {x : Int} (hx : x ∈ l) : cnt l x < l.length ∧ l.getD (cnt l x) 0 = x := by
  obtain ⟨h1, h2⟩ := cnt_parts ha x
  have h := mem_at ha (cnt_le l x) h1 h2
  rw [decide_eq_true hx] at h
  exact of_decide_eq_true h.symm

set_option maxRecDepth 100000 in
set_option maxHeartbeats 1000000 in
/-- Of a number that is there the list itself is answered. -/
theorem l1PutH_any (B : Nat) (A : Option Addr) (c : Nat) (l : List Int) (x : Int) (w : World) (hm : l.length ≤ 1000) (ha : Asc l) (hx : x ∈ l) (hr : Rd w B 1 A l.length (l.map I)) :
    Calls Try.prog 65 #[.slice A l.length c, .int .i64 x] w fun e w' => e = .returned (.slice A l.length c) ∧ w = w' := by
  obtain ⟨q1, q2⟩ := mem_at_cnt ha hx
  obtain ⟨p1, _⟩ := cnt_parts ha x
  obtain ⟨b, off, rfl, hb, hc⟩ := hr.cells (by omega)
  have HC := Lib.hid hc
  have P1 := Lib.hid p1
  obtain ⟨a, haa⟩ : ∃ a, cnt l x = a := ⟨_, rfl⟩
  rw [haa] at q1 q2
  have AA := Lib.hid haa
  have Q2 := Lib.hid q2
  clear hr hc ha hx p1 haa q2
  go_enter Try.func65, Try.ntmps65
  go_wp2
  go_loop [5] (fun i => ∃ k : Nat, k ≤ a ∧ i = .int .i64 k) (fun i => a - (intOf i).toNat)
  case atStart => exact ⟨0, by omega, rfl⟩
  case round =>
    obtain ⟨k, hk, rfl⟩ := hrel
    have ck := HC.out k (by omega)
    have ik : (k : Int) < (l.length : Int) := by omega
    by_cases hka : k < a
    · have hlt : l.getD k 0 < x := P1.out k (by rw [AA.out]; exact hka)
      obtain ⟨y, hy⟩ : ∃ y, l.getD k 0 = y := ⟨_, rfl⟩
      rw [hy] at ck hlt
      clear hy
      go_wp2
      go_round
      case rel => exact ⟨k + 1, by omega, by go_num⟩
      case measure => simp [intOf]; omega
    · have e : k = a := by omega
      subst e
      rw [Q2.out] at ck
      go_wp2
      go_ret
      exact ⟨rfl, rfl⟩

set_option maxHeartbeats 1000000 in
theorem l1PutO_any (B0 : Nat) (A : Option Addr) (c : Nat) (l : List Int) (x : Int) (w : World) (hm : l.length ≤ 1000) (ha : Asc l) (hB : B0 ≤ w.heap.size) (hown : OwI w B0 (.slice A l.length c) l) :
    Calls Try.prog 65 #[.slice A l.length c, .int .i64 x] w fun e w' => ∃ A' c', e = .returned (.slice A' (putI l x).length c') ∧ OwI w' B0 (.slice A' (putI l x).length c') (putI l x) ∧ Below w.heap.size w w' := by
  by_cases hx : x ∈ l
  · refine (l1PutH_any w.heap.size A c l x w hm ha hx hown.rd).mono ?_
    rintro e w' ⟨rfl, rfl⟩
    rw [putI_has hx]
    exact ⟨A, c, rfl, hown, Below.refl _ _⟩
  · refine (l1PutN_any w.heap.size A c l x w hm ha hx hown.cap (Nat.le_refl _) hown.rd).mono ?_
    rintro e w' ⟨A', c', rfl, h1, h2⟩
    exact ⟨A', c', rfl, h1.base hB, h2⟩

def uniK (a b : List Int) (k : Nat) : List Int := (b.take k).foldl putI a
def uni (a b : List Int) : List Int := b.foldl putI a
theorem uniK_end (a b : List Int) : uniK a b b.length = uni a b := by unfold uniK uni; rw [List.take_length]
theorem uniK_zero (a b : List Int) : uniK a b 0 = a := rfl
theorem uniK_succ {a b : List Int} {k : Nat} (hk : k < b.length) : uniK a b (k + 1) = putI (uniK a b k) (b.getD k 0) := by
  unfold uniK
  rw [take_succ_getD hk, List.foldl_append]
  rfl
theorem uniK_ok {a b : List Int} (ha : Asc a) (h0 : 1 ≤ a.length) : ∀ k, k ≤ b.length → Asc (uniK a b k) ∧ 1 ≤ (uniK a b k).length ∧ (uniK a b k).length ≤ a.length + k := by
  intro k
  induction k with
  | zero => intro _; rw [uniK_zero]; exact ⟨ha, h0, by omega⟩
  | succ k ih =>
    intro hk
    obtain ⟨h1, h2, h3⟩ := ih (by omega)
    rw [uniK_succ (by omega)]
    refine ⟨putI_asc h1 _, ?_, ?_⟩
    · have := List.length_pos_of_mem (mem_putI (uniK a b k) (b.getD k 0))
      omega
    · have := putI_le (uniK a b k) (b.getD k 0)
      omega
def unG (a b : List Int) : Bool := (chG a && chG b) && chG (uni a b)

set_option maxRecDepth 100000 in
set_option maxHeartbeats 2000000 in
theorem union_any (B : Nat) (A : Option Addr) (c : Nat) (a : List Int) (A1 : Option Addr) (c1 : Nat) (b : List Int) (w : World) (ha : Chn a) (hb : Chn b) (hB : B ≤ w.heap.size) (hr : Rd w B 1 A a.length (a.map I)) (hr1 : Rd w B 1 A1 b.length (b.map I)) :
    Calls Try.prog 69 #[.slice A a.length c, .slice A1 b.length c1] w fun e w' =>
      ∃ A' c', e = .returned (.slice A' (uni a b).length c') ∧ OwI w' w.heap.size (.slice A' (uni a b).length c') (uni a b) ∧ Below w.heap.size w w' := by
  have h0 := ha.pos
  have hla := ha.most
  have hlb := hb.most
  have hb0 := hb.pos
  obtain ⟨g, off, rfl, hbB, hc⟩ := hr1.cells (by omega)
  have HC := Lib.hid hc
  have HOK := Lib.hid (uniK_ok (b := b) ha.asc ha.pos)
  have HCL := Lib.hid (cloneA_any B A c a w (by omega) (by omega) hB hr)
  clear hr hr1 hc ha hb
  go_enter Try.func69, Try.ntmps69
  go_wp2_with (go_at_call 81; refine HCL.out.mono ?_; rintro e w2 ⟨A2, c2, rfl, hown2, hb2⟩)
  have OW2 := Lib.hid hown2
  have HB2 := Lib.hid hb2
  clear hown2 hb2
  go_loopw [5, 12] (fun ov iv wr => ∃ (k n : Nat) (A3 : Option Addr) (c3 : Nat), k ≤ b.length ∧ iv = .int .i64 k ∧ ov = .slice A3 n c3 ∧ n = (uniK a b k).length ∧ wr.ownsRow w.heap.size 3 1 (.slice A3 n c3) n ((uniK a b k).map I) ∧ Below w.heap.size w wr) (fun _ i _ => b.length - (intOf i).toNat)
  case atStart => exact ⟨0, a.length, A2, c2, by omega, rfl, rfl, rfl, OW2.out, HB2.out⟩
  case round =>
    obtain ⟨k, n, A3, c3, hk, rfl, rfl, hn, hown, hbel⟩ := hrel
    have OWN := Lib.hid hown
    have BEL := Lib.hid hbel
    have HN := Lib.hid hn
    have hs : w.heap.size ≤ wr.heap.size := hbel.size
    clear hown hbel
    by_cases hlt : k < b.length
    · have ik : (k : Int) < (b.length : Int) := by omega
      have ck := (BEL.out.cell (p := ⟨g, off + k, none⟩) (by simp only []; omega)).trans (HC.out k hlt)
      have SUC := Lib.hid (uniK_succ (a := a) hlt)
      obtain ⟨ok1, ok2, ok3⟩ := HOK.out k (by omega)
      obtain ⟨x, hx⟩ : ∃ x, b.getD k 0 = x := ⟨_, rfl⟩
      rw [hx] at ck SUC
      have hW := with_any wr.heap.size A3 c3 (uniK a b k) x wr (by omega) ok1 (fun h => by rw [h] at ok2; simp at ok2) (Nat.le_refl _) (by
        have h := OWN.out
        rw [HN.out] at h
        exact Rd.of_own h)
      rw [← hn] at hW
      have HW := Lib.hid hW
      have HS := Lib.hid hs
      clear hW hx ok1 ok2 ok3 hn
      go_wp2_with (go_at_call 67; refine HW.out.mono ?_; rintro e w5 ⟨A5, c5, rfl, hown5, hb5⟩)
      go_roundw
      case rel =>
        refine ⟨k + 1, (putI (uniK a b k) x).length, A5, c5, by omega, by go_num, rfl, by rw [SUC.out], ?_, BEL.out.trans (hb5.mono HS.out)⟩
        rw [SUC.out]
        exact hown5.base HS.out
      case measure => simp [intOf]; omega
    · have e : k = b.length := by omega
      subst e
      rw [uniK_end] at hn
      subst hn
      go_wp2
      go_ret
      refine ⟨A3, c3, rfl, ?_, BEL.out⟩
      have h := OWN.out
      rw [uniK_end] at h
      exact h

set_option maxRecDepth 100000 in
set_option maxHeartbeats 2000000 in
theorem implUnion_any (B : Nat) (A : Option Addr) (c : Nat) (a : List Int) (A1 : Option Addr) (c1 : Nat) (b : List Int) (w : World) (hB : B ≤ w.heap.size) (hl : a.length ≤ 1048576) (hl1 : b.length ≤ 1048576) (hcap : a.length ≤ c) (hcap1 : b.length ≤ c1)
    (hr : Rd w B 1 A a.length (a.map I)) (hr1 : Rd w B 1 A1 b.length (b.map I)) :
    Calls Try.prog 44 #[.slice A a.length c, .slice A1 b.length c1] w fun e w' =>
      ∃ A' c', e = .returned (.tuple #[.slice A' (selL (unG a b) (uni a b)).length c', .bool (unG a b)]) ∧ OwI w' w.heap.size (.slice A' (selL (unG a b) (uni a b)).length c') (selL (unG a b) (uni a b)) ∧ Below w.heap.size w w' := by
  have hS := implIsChain_any B A c a w hB hl hcap hr
  have H := Lib.hid hr
  have H1 := Lib.hid hr1
  clear hr hr1
  cases hg : chG a with
  | false =>
    rw [hg] at hS
    have HS := Lib.hid hS
    have E := Lib.hid (show unG a b = false by unfold unG; rw [hg]; rfl)
    clear hS hg
    go_enter Try.func44, Try.ntmps44
    go_wp2_with (go_at_call 17; refine HS.out.mono ?_; rintro e w2 ⟨rfl, hb2⟩)
    go_ret2
    exact ⟨none, 0, by rw [E.out]; rfl, by rw [E.out]; exact OwI.nil _ _, hb2⟩
  | true =>
    rw [hg] at hS
    have HS := Lib.hid hS
    clear hS
    have hS1 := fun (W : World) (hb : Below w.heap.size w W) => implIsChain_any B A1 c1 b W (by have := hb.size; omega) hl1 hcap1 (H1.out.below' hb hB)
    cases hg1 : chG b with
    | false =>
      rw [hg1] at hS1
      have HS1 := Lib.hid hS1
      have E := Lib.hid (show unG a b = false by unfold unG; rw [hg1]; simp)
      clear hS1 hg hg1
      go_enter Try.func44, Try.ntmps44
      go_wp2_with fail
      go_at_call 17
      refine HS.out.mono ?_
      rintro e w2 ⟨rfl, hb2⟩
      have HB2 := Lib.hid hb2
      have hs2 : w.heap.size ≤ w2.heap.size := hb2.size
      clear hb2
      go_wp2_with (go_at_call 17; refine (HS1.out w2 HB2.out).mono ?_; rintro e w3 ⟨rfl, hb3⟩)
      go_ret2
      exact ⟨none, 0, by rw [E.out]; rfl, by rw [E.out]; exact OwI.nil _ _, HB2.out.trans (hb3.mono hs2)⟩
    | true =>
      rw [hg1] at hS1
      have HS1 := Lib.hid hS1
      have CA := Lib.hid (chG_chn hg)
      have CB := Lib.hid (chG_chn hg1)
      have hla := CA.out.most
      have hlb := CB.out.most
      have E := Lib.hid (show unG a b = chG (uni a b) by unfold unG; rw [hg, hg1]; rfl)
      have hmm : (uni a b).length ≤ 82 := by
        have h := (uniK_ok (b := b) CA.out.asc CA.out.pos b.length (Nat.le_refl _)).2.2
        rw [uniK_end] at h
        omega
      rw [E.out]
      have hM := fun W hB' r1 r2 => union_any B A c a A1 c1 b W CA.out CB.out hB' r1 r2
      have hC := fun W A' c' hown => chainOrNone_any w.heap.size A' c' (uni a b) W (by omega) hown
      obtain ⟨u, hu⟩ : ∃ u, uni a b = u := ⟨_, rfl⟩
      rw [hu] at hM hC hmm ⊢
      obtain ⟨r, hr'⟩ : ∃ r, selL (chG u) u = r := ⟨_, rfl⟩
      obtain ⟨g, hg'⟩ : ∃ g, chG u = g := ⟨_, rfl⟩
      rw [hr', hg'] at hC ⊢
      have HC := Lib.hid hC
      have HM := Lib.hid hM
      clear hC hM hr' hg' E hu hS1 hg hg1
      go_enter Try.func44, Try.ntmps44
      go_wp2_with fail
      go_at_call 17
      refine HS.out.mono ?_
      rintro e w2 ⟨rfl, hb2⟩
      have HB2 := Lib.hid hb2
      have hs2 : w.heap.size ≤ w2.heap.size := hb2.size
      clear hb2
      go_wp2_with (first
        | (go_at_call 17; refine (HS1.out w2 HB2.out).mono ?_; rintro e w3 ⟨rfl, hb3⟩; have HB3 := Lib.hid (HB2.out.trans (hb3.mono hs2)); have hs3 : w.heap.size ≤ w3.heap.size := HB3.out.size; clear hb3)
        | (go_at_call 69; refine (HM.out w3 (by omega) (H.out.below' HB3.out hB) (H1.out.below' HB3.out hB)).mono ?_; rintro e w4 ⟨A4, c4, rfl, hown4, hb4⟩; have OW4 := Lib.hid (hown4.base hs3); have HB4 := Lib.hid (HB3.out.trans (hb4.mono hs3)); have hs4 : w.heap.size ≤ w4.heap.size := HB4.out.size; clear hown4 hb4)
        | (go_at_call 62; refine (HC.out w4 A4 c4 OW4.out).mono ?_; rintro e w6 ⟨A6, c6, rfl, hown6, hb6⟩))
      go_ret2
      exact ⟨A6, c6, rfl, hown6, HB4.out.trans (hb6.mono hs4)⟩

set_option maxRecDepth 100000 in
set_option maxHeartbeats 2000000 in
theorem specUnion_any (B : Nat) (A : Option Addr) (c : Nat) (a : List Int) (A1 : Option Addr) (c1 : Nat) (b : List Int) (w : World) (hB : B ≤ w.heap.size) (hl : a.length ≤ 1048576) (hl1 : b.length ≤ 1048576) (_hcap : a.length ≤ c) (_hcap1 : b.length ≤ c1)
    (hr : Rd w B 1 A a.length (a.map I)) (hr1 : Rd w B 1 A1 b.length (b.map I)) :
    Calls Try.prog 43 #[.slice A a.length c, .slice A1 b.length c1] w fun e w' =>
      ∃ A' c', e = .returned (.tuple #[.slice A' (selL (unG a b) (uni a b)).length c', .bool (unG a b)]) ∧ OwI w' w.heap.size (.slice A' (selL (unG a b) (uni a b)).length c') (selL (unG a b) (uni a b)) ∧ Below w.heap.size w w' := by
  have hS := chGood_any B A c a w hl hB hr
  have H := Lib.hid hr
  have H1 := Lib.hid hr1
  clear hr hr1
  cases hg : chG a with
  | false =>
    rw [hg] at hS
    have HS := Lib.hid hS
    have E := Lib.hid (show unG a b = false by unfold unG; rw [hg]; rfl)
    clear hS hg
    go_enter Try.func43, Try.ntmps43
    go_wp2_with (go_at_call 49; refine HS.out.mono ?_; rintro e w2 ⟨rfl, hb2⟩)
    go_ret2
    exact ⟨none, 0, by rw [E.out]; rfl, by rw [E.out]; exact OwI.nil _ _, hb2⟩
  | true =>
    rw [hg] at hS
    have HS := Lib.hid hS
    clear hS
    have hS1 := fun (W : World) (hb : Below w.heap.size w W) => chGood_any B A1 c1 b W hl1 (by have := hb.size; omega) (H1.out.below' hb hB)
    cases hg1 : chG b with
    | false =>
      rw [hg1] at hS1
      have HS1 := Lib.hid hS1
      have E := Lib.hid (show unG a b = false by unfold unG; rw [hg1]; simp)
      clear hS1 hg hg1
      go_enter Try.func43, Try.ntmps43
      go_wp2_with fail
      go_at_call 49
      refine HS.out.mono ?_
      rintro e w2 ⟨rfl, hb2⟩
      have HB2 := Lib.hid hb2
      have hs2 : w.heap.size ≤ w2.heap.size := hb2.size
      clear hb2
      go_wp2_with (go_at_call 49; refine (HS1.out w2 HB2.out).mono ?_; rintro e w3 ⟨rfl, hb3⟩)
      go_ret2
      exact ⟨none, 0, by rw [E.out]; rfl, by rw [E.out]; exact OwI.nil _ _, HB2.out.trans (hb3.mono hs2)⟩
    | true =>
      rw [hg1] at hS1
      have HS1 := Lib.hid hS1
      have CA := Lib.hid (chG_chn hg)
      have CB := Lib.hid (chG_chn hg1)
      have hla := CA.out.most
      have hlb := CB.out.most
      have hb0 := CB.out.pos
      have HOK := Lib.hid (uniK_ok (b := b) CA.out.asc CA.out.pos)
      have E := Lib.hid (show unG a b = chG (uni a b) by unfold unG; rw [hg, hg1]; rfl)
      have hmm : (uni a b).length ≤ 82 := by
        have h := (HOK.out b.length (Nat.le_refl _)).2.2
        rw [uniK_end] at h
        omega
      rw [E.out]
      have hC := fun W A' c' hown => chIf_any w.heap.size A' c' (uni a b) W (by omega) hown
      obtain ⟨r, hr'⟩ : ∃ r, selL (chG (uni a b)) (uni a b) = r := ⟨_, rfl⟩
      obtain ⟨gd, hg'⟩ : ∃ g, chG (uni a b) = g := ⟨_, rfl⟩
      rw [hr', hg'] at hC ⊢
      have HC := Lib.hid hC
      obtain ⟨g, off, rfl, hbB, hc⟩ := H1.out.cells (by omega)
      have HCE := Lib.hid hc
      clear hC hr' hg' E hS1 hg hg1 hc
      go_enter Try.func43, Try.ntmps43
      go_wp2_with fail
      go_at_call 49
      refine HS.out.mono ?_
      rintro e w2 ⟨rfl, hb2⟩
      have HB2 := Lib.hid hb2
      have hs2 : w.heap.size ≤ w2.heap.size := hb2.size
      clear hb2
      go_wp2_with (first
        | (go_at_call 49; refine (HS1.out w2 HB2.out).mono ?_; rintro e w3 ⟨rfl, hb3⟩; have HB3 := Lib.hid (HB2.out.trans (hb3.mono hs2)); have hs3 : w.heap.size ≤ w3.heap.size := HB3.out.size; clear hb3)
        | (go_at_call 61; refine (l1Own_any B A c a w3 (by omega) (by omega) (H.out.below' HB3.out hB)).mono ?_; rintro e w4 ⟨A4, c4, rfl, hown4, hb4⟩; have OW4 := Lib.hid (show w4.ownsRow w.heap.size 3 1 (.slice A4 a.length c4) a.length (a.map I) from own_base hown4 hs3); have HB4 := Lib.hid (HB3.out.trans (hb4.mono hs3)); clear hown4 hb4))
      go_loopw [6, 21] (fun ov iv wr => ∃ (k n : Nat) (A3 : Option Addr) (c3 : Nat), k ≤ b.length ∧ iv = .int .i64 k ∧ ov = .slice A3 n c3 ∧ n = (uniK a b k).length ∧ wr.ownsRow w.heap.size 3 1 (.slice A3 n c3) n ((uniK a b k).map I) ∧ Below w.heap.size w wr) (fun _ i _ => b.length - (intOf i).toNat)
      case atStart => exact ⟨0, a.length, A4, c4, by omega, rfl, rfl, rfl, OW4.out, HB4.out⟩
      case round =>
        obtain ⟨k, n, A3, c3, hk, rfl, rfl, hn, hown, hbel⟩ := hrel
        have OWN := Lib.hid hown
        have BEL := Lib.hid hbel
        have HN := Lib.hid hn
        have hs : w.heap.size ≤ wr.heap.size := hbel.size
        clear hown hbel
        by_cases hlt : k < b.length
        · have ik : (k : Int) < (b.length : Int) := by omega
          have ck := (BEL.out.cell (p := ⟨g, off + k, none⟩) (by simp only []; omega)).trans (HCE.out k hlt)
          have SUC := Lib.hid (uniK_succ (a := a) hlt)
          obtain ⟨ok1, ok2, ok3⟩ := HOK.out k (by omega)
          obtain ⟨x, hx⟩ : ∃ x, b.getD k 0 = x := ⟨_, rfl⟩
          rw [hx] at ck SUC
          have hW := l1PutO_any w.heap.size A3 c3 (uniK a b k) x wr (by omega) ok1 hs (by
            have h := OWN.out
            rw [HN.out] at h
            exact h)
          rw [← hn] at hW
          have HW := Lib.hid hW
          have HS := Lib.hid hs
          clear hW hx ok1 ok2 ok3 hn
          go_wp2_with (go_at_call 65; refine HW.out.mono ?_; rintro e w5 ⟨A5, c5, rfl, hown5, hb5⟩)
          go_roundw
          case rel =>
            refine ⟨k + 1, (putI (uniK a b k) x).length, A5, c5, by omega, by go_num, rfl, by rw [SUC.out], ?_, BEL.out.trans (hb5.mono HS.out)⟩
            rw [SUC.out]
            exact hown5
          case measure => simp [intOf]; omega
        · have e : k = b.length := by omega
          subst e
          rw [uniK_end] at hn
          have HOM := Lib.hid (show OwI wr w.heap.size (.slice A3 (uni a b).length c3) (uni a b) from (by have h := OWN.out; rw [uniK_end, hn] at h; exact h))
          subst hn
          go_wp2_with (go_at_call 60; refine (HC.out wr A3 c3 HOM.out).mono ?_; rintro e w6 ⟨A6, c6, rfl, hown6, hb6⟩)
          go_ret2
          exact ⟨A6, c6, rfl, hown6, BEL.out.trans (hb6.mono hs)⟩
end Go.Proofs.Ytbbjgcagkmlngac
