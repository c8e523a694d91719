/- ThenPermutation, of the model and of the program. -/
import Derived.Test.YtbbfbccemonihaaMop
namespace Go.Proofs.Ytbbfbccemonihaa
open Go.RowKit

/-- Whether two lists are permutations with as many points; their product. -/
def thG (a b : List Int) : Bool := isPm a && (isPm b && decide (a.length = b.length))
def thV (a b : List Int) : List Int := if thG a b then thn a b else []
theorem th_bad {a b : List Int} (h : thG a b = false) : thV a b = [] := by unfold thV; rw [h]; rfl
theorem th_good {a b : List Int} (h : thG a b = true) : isPm a = true ∧ isPm b = true ∧ a.length = b.length ∧ thV a b = thn a b := by
  have h0 := h
  unfold thG at h
  simp only [Bool.and_eq_true, decide_eq_true_eq] at h
  exact ⟨h.1, h.2.1, h.2.2, by unfold thV; rw [if_pos h0]⟩
theorem th_len (a b : List Int) : (thV a b).length ≤ 1000 := by
  cases h : thG a b with
  | false => rw [th_bad h]; simp
  | true =>
    obtain ⟨h1, _, _, h4⟩ := th_good h
    obtain ⟨_, h8, _⟩ := isPm_facts h1
    rw [h4, thn_len]
    omega

set_option maxRecDepth 100000 in
set_option maxHeartbeats 1000000 in
/-- The product, by the model. -/
theorem moThen_any (B n : Nat) (A A' : Option Addr) (c c' : Nat) (a b : List Int) (w : World) (h8 : n ≤ 8) (hB : B ≤ w.heap.size) (ha : Pt n a) (hb : Pt n b) (hr : Rd w B 1 A n (a.map I)) (hr' : Rd w B 1 A' n (b.map I)) :
    Calls Try.prog 87 #[.slice A n c, .slice A' n c'] w fun e w' => ∃ A2 c2, e = .returned (.slice A2 n c2) ∧ OwI w' w.heap.size (.slice A2 n c2) (thn a b) ∧ Below w.heap.size w w' := by
  have HP := Lib.hid (show Calls Try.prog 62 #[.slice A' n c', .slice A n c] w fun e w' => ∃ A2 c2, e = .returned (.slice A2 n c2) ∧ OwI w' w.heap.size (.slice A2 n c2) (thn a b) ∧ Below w.heap.size w w' by
    have h := moPick_any B A' A c' c b a w (by rw [ha.1]; omega) hB (fun x hx => by rw [hb.1]; exact ha.2 x hx) (by rw [hb.1]; exact hr') (by rw [ha.1]; exact hr)
    rw [ha.1, hb.1] at h
    exact h)
  clear hr hr'
  go_enter Try.func87, Try.ntmps87
  go_wp2_with fail
  go_at_call 62
  refine HP.out.mono ?_
  rintro e w2 ⟨A2, c2, rfl, ho, hb2⟩
  have O := Lib.hid ho
  have HB := Lib.hid hb2
  clear ho hb2
  go_wp2
  go_ret
  exact ⟨A2, c2, rfl, O.out, HB.out⟩
set_option maxRecDepth 100000 in
set_option maxHeartbeats 1000000 in
/-- The product, by the program. -/
theorem pmMul_any (B n : Nat) (q : Int) (A A' : Option Addr) (c c' : Nat) (a b : List Int) (w : World) (h8 : n ≤ 8) (hB : B ≤ w.heap.size) (ha : Pt n a) (hb : Pt n b) (hr : Rd w B 1 A n (a.map I)) (hr' : Rd w B 1 A' n (b.map I)) :
    Calls Try.prog 89 #[.agg #[.int .i64 q], .slice A n c, .slice A' n c'] w fun e w' => ∃ A2 c2, e = .returned (.slice A2 n c2) ∧ OwI w' w.heap.size (.slice A2 n c2) (thn a b) ∧ Below w.heap.size w w' := by
  have HP := Lib.hid (fun (W : World) (hB : B ≤ W.heap.size) (hr : Rd W B 1 A n (a.map I)) (hr' : Rd W B 1 A' n (b.map I)) => show Calls Try.prog 111 #[.slice A n c, .slice A' n c'] W fun e w' => ∃ A2 c2, e = .returned (.slice A2 n c2) ∧ OwI w' W.heap.size (.slice A2 n c2) (thn a b) ∧ Below W.heap.size W w' by
    have h := renamed_any B A A' c c' a b W (by rw [ha.1]; omega) hB (fun x hx => by rw [hb.1]; exact ha.2 x hx) (by rw [ha.1]; exact hr) (by rw [hb.1]; exact hr')
    rw [ha.1, hb.1] at h
    exact h)
  have R1 := Lib.hid hr
  have R2 := Lib.hid hr'
  clear hr hr'
  go_enter Try.func89, Try.ntmps89
  go_wp2_with fail
  go_at_call 111
  generalize hw1 : World.alloc w _ = w1
  obtain ⟨x0, xs, xb⟩ := box1 hw1
  clear hw1
  refine (HP.out w1 (by omega) (R1.out.below' xb hB) (R2.out.below' xb hB)).mono ?_
  rintro e w2 ⟨A2, c2, rfl, ho, hb2⟩
  have O := Lib.hid (ho.base (show w.heap.size ≤ w1.heap.size by omega))
  have HB := Lib.hid (xb.trans (hb2.mono (by omega)))
  clear ho hb2 xb x0
  go_wp2
  go_ret
  exact ⟨A2, c2, rfl, O.out, HB.out⟩
set_option maxRecDepth 100000 in
set_option maxHeartbeats 1000000 in
theorem pmHas_any (B n : Nat) (A : Option Addr) (c : Nat) (l : List Int) (w : World) (hB : B ≤ w.heap.size) (hl : l.length ≤ 1048576) (hcap : l.length ≤ c) (hr : Rd w B 1 A l.length (l.map I)) :
    Calls Try.prog 88 #[.agg #[.int .i64 (n : Int)], .slice A l.length c] w fun e w' => e = .returned (.bool (decide (l.length = n) && isPm l)) ∧ Below w.heap.size w w' := by
  have HI := Lib.hid (fun W hB hr => implIsPm_any B A c l W hB hl hcap hr)
  have H := Lib.hid hr
  clear hr
  obtain ⟨t, ht⟩ : ∃ t, isPm l = t := ⟨_, rfl⟩
  rw [ht] at HI
  rw [ht]
  clear ht
  obtain ⟨k, hk⟩ : ∃ k, l.length = k := ⟨_, rfl⟩
  rw [hk] at HI H
  rw [hk]
  clear hk
  by_cases h : k = n
  · subst h
    go_enter Try.func88, Try.ntmps88
    go_wp2_with fail
    go_at_call 43
    generalize hw1 : World.alloc w _ = w1
    obtain ⟨x0, xs, xb⟩ := box1 hw1
    clear hw1
    refine (HI.out w1 (by omega) (H.out.below' xb hB)).mono ?_
    rintro e w2 ⟨rfl, hb2⟩
    have HB := Lib.hid (xb.trans (hb2.mono (by omega)))
    clear hb2 xb x0
    go_wp2
    go_ret
    exact ⟨ret_bool (by simp), HB.out⟩
  · have E := Lib.hid (decide_eq_false h)
    have i : ¬ (k : Int) = (n : Int) := by omega
    clear h
    go_enter Try.func88, Try.ntmps88
    go_wp2
    go_ret
    exact ⟨ret_bool (by rw [E.out]; rfl), (Below.refl _ _).alloc (Nat.le_refl _) _⟩

set_option maxRecDepth 100000 in
set_option maxHeartbeats 4000000 in
theorem specThen_any (B : Nat) (A0 : Option Addr) (c0 : Nat) (l : List Int) (A1 : Option Addr) (c1 : Nat) (m : List Int) (w : World) (hB : B ≤ w.heap.size) (hl : l.length ≤ 1048576) (hm : m.length ≤ 1048576) (hc0 : l.length ≤ c0) (hc1 : m.length ≤ c1) (hr : Rd w B 1 A0 l.length (l.map I)) (hr' : Rd w B 1 A1 m.length (m.map I)) :
    Calls Try.prog 44 #[.slice A0 l.length c0, .slice A1 m.length c1] w fun e w' => ∃ A' c', e = .returned (.tuple #[.slice A' (thV l m).length c', .bool (thG l m)]) ∧ OwI w' w.heap.size (.slice A' (thV l m).length c') (thV l m) ∧ Below w.heap.size w w' := by
  have H1 := Lib.hid (fun W hB hr => specIsPm_any B A0 c0 l W hB hl hc0 hr)
  have H2 := Lib.hid (fun W hB hr => specIsPm_any B A1 c1 m W hB hm hc1 hr)
  have R1 := Lib.hid hr
  have R2 := Lib.hid hr'
  clear hr hr'
  cases h1 : isPm l with
  | false =>
    have eg : thG l m = false := by simp [thG, h1]
    have EV := Lib.hid (th_bad eg)
    have EG := Lib.hid eg
    rw [h1] at H1
    clear h1 eg
    go_enter Try.func44, Try.ntmps44
    go_wp2_with fail
    go_at_call 42
    refine (H1.out w hB R1.out).mono ?_
    rintro e w2 ⟨rfl, hb2⟩
    have HB := Lib.hid hb2
    clear hb2
    go_wp2
    go_ret2
    exact ⟨none, 0, by rw [EV.out, EG.out]; rfl, by rw [EV.out]; exact OwI.nil _ _, HB.out⟩
  | true =>
  rw [h1] at H1
  cases h2 : isPm m with
  | false =>
    have eg : thG l m = false := by simp [thG, h2]
    have EV := Lib.hid (th_bad eg)
    have EG := Lib.hid eg
    rw [h2] at H2
    clear h1 h2 eg
    go_enter Try.func44, Try.ntmps44
    go_wp2_with fail
    go_at_call 42
    refine (H1.out w hB R1.out).mono ?_
    rintro e w2 ⟨rfl, hb2⟩
    have HB := Lib.hid hb2
    have hs2 := hb2.size
    clear hb2
    go_wp2_with fail
    go_at_call 42
    refine (H2.out w2 (by omega) (R2.out.below' HB.out hB)).mono ?_
    rintro e w3 ⟨rfl, hb3⟩
    have HB3 := Lib.hid (HB.out.trans (hb3.mono hs2))
    clear hb3
    go_wp2
    go_ret2
    exact ⟨none, 0, by rw [EV.out, EG.out]; rfl, by rw [EV.out]; exact OwI.nil _ _, HB3.out⟩
  | true =>
  rw [h2] at H2
  obtain ⟨_, k8, _, hp1⟩ := isPm_facts h1
  obtain ⟨_, _, _, hp2⟩ := isPm_facts h2
  by_cases h3 : l.length = m.length
  · have eg : thG l m = true := by simp [thG, h1, h2, h3]
    have EV := Lib.hid (th_good eg).2.2.2
    have EG := Lib.hid eg
    rw [h3] at hp1 H1 R1 hc0 k8
    have EL := Lib.hid (show (thn l m).length = m.length by rw [thn_len, h3])
    rw [h3]
    obtain ⟨n, hn⟩ : ∃ n, m.length = n := ⟨_, rfl⟩
    rw [hn] at hp1 hp2 H1 H2 R1 R2 EL k8
    rw [hn]
    have MT := Lib.hid (fun W hB hr hr' => moThen_any B n A0 A1 c0 c1 l m W k8 hB hp1 hp2 hr hr')
    clear h1 h2 h3 hn eg hp1 hp2
    go_enter Try.func44, Try.ntmps44
    go_wp2_with fail
    go_at_call 42
    refine (H1.out w hB R1.out).mono ?_
    rintro e w2 ⟨rfl, hb2⟩
    have HB := Lib.hid hb2
    have hs2 := hb2.size
    clear hb2
    go_wp2_with fail
    go_at_call 42
    refine (H2.out w2 (by omega) (R2.out.below' HB.out hB)).mono ?_
    rintro e w3 ⟨rfl, hb3⟩
    have HB3 := Lib.hid (HB.out.trans (hb3.mono hs2))
    have hs3 := HB3.out.size
    clear hb3
    go_wp2_with fail
    go_at_call 87
    refine (MT.out w3 (by omega) (R1.out.below' HB3.out hB) (R2.out.below' HB3.out hB)).mono ?_
    rintro e w4 ⟨A', c', rfl, ho, hb4⟩
    have HB4 := Lib.hid (HB3.out.trans (hb4.mono hs3))
    have O := Lib.hid (ho.base hs3)
    clear hb4 ho
    go_wp2
    go_ret2
    exact ⟨A', c', by rw [EV.out, EG.out, EL.out]; rfl, by rw [EV.out, EL.out]; exact O.out, HB4.out⟩
  · have eg : thG l m = false := by simp [thG, h3]
    have EV := Lib.hid (th_bad eg)
    have EG := Lib.hid eg
    have i3 : ¬ (l.length : Int) = (m.length : Int) := by omega
    clear h1 h2 h3 eg hp1 hp2
    go_enter Try.func44, Try.ntmps44
    go_wp2_with fail
    go_at_call 42
    refine (H1.out w hB R1.out).mono ?_
    rintro e w2 ⟨rfl, hb2⟩
    have HB := Lib.hid hb2
    have hs2 := hb2.size
    clear hb2
    go_wp2_with fail
    go_at_call 42
    refine (H2.out w2 (by omega) (R2.out.below' HB.out hB)).mono ?_
    rintro e w3 ⟨rfl, hb3⟩
    have HB3 := Lib.hid (HB.out.trans (hb3.mono hs2))
    clear hb3
    go_wp2
    go_ret2
    exact ⟨none, 0, by rw [EV.out, EG.out]; rfl, by rw [EV.out]; exact OwI.nil _ _, HB3.out⟩

set_option maxRecDepth 100000 in
set_option maxHeartbeats 4000000 in
theorem implThen_any (B : Nat) (A0 : Option Addr) (c0 : Nat) (l : List Int) (A1 : Option Addr) (c1 : Nat) (m : List Int) (w : World) (hB : B ≤ w.heap.size) (hl : l.length ≤ 1048576) (hm : m.length ≤ 1048576) (hc0 : l.length ≤ c0) (hc1 : m.length ≤ c1) (hr : Rd w B 1 A0 l.length (l.map I)) (hr' : Rd w B 1 A1 m.length (m.map I)) :
    Calls Try.prog 45 #[.slice A0 l.length c0, .slice A1 m.length c1] w fun e w' => ∃ A' c', e = .returned (.tuple #[.slice A' (thV l m).length c', .bool (thG l m)]) ∧ OwI w' w.heap.size (.slice A' (thV l m).length c') (thV l m) ∧ Below w.heap.size w w' := by
  have H1 := Lib.hid (fun W hB hr => pmHas_any B l.length A0 c0 l W hB hl hc0 hr)
  have H2 := Lib.hid (fun W hB hr => pmHas_any B l.length A1 c1 m W hB hm hc1 hr)
  have R1 := Lib.hid hr
  have R2 := Lib.hid hr'
  clear hr hr'
  cases h1 : isPm l with
  | false =>
    have eg : thG l m = false := by simp [thG, h1]
    have EV := Lib.hid (th_bad eg)
    have EG := Lib.hid eg
    rw [h1, Bool.and_false] at H1
    clear h1 eg
    go_enter Try.func45, Try.ntmps45
    go_wp2_with fail
    go_at_call 88
    generalize hw1 : World.alloc w _ = w1
    obtain ⟨x0, xs, xb⟩ := box1 hw1
    clear hw1
    refine (H1.out w1 (by omega) (R1.out.below' xb hB)).mono ?_
    rintro e w2 ⟨rfl, hb2⟩
    have HB := Lib.hid (xb.trans (hb2.mono (by omega)))
    clear hb2 xb x0
    go_wp2
    go_ret2
    exact ⟨none, 0, by rw [EV.out, EG.out]; rfl, by rw [EV.out]; exact OwI.nil _ _, HB.out⟩
  | true =>
  rw [h1, decide_eq_true rfl, Bool.and_true] at H1
  cases h2 : (decide (m.length = l.length) && isPm m) with
  | false =>
    have eg : thG l m = false := by
      unfold thG
      rw [h1, show decide (l.length = m.length) = decide (m.length = l.length) from by simp [eq_comm], Bool.and_comm (isPm m), h2]; rfl
    have EV := Lib.hid (th_bad eg)
    have EG := Lib.hid eg
    rw [h2] at H2
    clear h1 h2 eg
    go_enter Try.func45, Try.ntmps45
    go_wp2_with fail
    go_at_call 88
    generalize hw1 : World.alloc w _ = w1
    obtain ⟨x0, xs, xb⟩ := box1 hw1
    clear hw1
    refine (H1.out w1 (by omega) (R1.out.below' xb hB)).mono ?_
    rintro e w2 ⟨rfl, hb2⟩
    have HB := Lib.hid (xb.trans (hb2.mono (by omega)))
    have y0 := (hb2.cell (p := ⟨w.heap.size, 0, none⟩) (by simp only []; omega)).trans x0
    have hs2 := hb2.size
    clear hb2 xb x0
    go_wp2_with fail
    go_at_call 88
    refine (H2.out w2 (by omega) (R2.out.below' HB.out hB)).mono ?_
    rintro e w3 ⟨rfl, hb3⟩
    have HB3 := Lib.hid (HB.out.trans (hb3.mono HB.out.size))
    clear hb3 y0
    go_wp2
    go_ret2
    exact ⟨none, 0, by rw [EV.out, EG.out]; rfl, by rw [EV.out]; exact OwI.nil _ _, HB3.out⟩
  | true =>
    obtain ⟨h3, h4⟩ : m.length = l.length ∧ isPm m = true := by simpa using h2
    rw [h2] at H2
    obtain ⟨_, k8, _, hp1⟩ := isPm_facts h1
    obtain ⟨_, _, _, hp2⟩ := isPm_facts h4
    have eg : thG l m = true := by simp [thG, h1, h4, h3]
    have EV := Lib.hid (th_good eg).2.2.2
    have EG := Lib.hid eg
    rw [h3] at hp2 H2 R2 hc1
    have EL := Lib.hid (show (thn l m).length = l.length by rw [thn_len])
    rw [h3]
    obtain ⟨n, hn⟩ : ∃ n, l.length = n := ⟨_, rfl⟩
    rw [hn] at hp1 hp2 H1 H2 R1 R2 EL k8
    rw [hn]
    have MT := Lib.hid (fun W hB hr hr' => pmMul_any B n (n : Int) A0 A1 c0 c1 l m W k8 hB hp1 hp2 hr hr')
    clear h1 h2 h3 h4 hn eg hp1 hp2
    go_enter Try.func45, Try.ntmps45
    go_wp2_with fail
    go_at_call 88
    generalize hw1 : World.alloc w _ = w1
    obtain ⟨x0, xs, xb⟩ := box1 hw1
    clear hw1
    refine (H1.out w1 (by omega) (R1.out.below' xb hB)).mono ?_
    rintro e w2 ⟨rfl, hb2⟩
    have HB := Lib.hid (xb.trans (hb2.mono (by omega)))
    have y0 := (hb2.cell (p := ⟨w.heap.size, 0, none⟩) (by simp only []; omega)).trans x0
    have hs2 := hb2.size
    clear hb2 xb x0
    go_wp2_with fail
    go_at_call 88
    refine (H2.out w2 (by omega) (R2.out.below' HB.out hB)).mono ?_
    rintro e w3 ⟨rfl, hb3⟩
    have HB3 := Lib.hid (HB.out.trans (hb3.mono HB.out.size))
    have z0 := (hb3.cell (p := ⟨w.heap.size, 0, none⟩) (by simp only []; omega)).trans y0
    have hs3 := HB3.out.size
    clear hb3 y0
    go_wp2_with fail
    go_at_call 89
    refine (MT.out w3 (by omega) (R1.out.below' HB3.out hB) (R2.out.below' HB3.out hB)).mono ?_
    rintro e w4 ⟨A', c', rfl, ho, hb4⟩
    have HB4 := Lib.hid (HB3.out.trans (hb4.mono hs3))
    have O := Lib.hid (ho.base hs3)
    clear hb4 ho z0
    go_wp2
    go_ret2
    exact ⟨A', c', by rw [EV.out, EG.out, EL.out]; rfl, by rw [EV.out, EL.out]; exact O.out, HB4.out⟩
end Go.Proofs.Ytbbfbccemonihaa
