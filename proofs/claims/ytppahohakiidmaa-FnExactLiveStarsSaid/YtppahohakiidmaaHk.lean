/- The first star chains with an end: the call as a whole; the shortest ones. -/
import Derived.Test.YtppahohakiidmaaHj
import Derived.Test.YtppahohakiidmaaHb
namespace Go.Proofs.Ytppahohakiidmaa
open Go.RowKit

theorem runF {L most : Nat} : ∀ (R s : List (List Nat)), s.length < most → runD (stepF L) (goF most) s R = (s ++ R.filter fun l => l.length == L + 1).take most := by
  intro R
  induction R with
  | nil =>
    intro s h
    show s = _
    rw [List.filter_nil, List.append_nil, List.take_of_length_le (by omega)]
  | cons c R ih =>
    intro s h
    have hf : s ++ (c :: R).filter (fun l => l.length == L + 1) = stepF L s c ++ R.filter (fun l => l.length == L + 1) := by
      by_cases hc : c.length = L + 1
      · rw [stepF_yes s hc, List.filter_cons_of_pos (by simpa using hc), List.append_assoc]
        rfl
      · rw [stepF_no s hc, List.filter_cons_of_neg (by simpa using hc)]
    rw [hf]
    have hl : (stepF L s c).length ≤ s.length + 1 := by
      unfold stepF
      split
      · rw [List.length_append, List.length_singleton]; omega
      · omega
    cases hg : goF most (stepF L s c) with
    | true =>
      rw [runD_go hg]
      exact ih _ (by unfold goF at hg; simpa using hg)
    | false =>
      rw [runD_stop hg]
      have : ¬ (stepF L s c).length < most := by unfold goF at hg; simpa using hg
      rw [List.take_append_of_le_length (by omega), List.take_of_length_le (by omega)]
theorem firsts_run {n L most : Nat} (hm : 1 ≤ most) : (if fitN n L 1 0 then runD (stepF L) (goF most) [] (pre (fitN n L) L [1]) else []) = firstsN n L most := by
  unfold firstsN leafs
  split
  · rw [runF _ _ (show ([] : List (List Nat)).length < most by simp; omega)]
    rfl
  · rfl
theorem preN_9 {L : Nat} (h : L ≤ 9) : preN L 1 ≤ 500000 := by
  have h9 : ∀ L : Fin 10, preN L.val 1 ≤ 500000 := by decide +kernel
  exact h9 ⟨L, by omega⟩

/-- Five boxes. -/
theorem boxes5 {w : World} {o1 o2 o3 o4 o5 : Obj} {w5 : World} (h : ((((w.alloc o1).alloc o2).alloc o3).alloc o4).alloc o5 = w5) :
    w5.heap[w.heap.size]? = some o1 ∧ w5.heap[w.heap.size + 1]? = some o2 ∧ w5.heap[w.heap.size + 2]? = some o3 ∧ w5.heap[w.heap.size + 3]? = some o4 ∧ w5.heap[w.heap.size + 4]? = some o5 ∧ w5.heap.size = w.heap.size + 5 ∧ Below w.heap.size w w5 := by
  subst h
  have z1 : (w.alloc o1).heap.size = w.heap.size + 1 := by simp
  have z2 : ((w.alloc o1).alloc o2).heap.size = w.heap.size + 2 := by simp
  have z3 : (((w.alloc o1).alloc o2).alloc o3).heap.size = w.heap.size + 3 := by simp
  have z4 : ((((w.alloc o1).alloc o2).alloc o3).alloc o4).heap.size = w.heap.size + 4 := by simp
  have n1 := heap_alloc_new w o1
  have n2 := heap_alloc_new (w.alloc o1) o2
  have n3 := heap_alloc_new ((w.alloc o1).alloc o2) o3
  have n4 := heap_alloc_new (((w.alloc o1).alloc o2).alloc o3) o4
  have n5 := heap_alloc_new ((((w.alloc o1).alloc o2).alloc o3).alloc o4) o5
  rw [z1] at n2
  rw [z2] at n3
  rw [z3] at n4
  rw [z4] at n5
  refine ⟨?_, ?_, ?_, ?_, n5, by simp, ((((((Below.refl _ _).alloc (Nat.le_refl _) _).alloc (by omega) _).alloc (by omega) _).alloc (by omega) _).alloc (by omega) _)⟩
  · rw [Below.heap_alloc _ _ _ (by omega), Below.heap_alloc _ _ _ (by omega), Below.heap_alloc _ _ _ (by omega), Below.heap_alloc _ _ _ (by omega)]
    exact n1
  · rw [Below.heap_alloc _ _ _ (by omega), Below.heap_alloc _ _ _ (by omega), Below.heap_alloc _ _ _ (by omega)]
    exact n2
  · rw [Below.heap_alloc _ _ _ (by omega), Below.heap_alloc _ _ _ (by omega)]
    exact n3
  · rw [Below.heap_alloc _ _ _ (by omega)]
    exact n4

theorem stepsF (B n L most bL bn bl bC bM K : Nat) (hn : n ≤ 100) (hL : L ≤ 9) (hK : K ≤ 1000000) :
    Steps B (fitN n L) L 81 79 #[.pointer (some ⟨bl, 0, none⟩), .pointer (some ⟨bn, 0, none⟩)] #[.pointer (some ⟨bL, 0, none⟩), .pointer (some ⟨bC, 0, none⟩), .pointer (some ⟨bM, 0, none⟩)] (stepF L) (goF most) (FI B n L most bL bn bl bC bM K) where
  frame := fun _ _ _ _ _ _ h F hX => h.frame F hX
  fits := fun _ _ _ w s i h _ _ h3 => live_any n L s i bl bn w (by omega) hn h3 (cell_of_one h.hl) (cell_of_one h.hn)
  meet := fun r s X w gc cc c m hI _ hXw hc h1 h2 _ hB hown => firsts1_any B n L most bL bn bl bC bM K r s X w gc cc c m hI hXw hc h1 h2 (by omega) hK hB hown

set_option maxRecDepth 100000 in
set_option maxHeartbeats 2000000 in
theorem firstStars_any (n L most : Nat) (w : World) (hn : n ≤ 100) (hL : L ≤ 9) (hm1 : 1 ≤ most) :
    Calls Try.prog 55 #[.int .i64 (n : Int), .int .i64 (L : Int), .int .i64 (most : Int)] w fun e w' => ∃ A c f, e = .returned (.slice A (firstsN n L most).length c) ∧ OwL w' w.heap.size A c f (L + 1) (firstsN n L most).length (fun i => cs ((firstsN n L most).getD i [])) ∧ Far f (L + 1) (firstsN n L most).length ∧ Below w.heap.size w w' := by
  have hdat := firsts_run (n := n) (L := L) hm1
  obtain ⟨Z, hZ⟩ : ∃ Z, firstsN n L most = Z := ⟨_, rfl⟩
  rw [hZ] at hdat ⊢
  have HD := Lib.hid hdat
  have hpn : (pre (fitN n L) L [1]).length ≤ 500000 := Nat.le_trans (pre_most L [1]) (preN_9 hL)
  have HP := Lib.hid hpn
  clear hdat hpn hZ
  go_enter Try.func55, Try.ntmps55
  go_wp2_with fail
  generalize hw3 : World.alloc (World.alloc (World.alloc w _) _) _ = w3
  go_at_call 58
  have hz3 : w3.heap.size = w.heap.size + 3 := by rw [← hw3]; simp
  refine (liveNumbers_any n L w3).mono ?_
  rintro e w5 ⟨rfl, hw5⟩
  rw [← hw3] at hw5
  obtain ⟨q1, q2, q3, q4, q5, qz, qb⟩ := boxes5 hw5.symm
  rw [hz3]
  clear hw5 hw3 hz3
  obtain ⟨b, hb⟩ : ∃ b, w.heap.size = b := ⟨_, rfl⟩
  have hFI : FI b n L most b (b + 3) (b + 4) (b + 2) (b + 1) 500000 (pre (fitN n L) L [1]).length [] (fun _ => False) w5 := by
    rw [hb] at q1 q2 q3 q4 q5 qz
    refine ⟨q1, q5, q4, q2, ⟨none, 0, fun _ => (none, 0), q3, ⟨World.ownsRow_nil _ _ _ _, fun i hi => absurd hi (Nat.not_lt_zero _)⟩, fun i j hi => absurd hi (Nat.not_lt_zero _), fun _ _ h => h, fun _ _ _ _ h => h⟩, ?_, by omega, by omega, by have := HP.out; simpa using this⟩
    intro b' hb'
    exact ⟨by omega, fun h => h⟩
  have hrun := run_any b L 81 79 (fitN n L) _ _ (stepF L) (goF most) _ (enters_of Try.func81 (by kernel_rfl) rfl) (enters_of Try.func79 (by kernel_rfl) rfl)
    (stepsF b n L most b (b + 3) (b + 4) (b + 2) (b + 1) 500000 hn hL (by omega)) (by omega) (fun s i h => fitN_no1 (by omega)) w5 [] (by omega) hFI
  rw [HD.out] at hrun
  have HRUN := Lib.hid hrun
  have QB := Lib.hid (show Below b w w5 by rw [← hb]; exact qb)
  have HB := Lib.hid hb
  rw [hb]
  clear q1 q2 q3 q4 q5 qz qb hFI hrun hb
  go_wp2_with fail
  go_at_call 60
  refine (show Calls _ _ _ _ _ from HRUN.out).mono ?_
  rintro e w6 ⟨rfl, ⟨r, hI⟩, hb6⟩
  obtain ⟨A, c, f, h1, h2, h3, _⟩ := hI.hC
  have hcell := cell_of_one h1
  have H2 := Lib.hid h2
  have H3 := Lib.hid h3
  have H6 := Lib.hid (show Below b w w6 from QB.out.trans hb6)
  clear h1 h2 h3 hI hb6 HRUN
  go_wp2
  go_ret
  exact ⟨A, c, f, rfl, by rw [HB.out]; exact H2.out, H3.out, by rw [HB.out]; exact H6.out⟩
end Go.Proofs.Ytppahohakiidmaa
