/- Counts of live star chains: both sides. -/
import Derived.Test.YtppahohakiidmaaHp
import Derived.Test.YtppahohakiidmaaHk
namespace Go.Proofs.Ytppahohakiidmaa
open Go.RowKit

/-- The memory of the counts. -/
structure LI (B n L bl bn bC gS cS : Nat) (r : Nat) (s : List Int) (X : Nat → Prop) (w : World) : Prop where
  hl : w.heap[bl]? = some (.cells #[.int .i64 (L : Int)] 3 (0, 0))
  hn : w.heap[bn]? = some (.cells #[.int .i64 (n : Int)] 3 (0, 0))
  hC : w.heap[bC]? = some (.cells #[.slice (some ⟨gS, 0, none⟩) (L + 1) cS] 22 (0, 0))
  own : OwI w B (.slice (some ⟨gS, 0, none⟩) (L + 1) cS) s
  sl : s.length = L + 1
  lt : ∀ b, b = bl ∨ b = bn ∨ b = bC ∨ b = gS → b < w.heap.size ∧ ¬ X b
  ne : bl ≠ gS ∧ bn ≠ gS ∧ bC ≠ gS
  bd : ∃ K, BD K s ∧ K + r ≤ 1000000
theorem LI.frame {B n L bl bn bC gS cS r : Nat} {s : List Int} {X X' : Nat → Prop} {w w' : World} (h : LI B n L bl bn bC gS cS r s X w) (F : Frm X w w') (hX : ∀ b, X' b → X b ∨ w.heap.size ≤ b) : LI B n L bl bn bC gS cS r s X' w' := by
  have hx : ∀ b, b < w.heap.size → ¬ X b → ¬ X' b := fun b h1 h2 h3 => by
    rcases hX b h3 with h | h
    · exact h2 h
    · omega
  have hk : ∀ b, b = bl ∨ b = bn ∨ b = bC ∨ b = gS → w'.heap[b]? = w.heap[b]? := fun b hb => F.block b (h.lt b hb).1 (h.lt b hb).2
  refine ⟨(hk bl (.inl rfl)).trans h.hl, (hk bn (.inr (.inl rfl))).trans h.hn, (hk bC (.inr (.inr (.inl rfl)))).trans h.hC, own_heap h.own (hk gS (.inr (.inr (.inr rfl)))), h.sl, ?_, h.ne, h.bd⟩
  intro b hb
  have := F.size
  have := (h.lt b hb)
  exact ⟨by omega, hx b this.1 this.2⟩
def goT (_ : List Int) : Bool := true

set_option maxRecDepth 100000 in
set_option maxHeartbeats 2000000 in
theorem live1_any (B n L bl bn bC gS cS r : Nat) (s : List Int) (X : Nat → Prop) (w : World) (gc cc : Nat) (c : List Nat) (m : Nat) (hI : LI B n L bl bn bC gS cS (r + 1) s X w) (hcm : c.length = m) (hm1 : 1 ≤ m) (hmL : m ≤ L + 1) (hL : L ≤ 12) :
    Calls Try.prog 59 #[.slice (some ⟨gc, 0, none⟩) m cc, .pointer (some ⟨bC, 0, none⟩)] w fun e w' =>
      e = .returned (.bool (goT (stepL s c))) ∧ LI B n L bl bn bC gS cS r (stepL s c) X w' ∧ Below B w w' ∧ w.heap.size ≤ w'.heap.size ∧ ∀ b, X b → b < w.heap.size → w'.heap[b]? = w.heap[b]? := by
  obtain ⟨M, rfl⟩ : ∃ M, m = M + 1 := ⟨m - 1, by omega⟩
  obtain ⟨K, hbd, hK⟩ := hI.bd
  obtain ⟨y, hy⟩ : ∃ y, s.getD M 0 = y := ⟨_, rfl⟩
  have hyb := hbd M
  rw [hy] at hyb
  have hst : stepL s c = s.set M (y + 1) := by unfold stepL; rw [hcm, Nat.add_sub_cancel, hy]
  have hcC := cell_of_one hI.hC
  have hcS : w.cell? ⟨gS, M, none⟩ = some (.int .i64 y) := by
    obtain ⟨g, hg, _, _, hc⟩ := own_cells hI.own hI.sl (by omega)
    injection hg with hg
    injection hg with hg
    subst hg
    rw [hc M (by omega), hy]
  have hwy : IntKind.i64.wrap (y + 1) = y + 1 := IntWalk.i64_in _ (by omega)
  have hwM : IntKind.i64.wrap (M : Int) = (M : Int) := IntWalk.i64_in _ (by omega)
  obtain ⟨fz, hst1⟩ := own_store (x := y + 1) (i := M) hI.own hI.sl
  have hset : ∀ b, b ≠ gS → (w.setCell ⟨gS, M, none⟩ (.int .i64 (y + 1))).heap[b]? = w.heap[b]? := fun b hb => Below.heap_setCell w ⟨gS, M, none⟩ _ b hb
  have hB := (own_lt hI.own).1
  have R1 := Lib.hid (show LI B n L bl bn bC gS cS r (stepL s c) X (w.setCell ⟨gS, M, none⟩ (.int .i64 (y + 1))) from
    ⟨(hset bl hI.ne.1).trans hI.hl, (hset bn hI.ne.2.1).trans hI.hn, (hset bC hI.ne.2.2).trans hI.hC, by rw [hst]; exact hst1, by rw [stepL_len]; exact hI.sl, fun b hb => by
      have h0 := hI.lt b hb
      have : (w.setCell ⟨gS, M, none⟩ (.int .i64 (y + 1))).heap.size = w.heap.size := by simp
      exact ⟨by omega, h0.2⟩, hI.ne, K + 1, hbd.step c, by omega⟩)
  have R2 := Lib.hid (show ∀ b, X b → b < w.heap.size → (w.setCell ⟨gS, M, none⟩ (.int .i64 (y + 1))).heap[b]? = w.heap[b]? from fun b hx hb => hset b (fun e => by subst e; exact (hI.lt b (.inr (.inr (.inr rfl)))).2 hx))
  have iM : (M : Int) < (L : Int) + 1 := by omega
  clear hI hbd hy hst hst1 hset hcm
  go_enter Try.func59, Try.ntmps59
  go_wp2
  go_ret
  exact ⟨rfl, R1.out, (Below.refl _ _).setCell hB _, by simp, R2.out⟩

theorem stepsL (B n L bl bn bC gS cS : Nat) (hn : n ≤ 100) (hL : L ≤ 8) :
    Steps B (fitN n L) L 81 59 #[.pointer (some ⟨bl, 0, none⟩), .pointer (some ⟨bn, 0, none⟩)] #[.pointer (some ⟨bC, 0, none⟩)] stepL goT (LI B n L bl bn bC gS cS) where
  frame := fun _ _ _ _ _ _ h F hX => h.frame F hX
  fits := fun _ _ _ w s i h _ _ h3 => live_any n L s i bl bn w (by omega) hn h3 (cell_of_one h.hl) (cell_of_one h.hn)
  meet := fun r s X w gc cc c m hI _ _ hc h1 h2 _ _ _ => live1_any B n L bl bn bC gS cS r s X w gc cc c m hI hc h1 h2 (by omega)
theorem runL : ∀ (R : List (List Nat)) (s : List Int), runD stepL goT s R = R.foldl stepL s := by
  intro R
  induction R with
  | nil => intro s; rfl
  | cons c R ih => intro s; rw [runD_go (by rfl), ih, List.foldl_cons]
/-- The counts. -/
def lvF (n L : Nat) : List Int := lvS n L L [1] (List.replicate (L + 1) 0)
theorem lvF_run (n L : Nat) : (if fitN n L 1 0 then runD stepL goT (List.replicate (L + 1) 0) (pre (fitN n L) L [1]) else List.replicate (L + 1) 0) = lvF n L := by
  rw [runL]
  rfl
theorem lvF_len (n L : Nat) : (lvF n L).length = L + 1 := by unfold lvF; rw [lvS_len, List.length_replicate]
theorem BD_zero (n K : Nat) : BD K (List.replicate n 0) := by
  intro j
  have : (List.replicate n (0 : Int)).getD j 0 = 0 := by
    rw [List.getD_eq_getElem?_getD, List.getElem?_replicate]
    split <;> rfl
  rw [this]
  omega
def lvV (x y : Int) : List Int := if isSh x && isCt y then lvF x.toNat y.toNat else []
def lvG (x y : Int) : Bool := isSh x && isCt y
theorem lvV_yes {n L : Nat} (h1 : isSh (n : Int) = true) (h2 : isCt (L : Int) = true) : lvV (n : Int) (L : Int) = lvF n L := by unfold lvV; rw [h1, h2]; rfl
theorem lvG_yes {x y : Int} (h1 : isSh x = true) (h2 : isCt y = true) : lvG x y = true := by unfold lvG; rw [h1, h2]; rfl
theorem lvV_no1 {x : Int} (y : Int) (h1 : isSh x = false) : lvV x y = [] := by unfold lvV; rw [h1]; rfl
theorem lvV_no2 (x : Int) {y : Int} (h1 : isCt y = false) : lvV x y = [] := by unfold lvV; rw [h1, Bool.and_false]; rfl
theorem lvG_no1 {x : Int} (y : Int) (h1 : isSh x = false) : lvG x y = false := by unfold lvG; rw [h1]; rfl
theorem lvG_no2 (x : Int) {y : Int} (h1 : isCt y = false) : lvG x y = false := by unfold lvG; rw [h1, Bool.and_false]
theorem lvV_le (x y : Int) : (lvV x y).length ≤ 1000 := by
  cases h1 : isSh x with
  | false => rw [lvV_no1 y h1]; simp
  | true =>
    cases h2 : isCt y with
    | false => rw [lvV_no2 x h2]; simp
    | true =>
      have := isCt_rng h2
      unfold lvV
      rw [h1, h2]
      show (lvF x.toNat y.toNat).length ≤ 1000
      rw [lvF_len]
      omega

theorem boxes4 {w : World} {o1 o2 o3 o4 : Obj} {w5 : World} (h : (((w.alloc o1).alloc o2).alloc o3).alloc o4 = w5) :
    w5.heap[w.heap.size]? = some o1 ∧ w5.heap[w.heap.size + 1]? = some o2 ∧ w5.heap[w.heap.size + 2]? = some o3 ∧ w5.heap[w.heap.size + 3]? = some o4 ∧ w5.heap.size = w.heap.size + 4 ∧ Below w.heap.size w w5 := by
  subst h
  have z1 : (w.alloc o1).heap.size = w.heap.size + 1 := by simp
  have z2 : ((w.alloc o1).alloc o2).heap.size = w.heap.size + 2 := by simp
  have z3 : (((w.alloc o1).alloc o2).alloc o3).heap.size = w.heap.size + 3 := by simp
  have n1 := heap_alloc_new w o1
  have n2 := heap_alloc_new (w.alloc o1) o2
  have n3 := heap_alloc_new ((w.alloc o1).alloc o2) o3
  have n4 := heap_alloc_new (((w.alloc o1).alloc o2).alloc o3) o4
  rw [z1] at n2
  rw [z2] at n3
  rw [z3] at n4
  refine ⟨?_, ?_, ?_, n4, by simp, (((((Below.refl _ _).alloc (Nat.le_refl _) _).alloc (by omega) _).alloc (by omega) _).alloc (by omega) _)⟩
  · rw [Below.heap_alloc _ _ _ (by omega), Below.heap_alloc _ _ _ (by omega), Below.heap_alloc _ _ _ (by omega)]
    exact n1
  · rw [Below.heap_alloc _ _ _ (by omega), Below.heap_alloc _ _ _ (by omega)]
    exact n2
  · rw [Below.heap_alloc _ _ _ (by omega)]
    exact n3

set_option maxRecDepth 100000 in
set_option maxHeartbeats 2000000 in
theorem implLive_any (x y : Int) (w : World) : Calls Try.prog 30 #[.int .i64 x, .int .i64 y] w fun e w' => ∃ A' c', e = .returned (.tuple #[.slice A' (lvV x y).length c', .bool (lvG x y)]) ∧ OwI w' w.heap.size (.slice A' (lvV x y).length c') (lvV x y) ∧ Below w.heap.size w w' := by
  have hN := isShort_any x w
  have hC := isCounted_any y w
  cases h1 : isSh x with
  | false =>
    have E := Lib.hid (lvV_no1 y h1)
    have G := Lib.hid (lvG_no1 y h1)
    rw [h1] at hN
    have HN := Lib.hid hN
    clear hN h1 hC
    go_enter Try.func30, Try.ntmps30
    go_wp2_with (go_at_call 53; refine HN.out.mono ?_; rintro e w' ⟨rfl, rfl⟩)
    go_ret2
    exact ⟨none, 0, by rw [E.out, G.out]; rfl, by rw [E.out]; exact OwI.nil _ _, Below.refl _ _⟩
  | true =>
  cases h2 : isCt y with
  | false =>
    have E := Lib.hid (lvV_no2 x h2)
    have G := Lib.hid (lvG_no2 x h2)
    rw [h1] at hN
    rw [h2] at hC
    have HN := Lib.hid hN
    have HC := Lib.hid hC
    clear hN h1 hC h2
    go_enter Try.func30, Try.ntmps30
    go_wp2_with (first
      | (go_at_call 53; refine HN.out.mono ?_; rintro e w' ⟨rfl, rfl⟩)
      | (go_at_call 54; refine HC.out.mono ?_; rintro e w' ⟨rfl, rfl⟩))
    go_ret2
    exact ⟨none, 0, by rw [E.out, G.out]; rfl, by rw [E.out]; exact OwI.nil _ _, Below.refl _ _⟩
  | true =>
    have r1 := isSh_rng h1
    have r2 := isCt_rng h2
    obtain ⟨n, rfl⟩ : ∃ n : Nat, x = n := ⟨x.toNat, by omega⟩
    obtain ⟨L, rfl⟩ : ∃ L : Nat, y = L := ⟨y.toNat, by omega⟩
    have E := Lib.hid (lvV_yes h1 h2)
    have G := Lib.hid (lvG_yes h1 h2)
    rw [h1] at hN
    rw [h2] at hC
    have HN := Lib.hid hN
    have HC := Lib.hid hC
    have HD := Lib.hid (lvF_run n L)
    have hpn : (pre (fitN n L) L [1]).length ≤ 500000 := Nat.le_trans (pre_most L [1]) (preN_9 (by omega))
    have HP := Lib.hid hpn
    have hmk := run_make_row' (P := Try.prog) 22 3 (.int .i64 0) 8 Try.underlying22 info_int rfl .i64 .i64 (L + 1) (by omega) (by omega)
    rw [show ((L + 1 : Nat) : Int) = (L : Int) + 1 by omega] at hmk
    have hw1 : IntKind.i64.wrap ((L : Int) + 1) = (L : Int) + 1 := IntWalk.i64_in _ (by omega)
    clear hN h1 hC h2 hpn
    go_enter Try.func30, Try.ntmps30
    go_wp2_with (first
      | (go_at_call 53; refine HN.out.mono ?_; rintro e w' ⟨rfl, rfl⟩)
      | (go_at_call 54; refine HC.out.mono ?_; rintro e w' ⟨rfl, rfl⟩))
    generalize hw3 : World.alloc (World.alloc w _) _ = w3
    go_at_call 58
    refine (liveNumbers_any n L w3).mono ?_
    rintro e w5 ⟨rfl, hw5⟩
    have hz3 : w3.heap.size = w.heap.size + 2 := by rw [← hw3]; simp
    rw [← hw3] at hw5
    obtain ⟨q1, q2, q3, q4, qz, qb⟩ := boxes4 hw5.symm
    rw [hz3]
    have hb0 : OwI w5 w.heap.size (.slice (some ⟨w.heap.size, 0, none⟩) (L + 1) (L + 1)) (List.replicate (L + 1) 0) := by
      refine own_heap (zeros_ownB (w := w) (B := w.heap.size) (L + 1) (by omega) (Nat.le_refl _)) ?_
      rw [q1, heap_alloc_new]
    clear hw5 hw3 hz3 hmk
    obtain ⟨b, hb⟩ : ∃ b, w.heap.size = b := ⟨_, rfl⟩
    rw [hb] at q1 q2 q3 q4 qz hb0
    have hLI : LI b n L (b + 3) (b + 2) (b + 1) b (L + 1) (pre (fitN n L) L [1]).length (List.replicate (L + 1) 0) (fun _ => False) w5 :=
      ⟨q4, q3, q2, hb0, List.length_replicate, fun b' hb' => ⟨by omega, fun h => h⟩, ⟨by omega, by omega, by omega⟩, 0, BD_zero _ _, by have := HP.out; omega⟩
    have hrun := run_any b L 81 59 (fitN n L) _ _ stepL goT _ (enters_of Try.func81 (by kernel_rfl) rfl) (enters_of Try.func59 (by kernel_rfl) rfl)
      (stepsL b n L (b + 3) (b + 2) (b + 1) b (L + 1) (by omega) (by omega)) (by omega) (fun s i h => fitN_no1 (by omega)) w5 _ (by omega) hLI
    rw [HD.out] at hrun
    have HRUN := Lib.hid hrun
    have QB := Lib.hid (show Below b w w5 by rw [← hb]; exact qb)
    have HB := Lib.hid hb
    have HLN := Lib.hid (lvF_len n L)
    rw [hb]
    clear q1 q2 q3 q4 qz qb hLI hrun hb hb0
    go_wp2_with fail
    go_at_call 60
    refine (show Calls _ _ _ _ _ from HRUN.out).mono ?_
    rintro e w6 ⟨rfl, ⟨r, hI⟩, hb6⟩
    have hcell := cell_of_one hI.hC
    have HO := Lib.hid hI.own
    have H6 := Lib.hid (show Below b w w6 from QB.out.trans hb6)
    clear hI hb6 HRUN
    go_wp2
    go_ret2
    refine ⟨some ⟨b, 0, none⟩, L + 1, by rw [E.out, G.out, HLN.out]; rfl, ?_, by rw [HB.out]; exact H6.out⟩
    rw [E.out, HLN.out, HB.out]
    exact HO.out

set_option maxRecDepth 100000 in
set_option maxHeartbeats 2000000 in
theorem specLive_any (x y : Int) (w : World) : Calls Try.prog 29 #[.int .i64 x, .int .i64 y] w fun e w' => ∃ A' c', e = .returned (.tuple #[.slice A' (lvV x y).length c', .bool (lvG x y)]) ∧ OwI w' w.heap.size (.slice A' (lvV x y).length c') (lvV x y) ∧ Below w.heap.size w w' := by
  have hN := shNumber_any x w
  have hC := shCounted_any y w
  cases h1 : isSh x with
  | false =>
    have E := Lib.hid (lvV_no1 y h1)
    have G := Lib.hid (lvG_no1 y h1)
    rw [h1] at hN
    have HN := Lib.hid hN
    clear hN h1 hC
    go_enter Try.func29, Try.ntmps29
    go_wp2_with (go_at_call 49; refine HN.out.mono ?_; rintro e w' ⟨rfl, rfl⟩)
    go_ret2
    exact ⟨none, 0, by rw [E.out, G.out]; rfl, by rw [E.out]; exact OwI.nil _ _, Below.refl _ _⟩
  | true =>
  cases h2 : isCt y with
  | false =>
    have E := Lib.hid (lvV_no2 x h2)
    have G := Lib.hid (lvG_no2 x h2)
    rw [h1] at hN
    rw [h2] at hC
    have HN := Lib.hid hN
    have HC := Lib.hid hC
    clear hN h1 hC h2
    go_enter Try.func29, Try.ntmps29
    go_wp2_with (first
      | (go_at_call 49; refine HN.out.mono ?_; rintro e w' ⟨rfl, rfl⟩)
      | (go_at_call 51; refine HC.out.mono ?_; rintro e w' ⟨rfl, rfl⟩))
    go_ret2
    exact ⟨none, 0, by rw [E.out, G.out]; rfl, by rw [E.out]; exact OwI.nil _ _, Below.refl _ _⟩
  | true =>
    have r1 := isSh_rng h1
    have r2 := isCt_rng h2
    obtain ⟨n, rfl⟩ : ∃ n : Nat, x = n := ⟨x.toNat, by omega⟩
    obtain ⟨L, rfl⟩ : ∃ L : Nat, y = L := ⟨y.toNat, by omega⟩
    have E := Lib.hid (lvV_yes h1 h2)
    have G := Lib.hid (lvG_yes h1 h2)
    rw [h1] at hN
    rw [h2] at hC
    have HN := Lib.hid hN
    have HC := Lib.hid hC
    have hmk := run_make_row' (P := Try.prog) 22 3 (.int .i64 0) 8 Try.underlying22 info_int rfl .i64 .i64 (L + 1) (by omega) (by omega)
    rw [show ((L + 1 : Nat) : Int) = (L : Int) + 1 by omega] at hmk
    have hw1 : IntKind.i64.wrap ((L : Int) + 1) = (L : Int) + 1 := IntWalk.i64_in _ (by omega)
    clear hN h1 hC h2
    go_enter Try.func29, Try.ntmps29
    go_wp2_with (first
      | (go_at_call 49; refine HN.out.mono ?_; rintro e w' ⟨rfl, rfl⟩)
      | (go_at_call 51; refine HC.out.mono ?_; rintro e w' ⟨rfl, rfl⟩))
    have O1 := own_one (w := w.alloc (.cells (madeCells #[.int .i64 0] (L + 1)) 3)) (B := 0) 1 (by omega)
    have OZ := OwI.alloc (zeros_ownB (w := w) (B := w.heap.size) (L + 1) (by omega) (Nat.le_refl _)) (.cells #[.int .i64 1] 3)
    have hz : (w.alloc (.cells (madeCells #[.int .i64 0] (L + 1)) 3)).heap.size = w.heap.size + 1 := by simp
    have hlive := shLive_any n L w.heap.size (L + 1) w.heap.size (by omega) (by omega) L 1 0 [1] (List.replicate (L + 1) 0) _ (some ⟨w.heap.size + 1, 0, none⟩) 1 _ rfl (Nat.le_refl _) (by omega) (fun i hi => absurd hi (by omega)) (show (1 : Nat) ≤ 200 by omega) List.length_replicate (BD_zero _ _) (by have := preN_9 (L := L) (by omega); omega)
      (Nat.le_refl _) (by have h := O1.rd; rw [hz] at h; exact h) (fun b off e => by injection e with e; injection e with e; omega) OZ
    have HLV := Lib.hid hlive
    have HLN := Lib.hid (lvF_len n L)
    have B0 := Lib.hid (((Below.refl w.heap.size w).alloc (Nat.le_refl _) (.cells (madeCells #[.int .i64 0] (L + 1)) 3)).alloc (by simp) (.cells #[.int .i64 1] 3))
    clear hlive O1 OZ hz
    go_wp2_with fail
    go_at_call 57
    refine (show Calls _ _ _ _ _ from HLV.out).mono ?_
    rintro e w6 ⟨rfl, hown, _, hb6⟩
    have HO := Lib.hid hown
    have H6 := Lib.hid hb6
    clear hown hb6 HLV
    go_wp2
    go_ret2
    refine ⟨some ⟨w.heap.size, 0, none⟩, L + 1, by rw [E.out, G.out, HLN.out]; rfl, ?_, B0.out.trans H6.out⟩
    rw [E.out, HLN.out]
    exact HO.out
end Go.Proofs.Ytppahohakiidmaa
