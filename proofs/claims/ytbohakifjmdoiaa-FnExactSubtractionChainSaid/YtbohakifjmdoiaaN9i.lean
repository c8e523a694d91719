/- Adders: their values as data; IsAdders and RunAdders of both programs. -/
import Derived.Test.YtbohakifjmdoiaaN9h
import Derived.Test.YtbohakifjmdoiaaAp
namespace Go.Proofs.Ytbohakifjmdoiaa
open Go.RowKit

/-- The value of an adder behind others. -/
def vlA (acc : List Int) (a : Ad) : Int :=
  if a.2.2.2.2 then acc.getD a.1.toNat 0 * 2 ^ a.2.1.toNat - acc.getD a.2.2.1.toNat 0 * 2 ^ a.2.2.2.1.toNat
  else acc.getD a.1.toNat 0 * 2 ^ a.2.1.toNat + acc.getD a.2.2.1.toNat 0 * 2 ^ a.2.2.2.1.toNat
def vlS (acc : List Int) (a : Ad) : List Int := acc ++ [vlA acc a]
/-- All values of adders for an input. -/
def vls (x : Int) (l : List Ad) : List Int := l.foldl vlS [x]
theorem vls_snoc (x : Int) (l : List Ad) (a : Ad) : vls x (l ++ [a]) = vls x l ++ [vlA (vls x l) a] := by simp [vls, vlS]
theorem vls_len (x : Int) (l : List Ad) : (vls x l).length = l.length + 1 := by
  suffices h : ∀ (l : List Ad) (acc : List Int), (l.foldl vlS acc).length = acc.length + l.length by
    have := h l [x]; simp only [List.length_cons, List.length_nil] at this; unfold vls; omega
  intro l
  induction l with
  | nil => intro acc; simp
  | cons a l ih => intro acc; rw [List.foldl_cons, ih]; simp [vlS]; omega
theorem vls_take {x : Int} {l : List Ad} {k : Nat} (hk : k < l.length) : vls x (l.take (k + 1)) = vls x (l.take k) ++ [vlA (vls x (l.take k)) l[k]] := by
  rw [List.take_succ_eq_append_getElem hk, vls_snoc]
/-- What may stand behind so many adders. -/
def okB (i : Int) (a : Ad) : Bool := inB a.1 0 i && inB a.2.2.1 0 i && inB a.2.1 0 20 && inB a.2.2.2.1 0 20
theorem okB_iff {i : Int} {a : Ad} : okB i a = true ↔ ((0 ≤ a.1 ∧ a.1 ≤ i) ∧ (0 ≤ a.2.2.1 ∧ a.2.2.1 ≤ i)) ∧ (0 ≤ a.2.1 ∧ a.2.1 ≤ 20) ∧ (0 ≤ a.2.2.2.1 ∧ a.2.2.2.1 ≤ 20) := by
  unfold okB inB
  simp only [Bool.and_eq_true, decide_eq_true_eq]
  constructor
  · rintro ⟨⟨⟨h1, h2⟩, h3⟩, h4⟩; exact ⟨⟨h1, h2⟩, h3, h4⟩
  · rintro ⟨⟨h1, h2⟩, h3, h4⟩; exact ⟨⟨⟨h1, h2⟩, h3⟩, h4⟩
/-- The first so many are adders. -/
def adK (l : List Ad) : Nat → Bool
  | 0 => true
  | k + 1 => adK l k && (match l[k]? with | some a => okB k a && inB (vlA (vls 1 (l.take k)) a) (-2097152) 2097152 | none => false)
def adOk (l : List Ad) : Bool := decide (l.length ≤ 24) && adK l l.length
theorem adK_succ {l : List Ad} {k : Nat} (hk : k < l.length) : adK l (k + 1) = (adK l k && (okB k l[k] && inB (vlA (vls 1 (l.take k)) l[k]) (-2097152) 2097152)) := by
  simp only [adK, List.getElem?_eq_getElem hk]
theorem adK_mono {l : List Ad} {k : Nat} (h : adK l k = true) : ∀ j, j ≤ k → adK l j = true := by
  induction k with
  | zero => intro j hj; have : j = 0 := by omega
            subst this; rfl
  | succ k ih =>
    intro j hj
    rcases Nat.lt_or_eq_of_le hj with h1 | h1
    · exact ih (by simp only [adK, Bool.and_eq_true] at h; exact h.1) j (by omega)
    · subst h1; exact h
theorem adK_miss {l : List Ad} {k : Nat} (hk : k < l.length) (h : (okB k l[k] && inB (vlA (vls 1 (l.take k)) l[k]) (-2097152) 2097152) = false) : adOk l = false := by
  cases hg : adK l l.length with
  | false => unfold adOk; rw [hg]; simp
  | true =>
    have := adK_mono hg (k + 1) (by omega)
    rw [adK_succ hk, h] at this
    simp at this
theorem adOk_long {l : List Ad} (h : ¬ l.length ≤ 24) : adOk l = false := by unfold adOk; rw [decide_eq_false h]; rfl
theorem inB_iff {x a b : Int} : inB x a b = true ↔ a ≤ x ∧ x ≤ b := by simp [inB]
theorem adK_bd {l : List Ad} : ∀ k, k ≤ l.length → adK l k = true → ∀ v ∈ vls 1 (l.take k), -2097152 ≤ v ∧ v ≤ 2097152 := by
  intro k
  induction k with
  | zero => intro _ _ v hv; simp [vls] at hv; omega
  | succ k ih =>
    intro hk h v hv
    rw [vls_take (by omega)] at hv
    rw [adK_succ (by omega)] at h
    simp only [Bool.and_eq_true] at h
    rcases List.mem_append.1 hv with h1 | h1
    · exact ih (by omega) h.1 v h1
    · have := inB_iff.1 h.2.2
      simp only [List.mem_singleton] at h1
      omega
/-- What the program answers. -/
def mlR (l : List Ad) : List Int := if adOk l then vls 1 l else []
theorem mlR_len (l : List Ad) : (mlR l).length ≤ 1000 := by
  unfold mlR
  split
  · rename_i h
    have : l.length ≤ 24 := by unfold adOk at h; simp at h; exact h.1
    rw [vls_len]; omega
  · simp
theorem pw20 {s : Nat} (h : s ≤ 20) : (1 : Int) ≤ 2 ^ s ∧ (2 : Int) ^ s ≤ 1048576 := by
  have h1 : 2 ^ s ≤ 2 ^ 20 := Nat.pow_le_pow_right (by omega) h
  have h0 : 0 < 2 ^ s := Nat.pow_pos (by omega)
  have h2 : ((2 ^ s : Nat) : Int) ≤ 1048576 := by omega
  have h3 : (1 : Int) ≤ ((2 ^ s : Nat) : Int) := by omega
  rw [show ((2 ^ s : Nat) : Int) = 2 ^ s by simp] at h2 h3
  exact ⟨h3, h2⟩
theorem shl_bd9 {v M : Int} {s : Nat} (h : s ≤ 20) (h0 : 0 ≤ M) (hv : -M ≤ v ∧ v ≤ M) : -(M * 1048576) ≤ v * 2 ^ s ∧ v * 2 ^ s ≤ M * 1048576 := by
  obtain ⟨h1, h2⟩ := pw20 h
  obtain ⟨P, hP⟩ : ∃ P : Int, 2 ^ s = P := ⟨_, rfl⟩
  rw [hP] at h1 h2 ⊢
  have a1 : v * P ≤ M * P := Int.mul_le_mul_of_nonneg_right hv.2 (by omega)
  have a2 : -M * P ≤ v * P := Int.mul_le_mul_of_nonneg_right hv.1 (by omega)
  have a3 : M * P ≤ M * 1048576 := Int.mul_le_mul_of_nonneg_left h2 h0
  rw [Int.neg_mul] at a2
  omega
/-- Values are linear. -/
theorem vlA_map (x : Int) (acc : List Int) (a : Ad) (h1 : a.1.toNat < acc.length) (h2 : a.2.2.1.toNat < acc.length) : vlA (acc.map (· * x)) a = vlA acc a * x := by
  unfold vlA
  have e1 : (acc.map (· * x)).getD a.1.toNat 0 = acc.getD a.1.toNat 0 * x := by simp [List.getD_eq_getElem?_getD, h1]
  have e2 : (acc.map (· * x)).getD a.2.2.1.toNat 0 = acc.getD a.2.2.1.toNat 0 * x := by simp [List.getD_eq_getElem?_getD, h2]
  rw [e1, e2]
  split
  · rw [Int.sub_mul, Int.mul_right_comm, Int.mul_right_comm _ x]
  · rw [Int.add_mul, Int.mul_right_comm, Int.mul_right_comm _ x]
theorem vls_map {l : List Ad} (x : Int) : ∀ k, k ≤ l.length → adK l k = true → vls x (l.take k) = (vls 1 (l.take k)).map (· * x) := by
  intro k
  induction k with
  | zero => intro _ _; simp [vls]
  | succ k ih =>
    intro hk h
    rw [adK_succ (by omega)] at h
    simp only [Bool.and_eq_true] at h
    have ho := okB_iff.1 h.2.1
    rw [vls_take (by omega), vls_take (by omega), ih (by omega) h.1, List.map_append, vlA_map x _ _ (by rw [vls_len, List.length_take]; omega) (by rw [vls_len, List.length_take]; omega)]
    rfl
def raB (l : List Ad) (x : Int) : Bool := adOk l && inB x (-1000) 1000
def raR (l : List Ad) (x : Int) : List Int := if raB l x then vls x l else []
theorem raR_len (l : List Ad) (x : Int) : (raR l x).length ≤ 1000 := by
  unfold raR
  split
  · rename_i h
    have : l.length ≤ 24 := by unfold raB adOk at h; simp at h; exact h.1.1
    rw [vls_len]; omega
  · simp
theorem raR_map {l : List Ad} (x : Int) (h : adOk l = true) : vls x l = (vls 1 l).map (· * x) := by
  unfold adOk at h
  have := vls_map (l := l) x l.length (Nat.le_refl _) (by simp at h; exact h.2)
  rwa [List.take_length] at this

theorem own_lit9 (w : World) (a : Int) : OwI (w.alloc (.cells #[.int .i64 a] 3)) w.heap.size (.slice (some ⟨w.heap.size, 0, none⟩) 1 1) [a] := by
  have h := World.ownsRow_lit (base := w.heap.size) (e := 3) (size := 1) w #[.int .i64 a] 1 (Nat.le_refl _) (by unfold maxLen; omega) (by simp)
  exact h
theorem isShift_any (n : Int) (w : World) : Calls Try.prog 93 #[.int .i64 n] w fun e w' => e = .returned (.bool (inB n 0 20)) ∧ w = w' := by
  by_cases h1 : 0 ≤ n <;> by_cases h2 : n ≤ 20
  all_goals
    go_enter Try.func93, Try.ntmps93
    go_wp2
    go_ret
    exact ⟨ret_bool (by simp [inB, h1, h2]), rfl⟩
set_option maxRecDepth 100000 in
set_option maxHeartbeats 4000000 in
theorem mayFollowA_any (a b s t : Int) (m : Bool) (n : Nat) (w : World) (_hn : n ≤ 1000000) :
    Calls Try.prog 91 #[.agg #[.int .i64 a, .int .i64 s, .int .i64 b, .int .i64 t, .bool m], .int .i64 ((n + 1 : Nat) : Int)] w fun e w' => e = .returned (.bool (okB n (a, s, b, t, m))) ∧ Below w.heap.size w w' := by
  obtain ⟨g1, hg1⟩ : ∃ g, inB s 0 20 = g := ⟨_, rfl⟩
  obtain ⟨g2, hg2⟩ : ∃ g, inB t 0 20 = g := ⟨_, rfl⟩
  have S1 := Lib.hid (fun W => isShift_any s W)
  have S2 := Lib.hid (fun W => isShift_any t W)
  have E := Lib.hid (show okB n (a, s, b, t, m) = (decide (0 ≤ a) && decide (a < ((n + 1 : Nat) : Int)) && (decide (0 ≤ b) && decide (b < ((n + 1 : Nat) : Int))) && g1 && g2) by
    unfold okB
    simp only
    rw [hg1, hg2]
    unfold inB
    rw [show decide (a ≤ (n : Int)) = decide (a < ((n + 1 : Nat) : Int)) by congr 1; apply propext; omega, show decide (b ≤ (n : Int)) = decide (b < ((n + 1 : Nat) : Int)) by congr 1; apply propext; omega])
  have S1 := Lib.hid (fun W => (show Calls Try.prog 93 #[.int .i64 s] W fun e w' => e = .returned (.bool g1) ∧ W = w' by rw [← hg1]; exact isShift_any s W))
  have S2 := Lib.hid (fun W => (show Calls Try.prog 93 #[.int .i64 t] W fun e w' => e = .returned (.bool g2) ∧ W = w' by rw [← hg2]; exact isShift_any t W))
  have HB := Lib.hid (fun o => (Below.refl w.heap.size w).alloc (Nat.le_refl _) o)
  clear hg1 hg2
  obtain ⟨N, hN⟩ : ∃ N : Int, ((n + 1 : Nat) : Int) = N := ⟨_, rfl⟩
  rw [hN] at E ⊢
  clear hN
  by_cases h1 : 0 ≤ a
  · by_cases h2 : a < N
    · by_cases h3 : 0 ≤ b
      · by_cases h4 : b < N
        · rw [decide_eq_true h1, decide_eq_true h2, decide_eq_true h3, decide_eq_true h4] at E
          cases g1 with
          | false =>
            go_enter Try.func91, Try.ntmps91
            go_wp2_with fail
            go_at_call 93
            refine (S1.out _).mono ?_
            rintro e w' ⟨rfl, rfl⟩
            go_wp2
            go_ret
            exact ⟨ret_bool (by rw [E.out]; rfl), HB.out _⟩
          | true =>
            go_enter Try.func91, Try.ntmps91
            go_wp2_with fail
            go_at_call 93
            refine (S1.out _).mono ?_
            rintro e w' ⟨rfl, rfl⟩
            go_wp2_with fail
            go_at_call 93
            refine (S2.out _).mono ?_
            rintro e w' ⟨rfl, rfl⟩
            go_wp2
            go_ret
            exact ⟨ret_bool (by rw [E.out]; rfl), HB.out _⟩
        · rw [decide_eq_false h4] at E
          go_enter Try.func91, Try.ntmps91
          go_wp2
          go_ret
          exact ⟨ret_bool (by rw [E.out]; simp), HB.out _⟩
      · rw [decide_eq_false h3] at E
        go_enter Try.func91, Try.ntmps91
        go_wp2
        go_ret
        exact ⟨ret_bool (by rw [E.out]; simp), HB.out _⟩
    · rw [decide_eq_false h2] at E
      go_enter Try.func91, Try.ntmps91
      go_wp2
      go_ret
      exact ⟨ret_bool (by rw [E.out]; simp), HB.out _⟩
  · rw [decide_eq_false h1] at E
    go_enter Try.func91, Try.ntmps91
    go_wp2
    go_ret
    exact ⟨ret_bool (by rw [E.out]; simp), HB.out _⟩

theorem vlA_nat {acc : List Int} {ia sa ib sb : Nat} {m : Bool} (h1 : ia < acc.length) (h2 : ib < acc.length) : vlA acc ((ia : Int), (sa : Int), (ib : Int), (sb : Int), m) = if m then acc[ia] * 2 ^ sa - acc[ib] * 2 ^ sb else acc[ia] * 2 ^ sa + acc[ib] * 2 ^ sb := by
  unfold vlA
  simp [List.getD_eq_getElem?_getD, h1, h2]

set_option maxRecDepth 100000 in
set_option maxHeartbeats 4000000 in
theorem multipleA_any (B : Nat) (A : Option Addr) (c : Nat) (acc : List Int) (ia sa ib sb : Nat) (m : Bool) (w : World) (hM : ∀ v ∈ acc, -4294967296 ≤ v ∧ v ≤ 4294967296) (h1 : ia < acc.length) (h2 : ib < acc.length) (_hl : acc.length ≤ 1000) (hs : sa ≤ 20) (ht : sb ≤ 20) (hB : B ≤ w.heap.size) (hr : Rd w B 1 A acc.length (acc.map I)) :
    Calls Try.prog 75 #[.agg #[.int .i64 (ia : Int), .int .i64 (sa : Int), .int .i64 (ib : Int), .int .i64 (sb : Int), .bool m], .slice A acc.length c] w fun e w' => e = .returned (.int .i64 (vlA acc ((ia : Int), (sa : Int), (ib : Int), (sb : Int), m))) ∧ Below w.heap.size w w' := by
  have E := Lib.hid (vlA_nat (sa := sa) (sb := sb) (m := m) h1 h2)
  have H := Lib.hid hr
  have hb1 := shl_bd9 hs (by omega) (hM _ (List.getElem_mem h1))
  have hb2 := shl_bd9 ht (by omega) (hM _ (List.getElem_mem h2))
  clear hr
  go_enter Try.func75, Try.ntmps75
  go_wp2
  generalize hw1 : World.alloc w _ = w1
  obtain ⟨x0, x1, x2, x3, x4, xs, xb⟩ := bx5 hw1
  clear hw1
  obtain ⟨b1, off1, rfl, hbb1, hc1⟩ := (H.out.below' xb hB).int h1
  obtain ⟨b2, off2, e2, hbb2, hc2⟩ := (H.out.below' xb hB).int h2
  cases e2
  obtain ⟨x, hx⟩ : ∃ x, acc[ia] = x := ⟨_, rfl⟩
  obtain ⟨y, hy⟩ : ∃ y, acc[ib] = y := ⟨_, rfl⟩
  rw [hx] at hc1 hb1 E
  rw [hy] at hc2 hb2 E
  obtain ⟨P, hP⟩ : ∃ P, x * 2 ^ sa = P := ⟨_, rfl⟩
  obtain ⟨Q, hQ⟩ : ∃ Q, y * 2 ^ sb = Q := ⟨_, rfl⟩
  rw [hP] at hb1 E
  rw [hQ] at hb2 E
  have e1 : IntKind.i64.wrap (x * 2 ^ sa) = P := by rw [hP]; exact IntWalk.i64_in _ (by omega)
  have e2 : IntKind.i64.wrap (y * 2 ^ sb) = Q := by rw [hQ]; exact IntWalk.i64_in _ (by omega)
  have e3 : IntKind.i64.wrap (P - Q) = P - Q := IntWalk.i64_in _ (by omega)
  have e4 : IntKind.i64.wrap (P + Q) = P + Q := IntWalk.i64_in _ (by omega)
  have e5 : wrap64 (P - Q) = P - Q := IntWalk.wrap64_in _ (by omega)
  have e6 : wrap64 (P + Q) = P + Q := IntWalk.wrap64_in _ (by omega)
  have i1 : (ia : Int) < (acc.length : Int) := by omega
  have i2 : (ib : Int) < (acc.length : Int) := by omega
  have is : (sa : Int) ≤ 64 := by omega
  have it : (sb : Int) ≤ 64 := by omega
  have XB := Lib.hid xb
  clear hP hQ hx hy xb xs hM h1 h2
  refine wp_region_Tw [0, 1, 2, 3, 4, 5, 6, 7, 8, 9, 10, 11, 12, 13, 14, 15, 16, 17] [2, 4, 6, 10, 12, 14] (.lp 0 (.lp 1 (.lp 5 (.lp 8 (.lp 9 (.lp 13 (.ls 2 (.lp 3 (.ls 4 (.ls 6 (.lp 7 (.lp 16 (.ls 10 (.lp 11 (.ls 12 (.ls 14 (.lp 15 (.lp 17 (.done))))))))))))))))))) (by kernel_rfl) (by kernel_rfl) ?_
  (repeat (first | (refine T_lp rfl (fun K hK => ?_); go_simp; refine hK _ ?_; clear hK K) | (refine T_ls rfl rfl (fun K hK => ?_); go_simp; refine hK _ ?_; clear hK K)))
  refine T_done ?_
  cases m with
  | true =>
    go_wp2
    go_ret
    exact ⟨ret_int (by rw [E.out]; rfl), XB.out.drew⟩
  | false =>
    go_wp2
    go_ret
    exact ⟨ret_int (by rw [E.out]; rfl), XB.out.drew⟩

/-- A good adder in natural numbers. -/
theorem okB_nat {n : Nat} {a : Ad} (h : okB n a = true) : ∃ (ia sa ib sb : Nat) (m : Bool), a = ((ia : Int), (sa : Int), (ib : Int), (sb : Int), m) ∧ ia ≤ n ∧ ib ≤ n ∧ sa ≤ 20 ∧ sb ≤ 20 := by
  obtain ⟨a, s, b, t, m⟩ := a
  obtain ⟨⟨⟨h1, h2⟩, h3, h4⟩, ⟨h5, h6⟩, h7, h8⟩ := okB_iff.1 h
  simp only at h1 h2 h3 h4 h5 h6 h7 h8
  refine ⟨a.toNat, s.toNat, b.toNat, t.toNat, m, ?_, by omega, by omega, by omega, by omega⟩
  rw [show (a.toNat : Int) = a by omega, show (s.toNat : Int) = s by omega, show (b.toNat : Int) = b by omega, show (t.toNat : Int) = t by omega]
theorem mlR_false {l : List Ad} (h : adOk l = false) : mlR l = [] := by unfold mlR; rw [h]; rfl
theorem mlR_true {l : List Ad} (h : adOk l = true) : mlR l = vls 1 l := by unfold mlR; rw [if_pos h]
theorem mlR_len1 {l : List Ad} (h : adOk l = true) : (mlR l).length = l.length + 1 := by rw [mlR_true h, vls_len]

set_option maxRecDepth 100000 in
set_option maxHeartbeats 8000000 in
theorem multiplesOf_any (B : Nat) (A : Option Addr) (c : Nat) (l : List Ad) (w : World) (hB : B ≤ w.heap.size) (_hl : l.length ≤ 1048576) (hr : RdA w B A l) :
    Calls Try.prog 78 #[.slice A l.length c] w fun e w' =>
      ∃ A' c', e = .returned (.tuple #[.slice A' (mlR l).length c', .bool (adOk l)]) ∧ OwI w' w.heap.size (.slice A' (mlR l).length c') (mlR l) ∧ Below w.heap.size w w' := by
  have H := Lib.hid hr
  clear hr
  by_cases hlen : l.length ≤ 24
  · have il : ¬ 24 < (l.length : Int) := by omega
    have hlit : OwI (w.alloc (.cells #[.int .i64 1] 3)) w.heap.size (.slice (some ⟨w.heap.size, 0, none⟩) 1 1) [1] := own_lit9 w 1
    have LIT := Lib.hid hlit
    have LB := Lib.hid ((Below.refl w.heap.size w).alloc (Nat.le_refl _) (.cells #[.int .i64 1] 3))
    clear hlit
    go_enter Try.func78, Try.ntmps78
    go_wp2
    go_loopw [4, 14] (fun mv iv wr => ∃ (k : Nat) (A1 : Option Addr) (c1 : Nat), k ≤ l.length ∧ iv = .int .i64 (k : Int) ∧ mv = .slice A1 (k + 1) c1 ∧ OwI wr w.heap.size (.slice A1 (k + 1) c1) (vls 1 (l.take k)) ∧ adK l k = true ∧ Below w.heap.size w wr) (fun _ iv _ => l.length - (intOf iv).toNat)
    case atStart => exact ⟨0, _, _, by omega, rfl, rfl, LIT.out, rfl, LB.out⟩
    case round =>
      obtain ⟨k, A1, c1, hk, rfl, rfl, hown, hq, hbel⟩ := hrel
      have hs := hbel.size
      have BEL := Lib.hid hbel
      have OWN := Lib.hid hown
      have Q := Lib.hid hq
      have hvl : (vls 1 (l.take k)).length = k + 1 := by rw [vls_len, List.length_take]; omega
      clear hbel hown hq
      by_cases hlt : k < l.length
      · obtain ⟨b, off, rfl, hbb, hc1, hc2, hc3, hc4, hc5⟩ := (H.out.below' BEL.out hB).ad hlt
        have ik : (k : Int) < (l.length : Int) := by omega
        have KS := Lib.hid (adK_succ hlt)
        have KM := Lib.hid (adK_miss hlt)
        have VT := Lib.hid (vls_take (x := 1) hlt)
        have BD := Lib.hid (adK_bd k (by omega) Q.out)
        obtain ⟨a, ha⟩ : ∃ a, l[k] = a := ⟨_, rfl⟩
        rw [ha] at hc1 hc2 hc3 hc4 hc5 KS KM VT
        obtain ⟨acc, hacc⟩ : ∃ acc, vls 1 (l.take k) = acc := ⟨_, rfl⟩
        rw [hacc] at KS KM VT BD OWN hvl
        have HVL := Lib.hid hvl
        clear ha hacc hvl
        obtain ⟨g, hg⟩ : ∃ g, okB k a = g := ⟨_, rfl⟩
        cases g with
        | false =>
          have E := Lib.hid (KM.out (by rw [hg]; rfl))
          have ER := Lib.hid (mlR_false E.out)
          obtain ⟨a1, a2, a3, a4, a5⟩ := a
          have MF := Lib.hid (fun W => mayFollowA_any a1 a3 a2 a4 a5 k W (by omega))
          rw [hg] at MF
          simp only at hc1 hc2 hc3 hc4 hc5
          clear hg KS VT
          go_wp2_with fail
          go_at_call 91
          generalize hw1 : World.alloc wr _ = w1
          obtain ⟨x0, x1, x2, x3, x4, xs, xb⟩ := bx5 hw1
          clear hw1
          refine (MF.out _).mono ?_
          rintro e w2 ⟨rfl, hb2⟩
          have XB := Lib.hid (BEL.out.trans ((xb.mono hs).trans (hb2.mono (by omega))))
          clear x0 x1 x2 x3 x4 xs xb hb2 hc1 hc2 hc3 hc4 hc5
          go_wp2
          go_ret2
          exact ⟨none, 0, by rw [ER.out, E.out]; rfl, by rw [ER.out]; exact OwI.nil _ _, XB.out⟩
        | true =>
          obtain ⟨ia, sa, ib, sb, m, rfl, p1, p2, p3, p4⟩ := okB_nat hg
          have MF := Lib.hid (fun W => mayFollowA_any (ia : Int) (ib : Int) (sa : Int) (sb : Int) m k W (by omega))
          rw [hg] at MF
          rw [hg, Bool.true_and] at KM
          rw [hg, Bool.true_and, Q.out, Bool.true_and] at KS
          simp only at hc1 hc2 hc3 hc4 hc5
          have ML := Lib.hid (fun (B : Nat) (A : Option Addr) (c : Nat) W hB hr => multipleA_any B A c acc ia sa ib sb m W (fun v hv => by have := BD.out v hv; omega) (by have := HVL.out; omega) (by have := HVL.out; omega) (by have := HVL.out; omega) p3 p4 hB hr)
          obtain ⟨v, hv⟩ : ∃ v, vlA acc ((ia : Int), (sa : Int), (ib : Int), (sb : Int), m) = v := ⟨_, rfl⟩
          rw [hv] at ML KM KS VT
          clear hg hv
          go_wp2_with fail
          go_at_call 91
          generalize hw1 : World.alloc wr _ = w1
          obtain ⟨x0, x1, x2, x3, x4, xs, xb⟩ := bx5 hw1
          clear hw1
          refine (MF.out _).mono ?_
          rintro e w2 ⟨rfl, hb2⟩
          have s2 := hb2.size
          have x0 := (hb2.cell (p := ⟨wr.heap.size, 0, none⟩) (by simp only []; omega)).trans x0
          have x1 := (hb2.cell (p := ⟨wr.heap.size, 1, none⟩) (by simp only []; omega)).trans x1
          have x2 := (hb2.cell (p := ⟨wr.heap.size, 2, none⟩) (by simp only []; omega)).trans x2
          have x3 := (hb2.cell (p := ⟨wr.heap.size, 3, none⟩) (by simp only []; omega)).trans x3
          have x4 := (hb2.cell (p := ⟨wr.heap.size, 4, none⟩) (by simp only []; omega)).trans x4
          have B12 := Lib.hid (xb.trans (hb2.mono (by omega)))
          have OW2 := Lib.hid (show OwI w2 w.heap.size (.slice A1 (k + 1) c1) acc from own_below OWN.out B12.out)
          have XB := Lib.hid (BEL.out.trans (B12.out.mono hs))
          clear xb hb2 hc1 hc2 hc3 hc4 hc5
          go_wp2_with fail
          go_at_call 75
          have RD2 := Rd.of_own (show w2.ownsRow w.heap.size 3 1 (.slice A1 (k + 1) c1) (k + 1) (acc.map I) by have h := OW2.out; unfold OwI at h; rwa [HVL.out] at h)
          have hml := ML.out w2.heap.size A1 c1 w2 (Nat.le_refl _)
          rw [HVL.out] at hml
          refine (hml RD2).mono ?_
          rintro e w3 ⟨rfl, hb3⟩
          have s3 := hb3.size
          have OW3 := Lib.hid (show OwI w3 w.heap.size (.slice A1 (k + 1) c1) acc from own_below OW2.out hb3)
          have XB3 := Lib.hid (XB.out.trans (hb3.mono (by omega)))
          clear x0 x1 x2 x3 x4 hb3 RD2 hml
          by_cases q1 : v < -2097152
          · have E := Lib.hid (KM.out (by unfold inB; rw [decide_eq_false (by omega)]; rfl))
            have ER := Lib.hid (mlR_false E.out)
            go_wp2
            go_ret2
            exact ⟨none, 0, by rw [ER.out, E.out]; rfl, by rw [ER.out]; exact OwI.nil _ _, XB3.out⟩
          · by_cases q2 : 2097152 < v
            · have E := Lib.hid (KM.out (by unfold inB; rw [decide_eq_false (show ¬ v ≤ 2097152 by omega)]; simp))
              have ER := Lib.hid (mlR_false E.out)
              go_wp2
              go_ret2
              exact ⟨none, 0, by rw [ER.out, E.out]; rfl, by rw [ER.out]; exact OwI.nil _ _, XB3.out⟩
            · have KS := Lib.hid (KS.out.trans (by unfold inB; rw [decide_eq_true (show -2097152 ≤ v by omega), decide_eq_true (show v ≤ 2097152 by omega)]))
              go_wp2_with (at_builtin; refine list_step (fun K hK => ?_); refine step_app_int rfl (.tmp 32) (.tmp 34) rfl w.heap.size (k + 1) _ acc rfl (OW3.out.alloc _) HVL.out w3.heap.size 1 v rfl (by simp) (by omega) (by simp; omega) ?_; intro A3 c3 w4 hown4 hg4 hbel4; go_simp; refine hK _ _ ?_; clear hK K)
              go_roundw
              case rel => exact ⟨k + 1, A3, c3, by omega, by go_num, rfl, by rw [VT.out]; exact hown4, KS.out, (XB3.out.alloc (by omega) _).trans hbel4⟩
              case measure => simp [intOf]; omega
      · have hk' : k = l.length := by omega
        subst hk'
        have E := Lib.hid (show adOk l = true by unfold adOk; rw [decide_eq_true hlen, Q.out]; rfl)
        have ER := Lib.hid (mlR_true E.out)
        have EL := Lib.hid (mlR_len1 E.out)
        have ik : ¬ (l.length : Int) < (l.length : Int) := by omega
        go_wp2
        go_ret2
        exact ⟨A1, c1, by rw [EL.out, E.out]; rfl, by rw [EL.out, ER.out]; have := OWN.out; rwa [List.take_length] at this, BEL.out⟩
  · have il : 24 < (l.length : Int) := by omega
    have E := Lib.hid (adOk_long hlen)
    have ER := Lib.hid (mlR_false E.out)
    go_enter Try.func78, Try.ntmps78
    go_wp2
    go_ret2
    exact ⟨none, 0, by rw [ER.out, E.out]; rfl, by rw [ER.out]; exact OwI.nil _ _, Below.refl _ _⟩
end Go.Proofs.Ytbohakifjmdoiaa
