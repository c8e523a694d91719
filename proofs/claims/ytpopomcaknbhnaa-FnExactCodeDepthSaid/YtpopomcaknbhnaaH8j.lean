/- Values of one kind of the ops of a code, by the program: remainders, depths. -/
import Derived.Test.YtpopomcaknbhnaaH8g
namespace Go.Proofs.Ytpopomcaknbhnaa
open Go.RowKit

theorem rem_eq (n : Int) (m : Nat) (hm : 0 < m) : (n.tmod (m : Int) + (m : Int)).tmod (m : Int) = n % (m : Int) := tmod_pos n (by omega)
set_option maxRecDepth 100000 in
set_option maxHeartbeats 400000 in
theorem rmCon_any (m : Nat) (n : Int) (w : World) (hm : 0 < m) (hm2 : m ≤ 1000000) : Calls Try.prog 73 #[.agg #[.int .i64 (m : Int)], .int .i64 n] w fun e w' => e = .returned (.int .i64 (n % (m : Int))) ∧ Below w.heap.size w w' := by
  have b1 := Int.lt_tmod_of_pos n (show (0 : Int) < m by omega)
  have b2 := Int.tmod_lt_of_pos n (show (0 : Int) < m by omega)
  have e1 := rem_eq n m hm
  obtain ⟨t, ht⟩ : ∃ t, n.tmod (m : Int) = t := ⟨_, rfl⟩
  rw [ht] at b1 b2 e1
  have hz : ¬ m = 0 := by omega
  have E := Lib.hid e1
  have E2 := Lib.hid ht
  have w1 := IntWalk.i64_in t (by omega)
  have w2 := IntWalk.i64_in (t + (m : Int)) (by omega)
  clear e1
  go_enter Try.func73, Try.ntmps73
  go_wp2
  refine wp_region_Tw [0, 1, 2, 3, 4, 5, 6, 7, 8, 9, 10] [2, 5, 8] (.lp 0 (.lp 1 (.lp 4 (.lp 7 (.ls 2 (.lp 3 (.ls 5 (.lp 6 (.ls 8 (.lp 9 (.lp 10 (.done)))))))))))) (by kernel_rfl) (by kernel_rfl) ?_
  (repeat (first | (refine T_lp rfl (fun K hK => ?_); go_simp; refine hK _ ?_; clear hK K) | (refine T_ls rfl rfl (fun K hK => ?_); go_simp; refine hK _ ?_; clear hK K)))
  refine T_done ?_
  go_wp2
  go_ret
  exact ⟨by rw [E.out]; rfl, ((Below.refl _ _).alloc (Nat.le_refl _) _).drew⟩

set_option maxRecDepth 100000 in
set_option maxHeartbeats 400000 in
theorem rmSum_any (m : Nat) (a b : Int) (w : World) (hm : 0 < m) (hm2 : m ≤ 1000000) (h1 : -1000000 ≤ a ∧ a ≤ 1000000) (h2 : -1000000 ≤ b ∧ b ≤ 1000000) : Calls Try.prog 174 #[.agg #[.int .i64 (m : Int)], .int .i64 a, .int .i64 b] w fun e w' => e = .returned (.int .i64 ((a + b) % (m : Int))) ∧ Below w.heap.size w w' := by
  skip
  have HC := Lib.hid (fun W => rmCon_any m (a + b) W hm hm2)
  clear hm hm2
  go_enter Try.func174, Try.ntmps174
  go_wp2_with fail
  go_at_call 73
  refine (HC.out _).mono ?_
  rintro e w2 ⟨rfl, hb2⟩
  have HB2 := Lib.hid (((Below.refl w.heap.size w).alloc (Nat.le_refl _) _).trans (hb2.mono (by simp)))
  clear hb2
  go_wp2
  go_ret
  exact ⟨rfl, HB2.out⟩

set_option maxRecDepth 100000 in
set_option maxHeartbeats 400000 in
theorem rmSca_any (m : Nat) (a b : Int) (w : World) (hm : 0 < m) (hm2 : m ≤ 1000000) (h1 : -1000000 ≤ a ∧ a ≤ 1000000) (h2 : -1000000 ≤ b ∧ b ≤ 1000000) : Calls Try.prog 173 #[.agg #[.int .i64 (m : Int)], .int .i64 a, .int .i64 b] w fun e w' => e = .returned (.int .i64 ((a * b) % (m : Int))) ∧ Below w.heap.size w w' := by
  have hab := mul_bd h1 h2
  have HC := Lib.hid (fun W => rmCon_any m (a * b) W hm hm2)
  obtain ⟨n, hn⟩ : ∃ n, a * b = n := ⟨_, rfl⟩
  rw [hn] at hab
  have w1 : wrap64 (a * b) = n := by rw [hn]; exact IntWalk.wrap64_in _ (by omega)
  rw [hn] at HC
  rw [hn]
  clear hab hn hm hm2
  go_enter Try.func173, Try.ntmps173
  go_wp2_with fail
  go_at_call 73
  refine (HC.out _).mono ?_
  rintro e w2 ⟨rfl, hb2⟩
  have HB2 := Lib.hid (((Below.refl w.heap.size w).alloc (Nat.le_refl _) _).trans (hb2.mono (by simp)))
  clear hb2
  go_wp2
  go_ret
  exact ⟨rfl, HB2.out⟩

set_option maxRecDepth 100000 in
set_option maxHeartbeats 400000 in
theorem rmPro_any (m : Nat) (a b : Int) (w : World) (hm : 0 < m) (hm2 : m ≤ 1000000) (h1 : -1000000 ≤ a ∧ a ≤ 1000000) (h2 : -1000000 ≤ b ∧ b ≤ 1000000) : Calls Try.prog 172 #[.agg #[.int .i64 (m : Int)], .int .i64 a, .int .i64 b] w fun e w' => e = .returned (.int .i64 ((a * b) % (m : Int))) ∧ Below w.heap.size w w' := by
  have hab := mul_bd h1 h2
  have HC := Lib.hid (fun W => rmCon_any m (a * b) W hm hm2)
  obtain ⟨n, hn⟩ : ∃ n, a * b = n := ⟨_, rfl⟩
  rw [hn] at hab
  have w1 : wrap64 (a * b) = n := by rw [hn]; exact IntWalk.wrap64_in _ (by omega)
  rw [hn] at HC
  rw [hn]
  clear hab hn hm hm2
  go_enter Try.func172, Try.ntmps172
  go_wp2_with fail
  go_at_call 73
  refine (HC.out _).mono ?_
  rintro e w2 ⟨rfl, hb2⟩
  have HB2 := Lib.hid (((Below.refl w.heap.size w).alloc (Nat.le_refl _) _).trans (hb2.mono (by simp)))
  clear hb2
  go_wp2
  go_ret
  exact ⟨rfl, HB2.out⟩

set_option maxRecDepth 100000 in
set_option maxHeartbeats 400000 in
theorem dpSum_any (a b : Int) (w : World) (_h1 : 0 ≤ a ∧ a ≤ 1000) (_h2 : 0 ≤ b ∧ b ≤ 1000) : Calls Try.prog 178 #[.agg #[], .int .i64 a, .int .i64 b] w fun e w' => e = .returned (.int .i64 (mx a b)) ∧ Below w.heap.size w w' := by
  have HB := Lib.hid (fun o => (Below.refl w.heap.size w).alloc (Nat.le_refl _) o)
  unfold mx
  by_cases h : a < b
  · rw [if_pos h]
    have hab : a ≤ b := by omega
    go_enter Try.func178, Try.ntmps178
    go_wp2
    go_ret
    exact ⟨rfl, HB.out _⟩
  · rw [if_neg h]
    have hab : b ≤ a := by omega
    go_enter Try.func178, Try.ntmps178
    go_wp2
    go_ret
    exact ⟨rfl, HB.out _⟩

set_option maxRecDepth 100000 in
set_option maxHeartbeats 400000 in
theorem dpPro_any (a b : Int) (w : World) (_h1 : 0 ≤ a ∧ a ≤ 1000) (_h2 : 0 ≤ b ∧ b ≤ 1000) : Calls Try.prog 176 #[.agg #[], .int .i64 a, .int .i64 b] w fun e w' => e = .returned (.int .i64 (1 + mx a b)) ∧ Below w.heap.size w w' := by
  have HB := Lib.hid (fun o => (Below.refl w.heap.size w).alloc (Nat.le_refl _) o)
  unfold mx
  by_cases h : a < b
  · rw [if_pos h]
    have hab : a ≤ b := by omega
    go_enter Try.func176, Try.ntmps176
    go_wp2
    go_ret
    exact ⟨rfl, HB.out _⟩
  · rw [if_neg h]
    have hab : b ≤ a := by omega
    go_enter Try.func176, Try.ntmps176
    go_wp2
    go_ret
    exact ⟨rfl, HB.out _⟩

set_option maxRecDepth 100000 in
theorem dpCon_any (n : Int) (w : World) : Calls Try.prog 175 #[.agg #[], .int .i64 n] w fun e w' => e = .returned (.int .i64 0) ∧ Below w.heap.size w w' := by
  go_enter Try.func175, Try.ntmps175
  go_wp2
  go_ret
  exact ⟨rfl, (Below.refl _ _).alloc (Nat.le_refl _) _⟩
set_option maxRecDepth 100000 in
theorem dpSca_any (a n : Int) (w : World) : Calls Try.prog 177 #[.agg #[], .int .i64 a, .int .i64 n] w fun e w' => e = .returned (.int .i64 a) ∧ Below w.heap.size w w' := by
  go_enter Try.func177, Try.ntmps177
  go_wp2
  go_ret
  exact ⟨rfl, (Below.refl _ _).alloc (Nat.le_refl _) _⟩

set_option maxRecDepth 100000 in
set_option maxHeartbeats 4000000 in
theorem rmVal_any (B : Nat) (A : Option Addr) (c : Nat) (m : Nat) (o : Op3) (l : List Int) (w : World) (hm : 0 < m) (hm2 : m ≤ 1000000) (hB : B ≤ w.heap.size) (hok : opOk o l.length = true) (hbd : ∀ v ∈ l, 0 ≤ v ∧ v < (m : Int)) (hr : Rd w B 1 A l.length (l.map I)) :
    Calls Try.prog 115 #[.agg #[.int .i64 o.1, .int .i64 o.2.1, .int .i64 o.2.2], .iface 82 (.agg #[.int .i64 (m : Int)]), .slice A l.length c] w fun e w' => e = .returned (.int .i64 (rmV (m : Int) o l)) ∧ Below w.heap.size w w' := by
  obtain ⟨k, a, b⟩ := o
  have OPN := Lib.hid (fun W => operation_any k a b W)
  simp only
  rcases opOk_cases hok with ⟨h0, ⟨ha1, ha2⟩, hb0⟩ | ⟨h0, ⟨ha1, ha2⟩, hb1, hb2⟩ | ⟨h0, ⟨ha1, ha2⟩, hb1, hb2⟩ | ⟨h0, ⟨ha1, ha2⟩, hb1, hb2⟩
  · simp only at h0 ha1 ha2 hb0
    subst h0
    subst hb0
    have O1 := Lib.hid (show ∀ W, Calls Try.prog 137 #[.agg #[.int .i64 0, .int .i64 a, .int .i64 0]] W fun e w' => e = .returned (.iface 150 (.agg #[.int .i64 a])) ∧ Below W.heap.size W w' from fun W => by have h := OPN.out W; rw [show opI (0, a, 0) = .iface 150 (.agg #[.int .i64 a]) by simp [opI]] at h; exact h)
    rw [show rmV (m : Int) (0, a, 0) l = a % (m : Int) from rfl]
    have k1 := fun W => as_con_con W a
    clear hok
    go_enter Try.func115, Try.ntmps115
    go_wp2_with fail
    go_at_call 137
    refine (O1.out _).mono ?_
    rintro e w1 ⟨rfl, hb1⟩
    have HB1 := Lib.hid (((Below.refl w.heap.size w).alloc (Nat.le_refl _) _).trans (hb1.mono (by simp)))
    have hs1 : w.heap.size ≤ w1.heap.size := HB1.out.size
    clear hb1
    go_wp2_with fail
    refine (rmCon_any m a _ hm hm2).mono ?_
    rintro e w2 ⟨rfl, hb2⟩
    have HB2 := Lib.hid ((HB1.out.alloc hs1 _).trans (hb2.mono (by simp; omega)))
    clear hb2
    go_wp2
    go_ret
    exact ⟨rfl, HB2.out⟩
  · simp only at h0 ha1 ha2 hb1 hb2
    subst h0
    obtain ⟨i, rfl⟩ : ∃ i : Nat, a = i := ⟨a.toNat, by omega⟩
    obtain ⟨j, rfl⟩ : ∃ j : Nat, b = j := ⟨b.toNat, by omega⟩
    have hi : i < l.length := by omega
    have hj : j < l.length := by omega
    have O1 := Lib.hid (show ∀ W, Calls Try.prog 137 #[.agg #[.int .i64 1, .int .i64 (i : Int), .int .i64 (j : Int)]] W fun e w' => e = .returned (.iface 157 (.agg #[.int .i64 (i : Int), .int .i64 (j : Int)])) ∧ Below W.heap.size W w' from fun W => by have h := OPN.out W; rw [show opI (1, (i : Int), (j : Int)) = .iface 157 (.agg #[.int .i64 (i : Int), .int .i64 (j : Int)]) by simp [opI]] at h; exact h)
    rw [show rmV (m : Int) (1, (i : Int), (j : Int)) l = (vI l (i : Int) + vI l (j : Int)) % (m : Int) from rfl, vI_at hi, vI_at hj]
    have bi := hbd _ (List.getElem_mem hi)
    have bj := hbd _ (List.getElem_mem hj)
    obtain ⟨g, off, rfl, hg, hci⟩ := hr.int hi
    obtain ⟨g', off', hA', _, hcj⟩ := hr.int hj
    injection hA' with hA'
    injection hA' with hA1 hA2
    subst hA1
    subst hA2
    obtain ⟨x, hx⟩ : ∃ x, l[i] = x := ⟨_, rfl⟩
    rw [hx] at hci bi ⊢
    obtain ⟨y, hy⟩ : ∃ y, l[j] = y := ⟨_, rfl⟩
    rw [hy] at hcj bj ⊢
    have CI := Lib.hid (fun (W : World) (hb : Below w.heap.size w W) => (hb.cell (p := ⟨g, off + i, none⟩) (by simp only []; omega)).trans hci)
    have CJ := Lib.hid (fun (W : World) (hb : Below w.heap.size w W) => (hb.cell (p := ⟨g, off + j, none⟩) (by simp only []; omega)).trans hcj)
    have PS := Lib.hid (fun W => rmSum_any m x y W hm hm2 (by omega) (by omega))
    have ii : (i : Int) < (l.length : Int) := by omega
    have ij : (j : Int) < (l.length : Int) := by omega
    have kcon := fun W => as_sum_con W (i : Int) (j : Int)
    have ksum := fun W => as_sum_sum W (i : Int) (j : Int)
    clear hok hr hbd hci hx ha1 ha2 hi hb1 hb2 hcj hy hj bi bj
    go_enter Try.func115, Try.ntmps115
    go_wp2_with fail
    go_at_call 137
    refine (O1.out _).mono ?_
    rintro e w1 ⟨rfl, hb1⟩
    have HB1 := Lib.hid (((Below.refl w.heap.size w).alloc (Nat.le_refl _) _).trans (hb1.mono (by simp)))
    have hs1 : w.heap.size ≤ w1.heap.size := HB1.out.size
    have ci := cell_kept (CI.out w1 HB1.out)
    have cj := cell_kept (CJ.out w1 HB1.out)
    clear hb1
    go_wp2
    refine wp_region_Tw [0, 1, 2, 3, 4, 5, 6, 7, 8, 9, 10, 11, 12, 13, 15] [3, 5, 8, 10] (.lp 0 (.lp 1 (.lp 2 (.lp 6 (.lp 7 (.lp 11 (.lp 12 (.lp 13 (.ls 3 (.lp 4 (.ls 5 (.ls 8 (.lp 9 (.ls 10 (.hv 14 (.lp 15 (.done))))))))))))))))) (by kernel_rfl) (by kernel_rfl) ?_
    (repeat (first | (refine T_lp rfl (fun K hK => ?_); go_simp; refine hK _ ?_; clear hK K) | (refine T_ls rfl rfl (fun K hK => ?_); go_simp; refine hK _ ?_; clear hK K)))
    refine T_lq1 (v := .func (.method "loop.example/g01098/impl.sum") #[.iface 82 (.agg #[.int .i64 (m : Int)])] #[]) rfl rfl (fun x => by kernel_rfl) (fun K hK => ?_)
    (go_simp; refine hK _ ?_; clear hK K)
    (repeat (first | (refine T_lp rfl (fun K hK => ?_); go_simp; refine hK _ ?_; clear hK K) | (refine T_ls rfl rfl (fun K hK => ?_); go_simp; refine hK _ ?_; clear hK K)))
    (refine T_hv rfl (by kernel_rfl) (fun K hK => ?_); go_simp)
    refine (PS.out _).mono ?_
    rintro e w2 ⟨rfl, hb2⟩
    have HB2 := Lib.hid (((HB1.out.alloc hs1 _).drew).trans (hb2.mono (by simp; omega)))
    clear hb2
    (go_simp; refine hK _ _ ?_; clear hK K)
    (repeat (first | (refine T_lp rfl (fun K hK => ?_); go_simp; refine hK _ ?_; clear hK K) | (refine T_ls rfl rfl (fun K hK => ?_); go_simp; refine hK _ ?_; clear hK K)))
    refine T_done ?_
    go_wp2
    go_ret
    exact ⟨rfl, HB2.out⟩
  · simp only at h0 ha1 ha2 hb1 hb2
    subst h0
    obtain ⟨i, rfl⟩ : ∃ i : Nat, a = i := ⟨a.toNat, by omega⟩
    have hi : i < l.length := by omega
    have O1 := Lib.hid (show ∀ W, Calls Try.prog 137 #[.agg #[.int .i64 2, .int .i64 (i : Int), .int .i64 b]] W fun e w' => e = .returned (.iface 152 (.agg #[.int .i64 (i : Int), .int .i64 b])) ∧ Below W.heap.size W w' from fun W => by have h := OPN.out W; rw [show opI (2, (i : Int), b) = .iface 152 (.agg #[.int .i64 (i : Int), .int .i64 b]) by simp [opI]] at h; exact h)
    rw [show rmV (m : Int) (2, (i : Int), b) l = (vI l (i : Int) * b) % (m : Int) from rfl, vI_at hi]
    have bi := hbd _ (List.getElem_mem hi)
    obtain ⟨g, off, rfl, hg, hci⟩ := hr.int hi
    obtain ⟨x, hx⟩ : ∃ x, l[i] = x := ⟨_, rfl⟩
    rw [hx] at hci bi ⊢
    have CI := Lib.hid (fun (W : World) (hb : Below w.heap.size w W) => (hb.cell (p := ⟨g, off + i, none⟩) (by simp only []; omega)).trans hci)
    have PS := Lib.hid (fun W => rmSca_any m x b W hm hm2 (by omega) ⟨hb1, hb2⟩)
    have ii : (i : Int) < (l.length : Int) := by omega
    have kcon := fun W => as_sca_con W (i : Int) b
    have ksum := fun W => as_sca_sum W (i : Int) b
    have ksca := fun W => as_sca_sca W (i : Int) b
    clear hok hr hbd hci hx ha1 ha2 hi hb1 hb2 bi
    go_enter Try.func115, Try.ntmps115
    go_wp2_with fail
    go_at_call 137
    refine (O1.out _).mono ?_
    rintro e w1 ⟨rfl, hb1⟩
    have HB1 := Lib.hid (((Below.refl w.heap.size w).alloc (Nat.le_refl _) _).trans (hb1.mono (by simp)))
    have hs1 : w.heap.size ≤ w1.heap.size := HB1.out.size
    have ci := cell_kept (CI.out w1 HB1.out)
    clear hb1
    go_wp2
    refine wp_region_Tw [0, 1, 2, 3, 4, 5, 6, 7, 8, 9, 10, 12] [3, 5, 7] (.lp 0 (.lp 1 (.lp 2 (.lp 6 (.lp 8 (.lp 9 (.lp 10 (.ls 3 (.lp 4 (.ls 5 (.ls 7 (.hv 11 (.lp 12 (.done)))))))))))))) (by kernel_rfl) (by kernel_rfl) ?_
    (repeat (first | (refine T_lp rfl (fun K hK => ?_); go_simp; refine hK _ ?_; clear hK K) | (refine T_ls rfl rfl (fun K hK => ?_); go_simp; refine hK _ ?_; clear hK K)))
    refine T_lq1 (v := .func (.method "loop.example/g01098/impl.scaled") #[.iface 82 (.agg #[.int .i64 (m : Int)])] #[]) rfl rfl (fun x => by kernel_rfl) (fun K hK => ?_)
    (go_simp; refine hK _ ?_; clear hK K)
    (repeat (first | (refine T_lp rfl (fun K hK => ?_); go_simp; refine hK _ ?_; clear hK K) | (refine T_ls rfl rfl (fun K hK => ?_); go_simp; refine hK _ ?_; clear hK K)))
    (refine T_hv rfl (by kernel_rfl) (fun K hK => ?_); go_simp)
    refine (PS.out _).mono ?_
    rintro e w2 ⟨rfl, hb2⟩
    have HB2 := Lib.hid (((HB1.out.alloc hs1 _).drew).trans (hb2.mono (by simp; omega)))
    clear hb2
    (go_simp; refine hK _ _ ?_; clear hK K)
    (repeat (first | (refine T_lp rfl (fun K hK => ?_); go_simp; refine hK _ ?_; clear hK K) | (refine T_ls rfl rfl (fun K hK => ?_); go_simp; refine hK _ ?_; clear hK K)))
    refine T_done ?_
    go_wp2
    go_ret
    exact ⟨rfl, HB2.out⟩
  · simp only at h0 ha1 ha2 hb1 hb2
    subst h0
    obtain ⟨i, rfl⟩ : ∃ i : Nat, a = i := ⟨a.toNat, by omega⟩
    obtain ⟨j, rfl⟩ : ∃ j : Nat, b = j := ⟨b.toNat, by omega⟩
    have hi : i < l.length := by omega
    have hj : j < l.length := by omega
    have O1 := Lib.hid (show ∀ W, Calls Try.prog 137 #[.agg #[.int .i64 3, .int .i64 (i : Int), .int .i64 (j : Int)]] W fun e w' => e = .returned (.iface 159 (.agg #[.int .i64 (i : Int), .int .i64 (j : Int)])) ∧ Below W.heap.size W w' from fun W => by have h := OPN.out W; rw [show opI (3, (i : Int), (j : Int)) = .iface 159 (.agg #[.int .i64 (i : Int), .int .i64 (j : Int)]) by simp [opI]] at h; exact h)
    rw [show rmV (m : Int) (3, (i : Int), (j : Int)) l = (vI l (i : Int) * vI l (j : Int)) % (m : Int) from rfl, vI_at hi, vI_at hj]
    have bi := hbd _ (List.getElem_mem hi)
    have bj := hbd _ (List.getElem_mem hj)
    obtain ⟨g, off, rfl, hg, hci⟩ := hr.int hi
    obtain ⟨g', off', hA', _, hcj⟩ := hr.int hj
    injection hA' with hA'
    injection hA' with hA1 hA2
    subst hA1
    subst hA2
    obtain ⟨x, hx⟩ : ∃ x, l[i] = x := ⟨_, rfl⟩
    rw [hx] at hci bi ⊢
    obtain ⟨y, hy⟩ : ∃ y, l[j] = y := ⟨_, rfl⟩
    rw [hy] at hcj bj ⊢
    have CI := Lib.hid (fun (W : World) (hb : Below w.heap.size w W) => (hb.cell (p := ⟨g, off + i, none⟩) (by simp only []; omega)).trans hci)
    have CJ := Lib.hid (fun (W : World) (hb : Below w.heap.size w W) => (hb.cell (p := ⟨g, off + j, none⟩) (by simp only []; omega)).trans hcj)
    have PS := Lib.hid (fun W => rmPro_any m x y W hm hm2 (by omega) (by omega))
    have ii : (i : Int) < (l.length : Int) := by omega
    have ij : (j : Int) < (l.length : Int) := by omega
    have kcon := fun W => as_pro_con W (i : Int) (j : Int)
    have ksum := fun W => as_pro_sum W (i : Int) (j : Int)
    have ksca := fun W => as_pro_sca W (i : Int) (j : Int)
    have kpro := fun W => as_pro_pro W (i : Int) (j : Int)
    clear hok hr hbd hci hx ha1 ha2 hi hb1 hb2 hcj hy hj bi bj
    go_enter Try.func115, Try.ntmps115
    go_wp2_with fail
    go_at_call 137
    refine (O1.out _).mono ?_
    rintro e w1 ⟨rfl, hb1⟩
    have HB1 := Lib.hid (((Below.refl w.heap.size w).alloc (Nat.le_refl _) _).trans (hb1.mono (by simp)))
    have hs1 : w.heap.size ≤ w1.heap.size := HB1.out.size
    have ci := cell_kept (CI.out w1 HB1.out)
    have cj := cell_kept (CJ.out w1 HB1.out)
    clear hb1
    go_wp2
    refine wp_region_Tw [0, 1, 2, 3, 4, 5, 6, 7, 8, 9, 10, 11, 12, 13, 15] [3, 5, 8, 10] (.lp 0 (.lp 1 (.lp 2 (.lp 6 (.lp 7 (.lp 11 (.lp 12 (.lp 13 (.ls 3 (.lp 4 (.ls 5 (.ls 8 (.lp 9 (.ls 10 (.hv 14 (.lp 15 (.done))))))))))))))))) (by kernel_rfl) (by kernel_rfl) ?_
    (repeat (first | (refine T_lp rfl (fun K hK => ?_); go_simp; refine hK _ ?_; clear hK K) | (refine T_ls rfl rfl (fun K hK => ?_); go_simp; refine hK _ ?_; clear hK K)))
    refine T_lq1 (v := .func (.method "loop.example/g01098/impl.product") #[.iface 82 (.agg #[.int .i64 (m : Int)])] #[]) rfl rfl (fun x => by kernel_rfl) (fun K hK => ?_)
    (go_simp; refine hK _ ?_; clear hK K)
    (repeat (first | (refine T_lp rfl (fun K hK => ?_); go_simp; refine hK _ ?_; clear hK K) | (refine T_ls rfl rfl (fun K hK => ?_); go_simp; refine hK _ ?_; clear hK K)))
    (refine T_hv rfl (by kernel_rfl) (fun K hK => ?_); go_simp)
    refine (PS.out _).mono ?_
    rintro e w2 ⟨rfl, hb2⟩
    have HB2 := Lib.hid (((HB1.out.alloc hs1 _).drew).trans (hb2.mono (by simp; omega)))
    clear hb2
    (go_simp; refine hK _ _ ?_; clear hK K)
    (repeat (first | (refine T_lp rfl (fun K hK => ?_); go_simp; refine hK _ ?_; clear hK K) | (refine T_ls rfl rfl (fun K hK => ?_); go_simp; refine hK _ ?_; clear hK K)))
    refine T_done ?_
    go_wp2
    go_ret
    exact ⟨rfl, HB2.out⟩

set_option maxRecDepth 100000 in
set_option maxHeartbeats 4000000 in
theorem rmVals_any (B : Nat) (A : Option Addr) (c : Nat) (m : Nat) (q : Cd) (x : Int) (w : World) (hm : 0 < m) (hm2 : m ≤ 1000000) (hB : B ≤ w.heap.size) (hl : q.ops.length ≤ 120) (hgood : opsG q.ops q.ops.length = true) (hbd : (∀ k, k ≤ q.ops.length → ∀ v ∈ gvs (rmV (m : Int)) x q.ops k, 0 ≤ v ∧ v < (m : Int))) (hr : RdD w B A q) :
    Calls Try.prog 72 #[.slice A q.ops.length c, .iface 82 (.agg #[.int .i64 (m : Int)]), .int .i64 x] w fun e w' => ∃ A' c', e = .returned (.slice A' (q.ops.length + 1) c') ∧ OwI w' w.heap.size (.slice A' (q.ops.length + 1) c') (gvs (rmV (m : Int)) x q.ops q.ops.length) ∧ Below w.heap.size w w' := by
  have H := Lib.hid hr
  have GD := Lib.hid (fun k (hk : k < q.ops.length) => opsG_at hgood hk)
  have BD := Lib.hid hbd
  clear hr hgood hbd
  go_enter Try.func72, Try.ntmps72
  go_wp2
  generalize hw1 : World.alloc w _ = w1
  have hown : OwI w1 w.heap.size (.slice (some ⟨w.heap.size, 0, none⟩) 1 1) [x] := by rw [← hw1]; exact one_own x
  have hb1 : Below w.heap.size w w1 := by rw [← hw1]; exact (Below.refl _ _).alloc (Nat.le_refl _) _
  have O1 := Lib.hid hown
  have HB1 := Lib.hid hb1
  clear hw1 hown hb1
  go_loopw [7, 14] (fun lv iv wr => ∃ (k : Nat) (A2 : Option Addr) (c2 : Nat), k ≤ q.ops.length ∧ iv = .int .i64 (k : Int) ∧ lv = .slice A2 (k + 1) c2 ∧ OwI wr w.heap.size (.slice A2 (k + 1) c2) (gvs (rmV (m : Int)) x q.ops k) ∧ Below w.heap.size w wr) (fun _ i _ => q.ops.length - (intOf i).toNat)
  case atStart => exact ⟨0, _, _, by omega, rfl, rfl, O1.out, HB1.out⟩
  case round =>
    obtain ⟨k, A2, c2, hk, rfl, rfl, hown, hbel⟩ := hrel
    have hsz := hbel.size
    by_cases hlt : k < q.ops.length
    · obtain ⟨g, off, rfl, hg, hc1, hc2, hc3⟩ := ((H.out.below' hbel hB).op hlt : ∃ b off, A = some ⟨b, off, none⟩ ∧ b < B ∧ _)
      have ik : (k : Int) < (q.ops.length : Int) := by omega
      have hgo : q.ops.getD k o0 = q.ops[k] := by simp [List.getD_eq_getElem?_getD, hlt]
      have hok := GD.out k hlt
      unfold opG at hok
      rw [Bool.and_eq_true] at hok
      have hok := hok.1
      have hgl := gvs_len (rmV (m : Int)) x q.ops k
      have PN := Lib.hid (show gvs (rmV (m : Int)) x q.ops (k + 1) = gvs (rmV (m : Int)) x q.ops k ++ [(rmV (m : Int)) (q.ops.getD k o0) (gvs (rmV (m : Int)) x q.ops k)] from rfl)
      have BK := Lib.hid (BD.out k hk)
      rw [hgo] at hok PN
      obtain ⟨o, ho⟩ : ∃ o, q.ops[k] = o := ⟨_, rfl⟩
      rw [ho] at PN hc1 hc2 hc3 hok
      obtain ⟨L, hL⟩ : ∃ L, gvs (rmV (m : Int)) x q.ops k = L := ⟨_, rfl⟩
      rw [hL] at PN hgl BK hown
      have HGL := Lib.hid hgl
      have OWN := Lib.hid hown
      have BEL := Lib.hid hbel
      have VO := Lib.hid (show ∀ W : World, Rd W W.heap.size 1 A2 (k + 1) (L.map I) → Calls Try.prog 115 #[.agg #[.int .i64 o.1, .int .i64 o.2.1, .int .i64 o.2.2], .iface 82 (.agg #[.int .i64 (m : Int)]), .slice A2 (k + 1) c2] W fun e w' => e = .returned (.int .i64 (rmV (m : Int) o L)) ∧ Below W.heap.size W w' from fun W hr => by
        have h := rmVal_any W.heap.size A2 c2 m o L W hm hm2 (Nat.le_refl _) (by rw [HGL.out]; exact hok) BK.out (by rw [HGL.out]; exact hr)
        rw [HGL.out] at h
        exact h)
      obtain ⟨V, hV⟩ : ∃ V, (rmV (m : Int)) o L = V := ⟨_, rfl⟩
      rw [hV] at VO PN
      clear hgo ho hL hown hbel hgl hok hV
      go_wp2_with fail
      go_at_call 115
      generalize hw3 : World.alloc wr _ = wb
      obtain ⟨x0, x1, x2, xs, xb⟩ := box3 hw3
      clear hw3
      have own1 := OWN.out.below xb
      have rd1 : Rd wb wb.heap.size 1 A2 (k + 1) (L.map I) := by
        have h : wb.ownsRow w.heap.size 3 1 (.slice A2 (k + 1) c2) L.length (L.map I) := own1
        rw [HGL.out] at h
        exact Rd.of_own h
      refine (VO.out _ rd1).mono ?_
      rintro e w2 ⟨rfl, hb2⟩
      have OW2 := Lib.hid (own1.below hb2)
      have BE2 := Lib.hid (BEL.out.trans ((xb.trans (hb2.mono (by omega))).mono hsz))
      have hs2 : w.heap.size ≤ w2.heap.size := BE2.out.size
      clear x0 x1 x2 xs xb hb2 own1 rd1
      go_wp2_with (at_builtin; refine list_step (fun K hK => ?_); refine step_app_int rfl (.tmp 18) (.tmp 23) rfl w.heap.size (k + 1) _ L rfl (OW2.out.alloc _) HGL.out w2.heap.size 1 V rfl (by simp) (by omega) (by simp; omega) ?_; intro A6 c6 w6 hown6 hg6 hbel6; go_simp; refine hK _ _ ?_; clear hK K)
      go_roundw
      case rel => exact ⟨k + 1, A6, c6, by omega, by go_num, rfl, by rw [PN.out]; exact hown6, (BE2.out.alloc hs2 _).trans hbel6⟩
      case measure => simp [intOf]; omega
    · have hk' : k = q.ops.length := by omega
      subst hk'
      have OWN := Lib.hid hown
      have BEL := Lib.hid hbel
      clear hown hbel
      go_wp2
      go_ret
      exact ⟨A2, c2, rfl, OWN.out, BEL.out⟩

set_option maxRecDepth 100000 in
set_option maxHeartbeats 4000000 in
theorem dpVal_any (B : Nat) (A : Option Addr) (c : Nat) (o : Op3) (l : List Int) (w : World) (hB : B ≤ w.heap.size) (hok : opOk o l.length = true) (hbd : ∀ v ∈ l, 0 ≤ v ∧ v ≤ 1000) (hr : Rd w B 1 A l.length (l.map I)) :
    Calls Try.prog 115 #[.agg #[.int .i64 o.1, .int .i64 o.2.1, .int .i64 o.2.2], .iface 88 (.agg #[]), .slice A l.length c] w fun e w' => e = .returned (.int .i64 (dpV o l)) ∧ Below w.heap.size w w' := by
  obtain ⟨k, a, b⟩ := o
  have OPN := Lib.hid (fun W => operation_any k a b W)
  simp only
  rcases opOk_cases hok with ⟨h0, ⟨ha1, ha2⟩, hb0⟩ | ⟨h0, ⟨ha1, ha2⟩, hb1, hb2⟩ | ⟨h0, ⟨ha1, ha2⟩, hb1, hb2⟩ | ⟨h0, ⟨ha1, ha2⟩, hb1, hb2⟩
  · simp only at h0 ha1 ha2 hb0
    subst h0
    subst hb0
    have O1 := Lib.hid (show ∀ W, Calls Try.prog 137 #[.agg #[.int .i64 0, .int .i64 a, .int .i64 0]] W fun e w' => e = .returned (.iface 150 (.agg #[.int .i64 a])) ∧ Below W.heap.size W w' from fun W => by have h := OPN.out W; rw [show opI (0, a, 0) = .iface 150 (.agg #[.int .i64 a]) by simp [opI]] at h; exact h)
    rw [show dpV (0, a, 0) l = 0 from rfl]
    have k1 := fun W => as_con_con W a
    clear hok
    go_enter Try.func115, Try.ntmps115
    go_wp2_with fail
    go_at_call 137
    refine (O1.out _).mono ?_
    rintro e w1 ⟨rfl, hb1⟩
    have HB1 := Lib.hid (((Below.refl w.heap.size w).alloc (Nat.le_refl _) _).trans (hb1.mono (by simp)))
    have hs1 : w.heap.size ≤ w1.heap.size := HB1.out.size
    clear hb1
    go_wp2_with fail
    refine (dpCon_any a _).mono ?_
    rintro e w2 ⟨rfl, hb2⟩
    have HB2 := Lib.hid ((HB1.out.alloc hs1 _).trans (hb2.mono (by simp; omega)))
    clear hb2
    go_wp2
    go_ret
    exact ⟨rfl, HB2.out⟩
  · simp only at h0 ha1 ha2 hb1 hb2
    subst h0
    obtain ⟨i, rfl⟩ : ∃ i : Nat, a = i := ⟨a.toNat, by omega⟩
    obtain ⟨j, rfl⟩ : ∃ j : Nat, b = j := ⟨b.toNat, by omega⟩
    have hi : i < l.length := by omega
    have hj : j < l.length := by omega
    have O1 := Lib.hid (show ∀ W, Calls Try.prog 137 #[.agg #[.int .i64 1, .int .i64 (i : Int), .int .i64 (j : Int)]] W fun e w' => e = .returned (.iface 157 (.agg #[.int .i64 (i : Int), .int .i64 (j : Int)])) ∧ Below W.heap.size W w' from fun W => by have h := OPN.out W; rw [show opI (1, (i : Int), (j : Int)) = .iface 157 (.agg #[.int .i64 (i : Int), .int .i64 (j : Int)]) by simp [opI]] at h; exact h)
    rw [show dpV (1, (i : Int), (j : Int)) l = mx (vI l (i : Int)) (vI l (j : Int)) from rfl, vI_at hi, vI_at hj]
    have bi := hbd _ (List.getElem_mem hi)
    have bj := hbd _ (List.getElem_mem hj)
    obtain ⟨g, off, rfl, hg, hci⟩ := hr.int hi
    obtain ⟨g', off', hA', _, hcj⟩ := hr.int hj
    injection hA' with hA'
    injection hA' with hA1 hA2
    subst hA1
    subst hA2
    obtain ⟨x, hx⟩ : ∃ x, l[i] = x := ⟨_, rfl⟩
    rw [hx] at hci bi ⊢
    obtain ⟨y, hy⟩ : ∃ y, l[j] = y := ⟨_, rfl⟩
    rw [hy] at hcj bj ⊢
    have CI := Lib.hid (fun (W : World) (hb : Below w.heap.size w W) => (hb.cell (p := ⟨g, off + i, none⟩) (by simp only []; omega)).trans hci)
    have CJ := Lib.hid (fun (W : World) (hb : Below w.heap.size w W) => (hb.cell (p := ⟨g, off + j, none⟩) (by simp only []; omega)).trans hcj)
    have PS := Lib.hid (fun W => dpSum_any x y W bi bj)
    have ii : (i : Int) < (l.length : Int) := by omega
    have ij : (j : Int) < (l.length : Int) := by omega
    have kcon := fun W => as_sum_con W (i : Int) (j : Int)
    have ksum := fun W => as_sum_sum W (i : Int) (j : Int)
    clear hok hr hbd hci hx ha1 ha2 hi hb1 hb2 hcj hy hj bi bj
    go_enter Try.func115, Try.ntmps115
    go_wp2_with fail
    go_at_call 137
    refine (O1.out _).mono ?_
    rintro e w1 ⟨rfl, hb1⟩
    have HB1 := Lib.hid (((Below.refl w.heap.size w).alloc (Nat.le_refl _) _).trans (hb1.mono (by simp)))
    have hs1 : w.heap.size ≤ w1.heap.size := HB1.out.size
    have ci := cell_kept (CI.out w1 HB1.out)
    have cj := cell_kept (CJ.out w1 HB1.out)
    clear hb1
    go_wp2
    refine wp_region_Tw [0, 1, 2, 3, 4, 5, 6, 7, 8, 9, 10, 11, 12, 13, 15] [3, 5, 8, 10] (.lp 0 (.lp 1 (.lp 2 (.lp 6 (.lp 7 (.lp 11 (.lp 12 (.lp 13 (.ls 3 (.lp 4 (.ls 5 (.ls 8 (.lp 9 (.ls 10 (.hv 14 (.lp 15 (.done))))))))))))))))) (by kernel_rfl) (by kernel_rfl) ?_
    (repeat (first | (refine T_lp rfl (fun K hK => ?_); go_simp; refine hK _ ?_; clear hK K) | (refine T_ls rfl rfl (fun K hK => ?_); go_simp; refine hK _ ?_; clear hK K)))
    refine T_lq1 (v := .func (.method "loop.example/g01098/impl.sum") #[.iface 88 (.agg #[])] #[]) rfl rfl (fun x => by kernel_rfl) (fun K hK => ?_)
    (go_simp; refine hK _ ?_; clear hK K)
    (repeat (first | (refine T_lp rfl (fun K hK => ?_); go_simp; refine hK _ ?_; clear hK K) | (refine T_ls rfl rfl (fun K hK => ?_); go_simp; refine hK _ ?_; clear hK K)))
    (refine T_hv rfl (by kernel_rfl) (fun K hK => ?_); go_simp)
    refine (PS.out _).mono ?_
    rintro e w2 ⟨rfl, hb2⟩
    have HB2 := Lib.hid (((HB1.out.alloc hs1 _).drew).trans (hb2.mono (by simp; omega)))
    clear hb2
    (go_simp; refine hK _ _ ?_; clear hK K)
    (repeat (first | (refine T_lp rfl (fun K hK => ?_); go_simp; refine hK _ ?_; clear hK K) | (refine T_ls rfl rfl (fun K hK => ?_); go_simp; refine hK _ ?_; clear hK K)))
    refine T_done ?_
    go_wp2
    go_ret
    exact ⟨rfl, HB2.out⟩
  · simp only at h0 ha1 ha2 hb1 hb2
    subst h0
    obtain ⟨i, rfl⟩ : ∃ i : Nat, a = i := ⟨a.toNat, by omega⟩
    have hi : i < l.length := by omega
    have O1 := Lib.hid (show ∀ W, Calls Try.prog 137 #[.agg #[.int .i64 2, .int .i64 (i : Int), .int .i64 b]] W fun e w' => e = .returned (.iface 152 (.agg #[.int .i64 (i : Int), .int .i64 b])) ∧ Below W.heap.size W w' from fun W => by have h := OPN.out W; rw [show opI (2, (i : Int), b) = .iface 152 (.agg #[.int .i64 (i : Int), .int .i64 b]) by simp [opI]] at h; exact h)
    rw [show dpV (2, (i : Int), b) l = vI l (i : Int) from rfl, vI_at hi]
    have bi := hbd _ (List.getElem_mem hi)
    obtain ⟨g, off, rfl, hg, hci⟩ := hr.int hi
    obtain ⟨x, hx⟩ : ∃ x, l[i] = x := ⟨_, rfl⟩
    rw [hx] at hci bi ⊢
    have CI := Lib.hid (fun (W : World) (hb : Below w.heap.size w W) => (hb.cell (p := ⟨g, off + i, none⟩) (by simp only []; omega)).trans hci)
    have PS := Lib.hid (fun W => dpSca_any x b W)
    have ii : (i : Int) < (l.length : Int) := by omega
    have kcon := fun W => as_sca_con W (i : Int) b
    have ksum := fun W => as_sca_sum W (i : Int) b
    have ksca := fun W => as_sca_sca W (i : Int) b
    clear hok hr hbd hci hx ha1 ha2 hi hb1 hb2 bi
    go_enter Try.func115, Try.ntmps115
    go_wp2_with fail
    go_at_call 137
    refine (O1.out _).mono ?_
    rintro e w1 ⟨rfl, hb1⟩
    have HB1 := Lib.hid (((Below.refl w.heap.size w).alloc (Nat.le_refl _) _).trans (hb1.mono (by simp)))
    have hs1 : w.heap.size ≤ w1.heap.size := HB1.out.size
    have ci := cell_kept (CI.out w1 HB1.out)
    clear hb1
    go_wp2
    refine wp_region_Tw [0, 1, 2, 3, 4, 5, 6, 7, 8, 9, 10, 12] [3, 5, 7] (.lp 0 (.lp 1 (.lp 2 (.lp 6 (.lp 8 (.lp 9 (.lp 10 (.ls 3 (.lp 4 (.ls 5 (.ls 7 (.hv 11 (.lp 12 (.done)))))))))))))) (by kernel_rfl) (by kernel_rfl) ?_
    (repeat (first | (refine T_lp rfl (fun K hK => ?_); go_simp; refine hK _ ?_; clear hK K) | (refine T_ls rfl rfl (fun K hK => ?_); go_simp; refine hK _ ?_; clear hK K)))
    refine T_lq1 (v := .func (.method "loop.example/g01098/impl.scaled") #[.iface 88 (.agg #[])] #[]) rfl rfl (fun x => by kernel_rfl) (fun K hK => ?_)
    (go_simp; refine hK _ ?_; clear hK K)
    (repeat (first | (refine T_lp rfl (fun K hK => ?_); go_simp; refine hK _ ?_; clear hK K) | (refine T_ls rfl rfl (fun K hK => ?_); go_simp; refine hK _ ?_; clear hK K)))
    (refine T_hv rfl (by kernel_rfl) (fun K hK => ?_); go_simp)
    refine (PS.out _).mono ?_
    rintro e w2 ⟨rfl, hb2⟩
    have HB2 := Lib.hid (((HB1.out.alloc hs1 _).drew).trans (hb2.mono (by simp; omega)))
    clear hb2
    (go_simp; refine hK _ _ ?_; clear hK K)
    (repeat (first | (refine T_lp rfl (fun K hK => ?_); go_simp; refine hK _ ?_; clear hK K) | (refine T_ls rfl rfl (fun K hK => ?_); go_simp; refine hK _ ?_; clear hK K)))
    refine T_done ?_
    go_wp2
    go_ret
    exact ⟨rfl, HB2.out⟩
  · simp only at h0 ha1 ha2 hb1 hb2
    subst h0
    obtain ⟨i, rfl⟩ : ∃ i : Nat, a = i := ⟨a.toNat, by omega⟩
    obtain ⟨j, rfl⟩ : ∃ j : Nat, b = j := ⟨b.toNat, by omega⟩
    have hi : i < l.length := by omega
    have hj : j < l.length := by omega
    have O1 := Lib.hid (show ∀ W, Calls Try.prog 137 #[.agg #[.int .i64 3, .int .i64 (i : Int), .int .i64 (j : Int)]] W fun e w' => e = .returned (.iface 159 (.agg #[.int .i64 (i : Int), .int .i64 (j : Int)])) ∧ Below W.heap.size W w' from fun W => by have h := OPN.out W; rw [show opI (3, (i : Int), (j : Int)) = .iface 159 (.agg #[.int .i64 (i : Int), .int .i64 (j : Int)]) by simp [opI]] at h; exact h)
    rw [show dpV (3, (i : Int), (j : Int)) l = 1 + mx (vI l (i : Int)) (vI l (j : Int)) from rfl, vI_at hi, vI_at hj]
    have bi := hbd _ (List.getElem_mem hi)
    have bj := hbd _ (List.getElem_mem hj)
    obtain ⟨g, off, rfl, hg, hci⟩ := hr.int hi
    obtain ⟨g', off', hA', _, hcj⟩ := hr.int hj
    injection hA' with hA'
    injection hA' with hA1 hA2
    subst hA1
    subst hA2
    obtain ⟨x, hx⟩ : ∃ x, l[i] = x := ⟨_, rfl⟩
    rw [hx] at hci bi ⊢
    obtain ⟨y, hy⟩ : ∃ y, l[j] = y := ⟨_, rfl⟩
    rw [hy] at hcj bj ⊢
    have CI := Lib.hid (fun (W : World) (hb : Below w.heap.size w W) => (hb.cell (p := ⟨g, off + i, none⟩) (by simp only []; omega)).trans hci)
    have CJ := Lib.hid (fun (W : World) (hb : Below w.heap.size w W) => (hb.cell (p := ⟨g, off + j, none⟩) (by simp only []; omega)).trans hcj)
    have PS := Lib.hid (fun W => dpPro_any x y W bi bj)
    have ii : (i : Int) < (l.length : Int) := by omega
    have ij : (j : Int) < (l.length : Int) := by omega
    have kcon := fun W => as_pro_con W (i : Int) (j : Int)
    have ksum := fun W => as_pro_sum W (i : Int) (j : Int)
    have ksca := fun W => as_pro_sca W (i : Int) (j : Int)
    have kpro := fun W => as_pro_pro W (i : Int) (j : Int)
    clear hok hr hbd hci hx ha1 ha2 hi hb1 hb2 hcj hy hj bi bj
    go_enter Try.func115, Try.ntmps115
    go_wp2_with fail
    go_at_call 137
    refine (O1.out _).mono ?_
    rintro e w1 ⟨rfl, hb1⟩
    have HB1 := Lib.hid (((Below.refl w.heap.size w).alloc (Nat.le_refl _) _).trans (hb1.mono (by simp)))
    have hs1 : w.heap.size ≤ w1.heap.size := HB1.out.size
    have ci := cell_kept (CI.out w1 HB1.out)
    have cj := cell_kept (CJ.out w1 HB1.out)
    clear hb1
    go_wp2
    refine wp_region_Tw [0, 1, 2, 3, 4, 5, 6, 7, 8, 9, 10, 11, 12, 13, 15] [3, 5, 8, 10] (.lp 0 (.lp 1 (.lp 2 (.lp 6 (.lp 7 (.lp 11 (.lp 12 (.lp 13 (.ls 3 (.lp 4 (.ls 5 (.ls 8 (.lp 9 (.ls 10 (.hv 14 (.lp 15 (.done))))))))))))))))) (by kernel_rfl) (by kernel_rfl) ?_
    (repeat (first | (refine T_lp rfl (fun K hK => ?_); go_simp; refine hK _ ?_; clear hK K) | (refine T_ls rfl rfl (fun K hK => ?_); go_simp; refine hK _ ?_; clear hK K)))
    refine T_lq1 (v := .func (.method "loop.example/g01098/impl.product") #[.iface 88 (.agg #[])] #[]) rfl rfl (fun x => by kernel_rfl) (fun K hK => ?_)
    (go_simp; refine hK _ ?_; clear hK K)
    (repeat (first | (refine T_lp rfl (fun K hK => ?_); go_simp; refine hK _ ?_; clear hK K) | (refine T_ls rfl rfl (fun K hK => ?_); go_simp; refine hK _ ?_; clear hK K)))
    (refine T_hv rfl (by kernel_rfl) (fun K hK => ?_); go_simp)
    refine (PS.out _).mono ?_
    rintro e w2 ⟨rfl, hb2⟩
    have HB2 := Lib.hid (((HB1.out.alloc hs1 _).drew).trans (hb2.mono (by simp; omega)))
    clear hb2
    (go_simp; refine hK _ _ ?_; clear hK K)
    (repeat (first | (refine T_lp rfl (fun K hK => ?_); go_simp; refine hK _ ?_; clear hK K) | (refine T_ls rfl rfl (fun K hK => ?_); go_simp; refine hK _ ?_; clear hK K)))
    refine T_done ?_
    go_wp2
    go_ret
    exact ⟨rfl, HB2.out⟩

set_option maxRecDepth 100000 in
set_option maxHeartbeats 4000000 in
theorem dpVals_any (B : Nat) (A : Option Addr) (c : Nat) (q : Cd) (x : Int) (w : World) (hB : B ≤ w.heap.size) (hl : q.ops.length ≤ 120) (hgood : opsG q.ops q.ops.length = true) (hbd : (∀ k, k ≤ q.ops.length → ∀ v ∈ gvs (dpV) x q.ops k, 0 ≤ v ∧ v ≤ 1000)) (hr : RdD w B A q) :
    Calls Try.prog 72 #[.slice A q.ops.length c, .iface 88 (.agg #[]), .int .i64 x] w fun e w' => ∃ A' c', e = .returned (.slice A' (q.ops.length + 1) c') ∧ OwI w' w.heap.size (.slice A' (q.ops.length + 1) c') (gvs (dpV) x q.ops q.ops.length) ∧ Below w.heap.size w w' := by
  have H := Lib.hid hr
  have GD := Lib.hid (fun k (hk : k < q.ops.length) => opsG_at hgood hk)
  have BD := Lib.hid hbd
  clear hr hgood hbd
  go_enter Try.func72, Try.ntmps72
  go_wp2
  generalize hw1 : World.alloc w _ = w1
  have hown : OwI w1 w.heap.size (.slice (some ⟨w.heap.size, 0, none⟩) 1 1) [x] := by rw [← hw1]; exact one_own x
  have hb1 : Below w.heap.size w w1 := by rw [← hw1]; exact (Below.refl _ _).alloc (Nat.le_refl _) _
  have O1 := Lib.hid hown
  have HB1 := Lib.hid hb1
  clear hw1 hown hb1
  go_loopw [7, 14] (fun lv iv wr => ∃ (k : Nat) (A2 : Option Addr) (c2 : Nat), k ≤ q.ops.length ∧ iv = .int .i64 (k : Int) ∧ lv = .slice A2 (k + 1) c2 ∧ OwI wr w.heap.size (.slice A2 (k + 1) c2) (gvs (dpV) x q.ops k) ∧ Below w.heap.size w wr) (fun _ i _ => q.ops.length - (intOf i).toNat)
  case atStart => exact ⟨0, _, _, by omega, rfl, rfl, O1.out, HB1.out⟩
  case round =>
    obtain ⟨k, A2, c2, hk, rfl, rfl, hown, hbel⟩ := hrel
    have hsz := hbel.size
    by_cases hlt : k < q.ops.length
    · obtain ⟨g, off, rfl, hg, hc1, hc2, hc3⟩ := ((H.out.below' hbel hB).op hlt : ∃ b off, A = some ⟨b, off, none⟩ ∧ b < B ∧ _)
      have ik : (k : Int) < (q.ops.length : Int) := by omega
      have hgo : q.ops.getD k o0 = q.ops[k] := by simp [List.getD_eq_getElem?_getD, hlt]
      have hok := GD.out k hlt
      unfold opG at hok
      rw [Bool.and_eq_true] at hok
      have hok := hok.1
      have hgl := gvs_len (dpV) x q.ops k
      have PN := Lib.hid (show gvs (dpV) x q.ops (k + 1) = gvs (dpV) x q.ops k ++ [(dpV) (q.ops.getD k o0) (gvs (dpV) x q.ops k)] from rfl)
      have BK := Lib.hid (BD.out k hk)
      rw [hgo] at hok PN
      obtain ⟨o, ho⟩ : ∃ o, q.ops[k] = o := ⟨_, rfl⟩
      rw [ho] at PN hc1 hc2 hc3 hok
      obtain ⟨L, hL⟩ : ∃ L, gvs (dpV) x q.ops k = L := ⟨_, rfl⟩
      rw [hL] at PN hgl BK hown
      have HGL := Lib.hid hgl
      have OWN := Lib.hid hown
      have BEL := Lib.hid hbel
      have VO := Lib.hid (show ∀ W : World, Rd W W.heap.size 1 A2 (k + 1) (L.map I) → Calls Try.prog 115 #[.agg #[.int .i64 o.1, .int .i64 o.2.1, .int .i64 o.2.2], .iface 88 (.agg #[]), .slice A2 (k + 1) c2] W fun e w' => e = .returned (.int .i64 (dpV o L)) ∧ Below W.heap.size W w' from fun W hr => by
        have h := dpVal_any W.heap.size A2 c2 o L W (Nat.le_refl _) (by rw [HGL.out]; exact hok) BK.out (by rw [HGL.out]; exact hr)
        rw [HGL.out] at h
        exact h)
      obtain ⟨V, hV⟩ : ∃ V, (dpV) o L = V := ⟨_, rfl⟩
      rw [hV] at VO PN
      clear hgo ho hL hown hbel hgl hok hV
      go_wp2_with fail
      go_at_call 115
      generalize hw3 : World.alloc wr _ = wb
      obtain ⟨x0, x1, x2, xs, xb⟩ := box3 hw3
      clear hw3
      have own1 := OWN.out.below xb
      have rd1 : Rd wb wb.heap.size 1 A2 (k + 1) (L.map I) := by
        have h : wb.ownsRow w.heap.size 3 1 (.slice A2 (k + 1) c2) L.length (L.map I) := own1
        rw [HGL.out] at h
        exact Rd.of_own h
      refine (VO.out _ rd1).mono ?_
      rintro e w2 ⟨rfl, hb2⟩
      have OW2 := Lib.hid (own1.below hb2)
      have BE2 := Lib.hid (BEL.out.trans ((xb.trans (hb2.mono (by omega))).mono hsz))
      have hs2 : w.heap.size ≤ w2.heap.size := BE2.out.size
      clear x0 x1 x2 xs xb hb2 own1 rd1
      go_wp2_with (at_builtin; refine list_step (fun K hK => ?_); refine step_app_int rfl (.tmp 18) (.tmp 23) rfl w.heap.size (k + 1) _ L rfl (OW2.out.alloc _) HGL.out w2.heap.size 1 V rfl (by simp) (by omega) (by simp; omega) ?_; intro A6 c6 w6 hown6 hg6 hbel6; go_simp; refine hK _ _ ?_; clear hK K)
      go_roundw
      case rel => exact ⟨k + 1, A6, c6, by omega, by go_num, rfl, by rw [PN.out]; exact hown6, (BE2.out.alloc hs2 _).trans hbel6⟩
      case measure => simp [intOf]; omega
    · have hk' : k = q.ops.length := by omega
      subst hk'
      have OWN := Lib.hid hown
      have BEL := Lib.hid hbel
      clear hown hbel
      go_wp2
      go_ret
      exact ⟨A2, c2, rfl, OWN.out, BEL.out⟩
end Go.Proofs.Ytpopomcaknbhnaa
