/- The polynomials of the values of a code, by the program. -/
import Derived.Test.YtpopomcaknbhnaaH8g
import Derived.Test.YtpopomcaknbhnaaH8q
import Derived.Test.YtpopomcaknbhnaaRwa
import Derived.Test.YtpopomcaknbhnaaH8c
namespace Go.Proofs.Ytpopomcaknbhnaa
open Go.RowKit

theorem OwW.push {w w' : World} {B c c' cx : Nat} {A A' Ax : Option Addr} {f : Nat → Option Addr × Nat} {r : Rws} {x : List Int} (h : OwW w B A c f r) (ho : w'.ownsRow B 36 1 (.slice A' (r.length + 1) c') (r.length + 1) (rwV f r r.length ++ [.slice Ax x.length cx]))
    (hg : w.grownBy w' (Value.slice A r.length c).ownBlock) (hx : OwI w B (.slice Ax x.length cx) x) : OwW w' B A' c' (updR f r.length (Ax, cx)) (r ++ [x]) := by
  have e1 : (r ++ [x]).length = r.length + 1 := by simp
  have e2 : ∀ i, i < r.length → (r ++ [x]).getD i [] = r.getD i [] := fun i hi => by rw [List.getD_eq_getElem?_getD, List.getElem?_append_left hi, List.getD_eq_getElem?_getD]
  have e3 : (r ++ [x]).getD r.length [] = x := by simp [List.getD_eq_getElem?_getD]
  have e4 : rwV (updR f r.length (Ax, cx)) (r ++ [x]) (r.length + 1) = rwV f r r.length ++ [.slice Ax x.length cx] := by
    rw [rwV_upd, e3]
    congr 1
    unfold rwV
    apply List.map_congr_left
    intro i hi
    rw [e2 i (List.mem_range.1 hi)]
  refine ⟨?_, fun i hi => ?_⟩
  · rw [e1, e4]; exact ho
  · rw [e1] at hi
    rcases Nat.lt_or_ge i r.length with h1 | h1
    · rw [e2 i h1, show updR f r.length (Ax, cx) i = f i by unfold updR; rw [if_neg (by omega)]]
      exact World.ownsRow.kept (h.2 i h1) hg (own_ne (h.2 i h1) h.1 (by decide))
    · have : i = r.length := by omega
      subst this
      rw [e3, show updR f r.length (Ax, cx) r.length = (Ax, cx) by unfold updR; rw [if_pos rfl]]
      exact World.ownsRow.kept hx hg (own_ne hx h.1 (by decide))
theorem pt_one (n : Int) : pt (at0 [n]) 1 = pCon n := pt_congr fun i hi => by
  have : i = 0 := by omega
  subst this
  rfl

set_option maxRecDepth 100000 in
set_option maxHeartbeats 1000000 in
theorem constP_any (n : Int) (w : World) : Calls Try.prog 179 #[.agg #[], .int .i64 n] w fun e w' => ∃ A c, e = .returned (.slice A (pCon n).length c) ∧ OwI w' w.heap.size (.slice A (pCon n).length c) (pCon n) ∧ Below w.heap.size w w' := by
  have HT := Lib.hid (fun (W : World) => by
    have h := trimZ_any W.heap.size (some ⟨W.heap.size, 0, none⟩) 1 [n] (W.alloc (.cells #[.int .i64 n] 3)) (by simp) (one_own n)
    rw [show [n].length = 1 from rfl, pt_one] at h
    exact h)
  go_enter Try.func179, Try.ntmps179
  go_wp2_with fail
  go_at_call 183
  generalize hw1 : World.alloc w _ = w1
  have hs1 : w1.heap.size = w.heap.size + 1 := by rw [← hw1]; simp
  have hb1 : Below w.heap.size w w1 := by rw [← hw1]; exact (Below.refl _ _).alloc (Nat.le_refl _) _
  rw [show w.heap.size + 1 = w1.heap.size by omega]
  clear hw1
  refine (HT.out w1).mono ?_
  rintro e w2 ⟨rfl, ho, rfl⟩
  have O2 := Lib.hid ho
  clear ho
  go_wp2
  go_ret
  exact ⟨_, _, rfl, by have h := O2.out.base (show w.heap.size ≤ w1.heap.size by omega); rw [hs1] at h; exact h, hb1.alloc (show w.heap.size ≤ w1.heap.size by omega) _⟩
theorem pCon_fit {n : Int} (h : -1000000 ≤ n ∧ n ≤ 1000000) : fitB (pCon n) = true := by
  refine fit_trm ⟨_, _, rfl⟩ (fun i => ?_) (fun i hi => ?_)
  · rw [at0_pCon]; split <;> omega
  · rw [at0_pCon, if_neg (by omega)]

set_option maxRecDepth 100000 in
set_option maxHeartbeats 2000000 in
theorem scaledP_any (B : Nat) (A : Option Addr) (c : Nat) (f : List Int) (n : Int) (w : World) (hf : fitB f = true) (hn : -1000000 ≤ n ∧ n ≤ 1000000) (hB : B ≤ w.heap.size) (hr : Rd w B 1 A f.length (f.map I)) :
    Calls Try.prog 181 #[.agg #[], .slice A f.length c, .int .i64 n] w fun e w' => ∃ A2 c2, e = .returned (.slice A2 (pMul f (pCon n)).length c2) ∧ OwI w' w.heap.size (.slice A2 (pMul f (pCon n)).length c2) (pMul f (pCon n)) ∧ Below w.heap.size w w' := by
  have HC := Lib.hid (fun W => constP_any n W)
  have HP := Lib.hid (fun W (A' : Option Addr) (c' : Nat) (hb : Below w.heap.size w W) h' => polyProduct_any W.heap.size A A' c c' f (pCon n) W hf (pCon_fit hn) (Nat.le_refl _) ((hr.below' hb hB).more (by have := hb.size; omega)) h')
  clear hr hf
  go_enter Try.func181, Try.ntmps181
  go_wp2
  generalize hw1 : World.alloc w _ = w1
  have hs1 : w1.heap.size = w.heap.size + 1 := by rw [← hw1]; simp
  have hb1 : Below w.heap.size w w1 := by rw [← hw1]; exact (Below.refl _ _).alloc (Nat.le_refl _) _
  have hq : w1.heap[w.heap.size]? = some (.cells #[] 119 (0, 0)) := by rw [← hw1]; exact heap_alloc_new w _
  clear hw1
  have FQ := Lib.hid (show ∀ x, Below w1.heap.size w1 x → x.heap[w.heap.size]? = some (.cells #[] 119 (0, 0)) from fun x hx => (hx.block _ (by omega)).trans hq)
  have SD := Lib.hid (show Below w1.heap.size w1 w1.drew from (Below.refl _ _).drew)
  have HB1 := Lib.hid hb1
  refine wp_region_T (fun x : World => Below w1.heap.size w1 x) [0, 1, 2, 3, 6] [0, 2] (.lp 1 (.lp 3 (.ls 0 (.ls 2 (.hv 4 (.hv 5 (.lp 6 (.done)))))))) (by kernel_rfl) (by kernel_rfl) ?_
  (repeat (refine T_lp rfl (fun K hK => ?_); go_simp; refine hK _ ?_; clear hK K))
  refine T_ls1 (v := .agg #[]) rfl rfl SD.out (fun x hx => (by have h1 := FQ.out x hx; go_simp)) (fun K hK => ?_)
  (go_simp; refine hK _ ?_; clear hK K)
  refine T_ls1 (v := .agg #[]) rfl rfl SD.out (fun x hx => (by have h1 := FQ.out x hx; go_simp)) (fun K hK => ?_)
  (go_simp; refine hK _ ?_; clear hK K)
  refine T_hvS rfl (fun K hK => ?_)
  go_simp
  go_at_call 179
  refine (HC.out _).mono ?_
  rintro e w2 ⟨A2, c2, rfl, ho2, hb2⟩
  have SB := Lib.hid (SD.out.trans (hb2.mono SD.out.size))
  have OW2 := Lib.hid ho2
  clear ho2 hb2
  go_simp
  refine hK _ _ SB.out ?_
  clear hK K
  (refine T_hv rfl (by kernel_rfl) (fun K hK => ?_); go_simp)
  go_at_call 180
  refine (HP.out _ A2 c2 (HB1.out.trans (SB.out.mono (by omega))) OW2.out.rd).mono ?_
  rintro e w3 ⟨A3, c3, rfl, ho3, hb3⟩
  have hs2 : w1.heap.size ≤ w2.heap.size := SB.out.size
  have O3 := Lib.hid (ho3.base (show w.heap.size ≤ w2.heap.size by omega))
  have HB3 := Lib.hid (HB1.out.trans ((SB.out.mono (by omega)).trans (hb3.mono (by omega))))
  clear ho3 hb3
  (go_simp; refine hK _ _ ?_; clear hK K)
  (repeat (first | (refine T_lp rfl (fun K hK => ?_); go_simp; refine hK _ ?_; clear hK K) | (refine T_ls rfl rfl (fun K hK => ?_); go_simp; refine hK _ ?_; clear hK K)))
  refine T_done ?_
  go_wp2
  go_ret
  exact ⟨A3, c3, rfl, O3.out, HB3.out⟩

theorem vAt_nat (r : Rws) (i : Nat) : vAt r (i : Int) = r.getD i [] := rfl
theorem getD_fit {r : Rws} (h : ∀ v ∈ r, fitB v = true) (i : Nat) : fitB (r.getD i []) = true := vAt_fit h (i : Int)

set_option maxRecDepth 100000 in
set_option maxHeartbeats 8000000 in
theorem polyOf_any (B : Nat) (A : Option Addr) (c : Nat) (f : Nat → Option Addr × Nat) (o : Op3) (r : Rws) (w : World) (hB : B ≤ w.heap.size) (hfit : ∀ v ∈ r, fitB v = true) (hok : opOk o r.length = true) (hr : RdW w B A f r) :
    Calls Try.prog 112 #[.agg #[.int .i64 o.1, .int .i64 o.2.1, .int .i64 o.2.2], .iface 119 (.agg #[]), .slice A r.length c] w fun e w' => ∃ A2 c2, e = .returned (.slice A2 (opP o r).length c2) ∧ OwI w' w.heap.size (.slice A2 (opP o r).length c2) (opP o r) ∧ Below w.heap.size w w' := by
  obtain ⟨k, a, b⟩ := o
  have OPN := Lib.hid (fun W => operation_any k a b W)
  simp only
  rcases opOk_cases hok with ⟨h0, ⟨ha1, ha2⟩, hb0⟩ | ⟨h0, ⟨ha1, ha2⟩, hb1, hb2⟩ | ⟨h0, ⟨ha1, ha2⟩, hb1, hb2⟩ | ⟨h0, ⟨ha1, ha2⟩, hb1, hb2⟩
  · simp only at h0 ha1 ha2 hb0
    subst h0
    subst hb0
    have O1 := Lib.hid (show ∀ W, Calls Try.prog 137 #[.agg #[.int .i64 0, .int .i64 a, .int .i64 0]] W fun e w' => e = .returned (.iface 150 (.agg #[.int .i64 a])) ∧ Below W.heap.size W w' from fun W => by have h := OPN.out W; rw [show opI (0, a, 0) = .iface 150 (.agg #[.int .i64 a]) by simp [opI]] at h; exact h)
    rw [show opP (0, a, 0) r = pCon a from rfl]
    have k1 := fun W => as_con_con W a
    clear hok
    go_enter Try.func112, Try.ntmps112
    go_wp2_with fail
    go_at_call 137
    refine (O1.out _).mono ?_
    rintro e w1 ⟨rfl, hb1⟩
    have HB1 := Lib.hid (((Below.refl w.heap.size w).alloc (Nat.le_refl _) _).trans (hb1.mono (by simp)))
    have hs1 : w.heap.size ≤ w1.heap.size := HB1.out.size
    clear hb1
    go_wp2_with fail
    refine (constP_any a _).mono ?_
    rintro e w2 ⟨A2, c2, rfl, ho2, hb2⟩
    have O2 := Lib.hid (ho2.base (show w.heap.size ≤ _ by simp; omega))
    have HB2 := Lib.hid ((HB1.out.alloc hs1 _).trans (hb2.mono (by simp; omega)))
    clear ho2 hb2
    go_wp2
    go_ret
    exact ⟨A2, c2, rfl, O2.out, HB2.out⟩
  · simp only at h0 ha1 ha2 hb1 hb2
    subst h0
    obtain ⟨i, rfl⟩ : ∃ i : Nat, a = i := ⟨a.toNat, by omega⟩
    obtain ⟨j, rfl⟩ : ∃ j : Nat, b = j := ⟨b.toNat, by omega⟩
    have hi : i < r.length := by omega
    have hj : j < r.length := by omega
    have O1 := Lib.hid (show ∀ W, Calls Try.prog 137 #[.agg #[.int .i64 1, .int .i64 (i : Int), .int .i64 (j : Int)]] W fun e w' => e = .returned (.iface 157 (.agg #[.int .i64 (i : Int), .int .i64 (j : Int)])) ∧ Below W.heap.size W w' from fun W => by have h := OPN.out W; rw [show opI (1, (i : Int), (j : Int)) = .iface 157 (.agg #[.int .i64 (i : Int), .int .i64 (j : Int)]) by simp [opI]] at h; exact h)
    rw [show opP (1, (i : Int), (j : Int)) r = pSum (r.getD i []) (r.getD j []) from rfl]
    have PS := Lib.hid (fun (W : World) (hb : Below w.heap.size w W) => polySum_any B (f i).1 (f j).1 (f i).2 (f j).2 (r.getD i []) (r.getD j []) W (getD_fit hfit i) (getD_fit hfit j) (by have := hb.size; omega) ((hr.2 i hi).1.below' hb hB) ((hr.2 j hj).1.below' hb hB))
    obtain ⟨g, off, rfl, hg, hci⟩ := hr.at_ hi
    obtain ⟨g', off', hA', _, hcj⟩ := hr.at_ hj
    injection hA' with hA'
    injection hA' with hA1 hA2
    subst hA1
    subst hA2
    have CI := Lib.hid (fun (W : World) (hb : Below w.heap.size w W) => (hb.cell (p := ⟨g, off + i, none⟩) (by simp only []; omega)).trans hci)
    have CJ := Lib.hid (fun (W : World) (hb : Below w.heap.size w W) => (hb.cell (p := ⟨g, off + j, none⟩) (by simp only []; omega)).trans hcj)
    have ii : (i : Int) < (r.length : Int) := by omega
    have ij : (j : Int) < (r.length : Int) := by omega
    obtain ⟨Fi, hFi⟩ : ∃ F, f i = F := ⟨_, rfl⟩
    obtain ⟨ri, hri⟩ : ∃ x, r.getD i [] = x := ⟨_, rfl⟩
    rw [hFi, hri] at PS CI
    rw [hri]
    obtain ⟨Fj, hFj⟩ : ∃ F, f j = F := ⟨_, rfl⟩
    obtain ⟨rj, hrj⟩ : ∃ x, r.getD j [] = x := ⟨_, rfl⟩
    rw [hFj, hrj] at CJ PS
    rw [hrj]
    have kcon := fun W => as_sum_con W (i : Int) (j : Int)
    have ksum := fun W => as_sum_sum W (i : Int) (j : Int)
    clear hok hr hfit hci hFi hri ha1 ha2 hi hb1 hb2 hcj hFj hrj hj
    go_enter Try.func112, Try.ntmps112
    go_wp2_with fail
    go_at_call 137
    refine (O1.out _).mono ?_
    rintro e w1 ⟨rfl, hb1⟩
    have HB1 := Lib.hid (((Below.refl w.heap.size w).alloc (Nat.le_refl _) _).trans (hb1.mono (by simp)))
    have hs1 : w.heap.size ≤ w1.heap.size := HB1.out.size
    have ci := cell_kept (CI.out w1 HB1.out)
    have cj := cell_kept (CJ.out w1 HB1.out)
    clear hb1
    go_wp2
    refine wp_region_Tw [0, 1, 2, 3, 4, 5, 6, 7, 8, 9, 10, 11, 12, 13, 15] [3, 5, 8, 10] (.lp 0 (.lp 1 (.lp 2 (.lp 6 (.lp 7 (.lp 11 (.lp 12 (.lp 13 (.ls 3 (.lp 4 (.ls 5 (.ls 8 (.lp 9 (.ls 10 (.hv 14 (.lp 15 (.done))))))))))))))))) (by kernel_rfl) (by kernel_rfl) ?_
    (repeat (first | (refine T_lp rfl (fun K hK => ?_); go_simp; refine hK _ ?_; clear hK K) | (refine T_ls rfl rfl (fun K hK => ?_); go_simp; refine hK _ ?_; clear hK K)))
    refine T_lq1 (v := .func (.method "loop.example/g01098/impl.sum") #[.iface 119 (.agg #[])] #[]) rfl rfl (fun x => by kernel_rfl) (fun K hK => ?_)
    (go_simp; refine hK _ ?_; clear hK K)
    (repeat (first | (refine T_lp rfl (fun K hK => ?_); go_simp; refine hK _ ?_; clear hK K) | (refine T_ls rfl rfl (fun K hK => ?_); go_simp; refine hK _ ?_; clear hK K)))
    (refine T_hv rfl (by kernel_rfl) (fun K hK => ?_); go_simp)
    refine (PS.out _ ((HB1.out.alloc hs1 _).drew)).mono ?_
    rintro e w2 ⟨A2, c2, rfl, ho2, hb2⟩
    have O2 := Lib.hid (ho2.base (show w.heap.size ≤ _ by simp; omega))
    have HB2 := Lib.hid (((HB1.out.alloc hs1 _).drew).trans (hb2.mono (by simp; omega)))
    clear ho2 hb2
    (go_simp; refine hK _ _ ?_; clear hK K)
    (repeat (first | (refine T_lp rfl (fun K hK => ?_); go_simp; refine hK _ ?_; clear hK K) | (refine T_ls rfl rfl (fun K hK => ?_); go_simp; refine hK _ ?_; clear hK K)))
    refine T_done ?_
    go_wp2
    go_ret
    exact ⟨A2, c2, rfl, O2.out, HB2.out⟩
  · simp only at h0 ha1 ha2 hb1 hb2
    subst h0
    obtain ⟨i, rfl⟩ : ∃ i : Nat, a = i := ⟨a.toNat, by omega⟩
    have hi : i < r.length := by omega
    have O1 := Lib.hid (show ∀ W, Calls Try.prog 137 #[.agg #[.int .i64 2, .int .i64 (i : Int), .int .i64 b]] W fun e w' => e = .returned (.iface 152 (.agg #[.int .i64 (i : Int), .int .i64 b])) ∧ Below W.heap.size W w' from fun W => by have h := OPN.out W; rw [show opI (2, (i : Int), b) = .iface 152 (.agg #[.int .i64 (i : Int), .int .i64 b]) by simp [opI]] at h; exact h)
    rw [show opP (2, (i : Int), b) r = pMul (r.getD i []) (pCon b) from rfl]
    have PS := Lib.hid (fun (W : World) (hb : Below w.heap.size w W) => scaledP_any B (f i).1 (f i).2 (r.getD i []) b W (getD_fit hfit i) ⟨hb1, hb2⟩ (by have := hb.size; omega) ((hr.2 i hi).1.below' hb hB))
    obtain ⟨g, off, rfl, hg, hci⟩ := hr.at_ hi
    have CI := Lib.hid (fun (W : World) (hb : Below w.heap.size w W) => (hb.cell (p := ⟨g, off + i, none⟩) (by simp only []; omega)).trans hci)
    have ii : (i : Int) < (r.length : Int) := by omega
    obtain ⟨Fi, hFi⟩ : ∃ F, f i = F := ⟨_, rfl⟩
    obtain ⟨ri, hri⟩ : ∃ x, r.getD i [] = x := ⟨_, rfl⟩
    rw [hFi, hri] at PS CI
    rw [hri]
    have kcon := fun W => as_sca_con W (i : Int) b
    have ksum := fun W => as_sca_sum W (i : Int) b
    have ksca := fun W => as_sca_sca W (i : Int) b
    clear hok hr hfit hci hFi hri ha1 ha2 hi hb1 hb2
    go_enter Try.func112, Try.ntmps112
    go_wp2_with fail
    go_at_call 137
    refine (O1.out _).mono ?_
    rintro e w1 ⟨rfl, hb1⟩
    have HB1 := Lib.hid (((Below.refl w.heap.size w).alloc (Nat.le_refl _) _).trans (hb1.mono (by simp)))
    have hs1 : w.heap.size ≤ w1.heap.size := HB1.out.size
    have ci := cell_kept (CI.out w1 HB1.out)
    clear hb1
    go_wp2
    refine wp_region_Tw [0, 1, 2, 3, 4, 5, 6, 7, 8, 9, 10, 12] [3, 5, 7] (.lp 0 (.lp 1 (.lp 2 (.lp 6 (.lp 8 (.lp 9 (.lp 10 (.ls 3 (.lp 4 (.ls 5 (.ls 7 (.hv 11 (.lp 12 (.done)))))))))))))) (by kernel_rfl) (by kernel_rfl) ?_
    (repeat (first | (refine T_lp rfl (fun K hK => ?_); go_simp; refine hK _ ?_; clear hK K) | (refine T_ls rfl rfl (fun K hK => ?_); go_simp; refine hK _ ?_; clear hK K)))
    refine T_lq1 (v := .func (.method "loop.example/g01098/impl.scaled") #[.iface 119 (.agg #[])] #[]) rfl rfl (fun x => by kernel_rfl) (fun K hK => ?_)
    (go_simp; refine hK _ ?_; clear hK K)
    (repeat (first | (refine T_lp rfl (fun K hK => ?_); go_simp; refine hK _ ?_; clear hK K) | (refine T_ls rfl rfl (fun K hK => ?_); go_simp; refine hK _ ?_; clear hK K)))
    (refine T_hv rfl (by kernel_rfl) (fun K hK => ?_); go_simp)
    refine (PS.out _ ((HB1.out.alloc hs1 _).drew)).mono ?_
    rintro e w2 ⟨A2, c2, rfl, ho2, hb2⟩
    have O2 := Lib.hid (ho2.base (show w.heap.size ≤ _ by simp; omega))
    have HB2 := Lib.hid (((HB1.out.alloc hs1 _).drew).trans (hb2.mono (by simp; omega)))
    clear ho2 hb2
    (go_simp; refine hK _ _ ?_; clear hK K)
    (repeat (first | (refine T_lp rfl (fun K hK => ?_); go_simp; refine hK _ ?_; clear hK K) | (refine T_ls rfl rfl (fun K hK => ?_); go_simp; refine hK _ ?_; clear hK K)))
    refine T_done ?_
    go_wp2
    go_ret
    exact ⟨A2, c2, rfl, O2.out, HB2.out⟩
  · simp only at h0 ha1 ha2 hb1 hb2
    subst h0
    obtain ⟨i, rfl⟩ : ∃ i : Nat, a = i := ⟨a.toNat, by omega⟩
    obtain ⟨j, rfl⟩ : ∃ j : Nat, b = j := ⟨b.toNat, by omega⟩
    have hi : i < r.length := by omega
    have hj : j < r.length := by omega
    have O1 := Lib.hid (show ∀ W, Calls Try.prog 137 #[.agg #[.int .i64 3, .int .i64 (i : Int), .int .i64 (j : Int)]] W fun e w' => e = .returned (.iface 159 (.agg #[.int .i64 (i : Int), .int .i64 (j : Int)])) ∧ Below W.heap.size W w' from fun W => by have h := OPN.out W; rw [show opI (3, (i : Int), (j : Int)) = .iface 159 (.agg #[.int .i64 (i : Int), .int .i64 (j : Int)]) by simp [opI]] at h; exact h)
    rw [show opP (3, (i : Int), (j : Int)) r = pMul (r.getD i []) (r.getD j []) from rfl]
    have PS := Lib.hid (fun (W : World) (hb : Below w.heap.size w W) => polyProduct_any B (f i).1 (f j).1 (f i).2 (f j).2 (r.getD i []) (r.getD j []) W (getD_fit hfit i) (getD_fit hfit j) (by have := hb.size; omega) ((hr.2 i hi).1.below' hb hB) ((hr.2 j hj).1.below' hb hB))
    obtain ⟨g, off, rfl, hg, hci⟩ := hr.at_ hi
    obtain ⟨g', off', hA', _, hcj⟩ := hr.at_ hj
    injection hA' with hA'
    injection hA' with hA1 hA2
    subst hA1
    subst hA2
    have CI := Lib.hid (fun (W : World) (hb : Below w.heap.size w W) => (hb.cell (p := ⟨g, off + i, none⟩) (by simp only []; omega)).trans hci)
    have CJ := Lib.hid (fun (W : World) (hb : Below w.heap.size w W) => (hb.cell (p := ⟨g, off + j, none⟩) (by simp only []; omega)).trans hcj)
    have ii : (i : Int) < (r.length : Int) := by omega
    have ij : (j : Int) < (r.length : Int) := by omega
    obtain ⟨Fi, hFi⟩ : ∃ F, f i = F := ⟨_, rfl⟩
    obtain ⟨ri, hri⟩ : ∃ x, r.getD i [] = x := ⟨_, rfl⟩
    rw [hFi, hri] at PS CI
    rw [hri]
    obtain ⟨Fj, hFj⟩ : ∃ F, f j = F := ⟨_, rfl⟩
    obtain ⟨rj, hrj⟩ : ∃ x, r.getD j [] = x := ⟨_, rfl⟩
    rw [hFj, hrj] at CJ PS
    rw [hrj]
    have kcon := fun W => as_pro_con W (i : Int) (j : Int)
    have ksum := fun W => as_pro_sum W (i : Int) (j : Int)
    have ksca := fun W => as_pro_sca W (i : Int) (j : Int)
    have kpro := fun W => as_pro_pro W (i : Int) (j : Int)
    clear hok hr hfit hci hFi hri ha1 ha2 hi hb1 hb2 hcj hFj hrj hj
    go_enter Try.func112, Try.ntmps112
    go_wp2_with fail
    go_at_call 137
    refine (O1.out _).mono ?_
    rintro e w1 ⟨rfl, hb1⟩
    have HB1 := Lib.hid (((Below.refl w.heap.size w).alloc (Nat.le_refl _) _).trans (hb1.mono (by simp)))
    have hs1 : w.heap.size ≤ w1.heap.size := HB1.out.size
    have ci := cell_kept (CI.out w1 HB1.out)
    have cj := cell_kept (CJ.out w1 HB1.out)
    clear hb1
    go_wp2
    refine wp_region_Tw [0, 1, 2, 3, 4, 5, 6, 7, 8, 9, 10, 11, 12, 13, 15] [3, 5, 8, 10] (.lp 0 (.lp 1 (.lp 2 (.lp 6 (.lp 7 (.lp 11 (.lp 12 (.lp 13 (.ls 3 (.lp 4 (.ls 5 (.ls 8 (.lp 9 (.ls 10 (.hv 14 (.lp 15 (.done))))))))))))))))) (by kernel_rfl) (by kernel_rfl) ?_
    (repeat (first | (refine T_lp rfl (fun K hK => ?_); go_simp; refine hK _ ?_; clear hK K) | (refine T_ls rfl rfl (fun K hK => ?_); go_simp; refine hK _ ?_; clear hK K)))
    refine T_lq1 (v := .func (.method "loop.example/g01098/impl.product") #[.iface 119 (.agg #[])] #[]) rfl rfl (fun x => by kernel_rfl) (fun K hK => ?_)
    (go_simp; refine hK _ ?_; clear hK K)
    (repeat (first | (refine T_lp rfl (fun K hK => ?_); go_simp; refine hK _ ?_; clear hK K) | (refine T_ls rfl rfl (fun K hK => ?_); go_simp; refine hK _ ?_; clear hK K)))
    (refine T_hv rfl (by kernel_rfl) (fun K hK => ?_); go_simp)
    refine (PS.out _ ((HB1.out.alloc hs1 _).drew)).mono ?_
    rintro e w2 ⟨A2, c2, rfl, ho2, hb2⟩
    have O2 := Lib.hid (ho2.base (show w.heap.size ≤ _ by simp; omega))
    have HB2 := Lib.hid (((HB1.out.alloc hs1 _).drew).trans (hb2.mono (by simp; omega)))
    clear ho2 hb2
    (go_simp; refine hK _ _ ?_; clear hK K)
    (repeat (first | (refine T_lp rfl (fun K hK => ?_); go_simp; refine hK _ ?_; clear hK K) | (refine T_ls rfl rfl (fun K hK => ?_); go_simp; refine hK _ ?_; clear hK K)))
    refine T_done ?_
    go_wp2
    go_ret
    exact ⟨A2, c2, rfl, O2.out, HB2.out⟩

theorem opP_len {r : Rws} (h : ∀ v ∈ r, fitB v = true) (o : Op3) : (opP o r).length ≤ 34 := by
  have hl : ∀ i, (vAt r i).length ≤ 17 := fun i => (fit_iff.1 (vAt_fit h i)).1
  have h1 := hl o.2.1
  have h2 := hl o.2.2
  have h3 : (pCon o.2.1).length ≤ 1 := by unfold pCon; rw [pt_len]; exact dg_le _ _
  have h4 : (pCon o.2.2).length ≤ 1 := by unfold pCon; rw [pt_len]; exact dg_le _ _
  unfold opP
  split
  · omega
  · split
    · unfold pSum; rw [pt_len]; exact Nat.le_trans (dg_le _ _) (by omega)
    · split
      · unfold pMul; rw [pt_len]; exact Nat.le_trans (dg_le _ _) (by omega)
      · unfold pMul; rw [pt_len]; exact Nat.le_trans (dg_le _ _) (by omega)
/-- An own list of own lists. -/
def OwQ8 (w : World) (B : Nat) (A : Option Addr) (c : Nat) (r : Rws) : Prop := ∃ f, OwW w B A c f r
theorem pvs_0 (s : List Op3) : pvs s 0 = [[0, 1]] := rfl
theorem opG_none {s : List Op3} {k : Nat} (h : opOk (s.getD k o0) (k + 1) = false) : opG s k = false := by unfold opG; rw [h]; rfl
theorem opG_big {s : List Op3} {k : Nat} (h : fitB (opP (s.getD k o0) (pvs s k)) = false) : opG s k = false := by unfold opG; rw [h, Bool.and_false]
theorem opsG_next {s : List Op3} {k : Nat} (h : opsG s k = true) (h1 : opOk (s.getD k o0) (k + 1) = true) (h2 : fitB (opP (s.getD k o0) (pvs s k)) = true) : opsG s (k + 1) = true := by
  simp only [opsG, opG]
  rw [h, h1, h2]
  rfl
theorem cdB_bad {q : Cd} {k : Nat} (hk : k < q.ops.length) (h : opG q.ops k = false) : cdB q = false := by
  unfold cdB
  rw [opsG_bad h hk, Bool.and_false, Bool.and_false]
theorem info_rows : (Try.prog.info? 36).map (fun i => (i.zero, i.size, i.bytes)) = some (some (.slice none 0 0), 1, 24) := info_ints
theorem row_own {w : World} (A : Option Addr) (n c : Nat) : (w.alloc (.cells #[.slice A n c] 36)).ownsRow w.heap.size 36 1 (.slice (some ⟨w.heap.size, 0, none⟩) 1 1) 1 [.slice A n c] := by
  have h := World.ownsRow_lit (base := w.heap.size) (e := 36) (size := 1) w #[.slice A n c] 1 (Nat.le_refl _) (by unfold maxLen; omega) (by simp)
  exact h
/-- The polynomial of x, as the one of a list. -/
theorem start_own {w : World} : OwW ((w.alloc (.cells #[.int .i64 0, .int .i64 1] 3)).alloc (.cells #[.slice (some ⟨w.heap.size, 0, none⟩) 2 2] 36)) w.heap.size (some ⟨w.heap.size + 1, 0, none⟩) 1 (fun _ => (some ⟨w.heap.size, 0, none⟩, 2)) [[0, 1]] := by
  refine ⟨?_, fun i hi => ?_⟩
  · have h := row_own (w := w.alloc (.cells #[.int .i64 0, .int .i64 1] 3)) (some ⟨w.heap.size, 0, none⟩) 2 2
    have h := own_base h (show w.heap.size ≤ _ by simp)
    simpa [rwV] using h
  · have : i = 0 := by simpa using hi
    subst this
    exact OwI.alloc (two_own 0 1) _

set_option maxRecDepth 100000 in
set_option maxHeartbeats 8000000 in
theorem polysOf_any (B : Nat) (A : Option Addr) (c : Nat) (q : Cd) (w : World) (hB : B ≤ w.heap.size) (hl : q.ops.length ≤ 1048576) (hr : RdD w B A q) :
    Calls Try.prog 67 #[.agg #[.slice A q.ops.length c, .int .i64 q.out]] w fun e w' =>
      ∃ A' n c', e = .returned (.tuple #[.slice A' n c', .bool (cdB q)]) ∧ (cdB q = true → n = q.ops.length + 1 ∧ OwQ8 w' w.heap.size A' c' (pvs q.ops q.ops.length)) ∧ Below w.heap.size w w' := by
  have H := Lib.hid hr
  clear hr
  have bad : ∀ (w' : World), cdB q = false → Below w.heap.size w w' → ∃ A' n c', (Ending.returned (.tuple #[.slice none 0 0, .bool false])) = .returned (.tuple #[.slice A' n c', .bool (cdB q)]) ∧ (cdB q = true → n = q.ops.length + 1 ∧ OwQ8 w' w.heap.size A' c' (pvs q.ops q.ops.length)) ∧ Below w.heap.size w w' :=
    fun w' h hb => ⟨none, 0, 0, by rw [h], (fun h2 => by rw [h] at h2; cases h2), hb⟩
  have BAD := Lib.hid bad
  clear bad
  by_cases h1 : q.ops.length ≤ 120
  case neg =>
    have E := Lib.hid (show cdB q = false by unfold cdB; rw [decide_eq_false h1]; rfl)
    have i1 : (120 : Int) < (q.ops.length : Int) := by omega
    clear h1
    go_enter Try.func67, Try.ntmps67
    go_wp2
    go_ret2
    exact BAD.out _ E.out ((Below.refl _ _).alloc (Nat.le_refl _) _)
  have i1 : ¬ (120 : Int) < (q.ops.length : Int) := by omega
  by_cases h2 : q.out < 0
  · have E := Lib.hid (show cdB q = false by unfold cdB inV; rw [decide_eq_false (show ¬ (0 : Int) ≤ q.out by omega)]; simp)
    go_enter Try.func67, Try.ntmps67
    go_wp2
    go_ret2
    exact BAD.out _ E.out ((Below.refl _ _).alloc (Nat.le_refl _) _)
  by_cases h3 : (q.ops.length : Int) < q.out
  · have E := Lib.hid (show cdB q = false by unfold cdB inV; rw [decide_eq_false (show ¬ q.out < ((q.ops.length + 1 : Nat) : Int) by omega)]; simp)
    go_enter Try.func67, Try.ntmps67
    go_wp2
    go_ret2
    exact BAD.out _ E.out ((Below.refl _ _).alloc (Nat.le_refl _) _)
  have FIN := Lib.hid (show opsG q.ops q.ops.length = true → cdB q = true from fun h => by
    unfold cdB inV
    rw [h, decide_eq_true h1, decide_eq_true (show (0 : Int) ≤ q.out by omega), decide_eq_true (show q.out < ((q.ops.length + 1 : Nat) : Int) by omega)]
    rfl)
  go_enter Try.func67, Try.ntmps67
  go_wp2
  generalize hw1 : World.alloc (World.alloc (World.alloc w _) _) _ = w1
  have hb1 : Below w.heap.size w w1 := by rw [← hw1]; exact (((Below.refl _ _).alloc (Nat.le_refl _) _).alloc (by simp) _).alloc (by simp; omega) _
  have hown1 : OwW w1 w.heap.size (some ⟨w.heap.size + 1 + 1, 0, none⟩) 1 (fun _ => (some ⟨w.heap.size + 1, 0, none⟩, 2)) [[0, 1]] := by
    rw [← hw1]
    have h := start_own (w := w.alloc (.cells #[.slice A q.ops.length c, .int .i64 q.out] 29))
    have h := h.base (show w.heap.size ≤ _ by simp)
    simpa using h
  clear hw1
  have OW1 := Lib.hid hown1
  have HB1 := Lib.hid hb1
  clear hown1 hb1 h2 h3
  go_loopw [4, 30] (fun lv iv wr => ∃ (k : Nat) (A2 : Option Addr) (c2 : Nat) (f : Nat → Option Addr × Nat), k ≤ q.ops.length ∧ iv = .int .i64 (k : Int) ∧ lv = .slice A2 (k + 1) c2 ∧ Hid (opsG q.ops k = true) ∧ OwW wr w.heap.size A2 c2 f (pvs q.ops k) ∧ Below w.heap.size w wr) (fun _ i _ => q.ops.length - (intOf i).toNat)
  case atStart => exact ⟨0, _, _, _, by omega, rfl, rfl, Lib.hid rfl, OW1.out, HB1.out⟩
  case round =>
    obtain ⟨k, A2, c2, f, hk, rfl, rfl, hgood, hown, hbel⟩ := hrel
    have hsz := hbel.size
    by_cases hlt : k < q.ops.length
    · obtain ⟨g, off, rfl, hg, hc1, hc2, hc3⟩ := ((H.out.below' hbel hB).op hlt : ∃ b off, A = some ⟨b, off, none⟩ ∧ b < B ∧ _)
      have ik : (k : Int) < (q.ops.length : Int) := by omega
      have hgo : q.ops.getD k o0 = q.ops[k] := by simp [List.getD_eq_getElem?_getD, hlt]
      have hpl := pvs_len q.ops k
      have FT := Lib.hid (pvs_fit hgood.out)
      have NO := Lib.hid (fun h => cdB_bad hlt (opG_none (s := q.ops) (k := k) h))
      have NF := Lib.hid (fun h => cdB_bad hlt (opG_big (s := q.ops) (k := k) h))
      have NX := Lib.hid (fun h1 h2 => opsG_next (s := q.ops) (k := k) hgood.out h1 h2)
      have PN := Lib.hid (show pvs q.ops (k + 1) = pvs q.ops k ++ [opP (q.ops.getD k o0) (pvs q.ops k)] from rfl)
      rw [hgo] at NO NF NX PN
      obtain ⟨o, ho⟩ : ∃ o, q.ops[k] = o := ⟨_, rfl⟩
      rw [ho] at NO NF NX PN hc1 hc2 hc3
      obtain ⟨R, hR⟩ : ∃ R, pvs q.ops k = R := ⟨_, rfl⟩
      rw [hR] at NF NX PN hpl FT hown
      have OWN := Lib.hid hown
      have BEL := Lib.hid hbel
      have HPL := Lib.hid hpl
      have MF := Lib.hid (fun W => mayFollow_any o (k + 1) W)
      have PO := Lib.hid (show ∀ W : World, opOk o (k + 1) = true → RdW W W.heap.size A2 f R → Calls Try.prog 112 #[.agg #[.int .i64 o.1, .int .i64 o.2.1, .int .i64 o.2.2], .iface 119 (.agg #[]), .slice A2 (k + 1) c2] W fun e w' => ∃ A4 c4, e = .returned (.slice A4 (opP o R).length c4) ∧ OwI w' W.heap.size (.slice A4 (opP o R).length c4) (opP o R) ∧ Below W.heap.size W w' from fun W hok hr => by
        have h := polyOf_any W.heap.size A2 c2 f o R W (Nat.le_refl _) FT.out (by rw [HPL.out]; exact hok) hr
        rw [HPL.out] at h
        exact h)
      have hXl := opP_len FT.out o
      obtain ⟨X, hX⟩ : ∃ X, opP o R = X := ⟨_, rfl⟩
      rw [hX] at PO NF NX PN hXl
      obtain ⟨t, ht⟩ : ∃ t, opOk o (k + 1) = t := ⟨_, rfl⟩
      rw [ht] at MF NO NX PO
      clear hgo ho hR hown hbel hpl ht hX
      go_wp2_with fail
      go_at_call 111
      generalize hw3 : World.alloc wr _ = wb
      obtain ⟨x0, x1, x2, xs, xb⟩ := box3 hw3
      clear hw3
      refine (MF.out _).mono ?_
      rintro e w2 ⟨rfl, hb2⟩
      have y0 := (hb2.cell (p := ⟨wr.heap.size, 0, none⟩) (by simp only []; omega)).trans x0
      have y1 := (hb2.cell (p := ⟨wr.heap.size, 1, none⟩) (by simp only []; omega)).trans x1
      have y2 := (hb2.cell (p := ⟨wr.heap.size, 2, none⟩) (by simp only []; omega)).trans x2
      have hx2 : Below wr.heap.size wr w2 := xb.trans (hb2.mono (by omega))
      have OW2 := Lib.hid (OWN.out.below hx2)
      have BE2 := Lib.hid (BEL.out.trans (hx2.mono hsz))
      have hs2 : w.heap.size ≤ w2.heap.size := BE2.out.size
      clear hb2 x0 x1 x2 xs xb hx2
      cases t with
      | false =>
        have NN := Lib.hid (NO.out rfl)
        clear NO NX PO
        go_wp2
        go_ret2
        exact BAD.out _ NN.out BE2.out
      | true =>
        have NX1 := Lib.hid (NX.out rfl)
        have PO1 := Lib.hid (fun W h => PO.out W rfl h)
        clear NO NX PO
        go_wp2_with fail
        go_at_call 112
        refine (PO1.out _ OW2.out.rd).mono ?_
        rintro e w4 ⟨A4, c4, rfl, ho4, hb4⟩
        have OW4 := Lib.hid (OW2.out.below hb4)
        have HX4 := Lib.hid (ho4.base hs2)
        have BE4 := Lib.hid (BE2.out.trans (hb4.mono hs2))
        have hs4 : w.heap.size ≤ w4.heap.size := BE4.out.size
        have fi := fits_any w4.heap.size A4 c4 X w4 (by omega) (Nat.le_refl _) ho4.rd
        obtain ⟨u, hu⟩ : ∃ u, fitB X = u := ⟨_, rfl⟩
        rw [hu] at fi NF NX1
        have FI := Lib.hid fi
        clear ho4 hb4 fi hu y0 y1 y2
        cases u with
        | false =>
          have NN := Lib.hid (NF.out rfl)
          clear NF NX1
          go_wp2_with fail
          go_at_call 113
          refine FI.out.mono ?_
          rintro e w5 ⟨rfl, rfl⟩
          go_wp2
          go_ret2
          exact BAD.out _ NN.out BE4.out
        | true =>
          have NX2 := Lib.hid (NX1.out rfl)
          clear NF NX1
          go_wp2_with fail
          go_at_call 113
          refine FI.out.mono ?_
          rintro e w5 ⟨rfl, rfl⟩
          have o1 : w5.ownsRow w.heap.size 36 1 (.slice A2 (k + 1) c2) (k + 1) (rwV f R (k + 1)) := by
            have h := OW4.out.1
            rw [HPL.out] at h
            exact h
          have O1 := Lib.hid o1
          clear o1
          go_wp2_with (at_builtin; refine list_step (fun K hK => ?_); refine step_app1 Try.underlying74 info_rows rfl (by omega) rfl (.tmp 47) (.tmp 49) rfl w.heap.size (k + 1) _ (rwV f R (k + 1)) rfl (World.ownsRow.alloc O1.out _) w5.heap.size 1 (.slice A4 X.length c4) rfl (by rw [World.cell?_alloc_at _ _ _ _ rfl]; rfl) rfl (by omega) (by simp; omega) ?_; intro A6 c6 w6 hown6 hg6 hbel6; go_simp; refine hK _ _ ?_; clear hK K)
          go_roundw
          case rel =>
            refine ⟨k + 1, A6, c6, updR f (k + 1) (A4, c4), by omega, by go_num, rfl, NX2, ?_, (BE4.out.alloc hs4 _).trans hbel6⟩
            have h := OwW.push (OW4.out.below ((Below.refl _ _).alloc (Nat.le_refl _) _)) (by rw [HPL.out]; exact hown6) (by rw [HPL.out]; exact hg6) (OwI.alloc HX4.out _)
            rw [HPL.out] at h
            rw [PN.out]
            exact h
          case measure => simp [intOf]; omega
    · have hk' : k = q.ops.length := by omega
      subst hk'
      have E := Lib.hid (FIN.out hgood.out)
      have OWN := Lib.hid hown
      have BEL := Lib.hid hbel
      clear hown hbel
      go_wp2
      go_ret2
      exact ⟨A2, q.ops.length + 1, c2, by rw [E.out]; rfl, fun _ => ⟨rfl, f, OWN.out⟩, BEL.out⟩

set_option maxRecDepth 100000 in
set_option maxHeartbeats 2000000 in
theorem implIsCode8_any (B : Nat) (A : Option Addr) (c : Nat) (q : Cd) (w : World) (hB : B ≤ w.heap.size) (hl : q.ops.length ≤ 1048576) (_hc : q.ops.length ≤ c) (hr : RdD w B A q) :
    Calls Try.prog 22 #[.agg #[.slice A q.ops.length c, .int .i64 q.out]] w fun e w' => e = .returned (.bool (cdB q)) ∧ Below w.heap.size w w' := by
  have PO := Lib.hid (fun W hB (hr : RdD W B A q) => polysOf_any B A c q W hB hl hr)
  have H := Lib.hid hr
  clear hr
  go_enter Try.func22, Try.ntmps22
  go_wp2_with fail
  go_at_call 67
  generalize hw1 : World.alloc w _ = w1
  obtain ⟨⟨x0, x1⟩, xs, xb⟩ := bx2c hw1
  clear hw1
  refine (PO.out _ (by omega) (H.out.below' xb hB)).mono ?_
  rintro e w2 ⟨A2, n2, c2, rfl, hgd, hb2⟩
  have HB2 := Lib.hid (xb.trans (hb2.mono (by omega)))
  clear hb2 xb xs x0 x1
  go_wp2
  go_ret
  exact ⟨rfl, HB2.out⟩

theorem cdP_bad {q : Cd} (h : cdB q = false) : cdP q = [] := by unfold cdP; rw [h]; rfl
theorem cdP_good {q : Cd} {i : Nat} (h : cdB q = true) (hi : q.out = i) : cdP q = (pvs q.ops q.ops.length).getD i [] := by unfold cdP; rw [if_pos h, hi]; rfl
theorem cdP_le (q : Cd) : (cdP q).length ≤ 1000 := by
  unfold cdP
  split
  · rename_i h
    have := (fit_iff.1 (vAt_fit (pvs_fit (cdB_facts h).2.2.2) q.out)).1
    omega
  · simp
set_option maxRecDepth 100000 in
set_option maxHeartbeats 2000000 in
theorem implPolyOf_any (B : Nat) (A : Option Addr) (c : Nat) (q : Cd) (w : World) (hB : B ≤ w.heap.size) (hl : q.ops.length ≤ 1048576) (_hc : q.ops.length ≤ c) (hr : RdD w B A q) :
    Calls Try.prog 27 #[.agg #[.slice A q.ops.length c, .int .i64 q.out]] w fun e w' => ∃ A' c', e = .returned (.tuple #[.slice A' (cdP q).length c', .bool (cdB q)]) ∧ OwI w' w.heap.size (.slice A' (cdP q).length c') (cdP q) ∧ Below w.heap.size w w' := by
  have PO := Lib.hid (fun W hB (hr : RdD W B A q) => polysOf_any B A c q W hB hl hr)
  have H := Lib.hid hr
  clear hr
  have PB := Lib.hid (fun h => cdP_bad (q := q) h)
  have PG := Lib.hid (fun i h hi => cdP_good (q := q) (i := i) h hi)
  have FA := Lib.hid (fun h => cdB_facts (c := q) h)
  obtain ⟨t, ht⟩ : ∃ t, cdB q = t := ⟨_, rfl⟩
  rw [ht] at PO PB PG FA
  rw [ht]
  obtain ⟨P, hP⟩ : ∃ P, cdP q = P := ⟨_, rfl⟩
  rw [hP] at PB PG
  rw [hP]
  clear ht hP
  cases t with
  | false =>
    have E := Lib.hid (PB.out rfl)
    clear PB PG FA
    go_enter Try.func27, Try.ntmps27
    go_wp2_with fail
    go_at_call 67
    generalize hw1 : World.alloc w _ = w1
    obtain ⟨⟨x0, x1⟩, xs, xb⟩ := bx2c hw1
    clear hw1
    refine (PO.out _ (by omega) (H.out.below' xb hB)).mono ?_
    rintro e w2 ⟨A2, n2, c2, rfl, hgd, hb2⟩
    have HB2 := Lib.hid (xb.trans (hb2.mono (by omega)))
    clear hb2 xb xs x0 x1
    go_wp2
    go_ret2
    exact ⟨none, 0, by rw [E.out]; rfl, by rw [E.out]; exact OwI.nil _ _, HB2.out⟩
  | true =>
    obtain ⟨_, f1, f2, _⟩ := FA.out rfl
    obtain ⟨i, hi⟩ : ∃ i : Nat, q.out = i := ⟨q.out.toNat, by omega⟩
    have E := Lib.hid (PG.out i rfl hi)
    have PO := Lib.hid (fun W h1 h2 => by have h := PO.out W h1 h2; rw [hi] at h; exact h)
    rw [hi] at f2 ⊢
    have hpl := pvs_len q.ops q.ops.length
    have hin : i < q.ops.length + 1 := by omega
    clear PB PG FA f1 hi
    obtain ⟨R, hR⟩ : ∃ R, pvs q.ops q.ops.length = R := ⟨_, rfl⟩
    rw [hR] at E hpl PO
    clear hR
    go_enter Try.func27, Try.ntmps27
    go_wp2_with fail
    go_at_call 67
    generalize hw1 : World.alloc w _ = w1
    obtain ⟨⟨x0, x1⟩, xs, xb⟩ := bx2c hw1
    clear hw1
    refine (PO.out _ (by omega) (H.out.below' xb hB)).mono ?_
    rintro e w2 ⟨A2, n2, c2, rfl, hgd, hb2⟩
    obtain ⟨rfl, f, how⟩ := hgd trivial
    have y1 := (hb2.cell (p := ⟨w.heap.size, 1, none⟩) (by simp only []; omega)).trans x1
    have HB2 := Lib.hid (xb.trans (hb2.mono (by omega)))
    obtain ⟨g, off, rfl, hg, hci⟩ := how.rd.at_ (i := i) (by omega)
    have OI := Lib.hid ((how.2 i (by omega)).base (show w.heap.size ≤ w1.heap.size by omega))
    obtain ⟨F, hF⟩ : ∃ F, f i = F := ⟨_, rfl⟩
    rw [hF, ← E.out] at OI hci
    have ii : (i : Int) < ((q.ops.length + 1 : Nat) : Int) := by omega
    clear hb2 xb xs x0 x1 hgd how hF hpl
    go_wp2
    go_ret2
    exact ⟨_, _, rfl, OI.out, HB2.out⟩
end Go.Proofs.Ytpopomcaknbhnaa
