/- The first star chains with an end, at most so many, by the program. -/
import Derived.Test.YtppahohakiidmaaHi
namespace Go.Proofs.Ytppahohakiidmaa
open Go.RowKit

def stepF (L : Nat) (s : List (List Nat)) (c : List Nat) : List (List Nat) := if c.length = L + 1 then s ++ [c] else s
theorem stepF_yes {L : Nat} {c : List Nat} (s : List (List Nat)) (h : c.length = L + 1) : stepF L s c = s ++ [c] := if_pos h
theorem stepF_no {L : Nat} {c : List Nat} (s : List (List Nat)) (h : c.length ≠ L + 1) : stepF L s c = s := if_neg h
def goF (most : Nat) (s : List (List Nat)) : Bool := decide (s.length < most)

theorem FI.less {B n L most bL bn bl bC bM K r r' : Nat} {s : List (List Nat)} {X : Nat → Prop} {w : World} (h : FI B n L most bL bn bl bC bM K r s X w) (hr : r' ≤ r) : FI B n L most bL bn bl bC bM K r' s X w :=
  ⟨h.hL, h.hl, h.hn, h.hM, h.hC, h.lt, h.ne, h.bB, by have := h.cnt; omega⟩

set_option maxRecDepth 100000 in
set_option maxHeartbeats 2000000 in
theorem firsts1_any (B n L most bL bn bl bC bM K r : Nat) (s : List (List Nat)) (X : Nat → Prop) (w : World) (gc cc : Nat) (c : List Nat) (m : Nat) (hI : FI B n L most bL bn bl bC bM K (r + 1) s X w) (hXw : ∀ b, X b → b < w.heap.size) (hcm : c.length = m) (hm1 : 1 ≤ m)
    (hmL : m ≤ L + 1) (hL : L ≤ 12) (hK : K ≤ 1000000) (hB : B ≤ w.heap.size) (hown : OwI w B (.slice (some ⟨gc, 0, none⟩) m cc) (cs c)) :
    Calls Try.prog 79 #[.slice (some ⟨gc, 0, none⟩) m cc, .pointer (some ⟨bL, 0, none⟩), .pointer (some ⟨bC, 0, none⟩), .pointer (some ⟨bM, 0, none⟩)] w fun e w' =>
      e = .returned (.bool (goF most (stepF L s c))) ∧ FI B n L most bL bn bl bC bM K r (stepF L s c) X w' ∧ Below B w w' ∧ w.heap.size ≤ w'.heap.size ∧ ∀ b, X b → b < w.heap.size → w'.heap[b]? = w.heap[b]? := by
  obtain ⟨A, c0, f, h1, h2, h3, h4, h5⟩ := hI.hC
  have hLc := cell_of_one hI.hL
  have hMc := cell_of_one hI.hM
  have hCc := cell_of_one h1
  have hcnt := hI.cnt
  have hbC := hI.lt bC (.inr (.inr (.inr (.inr rfl))))
  have hbM := hI.lt bM (.inr (.inr (.inr (.inl rfl))))
  have hneM := hI.ne.2.2.2
  have hw1 : IntKind.i64.wrap ((L : Int) + 1) = (L : Int) + 1 := IntWalk.i64_in _ (by omega)
  have HI := Lib.hid hI
  have H2 := Lib.hid h2
  have HW := Lib.hid hown
  have HX := Lib.hid hXw
  have HH := Lib.hid (And.intro h1 (And.intro h3 (And.intro h4 h5)))
  clear hI h1 h2 h3 h4 h5 hXw hown
  by_cases he : m = L + 1
  case neg =>
    have G := Lib.hid (stepF_no (L := L) s (show c.length ≠ L + 1 by omega))
    have ime : ((m : Int) == (L : Int) + 1) = false := by rw [beq_eq_false_iff_ne]; omega
    have D := Lib.hid (show goF most (stepF L s c) = decide (s.length < most) by rw [G.out]; rfl)
    by_cases hlt : s.length < most
    · have ilt : (s.length : Int) < (most : Int) := by omega
      clear he hcm
      go_enter Try.func79, Try.ntmps79
      go_wp2
      go_ret
      exact ⟨ret_bool (by rw [D.out, decide_eq_true hlt]), by rw [G.out]; exact HI.out.less (by omega), Below.refl _ _, Nat.le_refl _, fun _ _ _ => rfl⟩
    · have ilt : ¬ (s.length : Int) < (most : Int) := by omega
      clear he hcm
      go_enter Try.func79, Try.ntmps79
      go_wp2
      go_ret
      exact ⟨ret_bool (by rw [D.out, decide_eq_false hlt]), by rw [G.out]; exact HI.out.less (by omega), Below.refl _ _, Nat.le_refl _, fun _ _ _ => rfl⟩
  case pos =>
  subst he
  have G := Lib.hid (stepF_yes (L := L) s hcm)
  have ime : ((L : Int) + 1 == (L : Int) + 1) = true := by simp
  have D := Lib.hid (show goF most (stepF L s c) = decide (s.length + 1 < most) by rw [G.out]; unfold goF; rw [List.length_append]; rfl)
  have hCL := fun (W : World) (hBW : w.heap.size ≤ W.heap.size) (hrW : Rd W w.heap.size 1 (some ⟨gc, 0, none⟩) (cs c).length ((cs c).map I)) => cloneI_any w.heap.size (some ⟨gc, 0, none⟩) cc (cs c) W (by rw [cs_len]; omega) (by rw [cs_len]; omega) hBW hrW
  rw [cs_len, hcm] at hCL
  have HCL := Lib.hid hCL
  have hrd : Rd w w.heap.size 1 (some ⟨gc, 0, none⟩) (L + 1) ((cs c).map I) := by
    have h := HW.out
    unfold OwI at h
    rw [cs_len, hcm] at h
    exact Rd.of_own h
  have HRD := Lib.hid hrd
  have CLEN := Lib.hid (show (cs c).length = L + 1 by rw [cs_len]; exact hcm)
  clear hCL hrd hcm
  go_enter Try.func79, Try.ntmps79
  go_wp2
  have HS := Lib.hid (show (fun x : World => x.cell? ⟨bC, 0, none⟩ = some (.slice A s.length c0)) w.drew from hCc)
  refine wp_region_T (fun x : World => x.cell? ⟨bC, 0, none⟩ = some (.slice A s.length c0)) [0, 1] [0] (.lp 1 (.ls 0 (.hv 2 (.hv 3 (.hv 4 (.hv 5 (.done))))))) (by kernel_rfl) (by kernel_rfl) ?_
  (repeat (refine T_lp rfl (fun K hK => ?_); go_simp; refine hK _ ?_; clear hK K))
  refine T_ls1 (v := .slice A s.length c0) rfl rfl HS.out (fun x hx => (by go_simp)) (fun K hK => ?_)
  (go_simp; refine hK _ ?_; clear hK K)
  (repeat (refine T_lp rfl (fun K hK => ?_); go_simp; refine hK _ ?_; clear hK K))
  refine T_hvS rfl (fun K hK => ?_)
  go_simp
  go_at_call 80
  refine (HCL.out w.drew (Nat.le_refl _) HRD.out.drew).mono ?_
  rintro e w2 ⟨A1, c1, rfl, hown2, hb2⟩
  have hb2' : Below w.heap.size w w2 := (Below.refl _ _).drew.trans hb2
  have HB2 := Lib.hid hb2'
  have hrow2 : w2.ownsRow w.heap.size 3 1 (.slice A1 (L + 1) c1) (L + 1) ((cs c).map I) := by
    have h := hown2
    unfold OwI at h
    rw [CLEN.out] at h
    exact h
  have HR2 := Lib.hid hrow2
  have S2 := Lib.hid (show (fun x : World => x.cell? ⟨bC, 0, none⟩ = some (.slice A s.length c0)) w2 from (hb2'.cell (p := ⟨bC, 0, none⟩) hbC.1).trans hCc)
  have hz2 := hb2'.size
  have OA := Lib.hid (show w2.ownsRow B 22 1 (.slice A s.length c0) s.length (TT f (L + 1) s.length) from own_keepG H2.out.1 fun g hg => hb2'.block g (own_block H2.out.1 g hg).2)
  clear hown2 hb2 hb2' hrow2
  go_simp
  refine hK _ _ S2.out ?_
  clear hK K
  (repeat (refine T_lp rfl (fun K hK => ?_); go_simp; refine hK _ ?_; clear hK K))
  refine T_hvS rfl (fun K hK => ?_)
  go_simp
  refine hK _ _ (show (fun x : World => x.cell? ⟨bC, 0, none⟩ = some (.slice A s.length c0)) (w2.alloc _) from (World.cell?_alloc_lt w2 _ ⟨bC, 0, none⟩ (by simp only []; omega)).trans S2.out) ?_
  clear hK K
  refine T_hv rfl (by kernel_rfl) (fun K hK => ?_)
  refine step_app_rowH rfl (.tmp 11) (.tmp 14) rfl B s.length _ (TT f (L + 1) s.length) rfl (World.ownsRow.alloc OA.out _) w2.heap.size 1 (.slice A1 (L + 1) c1) rfl rfl (by simp) (by omega) (by simp; omega) ?_
  intro g4 c4 w4 hown4 hg4 hbel4 hat4
  have hadd := HI.out.add HX.out hB HH.out.1 H2.out HH.out.2.1 HH.out.2.2.1 HH.out.2.2.2 HB2.out HR2.out hown4 hg4 hat4
  have fz := free_of_one hadd.1
  have cz := cell_of_one hadd.1
  have hCc4 := cell_of_one (one_setCell (u := .slice (some ⟨g4, 0, none⟩) (s.length + 1) c4) hadd.1)
  have HADD := Lib.hid hadd
  have HB4 := Lib.hid (show Below B w w4 from ((HB2.out.mono hB).alloc (by omega) _).trans hbel4)
  have hMc4 : (w4.setCell ⟨bC, 0, none⟩ (.slice (some ⟨g4, 0, none⟩) (s.length + 1) c4)).cell? ⟨bM, 0, none⟩ = some (.int .i64 (most : Int)) := cell_of_one hadd.2.1.hM
  have hCb : B ≤ bC := HI.out.bB
  clear hown4 hg4 hbel4 hat4 hadd
  (go_simp; refine hK _ _ ?_; clear hK K)
  (refine T_hv rfl (by kernel_rfl) (fun K hK => ?_); go_simp; refine hK _ _ ?_; clear hK K)
  refine T_done ?_
  by_cases hlt : s.length + 1 < most
  · have ilt : (s.length : Int) + 1 < (most : Int) := by omega
    go_wp2
    go_ret
    exact ⟨ret_bool (by rw [D.out, decide_eq_true hlt]), by rw [G.out]; exact HADD.out.2.1, HB4.out.setCell hCb _, by have := HADD.out.2.2.2; simp; omega, HADD.out.2.2.1⟩
  · have ilt : ¬ (s.length : Int) + 1 < (most : Int) := by omega
    go_wp2
    go_ret
    exact ⟨ret_bool (by rw [D.out, decide_eq_false hlt]), by rw [G.out]; exact HADD.out.2.1, HB4.out.setCell hCb _, by have := HADD.out.2.2.2; simp; omega, HADD.out.2.2.1⟩
end Go.Proofs.Ytppahohakiidmaa
