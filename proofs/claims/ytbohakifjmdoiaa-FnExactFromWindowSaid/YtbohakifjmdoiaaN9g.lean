/- FromWindow of the model. -/
import Derived.Test.YtbohakifjmdoiaaN9f
namespace Go.Proofs.Ytbohakifjmdoiaa
open Go.RowKit

def odB (l : List Int) : Bool := l.all (fun d => d == 0 || decide (d % 2 ≠ 0))
theorem okA_eq {T : Int} (hT : 2 ≤ T / 2) (l : List Int) : okA T l = (allB l (1 - T / 2) (T / 2 - 1) && odB l) := by
  unfold okA allB odB
  obtain ⟨H, hH⟩ : ∃ H, T / 2 = H := ⟨_, rfl⟩
  rw [hH] at hT ⊢
  rw [Bool.eq_iff_iff]
  simp only [Bool.and_eq_true, List.all_eq_true, okd, inB, Bool.or_eq_true, beq_iff_eq, decide_eq_true_eq]
  constructor
  · intro h
    refine ⟨fun d hd => ?_, fun d hd => ?_⟩
    · have := h d hd; omega
    · have := h d hd; omega
  · rintro ⟨h1, h2⟩ d hd
    have a := h1 d hd
    have b := h2 d hd
    omega
theorem odB_take {l : List Int} {k : Nat} (hk : k < l.length) (h : odB (l.take k) = true) : odB (l.take (k + 1)) = (l[k] == 0 || decide (l[k] % 2 ≠ 0)) := by
  unfold odB at h ⊢
  rw [List.take_succ_eq_append_getElem hk, List.all_append, h]
  simp
theorem odB_miss {l : List Int} {k : Nat} (hk : k < l.length) (h : (l[k] == 0 || decide (l[k] % 2 ≠ 0)) = false) : odB l = false := by
  unfold odB
  rw [List.all_eq_false]
  exact ⟨_, List.getElem_mem hk, by rw [h]; decide⟩

theorem fw_false {l : List Int} {W : Int} (h : fwA l W = false) : fwV l W = 0 ∧ fwB l W = false := by
  have : fwB l W = false := by unfold fwB; rw [h]; rfl
  exact ⟨by unfold fwV; rw [this]; rfl, this⟩
theorem fwA_w {l : List Int} {W : Int} (h : inB W 2 6 = false) : fwA l W = false := by unfold fwA; rw [h]; rfl
theorem fwA_l {l : List Int} {W : Int} (h : ¬ l.length ≤ 24) : fwA l W = false := by unfold fwA; rw [decide_eq_false h]; simp
theorem fwA_o {l : List Int} {W : Int} (hW : inB W 2 6 = true) (h : okA (pwT W) l = false) : fwA l W = false := by rw [fwA_eq hW, h]; simp
theorem fwA_s {l : List Int} {W : Int} (hW : inB W 2 6 = true) (h1 : l.length ≤ 24) (h : okA (pwT W) l = true) : fwA l W = apS W l := by rw [fwA_eq hW, h, decide_eq_true h1]; simp
theorem okA_31 {l : List Int} {T : Int} (hT : TT T) (h : okA T l = true) : ∀ d ∈ l, -31 ≤ d ∧ d ≤ 31 := by
  intro d hd
  unfold okA at h
  rw [List.all_eq_true] at h
  have := h d hd
  unfold okd at this
  simp only [Bool.or_eq_true, beq_iff_eq, Bool.and_eq_true, decide_eq_true_eq] at this
  rcases this with rfl | ⟨⟨_, h1⟩, h2⟩
  · omega
  · rcases hT with e | e | e | e | e <;> rw [e] at h1 h2 <;> omega

set_option maxRecDepth 100000 in
set_option maxHeartbeats 2000000 in
theorem specFromWindow0 (A : Option Addr) (c : Nat) (l : List Int) (W : Int) (w : World) (hW : inB W 2 6 = false) :
    Calls Try.prog 29 #[.slice A l.length c, .int .i64 W] w fun e w' => e = .returned (.tuple #[.int .i64 (fwV l W), .bool (fwB l W)]) ∧ Below w.heap.size w w' := by
  have E := Lib.hid (fw_false (fwA_w (l := l) hW))
  have H1 := Lib.hid hW
  clear hW
  go_enter Try.func29, Try.ntmps29
  go_wp2
  refine wp_region_Tw [0, 2, 3, 4, 5, 6, 7, 8, 9, 10, 11, 12, 13, 14, 15, 16, 17, 19, 20] [] (.lp 0 (.hv 1 (.lp 2 (.lp 3 (.lp 4 (.lp 5 (.lp 6 (.lp 7 (.lp 8 (.lp 9 (.lp 10 (.lp 11 (.lp 12 (.lp 13 (.lp 14 (.lp 15 (.lp 16 (.lp 17 (.hv 18 (.lp 19 (.lp 20 (.done)))))))))))))))))))))) (by kernel_rfl) (by kernel_rfl) ?_
  (repeat (first | (refine T_lp rfl (fun K hK => ?_); go_simp; refine hK _ ?_; clear hK K) | (refine T_ls rfl rfl (fun K hK => ?_); go_simp; refine hK _ ?_; clear hK K)))
  (refine T_hv rfl (by kernel_rfl) (fun K hK => ?_); go_simp)
  go_at_call 50
  refine (siWidth_any _ _).mono ?_
  rw [H1.out]
  rintro e w' ⟨rfl, rfl⟩
  (go_simp; refine hK _ _ ?_; clear hK K)
  (repeat (first | (refine T_lp rfl (fun K hK => ?_); go_simp; refine hK _ ?_; clear hK K) | (refine T_ls rfl rfl (fun K hK => ?_); go_simp; refine hK _ ?_; clear hK K)))
  (refine T_hv rfl (by kernel_rfl) (fun K hK => ?_); go_simp; refine hK _ _ ?_; clear hK K)
  (repeat (first | (refine T_lp rfl (fun K hK => ?_); go_simp; refine hK _ ?_; clear hK K) | (refine T_ls rfl rfl (fun K hK => ?_); go_simp; refine hK _ ?_; clear hK K)))
  refine T_done ?_
  go_wp2
  go_ret2
  exact ⟨by rw [E.out.1, E.out.2]; rfl, (Below.refl _ _).drew⟩

set_option maxRecDepth 100000 in
set_option maxHeartbeats 4000000 in
theorem specFromWindow2 (B : Nat) (A : Option Addr) (c : Nat) (l : List Int) (w : World) (_hB : B ≤ w.heap.size) (hl : l.length ≤ 1048576) (hr : Rd w B 1 A l.length (l.map I)) :
    Calls Try.prog 29 #[.slice A l.length c, .int .i64 2] w fun e w' => e = .returned (.tuple #[.int .i64 (fwV l 2), .bool (fwB l 2)]) ∧ Below w.heap.size w w' := by
  have H1 := Lib.hid (show inB (2 : Int) 2 6 = true by decide)
  have H := Lib.hid hr
  clear hr
  have ew0 : IntKind.i64.wrap (-1) = -1 := IntWalk.i64_in _ (by omega); have ew1 : IntKind.i64.wrap (1) = 1 := IntWalk.i64_in _ (by omega); have ew2 : IntKind.i64.wrap (2) = 2 := IntWalk.i64_in _ (by omega)
  have ewp : IntKind.i64.wrap ((2 : Int) ^ 1) = 2 := IntWalk.i64_in _ (by decide)
  by_cases hlen : l.length ≤ 24
  · have il : ¬ 24 < (l.length : Int) := by omega
    have HA := Lib.hid (l1All_any B A c l (-1) 1 w.drew (by omega) H.out)
    obtain ⟨g1, hg1⟩ : ∃ g, allB l (-1) 1 = g := ⟨_, rfl⟩
    have EO := Lib.hid (show okA 4 l = (g1 && odB l) by rw [okA_eq (by decide), ← hg1]; rfl)
    rw [hg1] at HA
    clear hg1
    cases g1 with
    | false =>
      have E := Lib.hid (fw_false (l := l) (W := 2) (fwA_o H1.out EO.out))
      go_enter Try.func29, Try.ntmps29
      go_wp2
      refine wp_region_Tw [0, 2, 3, 4, 5, 6, 7, 8, 9, 10, 11, 12, 13, 14, 15, 16, 17, 19, 20] [] (.lp 0 (.hv 1 (.lp 2 (.lp 3 (.lp 4 (.lp 5 (.lp 6 (.lp 7 (.lp 8 (.lp 9 (.lp 10 (.lp 11 (.lp 12 (.lp 13 (.lp 14 (.lp 15 (.lp 16 (.lp 17 (.hv 18 (.lp 19 (.lp 20 (.done)))))))))))))))))))))) (by kernel_rfl) (by kernel_rfl) ?_
      (repeat (first | (refine T_lp rfl (fun K hK => ?_); go_simp; refine hK _ ?_; clear hK K) | (refine T_ls rfl rfl (fun K hK => ?_); go_simp; refine hK _ ?_; clear hK K)))
      (refine T_hv rfl (by kernel_rfl) (fun K hK => ?_); go_simp)
      go_at_call 50
      refine (siWidth_any _ _).mono ?_
      rw [H1.out]
      rintro e w' ⟨rfl, rfl⟩
      (go_simp; refine hK _ _ ?_; clear hK K)
      (repeat (first | (refine T_lp rfl (fun K hK => ?_); go_simp; refine hK _ ?_; clear hK K) | (refine T_ls rfl rfl (fun K hK => ?_); go_simp; refine hK _ ?_; clear hK K)))
      (refine T_hv rfl (by kernel_rfl) (fun K hK => ?_); go_simp)
      go_at_call 63
      refine HA.out.mono ?_
      rintro e w' ⟨rfl, rfl⟩
      (go_simp; refine hK _ _ ?_; clear hK K)
      (repeat (first | (refine T_lp rfl (fun K hK => ?_); go_simp; refine hK _ ?_; clear hK K) | (refine T_ls rfl rfl (fun K hK => ?_); go_simp; refine hK _ ?_; clear hK K)))
      refine T_done ?_
      go_wp2
      go_ret2
      exact ⟨by rw [E.out.1, E.out.2]; rfl, (Below.refl _ _).drew⟩
    | true =>
      have EO := Lib.hid (show okA 4 l = odB l from EO.out)
      go_enter Try.func29, Try.ntmps29
      go_wp2
      refine wp_region_Tw [0, 2, 3, 4, 5, 6, 7, 8, 9, 10, 11, 12, 13, 14, 15, 16, 17, 19, 20] [] (.lp 0 (.hv 1 (.lp 2 (.lp 3 (.lp 4 (.lp 5 (.lp 6 (.lp 7 (.lp 8 (.lp 9 (.lp 10 (.lp 11 (.lp 12 (.lp 13 (.lp 14 (.lp 15 (.lp 16 (.lp 17 (.hv 18 (.lp 19 (.lp 20 (.done)))))))))))))))))))))) (by kernel_rfl) (by kernel_rfl) ?_
      (repeat (first | (refine T_lp rfl (fun K hK => ?_); go_simp; refine hK _ ?_; clear hK K) | (refine T_ls rfl rfl (fun K hK => ?_); go_simp; refine hK _ ?_; clear hK K)))
      (refine T_hv rfl (by kernel_rfl) (fun K hK => ?_); go_simp)
      go_at_call 50
      refine (siWidth_any _ _).mono ?_
      rw [H1.out]
      rintro e w' ⟨rfl, rfl⟩
      (go_simp; refine hK _ _ ?_; clear hK K)
      (repeat (first | (refine T_lp rfl (fun K hK => ?_); go_simp; refine hK _ ?_; clear hK K) | (refine T_ls rfl rfl (fun K hK => ?_); go_simp; refine hK _ ?_; clear hK K)))
      (refine T_hv rfl (by kernel_rfl) (fun K hK => ?_); go_simp)
      go_at_call 63
      refine HA.out.mono ?_
      rintro e w' ⟨rfl, rfl⟩
      (go_simp; refine hK _ _ ?_; clear hK K)
      (repeat (first | (refine T_lp rfl (fun K hK => ?_); go_simp; refine hK _ ?_; clear hK K) | (refine T_ls rfl rfl (fun K hK => ?_); go_simp; refine hK _ ?_; clear hK K)))
      refine T_done ?_
      obtain ⟨w1, hw1⟩ : ∃ w1, w.drew = w1 := ⟨_, rfl⟩
      have HB := Lib.hid (show Below w.heap.size w w1 by rw [← hw1]; exact (Below.refl _ _).drew)
      have H := Lib.hid (show Rd w1 B 1 A l.length (l.map I) by rw [← hw1]; exact H.out)
      rw [hw1]
      clear hw1 HA
      go_wp2
      go_loop [31] (fun i => ∃ k : Nat, k ≤ l.length ∧ i = .int .i64 k ∧ odB (l.take k) = true) (fun i => l.length - (intOf i).toNat)
      case atStart => exact ⟨0, by omega, rfl, rfl⟩
      case round =>
        obtain ⟨k, hk, rfl, hq⟩ := hrel
        by_cases hlt : k < l.length
        · obtain ⟨b, off, rfl, hb, hcell⟩ := H.out.int hlt
          have NX := Lib.hid (odB_take hlt hq)
          have MI := Lib.hid (odB_miss hlt)
          obtain ⟨x, hx⟩ : ∃ x, l[k] = x := ⟨_, rfl⟩
          rw [hx] at hcell NX MI
          clear hx hq
          by_cases h0 : x = 0
          · have i0 : (x != 0) = false := by simp [h0]
            have Q := Lib.hid (show odB (l.take (k + 1)) = true by rw [NX.out]; simp [h0])
            clear h0
            go_wp2
            go_round
            case rel => exact ⟨k + 1, by omega, by go_num, Q.out⟩
            case measure => simp [intOf]; omega
          · have i0 : (x != 0) = true := by simpa using h0
            obtain ⟨g, hg⟩ : ∃ g, decide (x % 2 ≠ 0) = g := ⟨_, rfl⟩
            have O := fun W' => siOdd_any x W'
            rw [hg] at O NX MI
            have O := Lib.hid O
            have X0 := Lib.hid (show (x == 0) = false by simpa using h0)
            clear h0 hg
            cases g with
            | false =>
              have E := Lib.hid (fw_false (l := l) (W := 2) (fwA_o H1.out (EO.out.trans (MI.out (by rw [X0.out]; rfl)))))
              go_wp2_with (go_at_call 64; refine (O.out _).mono ?_; rintro e w' ⟨rfl, rfl⟩)
              go_ret2
              exact ⟨by rw [E.out.1, E.out.2]; rfl, HB.out⟩
            | true =>
              have Q := Lib.hid (show odB (l.take (k + 1)) = true by rw [NX.out]; simp)
              go_wp2_with (go_at_call 64; refine (O.out _).mono ?_; rintro e w' ⟨rfl, rfl⟩)
              go_round
              case rel => exact ⟨k + 1, by omega, by go_num, Q.out⟩
              case measure => simp [intOf]; omega
        · have hod : odB l = true := by rwa [List.take_of_length_le (by omega)] at hq
          have hok := EO.out.trans hod
          have EA := fwA_s H1.out hlen hok
          have HS := Lib.hid (siSum_any B A c l w1 hlen (okA_31 (by simp [TT]) hok) H.out)
          have HP := siApart_any B A c l 2 w1 (by omega) (by omega) H.out
          obtain ⟨g2, hg2⟩ : ∃ g, apS 2 l = g := ⟨_, rfl⟩
          rw [hg2] at EA HP
          have HP := Lib.hid HP
          have EA := Lib.hid EA
          clear hq hod hok hg2
          cases g2 with
          | false =>
            have E := Lib.hid (fw_false EA.out)
            go_wp2_with (go_at_call 61; refine HP.out.mono ?_; rintro e w' ⟨rfl, rfl⟩)
            go_ret2
            exact ⟨by rw [E.out.1, E.out.2]; rfl, HB.out⟩
          | true =>
            have EB := Lib.hid (show fwB l 2 = isN9 (smD l) by unfold fwB; rw [EA.out]; rfl)
            have EV := Lib.hid (show fwV l 2 = cutN (smD l) by unfold fwV cutN; rw [EB.out])
            have HN := fun W => siNumber_any (smD l) W
            have EC := Lib.hid (fun h : isN9 (smD l) = true => (show cutN (smD l) = smD l by unfold cutN; rw [h]; rfl))
            have EC0 := Lib.hid (fun h : isN9 (smD l) = false => (show cutN (smD l) = 0 by unfold cutN; rw [h]; rfl))
            obtain ⟨s, hs⟩ : ∃ s, smD l = s := ⟨_, rfl⟩
            rw [hs] at HS HN EV EB EC EC0
            obtain ⟨g3, hg3⟩ : ∃ g, isN9 s = g := ⟨_, rfl⟩
            rw [hg3] at HN EB EC EC0
            have HN := Lib.hid HN
            clear hs hg3
            cases g3 with
            | false =>
              go_wp2_with (first
                | (go_at_call 61; refine HP.out.mono ?_; rintro e w' ⟨rfl, rfl⟩)
                | (go_at_call 56; refine HS.out.mono ?_; rintro e w' ⟨rfl, rfl⟩)
                | (go_at_call 49; refine (HN.out _).mono ?_; rintro e w' ⟨rfl, rfl⟩))
              go_ret2
              exact ⟨by rw [EV.out, EB.out, EC0.out (by first | rfl | trivial)]; rfl, HB.out⟩
            | true =>
              go_wp2_with (first
                | (go_at_call 61; refine HP.out.mono ?_; rintro e w' ⟨rfl, rfl⟩)
                | (go_at_call 56; refine HS.out.mono ?_; rintro e w' ⟨rfl, rfl⟩)
                | (go_at_call 49; refine (HN.out _).mono ?_; rintro e w' ⟨rfl, rfl⟩))
              go_ret2
              exact ⟨by rw [EV.out, EB.out, EC.out (by first | rfl | trivial)]; rfl, HB.out⟩
  · have il : 24 < (l.length : Int) := by omega
    have E := Lib.hid (fw_false (fwA_l (W := 2) hlen))
    go_enter Try.func29, Try.ntmps29
    go_wp2
    refine wp_region_Tw [0, 2, 3, 4, 5, 6, 7, 8, 9, 10, 11, 12, 13, 14, 15, 16, 17, 19, 20] [] (.lp 0 (.hv 1 (.lp 2 (.lp 3 (.lp 4 (.lp 5 (.lp 6 (.lp 7 (.lp 8 (.lp 9 (.lp 10 (.lp 11 (.lp 12 (.lp 13 (.lp 14 (.lp 15 (.lp 16 (.lp 17 (.hv 18 (.lp 19 (.lp 20 (.done)))))))))))))))))))))) (by kernel_rfl) (by kernel_rfl) ?_
    (repeat (first | (refine T_lp rfl (fun K hK => ?_); go_simp; refine hK _ ?_; clear hK K) | (refine T_ls rfl rfl (fun K hK => ?_); go_simp; refine hK _ ?_; clear hK K)))
    (refine T_hv rfl (by kernel_rfl) (fun K hK => ?_); go_simp)
    go_at_call 50
    refine (siWidth_any _ _).mono ?_
    rw [H1.out]
    rintro e w' ⟨rfl, rfl⟩
    (go_simp; refine hK _ _ ?_; clear hK K)
    (repeat (first | (refine T_lp rfl (fun K hK => ?_); go_simp; refine hK _ ?_; clear hK K) | (refine T_ls rfl rfl (fun K hK => ?_); go_simp; refine hK _ ?_; clear hK K)))
    (refine T_hv rfl (by kernel_rfl) (fun K hK => ?_); go_simp; refine hK _ _ ?_; clear hK K)
    (repeat (first | (refine T_lp rfl (fun K hK => ?_); go_simp; refine hK _ ?_; clear hK K) | (refine T_ls rfl rfl (fun K hK => ?_); go_simp; refine hK _ ?_; clear hK K)))
    refine T_done ?_
    go_wp2
    go_ret2
    exact ⟨by rw [E.out.1, E.out.2]; rfl, (Below.refl _ _).drew⟩

set_option maxRecDepth 100000 in
set_option maxHeartbeats 4000000 in
theorem specFromWindow3 (B : Nat) (A : Option Addr) (c : Nat) (l : List Int) (w : World) (_hB : B ≤ w.heap.size) (hl : l.length ≤ 1048576) (hr : Rd w B 1 A l.length (l.map I)) :
    Calls Try.prog 29 #[.slice A l.length c, .int .i64 3] w fun e w' => e = .returned (.tuple #[.int .i64 (fwV l 3), .bool (fwB l 3)]) ∧ Below w.heap.size w w' := by
  have H1 := Lib.hid (show inB (3 : Int) 2 6 = true by decide)
  have H := Lib.hid hr
  clear hr
  have ew0 : IntKind.i64.wrap (-3) = -3 := IntWalk.i64_in _ (by omega); have ew1 : IntKind.i64.wrap (2) = 2 := IntWalk.i64_in _ (by omega); have ew2 : IntKind.i64.wrap (3) = 3 := IntWalk.i64_in _ (by omega); have ew3 : IntKind.i64.wrap (4) = 4 := IntWalk.i64_in _ (by omega)
  have ewp : IntKind.i64.wrap ((2 : Int) ^ 2) = 4 := IntWalk.i64_in _ (by decide)
  by_cases hlen : l.length ≤ 24
  · have il : ¬ 24 < (l.length : Int) := by omega
    have HA := Lib.hid (l1All_any B A c l (-3) 3 w.drew (by omega) H.out)
    obtain ⟨g1, hg1⟩ : ∃ g, allB l (-3) 3 = g := ⟨_, rfl⟩
    have EO := Lib.hid (show okA 8 l = (g1 && odB l) by rw [okA_eq (by decide), ← hg1]; rfl)
    rw [hg1] at HA
    clear hg1
    cases g1 with
    | false =>
      have E := Lib.hid (fw_false (l := l) (W := 3) (fwA_o H1.out EO.out))
      go_enter Try.func29, Try.ntmps29
      go_wp2
      refine wp_region_Tw [0, 2, 3, 4, 5, 6, 7, 8, 9, 10, 11, 12, 13, 14, 15, 16, 17, 19, 20] [] (.lp 0 (.hv 1 (.lp 2 (.lp 3 (.lp 4 (.lp 5 (.lp 6 (.lp 7 (.lp 8 (.lp 9 (.lp 10 (.lp 11 (.lp 12 (.lp 13 (.lp 14 (.lp 15 (.lp 16 (.lp 17 (.hv 18 (.lp 19 (.lp 20 (.done)))))))))))))))))))))) (by kernel_rfl) (by kernel_rfl) ?_
      (repeat (first | (refine T_lp rfl (fun K hK => ?_); go_simp; refine hK _ ?_; clear hK K) | (refine T_ls rfl rfl (fun K hK => ?_); go_simp; refine hK _ ?_; clear hK K)))
      (refine T_hv rfl (by kernel_rfl) (fun K hK => ?_); go_simp)
      go_at_call 50
      refine (siWidth_any _ _).mono ?_
      rw [H1.out]
      rintro e w' ⟨rfl, rfl⟩
      (go_simp; refine hK _ _ ?_; clear hK K)
      (repeat (first | (refine T_lp rfl (fun K hK => ?_); go_simp; refine hK _ ?_; clear hK K) | (refine T_ls rfl rfl (fun K hK => ?_); go_simp; refine hK _ ?_; clear hK K)))
      (refine T_hv rfl (by kernel_rfl) (fun K hK => ?_); go_simp)
      go_at_call 63
      refine HA.out.mono ?_
      rintro e w' ⟨rfl, rfl⟩
      (go_simp; refine hK _ _ ?_; clear hK K)
      (repeat (first | (refine T_lp rfl (fun K hK => ?_); go_simp; refine hK _ ?_; clear hK K) | (refine T_ls rfl rfl (fun K hK => ?_); go_simp; refine hK _ ?_; clear hK K)))
      refine T_done ?_
      go_wp2
      go_ret2
      exact ⟨by rw [E.out.1, E.out.2]; rfl, (Below.refl _ _).drew⟩
    | true =>
      have EO := Lib.hid (show okA 8 l = odB l from EO.out)
      go_enter Try.func29, Try.ntmps29
      go_wp2
      refine wp_region_Tw [0, 2, 3, 4, 5, 6, 7, 8, 9, 10, 11, 12, 13, 14, 15, 16, 17, 19, 20] [] (.lp 0 (.hv 1 (.lp 2 (.lp 3 (.lp 4 (.lp 5 (.lp 6 (.lp 7 (.lp 8 (.lp 9 (.lp 10 (.lp 11 (.lp 12 (.lp 13 (.lp 14 (.lp 15 (.lp 16 (.lp 17 (.hv 18 (.lp 19 (.lp 20 (.done)))))))))))))))))))))) (by kernel_rfl) (by kernel_rfl) ?_
      (repeat (first | (refine T_lp rfl (fun K hK => ?_); go_simp; refine hK _ ?_; clear hK K) | (refine T_ls rfl rfl (fun K hK => ?_); go_simp; refine hK _ ?_; clear hK K)))
      (refine T_hv rfl (by kernel_rfl) (fun K hK => ?_); go_simp)
      go_at_call 50
      refine (siWidth_any _ _).mono ?_
      rw [H1.out]
      rintro e w' ⟨rfl, rfl⟩
      (go_simp; refine hK _ _ ?_; clear hK K)
      (repeat (first | (refine T_lp rfl (fun K hK => ?_); go_simp; refine hK _ ?_; clear hK K) | (refine T_ls rfl rfl (fun K hK => ?_); go_simp; refine hK _ ?_; clear hK K)))
      (refine T_hv rfl (by kernel_rfl) (fun K hK => ?_); go_simp)
      go_at_call 63
      refine HA.out.mono ?_
      rintro e w' ⟨rfl, rfl⟩
      (go_simp; refine hK _ _ ?_; clear hK K)
      (repeat (first | (refine T_lp rfl (fun K hK => ?_); go_simp; refine hK _ ?_; clear hK K) | (refine T_ls rfl rfl (fun K hK => ?_); go_simp; refine hK _ ?_; clear hK K)))
      refine T_done ?_
      obtain ⟨w1, hw1⟩ : ∃ w1, w.drew = w1 := ⟨_, rfl⟩
      have HB := Lib.hid (show Below w.heap.size w w1 by rw [← hw1]; exact (Below.refl _ _).drew)
      have H := Lib.hid (show Rd w1 B 1 A l.length (l.map I) by rw [← hw1]; exact H.out)
      rw [hw1]
      clear hw1 HA
      go_wp2
      go_loop [31] (fun i => ∃ k : Nat, k ≤ l.length ∧ i = .int .i64 k ∧ odB (l.take k) = true) (fun i => l.length - (intOf i).toNat)
      case atStart => exact ⟨0, by omega, rfl, rfl⟩
      case round =>
        obtain ⟨k, hk, rfl, hq⟩ := hrel
        by_cases hlt : k < l.length
        · obtain ⟨b, off, rfl, hb, hcell⟩ := H.out.int hlt
          have NX := Lib.hid (odB_take hlt hq)
          have MI := Lib.hid (odB_miss hlt)
          obtain ⟨x, hx⟩ : ∃ x, l[k] = x := ⟨_, rfl⟩
          rw [hx] at hcell NX MI
          clear hx hq
          by_cases h0 : x = 0
          · have i0 : (x != 0) = false := by simp [h0]
            have Q := Lib.hid (show odB (l.take (k + 1)) = true by rw [NX.out]; simp [h0])
            clear h0
            go_wp2
            go_round
            case rel => exact ⟨k + 1, by omega, by go_num, Q.out⟩
            case measure => simp [intOf]; omega
          · have i0 : (x != 0) = true := by simpa using h0
            obtain ⟨g, hg⟩ : ∃ g, decide (x % 2 ≠ 0) = g := ⟨_, rfl⟩
            have O := fun W' => siOdd_any x W'
            rw [hg] at O NX MI
            have O := Lib.hid O
            have X0 := Lib.hid (show (x == 0) = false by simpa using h0)
            clear h0 hg
            cases g with
            | false =>
              have E := Lib.hid (fw_false (l := l) (W := 3) (fwA_o H1.out (EO.out.trans (MI.out (by rw [X0.out]; rfl)))))
              go_wp2_with (go_at_call 64; refine (O.out _).mono ?_; rintro e w' ⟨rfl, rfl⟩)
              go_ret2
              exact ⟨by rw [E.out.1, E.out.2]; rfl, HB.out⟩
            | true =>
              have Q := Lib.hid (show odB (l.take (k + 1)) = true by rw [NX.out]; simp)
              go_wp2_with (go_at_call 64; refine (O.out _).mono ?_; rintro e w' ⟨rfl, rfl⟩)
              go_round
              case rel => exact ⟨k + 1, by omega, by go_num, Q.out⟩
              case measure => simp [intOf]; omega
        · have hod : odB l = true := by rwa [List.take_of_length_le (by omega)] at hq
          have hok := EO.out.trans hod
          have EA := fwA_s H1.out hlen hok
          have HS := Lib.hid (siSum_any B A c l w1 hlen (okA_31 (by simp [TT]) hok) H.out)
          have HP := siApart_any B A c l 3 w1 (by omega) (by omega) H.out
          obtain ⟨g2, hg2⟩ : ∃ g, apS 3 l = g := ⟨_, rfl⟩
          rw [hg2] at EA HP
          have HP := Lib.hid HP
          have EA := Lib.hid EA
          clear hq hod hok hg2
          cases g2 with
          | false =>
            have E := Lib.hid (fw_false EA.out)
            go_wp2_with (go_at_call 61; refine HP.out.mono ?_; rintro e w' ⟨rfl, rfl⟩)
            go_ret2
            exact ⟨by rw [E.out.1, E.out.2]; rfl, HB.out⟩
          | true =>
            have EB := Lib.hid (show fwB l 3 = isN9 (smD l) by unfold fwB; rw [EA.out]; rfl)
            have EV := Lib.hid (show fwV l 3 = cutN (smD l) by unfold fwV cutN; rw [EB.out])
            have HN := fun W => siNumber_any (smD l) W
            have EC := Lib.hid (fun h : isN9 (smD l) = true => (show cutN (smD l) = smD l by unfold cutN; rw [h]; rfl))
            have EC0 := Lib.hid (fun h : isN9 (smD l) = false => (show cutN (smD l) = 0 by unfold cutN; rw [h]; rfl))
            obtain ⟨s, hs⟩ : ∃ s, smD l = s := ⟨_, rfl⟩
            rw [hs] at HS HN EV EB EC EC0
            obtain ⟨g3, hg3⟩ : ∃ g, isN9 s = g := ⟨_, rfl⟩
            rw [hg3] at HN EB EC EC0
            have HN := Lib.hid HN
            clear hs hg3
            cases g3 with
            | false =>
              go_wp2_with (first
                | (go_at_call 61; refine HP.out.mono ?_; rintro e w' ⟨rfl, rfl⟩)
                | (go_at_call 56; refine HS.out.mono ?_; rintro e w' ⟨rfl, rfl⟩)
                | (go_at_call 49; refine (HN.out _).mono ?_; rintro e w' ⟨rfl, rfl⟩))
              go_ret2
              exact ⟨by rw [EV.out, EB.out, EC0.out (by first | rfl | trivial)]; rfl, HB.out⟩
            | true =>
              go_wp2_with (first
                | (go_at_call 61; refine HP.out.mono ?_; rintro e w' ⟨rfl, rfl⟩)
                | (go_at_call 56; refine HS.out.mono ?_; rintro e w' ⟨rfl, rfl⟩)
                | (go_at_call 49; refine (HN.out _).mono ?_; rintro e w' ⟨rfl, rfl⟩))
              go_ret2
              exact ⟨by rw [EV.out, EB.out, EC.out (by first | rfl | trivial)]; rfl, HB.out⟩
  · have il : 24 < (l.length : Int) := by omega
    have E := Lib.hid (fw_false (fwA_l (W := 3) hlen))
    go_enter Try.func29, Try.ntmps29
    go_wp2
    refine wp_region_Tw [0, 2, 3, 4, 5, 6, 7, 8, 9, 10, 11, 12, 13, 14, 15, 16, 17, 19, 20] [] (.lp 0 (.hv 1 (.lp 2 (.lp 3 (.lp 4 (.lp 5 (.lp 6 (.lp 7 (.lp 8 (.lp 9 (.lp 10 (.lp 11 (.lp 12 (.lp 13 (.lp 14 (.lp 15 (.lp 16 (.lp 17 (.hv 18 (.lp 19 (.lp 20 (.done)))))))))))))))))))))) (by kernel_rfl) (by kernel_rfl) ?_
    (repeat (first | (refine T_lp rfl (fun K hK => ?_); go_simp; refine hK _ ?_; clear hK K) | (refine T_ls rfl rfl (fun K hK => ?_); go_simp; refine hK _ ?_; clear hK K)))
    (refine T_hv rfl (by kernel_rfl) (fun K hK => ?_); go_simp)
    go_at_call 50
    refine (siWidth_any _ _).mono ?_
    rw [H1.out]
    rintro e w' ⟨rfl, rfl⟩
    (go_simp; refine hK _ _ ?_; clear hK K)
    (repeat (first | (refine T_lp rfl (fun K hK => ?_); go_simp; refine hK _ ?_; clear hK K) | (refine T_ls rfl rfl (fun K hK => ?_); go_simp; refine hK _ ?_; clear hK K)))
    (refine T_hv rfl (by kernel_rfl) (fun K hK => ?_); go_simp; refine hK _ _ ?_; clear hK K)
    (repeat (first | (refine T_lp rfl (fun K hK => ?_); go_simp; refine hK _ ?_; clear hK K) | (refine T_ls rfl rfl (fun K hK => ?_); go_simp; refine hK _ ?_; clear hK K)))
    refine T_done ?_
    go_wp2
    go_ret2
    exact ⟨by rw [E.out.1, E.out.2]; rfl, (Below.refl _ _).drew⟩

set_option maxRecDepth 100000 in
set_option maxHeartbeats 4000000 in
theorem specFromWindow4 (B : Nat) (A : Option Addr) (c : Nat) (l : List Int) (w : World) (_hB : B ≤ w.heap.size) (hl : l.length ≤ 1048576) (hr : Rd w B 1 A l.length (l.map I)) :
    Calls Try.prog 29 #[.slice A l.length c, .int .i64 4] w fun e w' => e = .returned (.tuple #[.int .i64 (fwV l 4), .bool (fwB l 4)]) ∧ Below w.heap.size w w' := by
  have H1 := Lib.hid (show inB (4 : Int) 2 6 = true by decide)
  have H := Lib.hid hr
  clear hr
  have ew0 : IntKind.i64.wrap (-7) = -7 := IntWalk.i64_in _ (by omega); have ew1 : IntKind.i64.wrap (3) = 3 := IntWalk.i64_in _ (by omega); have ew2 : IntKind.i64.wrap (7) = 7 := IntWalk.i64_in _ (by omega); have ew3 : IntKind.i64.wrap (8) = 8 := IntWalk.i64_in _ (by omega)
  have ewp : IntKind.i64.wrap ((2 : Int) ^ 3) = 8 := IntWalk.i64_in _ (by decide)
  by_cases hlen : l.length ≤ 24
  · have il : ¬ 24 < (l.length : Int) := by omega
    have HA := Lib.hid (l1All_any B A c l (-7) 7 w.drew (by omega) H.out)
    obtain ⟨g1, hg1⟩ : ∃ g, allB l (-7) 7 = g := ⟨_, rfl⟩
    have EO := Lib.hid (show okA 16 l = (g1 && odB l) by rw [okA_eq (by decide), ← hg1]; rfl)
    rw [hg1] at HA
    clear hg1
    cases g1 with
    | false =>
      have E := Lib.hid (fw_false (l := l) (W := 4) (fwA_o H1.out EO.out))
      go_enter Try.func29, Try.ntmps29
      go_wp2
      refine wp_region_Tw [0, 2, 3, 4, 5, 6, 7, 8, 9, 10, 11, 12, 13, 14, 15, 16, 17, 19, 20] [] (.lp 0 (.hv 1 (.lp 2 (.lp 3 (.lp 4 (.lp 5 (.lp 6 (.lp 7 (.lp 8 (.lp 9 (.lp 10 (.lp 11 (.lp 12 (.lp 13 (.lp 14 (.lp 15 (.lp 16 (.lp 17 (.hv 18 (.lp 19 (.lp 20 (.done)))))))))))))))))))))) (by kernel_rfl) (by kernel_rfl) ?_
      (repeat (first | (refine T_lp rfl (fun K hK => ?_); go_simp; refine hK _ ?_; clear hK K) | (refine T_ls rfl rfl (fun K hK => ?_); go_simp; refine hK _ ?_; clear hK K)))
      (refine T_hv rfl (by kernel_rfl) (fun K hK => ?_); go_simp)
      go_at_call 50
      refine (siWidth_any _ _).mono ?_
      rw [H1.out]
      rintro e w' ⟨rfl, rfl⟩
      (go_simp; refine hK _ _ ?_; clear hK K)
      (repeat (first | (refine T_lp rfl (fun K hK => ?_); go_simp; refine hK _ ?_; clear hK K) | (refine T_ls rfl rfl (fun K hK => ?_); go_simp; refine hK _ ?_; clear hK K)))
      (refine T_hv rfl (by kernel_rfl) (fun K hK => ?_); go_simp)
      go_at_call 63
      refine HA.out.mono ?_
      rintro e w' ⟨rfl, rfl⟩
      (go_simp; refine hK _ _ ?_; clear hK K)
      (repeat (first | (refine T_lp rfl (fun K hK => ?_); go_simp; refine hK _ ?_; clear hK K) | (refine T_ls rfl rfl (fun K hK => ?_); go_simp; refine hK _ ?_; clear hK K)))
      refine T_done ?_
      go_wp2
      go_ret2
      exact ⟨by rw [E.out.1, E.out.2]; rfl, (Below.refl _ _).drew⟩
    | true =>
      have EO := Lib.hid (show okA 16 l = odB l from EO.out)
      go_enter Try.func29, Try.ntmps29
      go_wp2
      refine wp_region_Tw [0, 2, 3, 4, 5, 6, 7, 8, 9, 10, 11, 12, 13, 14, 15, 16, 17, 19, 20] [] (.lp 0 (.hv 1 (.lp 2 (.lp 3 (.lp 4 (.lp 5 (.lp 6 (.lp 7 (.lp 8 (.lp 9 (.lp 10 (.lp 11 (.lp 12 (.lp 13 (.lp 14 (.lp 15 (.lp 16 (.lp 17 (.hv 18 (.lp 19 (.lp 20 (.done)))))))))))))))))))))) (by kernel_rfl) (by kernel_rfl) ?_
      (repeat (first | (refine T_lp rfl (fun K hK => ?_); go_simp; refine hK _ ?_; clear hK K) | (refine T_ls rfl rfl (fun K hK => ?_); go_simp; refine hK _ ?_; clear hK K)))
      (refine T_hv rfl (by kernel_rfl) (fun K hK => ?_); go_simp)
      go_at_call 50
      refine (siWidth_any _ _).mono ?_
      rw [H1.out]
      rintro e w' ⟨rfl, rfl⟩
      (go_simp; refine hK _ _ ?_; clear hK K)
      (repeat (first | (refine T_lp rfl (fun K hK => ?_); go_simp; refine hK _ ?_; clear hK K) | (refine T_ls rfl rfl (fun K hK => ?_); go_simp; refine hK _ ?_; clear hK K)))
      (refine T_hv rfl (by kernel_rfl) (fun K hK => ?_); go_simp)
      go_at_call 63
      refine HA.out.mono ?_
      rintro e w' ⟨rfl, rfl⟩
      (go_simp; refine hK _ _ ?_; clear hK K)
      (repeat (first | (refine T_lp rfl (fun K hK => ?_); go_simp; refine hK _ ?_; clear hK K) | (refine T_ls rfl rfl (fun K hK => ?_); go_simp; refine hK _ ?_; clear hK K)))
      refine T_done ?_
      obtain ⟨w1, hw1⟩ : ∃ w1, w.drew = w1 := ⟨_, rfl⟩
      have HB := Lib.hid (show Below w.heap.size w w1 by rw [← hw1]; exact (Below.refl _ _).drew)
      have H := Lib.hid (show Rd w1 B 1 A l.length (l.map I) by rw [← hw1]; exact H.out)
      rw [hw1]
      clear hw1 HA
      go_wp2
      go_loop [31] (fun i => ∃ k : Nat, k ≤ l.length ∧ i = .int .i64 k ∧ odB (l.take k) = true) (fun i => l.length - (intOf i).toNat)
      case atStart => exact ⟨0, by omega, rfl, rfl⟩
      case round =>
        obtain ⟨k, hk, rfl, hq⟩ := hrel
        by_cases hlt : k < l.length
        · obtain ⟨b, off, rfl, hb, hcell⟩ := H.out.int hlt
          have NX := Lib.hid (odB_take hlt hq)
          have MI := Lib.hid (odB_miss hlt)
          obtain ⟨x, hx⟩ : ∃ x, l[k] = x := ⟨_, rfl⟩
          rw [hx] at hcell NX MI
          clear hx hq
          by_cases h0 : x = 0
          · have i0 : (x != 0) = false := by simp [h0]
            have Q := Lib.hid (show odB (l.take (k + 1)) = true by rw [NX.out]; simp [h0])
            clear h0
            go_wp2
            go_round
            case rel => exact ⟨k + 1, by omega, by go_num, Q.out⟩
            case measure => simp [intOf]; omega
          · have i0 : (x != 0) = true := by simpa using h0
            obtain ⟨g, hg⟩ : ∃ g, decide (x % 2 ≠ 0) = g := ⟨_, rfl⟩
            have O := fun W' => siOdd_any x W'
            rw [hg] at O NX MI
            have O := Lib.hid O
            have X0 := Lib.hid (show (x == 0) = false by simpa using h0)
            clear h0 hg
            cases g with
            | false =>
              have E := Lib.hid (fw_false (l := l) (W := 4) (fwA_o H1.out (EO.out.trans (MI.out (by rw [X0.out]; rfl)))))
              go_wp2_with (go_at_call 64; refine (O.out _).mono ?_; rintro e w' ⟨rfl, rfl⟩)
              go_ret2
              exact ⟨by rw [E.out.1, E.out.2]; rfl, HB.out⟩
            | true =>
              have Q := Lib.hid (show odB (l.take (k + 1)) = true by rw [NX.out]; simp)
              go_wp2_with (go_at_call 64; refine (O.out _).mono ?_; rintro e w' ⟨rfl, rfl⟩)
              go_round
              case rel => exact ⟨k + 1, by omega, by go_num, Q.out⟩
              case measure => simp [intOf]; omega
        · have hod : odB l = true := by rwa [List.take_of_length_le (by omega)] at hq
          have hok := EO.out.trans hod
          have EA := fwA_s H1.out hlen hok
          have HS := Lib.hid (siSum_any B A c l w1 hlen (okA_31 (by simp [TT]) hok) H.out)
          have HP := siApart_any B A c l 4 w1 (by omega) (by omega) H.out
          obtain ⟨g2, hg2⟩ : ∃ g, apS 4 l = g := ⟨_, rfl⟩
          rw [hg2] at EA HP
          have HP := Lib.hid HP
          have EA := Lib.hid EA
          clear hq hod hok hg2
          cases g2 with
          | false =>
            have E := Lib.hid (fw_false EA.out)
            go_wp2_with (go_at_call 61; refine HP.out.mono ?_; rintro e w' ⟨rfl, rfl⟩)
            go_ret2
            exact ⟨by rw [E.out.1, E.out.2]; rfl, HB.out⟩
          | true =>
            have EB := Lib.hid (show fwB l 4 = isN9 (smD l) by unfold fwB; rw [EA.out]; rfl)
            have EV := Lib.hid (show fwV l 4 = cutN (smD l) by unfold fwV cutN; rw [EB.out])
            have HN := fun W => siNumber_any (smD l) W
            have EC := Lib.hid (fun h : isN9 (smD l) = true => (show cutN (smD l) = smD l by unfold cutN; rw [h]; rfl))
            have EC0 := Lib.hid (fun h : isN9 (smD l) = false => (show cutN (smD l) = 0 by unfold cutN; rw [h]; rfl))
            obtain ⟨s, hs⟩ : ∃ s, smD l = s := ⟨_, rfl⟩
            rw [hs] at HS HN EV EB EC EC0
            obtain ⟨g3, hg3⟩ : ∃ g, isN9 s = g := ⟨_, rfl⟩
            rw [hg3] at HN EB EC EC0
            have HN := Lib.hid HN
            clear hs hg3
            cases g3 with
            | false =>
              go_wp2_with (first
                | (go_at_call 61; refine HP.out.mono ?_; rintro e w' ⟨rfl, rfl⟩)
                | (go_at_call 56; refine HS.out.mono ?_; rintro e w' ⟨rfl, rfl⟩)
                | (go_at_call 49; refine (HN.out _).mono ?_; rintro e w' ⟨rfl, rfl⟩))
              go_ret2
              exact ⟨by rw [EV.out, EB.out, EC0.out (by first | rfl | trivial)]; rfl, HB.out⟩
            | true =>
              go_wp2_with (first
                | (go_at_call 61; refine HP.out.mono ?_; rintro e w' ⟨rfl, rfl⟩)
                | (go_at_call 56; refine HS.out.mono ?_; rintro e w' ⟨rfl, rfl⟩)
                | (go_at_call 49; refine (HN.out _).mono ?_; rintro e w' ⟨rfl, rfl⟩))
              go_ret2
              exact ⟨by rw [EV.out, EB.out, EC.out (by first | rfl | trivial)]; rfl, HB.out⟩
  · have il : 24 < (l.length : Int) := by omega
    have E := Lib.hid (fw_false (fwA_l (W := 4) hlen))
    go_enter Try.func29, Try.ntmps29
    go_wp2
    refine wp_region_Tw [0, 2, 3, 4, 5, 6, 7, 8, 9, 10, 11, 12, 13, 14, 15, 16, 17, 19, 20] [] (.lp 0 (.hv 1 (.lp 2 (.lp 3 (.lp 4 (.lp 5 (.lp 6 (.lp 7 (.lp 8 (.lp 9 (.lp 10 (.lp 11 (.lp 12 (.lp 13 (.lp 14 (.lp 15 (.lp 16 (.lp 17 (.hv 18 (.lp 19 (.lp 20 (.done)))))))))))))))))))))) (by kernel_rfl) (by kernel_rfl) ?_
    (repeat (first | (refine T_lp rfl (fun K hK => ?_); go_simp; refine hK _ ?_; clear hK K) | (refine T_ls rfl rfl (fun K hK => ?_); go_simp; refine hK _ ?_; clear hK K)))
    (refine T_hv rfl (by kernel_rfl) (fun K hK => ?_); go_simp)
    go_at_call 50
    refine (siWidth_any _ _).mono ?_
    rw [H1.out]
    rintro e w' ⟨rfl, rfl⟩
    (go_simp; refine hK _ _ ?_; clear hK K)
    (repeat (first | (refine T_lp rfl (fun K hK => ?_); go_simp; refine hK _ ?_; clear hK K) | (refine T_ls rfl rfl (fun K hK => ?_); go_simp; refine hK _ ?_; clear hK K)))
    (refine T_hv rfl (by kernel_rfl) (fun K hK => ?_); go_simp; refine hK _ _ ?_; clear hK K)
    (repeat (first | (refine T_lp rfl (fun K hK => ?_); go_simp; refine hK _ ?_; clear hK K) | (refine T_ls rfl rfl (fun K hK => ?_); go_simp; refine hK _ ?_; clear hK K)))
    refine T_done ?_
    go_wp2
    go_ret2
    exact ⟨by rw [E.out.1, E.out.2]; rfl, (Below.refl _ _).drew⟩

set_option maxRecDepth 100000 in
set_option maxHeartbeats 4000000 in
theorem specFromWindow5 (B : Nat) (A : Option Addr) (c : Nat) (l : List Int) (w : World) (_hB : B ≤ w.heap.size) (hl : l.length ≤ 1048576) (hr : Rd w B 1 A l.length (l.map I)) :
    Calls Try.prog 29 #[.slice A l.length c, .int .i64 5] w fun e w' => e = .returned (.tuple #[.int .i64 (fwV l 5), .bool (fwB l 5)]) ∧ Below w.heap.size w w' := by
  have H1 := Lib.hid (show inB (5 : Int) 2 6 = true by decide)
  have H := Lib.hid hr
  clear hr
  have ew0 : IntKind.i64.wrap (-15) = -15 := IntWalk.i64_in _ (by omega); have ew1 : IntKind.i64.wrap (4) = 4 := IntWalk.i64_in _ (by omega); have ew2 : IntKind.i64.wrap (15) = 15 := IntWalk.i64_in _ (by omega); have ew3 : IntKind.i64.wrap (16) = 16 := IntWalk.i64_in _ (by omega)
  have ewp : IntKind.i64.wrap ((2 : Int) ^ 4) = 16 := IntWalk.i64_in _ (by decide)
  by_cases hlen : l.length ≤ 24
  · have il : ¬ 24 < (l.length : Int) := by omega
    have HA := Lib.hid (l1All_any B A c l (-15) 15 w.drew (by omega) H.out)
    obtain ⟨g1, hg1⟩ : ∃ g, allB l (-15) 15 = g := ⟨_, rfl⟩
    have EO := Lib.hid (show okA 32 l = (g1 && odB l) by rw [okA_eq (by decide), ← hg1]; rfl)
    rw [hg1] at HA
    clear hg1
    cases g1 with
    | false =>
      have E := Lib.hid (fw_false (l := l) (W := 5) (fwA_o H1.out EO.out))
      go_enter Try.func29, Try.ntmps29
      go_wp2
      refine wp_region_Tw [0, 2, 3, 4, 5, 6, 7, 8, 9, 10, 11, 12, 13, 14, 15, 16, 17, 19, 20] [] (.lp 0 (.hv 1 (.lp 2 (.lp 3 (.lp 4 (.lp 5 (.lp 6 (.lp 7 (.lp 8 (.lp 9 (.lp 10 (.lp 11 (.lp 12 (.lp 13 (.lp 14 (.lp 15 (.lp 16 (.lp 17 (.hv 18 (.lp 19 (.lp 20 (.done)))))))))))))))))))))) (by kernel_rfl) (by kernel_rfl) ?_
      (repeat (first | (refine T_lp rfl (fun K hK => ?_); go_simp; refine hK _ ?_; clear hK K) | (refine T_ls rfl rfl (fun K hK => ?_); go_simp; refine hK _ ?_; clear hK K)))
      (refine T_hv rfl (by kernel_rfl) (fun K hK => ?_); go_simp)
      go_at_call 50
      refine (siWidth_any _ _).mono ?_
      rw [H1.out]
      rintro e w' ⟨rfl, rfl⟩
      (go_simp; refine hK _ _ ?_; clear hK K)
      (repeat (first | (refine T_lp rfl (fun K hK => ?_); go_simp; refine hK _ ?_; clear hK K) | (refine T_ls rfl rfl (fun K hK => ?_); go_simp; refine hK _ ?_; clear hK K)))
      (refine T_hv rfl (by kernel_rfl) (fun K hK => ?_); go_simp)
      go_at_call 63
      refine HA.out.mono ?_
      rintro e w' ⟨rfl, rfl⟩
      (go_simp; refine hK _ _ ?_; clear hK K)
      (repeat (first | (refine T_lp rfl (fun K hK => ?_); go_simp; refine hK _ ?_; clear hK K) | (refine T_ls rfl rfl (fun K hK => ?_); go_simp; refine hK _ ?_; clear hK K)))
      refine T_done ?_
      go_wp2
      go_ret2
      exact ⟨by rw [E.out.1, E.out.2]; rfl, (Below.refl _ _).drew⟩
    | true =>
      have EO := Lib.hid (show okA 32 l = odB l from EO.out)
      go_enter Try.func29, Try.ntmps29
      go_wp2
      refine wp_region_Tw [0, 2, 3, 4, 5, 6, 7, 8, 9, 10, 11, 12, 13, 14, 15, 16, 17, 19, 20] [] (.lp 0 (.hv 1 (.lp 2 (.lp 3 (.lp 4 (.lp 5 (.lp 6 (.lp 7 (.lp 8 (.lp 9 (.lp 10 (.lp 11 (.lp 12 (.lp 13 (.lp 14 (.lp 15 (.lp 16 (.lp 17 (.hv 18 (.lp 19 (.lp 20 (.done)))))))))))))))))))))) (by kernel_rfl) (by kernel_rfl) ?_
      (repeat (first | (refine T_lp rfl (fun K hK => ?_); go_simp; refine hK _ ?_; clear hK K) | (refine T_ls rfl rfl (fun K hK => ?_); go_simp; refine hK _ ?_; clear hK K)))
      (refine T_hv rfl (by kernel_rfl) (fun K hK => ?_); go_simp)
      go_at_call 50
      refine (siWidth_any _ _).mono ?_
      rw [H1.out]
      rintro e w' ⟨rfl, rfl⟩
      (go_simp; refine hK _ _ ?_; clear hK K)
      (repeat (first | (refine T_lp rfl (fun K hK => ?_); go_simp; refine hK _ ?_; clear hK K) | (refine T_ls rfl rfl (fun K hK => ?_); go_simp; refine hK _ ?_; clear hK K)))
      (refine T_hv rfl (by kernel_rfl) (fun K hK => ?_); go_simp)
      go_at_call 63
      refine HA.out.mono ?_
      rintro e w' ⟨rfl, rfl⟩
      (go_simp; refine hK _ _ ?_; clear hK K)
      (repeat (first | (refine T_lp rfl (fun K hK => ?_); go_simp; refine hK _ ?_; clear hK K) | (refine T_ls rfl rfl (fun K hK => ?_); go_simp; refine hK _ ?_; clear hK K)))
      refine T_done ?_
      obtain ⟨w1, hw1⟩ : ∃ w1, w.drew = w1 := ⟨_, rfl⟩
      have HB := Lib.hid (show Below w.heap.size w w1 by rw [← hw1]; exact (Below.refl _ _).drew)
      have H := Lib.hid (show Rd w1 B 1 A l.length (l.map I) by rw [← hw1]; exact H.out)
      rw [hw1]
      clear hw1 HA
      go_wp2
      go_loop [31] (fun i => ∃ k : Nat, k ≤ l.length ∧ i = .int .i64 k ∧ odB (l.take k) = true) (fun i => l.length - (intOf i).toNat)
      case atStart => exact ⟨0, by omega, rfl, rfl⟩
      case round =>
        obtain ⟨k, hk, rfl, hq⟩ := hrel
        by_cases hlt : k < l.length
        · obtain ⟨b, off, rfl, hb, hcell⟩ := H.out.int hlt
          have NX := Lib.hid (odB_take hlt hq)
          have MI := Lib.hid (odB_miss hlt)
          obtain ⟨x, hx⟩ : ∃ x, l[k] = x := ⟨_, rfl⟩
          rw [hx] at hcell NX MI
          clear hx hq
          by_cases h0 : x = 0
          · have i0 : (x != 0) = false := by simp [h0]
            have Q := Lib.hid (show odB (l.take (k + 1)) = true by rw [NX.out]; simp [h0])
            clear h0
            go_wp2
            go_round
            case rel => exact ⟨k + 1, by omega, by go_num, Q.out⟩
            case measure => simp [intOf]; omega
          · have i0 : (x != 0) = true := by simpa using h0
            obtain ⟨g, hg⟩ : ∃ g, decide (x % 2 ≠ 0) = g := ⟨_, rfl⟩
            have O := fun W' => siOdd_any x W'
            rw [hg] at O NX MI
            have O := Lib.hid O
            have X0 := Lib.hid (show (x == 0) = false by simpa using h0)
            clear h0 hg
            cases g with
            | false =>
              have E := Lib.hid (fw_false (l := l) (W := 5) (fwA_o H1.out (EO.out.trans (MI.out (by rw [X0.out]; rfl)))))
              go_wp2_with (go_at_call 64; refine (O.out _).mono ?_; rintro e w' ⟨rfl, rfl⟩)
              go_ret2
              exact ⟨by rw [E.out.1, E.out.2]; rfl, HB.out⟩
            | true =>
              have Q := Lib.hid (show odB (l.take (k + 1)) = true by rw [NX.out]; simp)
              go_wp2_with (go_at_call 64; refine (O.out _).mono ?_; rintro e w' ⟨rfl, rfl⟩)
              go_round
              case rel => exact ⟨k + 1, by omega, by go_num, Q.out⟩
              case measure => simp [intOf]; omega
        · have hod : odB l = true := by rwa [List.take_of_length_le (by omega)] at hq
          have hok := EO.out.trans hod
          have EA := fwA_s H1.out hlen hok
          have HS := Lib.hid (siSum_any B A c l w1 hlen (okA_31 (by simp [TT]) hok) H.out)
          have HP := siApart_any B A c l 5 w1 (by omega) (by omega) H.out
          obtain ⟨g2, hg2⟩ : ∃ g, apS 5 l = g := ⟨_, rfl⟩
          rw [hg2] at EA HP
          have HP := Lib.hid HP
          have EA := Lib.hid EA
          clear hq hod hok hg2
          cases g2 with
          | false =>
            have E := Lib.hid (fw_false EA.out)
            go_wp2_with (go_at_call 61; refine HP.out.mono ?_; rintro e w' ⟨rfl, rfl⟩)
            go_ret2
            exact ⟨by rw [E.out.1, E.out.2]; rfl, HB.out⟩
          | true =>
            have EB := Lib.hid (show fwB l 5 = isN9 (smD l) by unfold fwB; rw [EA.out]; rfl)
            have EV := Lib.hid (show fwV l 5 = cutN (smD l) by unfold fwV cutN; rw [EB.out])
            have HN := fun W => siNumber_any (smD l) W
            have EC := Lib.hid (fun h : isN9 (smD l) = true => (show cutN (smD l) = smD l by unfold cutN; rw [h]; rfl))
            have EC0 := Lib.hid (fun h : isN9 (smD l) = false => (show cutN (smD l) = 0 by unfold cutN; rw [h]; rfl))
            obtain ⟨s, hs⟩ : ∃ s, smD l = s := ⟨_, rfl⟩
            rw [hs] at HS HN EV EB EC EC0
            obtain ⟨g3, hg3⟩ : ∃ g, isN9 s = g := ⟨_, rfl⟩
            rw [hg3] at HN EB EC EC0
            have HN := Lib.hid HN
            clear hs hg3
            cases g3 with
            | false =>
              go_wp2_with (first
                | (go_at_call 61; refine HP.out.mono ?_; rintro e w' ⟨rfl, rfl⟩)
                | (go_at_call 56; refine HS.out.mono ?_; rintro e w' ⟨rfl, rfl⟩)
                | (go_at_call 49; refine (HN.out _).mono ?_; rintro e w' ⟨rfl, rfl⟩))
              go_ret2
              exact ⟨by rw [EV.out, EB.out, EC0.out (by first | rfl | trivial)]; rfl, HB.out⟩
            | true =>
              go_wp2_with (first
                | (go_at_call 61; refine HP.out.mono ?_; rintro e w' ⟨rfl, rfl⟩)
                | (go_at_call 56; refine HS.out.mono ?_; rintro e w' ⟨rfl, rfl⟩)
                | (go_at_call 49; refine (HN.out _).mono ?_; rintro e w' ⟨rfl, rfl⟩))
              go_ret2
              exact ⟨by rw [EV.out, EB.out, EC.out (by first | rfl | trivial)]; rfl, HB.out⟩
  · have il : 24 < (l.length : Int) := by omega
    have E := Lib.hid (fw_false (fwA_l (W := 5) hlen))
    go_enter Try.func29, Try.ntmps29
    go_wp2
    refine wp_region_Tw [0, 2, 3, 4, 5, 6, 7, 8, 9, 10, 11, 12, 13, 14, 15, 16, 17, 19, 20] [] (.lp 0 (.hv 1 (.lp 2 (.lp 3 (.lp 4 (.lp 5 (.lp 6 (.lp 7 (.lp 8 (.lp 9 (.lp 10 (.lp 11 (.lp 12 (.lp 13 (.lp 14 (.lp 15 (.lp 16 (.lp 17 (.hv 18 (.lp 19 (.lp 20 (.done)))))))))))))))))))))) (by kernel_rfl) (by kernel_rfl) ?_
    (repeat (first | (refine T_lp rfl (fun K hK => ?_); go_simp; refine hK _ ?_; clear hK K) | (refine T_ls rfl rfl (fun K hK => ?_); go_simp; refine hK _ ?_; clear hK K)))
    (refine T_hv rfl (by kernel_rfl) (fun K hK => ?_); go_simp)
    go_at_call 50
    refine (siWidth_any _ _).mono ?_
    rw [H1.out]
    rintro e w' ⟨rfl, rfl⟩
    (go_simp; refine hK _ _ ?_; clear hK K)
    (repeat (first | (refine T_lp rfl (fun K hK => ?_); go_simp; refine hK _ ?_; clear hK K) | (refine T_ls rfl rfl (fun K hK => ?_); go_simp; refine hK _ ?_; clear hK K)))
    (refine T_hv rfl (by kernel_rfl) (fun K hK => ?_); go_simp; refine hK _ _ ?_; clear hK K)
    (repeat (first | (refine T_lp rfl (fun K hK => ?_); go_simp; refine hK _ ?_; clear hK K) | (refine T_ls rfl rfl (fun K hK => ?_); go_simp; refine hK _ ?_; clear hK K)))
    refine T_done ?_
    go_wp2
    go_ret2
    exact ⟨by rw [E.out.1, E.out.2]; rfl, (Below.refl _ _).drew⟩

set_option maxRecDepth 100000 in
set_option maxHeartbeats 4000000 in
theorem specFromWindow6 (B : Nat) (A : Option Addr) (c : Nat) (l : List Int) (w : World) (_hB : B ≤ w.heap.size) (hl : l.length ≤ 1048576) (hr : Rd w B 1 A l.length (l.map I)) :
    Calls Try.prog 29 #[.slice A l.length c, .int .i64 6] w fun e w' => e = .returned (.tuple #[.int .i64 (fwV l 6), .bool (fwB l 6)]) ∧ Below w.heap.size w w' := by
  have H1 := Lib.hid (show inB (6 : Int) 2 6 = true by decide)
  have H := Lib.hid hr
  clear hr
  have ew0 : IntKind.i64.wrap (-31) = -31 := IntWalk.i64_in _ (by omega); have ew1 : IntKind.i64.wrap (5) = 5 := IntWalk.i64_in _ (by omega); have ew2 : IntKind.i64.wrap (31) = 31 := IntWalk.i64_in _ (by omega); have ew3 : IntKind.i64.wrap (32) = 32 := IntWalk.i64_in _ (by omega)
  have ewp : IntKind.i64.wrap ((2 : Int) ^ 5) = 32 := IntWalk.i64_in _ (by decide)
  by_cases hlen : l.length ≤ 24
  · have il : ¬ 24 < (l.length : Int) := by omega
    have HA := Lib.hid (l1All_any B A c l (-31) 31 w.drew (by omega) H.out)
    obtain ⟨g1, hg1⟩ : ∃ g, allB l (-31) 31 = g := ⟨_, rfl⟩
    have EO := Lib.hid (show okA 64 l = (g1 && odB l) by rw [okA_eq (by decide), ← hg1]; rfl)
    rw [hg1] at HA
    clear hg1
    cases g1 with
    | false =>
      have E := Lib.hid (fw_false (l := l) (W := 6) (fwA_o H1.out EO.out))
      go_enter Try.func29, Try.ntmps29
      go_wp2
      refine wp_region_Tw [0, 2, 3, 4, 5, 6, 7, 8, 9, 10, 11, 12, 13, 14, 15, 16, 17, 19, 20] [] (.lp 0 (.hv 1 (.lp 2 (.lp 3 (.lp 4 (.lp 5 (.lp 6 (.lp 7 (.lp 8 (.lp 9 (.lp 10 (.lp 11 (.lp 12 (.lp 13 (.lp 14 (.lp 15 (.lp 16 (.lp 17 (.hv 18 (.lp 19 (.lp 20 (.done)))))))))))))))))))))) (by kernel_rfl) (by kernel_rfl) ?_
      (repeat (first | (refine T_lp rfl (fun K hK => ?_); go_simp; refine hK _ ?_; clear hK K) | (refine T_ls rfl rfl (fun K hK => ?_); go_simp; refine hK _ ?_; clear hK K)))
      (refine T_hv rfl (by kernel_rfl) (fun K hK => ?_); go_simp)
      go_at_call 50
      refine (siWidth_any _ _).mono ?_
      rw [H1.out]
      rintro e w' ⟨rfl, rfl⟩
      (go_simp; refine hK _ _ ?_; clear hK K)
      (repeat (first | (refine T_lp rfl (fun K hK => ?_); go_simp; refine hK _ ?_; clear hK K) | (refine T_ls rfl rfl (fun K hK => ?_); go_simp; refine hK _ ?_; clear hK K)))
      (refine T_hv rfl (by kernel_rfl) (fun K hK => ?_); go_simp)
      go_at_call 63
      refine HA.out.mono ?_
      rintro e w' ⟨rfl, rfl⟩
      (go_simp; refine hK _ _ ?_; clear hK K)
      (repeat (first | (refine T_lp rfl (fun K hK => ?_); go_simp; refine hK _ ?_; clear hK K) | (refine T_ls rfl rfl (fun K hK => ?_); go_simp; refine hK _ ?_; clear hK K)))
      refine T_done ?_
      go_wp2
      go_ret2
      exact ⟨by rw [E.out.1, E.out.2]; rfl, (Below.refl _ _).drew⟩
    | true =>
      have EO := Lib.hid (show okA 64 l = odB l from EO.out)
      go_enter Try.func29, Try.ntmps29
      go_wp2
      refine wp_region_Tw [0, 2, 3, 4, 5, 6, 7, 8, 9, 10, 11, 12, 13, 14, 15, 16, 17, 19, 20] [] (.lp 0 (.hv 1 (.lp 2 (.lp 3 (.lp 4 (.lp 5 (.lp 6 (.lp 7 (.lp 8 (.lp 9 (.lp 10 (.lp 11 (.lp 12 (.lp 13 (.lp 14 (.lp 15 (.lp 16 (.lp 17 (.hv 18 (.lp 19 (.lp 20 (.done)))))))))))))))))))))) (by kernel_rfl) (by kernel_rfl) ?_
      (repeat (first | (refine T_lp rfl (fun K hK => ?_); go_simp; refine hK _ ?_; clear hK K) | (refine T_ls rfl rfl (fun K hK => ?_); go_simp; refine hK _ ?_; clear hK K)))
      (refine T_hv rfl (by kernel_rfl) (fun K hK => ?_); go_simp)
      go_at_call 50
      refine (siWidth_any _ _).mono ?_
      rw [H1.out]
      rintro e w' ⟨rfl, rfl⟩
      (go_simp; refine hK _ _ ?_; clear hK K)
      (repeat (first | (refine T_lp rfl (fun K hK => ?_); go_simp; refine hK _ ?_; clear hK K) | (refine T_ls rfl rfl (fun K hK => ?_); go_simp; refine hK _ ?_; clear hK K)))
      (refine T_hv rfl (by kernel_rfl) (fun K hK => ?_); go_simp)
      go_at_call 63
      refine HA.out.mono ?_
      rintro e w' ⟨rfl, rfl⟩
      (go_simp; refine hK _ _ ?_; clear hK K)
      (repeat (first | (refine T_lp rfl (fun K hK => ?_); go_simp; refine hK _ ?_; clear hK K) | (refine T_ls rfl rfl (fun K hK => ?_); go_simp; refine hK _ ?_; clear hK K)))
      refine T_done ?_
      obtain ⟨w1, hw1⟩ : ∃ w1, w.drew = w1 := ⟨_, rfl⟩
      have HB := Lib.hid (show Below w.heap.size w w1 by rw [← hw1]; exact (Below.refl _ _).drew)
      have H := Lib.hid (show Rd w1 B 1 A l.length (l.map I) by rw [← hw1]; exact H.out)
      rw [hw1]
      clear hw1 HA
      go_wp2
      go_loop [31] (fun i => ∃ k : Nat, k ≤ l.length ∧ i = .int .i64 k ∧ odB (l.take k) = true) (fun i => l.length - (intOf i).toNat)
      case atStart => exact ⟨0, by omega, rfl, rfl⟩
      case round =>
        obtain ⟨k, hk, rfl, hq⟩ := hrel
        by_cases hlt : k < l.length
        · obtain ⟨b, off, rfl, hb, hcell⟩ := H.out.int hlt
          have NX := Lib.hid (odB_take hlt hq)
          have MI := Lib.hid (odB_miss hlt)
          obtain ⟨x, hx⟩ : ∃ x, l[k] = x := ⟨_, rfl⟩
          rw [hx] at hcell NX MI
          clear hx hq
          by_cases h0 : x = 0
          · have i0 : (x != 0) = false := by simp [h0]
            have Q := Lib.hid (show odB (l.take (k + 1)) = true by rw [NX.out]; simp [h0])
            clear h0
            go_wp2
            go_round
            case rel => exact ⟨k + 1, by omega, by go_num, Q.out⟩
            case measure => simp [intOf]; omega
          · have i0 : (x != 0) = true := by simpa using h0
            obtain ⟨g, hg⟩ : ∃ g, decide (x % 2 ≠ 0) = g := ⟨_, rfl⟩
            have O := fun W' => siOdd_any x W'
            rw [hg] at O NX MI
            have O := Lib.hid O
            have X0 := Lib.hid (show (x == 0) = false by simpa using h0)
            clear h0 hg
            cases g with
            | false =>
              have E := Lib.hid (fw_false (l := l) (W := 6) (fwA_o H1.out (EO.out.trans (MI.out (by rw [X0.out]; rfl)))))
              go_wp2_with (go_at_call 64; refine (O.out _).mono ?_; rintro e w' ⟨rfl, rfl⟩)
              go_ret2
              exact ⟨by rw [E.out.1, E.out.2]; rfl, HB.out⟩
            | true =>
              have Q := Lib.hid (show odB (l.take (k + 1)) = true by rw [NX.out]; simp)
              go_wp2_with (go_at_call 64; refine (O.out _).mono ?_; rintro e w' ⟨rfl, rfl⟩)
              go_round
              case rel => exact ⟨k + 1, by omega, by go_num, Q.out⟩
              case measure => simp [intOf]; omega
        · have hod : odB l = true := by rwa [List.take_of_length_le (by omega)] at hq
          have hok := EO.out.trans hod
          have EA := fwA_s H1.out hlen hok
          have HS := Lib.hid (siSum_any B A c l w1 hlen (okA_31 (by simp [TT]) hok) H.out)
          have HP := siApart_any B A c l 6 w1 (by omega) (by omega) H.out
          obtain ⟨g2, hg2⟩ : ∃ g, apS 6 l = g := ⟨_, rfl⟩
          rw [hg2] at EA HP
          have HP := Lib.hid HP
          have EA := Lib.hid EA
          clear hq hod hok hg2
          cases g2 with
          | false =>
            have E := Lib.hid (fw_false EA.out)
            go_wp2_with (go_at_call 61; refine HP.out.mono ?_; rintro e w' ⟨rfl, rfl⟩)
            go_ret2
            exact ⟨by rw [E.out.1, E.out.2]; rfl, HB.out⟩
          | true =>
            have EB := Lib.hid (show fwB l 6 = isN9 (smD l) by unfold fwB; rw [EA.out]; rfl)
            have EV := Lib.hid (show fwV l 6 = cutN (smD l) by unfold fwV cutN; rw [EB.out])
            have HN := fun W => siNumber_any (smD l) W
            have EC := Lib.hid (fun h : isN9 (smD l) = true => (show cutN (smD l) = smD l by unfold cutN; rw [h]; rfl))
            have EC0 := Lib.hid (fun h : isN9 (smD l) = false => (show cutN (smD l) = 0 by unfold cutN; rw [h]; rfl))
            obtain ⟨s, hs⟩ : ∃ s, smD l = s := ⟨_, rfl⟩
            rw [hs] at HS HN EV EB EC EC0
            obtain ⟨g3, hg3⟩ : ∃ g, isN9 s = g := ⟨_, rfl⟩
            rw [hg3] at HN EB EC EC0
            have HN := Lib.hid HN
            clear hs hg3
            cases g3 with
            | false =>
              go_wp2_with (first
                | (go_at_call 61; refine HP.out.mono ?_; rintro e w' ⟨rfl, rfl⟩)
                | (go_at_call 56; refine HS.out.mono ?_; rintro e w' ⟨rfl, rfl⟩)
                | (go_at_call 49; refine (HN.out _).mono ?_; rintro e w' ⟨rfl, rfl⟩))
              go_ret2
              exact ⟨by rw [EV.out, EB.out, EC0.out (by first | rfl | trivial)]; rfl, HB.out⟩
            | true =>
              go_wp2_with (first
                | (go_at_call 61; refine HP.out.mono ?_; rintro e w' ⟨rfl, rfl⟩)
                | (go_at_call 56; refine HS.out.mono ?_; rintro e w' ⟨rfl, rfl⟩)
                | (go_at_call 49; refine (HN.out _).mono ?_; rintro e w' ⟨rfl, rfl⟩))
              go_ret2
              exact ⟨by rw [EV.out, EB.out, EC.out (by first | rfl | trivial)]; rfl, HB.out⟩
  · have il : 24 < (l.length : Int) := by omega
    have E := Lib.hid (fw_false (fwA_l (W := 6) hlen))
    go_enter Try.func29, Try.ntmps29
    go_wp2
    refine wp_region_Tw [0, 2, 3, 4, 5, 6, 7, 8, 9, 10, 11, 12, 13, 14, 15, 16, 17, 19, 20] [] (.lp 0 (.hv 1 (.lp 2 (.lp 3 (.lp 4 (.lp 5 (.lp 6 (.lp 7 (.lp 8 (.lp 9 (.lp 10 (.lp 11 (.lp 12 (.lp 13 (.lp 14 (.lp 15 (.lp 16 (.lp 17 (.hv 18 (.lp 19 (.lp 20 (.done)))))))))))))))))))))) (by kernel_rfl) (by kernel_rfl) ?_
    (repeat (first | (refine T_lp rfl (fun K hK => ?_); go_simp; refine hK _ ?_; clear hK K) | (refine T_ls rfl rfl (fun K hK => ?_); go_simp; refine hK _ ?_; clear hK K)))
    (refine T_hv rfl (by kernel_rfl) (fun K hK => ?_); go_simp)
    go_at_call 50
    refine (siWidth_any _ _).mono ?_
    rw [H1.out]
    rintro e w' ⟨rfl, rfl⟩
    (go_simp; refine hK _ _ ?_; clear hK K)
    (repeat (first | (refine T_lp rfl (fun K hK => ?_); go_simp; refine hK _ ?_; clear hK K) | (refine T_ls rfl rfl (fun K hK => ?_); go_simp; refine hK _ ?_; clear hK K)))
    (refine T_hv rfl (by kernel_rfl) (fun K hK => ?_); go_simp; refine hK _ _ ?_; clear hK K)
    (repeat (first | (refine T_lp rfl (fun K hK => ?_); go_simp; refine hK _ ?_; clear hK K) | (refine T_ls rfl rfl (fun K hK => ?_); go_simp; refine hK _ ?_; clear hK K)))
    refine T_done ?_
    go_wp2
    go_ret2
    exact ⟨by rw [E.out.1, E.out.2]; rfl, (Below.refl _ _).drew⟩

theorem specFromWindow_any (B : Nat) (A : Option Addr) (c : Nat) (l : List Int) (W : Int) (w : World) (hB : B ≤ w.heap.size) (hl : l.length ≤ 1048576) (_hcap : l.length ≤ c) (hr : Rd w B 1 A l.length (l.map I)) :
    Calls Try.prog 29 #[.slice A l.length c, .int .i64 W] w fun e w' => e = .returned (.tuple #[.int .i64 (fwV l W), .bool (fwB l W)]) ∧ Below w.heap.size w w' := by
  cases hg : inB W 2 6 with
  | false => exact specFromWindow0 A c l W w hg
  | true =>
    rcases pwT_ok hg with ⟨rfl, _⟩ | ⟨rfl, _⟩ | ⟨rfl, _⟩ | ⟨rfl, _⟩ | ⟨rfl, _⟩
    · exact specFromWindow2 B A c l w hB hl hr
    · exact specFromWindow3 B A c l w hB hl hr
    · exact specFromWindow4 B A c l w hB hl hr
    · exact specFromWindow5 B A c l w hB hl hr
    · exact specFromWindow6 B A c l w hB hl hr
end Go.Proofs.Ytbohakifjmdoiaa
