/- RunAdders: of both programs. -/
import Derived.Test.YtbohakifjmdoiaaN9j
namespace Go.Proofs.Ytbohakifjmdoiaa
open Go.RowKit

theorem raR_false {l : List Ad} {x : Int} (h : raB l x = false) : raR l x = [] := by unfold raR; rw [h]; rfl
theorem raR_true {l : List Ad} {x : Int} (h : raB l x = true) : raR l x = vls x l := by unfold raR; rw [if_pos h]
theorem adOk_parts {l : List Ad} (h : adOk l = true) : l.length ≤ 24 ∧ adK l l.length = true := by
  unfold adOk at h
  simp only [Bool.and_eq_true, decide_eq_true_eq] at h
  exact h
theorem mul_bd9 {u x M : Int} (h : -M ≤ u ∧ u ≤ M) (hM : 0 ≤ M) (hx : -1000 ≤ x ∧ x ≤ 1000) : -(M * 1000) ≤ u * x ∧ u * x ≤ M * 1000 := by
  have h1 : (u * x).natAbs = u.natAbs * x.natAbs := Int.natAbs_mul u x
  have h2 : u.natAbs * x.natAbs ≤ M.toNat * 1000 := Nat.mul_le_mul (by omega) (by omega)
  omega
theorem ra_bd {l : List Ad} {x : Int} (h : adOk l = true) (hx : -1000 ≤ x ∧ x ≤ 1000) (k : Nat) (hk : k < l.length) : okB k l[k] = true ∧ (∀ v ∈ vls x (l.take k), -4294967296 ≤ v ∧ v ≤ 4294967296) := by
  obtain ⟨h1, h2⟩ := adOk_parts h
  have hk1 := adK_mono h2 (k + 1) (by omega)
  have hk0 := adK_mono h2 k (by omega)
  rw [adK_succ hk] at hk1
  simp only [Bool.and_eq_true] at hk1
  refine ⟨hk1.2.1, fun v hv => ?_⟩
  rw [vls_map x k (by omega) hk0] at hv
  obtain ⟨u, hu, rfl⟩ := List.mem_map.1 hv
  have hb := adK_bd k (by omega) hk0 u hu
  have := mul_bd9 (u := u) (M := 2097152) ⟨by omega, by omega⟩ (by omega) hx
  omega

set_option maxHeartbeats 2000000 in
theorem specRunAdders_any (B : Nat) (A : Option Addr) (c : Nat) (l : List Ad) (x : Int) (w : World) (hB : B ≤ w.heap.size) (hl : l.length ≤ 1048576) (hcap : l.length ≤ c) (hr : RdA w B A l) :
    Calls Try.prog 43 #[.slice A l.length c, .int .i64 x] w fun e w' =>
      ∃ A' c', e = .returned (.tuple #[.slice A' (raR l x).length c', .bool (raB l x)]) ∧ OwI w' w.heap.size (.slice A' (raR l x).length c') (raR l x) ∧ Below w.heap.size w w' := by
  have SA := Lib.hid (siAdders_any B A c l w hB hl hcap hr)
  have H := Lib.hid hr
  obtain ⟨g1, h1⟩ : ∃ g, adOk l = g := ⟨_, rfl⟩
  obtain ⟨g2, h2⟩ : ∃ g, inB x (-1000) 1000 = g := ⟨_, rfl⟩
  have EB := Lib.hid (show raB l x = (g1 && g2) by unfold raB; rw [h1, h2])
  have H2 := Lib.hid (fun W => l1In_any x (-1000) 1000 W)
  rw [h2] at H2
  have SA := Lib.hid (show Calls Try.prog 76 #[.slice A l.length c] w fun e w' => e = .returned (.bool g1) ∧ Below w.heap.size w w' by rw [← h1]; exact SA.out)
  clear hr
  cases g1 with
  | false =>
    have ER := Lib.hid (raR_false EB.out)
    clear h1 h2
    go_enter Try.func43, Try.ntmps43
    go_wp2_with (go_at_call 76; refine SA.out.mono ?_; rintro e w2 ⟨rfl, hb⟩)
    go_ret2
    exact ⟨none, 0, by rw [ER.out, EB.out]; rfl, by rw [ER.out]; exact OwI.nil _ _, hb⟩
  | true =>
  cases g2 with
  | false =>
    have ER := Lib.hid (raR_false EB.out)
    clear h1 h2
    go_enter Try.func43, Try.ntmps43
    go_wp2_with (first
      | (go_at_call 76; refine SA.out.mono ?_; rintro e w2 ⟨rfl, hb⟩)
      | (go_at_call 65; refine (H2.out _).mono ?_; rintro e w' ⟨rfl, rfl⟩))
    go_ret2
    exact ⟨none, 0, by rw [ER.out, EB.out]; rfl, by rw [ER.out]; exact OwI.nil _ _, hb⟩
  | true =>
    have ER := Lib.hid (raR_true EB.out)
    have OV := Lib.hid (ra_bd (x := x) h1 (inB_iff.1 h2))
    have hlen := (adOk_parts h1).1
    clear h1 h2
    go_enter Try.func43, Try.ntmps43
    go_wp2_with fail
    go_at_call 76
    refine SA.out.mono ?_
    rintro e w2 ⟨rfl, hb⟩
    have s2 := hb.size
    have SV := Lib.hid (siValues_any B A c l x w2 (by omega) hlen OV.out (H.out.below' hb hB))
    have HB := Lib.hid hb
    clear hb
    go_wp2_with fail
    go_at_call 65
    refine (H2.out _).mono ?_
    rintro e w' ⟨rfl, rfl⟩
    go_wp2_with fail
    go_at_call 79
    refine SV.out.mono ?_
    rintro e w3 ⟨A3, c3, rfl, ho3, hb3⟩
    have O3 := Lib.hid (show OwI w3 w.heap.size (.slice A3 (vls x l).length c3) (vls x l) from own_base ho3 s2)
    have HB3 := Lib.hid (HB.out.trans (hb3.mono s2))
    clear ho3 hb3
    go_wp2
    go_ret2
    exact ⟨A3, c3, by rw [ER.out, EB.out]; rfl, by rw [ER.out]; exact O3.out, HB3.out⟩

set_option maxRecDepth 100000 in
set_option maxHeartbeats 4000000 in
theorem implRunAdders_any (B : Nat) (A : Option Addr) (c : Nat) (l : List Ad) (x : Int) (w : World) (hB : B ≤ w.heap.size) (hl : l.length ≤ 1048576) (_hcap : l.length ≤ c) (hr : RdA w B A l) :
    Calls Try.prog 44 #[.slice A l.length c, .int .i64 x] w fun e w' =>
      ∃ A' c', e = .returned (.tuple #[.slice A' (raR l x).length c', .bool (raB l x)]) ∧ OwI w' w.heap.size (.slice A' (raR l x).length c') (raR l x) ∧ Below w.heap.size w w' := by
  have MM := multiplesOf_any B A c l w hB hl hr
  obtain ⟨g1, h1⟩ : ∃ g, adOk l = g := ⟨_, rfl⟩
  have EB := Lib.hid (show raB l x = (g1 && (decide (-1000 ≤ x) && decide (x ≤ 1000))) by unfold raB inB; rw [h1])
  rw [h1] at MM
  have BD := Lib.hid (fun (h : g1 = true) => (show ∀ v ∈ mlR l, -2097152 ≤ v ∧ v ≤ 2097152 from by
    have h' : adOk l = true := h1.trans h
    rw [mlR_true h']
    have := adK_bd l.length (Nat.le_refl _) (adOk_parts h').2
    rwa [List.take_length] at this))
  have EM := Lib.hid (fun (h : g1 = true) => (show vls x l = (mlR l).map (· * x) from by
    have h' : adOk l = true := h1.trans h
    rw [mlR_true h']
    exact raR_map x h'))
  have hml := mlR_len l
  obtain ⟨ms, hms⟩ : ∃ ms, mlR l = ms := ⟨_, rfl⟩
  rw [hms] at MM BD EM hml
  have MM := Lib.hid MM
  clear hr h1 hms
  cases g1 with
  | false =>
    have ER := Lib.hid (raR_false EB.out)
    go_enter Try.func44, Try.ntmps44
    go_wp2_with (go_at_call 78; refine MM.out.mono ?_; rintro e w2 ⟨A2, c2, rfl, ho, hb⟩)
    go_ret2
    exact ⟨none, 0, by rw [ER.out, EB.out]; rfl, by rw [ER.out]; exact OwI.nil _ _, hb⟩
  | true =>
  have BD2 := Lib.hid (BD.out rfl)
  have EM2 := Lib.hid (EM.out rfl)
  clear BD EM
  by_cases hx1 : x < -1000
  · have EB := Lib.hid (show raB l x = false by rw [EB.out, decide_eq_false (by omega)]; rfl)
    have ER := Lib.hid (raR_false EB.out)
    go_enter Try.func44, Try.ntmps44
    go_wp2_with (go_at_call 78; refine MM.out.mono ?_; rintro e w2 ⟨A2, c2, rfl, ho, hb⟩)
    go_ret2
    exact ⟨none, 0, by rw [ER.out, EB.out]; rfl, by rw [ER.out]; exact OwI.nil _ _, hb⟩
  by_cases hx2 : 1000 < x
  · have EB := Lib.hid (show raB l x = false by rw [EB.out, decide_eq_false (show ¬ x ≤ 1000 by omega)]; simp)
    have ER := Lib.hid (raR_false EB.out)
    go_enter Try.func44, Try.ntmps44
    go_wp2_with (go_at_call 78; refine MM.out.mono ?_; rintro e w2 ⟨A2, c2, rfl, ho, hb⟩)
    go_ret2
    exact ⟨none, 0, by rw [ER.out, EB.out]; rfl, by rw [ER.out]; exact OwI.nil _ _, hb⟩
  have EB := Lib.hid (show raB l x = true by rw [EB.out, decide_eq_true (show -1000 ≤ x by omega), decide_eq_true (show x ≤ 1000 by omega)]; rfl)
  have ER := Lib.hid ((raR_true EB.out).trans EM2.out)
  go_enter Try.func44, Try.ntmps44
  go_wp2_with (go_at_call 78; refine MM.out.mono ?_; rintro e w2 ⟨A2, c2, rfl, ho, hb⟩)
  have s2 := hb.size
  have H := Lib.hid (ho.rd)
  have HB := Lib.hid hb
  clear ho hb
  go_loopw [8, 28] (fun mv iv wr => ∃ (k : Nat) (A1 : Option Addr) (c1 : Nat), k ≤ ms.length ∧ iv = .int .i64 (k : Int) ∧ mv = .slice A1 k c1 ∧ OwI wr w2.heap.size (.slice A1 k c1) ((ms.take k).map (· * x)) ∧ Below w2.heap.size w2 wr) (fun _ iv _ => ms.length - (intOf iv).toNat)
  case atStart => exact ⟨0, _, _, by omega, rfl, rfl, OwI.nil _ _, Below.refl _ _⟩
  case round =>
    obtain ⟨k, A1, c1, hk, rfl, rfl, hown, hbel⟩ := hrel
    have hs := hbel.size
    have BEL := Lib.hid hbel
    have OWN := Lib.hid hown
    have HL := Lib.hid (show ((ms.take k).map (· * x)).length = k by rw [List.length_map, List.length_take]; omega)
    clear hown hbel
    by_cases hlt : k < ms.length
    · obtain ⟨b, off, rfl, hbb, hc⟩ := (H.out.below' BEL.out (Nat.le_refl _)).int hlt
      have hbd := BD2.out _ (List.getElem_mem hlt)
      have ET := Lib.hid (show (ms.take (k + 1)).map (· * x) = (ms.take k).map (· * x) ++ [ms[k] * x] by rw [List.take_succ_eq_append_getElem hlt, List.map_append]; rfl)
      obtain ⟨u, hu⟩ : ∃ u, ms[k] = u := ⟨_, rfl⟩
      rw [hu] at hc hbd ET
      have hp := mul_bd9 (u := u) (x := x) (M := 2097152) ⟨by omega, by omega⟩ (by omega) ⟨by omega, by omega⟩
      obtain ⟨P, hP⟩ : ∃ P, u * x = P := ⟨_, rfl⟩
      rw [hP] at hp ET
      have e1 : wrap64 (u * x) = P := by rw [hP]; exact IntWalk.wrap64_in _ (by omega)
      have e2 : IntKind.i64.wrap (u * x) = P := by rw [hP]; exact IntWalk.i64_in _ (by omega)
      have ik : (k : Int) < (ms.length : Int) := by omega
      clear hu hP
      go_wp2_with (at_builtin; refine list_step (fun K hK => ?_); refine step_app_int rfl (.tmp 32) (.tmp 36) rfl w2.heap.size k _ ((ms.take k).map (· * x)) rfl (OWN.out.alloc _) HL.out wr.heap.size 1 P rfl (by simp) (by omega) (by simp; omega) ?_; intro A3 c3 w4 hown4 hg4 hbel4; go_simp; refine hK _ _ ?_; clear hK K)
      go_roundw
      case rel =>
        exact ⟨k + 1, A3, c3, by omega, by go_num, rfl, by rw [ET.out]; exact hown4, (BEL.out.alloc hs _).trans hbel4⟩
      case measure => simp [intOf]; omega
    · have hk' : k = ms.length := by omega
      subst hk'
      have EL := Lib.hid (show (raR l x).length = ms.length by rw [ER.out, List.length_map])
      have ik : ¬ (ms.length : Int) < (ms.length : Int) := by omega
      go_wp2
      go_ret2
      exact ⟨A1, c1, by rw [EL.out, EB.out]; rfl, by rw [EL.out, ER.out]; have := own_base OWN.out s2; rwa [List.take_length] at this, HB.out.trans (BEL.out.mono s2)⟩
end Go.Proofs.Ytbohakifjmdoiaa
