/- SubtractionChain: of both programs. -/
import Derived.Test.YtbohakifjmdoiaaN9u
import Derived.Test.YtbohakifjmdoiaaN9o
namespace Go.Proofs.Ytbohakifjmdoiaa
open Go.RowKit

set_option maxHeartbeats 1000000 in
theorem implSubtractionChain_any (B : Nat) (n : Int) (w : World) (_ : B ≤ w.heap.size) :
    Calls Try.prog 32 #[.int .i64 n] w fun e w' =>
      ∃ A' c', e = .returned (.tuple #[.slice A' (chR n).length c', .bool (chB n)]) ∧ OwI w' w.heap.size (.slice A' (chR n).length c') (chR n) ∧ Below w.heap.size w w' := by
  cases hg : isNum n with
  | true =>
    have h : 1 ≤ n ∧ n ≤ 1000000 := by simpa [isNum, inB] using hg
    exact implChain_any n w h.1 h.2
  | false =>
    have EB := Lib.hid (show chB n = false by unfold chB; rw [hg]; rfl)
    have ER := Lib.hid (show chR n = [] by unfold chR; rw [EB.out]; rfl)
    have H1 := Lib.hid (fun W => isExponent_any n W)
    rw [hg] at H1
    clear hg
    go_enter Try.func32, Try.ntmps32
    go_wp2_with (go_at_call 67; refine (H1.out _).mono ?_; rintro e w' ⟨rfl, rfl⟩)
    go_ret2
    exact ⟨none, 0, by rw [ER.out, EB.out]; rfl, by rw [ER.out]; exact OwI.nil _ _, Below.refl _ _⟩
theorem bwZ_memk {q : List Int} (h : ∀ d ∈ q, -1 ≤ d ∧ d ≤ 1) : ∀ k, k ≤ q.length → ∀ x ∈ bwZ q k, -1 ≤ x.2 ∧ x.2 ≤ 1 := by
  intro k
  induction k with
  | zero => intro _ x hx; simp [bwZ, bwd] at hx
  | succ k ih =>
    intro hk x hx
    rw [bwZ_next q (by omega)] at hx
    rcases List.mem_append.1 hx with h1 | h1
    · exact ih (by omega) x h1
    · simp at h1
      rw [h1]
      exact h _ (List.getElem_mem _)
theorem sc_bd {q : List Int} (h : ∀ d ∈ q, -1 ≤ d ∧ d ≤ 1) {k : Nat} (hk : k ≤ q.length) (hq : q.length ≤ 28) : (1 ≤ lst (sc (bwZ q k)) ∧ lst (sc (bwZ q k)) ≤ 536870912) ∧ 1 ≤ (sc (bwZ q k)).length ∧ (sc (bwZ q k)).length ≤ 60 := by
  have hb : (bwZ q k).length = k := bwd_length _ _ _
  have h1 := sc_ok (bwZ q k) [1] 0 (by omega) (bwZ_memk h k hk) (by simp) (by simp [lst])
  have h2 := scw_len (bwZ q k)
  have e : scw (bwZ q k) = sc (bwZ q k) := h1.1
  rw [e, hb] at h2
  have h3 := h1.2.2
  have hp : (2 : Int) ^ (0 + (bwZ q k).length + 1) ≤ 536870912 := by
    have h : 2 ^ (0 + (bwZ q k).length + 1) ≤ 2 ^ 29 := Nat.pow_le_pow_right (by omega) (by omega)
    have h' : ((2 ^ (0 + (bwZ q k).length + 1) : Nat) : Int) ≤ 536870912 := by omega
    simpa using h'
  refine ⟨⟨h3.1, ?_⟩, h2.1, by omega⟩
  have := h3.2
  unfold sc
  omega

set_option maxRecDepth 100000 in
set_option maxHeartbeats 8000000 in
theorem siChain_any (n : Int) (w : World) (hn1 : 1 ≤ n) (hn : n ≤ 1000000) :
    Calls Try.prog 66 #[.int .i64 n] w fun e w' =>
      ∃ A c, e = .returned (.slice A (chF n).length c) ∧ OwI w' w.heap.size (.slice A (chF n).length c) (chF n) ∧ Below w.heap.size w w' := by
  have hD := siWindow2 n w (by omega) hn
  have hDl := wnD_len28 (T := 4) (n := n) (.inl rfl) (by omega)
  obtain ⟨q, dl, eq, _, _⟩ := wnD_split hn1
  have ECF := Lib.hid (chF_q eq)
  have hmem := wnD_mem4 n.natAbs n (Nat.le_refl _)
  rw [eq] at hmem
  have HQM := Lib.hid (show ∀ d ∈ q, -1 ≤ d ∧ d ≤ 1 from fun d hd => hmem d (by simp [hd]))
  obtain ⟨T, hT⟩ : ∃ T, q.length = T := ⟨_, rfl⟩
  have hDT : (q ++ [dl]).length = T + 1 := by rw [List.length_append, hT]; rfl
  rw [eq] at hD hDl
  rw [hDT] at hD hDl
  have HD := Lib.hid hD
  have QT := Lib.hid hT
  have QL := Lib.hid hDT
  have hT28 : T ≤ 27 := by omega
  clear hD eq hT hDT hDl hn1 hn hmem
  go_enter Try.func66, Try.ntmps66
  go_wp2_with fail
  go_at_call 51
  refine HD.out.mono ?_
  rintro e w2 ⟨A, c, rfl, ho2, hb2⟩
  have hcap : T + 1 ≤ c := by have := ho2.cap; rw [QL.out] at this; exact this
  have HRQ := Lib.hid (show Rd w2 w2.heap.size 1 A (q ++ [dl]).length ((q ++ [dl]).map I) from ho2.rd' QL.out)
  have XB := Lib.hid hb2
  have hs2 := hb2.size
  have LIT := Lib.hid (own_lit9 w2 1)
  have LB := Lib.hid ((Below.refl w2.heap.size w2).alloc (Nat.le_refl _) (.cells #[.int .i64 1] 3))
  clear ho2 hb2
  go_wp2
  go_loopw [4, 5, 6] (fun ov nv iv wr => ∃ (k : Nat) (A1 : Option Addr) (c1 : Nat), k ≤ T ∧ iv = .int .i64 ((T : Int) - 1 - (k : Int)) ∧ nv = .int .i64 (lst (sc (bwZ q k))) ∧ ov = .slice A1 (sc (bwZ q k)).length c1 ∧ OwI wr w2.heap.size (.slice A1 (sc (bwZ q k)).length c1) (sc (bwZ q k)) ∧ Below w2.heap.size w2 wr) (fun _ _ iv _ => (intOf iv + 1).toNat)
  case atStart => exact ⟨0, _, _, by omega, by simp; omega, rfl, rfl, LIT.out, LB.out⟩
  case round =>
    obtain ⟨k, A1, c1, hk, rfl, rfl, rfl, hown, hbel⟩ := hrel
    have hs := hbel.size
    have BEL := Lib.hid hbel
    have OWN := Lib.hid hown
    have hbd := sc_bd HQM.out (k := k) (by rw [QT.out]; exact hk) (by rw [QT.out]; omega)
    clear hbel hown
    by_cases hlt : k < T
    · obtain ⟨p, hp⟩ : ∃ p : Nat, T - 1 - k = p := ⟨_, rfl⟩
      have ep : (T : Int) - 1 - (k : Int) = (p : Int) := by omega
      have hlt' : k < q.length := by rw [QT.out]; exact hlt
      have hpq : p < (q ++ [dl]).length := by rw [QL.out]; omega
      have hpq' : p < q.length := by rw [QT.out]; omega
      obtain ⟨b, off, eA, hbb, hcell⟩ := (HRQ.out.below' BEL.out (Nat.le_refl _)).int hpq
      have ST := Lib.hid (show sc (bwZ q (k + 1)) = scS (sc (bwZ q k)) (p, q[p]) by
        rw [bwZ_next q hlt', sc_snoc]
        have e : q.length - 1 - k = p := by rw [QT.out, hp]
        congr 2
        simp only [e])
      have hdr := HQM.out _ (List.getElem_mem hpq')
      rw [List.getElem_append_left hpq'] at hcell
      obtain ⟨d, hd⟩ : ∃ d, q[p] = d := ⟨_, rfl⟩
      rw [hd] at hcell ST hdr
      obtain ⟨z, hz⟩ : ∃ z, sc (bwZ q k) = z := ⟨_, rfl⟩
      rw [hz] at ST OWN hbd ⊢
      obtain ⟨L, hL⟩ : ∃ L, z.length = L := ⟨_, rfl⟩
      have HL := Lib.hid hL
      rw [hL] at OWN hbd ⊢
      obtain ⟨m, hm⟩ : ∃ m, lst z = m := ⟨_, rfl⟩
      have EM := Lib.hid hm
      rw [hm] at hbd ⊢
      obtain ⟨⟨hb1, hb2⟩, hb3, hb4⟩ := hbd
      obtain ⟨hd1, hd2⟩ := hdr
      rw [ep]
      have ip0 : (0 : Int) ≤ (p : Int) := by omega
      have ipT : (p : Int) < (T : Int) + 1 := by omega
      have NP := Lib.hid (show (p : Int) - 1 = (T : Int) - 1 - ((k + 1 : Nat) : Int) by omega)
      obtain ⟨D, hD⟩ : ∃ D, 2 * m = D := ⟨_, rfl⟩
      have e0 : m * 2 = D := by omega
      have hDb : 2 ≤ D ∧ D ≤ 1073741824 := by omega
      obtain ⟨hDb1, hDb2⟩ := hDb
      have e1 : wrap64 D = D := IntWalk.wrap64_in _ (by omega)
      have e2 : IntKind.i64.wrap D = D := IntWalk.i64_in _ (by omega)
      have ED := Lib.hid hD
      have S1 := Lib.hid (lst_snoc z D)
      have HZL := Lib.hid (show (z ++ [D]).length = L + 1 by rw [List.length_append, HL.out]; rfl)
      subst eA
      clear hz hd hp ep hpq hpq' hlt' hL hm hD
      by_cases h0 : d = 0
      · have i1 : (d != 0) = false := by simpa using h0
        have EN := Lib.hid (show sc (bwZ q (k + 1)) = z ++ [D] by rw [ST.out]; unfold scS; rw [if_pos h0, EM.out, ED.out])
        clear h0
        have NPA := Lib.hid (fun W (hW : Below w2.heap.size w2 W) => (HRQ.out.below' hW (Nat.le_refl _)))
        go_wp2_with (at_builtin; refine list_step (fun K hK => ?_); refine step_app_int rfl (.tmp 19) (.tmp 21) rfl w2.heap.size L _ z rfl (OWN.out.alloc _) HL.out wr.heap.size 1 D rfl (by simp) (by omega) (by simp; omega) ?_; intro A3 c3 w3 hown3 hg3 hbel3; have hB3 := (BEL.out.alloc hs _).trans hbel3; have hc3 := ((((Below.refl w2.heap.size wr).alloc hs _).trans hbel3).cell (p := ⟨b, off + p, none⟩) hbb).trans hcell; have O3 := Lib.hid hown3; have B3 := Lib.hid hB3; clear hown3 hg3 hbel3 hB3; go_simp; refine hK _ _ ?_; clear hK K)
        go_roundw
        case rel => exact ⟨k + 1, A3, c3, by omega, by rw [NP.out], by rw [EN.out, S1.out], by rw [EN.out, HZL.out], by rw [EN.out, HZL.out]; exact O3.out, B3.out⟩
        case measure => simp [intOf]
      · have i1 : (d != 0) = true := by simpa using h0
        obtain ⟨E, hE⟩ : ∃ E, D + d = E := ⟨_, rfl⟩
        have e3 : wrap64 E = E := IntWalk.wrap64_in _ (by omega)
        have e4 : IntKind.i64.wrap E = E := IntWalk.i64_in _ (by omega)
        have EN := Lib.hid (show sc (bwZ q (k + 1)) = z ++ [D] ++ [E] by rw [ST.out]; unfold scS; rw [if_neg h0, EM.out, ED.out]; simp only [hE])
        have S2 := Lib.hid (lst_snoc (z ++ [D]) E)
        have HZ2 := Lib.hid (show (z ++ [D] ++ [E]).length = L + 2 by rw [List.length_append, HZL.out]; rfl)
        clear h0
        go_wp2_with (first
          | (at_builtin; refine list_step (fun K hK => ?_); refine step_app_int rfl (.tmp 19) (.tmp 21) rfl w2.heap.size L _ z rfl (OWN.out.alloc _) HL.out wr.heap.size 1 D rfl (by simp) (by omega) (by simp; omega) ?_; intro A3 c3 w3 hown3 hg3 hbel3; have hB3 := (BEL.out.alloc hs _).trans hbel3; have hc3 := ((((Below.refl w2.heap.size wr).alloc hs _).trans hbel3).cell (p := ⟨b, off + p, none⟩) hbb).trans hcell; have hs3 := hB3.size; have O3 := Lib.hid hown3; have B3 := Lib.hid hB3; clear hown3 hg3 hbel3 hB3; go_simp; refine hK _ _ ?_; clear hK K)
          | (at_builtin; refine list_step (fun K hK => ?_); refine step_app_int rfl (.tmp 34) (.tmp 36) rfl w2.heap.size (L + 1) _ (z ++ [D]) rfl (O3.out.alloc _) HZL.out w3.heap.size 1 E rfl (by simp) (by omega) (by simp; omega) ?_; intro A5 c5 w5 hown5 hg5 hbel5; have O5 := Lib.hid hown5; have B5 := Lib.hid ((B3.out.alloc hs3 _).trans hbel5); clear hown5 hg5 hbel5; go_simp; refine hK _ _ ?_; clear hK K))
        go_roundw
        case rel => exact ⟨k + 1, A5, c5, by omega, by rw [NP.out], by rw [EN.out, S2.out], by rw [EN.out, HZ2.out], by rw [EN.out, HZ2.out]; exact O5.out, B5.out⟩
        case measure => simp [intOf]
    · have hk' : k = T := by omega
      subst hk'
      have ip : ¬ (0 : Int) ≤ (k : Int) - 1 - (k : Int) := by omega
      have E := Lib.hid (show chF n = sc (bwZ q k) by rw [ECF.out, QT.out])
      go_wp2
      go_ret
      exact ⟨A1, c1, by rw [E.out]; rfl, by rw [E.out]; exact OWN.out.base hs2, XB.out.trans (BEL.out.mono hs2)⟩

set_option maxHeartbeats 1000000 in
theorem specSubtractionChain_any (B : Nat) (n : Int) (w : World) (_ : B ≤ w.heap.size) :
    Calls Try.prog 31 #[.int .i64 n] w fun e w' =>
      ∃ A' c', e = .returned (.tuple #[.slice A' (chR n).length c', .bool (chB n)]) ∧ OwI w' w.heap.size (.slice A' (chR n).length c') (chR n) ∧ Below w.heap.size w w' := by
  obtain ⟨g1, h1⟩ : ∃ g, inB n 1 1000000 = g := ⟨_, rfl⟩
  have L1 := Lib.hid (fun W => (show Calls Try.prog 65 #[.int .i64 n, .int .i64 1, .int .i64 1000000] W fun e w' => e = .returned (.bool g1) ∧ W = w' by rw [← h1]; exact l1In_any _ _ _ _))
  have EB := Lib.hid (show chB n = (g1 && allB (chF n) 1 1000000) by unfold chB isNum; rw [h1])
  cases g1 with
  | false =>
    have ER := Lib.hid (show chR n = [] by unfold chR; rw [EB.out]; rfl)
    clear h1
    go_enter Try.func31, Try.ntmps31
    go_wp2_with (go_at_call 65; refine (L1.out _).mono ?_; rintro e w' ⟨rfl, rfl⟩)
    go_ret2
    exact ⟨none, 0, by rw [ER.out, EB.out]; rfl, by rw [ER.out]; exact OwI.nil _ _, Below.refl _ _⟩
  | true =>
    have hr : 1 ≤ n ∧ n ≤ 1000000 := by simpa [inB] using h1
    have SC := Lib.hid (siChain_any n w hr.1 hr.2)
    have hlen := chR_len n h1
    obtain ⟨g2, h2⟩ : ∃ g, allB (chF n) 1 1000000 = g := ⟨_, rfl⟩
    have EB := Lib.hid (show chB n = g2 by rw [EB.out, h2]; rfl)
    have LA := Lib.hid (fun A c W (h : Rd W W.heap.size 1 A (chF n).length ((chF n).map I)) => (show Calls Try.prog 63 #[.slice A (chF n).length c, .int .i64 1, .int .i64 1000000] W fun e w' => e = .returned (.bool g2) ∧ W = w' by rw [← h2]; exact l1All_any W.heap.size A c (chF n) 1 1000000 W (by omega) h))
    obtain ⟨z, hz⟩ : ∃ z, chF n = z := ⟨_, rfl⟩
    have ER := Lib.hid (show chR n = if g2 then z else [] by unfold chR; rw [EB.out, hz])
    rw [hz] at SC LA hlen
    clear h1 h2 hz hr
    cases g2 with
    | false =>
      go_enter Try.func31, Try.ntmps31
      go_wp2_with fail
      go_at_call 65
      refine (L1.out _).mono ?_
      rintro e w' ⟨rfl, rfl⟩
      go_wp2_with fail
      go_at_call 66
      refine SC.out.mono ?_
      rintro e w2 ⟨A, c, rfl, ho, hb⟩
      have LA2 := Lib.hid (LA.out A c w2 ho.rd)
      go_wp2_with fail
      go_at_call 63
      refine LA2.out.mono ?_
      rintro e w' ⟨rfl, rfl⟩
      go_wp2
      go_ret2
      exact ⟨none, 0, by rw [ER.out, EB.out]; rfl, by rw [ER.out]; exact OwI.nil _ _, hb⟩
    | true =>
      go_enter Try.func31, Try.ntmps31
      go_wp2_with fail
      go_at_call 65
      refine (L1.out _).mono ?_
      rintro e w' ⟨rfl, rfl⟩
      go_wp2_with fail
      go_at_call 66
      refine SC.out.mono ?_
      rintro e w2 ⟨A, c, rfl, ho, hb⟩
      have LA2 := Lib.hid (LA.out A c w2 ho.rd)
      have HO := Lib.hid ho
      clear ho
      go_wp2_with fail
      go_at_call 63
      refine LA2.out.mono ?_
      rintro e w' ⟨rfl, rfl⟩
      go_wp2
      go_ret2
      exact ⟨A, c, by rw [ER.out, EB.out]; rfl, by rw [ER.out]; exact HO.out, hb⟩
end Go.Proofs.Ytbohakifjmdoiaa
