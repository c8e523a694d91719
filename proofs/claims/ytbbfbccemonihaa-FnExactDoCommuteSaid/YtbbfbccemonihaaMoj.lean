/- Plans run on residues, by the model. -/
import Derived.Test.YtbbfbccemonihaaMod
import Derived.Test.YtbbfbccemonihaaAp
import Derived.Test.YtbbfbccemonihaaFa
namespace Go.Proofs.Ytbbfbccemonihaa
open Go.RowKit

theorem outs_take (l o : List Int) {k : Nat} (hk : k < o.length) {v : Nat} (hv : o[k] = (v : Int)) (hl : v < l.length) : outs 0 l (o.take (k + 1)) = outs 0 l (o.take k) ++ [l[v]] := by
  unfold outs
  rw [List.take_succ_eq_append_getElem hk, List.map_append, hv]
  simp [hl]

set_option maxRecDepth 100000 in
set_option maxHeartbeats 2000000 in
theorem moPick_any (B : Nat) (A A' : Option Addr) (c c' : Nat) (l o : List Int) (w : World) (hl : o.length ≤ 1000) (hB : B ≤ w.heap.size) (hin : ∀ x ∈ o, 0 ≤ x ∧ x < l.length) (hr : Rd w B 1 A l.length (l.map I)) (hr' : Rd w B 1 A' o.length (o.map I)) :
    Calls Try.prog 62 #[.slice A l.length c, .slice A' o.length c'] w fun e w' => ∃ A2 c2, e = .returned (.slice A2 o.length c2) ∧ OwI w' w.heap.size (.slice A2 o.length c2) (outs 0 l o) ∧ Below w.heap.size w w' := by
  have H := Lib.hid hr
  have H' := Lib.hid hr'
  have HIN := Lib.hid hin
  clear hr hr' hin
  go_enter Try.func62, Try.ntmps62
  go_wp2
  go_loopw [5, 10] (fun ov iv wr => ∃ (k : Nat) (A1 : Option Addr) (c1 : Nat), k ≤ o.length ∧ iv = .int .i64 (k : Int) ∧ ov = .slice A1 k c1 ∧ OwI wr w.heap.size ov (outs 0 l (o.take k)) ∧ Below w.heap.size w wr) (fun _ iv _ => o.length - (intOf iv).toNat)
  case atStart => exact ⟨0, none, 0, by omega, rfl, rfl, OwI.nil _ _, Below.refl _ _⟩
  case round =>
    obtain ⟨k, A1, c1, hk, rfl, rfl, hown, hbel⟩ := hrel
    have OWN := Lib.hid hown
    have BEL := Lib.hid hbel
    have hs := hbel.size
    by_cases hlt : k < o.length
    · obtain ⟨ob, oo, rfl, hob, hoc⟩ := (H'.out.below' hbel hB).int hlt
      obtain ⟨q1, q2⟩ := HIN.out _ (List.getElem_mem hlt)
      obtain ⟨v, hv⟩ : ∃ v : Nat, o[k] = v := ⟨(o[k]).toNat, by omega⟩
      rw [hv] at hoc q2
      have hvl : v < l.length := by omega
      obtain ⟨nb, no, rfl, hnb, hnc⟩ := (H.out.below' hbel hB).int hvl
      have E1 := Lib.hid (outs_take l o hlt hv hvl)
      have EL := Lib.hid (show (outs 0 l (o.take k)).length = k by rw [outs_len, List.length_take]; omega)
      obtain ⟨u, hu⟩ : ∃ u, l[v] = u := ⟨_, rfl⟩
      rw [hu] at hnc E1
      have ik : (k : Int) < (o.length : Int) := by omega
      have iv : (v : Int) < (l.length : Int) := by omega
      clear hu hv q1 q2 hown hbel hvl
      go_wp2_with (at_builtin; refine list_step (fun K hK => ?_); refine step_app_int rfl (.tmp 14) (.tmp 19) rfl w.heap.size k _ (outs 0 l (o.take k)) rfl (OWN.out.alloc _) EL.out wr.heap.size 1 u rfl (by simp) (by omega) (by simp; omega) ?_; intro A3 c3 w3 hown3 hg3 hbel3; go_simp; refine hK _ _ ?_; clear hK K)
      go_roundw
      case rel => exact ⟨k + 1, A3, c3, by omega, by go_num, rfl, by rw [E1.out]; exact hown3, (BEL.out.alloc hs _).trans hbel3⟩
      case measure => simp [intOf]; omega
    · have hk' : k = o.length := by omega
      subst hk'
      rw [List.take_of_length_le (Nat.le_refl _)] at OWN
      clear hown hbel
      go_wp2
      go_ret
      exact ⟨A1, c1, rfl, OWN.out, BEL.out⟩

theorem getD_at {l : List Int} {i : Nat} (h : i < l.length) : l.getD i 0 = l[i] := by simp [h]

set_option maxRecDepth 100000 in
set_option maxHeartbeats 4000000 in
theorem moResidues_any (B N M : Nat) (A1 A2 : Option Addr) (c1 c2 : Nat) (p : Pl) (AL : Option Addr) (cl : Nat) (l V : List Int) (w : World) (hs40 : p.s.length ≤ 40) (hB : B ≤ w.heap.size) (n2 : 2 ≤ M) (n4 : M ≤ 10000) (hl : l.length = N) (hN : N ≤ 6)
    (hok : OkS N p.s) (hall : ∀ x ∈ l, inR M x = true) (hV : runG (inR M) (mulR M) 0 l p.s = some V) (hr : RdP w B A1 A2 p) (hrl : Rd w B 1 AL l.length (l.map I)) :
    Calls Try.prog 63 #[.agg #[.int .i64 p.n, .slice A1 p.s.length c1, .slice A2 p.o.length c2], .int .i64 (M : Int), .slice AL l.length cl] w fun e w' =>
      ∃ A c, e = .returned (.slice A V.length c) ∧ OwI w' w.heap.size (.slice A V.length c) V ∧ Below w.heap.size w w' := by
  have H := Lib.hid hr
  have HO := Lib.hid hok
  have HV := Lib.hid hV
  have HA := Lib.hid hall
  have OW := Lib.hid (fun W hB hr => l1Own_any B AL cl l W (by omega) hB hr)
  have HL := Lib.hid hl
  have RL := Lib.hid hrl
  have hm0 : ((M : Int) == 0) = false := by simp; omega
  clear hr hok hV hall hrl hl
  go_enter Try.func63, Try.ntmps63
  go_wp2_with fail
  go_at_call 99
  generalize hw1 : World.alloc w _ = w1
  obtain ⟨x0, x1, x2, xs, xb⟩ := box3 hw1
  clear hw1
  refine (OW.out w1 (by omega) (RL.out.below' xb hB)).mono ?_
  rintro e w2 ⟨A0, c0, rfl, hown2, hb2⟩
  have y1 := (hb2.cell (p := ⟨w.heap.size, 1, none⟩) (by simp only []; omega)).trans x1
  have BEL2 := Lib.hid (xb.trans (hb2.mono (by omega)))
  have hs2 : w.heap.size < w2.heap.size := by have := hb2.size; omega
  have OW2 := Lib.hid (hown2.base (show w.heap.size ≤ w1.heap.size by omega))
  clear x0 x1 x2 xs xb hb2 hown2
  go_wp2
  go_loopw [7, 15] (fun ov iv wr => ∃ (j : Nat) (A : Option Addr) (c : Nat) (vs : List Int), j ≤ p.s.length ∧ iv = .int .i64 (j : Int) ∧ ov = .slice A vs.length c ∧ vs.length = N + j ∧ Hid (∀ x ∈ vs, inR M x = true) ∧ Hid (runG (inR M) (mulR M) 0 vs (p.s.drop j) = some V) ∧ OwI wr w.heap.size ov vs ∧ w.heap.size < wr.heap.size ∧ Below w.heap.size w wr) (fun _ iv _ => p.s.length - (intOf iv).toNat)
  case atStart => exact ⟨0, A0, c0, l, by omega, rfl, rfl, by rw [HL.out]; rfl, HA, by simpa using HV, OW2.out, hs2, BEL2.out⟩
  case round =>
    obtain ⟨j, A, c, vs, hj, rfl, rfl, hvl, hva, hrun, hown, hsz, hbel⟩ := hrel
    have BEL := Lib.hid hbel
    have OWN := Lib.hid hown
    have HVL := Lib.hid hvl
    clear y1 hs2
    by_cases hlt : j < p.s.length
    · obtain ⟨o1, o2, o3⟩ := HO.out j hlt
      obtain ⟨a, ha⟩ : ∃ a : Nat, (p.s[j]).1 = a := ⟨(p.s[j]).1.toNat, by omega⟩
      obtain ⟨b, hb⟩ : ∃ b : Nat, (p.s[j]).2 = b := ⟨(p.s[j]).2.toNat, by omega⟩
      obtain ⟨sb, off, rfl, hsb, hc1, hc2⟩ := (H.out.1.below' hbel hB).stp hlt
      rw [ha] at hc1
      rw [hb] at hc2
      have hal : a < vs.length := by omega
      have hbl : b < vs.length := by omega
      obtain ⟨g, go, rfl, hg, hca⟩ := hown.rd.int hal
      obtain ⟨g', go', hg', _, hcb⟩ := hown.rd.int hbl
      obtain ⟨rfl, rfl⟩ : g = g' ∧ go = go' := by injection hg' with hg'; injection hg' with h1 h2; exact ⟨h1, h2⟩
      obtain ⟨m2, m4, xa0, xa1⟩ := inR_rng (hva.out _ (List.getElem_mem hal))
      obtain ⟨_, _, xb0, xb1⟩ := inR_rng (hva.out _ (List.getElem_mem hbl))
      obtain ⟨x, hx⟩ : ∃ x : Nat, vs[a] = (x : Int) := ⟨vs[a].toNat, by omega⟩
      obtain ⟨y, hy⟩ : ∃ y : Nat, vs[b] = (y : Int) := ⟨vs[b].toNat, by omega⟩
      rw [hx] at hca xa1
      rw [hy] at hcb xb1
      have hp := prod_le n4 (show x < M by omega) (show y < M by omega)
      have e1 : (x : Int) * (y : Int) = ((x * y : Nat) : Int) := by push_cast; rfl
      have w1 : wrap64 ((x : Int) * (y : Int)) = ((x * y : Nat) : Int) := by rw [e1]; unfold wrap64; omega
      have w2 : IntKind.i64.wrap ((x : Int) * (y : Int)) = ((x * y : Nat) : Int) := wrapP n4 (show x < M by omega) (show y < M by omega)
      have PR := Lib.hid (show prd (mulR M) 0 vs p.s[j] = ((x * y % M : Nat) : Int) by
        unfold prd mulR
        rw [ha, hb, show ((a : Int)).toNat = a by omega, show ((b : Int)).toNat = b by omega, getD_at hal, getD_at hbl, hx, hy, e1]
        exact nremI _ _)
      have PIN := Lib.hid (show inR M (prd (mulR M) 0 vs p.s[j]) = true by
        unfold prd
        rw [ha, hb, show ((a : Int)).toNat = a by omega, show ((b : Int)).toNat = b by omega, getD_at hal, getD_at hbl]
        exact mulR_in (hva.out _ (List.getElem_mem hal)) (hva.out _ (List.getElem_mem hbl)))
      have GO := Lib.hid (runG_good (vs := vs) (mul := mulR M) (z := (0 : Int)) hlt PIN.out)
      rw [PR.out] at GO PIN
      obtain ⟨Q, hQ⟩ : ∃ Q, x * y = Q := ⟨_, rfl⟩
      rw [hQ] at w1 w2 GO PIN
      obtain ⟨n, hn⟩ : ∃ n, vs.length = n := ⟨_, rfl⟩
      have HN := Lib.hid hn
      have ia : (a : Int) < (n : Int) := by omega
      have ib : (b : Int) < (n : Int) := by omega
      have hn46 : n ≤ 46 := by omega
      rw [hn] at OWN
      rw [hn]
      have ij : (j : Int) < (p.s.length : Int) := by omega
      have Y1 := Lib.hid (show ∀ Q, Below wr.heap.size wr Q → True from fun _ _ => trivial)
      clear o1 o2 o3 ha hb hal hbl xa0 xa1 xb0 xb1 hx hy hp e1 hQ hown hbel hg' hn hvl m2 m4 PR
      have nM0 : ¬ M = 0 := by omega
      have hT := tmodN Q M
      go_wp2
      refine wp_region_Tw [0, 1, 2, 3, 4, 5, 6, 7, 8, 9, 10, 11, 12, 13, 16] [3, 5, 8, 10] (.lp 0 (.lp 1 (.lp 2 (.lp 6 (.lp 7 (.lp 12 (.ls 3 (.lp 4 (.ls 5 (.ls 8 (.lp 9 (.ls 10 (.lp 11 (.lp 13 (.hv 14 (.hv 15 (.lp 16 (.done)))))))))))))))))) (by kernel_rfl) (by kernel_rfl) ?_
      (repeat (first | (refine T_lp rfl (fun K hK => ?_); go_simp; refine hK _ ?_; clear hK K) | (refine T_ls rfl rfl (fun K hK => ?_); go_simp; refine hK _ ?_; clear hK K)))
      (refine T_hv rfl (by kernel_rfl) (fun K hK => ?_); go_simp; refine hK _ _ ?_; clear hK K)
      refine T_hv rfl (by kernel_rfl) (fun K hK => ?_)
      refine step_app_int rfl (.tmp 19) (.tmp 33) rfl w.heap.size n _ vs rfl (((OWN.out.alloc _).drew).alloc _) HN.out (wr.heap.size + 1) 1 ((Q % M : Nat) : Int) rfl (by simp) (by omega) (by simp; omega) ?_
      intro A3 c3 w3 hown3 hg3 hbel3
      (go_simp; refine hK _ _ ?_; clear hK K)
      (repeat (first | (refine T_lp rfl (fun K hK => ?_); go_simp; refine hK _ ?_; clear hK K) | (refine T_ls rfl rfl (fun K hK => ?_); go_simp; refine hK _ ?_; clear hK K)))
      refine T_done ?_
      go_wp2
      go_roundw
      case rel =>
        have hb3 := hbel3.size
        refine ⟨j + 1, A3, c3, vs ++ [((Q % M : Nat) : Int)], by omega, by go_num, by rw [List.length_append, HN.out]; rfl, by rw [List.length_append, HVL.out]; simp; omega, Lib.hid ?_, Lib.hid (by rw [← GO.out]; exact hrun.out), ?_, ?_, (((BEL.out.alloc (Nat.le_of_lt hsz) _).drew).alloc (by simp; omega) _).trans hbel3⟩
        · intro z hz
          rcases List.mem_append.1 hz with hz | hz
          · exact hva.out z hz
          · rw [List.mem_singleton.1 hz]; exact PIN.out
        · exact hown3
        · have := hg3.size; simp at this; omega
      case measure => simp [intOf]; omega
    · have hj' : j = p.s.length := by omega
      subst hj'
      have hE := hrun.out
      rw [runG_end (Nat.le_refl _)] at hE
      obtain rfl : vs = V := by injection hE
      clear hown hbel hE hvl
      go_wp2
      go_ret
      exact ⟨A, c, rfl, OWN.out, BEL.out⟩
end Go.Proofs.Ytbbfbccemonihaa
