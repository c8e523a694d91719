/- The sorted exponents of a plan with one input, by the program. -/
import Derived.Test.YteldndbfopdehabRb
import Derived.Test.YteldndbfopdehabId
import Derived.Test.YteldndbfopdehabMa
namespace Go.Proofs.Yteldndbfopdehab
open Go.RowKit

theorem vals_good {p : Pl} (h : cpG p = true) : valsI p = some ((exps 1 p.s).map (pad 1)) := by
  obtain ⟨hn, _, _, _, hg⟩ := cpG_facts h
  rw [valsI_eq, hg, if_pos rfl, hn]
  rfl
theorem vals_bad {p : Pl} (h : good p = false) : valsI p = none := by rw [valsI_eq, h]; rfl
theorem six_pad1 {s : List (Int × Int)} (hok : OkS 1 s) : Six ((exps 1 s).map (pad 1)) := by
  intro r hr
  obtain ⟨r0, h0, rfl⟩ := List.mem_map.1 hr
  have h := exps_ok hok s.length (Nat.le_refl _)
  rw [List.take_of_length_le (Nat.le_refl _)] at h
  have := (h r0 h0).1
  simp [pad, this]
/-- The six cells of a value. -/
theorem six_cells {w : World} {B R c : Nat} {A : Option Addr} {e : TypeId} {rows : List (List Int)} (hs : Six rows) (hR : rows.length = R) (h : w.ownsRow B e 6 (.slice A R c) R (fl6 rows)) {k : Nat} (hk : k < R) :
    ∃ g, A = some ⟨g, 0, none⟩ ∧ g < w.heap.size ∧ w.cell? ⟨g, k * 6, none⟩ = some (.int .i64 ((rows.getD k []).getD 0 0)) ∧ w.cell? ⟨g, k * 6 + 1, none⟩ = some (.int .i64 ((rows.getD k []).getD 1 0)) ∧ w.cell? ⟨g, k * 6 + 2, none⟩ = some (.int .i64 ((rows.getD k []).getD 2 0)) ∧
      w.cell? ⟨g, k * 6 + 3, none⟩ = some (.int .i64 ((rows.getD k []).getD 3 0)) ∧ w.cell? ⟨g, k * 6 + 4, none⟩ = some (.int .i64 ((rows.getD k []).getD 4 0)) ∧ w.cell? ⟨g, k * 6 + 5, none⟩ = some (.int .i64 ((rows.getD k []).getD 5 0)) := by
  obtain ⟨g, rfl, _, hg, hc, _⟩ := own_at h (by omega)
  have hk' : k < rows.length := by omega
  have key : ∀ j, j < 6 → w.cell? ⟨g, k * 6 + j, none⟩ = some (.int .i64 ((rows.getD k []).getD j 0)) := fun j hj => by
    rw [hc _ (by omega), fl6_at hs hk' hj]
    simp [hk', I]
  exact ⟨g, rfl, hg, key 0 (by omega), key 1 (by omega), key 2 (by omega), key 3 (by omega), key 4 (by omega), key 5 (by omega)⟩

set_option maxRecDepth 100000 in
set_option maxHeartbeats 4000000 in
theorem implCp_any (B : Nat) (A1 A2 : Option Addr) (c1 c2 : Nat) (p : Pl) (w : World) (hB : B ≤ w.heap.size) (hls : p.s.length ≤ 2000000) (hlo : p.o.length ≤ 2000000) (hr : RdP w B A1 A2 p) :
    Calls Try.prog 19 #[.agg #[.int .i64 p.n, .slice A1 p.s.length c1, .slice A2 p.o.length c2]] w fun e w' =>
      ∃ A c, e = .returned (.tuple #[.slice A (cpL p).length c, .bool (cpG p)]) ∧ OwI w' w.heap.size (.slice A (cpL p).length c) (cpL p) ∧ Below w.heap.size w w' := by
  have H := Lib.hid hr
  clear hr
  have hC := fun (W : World) (hb : Below w.heap.size w W) => withValues_any B A1 A2 c1 c2 p W (by have := hb.size; omega) hls hlo (H.out.below' hb hB)
  have HC := Lib.hid hC
  clear hC
  cases hg : good p with
  | false =>
    have E := Lib.hid (show cpG p = false by unfold cpG; rw [hg]; rfl)
    have VB := Lib.hid (vals_bad hg)
    clear hg
    go_enter Try.func19, Try.ntmps19
    go_wp2_with fail
    go_at_call 46
    generalize hw1 : World.alloc w _ = w1
    obtain ⟨x0, x1, x2, xs, xb⟩ := box3 hw1
    clear hw1
    refine (HC.out w1 xb).mono ?_
    rintro e w2 ⟨hb2, hpost⟩
    rw [VB.out] at hpost
    simp only at hpost
    subst hpost
    have HB2 := Lib.hid (xb.trans (hb2.mono (show w.heap.size ≤ w1.heap.size by omega)))
    have hs2 : w.heap.size ≤ w2.heap.size := HB2.out.size
    clear x0 x1 x2 xs xb hb2
    go_wp2
    go_ret2
    exact ⟨none, 0, by rw [E.out, cpL_false E.out]; rfl, by rw [cpL_false E.out]; exact OwI.nil _ _, HB2.out.alloc hs2 _⟩
  | true =>
    by_cases hn : p.n = 1
    case neg =>
      have E := Lib.hid (show cpG p = false by unfold cpG; rw [decide_eq_false hn]; simp)
      have VG := Lib.hid (show valsI p = some ((exps p.n.toNat p.s).map (pad p.n.toNat)) by rw [valsI_eq, hg]; rfl)
      have HNB := Lib.hid (show (p.n != 1) = true by simpa using hn)
      clear hg hn
      go_enter Try.func19, Try.ntmps19
      go_wp2_with fail
      go_at_call 46
      generalize hw1 : World.alloc w _ = w1
      obtain ⟨x0, x1, x2, xs, xb⟩ := box3 hw1
      clear hw1
      refine (HC.out w1 xb).mono ?_
      rintro e w2 ⟨hb2, hpost⟩
      rw [VG.out] at hpost
      simp only at hpost
      obtain ⟨A3, c3, rfl, _⟩ := hpost
      have y0 := cell_kept ((hb2.cell (p := ⟨w.heap.size, 0, none⟩) (by simp only []; omega)).trans x0)
      have HB2 := Lib.hid (xb.trans (hb2.mono (show w.heap.size ≤ w1.heap.size by omega)))
      have hs2 : w.heap.size ≤ w2.heap.size := HB2.out.size
      have hnb := HNB.out
      clear x0 x1 x2 xs xb hb2
      go_wp2
      go_ret2
      exact ⟨none, 0, by rw [E.out, cpL_false E.out]; rfl, by rw [cpL_false E.out]; exact OwI.nil _ _, HB2.out.alloc hs2 _⟩
    case pos =>
      have hcp : cpG p = true := by unfold cpG; rw [hg, decide_eq_true hn]; rfl
      obtain ⟨hn', hs40, hok, hbb, hgg⟩ := cpG_facts hcp
      clear hn' hgg
      have hul : (uni [] (ev p.s)).length ≤ 41 := (chG_chn (chain_of_ev hok hbb hs40)).most
      have VG := Lib.hid (vals_good hcp)
      have E := Lib.hid hcp
      rw [cpL_true hcp]
      have hrow := fun k (hk : k < (exps 1 p.s).length) => exps_row hok hk
      have hevl : (ev p.s).length = p.s.length + 1 := (ev_sums hok hbb).1
      have hel : (exps 1 p.s).length = 1 + p.s.length := exps_length 1 p.s
      have hsix := six_pad1 hok
      obtain ⟨V, hV⟩ : ∃ V, ev p.s = V := ⟨_, rfl⟩
      rw [hV] at hevl hul hrow ⊢
      have hrow2 : ∀ k, k < V.length → (((exps 1 p.s).map (pad 1)).getD k []).getD 0 0 = V.getD k 0 := fun k hk => by
        have h1 := hrow k (by omega)
        have hk' : k < (exps 1 p.s).length := by omega
        have e : ((exps 1 p.s).map (pad 1)).getD k [] = pad 1 ((exps 1 p.s).getD k []) := by simp [hk']
        rw [e, h1]
        rfl
      have hrl : ((exps 1 p.s).map (pad 1)).length = V.length := by simp; omega
      obtain ⟨R, hR⟩ : ∃ R, (exps 1 p.s).map (pad 1) = R := ⟨_, rfl⟩
      rw [hR] at hsix hrow2 hrl
      have VG2 := Lib.hid (show valsI p = some R by rw [VG.out, hR])
      have HSIX := Lib.hid hsix
      have HROW := Lib.hid hrow2
      have HRL := Lib.hid hrl
      have hV41 : V.length ≤ 41 := by omega
      have U0 := Lib.hid (uni0_ok V)
      have HNN := Lib.hid hn
      clear hg hn hcp hok hbb hrow hevl hel hsix hrow2 hrl hR VG hV
      go_enter Try.func19, Try.ntmps19
      go_wp2_with fail
      go_at_call 46
      generalize hw1 : World.alloc w _ = w1
      obtain ⟨x0, x1, x2, xs, xb⟩ := box3 hw1
      clear hw1
      refine (HC.out w1 xb).mono ?_
      rintro e w2 ⟨hb2, hpost⟩
      rw [VG2.out] at hpost
      simp only at hpost
      obtain ⟨A3, c3, rfl, hown2⟩ := hpost
      have y0' := (hb2.cell (p := ⟨w.heap.size, 0, none⟩) (by simp only []; omega)).trans x0
      rw [HNN.out] at y0'
      have y0 := cell_kept y0'
      have HB2 := Lib.hid (xb.trans (hb2.mono (show w.heap.size ≤ w1.heap.size by omega)))
      have hs2 : w.heap.size ≤ w2.heap.size := HB2.out.size
      have OW2 := Lib.hid hown2
      have hRlen := HRL.out
      rw [hRlen]
      clear x0 x1 x2 xs xb hb2 hown2 y0' hRlen
      go_wp2
      generalize hw3 : World.alloc w2 _ = w3
      have hb3 : Below w2.heap.size w2 w3 := by rw [← hw3]; exact (Below.refl _ _).alloc (Nat.le_refl _) _
      have HB3 := Lib.hid hb3
      clear hw3 hb3 y0
      go_loopw [6, 25] (fun ov iv wr => ∃ (k n : Nat) (A4 : Option Addr) (c4 : Nat), k ≤ V.length ∧ iv = .int .i64 k ∧ ov = .slice A4 n c4 ∧ n = (uniK [] V k).length ∧ (uniK [] V k = [] → A4 = none ∧ c4 = 0) ∧ wr.ownsRow w2.heap.size 3 1 (.slice A4 n c4) n ((uniK [] V k).map I) ∧ Below w2.heap.size w2 wr) (fun _ i _ => V.length - (intOf i).toNat)
      case atStart => exact ⟨0, 0, none, 0, by omega, rfl, rfl, rfl, fun _ => ⟨rfl, rfl⟩, World.ownsRow_nil _ _ _ _, HB3.out⟩
      case round =>
        obtain ⟨k, n, A4, c4, hk, rfl, rfl, hn, hnil, hown, hbel⟩ := hrel
        have OWN := Lib.hid hown
        have BEL := Lib.hid hbel
        have HN := Lib.hid hn
        have hs : w2.heap.size ≤ wr.heap.size := hbel.size
        by_cases hlt : k < V.length
        · obtain ⟨g, rfl, hgs, d0, d1, d2, d3, d4, d5⟩ := six_cells HSIX.out rfl (own_below OW2.out hbel) (k := k) (by rw [HRL.out]; exact hlt)
          rw [HROW.out k hlt] at d0
          obtain ⟨ok1, ok2, _⟩ := U0.out k (by omega)
          have SUC := Lib.hid (uniK_succ (a := []) hlt)
          obtain ⟨e, he⟩ : ∃ e, V.getD k 0 = e := ⟨_, rfl⟩
          rw [he] at SUC d0
          generalize (R.getD k []).getD 1 0 = a1 at d1
          generalize (R.getD k []).getD 2 0 = a2 at d2
          generalize (R.getD k []).getD 3 0 = a3 at d3
          generalize (R.getD k []).getD 4 0 = a4 at d4
          generalize (R.getD k []).getD 5 0 = a5 at d5
          have hW := fun (W : World) (hb : Below wr.heap.size wr W) => with_any W.heap.size A4 c4 (uniK [] V k) e W (by omega) ok1 hnil (Nat.le_refl _) (by
            have h := own_below OWN.out hb
            rw [HN.out] at h
            exact Rd.of_own h)
          rw [← hn] at hW
          have HW := Lib.hid hW
          have HS := Lib.hid hs
          have ik : (k : Int) < (V.length : Int) := by omega
          clear hW ok1 ok2 hn hnil hown hbel he
          go_wp2_with fail
          go_at_call 47
          generalize hw5 : World.alloc wr _ = w5
          have hb5 : Below wr.heap.size wr w5 := by rw [← hw5]; exact (Below.refl _ _).alloc (Nat.le_refl _) _
          clear hw5
          refine (HW.out w5 hb5).mono ?_
          rintro e' w6 ⟨A5, c5, rfl, hown5, hb6⟩
          have OW5 := Lib.hid hown5
          have HB6 := Lib.hid (BEL.out.trans ((hb5.trans (hb6.mono hb5.size)).mono HS.out))
          have hs5 : w2.heap.size ≤ w5.heap.size := Nat.le_trans HS.out hb5.size
          clear hown5 hb6 hb5
          go_wp2
          go_roundw
          case rel =>
            refine ⟨k + 1, (putI (uniK [] V k) e).length, A5, c5, by omega, by go_num, rfl, by rw [SUC.out], fun h => ?_, ?_, HB6.out⟩
            · rw [SUC.out] at h
              have := mem_putI (uniK [] V k) e
              rw [h] at this
              simp at this
            · rw [SUC.out]
              exact OW5.out.base hs5
          case measure => simp [intOf]; omega
        · have ek : k = V.length := by omega
          subst ek
          rw [uniK_end] at hn
          subst hn
          have HS := Lib.hid hs
          clear hbel hown hnil hs
          go_wp2
          go_ret2
          refine ⟨A4, c4, by rw [E.out]; rfl, ?_, HB2.out.trans (BEL.out.mono hs2)⟩
          have h := OWN.out
          rw [uniK_end] at h
          exact own_base h hs2
end Go.Proofs.Yteldndbfopdehab
