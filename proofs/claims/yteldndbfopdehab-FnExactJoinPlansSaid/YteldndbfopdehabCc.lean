/- The steps of two plans behind each other: the program's. -/
import Derived.Test.YteldndbfopdehabCb
import Derived.Test.YteldndbfopdehabQn
import Derived.Test.YteldndbfopdehabTb
namespace Go.Proofs.Yteldndbfopdehab
open Go.RowKit

/-- The names of new values. -/
def tailN (b : Int) (m : Nat) : List Int := (List.range m).map fun i : Nat => b + i
theorem tailN_length (b : Int) (m : Nat) : (tailN b m).length = m := by simp [tailN]
theorem tailN_succ (b : Int) (m : Nat) : tailN b (m + 1) = tailN b m ++ [b + m] := by simp [tailN, List.range_succ]
theorem boxesPQ {w w2 : World} {a b c a' b' c' : Value} {t t' : TypeId} (h : (w.alloc (.cells #[a, b, c] t)).alloc (.cells #[a', b', c'] t') = w2) :
    w2.heap[w.heap.size]? = some (.cells #[a, b, c] t (0, 0)) ∧ w2.heap[w.heap.size + 1]? = some (.cells #[a', b', c'] t' (0, 0)) ∧ w2.heap.size = w.heap.size + 2 ∧ Below w.heap.size w w2 := by
  subst h
  refine ⟨?_, ?_, by simp, ((Below.refl _ _).alloc (Nat.le_refl _) _).alloc (by simp) _⟩
  · rw [Below.heap_alloc _ _ _ (by simp)]; exact heap_alloc_new w _
  · have := heap_alloc_new (w.alloc (.cells #[a, b, c] t)) (.cells #[a', b', c'] t')
    simpa using this

set_option maxRecDepth 100000 in
set_option maxHeartbeats 2000000 in
theorem stepsBehind_any (B N : Nat) (A1 A2 D1 D2 A : Option Addr) (c1 c2 d1 d2 c : Nat) (p q : Pl) (L : List Int) (w : World) (hN : p.n = N) (hN6 : N ≤ 1000) (hsp : p.s.length ≤ 1000) (hsq : q.s.length ≤ 1000) (hL0 : 0 < L.length) (hL : L.length ≤ 1000) (hB : B ≤ w.heap.size)
    (hin : ∀ st ∈ q.s, 0 ≤ st.1 ∧ st.1 ≤ st.2 ∧ st.2 < (L.length : Int) + q.s.length) (hr : Rd w B 2 A1 p.s.length (fl p.s)) (hrq : Rd w B 2 D1 q.s.length (fl q.s)) (hrl : Rd w B 1 A L.length (L.map I)) :
    Calls Try.prog 65 #[.agg #[.int .i64 p.n, .slice A1 p.s.length c1, .slice A2 p.o.length c2], .agg #[.int .i64 q.n, .slice D1 q.s.length d1, .slice D2 q.o.length d2], .slice A L.length c] w fun e w' =>
      ∃ E1 E2 e1 e2, e = .returned (.tuple #[.slice E1 (p.s.length + q.s.length) e1, .slice E2 (L.length + q.s.length) e2]) ∧ OwS w' w.heap.size (.slice E1 (p.s.length + q.s.length) e1) (p.s ++ q.s.map (stN (L ++ tailN (p.n + p.s.length) q.s.length))) ∧ OwI w' w.heap.size (.slice E2 (L.length + q.s.length) e2) (L ++ tailN (p.n + p.s.length) q.s.length) ∧ Below w.heap.size w w' := by
  have H := Lib.hid hr
  have HQ := Lib.hid hrq
  have HL := Lib.hid hrl
  have HIN := Lib.hid hin
  clear hr hrq hrl hin
  rw [hN]
  clear hN
  obtain ⟨nm, hnm⟩ : ∃ nm, L ++ tailN ((N : Int) + p.s.length) q.s.length = nm := ⟨_, rfl⟩
  have hnl : nm.length = L.length + q.s.length := by rw [← hnm]; simp [tailN]
  obtain ⟨T, hT⟩ : ∃ T, q.s.map (stN nm) = T := ⟨_, rfl⟩
  have hTl : T.length = q.s.length := by rw [← hT]; simp
  rw [hnm, hT]
  have HNM := Lib.hid hnm
  have HNL := Lib.hid hnl
  have HT := Lib.hid hT
  have HTL := Lib.hid hTl
  clear hnm hnl hT hTl
  go_enter Try.func65, Try.ntmps65
  go_wp2_with fail
  go_at_call 39
  generalize hw1 : World.alloc (World.alloc w _) _ = w1
  obtain ⟨q0, q1, xs, xb⟩ := boxesPQ hw1
  clear hw1
  refine (cloneI_any w.heap.size A c L w1 (by omega) hL0 (by omega) ((HL.out.below' xb hB).more hB)).mono ?_
  rintro e w2 ⟨A3, c3, rfl, hown3, hb3⟩
  have r0 := (hb3.block w.heap.size (by omega)).trans q0
  have r1 := (hb3.block (w.heap.size + 1) (by omega)).trans q1
  obtain ⟨y0, y1, _, _, _, _⟩ := cells3 r0
  obtain ⟨_, z1, _, _, _, _⟩ := cells3 r1
  have HB2 := Lib.hid (xb.trans (hb3.mono (show w.heap.size ≤ w1.heap.size by omega)))
  have hs2 : w1.heap.size ≤ w2.heap.size := hb3.size
  have OWN3 := Lib.hid hown3
  have XS := Lib.hid xs
  have hx1 : w.heap.size + 1 < w1.heap.size := by omega
  clear q0 q1 xb hb3 r0 r1 hown3 xs
  go_wp2
  go_loopw [8, 15] (fun v i wr => ∃ (k : Nat) (A4 : Option Addr) (c4 : Nat), k ≤ q.s.length ∧ i = .int .i64 k ∧ v = .slice A4 (L.length + k) c4 ∧ wr.ownsRow w1.heap.size 3 1 (.slice A4 (L.length + k) c4) (L.length + k) ((L ++ tailN ((N : Int) + p.s.length) k).map I) ∧ Below w1.heap.size w2 wr) (fun _ i _ => q.s.length - (intOf i).toNat)
  case atStart =>
    refine ⟨0, A3, c3, by omega, rfl, rfl, ?_, Below.refl _ _⟩
    have h : w2.ownsRow w1.heap.size 3 1 (.slice A3 L.length c3) L.length (L.map I) := OWN3.out
    simpa [tailN] using h
  case round =>
    obtain ⟨k, A4, c4, hk, rfl, rfl, hown, hbel⟩ := hrel
    have hsz : w2.heap.size ≤ wr.heap.size := hbel.size
    have v0 := (hbel.cell (p := ⟨w.heap.size, 0, none⟩) (by simp only []; omega)).trans y0
    have v1 := (hbel.cell (p := ⟨w.heap.size, 1, none⟩) (by simp only []; omega)).trans y1
    have u1 := (hbel.cell (p := ⟨w.heap.size + 1, 1, none⟩) (by simp only []; omega)).trans z1
    by_cases hlt : k < q.s.length
    · have OWN := Lib.hid hown
      have BEL := Lib.hid hbel
      clear hown hbel
      go_wp2_with (at_builtin; refine list_step (fun K hK => ?_); refine step_app1 Try.underlying22 info_int rfl (by omega) rfl (.tmp 18) (.tmp 27) rfl w1.heap.size (L.length + k) _ ((L ++ tailN ((N : Int) + p.s.length) k).map I) rfl (World.ownsRow.alloc OWN.out _) wr.heap.size 1 (I ((N : Int) + p.s.length + k)) rfl (by rw [World.cell?_alloc_at _ _ _ _ rfl]; rfl) rfl (by omega) (by simp; omega) ?_; intro A5 c5 w6 hown6 hg6 hbel6; go_simp; refine hK _ _ ?_; clear hK K)
      go_roundw
      case rel =>
        refine ⟨k + 1, A5, c5, by omega, by go_num, rfl, ?_, (BEL.out.alloc (by omega) _).trans hbel6⟩
        rw [tailN_succ, ← List.append_assoc, List.map_append]
        exact hown6
      case measure => simp [intOf]; omega
    · have hk' : k = q.s.length := by omega
      subst hk'
      rw [HNM.out] at hown
      have hbw : Below w.heap.size w wr := HB2.out.trans (hbel.mono (show w.heap.size ≤ w1.heap.size by omega))
      have hwr : w.heap.size ≤ wr.heap.size := hbw.size
      have RN : Rd wr wr.heap.size 1 A4 (L.length + q.s.length) (nm.map I) := Rd.of_own hown
      have RQ : Rd wr wr.heap.size 2 D1 q.s.length (fl q.s) := (HQ.out.below' hbw hB).more (by omega)
      have RP := Lib.hid (show Rd wr wr.heap.size 2 A1 p.s.length (fl p.s) from (H.out.below' hbw hB).more (by omega))
      have hCs := renamedStepsN_any wr.heap.size D1 A4 d1 c4 q.s nm wr.drew (by omega) (by simp) (fun st hst => by
        obtain ⟨i1, i2, i3⟩ := HIN.out st hst
        have := HNL.out
        exact ⟨i1, i2, by omega⟩) RQ.drew (by rw [HNL.out]; exact RN.drew)
      rw [HNL.out, HT.out] at hCs
      have HCS := Lib.hid hCs
      have OWN := Lib.hid hown
      have HBW := Lib.hid hbw
      have FS := Lib.hid (show ∀ x, Below wr.heap.size wr x → x.cell? ⟨w.heap.size, 1, none⟩ = some (.slice A1 p.s.length c1) ∧ x.cell? ⟨w.heap.size + 1, 1, none⟩ = some (.slice D1 q.s.length d1) from fun x hx =>
        ⟨(hx.cell (p := ⟨w.heap.size, 1, none⟩) (by simp only []; omega)).trans v1, (hx.cell (p := ⟨w.heap.size + 1, 1, none⟩) (by simp only []; omega)).trans u1⟩)
      have S0 := Lib.hid (show Below wr.heap.size wr wr.drew from (Below.refl _ _).drew)
      clear hown hbel hbw RN RQ hCs v0 v1 u1 y0 y1 z1
      go_wp2
      refine wp_region_T (fun x : World => Below wr.heap.size wr x) [0, 1, 2, 3, 4, 8, 9, 10] [1, 3] (.lp 0 (.lp 2 (.lp 4 (.lp 8 (.ls 1 (.ls 3 (.hv 5 (.hv 6 (.hv 7 (.lp 9 (.lp 10 (.done)))))))))))) (by kernel_rfl) (by kernel_rfl) ?_
      (repeat (refine T_lp rfl (fun K hK => ?_); go_simp; refine hK _ ?_; clear hK K))
      refine T_ls1 (v := .slice A1 p.s.length c1) rfl rfl S0.out (fun x hx => (by obtain ⟨h0, h1⟩ := FS.out x hx; go_simp)) (fun K hK => ?_)
      (go_simp; refine hK _ ?_; clear hK K)
      refine T_ls1 (v := .slice D1 q.s.length d1) rfl rfl S0.out (fun x hx => (by obtain ⟨h0, h1⟩ := FS.out x hx; go_simp)) (fun K hK => ?_)
      (go_simp; refine hK _ ?_; clear hK K)
      refine T_hvS rfl (fun K hK => ?_)
      go_simp
      go_at_call 99
      refine HCS.out.mono ?_
      rintro e w5 ⟨A6, c6, rfl, hown6, hb6⟩
      have hb5 : Below wr.heap.size wr w5 := S0.out.trans (hb6.mono (by simp))
      have hT6 : OwS w5 wr.drew.heap.size (.slice A6 T.length c6) T := by rw [HTL.out]; exact hown6
      have RT := Lib.hid (show Rd w5 w5.heap.size 2 A6 T.length (fl T) from Rd.of_own hT6)
      have HB5 := Lib.hid hb5
      have hs5 : wr.heap.size ≤ w5.heap.size := hb5.size
      clear hown6 hb6 hT6
      go_simp
      refine hK _ _ hb5 ?_
      clear hK K hb5
      refine T_hvS rfl (fun K hK => ?_)
      go_simp
      refine hK _ _ (HB5.out.alloc hs5 _) ?_
      clear hK K
      refine T_hv rfl (by kernel_rfl) (fun K hK => ?_)
      go_simp
      go_at_call 98
      generalize hw7 : World.alloc w5 _ = w7
      obtain ⟨e0, e1, es, eb⟩ := box2 hw7
      clear hw7
      have hb7 : Below wr.heap.size wr w7 := HB5.out.trans (eb.mono hs5)
      have hCc := concatS_any w5.heap.size w5.heap.size A1 A6 c1 c6 2 p.s T w7 (by omega) (by rw [HTL.out]; omega) (by omega) e0 (by rw [HTL.out]; exact e1) (by omega) ((RP.out.below' hb7 (Nat.le_refl _)).more hs5) (RT.out.below' eb (Nat.le_refl _))
      rw [HTL.out] at hCc
      refine hCc.mono ?_
      rintro e w8 ⟨A9, c9, rfl, hown9, hb9⟩
      have hb8 : Below wr.heap.size wr w8 := hb7.trans (hb9.mono (by omega))
      have HO9 := Lib.hid (own_base hown9 (show w.heap.size ≤ w7.heap.size by omega))
      have HO8 := Lib.hid (own_base (own_below OWN.out hb8) (show w.heap.size ≤ w1.heap.size by omega))
      have HB8 := Lib.hid (HBW.out.trans (hb8.mono hwr))
      clear e0 e1 es eb hb7 hCc hown9 hb9 hb8
      (go_simp; refine hK _ _ ?_; clear hK K)
      (repeat (refine T_lp rfl (fun K hK => ?_); go_simp; refine hK _ ?_; clear hK K))
      refine T_done ?_
      go_wp2
      refine bodyPost_ret (v := .tuple #[.slice A9 (p.s.length + q.s.length) c9, .slice A4 (L.length + q.s.length) c4]) (by simp [results, Try.results65, go_sem]) rfl ⟨A9, A4, c9, c4, rfl, HO9.out, ?_, HB8.out⟩
      show World.ownsRow _ _ _ _ _ _ _
      rw [HNL.out]
      exact HO8.out
end Go.Proofs.Yteldndbfopdehab
