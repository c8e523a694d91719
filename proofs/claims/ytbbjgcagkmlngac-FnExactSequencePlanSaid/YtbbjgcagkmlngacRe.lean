/- A plan for several numbers of a chain, by the program. -/
import Derived.Test.YtbbjgcagkmlngacRd
namespace Go.Proofs.Ytbbjgcagkmlngac
open Go.RowKit

set_option maxRecDepth 100000 in
set_option maxHeartbeats 4000000 in
theorem implSeq_any (B : Nat) (A : Option Addr) (c : Nat) (l : List Int) (A1 : Option Addr) (c1 : Nat) (t : List Int) (w : World) (hB : B ≤ w.heap.size) (hl : l.length ≤ 1048576) (hl1 : t.length ≤ 1048576) (hcap : l.length ≤ c) (_hcap1 : t.length ≤ c1)
    (hr : Rd w B 1 A l.length (l.map I)) (hr1 : Rd w B 1 A1 t.length (t.map I)) :
    Calls Try.prog 48 #[.slice A l.length c, .slice A1 t.length c1] w fun e w' =>
      ∃ R1 R2 v1 v2, e = .returned (.tuple #[.agg #[.int .i64 (sqR l t).n, .slice R1 (sqR l t).s.length v1, .slice R2 (sqR l t).o.length v2], .bool (sqB l t)]) ∧ OwP w' w.heap.size R1 R2 v1 v2 (sqR l t) ∧ Below w.heap.size w w' := by
  have hS := fun (W : World) (hb : Below w.heap.size w W) => implSteps_any B A c l W (by have := hb.size; omega) hl hcap (hr.below' hb hB)
  have H := Lib.hid hr
  have H1 := Lib.hid hr1
  clear hr hr1
  cases hg : chG l with
  | false =>
    rw [hg] at hS
    rw [chS_false hg] at hS
    have HS := Lib.hid hS
    have hsb : sqB l t = false := by unfold sqB; rw [hg]; rfl
    rw [sqR_false hsb, hsb]
    clear hS hg hsb
    go_enter Try.func48, Try.ntmps48
    go_wp2_with fail
    go_at_call 20
    generalize hw1 : World.alloc w _ = w1
    have r1 : w1.heap[w.heap.size]? = some (.cells #[.int .i64 0, .slice none 0 0, .slice none 0 0] 39 (0, 0)) := by rw [← hw1]; exact Array.getElem?_push_size
    have hb1 : Below w.heap.size w w1 := by rw [← hw1]; exact (Below.refl _ _).alloc (Nat.le_refl _) _
    have hs1 : w1.heap.size = w.heap.size + 1 := by rw [← hw1]; simp
    clear hw1
    refine (HS.out w1 hb1).mono ?_
    rintro e w2 ⟨A2, c2, rfl, _, hb2⟩
    have r2 := (hb2.block w.heap.size (by omega)).trans r1
    obtain ⟨t0, t1, t2, g0, g1, g2⟩ := cells3Q r2
    have HB2 := Lib.hid (hb1.trans (hb2.mono (by omega)))
    clear r1 r2 hb1 hb2
    go_wp2
    refine bodyPost_ret (v := .tuple #[.agg #[.int .i64 0, .slice none 0 0, .slice none 0 0], .bool false]) (by simp [results, Try.results48, go_sem, t0, t1, t2]) rfl ⟨none, none, 0, 0, rfl, OwP.zPl _ _, ?_⟩
    exact ((HB2.out.setCell (by simp) _).setCell (by simp) _).setCell (by simp) _
  | true =>
    have hch := chG_chn hg
    have hlp := hch.pos
    have hlm := hch.most
    have ASC := Lib.hid hch.asc
    have GG := Lib.hid hg
    rw [hg] at hS
    rw [chS_true hg] at hS
    have hSl : (stepsK l l.length).length ≤ 40 := by rw [stepsK_length]; omega
    obtain ⟨S, hSe⟩ : ∃ S, stepsK l l.length = S := ⟨_, rfl⟩
    rw [hSe] at hS hSl
    have HS := Lib.hid hS
    have HSE := Lib.hid hSe
    clear hS hg hch hSe
    go_enter Try.func48, Try.ntmps48
    go_wp2_with fail
    go_at_call 20
    generalize hw1 : World.alloc w _ = w1
    have r1 : w1.heap[w.heap.size]? = some (.cells #[.int .i64 0, .slice none 0 0, .slice none 0 0] 39 (0, 0)) := by rw [← hw1]; exact Array.getElem?_push_size
    have hb1 : Below w.heap.size w w1 := by rw [← hw1]; exact (Below.refl _ _).alloc (Nat.le_refl _) _
    have hs1 : w1.heap.size = w.heap.size + 1 := by rw [← hw1]; simp
    clear hw1
    refine (HS.out w1 hb1).mono ?_
    rintro e w2 ⟨A2, c2, rfl, hown2, hb2⟩
    have hs2 : w.heap.size + 1 ≤ w2.heap.size := by have := hb2.size; omega
    have R2 := Lib.hid ((hb2.block w.heap.size (by omega)).trans r1)
    have HB2 := Lib.hid (hb1.trans (hb2.mono (by omega)))
    have OW2 := Lib.hid hown2
    clear r1 hb1 hb2 hown2
    go_wp2
    go_loopw [8, 23] (fun ov iv wr => ∃ (k : Nat) (A3 : Option Addr) (c3 : Nat), k ≤ t.length ∧ iv = .int .i64 k ∧ ov = .slice A3 k c3 ∧ sqI l (t.take k) = true ∧ wr.ownsRow w2.heap.size 3 1 (.slice A3 k c3) k ((sqO l (t.take k)).map I) ∧ Below w2.heap.size w2 wr) (fun _ i _ => t.length - (intOf i).toNat)
    case atStart => exact ⟨0, none, 0, by omega, rfl, rfl, rfl, World.ownsRow_nil _ _ _ _, Below.refl _ _⟩
    case round =>
      obtain ⟨k, A3, c3, hk, rfl, rfl, hq, hown, hbel⟩ := hrel
      have OWN := Lib.hid hown
      have BEL := Lib.hid hbel
      have Q := Lib.hid hq
      have hs3 : w2.heap.size ≤ wr.heap.size := hbel.size
      have HBR := Lib.hid (HB2.out.trans (hbel.mono (show w.heap.size ≤ w2.heap.size by omega)))
      clear hown hbel hq
      by_cases hlt : k < t.length
      · obtain ⟨g, off, rfl, hgB, hc⟩ := (H1.out.below' HBR.out hB).cells (by omega)
        have ck := hc k hlt
        have ik : (k : Int) < (t.length : Int) := by omega
        have hS1 := sqI_succ (l := l) hlt
        have hS2 := sqO_succ (l := l) hlt
        have hS3 := sqI_false (l := l) hlt
        obtain ⟨x, hx⟩ : ∃ x, t.getD k 0 = x := ⟨_, rfl⟩
        rw [hx] at ck hS1 hS2 hS3
        have hF := find_any B A c l x wr (by omega) ASC.out (H.out.below' HBR.out hB)
        rw [← hasI_mem] at hF
        obtain ⟨a, ha⟩ : ∃ a, cnt l x = a := ⟨_, rfl⟩
        rw [ha] at hF hS2
        clear hc hx ha
        cases hh : hasI l x with
        | true =>
          rw [Q.out, hh] at hS1
          rw [hh] at hF
          have HF := Lib.hid hF
          have S1 := Lib.hid hS1
          have S2 := Lib.hid hS2
          clear hF hS1 hS2 hS3 hh
          go_wp2_with (first
            | (go_at_call 75; refine HF.out.mono ?_; rintro e w5 ⟨rfl, ⟨nd, rfl⟩⟩)
            | (at_builtin; refine list_step (fun K hK => ?_); refine step_app1 Try.underlying22 info_int rfl (by omega) rfl (.tmp 36) (.tmp 38) rfl w2.heap.size k _ ((sqO l (t.take k)).map I) rfl (World.ownsRow.alloc (own_below OWN.out (bDrewN (Below.refl _ wr) nd)) _) (wr.drewN nd).heap.size 1 (I (a : Int)) rfl (by rw [World.cell?_alloc_at _ _ _ _ rfl]; rfl) rfl (by omega) (by simp; omega) ?_; intro A5 c5 w6 hown6 hg6 hbel6; go_simp; refine hK _ _ ?_; clear hK K))
          go_roundw
          case rel =>
            refine ⟨k + 1, A5, c5, by omega, by go_num, rfl, by rw [S1.out]; rfl, ?_, ((bDrewN BEL.out nd).alloc (by simp; omega) _).trans hbel6⟩
            rw [S2.out, List.map_append]
            exact hown6
          case measure => simp [intOf]; omega
        | false =>
          rw [hh] at hF
          have HF := Lib.hid hF
          have hsb : sqB l t = false := by unfold sqB; rw [hS3 hh]; simp
          have ER := Lib.hid (sqR_false hsb)
          have EB := Lib.hid hsb
          have r3 := (BEL.out.block w.heap.size (by omega)).trans R2.out
          have R3 := Lib.hid (show ∀ n, (wr.drewN n).heap[w.heap.size]? = _ from fun n => r3)
          clear hF hS1 hS2 hS3 hh hsb r3
          go_wp2_with fail
          go_at_call 75
          refine HF.out.mono ?_
          rintro e w5 ⟨rfl, ⟨nd, rfl⟩⟩
          obtain ⟨t0, t1, t2, g0, g1, g2⟩ := cells3Q (R3.out nd)
          go_wp2
          refine bodyPost_ret (v := .tuple #[.agg #[.int .i64 0, .slice none 0 0, .slice none 0 0], .bool false]) (by simp [results, Try.results48, go_sem, t0, t1, t2]) rfl ⟨none, none, 0, 0, by rw [ER.out, EB.out]; rfl, by rw [ER.out]; exact OwP.zPl _ _, ?_⟩
          exact (((bDrewN HBR.out nd).setCell (by simp) _).setCell (by simp) _).setCell (by simp) _
      · have e : k = t.length := by omega
        have hI : sqI l t = true := by have h := Q.out; rw [e, List.take_length] at h; exact h
        have hout : ∀ x ∈ sqO l t, 0 ≤ x ∧ x < (l.length : Int) := by
          have h := sqO_rng ASC.out t t.length (by rw [List.take_length]; exact hI)
          rw [List.take_length] at h
          exact h
        have hgd := good_chain GG.out hout
        have hol : (sqO l t).length = t.length := by simp [sqO]
        rw [hol] at hgd
        have hsb : sqB l t = decide (t.length ≤ 6) := by unfold sqB; rw [GG.out, hI]; simp
        rw [HSE.out] at hgd
        have hT := fun (W : World) B1 B2 d1 d2 hr2 => implTrim_any W.heap.size B1 B2 d1 d2 ⟨1, S, sqO l t⟩ W (Nat.le_refl _) (by simp only; omega) (by simp only; omega) hr2
        simp only at hT
        rw [hgd, hol] at hT
        have HT := Lib.hid hT
        have hsr : (decide (t.length ≤ 6) = true → sqR l t = trimR ⟨1, S, sqO l t⟩) ∧ (decide (t.length ≤ 6) = false → sqR l t = trimR ⟨1, S, sqO l t⟩) := by
          refine ⟨fun h => ?_, fun h => ?_⟩
          · rw [sqR_true (hsb.trans h), HSE.out]
          · rw [sqR_false (hsb.trans h), trimR_bad (hgd.trans h)]
            rfl
        have hsr' : sqR l t = trimR ⟨1, S, sqO l t⟩ := by
          cases hd : decide (t.length ≤ 6) with
          | true => exact hsr.1 hd
          | false => exact hsr.2 hd
        have ER := Lib.hid hsr'
        have EB := Lib.hid hsb
        have HOUT := Lib.hid (show wr.ownsRow w2.heap.size 3 1 (.slice A3 t.length c3) t.length ((sqO l t).map I) from (by have h := OWN.out; rw [e, List.take_length] at h; exact h))
        have HSO := Lib.hid (show wr.ownsRow w.heap.size 51 2 (.slice A2 S.length c2) S.length (fl S) from own_base (own_below' OW2.out BEL.out (Nat.le_refl _)) (by omega))
        have R3 := Lib.hid ((BEL.out.block w.heap.size (by omega)).trans R2.out)
        obtain ⟨r, hrr⟩ : ∃ r, trimR ⟨1, S, sqO l t⟩ = r := ⟨_, rfl⟩
        have HT2 := Lib.hid (show ∀ (W : World) (B1 B2 : Option Addr) (d1 d2 : Nat), RdP W W.heap.size B1 B2 ⟨1, S, sqO l t⟩ → Calls Try.prog 70 #[.agg #[.int .i64 1, .slice B1 S.length d1, .slice B2 t.length d2]] W fun e w' => ∃ E1 E2 f1 f2, e = .returned (.tuple #[.agg #[.int .i64 r.n, .slice E1 r.s.length f1, .slice E2 r.o.length f2], .bool (decide (t.length ≤ 6))]) ∧ OwP w' W.heap.size E1 E2 f1 f2 r ∧ Below W.heap.size W w' from (by rw [← hrr]; exact HT.out))
        have RR := Lib.hid hrr
        subst e
        clear hI hout hgd hol hsb hT hsr hsr' hrr
        go_wp2_with fail
        go_at_call 70
        refine (HT2.out wr A2 A3 c2 c3 ⟨Rd.of_own HSO.out, (by have h := Rd.of_own HOUT.out; have e2 : (sqO l t).length = t.length := (by simp [sqO]); show Rd wr wr.heap.size 1 A3 (sqO l t).length ((sqO l t).map I); rw [e2]; exact h)⟩).mono ?_
        rintro e w7 ⟨E1, E2, f1, f2, rfl, hown7, hb7⟩
        have r7 := (hb7.block w.heap.size (by omega)).trans R3.out
        obtain ⟨t0, t1, t2, g0, g1, g2⟩ := cells3Q r7
        have R7 := Lib.hid r7
        have OW7 := Lib.hid (hown7.base (show w.heap.size ≤ wr.heap.size by omega))
        have HB7 := Lib.hid (HBR.out.trans (hb7.mono (by omega)))
        clear r7 hown7 hb7
        go_wp2
        refine bodyPost_ret (v := .tuple #[.agg #[.int .i64 r.n, .slice E1 r.s.length f1, .slice E2 r.o.length f2], .bool (decide (t.length ≤ 6))]) (by simp [results, Try.results48, go_sem, t0, t1, t2]) rfl ⟨E1, E2, f1, f2, ?_, ?_, ?_⟩
        · rw [ER.out, EB.out, RR.out]
        · rw [ER.out, RR.out]
          exact ⟨own_set3Q OW7.out.1 R7.out (by decide) _ _ _, own_set3Q OW7.out.2 R7.out (by decide) _ _ _⟩
        · exact ((HB7.out.setCell (by simp) _).setCell (by simp) _).setCell (by simp) _
end Go.Proofs.Ytbbjgcagkmlngac
