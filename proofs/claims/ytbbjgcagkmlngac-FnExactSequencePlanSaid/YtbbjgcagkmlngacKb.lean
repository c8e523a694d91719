/- A plan with only some steps, in an order: the model's. -/
import Derived.Test.YtbbjgcagkmlngacKa
namespace Go.Proofs.Ytbbjgcagkmlngac
open Go.RowKit

/-- Three stores into a plan's box. -/
theorem own_set3 {w : World} {g B sz n : Nat} {t e : TypeId} {v : Value} {xs : List Value} {cs : Array Value} (h : w.ownsRow B e sz v n xs) (hg : w.heap[g]? = some (.cells cs t (0, 0))) (ht : t ≠ e) (a b c : Value) :
    (((w.setCell ⟨g, 0, none⟩ a).setCell ⟨g, 1, none⟩ b).setCell ⟨g, 2, none⟩ c).ownsRow B e sz v n xs := by
  have h1 := own_set (o := 0) h hg ht a
  have k1 := heap_setCell_same w g 0 _ t a hg
  have h2 := own_set (o := 1) h1 k1 ht b
  have k2 := heap_setCell_same _ g 1 _ t b k1
  exact own_set (o := 2) h2 k2 ht c

set_option maxRecDepth 100000 in
set_option maxHeartbeats 4000000 in
theorem plKeep_any (B N : Nat) (A1 A2 A : Option Addr) (c1 c2 c : Nat) (p : Pl) (l : List Int) (w : World) (hpn : p.n = N) (h6 : N ≤ 6) (hl : l.length ≤ 1000) (hs40 : p.s.length ≤ 1000) (ho6 : p.o.length ≤ 1000) (hB : B ≤ w.heap.size)
    (hlr : ∀ x ∈ l, 0 ≤ x ∧ x < p.s.length) (hok : OkS N p.s) (hout : ∀ x ∈ p.o, 0 ≤ x ∧ x < (N : Int) + p.s.length) (hr : RdP w B A1 A2 p) (hrl : Rd w B 1 A l.length (l.map I)) :
    Calls Try.prog 73 #[.agg #[.int .i64 p.n, .slice A1 p.s.length c1, .slice A2 p.o.length c2], .slice A l.length c] w fun e w' =>
      ∃ B1 B2 d1 d2, e = .returned (.agg #[.int .i64 (N : Int), .slice B1 l.length d1, .slice B2 p.o.length d2]) ∧ OwS w' w.heap.size (.slice B1 l.length d1) (keepS p N l l.length) ∧ OwI w' w.heap.size (.slice B2 p.o.length d2) (keepO p N l p.o.length) ∧ Below w.heap.size w w' := by
  have H := Lib.hid hr
  have HL := Lib.hid hrl
  have HLR := Lib.hid hlr
  have HO := Lib.hid hok
  have HOUT := Lib.hid hout
  clear hr hrl hlr hok hout
  rw [hpn]
  clear hpn
  go_enter Try.func73, Try.ntmps73
  go_wp2
  generalize hw3 : World.alloc (World.alloc (World.alloc w _) _) _ = w3
  have q0 : w3.heap[w.heap.size]? = some (.cells #[.int .i64 (N : Int), .slice A1 p.s.length c1, .slice A2 p.o.length c2] 39 (0, 0)) := by
    rw [← hw3, Below.heap_alloc _ _ _ (by simp; omega), Below.heap_alloc _ _ _ (by simp)]; exact heap_alloc_new w _
  have q1 : w3.heap[w.heap.size + 1]? = some (.cells #[.int .i64 0, .slice none 0 0, .slice none 0 0] 39 (0, 0)) := by
    rw [← hw3, Below.heap_alloc _ _ _ (by simp)]
    have := heap_alloc_new (w.alloc (.cells #[.int .i64 (N : Int), .slice A1 p.s.length c1, .slice A2 p.o.length c2] 39)) (.cells #[.int .i64 0, .slice none 0 0, .slice none 0 0] 39)
    simpa using this
  have q2 : w3.heap[w.heap.size + 2]? = some (.cells #[.int .i64 (N : Int), .slice none 0 0, .slice none 0 0] 39 (0, 0)) := by
    rw [← hw3]
    have := heap_alloc_new ((w.alloc (.cells #[.int .i64 (N : Int), .slice A1 p.s.length c1, .slice A2 p.o.length c2] 39)).alloc (.cells #[.int .i64 0, .slice none 0 0, .slice none 0 0] 39)) (.cells #[.int .i64 (N : Int), .slice none 0 0, .slice none 0 0] 39)
    simpa using this
  have hs3 : w3.heap.size = w.heap.size + 3 := by rw [← hw3]; simp
  have hb3 : Below w.heap.size w w3 := by rw [← hw3]; exact (((Below.refl _ _).alloc (Nat.le_refl _) _).alloc (by simp) _).alloc (by simp; omega) _
  clear hw3
  have Q0 := Lib.hid q0
  have Q1 := Lib.hid q1
  have Q2 := Lib.hid q2
  have HB3 := Lib.hid hb3
  have HS3 := Lib.hid hs3
  clear q0 q1 q2 hb3 hs3
  go_loopw [16] (fun iv wr => ∃ (k : Nat) (B1 : Option Addr) (d1 : Nat), k ≤ l.length ∧ iv = .int .i64 k ∧ wr.heap[w.heap.size + 2]? = some (.cells #[.int .i64 (N : Int), .slice B1 k d1, .slice none 0 0] 39 (0, 0)) ∧
    wr.ownsRow (w.heap.size + 3) 51 2 (.slice B1 k d1) k (fl (keepS p N l k)) ∧ Below (w.heap.size + 2) w3 wr) (fun i _ => l.length - (intOf i).toNat)
  case atStart => exact ⟨0, none, 0, by omega, rfl, Q2.out, World.ownsRow_nil _ _ _ _, Below.refl _ _⟩
  case round =>
    obtain ⟨k, B1, d1, hk, rfl, hbox, hown, hbel⟩ := hrel
    have hsz : w.heap.size + 3 ≤ wr.heap.size := by have := HS3.out; have := hbel.size; omega
    have r0 := (hbel.block w.heap.size (by omega)).trans Q0.out
    have a0 : wr.cell? ⟨w.heap.size, 0, none⟩ = some (.int .i64 (N : Int)) := by rw [cell_of_row wr _ 0 _ _ (0, 0) r0]; rfl
    have a1 : wr.cell? ⟨w.heap.size, 1, none⟩ = some (.slice A1 p.s.length c1) := by rw [cell_of_row wr _ 1 _ _ (0, 0) r0]; rfl
    have a2 : wr.cell? ⟨w.heap.size, 2, none⟩ = some (.slice A2 p.o.length c2) := by rw [cell_of_row wr _ 2 _ _ (0, 0) r0]; rfl
    have b1 : wr.cell? ⟨w.heap.size + 2, 1, none⟩ = some (.slice B1 k d1) := by rw [cell_of_row wr _ 1 _ _ (0, 0) hbox]; rfl
    by_cases hlt : k < l.length
    · obtain ⟨o1, o2⟩ := HLR.out _ (List.getElem_mem hlt)
      obtain ⟨n, hn⟩ : ∃ n : Nat, l[k] = n := ⟨(l[k]).toNat, by omega⟩
      have hns : n < p.s.length := by omega
      have ins : (n : Int) < (p.s.length : Int) := by omega
      obtain ⟨lb, lo, rfl, hlb, hlc⟩ := ((HL.out.below' HB3.out hB).below' hbel (by omega)).int hlt
      rw [hn] at hlc
      obtain ⟨sb, off, rfl, hsb, hc1, hc2⟩ := ((H.out.1.below' HB3.out hB).below' hbel (by omega)).stp hns
      obtain ⟨s1, s2, s3⟩ := HO.out n hns
      obtain ⟨a, ha⟩ : ∃ a, (p.s[n]).1 = a := ⟨_, rfl⟩
      obtain ⟨b, hb⟩ : ∃ b, (p.s[n]).2 = b := ⟨_, rfl⟩
      rw [ha] at hc1 s1 s2
      rw [hb] at hc2 s2 s3
      have ba := numI_bd (l := l) h6 s1
      have bb := numI_bd (l := l) h6 (show 0 ≤ b by omega)
      have hst := keepS_succ (p := p) (N := N) hlt hn hns
      rw [ha, hb] at hst
      have hpa := fun W hBW hrW => plNumber_any B N (.slice (some ⟨sb, off, none⟩) p.s.length c1) (.slice A2 p.o.length c2) (some ⟨lb, lo, none⟩) c l a W h6 (by omega) s1 (by omega) hBW hrW
      have hpb := fun W hBW hrW => plNumber_any B N (.slice (some ⟨sb, off, none⟩) p.s.length c1) (.slice A2 p.o.length c2) (some ⟨lb, lo, none⟩) c l b W h6 (by omega) (by omega) (by omega) hBW hrW
      obtain ⟨x, hx⟩ : ∃ x, numI N l a = x := ⟨_, rfl⟩
      obtain ⟨y, hy⟩ : ∃ y, numI N l b = y := ⟨_, rfl⟩
      rw [hx] at hpa hst
      rw [hy] at hpb hst
      have HPA := Lib.hid hpa
      have HPB := Lib.hid hpb
      have HST := Lib.hid hst
      have OWN := Lib.hid hown
      have HBX := Lib.hid hbox
      have HBL := Lib.hid hbel
      clear hpa hpb hst hown hbox hbel ha hb hx hy ba bb s1 s2 s3 o1 o2 hn r0
      go_wp2
      generalize hw4 : World.alloc wr _ = w4
      obtain ⟨e0, e1, es, eb⟩ := box2 hw4
      clear hw4
      have a0' := (eb.cell (p := ⟨w.heap.size, 0, none⟩) (by simp only []; omega)).trans a0
      have a1' := (eb.cell (p := ⟨w.heap.size, 1, none⟩) (by simp only []; omega)).trans a1
      have a2' := (eb.cell (p := ⟨w.heap.size, 2, none⟩) (by simp only []; omega)).trans a2
      have b1' := (eb.cell (p := ⟨w.heap.size + 2, 1, none⟩) (by simp only []; omega)).trans b1
      have EB := Lib.hid eb
      have FS : ∀ x, Below w4.heap.size w4 x → x.cell? ⟨w.heap.size, 0, none⟩ = some (.int .i64 (N : Int)) ∧ x.cell? ⟨w.heap.size, 1, none⟩ = some (.slice (some ⟨sb, off, none⟩) p.s.length c1) ∧ x.cell? ⟨w.heap.size, 2, none⟩ = some (.slice A2 p.o.length c2) ∧
          x.cell? ⟨w.heap.size + 2, 1, none⟩ = some (.slice B1 k d1) ∧ x.cell? ⟨wr.heap.size, 0, none⟩ = some (.int .i64 a) ∧ x.cell? ⟨wr.heap.size, 1, none⟩ = some (.int .i64 b) := fun x hx =>
        ⟨(hx.cell (p := ⟨w.heap.size, 0, none⟩) (by simp only []; omega)).trans a0', (hx.cell (p := ⟨w.heap.size, 1, none⟩) (by simp only []; omega)).trans a1', (hx.cell (p := ⟨w.heap.size, 2, none⟩) (by simp only []; omega)).trans a2',
          (hx.cell (p := ⟨w.heap.size + 2, 1, none⟩) (by simp only []; omega)).trans b1', (hx.cell (p := ⟨wr.heap.size, 0, none⟩) (by simp only []; omega)).trans e0, (hx.cell (p := ⟨wr.heap.size, 1, none⟩) (by simp only []; omega)).trans e1⟩
      have FSH := Lib.hid FS
      have S0 := Lib.hid (show Below w4.heap.size w4 w4.drew from (Below.refl _ _).drew)
      clear a0 a1 a2 b1 eb hc1 hc2 a0' a1' a2' b1' e0 e1 FS
      refine wp_region_T (fun x : World => Below w4.heap.size w4 x) [0, 1, 2, 3, 4, 5, 7, 8, 9, 10, 15] [1, 2, 5, 7, 10] (.lp 0 (.lp 3 (.lp 4 (.lp 8 (.lp 9 (.ls 1 (.ls 2 (.ls 5 (.ls 7 (.ls 10 (.hv 6 (.hv 11 (.hv 12 (.hv 13 (.hv 14 (.lp 15 (.hv 16 (.done)))))))))))))))))) (by kernel_rfl) (by kernel_rfl) ?_
      (repeat (refine T_lp rfl (fun K hK => ?_); go_simp; refine hK _ ?_; clear hK K))
      refine T_ls1 (v := .slice B1 k d1) rfl rfl S0.out (fun x hx => (by obtain ⟨h0, h1, h2, h3, h4, h5⟩ := FSH.out x hx; go_simp)) (fun K hK => ?_)
      (go_simp; refine hK _ ?_; clear hK K)
      refine T_ls1 (v := .agg #[.int .i64 (N : Int), .slice (some ⟨sb, off, none⟩) p.s.length c1, .slice A2 p.o.length c2]) rfl rfl S0.out (fun x hx => (by obtain ⟨h0, h1, h2, h3, h4, h5⟩ := FSH.out x hx; go_simp)) (fun K hK => ?_)
      (go_simp; refine hK _ ?_; clear hK K)
      refine T_ls1 (v := .int .i64 a) rfl rfl S0.out (fun x hx => (by obtain ⟨h0, h1, h2, h3, h4, h5⟩ := FSH.out x hx; go_simp)) (fun K hK => ?_)
      (go_simp; refine hK _ ?_; clear hK K)
      refine T_ls1 (v := .agg #[.int .i64 (N : Int), .slice (some ⟨sb, off, none⟩) p.s.length c1, .slice A2 p.o.length c2]) rfl rfl S0.out (fun x hx => (by obtain ⟨h0, h1, h2, h3, h4, h5⟩ := FSH.out x hx; go_simp)) (fun K hK => ?_)
      (go_simp; refine hK _ ?_; clear hK K)
      refine T_ls1 (v := .int .i64 b) rfl rfl S0.out (fun x hx => (by obtain ⟨h0, h1, h2, h3, h4, h5⟩ := FSH.out x hx; go_simp)) (fun K hK => ?_)
      (go_simp; refine hK _ ?_; clear hK K)
      refine T_hvS rfl (fun K hK => ?_)
      go_simp
      go_at_call 87
      have hbw4 : Below w.heap.size w w4 := HB3.out.trans ((HBL.out.mono (by omega)).trans (EB.out.mono (by omega)))
      refine (HPA.out w4.drew (by have := hbw4.size; simp; omega) ((HL.out.below' hbw4 hB).drew)).mono ?_
      rintro e w5 ⟨rfl, hb5⟩
      have hb45 : Below w4.heap.size w4 w5 := (Below.refl _ _).drew.trans (hb5.mono (by simp))
      go_simp
      refine hK _ _ hb45 ?_
      clear hK K
      refine T_hvS rfl (fun K hK => ?_)
      go_simp
      go_at_call 87
      have hbw5 : Below w.heap.size w w5 := hbw4.trans (hb45.mono hbw4.size)
      refine (HPB.out w5 (by have := hbw5.size; omega) (HL.out.below' hbw5 hB)).mono ?_
      rintro e w6 ⟨rfl, hb6⟩
      have hb46 : Below w4.heap.size w4 w6 := hb45.trans (hb6.mono hb45.size)
      go_simp
      refine hK _ _ hb46 ?_
      clear hK K
      refine T_hvS rfl (fun K hK => ?_)
      go_simp
      go_at_call 86
      refine (plStep_any _ _ _).mono ?_
      rintro e w7 ⟨rfl, hb7⟩
      have hb47 : Below w4.heap.size w4 w7 := hb46.trans (hb7.mono hb46.size)
      have hbr7 : Below wr.heap.size wr w7 := EB.out.trans (hb47.mono EB.out.size)
      have OW7 := Lib.hid (own_below OWN.out hbr7)
      have BX7 := Lib.hid ((hbr7.block (w.heap.size + 2) (by omega)).trans HBX.out)
      have HB7 := Lib.hid (HBL.out.trans (hbr7.mono (by omega)))
      have hs7 : w.heap.size + 3 ≤ w7.heap.size := by have := hbr7.size; omega
      have HB47 := Lib.hid hb47
      clear hb5 hb6 hb7 hb45 hb46 hbr7 hbw4 hbw5
      go_simp
      refine hK _ _ hb47 ?_
      clear hK K hb47
      refine T_hvS rfl (fun K hK => ?_)
      go_simp
      refine hK _ _ (HB47.out.alloc HB47.out.size _) ?_
      clear hK K
      refine T_hv rfl (by kernel_rfl) (fun K hK => ?_)
      refine step_app2 Try.underlying26 info_step rfl (by omega) rfl (.tmp 26) (.tmp 38) rfl (w.heap.size + 3) k _ (fl (keepS p N l k)) rfl (World.ownsRow.alloc OW7.out _) w7.heap.size 1 (I (leastI x y)) (I (mostI x y)) rfl (by simp) (by simp) rfl rfl (by omega) (by simp; omega) ?_
      intro A4 c4 w8 hown8 hg8 hbel8
      have bx8 : w8.heap[w.heap.size + 2]? = _ := (hbel8.block (w.heap.size + 2) (by omega)).trans ((Below.heap_alloc w7 _ (w.heap.size + 2) (by omega)).trans BX7.out)
      have k0 : w8.cell? ⟨w.heap.size + 2, 1, none⟩ = some (.slice B1 k d1) := by rw [cell_of_row w8 _ 1 _ _ (0, 0) bx8]; rfl
      have k1 : w8.frozen? ⟨w.heap.size + 2, 1, none⟩ = false := frozen_of_row w8 _ 1 _ _ bx8
      have BX8 := Lib.hid bx8
      clear bx8
      (go_simp; refine hK _ _ ?_; clear hK K)
      (repeat (first | (refine T_lp rfl (fun K hK => ?_); go_simp; refine hK _ ?_; clear hK K) | (refine T_ls rfl rfl (fun K hK => ?_); go_simp; refine hK _ ?_; clear hK K)))
      (refine T_hv rfl (by kernel_rfl) (fun K hK => ?_); go_simp; refine hK _ _ ?_; clear hK K)
      refine T_done ?_
      go_wp2
      go_roundw
      case rel =>
        refine ⟨k + 1, A4, c4, by omega, by go_num, ?_, ?_, (((HB7.out.alloc (by omega) _).trans (hbel8.mono (by omega))).setCell (by simp) _)⟩
        · rw [heap_setCell_same w8 _ 1 _ _ _ BX8.out]; rfl
        · have h := own_set (o := 1) hown8 BX8.out (by decide) (.slice A4 (k + 1) c4)
          rw [HST.out, fl_snoc]
          exact h
      case measure => simp [intOf]; omega
    · have hk' : k = l.length := by omega
      subst hk'
      have v2 := a2
      have BX := Lib.hid hbox
      have OWN := Lib.hid hown
      have HB4 := Lib.hid hbel
      have HZ := Lib.hid hsz
      clear a0 a1 a2 b1 hbox hown hbel hsz r0
      go_wp2
      go_loopw [45] (fun iv wq => ∃ (j : Nat) (B2 : Option Addr) (d2 : Nat), j ≤ p.o.length ∧ iv = .int .i64 j ∧ wq.heap[w.heap.size + 2]? = some (.cells #[.int .i64 (N : Int), .slice B1 l.length d1, .slice B2 j d2] 39 (0, 0)) ∧
        wq.ownsRow (w.heap.size + 3) 51 2 (.slice B1 l.length d1) l.length (fl (keepS p N l l.length)) ∧ wq.ownsRow (w.heap.size + 3) 3 1 (.slice B2 j d2) j ((keepO p N l j).map I) ∧ Below (w.heap.size + 2) w3 wq) (fun i _ => p.o.length - (intOf i).toNat)
      case atStart => exact ⟨0, none, 0, by omega, rfl, BX.out, OWN.out, World.ownsRow_nil _ _ _ _, HB4.out⟩
      case round =>
        obtain ⟨j, B2, d2, hj, rfl, hbox, hown, howo, hbel⟩ := hrel
        have hsz : w.heap.size + 3 ≤ wr.heap.size := by have := HS3.out; have := hbel.size; omega
        have r0 := (hbel.block w.heap.size (by omega)).trans Q0.out
        have a0 : wr.cell? ⟨w.heap.size, 0, none⟩ = some (.int .i64 (N : Int)) := by rw [cell_of_row wr _ 0 _ _ (0, 0) r0]; rfl
        have a1 : wr.cell? ⟨w.heap.size, 1, none⟩ = some (.slice A1 p.s.length c1) := by rw [cell_of_row wr _ 1 _ _ (0, 0) r0]; rfl
        have a2 : wr.cell? ⟨w.heap.size, 2, none⟩ = some (.slice A2 p.o.length c2) := by rw [cell_of_row wr _ 2 _ _ (0, 0) r0]; rfl
        have b2 : wr.cell? ⟨w.heap.size + 2, 2, none⟩ = some (.slice B2 j d2) := by rw [cell_of_row wr _ 2 _ _ (0, 0) hbox]; rfl
        by_cases hlt : j < p.o.length
        · obtain ⟨ob, oo, rfl, hob, hoc⟩ := ((H.out.2.below' HB3.out hB).below' hbel (by omega)).int hlt
          obtain ⟨o1, o2⟩ := HOUT.out _ (List.getElem_mem hlt)
          have hst := keepO_succ (p := p) (N := N) (l := l) hlt
          obtain ⟨v, hv⟩ : ∃ v, p.o[j] = v := ⟨_, rfl⟩
          rw [hv] at hoc o1 o2 hst
          have hpa := fun W hBW hrW => plNumber_any B N (.slice A1 p.s.length c1) (.slice (some ⟨ob, oo, none⟩) p.o.length c2) A c l v W h6 (by omega) o1 (by omega) hBW hrW
          obtain ⟨x, hx⟩ : ∃ x, numI N l v = x := ⟨_, rfl⟩
          rw [hx] at hpa hst
          have HPA := Lib.hid hpa
          have HST := Lib.hid hst
          have OWS := Lib.hid hown
          have OWO := Lib.hid howo
          have HBX := Lib.hid hbox
          have HBL := Lib.hid hbel
          clear hpa hst hown howo hbox hbel hv hx o1 o2 r0
          go_wp2
          have FS : ∀ x, Below wr.heap.size wr x → x.cell? ⟨w.heap.size, 0, none⟩ = some (.int .i64 (N : Int)) ∧ x.cell? ⟨w.heap.size, 1, none⟩ = some (.slice A1 p.s.length c1) ∧ x.cell? ⟨w.heap.size, 2, none⟩ = some (.slice (some ⟨ob, oo, none⟩) p.o.length c2) ∧
              x.cell? ⟨w.heap.size + 2, 2, none⟩ = some (.slice B2 j d2) := fun x hx =>
            ⟨(hx.cell (p := ⟨w.heap.size, 0, none⟩) (by simp only []; omega)).trans a0, (hx.cell (p := ⟨w.heap.size, 1, none⟩) (by simp only []; omega)).trans a1, (hx.cell (p := ⟨w.heap.size, 2, none⟩) (by simp only []; omega)).trans a2,
              (hx.cell (p := ⟨w.heap.size + 2, 2, none⟩) (by simp only []; omega)).trans b2⟩
          have FSH := Lib.hid FS
          have S0 := Lib.hid (show Below wr.heap.size wr wr.drew from (Below.refl _ _).drew)
          clear a0 a1 a2 b2 FS
          refine wp_region_T (fun x : World => Below wr.heap.size wr x) [0, 1, 2, 3, 4, 8] [1, 2] (.lp 0 (.lp 3 (.lp 4 (.ls 1 (.ls 2 (.hv 5 (.hv 6 (.hv 7 (.lp 8 (.hv 9 (.done))))))))))) (by kernel_rfl) (by kernel_rfl) ?_
          (repeat (refine T_lp rfl (fun K hK => ?_); go_simp; refine hK _ ?_; clear hK K))
          refine T_ls1 (v := .slice B2 j d2) rfl rfl S0.out (fun x hx => (by obtain ⟨h0, h1, h2, h3⟩ := FSH.out x hx; go_simp)) (fun K hK => ?_)
          (go_simp; refine hK _ ?_; clear hK K)
          refine T_ls1 (v := .agg #[.int .i64 (N : Int), .slice A1 p.s.length c1, .slice (some ⟨ob, oo, none⟩) p.o.length c2]) rfl rfl S0.out (fun x hx => (by obtain ⟨h0, h1, h2, h3⟩ := FSH.out x hx; go_simp)) (fun K hK => ?_)
          (go_simp; refine hK _ ?_; clear hK K)
          refine T_hvS rfl (fun K hK => ?_)
          go_simp
          go_at_call 87
          have hbw4 : Below w.heap.size w wr := HB3.out.trans (HBL.out.mono (by omega))
          refine (HPA.out wr.drew (by simp; omega) ((HL.out.below' hbw4 hB).drew)).mono ?_
          rintro e w5 ⟨rfl, hb5⟩
          have hb45 : Below wr.heap.size wr w5 := (Below.refl _ _).drew.trans (hb5.mono (by simp))
          have OS5 := Lib.hid (own_below OWS.out hb45)
          have OO5 := Lib.hid (own_below OWO.out hb45)
          have BX5 := Lib.hid ((hb45.block (w.heap.size + 2) (by omega)).trans HBX.out)
          have HB5 := Lib.hid (HBL.out.trans (hb45.mono (by omega)))
          have hs5 : w.heap.size + 3 ≤ w5.heap.size := by have := hb45.size; omega
          have HB45 := Lib.hid hb45
          clear hb5 hbw4
          go_simp
          refine hK _ _ hb45 ?_
          clear hK K hb45
          refine T_hvS rfl (fun K hK => ?_)
          go_simp
          refine hK _ _ (HB45.out.alloc HB45.out.size _) ?_
          clear hK K
          refine T_hv rfl (by kernel_rfl) (fun K hK => ?_)
          refine step_app1 Try.underlying22 info_int rfl (by omega) rfl (.tmp 50) (.tmp 55) rfl (w.heap.size + 3) j _ ((keepO p N l j).map I) rfl (World.ownsRow.alloc OO5.out _) w5.heap.size 1 (I x) rfl (by simp) rfl (by omega) (by simp; omega) ?_
          intro A4 c4 w8 hown8 hg8 hbel8
          have bx8 : w8.heap[w.heap.size + 2]? = _ := (hbel8.block (w.heap.size + 2) (by omega)).trans ((Below.heap_alloc w5 _ (w.heap.size + 2) (by omega)).trans BX5.out)
          have k0 : w8.cell? ⟨w.heap.size + 2, 2, none⟩ = some (.slice B2 j d2) := by rw [cell_of_row w8 _ 2 _ _ (0, 0) bx8]; rfl
          have k1 : w8.frozen? ⟨w.heap.size + 2, 2, none⟩ = false := frozen_of_row w8 _ 2 _ _ bx8
          have os8 := World.ownsRow.kept (World.ownsRow.alloc OS5.out (Obj.cells #[Value.int IntKind.i64 x] 3)) hg8 (own_ne (World.ownsRow.alloc OS5.out (Obj.cells #[Value.int IntKind.i64 x] 3)) (World.ownsRow.alloc OO5.out _) (by decide))
          have BX8 := Lib.hid bx8
          have OS8 := Lib.hid os8
          clear bx8 os8 hg8
          (go_simp; refine hK _ _ ?_; clear hK K)
          (repeat (first | (refine T_lp rfl (fun K hK => ?_); go_simp; refine hK _ ?_; clear hK K) | (refine T_ls rfl rfl (fun K hK => ?_); go_simp; refine hK _ ?_; clear hK K)))
          (refine T_hv rfl (by kernel_rfl) (fun K hK => ?_); go_simp; refine hK _ _ ?_; clear hK K)
          refine T_done ?_
          go_wp2
          go_roundw
          case rel =>
            refine ⟨j + 1, A4, c4, by omega, by go_num, ?_, own_set (o := 2) OS8.out BX8.out (by decide) _, ?_, (((HB5.out.alloc (by omega) _).trans (hbel8.mono (by omega))).setCell (by simp) _)⟩
            · rw [heap_setCell_same w8 _ 2 _ _ _ BX8.out]; rfl
            · rw [HST.out, List.map_append]
              exact own_set (o := 2) hown8 BX8.out (by decide) (.slice A4 (j + 1) c4)
          case measure => simp [intOf]; omega
        · have hj' : j = p.o.length := by omega
          subst hj'
          have b0 : wr.cell? ⟨w.heap.size + 2, 0, none⟩ = some (.int .i64 (N : Int)) := by rw [cell_of_row wr _ 0 _ _ (0, 0) hbox]; rfl
          have b1 : wr.cell? ⟨w.heap.size + 2, 1, none⟩ = some (.slice B1 l.length d1) := by rw [cell_of_row wr _ 1 _ _ (0, 0) hbox]; rfl
          have r1 := (hbel.block (w.heap.size + 1) (by omega)).trans Q1.out
          have t0 : wr.cell? ⟨w.heap.size + 1, 0, none⟩ = some (.int .i64 0) := by rw [cell_of_row wr _ 0 _ _ (0, 0) r1]; rfl
          have t1 : wr.cell? ⟨w.heap.size + 1, 1, none⟩ = some (.slice none 0 0) := by rw [cell_of_row wr _ 1 _ _ (0, 0) r1]; rfl
          have t2 : wr.cell? ⟨w.heap.size + 1, 2, none⟩ = some (.slice none 0 0) := by rw [cell_of_row wr _ 2 _ _ (0, 0) r1]; rfl
          have g0 : wr.frozen? ⟨w.heap.size + 1, 0, none⟩ = false := frozen_of_row wr _ 0 _ _ r1
          have g1 : wr.frozen? ⟨w.heap.size + 1, 1, none⟩ = false := frozen_of_row wr _ 1 _ _ r1
          have g2 : wr.frozen? ⟨w.heap.size + 1, 2, none⟩ = false := frozen_of_row wr _ 2 _ _ r1
          have R1 := Lib.hid r1
          have OWS := Lib.hid hown
          have OWO := Lib.hid howo
          have HBL := Lib.hid (HB3.out.trans (hbel.mono (show w.heap.size ≤ w.heap.size + 2 by omega)))
          clear a0 a1 a2 r0 r1 hbox hown howo hbel
          go_wp2
          refine bodyPost_ret (v := .agg #[.int .i64 (N : Int), .slice B1 l.length d1, .slice B2 p.o.length d2]) (by simp [results, Try.results73, go_sem, t0, t1, t2]) rfl ⟨B1, B2, d1, d2, rfl, ?_, ?_, ?_⟩
          · have h := own_set3 (own_base OWS.out (show w.heap.size ≤ w.heap.size + 3 by omega)) R1.out (by decide) (.int .i64 (N : Int)) (.slice B1 l.length d1) (.slice B2 p.o.length d2)
            show World.ownsRow _ _ _ _ _ _ _
            rw [keepS_len p N l (Nat.le_refl _)]
            exact h
          · have h := own_set3 (own_base OWO.out (show w.heap.size ≤ w.heap.size + 3 by omega)) R1.out (by decide) (.int .i64 (N : Int)) (.slice B1 l.length d1) (.slice B2 p.o.length d2)
            show World.ownsRow _ _ _ _ _ _ _
            rw [keepO_len p N l (Nat.le_refl _)]
            exact h
          · exact ((HBL.out.setCell (by simp) _).setCell (by simp) _).setCell (by simp) _
end Go.Proofs.Ytbbjgcagkmlngac
