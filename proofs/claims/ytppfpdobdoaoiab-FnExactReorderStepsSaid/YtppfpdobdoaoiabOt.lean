/- ReorderSteps: what both sides answer. -/
import Derived.Test.YtppfpdobdoaoiabOs
import Derived.Test.YtppfpdobdoaoiabPb
namespace Go.Proofs.Ytppfpdobdoaoiab
open Go.RowKit

def reoB (p : Pl) (l : List Int) : Bool := good p && ordB p.n.toNat p l
def reoR (p : Pl) (l : List Int) : Pl := if reoB p l then ⟨p.n, keepS p p.n.toNat l l.length, keepO p p.n.toNat l p.o.length⟩ else zeroQ
theorem reoR_bad {p : Pl} {l : List Int} (h : reoB p l = false) : reoR p l = zeroQ := by
  unfold reoR
  rw [if_neg (by rw [h]; decide)]
theorem reoR_good {p : Pl} {l : List Int} {N : Nat} (h : reoB p l = true) (hN : p.n = N) : reoR p l = ⟨p.n, keepS p N l l.length, keepO p N l p.o.length⟩ := by
  have : p.n.toNat = N := by omega
  unfold reoR
  rw [if_pos h, this]
theorem reoB_eq {p : Pl} {l : List Int} {N : Nat} (hg : good p = true) (hN : p.n = N) : reoB p l = (prmB p.s.length l && kOk N p l l.length) := by
  have : p.n.toNat = N := by omega
  unfold reoB
  rw [hg, Bool.true_and, this, ord_split]
theorem reo_cover {p : Pl} {l : List Int} {N : Nat} (h : prmB p.s.length l = true) (hout : ∀ x ∈ p.o, 0 ≤ x ∧ x < (N : Int) + p.s.length) : ∀ x ∈ p.o, nmOk N l x = true := by
  obtain ⟨h1, h2, h3⟩ := prm_facts h
  intro x hx
  obtain ⟨o1, o2⟩ := hout x hx
  unfold nmOk
  rw [Bool.or_eq_true, decide_eq_true_eq]
  by_cases hv : x < N
  · exact .inl hv
  · right
    unfold hasI
    simp only [List.contains_eq_mem, decide_eq_true_eq]
    exact pig_mem h2 h3 h1 (by omega) (by omega)
theorem reoR_len (p : Pl) (l : List Int) : (reoR p l).s.length ≤ 1000 ∧ (reoR p l).o.length ≤ 1000 := by
  cases h : reoB p l with
  | false => rw [reoR_bad h]; simp [zeroQ]
  | true =>
    have hg : good p = true := by unfold reoB at h; rw [Bool.and_eq_true] at h; exact h.1
    obtain ⟨N, hN, _, _, h40, ho6, _⟩ := good_facts hg
    have h2 := h
    rw [reoB_eq hg hN, Bool.and_eq_true] at h2
    obtain ⟨h3, _⟩ := prm_facts h2.1
    rw [reoR_good h hN]
    simp only
    rw [keepS_len p N l (Nat.le_refl _), keepO_len p N l (Nat.le_refl _)]
    omega
theorem owP_of3b {w : World} {g B n m : Nat} {B1 B2 : Option Addr} {d1 d2 : Nat} {s : List (Int × Int)} {o : List Int} {z : Int} {t : TypeId} {cs : Array Value} (h : OwS w B (.slice B1 n d1) s) (h' : OwI w B (.slice B2 m d2) o) (hg : w.heap[g]? = some (.cells cs t (0, 0)))
    (ht : t ≠ 60) (ht' : t ≠ 3) (hn : s.length = n) (hm : o.length = m) (a b c : Value) :
    OwP (((w.setCell ⟨g, 0, none⟩ a).setCell ⟨g, 1, none⟩ b).setCell ⟨g, 2, none⟩ c) B B1 B2 d1 d2 ⟨z, s, o⟩ := by
  subst hn
  subst hm
  exact ⟨own_set3 h hg ht a b c, own_set3 h' hg ht' a b c⟩

set_option maxRecDepth 100000 in
set_option maxHeartbeats 4000000 in
theorem specReo_any (B : Nat) (A1 A2 AL : Option Addr) (c1 c2 cl : Nat) (p : Pl) (l : List Int) (w : World) (hB : B ≤ w.heap.size) (hls : p.s.length ≤ 2000000) (hlo : p.o.length ≤ 2000000) (hll : l.length ≤ 1048576) (hcap : l.length ≤ cl) (hr : RdP w B A1 A2 p) (hrl : Rd w B 1 AL l.length (l.map I)) :
    Calls Try.prog 22 #[.agg #[.int .i64 p.n, .slice A1 p.s.length c1, .slice A2 p.o.length c2], .slice AL l.length cl] w fun e w' =>
      ∃ B1 B2 d1 d2, e = .returned (.tuple #[.agg #[.int .i64 (reoR p l).n, .slice B1 (reoR p l).s.length d1, .slice B2 (reoR p l).o.length d2], .bool (reoB p l)]) ∧ OwP w' w.heap.size B1 B2 d1 d2 (reoR p l) ∧ Below w.heap.size w w' := by
  have H := Lib.hid hr
  have HL := Lib.hid hrl
  clear hr hrl
  obtain ⟨gd, hgd⟩ : ∃ x, good p = x := ⟨_, rfl⟩
  have HG := Lib.hid hgd
  go_enter Try.func22, Try.ntmps22
  go_wp2_with fail
  go_at_call 26
  generalize hw1 : World.alloc (World.alloc w _) _ = w1
  obtain ⟨q0, q1, xs, xb⟩ := boxes2b hw1
  clear hw1
  have hC := plGood_any w.heap.size A1 A2 c1 c2 p w1 (by omega) hls hlo ((H.out.below' xb hB).more hB)
  rw [hgd] at hC
  refine hC.mono ?_
  rintro e w2 ⟨rfl, hb2⟩
  clear hC hgd
  have r0 := (hb2.block w.heap.size (by omega)).trans q0
  have r1 := (hb2.block (w.heap.size + 1) (by omega)).trans q1
  obtain ⟨y0, y1, y2, _, _, _⟩ := cells3b r0
  obtain ⟨t0, t1, t2, g0, g1, g2⟩ := cells3b r1
  have HB2 := Lib.hid (xb.trans (hb2.mono (show w.heap.size ≤ w1.heap.size by omega)))
  have hs2 : w.heap.size + 2 ≤ w2.heap.size := by have := hb2.size; omega
  have R0 := Lib.hid r0
  have R1 := Lib.hid r1
  clear q0 q1 xs xb hb2 r0 r1
  cases gd with
  | false =>
    have hb : reoB p l = false := by simp [reoB, HG.out]
    have HBF := Lib.hid hb
    have EA := Lib.hid (reoR_bad hb)
    clear hb
    go_wp2
    refine bodyPost_ret (v := .tuple #[.agg #[.int .i64 0, .slice none 0 0, .slice none 0 0], .bool false]) (by simp [results, Try.results22, go_sem, t0, t1, t2]) rfl ⟨none, none, 0, 0, by rw [EA.out, HBF.out]; rfl, by rw [EA.out]; exact OwP.zeroQ _ _, ?_⟩
    exact ((HB2.out.setCell (by simp) _).setCell (by simp) _).setCell (by simp) _
  | true =>
    obtain ⟨N, hN, n1, n6, hs40, ho6, hok, hout, _⟩ := good_facts HG.out
    have hpo := fun W hBW hrW hlW => plOrder_any B N A1 A2 AL c1 c2 cl p l W hN n6 hs40 hll hcap hBW hok hrW hlW
    have heq : reoB p l = ordB N p l := by
      have : p.n.toNat = N := by omega
      unfold reoB
      rw [HG.out, Bool.true_and, this]
    have heq2 := reoB_eq (l := l) HG.out hN
    have HEQ := Lib.hid heq
    have HPO := Lib.hid hpo
    clear hpo heq t0 t1 t2 g0 g1 g2
    cases hob : ordB N p l with
    | false =>
      have hb := HEQ.out.trans hob
      have hpo := HPO.out
      rw [hob] at hpo
      have HPO2 := Lib.hid hpo
      have HBF := Lib.hid hb
      have EA := Lib.hid (reoR_bad hb)
      clear hb hpo hob heq2 hN hok hout
      go_wp2_with fail
      go_at_call 47
      refine (HPO2.out w2 (by omega) (H.out.below' HB2.out hB) (HL.out.below' HB2.out hB)).mono ?_
      rintro e w3 ⟨rfl, hb3⟩
      obtain ⟨t0, t1, t2, g0, g1, g2⟩ := cells3b ((hb3.block (w.heap.size + 1) (by omega)).trans R1.out)
      have HB3 := Lib.hid (HB2.out.trans (hb3.mono (by omega)))
      clear hb3 y0 y1 y2
      go_wp2
      refine bodyPost_ret (v := .tuple #[.agg #[.int .i64 0, .slice none 0 0, .slice none 0 0], .bool false]) (by simp [results, Try.results22, go_sem, t0, t1, t2]) rfl ⟨none, none, 0, 0, by rw [EA.out, HBF.out]; rfl, by rw [EA.out]; exact OwP.zeroQ _ _, ?_⟩
      exact ((HB3.out.setCell (by simp) _).setCell (by simp) _).setCell (by simp) _
    | true =>
      have hb := HEQ.out.trans hob
      rw [hb] at heq2
      have hprm : prmB p.s.length l = true := by
        have := heq2.symm
        rw [Bool.and_eq_true] at this
        exact this.1
      obtain ⟨hlm, _, hlr⟩ := prm_facts hprm
      have hpk := fun (W : World) hBW hrW hlW => plKeep_any B N A1 A2 AL c1 c2 cl p l W hN n6 (by omega) (by omega) (by omega) hBW hlr hok hout hrW hlW
      have hpo := HPO.out
      rw [hob] at hpo
      have HPO2 := Lib.hid hpo
      have HPK := Lib.hid hpk
      have HBT := Lib.hid hb
      have EA := Lib.hid (reoR_good hb hN)
      have HN := Lib.hid hN
      clear hb hpo hob heq2 hN hok hout hprm hlm hlr hpk
      go_wp2_with fail
      go_at_call 47
      refine (HPO2.out w2 (by omega) (H.out.below' HB2.out hB) (HL.out.below' HB2.out hB)).mono ?_
      rintro e w3 ⟨rfl, hb3⟩
      obtain ⟨z0, z1, z2, _, _, _⟩ := cells3b ((hb3.block w.heap.size (by omega)).trans R0.out)
      have r3 := (hb3.block (w.heap.size + 1) (by omega)).trans R1.out
      have R3 := Lib.hid r3
      have HB3 := Lib.hid (HB2.out.trans (hb3.mono (by omega)))
      have hs3 : w.heap.size + 2 ≤ w3.heap.size := by have := hb3.size; omega
      clear hb3 y0 y1 y2 r3
      go_wp2_with fail
      go_at_call 48
      refine (HPK.out w3 (by omega) (H.out.below' HB3.out hB) (HL.out.below' HB3.out hB)).mono ?_
      rintro e w4 ⟨B1, B2, d1, d2, rfl, hs4, ho4, hb4⟩
      have r4 := (hb4.block (w.heap.size + 1) (by omega)).trans R3.out
      obtain ⟨t0, t1, t2, g0, g1, g2⟩ := cells3b r4
      have R4 := Lib.hid r4
      have HS4 := Lib.hid (own_base hs4 (show w.heap.size ≤ w3.heap.size by omega))
      have HO4 := Lib.hid (own_base ho4 (show w.heap.size ≤ w3.heap.size by omega))
      have HB4 := Lib.hid (HB3.out.trans (hb4.mono (by omega)))
      clear r4 hs4 ho4 hb4
      go_wp2
      refine bodyPost_ret (v := .tuple #[.agg #[.int .i64 (N : Int), .slice B1 l.length d1, .slice B2 p.o.length d2], .bool true]) (by simp [results, Try.results22, go_sem, t0, t1, t2]) rfl ⟨B1, B2, d1, d2, ?_, ?_, ?_⟩
      · rw [EA.out, HBT.out]
        simp only
        rw [keepS_len p N l (Nat.le_refl _), keepO_len p N l (Nat.le_refl _), HN.out]
      · rw [EA.out]
        exact owP_of3b HS4.out HO4.out R4.out (by decide) (by decide) (keepS_len p N l (Nat.le_refl _)) (keepO_len p N l (Nat.le_refl _)) _ _ _
      · exact ((HB4.out.setCell (by simp) _).setCell (by simp) _).setCell (by simp) _

set_option maxRecDepth 100000 in
set_option maxHeartbeats 4000000 in
theorem implReo_any (B : Nat) (A1 A2 AL : Option Addr) (c1 c2 cl : Nat) (p : Pl) (l : List Int) (w : World) (hB : B ≤ w.heap.size) (hls : p.s.length ≤ 2000000) (hlo : p.o.length ≤ 2000000) (hll : l.length ≤ 1048576) (_hcap : l.length ≤ cl) (hr : RdP w B A1 A2 p) (hrl : Rd w B 1 AL l.length (l.map I)) :
    Calls Try.prog 23 #[.agg #[.int .i64 p.n, .slice A1 p.s.length c1, .slice A2 p.o.length c2], .slice AL l.length cl] w fun e w' =>
      ∃ B1 B2 d1 d2, e = .returned (.tuple #[.agg #[.int .i64 (reoR p l).n, .slice B1 (reoR p l).s.length d1, .slice B2 (reoR p l).o.length d2], .bool (reoB p l)]) ∧ OwP w' w.heap.size B1 B2 d1 d2 (reoR p l) ∧ Below w.heap.size w w' := by
  have H := Lib.hid hr
  have HL := Lib.hid hrl
  clear hr hrl
  go_enter Try.func23, Try.ntmps23
  go_wp2_with fail
  go_at_call 45
  generalize hw1 : World.alloc (World.alloc w _) _ = w1
  obtain ⟨q0, q1, xs, xb⟩ := boxes2b hw1
  clear hw1
  refine (withValues_any B A1 A2 c1 c2 p w1 (by omega) hls hlo (H.out.below' xb hB)).mono ?_
  rintro e w2 ⟨hb2, hpost⟩
  have r0 := (hb2.block w.heap.size (by omega)).trans q0
  have r1 := (hb2.block (w.heap.size + 1) (by omega)).trans q1
  have HB2 := Lib.hid (xb.trans (hb2.mono (show w.heap.size ≤ w1.heap.size by omega)))
  have hs2 : w.heap.size + 2 ≤ w2.heap.size := by have := hb2.size; omega
  clear q0 q1 xs xb hb2
  rw [valsI_eq] at hpost
  by_cases hg : good p = true
  · rw [if_pos hg] at hpost
    simp only at hpost
    obtain ⟨A, c, rfl, hown⟩ := hpost
    obtain ⟨N, hN, n1, n6, hs40, ho6, hok, hout, _⟩ := good_facts hg
    have hn' : p.n.toNat = N := by omega
    rw [hn', List.length_map, exps_length]
    have heq := reoB_eq (l := l) hg hN
    have hkp := fun (h : prmB p.s.length l = true) (W : World) hBW hrW hlW => keep_any B N (N + p.s.length) A1 A2 A AL c1 c2 c cl p l W hN n1 n6 (by have := (prm_facts h).1; omega) (by omega) (by omega) hBW (prm_facts h).2.2 (prm_facts h).2.1 hok hout (reo_cover h hout) hrW hlW
    have hio := fun W hBW hrW => isOrderOf_any B p.s.length AL cl l W (by omega) hll hBW hrW
    have HEQ := Lib.hid heq
    have HKP := Lib.hid hkp
    have HGD := Lib.hid (fun (h : reoB p l = true) => reoR_good h hN)
    have HN := Lib.hid hN
    obtain ⟨gp, hgp⟩ : ∃ g, prmB p.s.length l = g := ⟨_, rfl⟩
    rw [hgp] at hio
    have HIO := Lib.hid hio
    have HGP := Lib.hid hgp
    clear heq hkp hio hgp hown hg hok hout hN hn'
    have kk1 := fun o => (cells3b ((Below.heap_alloc w2 o w.heap.size (by omega)).trans r0)).2.1
    go_wp2_with fail
    go_at_call 49
    generalize hw3 : World.alloc w2 _ = w3
    obtain ⟨v0, v1, v2, v3, xs, xb⟩ := box4b hw3
    clear hw3 kk1
    have HB3 := Lib.hid (HB2.out.trans (xb.mono (by omega)))
    have R13 := Lib.hid ((xb.block (w.heap.size + 1) (by omega)).trans r1)
    clear xb r0 r1
    refine (HIO.out w3 (by omega) (HL.out.below' HB3.out hB)).mono ?_
    rintro e w4 ⟨rfl, hb4⟩
    have z0 := (hb4.cell (p := ⟨w2.heap.size, 0, none⟩) (by simp only []; omega)).trans v0
    have z1 := (hb4.cell (p := ⟨w2.heap.size, 1, none⟩) (by simp only []; omega)).trans v1
    have z2 := (hb4.cell (p := ⟨w2.heap.size, 2, none⟩) (by simp only []; omega)).trans v2
    have z3 := (hb4.cell (p := ⟨w2.heap.size, 3, none⟩) (by simp only []; omega)).trans v3
    have hs4 : w2.heap.size + 1 ≤ w4.heap.size := by have := hb4.size; omega
    have r4 := (hb4.block (w.heap.size + 1) (by omega)).trans R13.out
    have HB4 := Lib.hid (HB3.out.trans (hb4.mono (by omega)))
    have R4 := Lib.hid r4
    clear v0 v1 v2 v3 hb4 r4
    cases gp with
    | false =>
      have hb : reoB p l = false := by rw [HEQ.out, HGP.out]; rfl
      have HBF := Lib.hid hb
      have EA := Lib.hid (reoR_bad hb)
      obtain ⟨t0, t1, t2, g0, g1, g2⟩ := cells3b R4.out
      clear hb
      go_wp2
      refine bodyPost_ret (v := .tuple #[.agg #[.int .i64 0, .slice none 0 0, .slice none 0 0], .bool false]) (by simp [results, Try.results23, go_sem, t0, t1, t2]) rfl ⟨none, none, 0, 0, by rw [EA.out, HBF.out]; rfl, by rw [EA.out]; exact OwP.zeroQ _ _, ?_⟩
      exact ((HB4.out.setCell (by simp) _).setCell (by simp) _).setCell (by simp) _
    | true =>
      have hkp := HKP.out HGP.out
      have HKP2 := Lib.hid hkp
      clear hkp
      go_wp2_with fail
      go_at_call 50
      refine (HKP2.out w4 (by have := HB4.out.size; omega) (H.out.below' HB4.out hB) (HL.out.below' HB4.out hB)).mono ?_
      rintro e w5 ⟨hb5, hpost⟩
      have r5 := (hb5.block (w.heap.size + 1) (by omega)).trans R4.out
      obtain ⟨t0, t1, t2, g0, g1, g2⟩ := cells3b r5
      have R5 := Lib.hid r5
      have HB5 := Lib.hid (HB4.out.trans (hb5.mono (by omega)))
      clear r5 hb5 z0 z1 z2 z3
      by_cases hk : kOk N p l l.length = true
      · rw [if_pos hk] at hpost
        obtain ⟨B1, B2, d1, d2, rfl, hs5, ho5⟩ := hpost
        have hb : reoB p l = true := by rw [HEQ.out, HGP.out, hk]; rfl
        have HBT := Lib.hid hb
        have EA := Lib.hid (HGD.out hb)
        have HS5 := Lib.hid (own_base hs5 (show w.heap.size ≤ w4.heap.size by omega))
        have HO5 := Lib.hid (own_base ho5 (show w.heap.size ≤ w4.heap.size by omega))
        clear hb hs5 ho5 hk
        go_wp2
        refine bodyPost_ret (v := .tuple #[.agg #[.int .i64 (N : Int), .slice B1 l.length d1, .slice B2 p.o.length d2], .bool true]) (by simp [results, Try.results23, go_sem, t0, t1, t2]) rfl ⟨B1, B2, d1, d2, ?_, ?_, ?_⟩
        · rw [EA.out, HBT.out]
          simp only
          rw [keepS_len p N l (Nat.le_refl _), keepO_len p N l (Nat.le_refl _), HN.out]
        · rw [EA.out]
          exact owP_of3b HS5.out HO5.out R5.out (by decide) (by decide) (keepS_len p N l (Nat.le_refl _)) (keepO_len p N l (Nat.le_refl _)) _ _ _
        · exact ((HB5.out.setCell (by simp) _).setCell (by simp) _).setCell (by simp) _
      · rw [if_neg hk] at hpost
        subst hpost
        have hk' : kOk N p l l.length = false := by simpa using hk
        have hb : reoB p l = false := by rw [HEQ.out, HGP.out, hk']; rfl
        have HBF := Lib.hid hb
        have EA := Lib.hid (reoR_bad hb)
        clear hb hk hk'
        go_wp2
        refine bodyPost_ret (v := .tuple #[.agg #[.int .i64 0, .slice none 0 0, .slice none 0 0], .bool false]) (by simp [results, Try.results23, go_sem, t0, t1, t2]) rfl ⟨none, none, 0, 0, by rw [EA.out, HBF.out]; rfl, by rw [EA.out]; exact OwP.zeroQ _ _, ?_⟩
        exact ((HB5.out.setCell (by simp) _).setCell (by simp) _).setCell (by simp) _
  · rw [if_neg hg] at hpost
    simp only at hpost
    subst hpost
    have hg' : good p = false := by simpa using hg
    have hb : reoB p l = false := by simp [reoB, hg']
    have HBF := Lib.hid hb
    have EA := Lib.hid (reoR_bad hb)
    have hR1 : ∀ o, (w2.alloc o).heap[w.heap.size + 1]? = some (.cells #[.int .i64 0, .slice none 0 0, .slice none 0 0] 29 (0, 0)) := fun o => (Below.heap_alloc w2 o _ (by omega)).trans r1
    have t0 := fun o => (cells3b (hR1 o)).1
    have t1 := fun o => (cells3b (hR1 o)).2.1
    have t2 := fun o => (cells3b (hR1 o)).2.2.1
    have g0 := fun o => (cells3b (hR1 o)).2.2.2.1
    have g1 := fun o => (cells3b (hR1 o)).2.2.2.2.1
    have g2 := fun o => (cells3b (hR1 o)).2.2.2.2.2
    clear hg hg' hb hR1 r1 r0
    go_wp2
    refine bodyPost_ret (v := .tuple #[.agg #[.int .i64 0, .slice none 0 0, .slice none 0 0], .bool false]) (by simp [results, Try.results23, go_sem, t0, t1, t2]) rfl ⟨none, none, 0, 0, by rw [EA.out, HBF.out]; rfl, by rw [EA.out]; exact OwP.zeroQ _ _, ?_⟩
    exact (((HB2.out.alloc HB2.out.size _).setCell (by simp) _).setCell (by simp) _).setCell (by simp) _
end Go.Proofs.Ytppfpdobdoaoiab
