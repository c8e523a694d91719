/- TrimPlan, of the model and of the program. -/
import Derived.Test.YtbbjgcagkmlngacTa
namespace Go.Proofs.Ytbbjgcagkmlngac
open Go.RowKit

def zeroP : Pl := ⟨0, [], []⟩
def trimR (p : Pl) : Pl := if good p then ⟨p.n, keepS p p.n.toNat (usd p.n.toNat p.s p.o) (usd p.n.toNat p.s p.o).length, keepO p p.n.toNat (usd p.n.toNat p.s p.o) p.o.length⟩ else zeroP
theorem trimR_good {p : Pl} {N : Nat} (h : good p = true) (hN : p.n = N) : trimR p = ⟨p.n, keepS p N (usd N p.s p.o) (usd N p.s p.o).length, keepO p N (usd N p.s p.o) p.o.length⟩ := by
  have : p.n.toNat = N := by omega
  unfold trimR
  rw [if_pos h, this]
theorem trimR_bad {p : Pl} (h : good p = false) : trimR p = zeroP := by
  unfold trimR
  rw [if_neg (by rw [h]; decide)]
theorem trimR_len (p : Pl) : (trimR p).s.length ≤ 1000 ∧ (trimR p).o.length ≤ 1000 := by
  cases h : good p with
  | false => rw [trimR_bad h]; simp [zeroP]
  | true =>
    obtain ⟨N, hN, _, _, h40, ho6, _⟩ := good_facts h
    rw [trimR_good h hN]
    have := us_len N p.s p.o p.s.length
    simp only
    rw [keepS_len p N _ (Nat.le_refl _), keepO_len p N _ (Nat.le_refl _)]
    unfold usd
    omega
theorem usd_in {N : Nat} {s : List (Int × Int)} {o : List Int} : ∀ x ∈ usd N s o, 0 ≤ x ∧ x < (s.length : Int) := by
  intro x hx
  obtain ⟨i, h1, _, rfl⟩ := usd_mem.1 hx
  omega
/-- Boxes of a plan that came in and of a plan that is answered. -/
theorem boxes2 {w w2 : World} {a b c : Value} {t : TypeId} (h : (w.alloc (.cells #[a, b, c] t)).alloc (.cells #[.int .i64 0, .slice none 0 0, .slice none 0 0] 39) = w2) :
    w2.heap[w.heap.size]? = some (.cells #[a, b, c] t (0, 0)) ∧ w2.heap[w.heap.size + 1]? = some (.cells #[.int .i64 0, .slice none 0 0, .slice none 0 0] 39 (0, 0)) ∧ w2.heap.size = w.heap.size + 2 ∧ Below w.heap.size w w2 := by
  subst h
  refine ⟨?_, ?_, by simp, ((Below.refl _ _).alloc (Nat.le_refl _) _).alloc (by simp) _⟩
  · rw [Below.heap_alloc _ _ _ (by simp)]; exact heap_alloc_new w _
  · have := heap_alloc_new (w.alloc (.cells #[a, b, c] t)) (.cells #[.int .i64 0, .slice none 0 0, .slice none 0 0] 39)
    simpa using this
theorem cells3 {w : World} {g : Nat} {a b c : Value} {t : TypeId} (h : w.heap[g]? = some (.cells #[a, b, c] t (0, 0))) :
    w.cell? ⟨g, 0, none⟩ = some a ∧ w.cell? ⟨g, 1, none⟩ = some b ∧ w.cell? ⟨g, 2, none⟩ = some c ∧ w.frozen? ⟨g, 0, none⟩ = false ∧ w.frozen? ⟨g, 1, none⟩ = false ∧ w.frozen? ⟨g, 2, none⟩ = false := by
  refine ⟨?_, ?_, ?_, frozen_of_row w _ 0 _ _ h, frozen_of_row w _ 1 _ _ h, frozen_of_row w _ 2 _ _ h⟩
  · rw [cell_of_row w _ 0 _ _ (0, 0) h]; rfl
  · rw [cell_of_row w _ 1 _ _ (0, 0) h]; rfl
  · rw [cell_of_row w _ 2 _ _ (0, 0) h]; rfl
theorem OwP.zero (w : World) (B : Nat) : OwP w B none none 0 0 zeroP := ⟨World.ownsRow_nil _ _ _ _, World.ownsRow_nil _ _ _ _⟩

theorem owP_of3 {w : World} {g B n m : Nat} {B1 B2 : Option Addr} {d1 d2 : Nat} {s : List (Int × Int)} {o : List Int} {z : Int} {t : TypeId} {cs : Array Value} (h : OwS w B (.slice B1 n d1) s) (h' : OwI w B (.slice B2 m d2) o) (hg : w.heap[g]? = some (.cells cs t (0, 0)))
    (ht : t ≠ 51) (ht' : t ≠ 3) (hn : s.length = n) (hm : o.length = m) (a b c : Value) :
    OwP (((w.setCell ⟨g, 0, none⟩ a).setCell ⟨g, 1, none⟩ b).setCell ⟨g, 2, none⟩ c) B B1 B2 d1 d2 ⟨z, s, o⟩ := by
  subst hn
  subst hm
  exact ⟨own_set3 h hg ht a b c, own_set3 h' hg ht' a b c⟩

set_option maxRecDepth 100000 in
set_option maxHeartbeats 1000000 in
theorem implTrim_any (B : Nat) (A1 A2 : Option Addr) (c1 c2 : Nat) (p : Pl) (w : World) (hB : B ≤ w.heap.size) (hls : p.s.length ≤ 2000000) (hlo : p.o.length ≤ 2000000) (hr : RdP w B A1 A2 p) :
    Calls Try.prog 70 #[.agg #[.int .i64 p.n, .slice A1 p.s.length c1, .slice A2 p.o.length c2]] w fun e w' =>
      ∃ B1 B2 d1 d2, e = .returned (.tuple #[.agg #[.int .i64 (trimR p).n, .slice B1 (trimR p).s.length d1, .slice B2 (trimR p).o.length d2], .bool (good p)]) ∧ OwP w' w.heap.size B1 B2 d1 d2 (trimR p) ∧ Below w.heap.size w w' := by
  have H := Lib.hid hr
  clear hr
  go_enter Try.func70, Try.ntmps70
  go_wp2_with fail
  go_at_call 83
  generalize hw1 : World.alloc (World.alloc w _) _ = w1
  obtain ⟨q0, q1, xs, xb⟩ := boxes2 hw1
  clear hw1 q0
  refine (withValues_any B A1 A2 c1 c2 p w1 (by omega) hls hlo (H.out.below' xb hB)).mono ?_
  rintro e w2 ⟨hb2, hpost⟩
  have r1 := (hb2.block (w.heap.size + 1) (by omega)).trans q1
  have HB2 := Lib.hid (xb.trans (hb2.mono (show w.heap.size ≤ w1.heap.size by omega)))
  have hs2 : w.heap.size + 2 ≤ w2.heap.size := by have := hb2.size; omega
  clear q1 xs xb hb2
  rw [valsI_eq] at hpost
  by_cases hg : good p = true
  · rw [if_pos hg] at hpost
    simp only at hpost
    obtain ⟨A, c, rfl, hown⟩ := hpost
    obtain ⟨N, hN, n1, n6, hs40, ho6, hok, hout, _⟩ := good_facts hg
    rw [rows_len hN]
    have hul := us_len N p.s p.o p.s.length
    have ea := trimR_good hg hN
    have hpu := fun W hBW hrW => usedSteps_any w.heap.size N (N + p.s.length) A1 A2 A c1 c2 c p W hN n6 hs40 ho6 rfl hBW hok hout hrW
    have hpk := fun W A' c' hBW hrW hlW => keep_any W.heap.size N (N + p.s.length) A1 A2 A A' c1 c2 c c' p (usd N p.s p.o) W hN n1 n6 (by unfold usd; omega) (by omega) (by omega) hBW usd_in (usd_nodup _ _ _) hok hout (usd_cover hout) hrW hlW
    have hkk := usd_ok (p := p) hok
    obtain ⟨U, hU⟩ : ∃ U, usd N p.s p.o = U := ⟨_, rfl⟩
    have hUl : U.length ≤ 40 := by rw [← hU]; unfold usd; omega
    rw [hU] at ea hpu hpk hkk
    have EA := Lib.hid ea
    have HPU := Lib.hid hpu
    have HPK := Lib.hid hpk
    have HKK := Lib.hid hkk
    have HN := Lib.hid hN
    have HG := Lib.hid hg
    have R1 := Lib.hid r1
    clear ea hpu hpk hkk hU hok hout hN hul hown hg r1
    go_wp2
    generalize hw3 : World.alloc w2 _ = w3
    obtain ⟨v0, v1, v2, v3, xs, xb⟩ := box4 hw3
    clear hw3
    have FS := Lib.hid (show ∀ x, Below w3.heap.size w3 x → x.cell? ⟨w2.heap.size, 0, none⟩ = some (.int .i64 p.n) ∧ x.cell? ⟨w2.heap.size, 1, none⟩ = some (.slice A1 p.s.length c1) ∧ x.cell? ⟨w2.heap.size, 2, none⟩ = some (.slice A2 p.o.length c2) ∧ x.cell? ⟨w2.heap.size, 3, none⟩ = some (.slice A (N + p.s.length) c) from fun x hx =>
      ⟨(hx.cell (p := ⟨w2.heap.size, 0, none⟩) (by simp only []; omega)).trans v0, (hx.cell (p := ⟨w2.heap.size, 1, none⟩) (by simp only []; omega)).trans v1, (hx.cell (p := ⟨w2.heap.size, 2, none⟩) (by simp only []; omega)).trans v2, (hx.cell (p := ⟨w2.heap.size, 3, none⟩) (by simp only []; omega)).trans v3⟩)
    have S0 := Lib.hid (show Below w3.heap.size w3 w3.drew from (Below.refl _ _).drew)
    have HB3 := Lib.hid (HB2.out.trans (xb.mono HB2.out.size))
    have R3 := Lib.hid ((xb.block (w.heap.size + 1) (by omega)).trans R1.out)
    have hs3 : w.heap.size + 3 ≤ w3.heap.size := by omega
    clear v0 v1 v2 v3 xs xb
    refine wp_region_T (fun x : World => Below w3.heap.size w3 x) [0, 1, 4, 5, 7] [0, 1] (.ls 0 (.ls 1 (.hv 2 (.hv 3 (.lp 4 (.lp 5 (.hv 6 (.lp 7 (.done))))))))) (by kernel_rfl) (by kernel_rfl) ?_
    refine T_ls1 (v := .agg #[.int .i64 p.n, .slice A1 p.s.length c1, .slice A2 p.o.length c2, .slice A (N + p.s.length) c]) rfl rfl S0.out (fun x hx => (by obtain ⟨h0, h1, h2, h3⟩ := FS.out x hx; go_simp)) (fun K hK => ?_)
    (go_simp; refine hK _ ?_; clear hK K)
    refine T_ls1 (v := .agg #[.int .i64 p.n, .slice A1 p.s.length c1, .slice A2 p.o.length c2, .slice A (N + p.s.length) c]) rfl rfl S0.out (fun x hx => (by obtain ⟨h0, h1, h2, h3⟩ := FS.out x hx; go_simp)) (fun K hK => ?_)
    (go_simp; refine hK _ ?_; clear hK K)
    refine T_hvS rfl (fun K hK => ?_)
    go_simp
    go_at_call 85
    refine (HPU.out w3.drew (by simp; omega) (((H.out.below' HB3.out hB).more hB).drew)).mono ?_
    rintro e w4 ⟨A3, c3, rfl, hown4, hb4⟩
    have hb34 : Below w3.heap.size w3 w4 := (Below.refl _ _).drew.trans (hb4.mono (by simp))
    have HO4 := Lib.hid hown4
    have HB34 := Lib.hid hb34
    clear hown4 hb4
    go_simp
    refine hK _ _ hb34 ?_
    clear hK K hb34
    refine T_hv rfl (by kernel_rfl) (fun K hK => ?_)
    go_simp
    go_at_call 84
    have hbw4 : Below w.heap.size w w4 := HB3.out.trans (HB34.out.mono (by omega))
    refine (HPK.out w4 A3 c3 (Nat.le_refl _) ((H.out.below' hbw4 hB).more (by have := hbw4.size; omega)) HO4.out.rd).mono ?_
    rintro e w5 ⟨hb5, hpost⟩
    rw [if_pos HKK.out] at hpost
    obtain ⟨B1, B2, d1, d2, rfl, hs5, ho5⟩ := hpost
    have hb35 : Below w3.heap.size w3 w5 := HB34.out.trans (hb5.mono HB34.out.size)
    have r5 := (hb35.block (w.heap.size + 1) (by omega)).trans R3.out
    obtain ⟨t0, t1, t2, g0, g1, g2⟩ := cells3 r5
    have R5 := Lib.hid r5
    have HS5 := Lib.hid (own_base hs5 (show w.heap.size ≤ w4.heap.size from hbw4.size))
    have HO5 := Lib.hid (own_base ho5 (show w.heap.size ≤ w4.heap.size from hbw4.size))
    have HB5 := Lib.hid (HB3.out.trans (hb35.mono (by omega)))
    clear r5 hs5 ho5 hb5 hb35 hbw4
    (go_simp; refine hK _ _ ?_; clear hK K)
    (repeat (refine T_lp rfl (fun K hK => ?_); go_simp; refine hK _ ?_; clear hK K))
    (refine T_hv rfl (by kernel_rfl) (fun K hK => ?_); go_simp; refine hK _ _ ?_; clear hK K)
    (repeat (refine T_lp rfl (fun K hK => ?_); go_simp; refine hK _ ?_; clear hK K))
    refine T_done ?_
    go_wp2
    refine bodyPost_ret (v := .tuple #[.agg #[.int .i64 (N : Int), .slice B1 U.length d1, .slice B2 p.o.length d2], .bool true]) (by simp [results, Try.results70, go_sem, t0, t1, t2]) rfl ⟨B1, B2, d1, d2, ?_, ?_, ?_⟩
    · rw [EA.out, HG.out]
      simp only
      rw [keepS_len p N U (Nat.le_refl _), keepO_len p N U (Nat.le_refl _), HN.out]
    · rw [EA.out]
      exact owP_of3 HS5.out HO5.out R5.out (by decide) (by decide) (keepS_len p N U (Nat.le_refl _)) (keepO_len p N U (Nat.le_refl _)) _ _ _
    · exact ((HB5.out.setCell (by simp) _).setCell (by simp) _).setCell (by simp) _
  · rw [if_neg hg] at hpost
    simp only at hpost
    subst hpost
    have hg' : good p = false := by simpa using hg
    have ea := trimR_bad hg'
    have EA := Lib.hid ea
    have HG := Lib.hid hg'
    have hR1 : ∀ o, (w2.alloc o).heap[w.heap.size + 1]? = some (.cells #[.int .i64 0, .slice none 0 0, .slice none 0 0] 39 (0, 0)) := fun o => (Below.heap_alloc w2 o _ (by omega)).trans r1
    have t0 := fun o => (cells3 (hR1 o)).1
    have t1 := fun o => (cells3 (hR1 o)).2.1
    have t2 := fun o => (cells3 (hR1 o)).2.2.1
    have g0 := fun o => (cells3 (hR1 o)).2.2.2.1
    have g1 := fun o => (cells3 (hR1 o)).2.2.2.2.1
    have g2 := fun o => (cells3 (hR1 o)).2.2.2.2.2
    clear hg hg' ea hR1 r1
    go_wp2
    refine bodyPost_ret (v := .tuple #[.agg #[.int .i64 0, .slice none 0 0, .slice none 0 0], .bool false]) (by simp [results, Try.results70, go_sem, t0, t1, t2]) rfl ⟨none, none, 0, 0, by rw [EA.out, HG.out]; rfl, by rw [EA.out]; exact OwP.zero _ _, ?_⟩
    exact (((HB2.out.alloc HB2.out.size _).setCell (by simp) _).setCell (by simp) _).setCell (by simp) _
end Go.Proofs.Ytbbjgcagkmlngac
