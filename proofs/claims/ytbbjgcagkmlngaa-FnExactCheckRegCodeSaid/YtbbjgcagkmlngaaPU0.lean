/- Joined: Oa Ve0 Ob Oc Ps Pt Pu Pv Rpg. -/
import Derived.Test.YtbbjgcagkmlngaaPR0
import Derived.Test.YtbbjgcagkmlngaaPT0
import Derived.Test.YtbbjgcagkmlngaaPR1
import Derived.Test.YtbbjgcagkmlngaaPS0
/- Lists of lists that the laws compare, mark and look at again. -/
namespace Go.Proofs.Ytbbjgcagkmlngaa
open Go.RowKit

def TT (f : Nat → Option Addr × Nat) (N k : Nat) : List Value := (List.range k).map fun i => Value.slice (f i).1 N (f i).2
def upd (f : Nat → Option Addr × Nat) (k : Nat) (a : Option Addr × Nat) : Nat → Option Addr × Nat := fun i => if i = k then a else f i
def OwE (w : World) (B : Nat) (f : Nat → Option Addr × Nat) (N k : Nat) (r : Nat → List Int) : Prop := ∀ i, i < k → w.ownsRow B 3 1 (.slice (f i).1 N (f i).2) N ((r i).map I)
def Far (f : Nat → Option Addr × Nat) (N k : Nat) : Prop := ∀ i j, i < k → j < k → i ≠ j → (Value.slice (f i).1 N (f i).2).ownBlock = none ∨ (Value.slice (f i).1 N (f i).2).ownBlock ≠ (Value.slice (f j).1 N (f j).2).ownBlock
/-- A list of R lists of N numbers each, all of it own. -/
def OwL (w : World) (B : Nat) (A : Option Addr) (c : Nat) (f : Nat → Option Addr × Nat) (N R : Nat) (r : Nat → List Int) : Prop := w.ownsRow B 22 1 (.slice A R c) R (TT f N R) ∧ OwE w B f N R r
theorem TT_length (f : Nat → Option Addr × Nat) (N k : Nat) : (TT f N k).length = k := by simp [TT]
theorem TT_at (f : Nat → Option Addr × Nat) (N : Nat) {k i : Nat} (hi : i < k) : (TT f N k)[i]? = some (Value.slice (f i).1 N (f i).2) := by simp [TT, hi]
theorem TT_upd (f : Nat → Option Addr × Nat) (N k : Nat) (A : Option Addr) (c : Nat) : TT (upd f k (A, c)) N (k + 1) = TT f N k ++ [Value.slice A N c] := by
  unfold TT
  rw [List.range_succ, List.map_append]
  congr 1
  · apply List.map_congr_left
    intro i hi
    have : i ≠ k := by have := List.mem_range.1 hi; omega
    simp [upd, this]
  · simp [upd]
section
variable {w w' : World} {B B' : Nat} {A : Option Addr} {c N R k : Nat} {f : Nat → Option Addr × Nat} {r : Nat → List Int}
theorem OwE.below (h : OwE w B f N k r) (hb : Below w.heap.size w w') : OwE w' B f N k r := fun i hi => own_below (h i hi) hb
theorem OwE.base (h : OwE w B f N k r) (hB : B' ≤ B) : OwE w B' f N k r := fun i hi => own_base (h i hi) hB
theorem OwL.below (h : OwL w B A c f N R r) (hb : Below w.heap.size w w') : OwL w' B A c f N R r := ⟨own_below h.1 hb, h.2.below hb⟩
theorem OwL.base (h : OwL w B A c f N R r) (hB : B' ≤ B) : OwL w B' A c f N R r := ⟨own_base h.1 hB, h.2.base hB⟩
theorem OwL.drewN (h : OwL w B A c f N R r) (n : Nat) : OwL (w.drewN n) B A c f N R r := h
theorem OwL.win {lo hi : Nat} (hw : Win lo hi w w') (h : OwL w B A c f N R r) (hB : hi ≤ B) : OwL w' B A c f N R r := ⟨hw.own h.1 hB, fun i hi => hw.own (h.2 i hi) hB⟩
/-- Row i: its slice value's cell, and its numbers. -/
theorem OwL.at_ (h : OwL w B A c f N R r) {i : Nat} (hi : i < R) : ∃ g, A = some ⟨g, 0, none⟩ ∧ B ≤ g ∧ g < w.heap.size ∧ w.cell? ⟨g, i, none⟩ = some (Value.slice (f i).1 N (f i).2) ∧ Rd w w.heap.size 1 (f i).1 N ((r i).map I) ∧ (r i).length = N := by
  obtain ⟨g, rfl, hB, hg, hc, _⟩ := own_at h.1 (by omega)
  have h2 := h.2 i hi
  exact ⟨g, rfl, hB, hg, by rw [hc i (by omega), TT_at f N hi], Rd.of_own h2, by have := h2.1; simpa using this⟩
end

def mkRw (m : Int) (N k : Nat) (r : Nat → List Int) : Nat → List Int := fun i => if i < k then marksI (m + (i : Int) * (N : Int)) N else r i
end Go.Proofs.Ytbbjgcagkmlngaa
/- The exponents of one value, of the model and of the program. -/
namespace Go.Proofs.Ytbbjgcagkmlngaa
open Go.RowKit

theorem arr_slice (b o N : Nat) (h6 : N ≤ 6) (W : World) : (Instr.sliceAt 154 (.pointer (some ⟨b, o, none⟩)) none (some (.int .i64 (N : Int))) none).run Try.prog W = .ok (.slice (some ⟨b, o, none⟩) N 6) W := by
  have hal : Try.prog.arrayLen 154 = 6 := by kernel_rfl
  have hel : Try.prog.elem 154 = 3 := by kernel_rfl
  obtain ⟨i0, hi, _, _, _⟩ := info_parts info_int
  rw [run_sliceAt_array_h W 154 ⟨b, o, none⟩ (by kernel_rfl) .i64 N (by omega) (by rw [hal]; omega), hel, hal]
  simp [sizeOf, typeInfo, hi, slicedAt, Addr.add]
theorem eq_nil_slice (A : Option Addr) (n c : Nat) (W : World) : (binOp .eql 22 (.slice A n c) (.slice none 0 0)).run Try.prog W = .ok (.bool A.isNone) W := by
  simp only [binOp]
  simp [run_equal_slice_nil W 22 3 A n c Try.underlying22]

set_option maxRecDepth 100000 in
set_option maxHeartbeats 400000 in
theorem clone_any (B : Nat) (A : Option Addr) (c : Nat) (l : List Int) (w : World) (hm : l.length ≤ 1000000) (hB : B ≤ w.heap.size) (hA : A = none → l = []) (hr : Rd w B 1 A l.length (l.map I)) :
    Calls Try.prog 132 #[.slice A l.length c] w fun e w' => ∃ A' c', e = .returned (.slice A' l.length c') ∧ OwI w' w.heap.size (.slice A' l.length c') l ∧ Below w.heap.size w w' := by
  have H := Lib.hid hr
  clear hr
  have hnil := fun W => eq_nil_slice A l.length c W
  cases A with
  | none =>
    have hl := hA rfl
    subst hl
    have hnil0 := fun W => eq_nil_slice none 0 c W
    go_enter Try.func132, Try.ntmps132
    go_wp2
    go_ret
    exact ⟨none, 0, rfl, OwI.nil _ _, Below.refl _ _⟩
  | some ad =>
    clear hA
    go_enter Try.func132, Try.ntmps132
    go_wp2_with (first
      | (at_builtin; refine list_step (fun K hK => ?_); refine step_appM Try.underlying22 info_int rfl (by omega) (by omega) rfl (.tmp 5) (.tmp 6) rfl w.heap.size 0 _ [] rfl (own_empty 1 (Nat.le_refl _)) _ l.length c (l.map I) rfl (H.out.alloc hB _) (ints_one l) (by omega) (by simp) ?_; intro A2 c2 w2 hown2 hg2 hbel2; go_simp; refine hK _ _ ?_; clear hK K))
    go_ret
    simp only [Nat.zero_add, List.nil_append] at hown2
    exact ⟨A2, c2, by simp, hown2, ((Below.refl _ _).alloc (Nat.le_refl _) _).trans hbel2⟩

/-- The first exponents of a value, out of the program's array. -/
theorem row_rd {w : World} {B N v : Nat} {A : Option Addr} {E : List (List Int)} (hE : OkR N E) (h6 : N ≤ 6) (hv : v < E.length) (hr : Rd w B 6 A E.length (fl6 (E.map (pad N)))) :
    ∃ b off, A = some ⟨b, off, none⟩ ∧ b < B ∧ Rd w B 1 (some ⟨b, off + v * 6, none⟩) (E[v]).length ((E[v]).map I) ∧ (∃ u, w.cell? ⟨b, off + v * 6, none⟩ = some u) := by
  obtain ⟨b, off, rfl, hb, hc⟩ := hr.2 (by omega)
  have hl : (E[v]).length = N := (hE _ (List.getElem_mem hv)).1
  have hsix := six_pad hE h6
  have hvl : v < (E.map (pad N)).length := by simpa using hv
  refine ⟨b, off, rfl, hb, ⟨by simp, fun _ => ⟨b, off + v * 6, rfl, hb, fun j hj => ?_⟩⟩, ?_⟩
  · have hj' : j < N := by omega
    rw [show off + v * 6 + j = off + (v * 6 + j) by omega, hc _ (by omega), fl6_at hsix hvl (by omega)]
    have hjl : j < (E[v]).length := by omega
    simp [pad, hjl, List.getElem?_append_left]
  · have := fl6_at hsix hvl (j := 0) (by omega)
    rw [Nat.add_zero] at this
    exact ⟨_, (hc (v * 6) (by omega)).trans this⟩

set_option maxRecDepth 100000 in
set_option maxHeartbeats 1000000 in
theorem row_any (B N v : Nat) (z1 z2 : Value) (A : Option Addr) (c : Nat) (E : List (List Int)) (w : World) (h1 : 1 ≤ N) (h6 : N ≤ 6) (hE : OkR N E) (hv : v < E.length) (hB : B ≤ w.heap.size) (hr : Rd w B 6 A E.length (fl6 (E.map (pad N)))) :
    Calls Try.prog 141 #[.agg #[.int .i64 (N : Int), z1, z2, .slice A E.length c], .int .i64 (v : Int)] w fun e w' =>
      ∃ A' c', e = .returned (.slice A' (E[v]).length c') ∧ OwI w' w.heap.size (.slice A' (E[v]).length c') (E[v]) ∧ Below w.heap.size w w' := by
  obtain ⟨b, off, rfl, hb, hrd, u, hu⟩ := row_rd hE h6 hv hr
  have hl : (E[v]).length = N := (hE _ (List.getElem_mem hv)).1
  have H := Lib.hid hrd
  have HL := Lib.hid hl
  have ivE : (v : Int) < (E.length : Int) := by omega
  have hsl := arr_slice b (off + v * 6) N h6
  clear hr hrd hl
  go_enter Try.func141, Try.ntmps141
  go_wp2
  refine wp_region_Tw [0, 1, 2, 3, 4, 5, 6, 7, 8, 10] [2, 7] (.lp 0 (.lp 1 (.lp 3 (.lp 5 (.lp 6 (.ls 2 (.lp 4 (.ls 7 (.lp 8 (.hv 9 (.lp 10 (.done)))))))))))) (by kernel_rfl) (by kernel_rfl) ?_
  (repeat (first | (refine T_lp rfl (fun K hK => ?_); go_simp; refine hK _ ?_; clear hK K) | (refine T_ls rfl rfl (fun K hK => ?_); go_simp; refine hK _ ?_; clear hK K)))
  (refine T_hv rfl (by kernel_rfl) (fun K hK => ?_); go_simp)
  go_at_call 132
  generalize hw1 : World.drew (World.alloc w _) = w1
  have hb1 : Below w.heap.size w w1 := by rw [← hw1]; exact ((Below.refl _ _).alloc (Nat.le_refl _) _).drew
  clear hw1
  have hC := clone_any B (some ⟨b, off + v * 6, none⟩) 6 E[v] w1 (by have := HL.out; omega) (by have := hb1.size; omega) (fun h => by cases h) (H.out.below' hb1 hB)
  have hlen := HL.out
  rw [hlen] at hC
  refine hC.mono ?_
  rintro e w2 ⟨A2, c2, rfl, hown2, hb2⟩
  (go_simp; refine hK _ _ ?_; clear hK K)
  (repeat (first | (refine T_lp rfl (fun K hK => ?_); go_simp; refine hK _ ?_; clear hK K) | (refine T_ls rfl rfl (fun K hK => ?_); go_simp; refine hK _ ?_; clear hK K)))
  refine T_done ?_
  go_wp2
  go_ret
  exact ⟨A2, c2, by rw [hlen]; rfl, by rw [hlen]; exact hown2.base hb1.size, hb1.trans (hb2.mono hb1.size)⟩

def vxB (p : Pl) (x : Int) : Bool := good p && inB x 0 (p.n + p.s.length - 1)
def vxL (p : Pl) (x : Int) : List Int := if vxB p x then (exps p.n.toNat p.s).getD x.toNat [] else []
theorem vx_facts {p : Pl} {x : Int} (h : vxB p x = true) : ∃ N v : Nat, p.n = N ∧ x = v ∧ 1 ≤ N ∧ N ≤ 6 ∧ p.s.length ≤ 40 ∧ OkS N p.s ∧ v < N + p.s.length ∧ OkR N (exps N p.s) := by
  unfold vxB at h
  rw [Bool.and_eq_true] at h
  obtain ⟨N, hN, n1, n6, hs40, _, hok, _, _⟩ := good_facts h.1
  have h2 : 0 ≤ x ∧ x ≤ p.n + p.s.length - 1 := by simpa [inB] using h.2
  refine ⟨N, x.toNat, hN, by omega, n1, n6, hs40, hok, by omega, ?_⟩
  have := exps_ok hok p.s.length (Nat.le_refl _)
  rwa [List.take_of_length_le (Nat.le_refl _)] at this
theorem vxL_eq {p : Pl} {x : Int} {N v : Nat} (h : vxB p x = true) (hN : p.n = N) (hv : x = v) (hlt : v < (exps N p.s).length) : vxL p x = (exps N p.s)[v] := by
  have e1 : p.n.toNat = N := by omega
  have e2 : x.toNat = v := by omega
  unfold vxL
  rw [if_pos h, e1, e2]
  simp [hlt]
theorem vxL_len (p : Pl) (x : Int) : (vxL p x).length ≤ 6 := by
  cases h : vxB p x with
  | false => simp [vxL, h]
  | true =>
    obtain ⟨N, v, hN, hv, _, n6, _, _, hlt, hokr⟩ := vx_facts h
    have hlt' : v < (exps N p.s).length := by rw [exps_length]; exact hlt
    rw [vxL_eq h hN hv hlt', (hokr _ (List.getElem_mem hlt')).1]
    exact n6

end Go.Proofs.Ytbbjgcagkmlngaa
/- The exponents of all outputs, of the model and of the program. -/
namespace Go.Proofs.Ytbbjgcagkmlngaa
open Go.RowKit

/-- The exponents of output i. -/
def pw (p : Pl) (N : Nat) (i : Nat) : List Int := (exps N p.s).getD (p.o.getD i 0).toNat []
theorem pw_at {p : Pl} {N v : Nat} {i : Nat} (hi : i < p.o.length) (hv : p.o[i] = (v : Int)) (hlt : v < (exps N p.s).length) : pw p N i = (exps N p.s)[v] := by
  unfold pw
  have e : p.o.getD i 0 = (v : Int) := by simp [hi, hv]
  rw [e]
  simp [hlt]
theorem info_nilS : (Try.prog.info? 22).map (fun i => (i.zero, i.size, i.bytes)) = some (some (.slice none 0 0), 1, 24) := info_ints

set_option maxRecDepth 100000 in
set_option maxHeartbeats 2000000 in
theorem plPowers_any (B N : Nat) (A1 A2 : Option Addr) (c1 c2 : Nat) (p : Pl) (w : World) (hpn : p.n = N) (n1 : 1 ≤ N) (h6 : N ≤ 6) (hs40 : p.s.length ≤ 40) (ho6 : p.o.length ≤ 6) (hB : B ≤ w.heap.size) (hok : OkS N p.s) (hout : ∀ x ∈ p.o, 0 ≤ x ∧ x < (N : Int) + p.s.length) (hr : RdP w B A1 A2 p) :
    Calls Try.prog 123 #[.agg #[.int .i64 p.n, .slice A1 p.s.length c1, .slice A2 p.o.length c2]] w fun e w' =>
      ∃ A c f, e = .returned (.slice A p.o.length c) ∧ OwL w' w.heap.size A c f N p.o.length (pw p N) ∧ Below w.heap.size w w' := by
  have hel := exps_length N p.s
  have hokr : OkR N (exps N p.s) := by have := exps_ok hok p.s.length (Nat.le_refl _); rwa [List.take_of_length_le (Nat.le_refl _)] at this
  have hpe := fun W hBW hrW => plExponents_any w.heap.size N A1 A2 c1 c2 p W hpn n1 h6 (by omega) hBW hok hrW
  have hin : ∀ x ∈ p.o, 0 ≤ x ∧ x < ((exps N p.s).length : Int) := fun x hx => by have := hout x hx; omega
  obtain ⟨E, hE⟩ : ∃ E, exps N p.s = E := ⟨_, rfl⟩
  rw [hE] at hel hokr hpe hin
  have hpw : ∀ (i v : Nat) (hi : i < p.o.length) (_ : p.o[i] = (v : Int)) (hlt : v < E.length), pw p N i = E[v] := fun i v hi hv hlt => by subst hE; exact pw_at hi hv hlt
  have HPE := Lib.hid hpe
  have HOKR := Lib.hid hokr
  have HPW := Lib.hid hpw
  have HIN := Lib.hid hin
  have H := Lib.hid hr
  have hEl : E.length ≤ 46 := by omega
  clear hr hok hpe hokr hE hel hpn hpw hin hout
  go_enter Try.func123, Try.ntmps123
  go_wp2_with fail
  go_at_call 110
  generalize hw1 : World.alloc w _ = w1
  obtain ⟨x0, x1, x2, xs, xb⟩ := box3 hw1
  clear hw1
  refine (HPE.out w1 (by omega) ((H.out.below' xb hB).more hB)).mono ?_
  rintro e w2 ⟨A3, c3, rfl, hrows, hb2⟩
  have HR := Lib.hid hrows
  have HB2 := Lib.hid (xb.trans (hb2.mono (show w.heap.size ≤ w1.heap.size by omega)))
  have hs1 : w1.heap.size = w.heap.size + 1 := xs
  have hs2 : w.heap.size + 1 ≤ w2.heap.size := by have := hb2.size; omega
  have y2 := (hb2.cell (p := ⟨w.heap.size, 2, none⟩) (by simp only []; omega)).trans x2
  clear x0 x1 x2 xs xb hb2 hrows
  go_wp2
  go_loopw [4, 12] (fun ov iv wr => ∃ (k : Nat) (A4 : Option Addr) (c4 : Nat) (f : Nat → Option Addr × Nat), k ≤ p.o.length ∧ iv = .int .i64 k ∧ ov = .slice A4 k c4 ∧ OwL wr w2.heap.size A4 c4 f N k (pw p N) ∧ Below w2.heap.size w2 wr) (fun _ i _ => p.o.length - (intOf i).toNat)
  case atStart => exact ⟨0, none, 0, fun _ => (none, 0), by omega, rfl, rfl, ⟨World.ownsRow_nil _ _ _ _, fun i hi => absurd hi (by omega)⟩, Below.refl _ _⟩
  case round =>
    obtain ⟨k, A4, c4, f, hk, rfl, rfl, hown, hbel⟩ := hrel
    have hsz := hbel.size
    have OWN := Lib.hid hown
    have BEL := Lib.hid hbel
    have HRr := Lib.hid (HR.out.below hbel)
    have hbw : Below w.heap.size w wr := HB2.out.trans (hbel.mono (by omega))
    by_cases hlt : k < p.o.length
    · obtain ⟨o1, o2⟩ := HIN.out _ (List.getElem_mem hlt)
      obtain ⟨ob, oo, rfl, hob, hoc⟩ := (H.out.below' hbw hB).2.int hlt
      obtain ⟨v, hv⟩ : ∃ v : Nat, p.o[k] = v := ⟨(p.o[k]).toNat, by omega⟩
      have hvl : v < E.length := by omega
      have ivl : (v : Int) < (E.length : Int) := by omega
      have hpk := HPW.out k v hlt hv hvl
      rw [hv] at hoc
      obtain ⟨g, B1, d1, rfl, hg, hcv, hov⟩ := HRr.out.at_ hvl
      have hEN : (E[v]).length = N := (HOKR.out _ (List.getElem_mem hvl)).1
      have hown1 := fun W hBW hrW => l1Own_any wr.heap.size B1 d1 (E[v]'hvl) W (by omega) hBW hrW
      rw [hEN] at hown1 hcv
      have HOW := Lib.hid hown1
      have HOV := Lib.hid hov
      have HPK := Lib.hid hpk
      have HEN := Lib.hid hEN
      clear hown hbel hbw hv o1 o2 hpk hov hown1 hEN
      go_wp2_with fail
      go_at_call 126
      refine (HOW.out wr (Nat.le_refl _) (by have h := HOV.out.rd; rw [HEN.out] at h; exact h)).mono ?_
      rintro e w5 ⟨A5, c5, rfl, hown5, hb5⟩
      have hown5' : w5.ownsRow w2.heap.size 3 1 (.slice A5 N c5) N ((pw p N k).map I) := by
        have h' : w5.ownsRow _ _ _ _ _ _ := hown5
        rw [HEN.out] at h'
        rw [HPK.out]
        exact own_base h' hsz
      have OWN5 := Lib.hid (OWN.out.below hb5)
      have ROW5 := Lib.hid hown5'
      have HB5 := Lib.hid (BEL.out.trans (hb5.mono hsz))
      have hs5 : w2.heap.size ≤ w5.heap.size := by have := hb5.size; omega
      clear hown5 hown5' hb5
      go_wp2_with (at_builtin; refine list_step (fun K hK => ?_); refine step_app1 Try.underlying107 info_ints rfl (by omega) rfl (.tmp 16) (.tmp 22) rfl w2.heap.size k _ (TT f N k) rfl (World.ownsRow.alloc OWN5.out.1 _) w5.heap.size 1 (.slice A5 N c5) rfl (by simp) rfl (by omega) (by simp; omega) ?_; intro A6 c6 w6 hown6 hg6 hbel6; go_simp; refine hK _ _ ?_; clear hK K)
      go_roundw
      case rel =>
        refine ⟨k + 1, A6, c6, upd f k (A5, c5), by omega, by go_num, rfl, ⟨?_, ?_⟩, (HB5.out.alloc hs5 _).trans hbel6⟩
        · rw [TT_upd]; exact hown6
        · intro i hi
          by_cases hik : i = k
          · subst hik
            have e : upd f i (A5, c5) i = (A5, c5) := by simp [upd]
            rw [e]
            exact World.ownsRow.kept (World.ownsRow.alloc ROW5.out _) hg6 (own_ne ROW5.out OWN5.out.1 (by decide))
          · have e : upd f k (A5, c5) i = f i := by simp [upd, hik]
            rw [e]
            have hrow := OWN5.out.2 i (by omega)
            exact World.ownsRow.kept (World.ownsRow.alloc hrow _) hg6 (own_ne hrow OWN5.out.1 (by decide))
      case measure => simp [intOf]; omega
    · have hk' : k = p.o.length := by omega
      subst hk'
      clear hown hbel hbw
      go_wp2
      go_ret
      exact ⟨A4, c4, f, rfl, OWN.out.base (by omega), HB2.out.trans (BEL.out.mono (by omega))⟩

theorem madeN (z : Value) (n : Nat) : (madeCells #[z] n).toList = List.replicate n z := toList_madeCells_one z n
theorem fill_tt (f : Nat → Option Addr × Nat) (N R k : Nat) (A : Option Addr) (c : Nat) (hk : k < R) :
    (TT f N k ++ List.replicate (R - k) (Value.slice none 0 0)).set k (Value.slice A N c) = TT (upd f k (A, c)) N (k + 1) ++ List.replicate (R - (k + 1)) (Value.slice none 0 0) := by
  rw [List.set_append_right _ _ (by rw [TT_length]; omega), TT_length, Nat.sub_self, show R - k = (R - (k + 1)) + 1 from by omega, List.replicate_succ, List.set_cons_zero, TT_upd]
  simp

set_option maxRecDepth 100000 in
set_option maxHeartbeats 2000000 in
theorem rows_any (B N : Nat) (A1 A2 A : Option Addr) (c1 c2 c : Nat) (p : Pl) (w : World) (n1 : 1 ≤ N) (h6 : N ≤ 6) (ho6 : p.o.length ≤ 6) (hB : B ≤ w.heap.size) (hok : OkS N p.s) (hout : ∀ x ∈ p.o, 0 ≤ x ∧ x < (N : Int) + p.s.length) (hr : RdP w B A1 A2 p)
    (hre : Rd w B 6 A (exps N p.s).length (fl6 ((exps N p.s).map (pad N)))) :
    Calls Try.prog 125 #[.agg #[.int .i64 (N : Int), .slice A1 p.s.length c1, .slice A2 p.o.length c2, .slice A (exps N p.s).length c]] w fun e w' =>
      ∃ A' c' f, e = .returned (.slice A' p.o.length c') ∧ OwL w' w.heap.size A' c' f N p.o.length (pw p N) ∧ Far f N p.o.length ∧ Below w.heap.size w w' := by
  have hel := exps_length N p.s
  have hokr : OkR N (exps N p.s) := by have := exps_ok hok p.s.length (Nat.le_refl _); rwa [List.take_of_length_le (Nat.le_refl _)] at this
  have hin : ∀ x ∈ p.o, 0 ≤ x ∧ x < ((exps N p.s).length : Int) := fun x hx => by have := hout x hx; omega
  obtain ⟨E, hE⟩ : ∃ E, exps N p.s = E := ⟨_, rfl⟩
  rw [hE] at hel hokr hin hre ⊢
  have hpw : ∀ (i v : Nat) (hi : i < p.o.length) (_ : p.o[i] = (v : Int)) (hlt : v < E.length), pw p N i = E[v] := fun i v hi hv hlt => by subst hE; exact pw_at hi hv hlt
  have hrow := fun (v : Nat) (hv : v < E.length) W hBW hrW => row_any B N v (.slice A1 p.s.length c1) (.slice A2 p.o.length c2) A c E W n1 h6 hokr hv hBW hrW
  have HROW := Lib.hid hrow
  have HOKR := Lib.hid hokr
  have HPW := Lib.hid hpw
  have HIN := Lib.hid hin
  have H := Lib.hid hr
  have HRE := Lib.hid hre
  clear hr hok hokr hE hel hpw hin hout hre hrow
  have hmk := run_make_row' (P := Try.prog) 107 22 (.slice none 0 0) 24 Try.underlying107 info_ints rfl .i64 .i64 p.o.length (by omega) (by omega)
  go_enter Try.func125, Try.ntmps125
  go_wp2
  clear hmk
  generalize hw1 : World.alloc w _ = w1
  obtain ⟨x0, x1, x2, x3, xs, xb⟩ := box4b hw1
  clear hw1
  rw [← xs]
  generalize hw2 : World.alloc w1 _ = w2
  have hmade : w2.ownsRow (w.heap.size + 1) 22 1 (.slice (some ⟨w1.heap.size, 0, none⟩) p.o.length p.o.length) p.o.length (List.replicate p.o.length (Value.slice none 0 0)) := by
    rw [← hw2]
    have h := World.ownsRow_lit (base := w.heap.size + 1) (e := 22) (size := 1) w1 (madeCells #[Value.slice none 0 0] p.o.length) p.o.length (by omega) (by unfold maxLen; omega) (by simp [size_madeCells])
    rw [madeN] at h
    exact h
  have hb2 : Below (w.heap.size + 1) w1 w2 := by rw [← hw2]; exact (Below.refl _ _).alloc (by omega) _
  have hs12 : w2.heap.size = w1.heap.size + 1 := by rw [← hw2]; simp
  clear hw2
  have y0 := (hb2.cell (p := ⟨w.heap.size, 0, none⟩) (by simp)).trans x0
  have y1 := (hb2.cell (p := ⟨w.heap.size, 1, none⟩) (by simp)).trans x1
  have y2 := (hb2.cell (p := ⟨w.heap.size, 2, none⟩) (by simp)).trans x2
  have y3 := (hb2.cell (p := ⟨w.heap.size, 3, none⟩) (by simp)).trans x3
  have HM := Lib.hid hmade
  have HB2 := Lib.hid (xb.trans (hb2.mono (show w.heap.size ≤ w.heap.size + 1 by omega)))
  have hg : w.heap.size + 1 ≤ w1.heap.size := by omega
  clear x0 x1 x2 x3 xs xb hmade hb2
  go_loopw [15] (fun iv wr => ∃ (k : Nat) (f : Nat → Option Addr × Nat), k ≤ p.o.length ∧ iv = .int .i64 k ∧ wr.ownsRow (w.heap.size + 1) 22 1 (.slice (some ⟨w1.heap.size, 0, none⟩) p.o.length p.o.length) p.o.length (TT f N k ++ List.replicate (p.o.length - k) (Value.slice none 0 0)) ∧
    OwE wr (w.heap.size + 1) f N k (pw p N) ∧ Far f N k ∧ Below (w.heap.size + 1) w2 wr) (fun i _ => p.o.length - (intOf i).toNat)
  case atStart => exact ⟨0, fun _ => (none, 0), by omega, rfl, by simpa [TT] using HM.out, fun i hi => absurd hi (by omega), fun i j hi => absurd hi (by omega), Below.refl _ _⟩
  case round =>
    obtain ⟨k, f, hk, rfl, hown, howe, hfar, hbel⟩ := hrel
    have hsz : w.heap.size + 1 ≤ wr.heap.size := by have := hbel.size; omega
    have z0 := (hbel.cell (p := ⟨w.heap.size, 0, none⟩) (by simp)).trans y0
    have z1 := (hbel.cell (p := ⟨w.heap.size, 1, none⟩) (by simp)).trans y1
    have z2 := (hbel.cell (p := ⟨w.heap.size, 2, none⟩) (by simp)).trans y2
    have z3 := (hbel.cell (p := ⟨w.heap.size, 3, none⟩) (by simp)).trans y3
    have hbw : Below w.heap.size w wr := HB2.out.trans (hbel.mono (by omega))
    have OWN := Lib.hid hown
    have OWE := Lib.hid howe
    have FAR := Lib.hid hfar
    have BEL := Lib.hid hbel
    have HBW := Lib.hid hbw
    clear hown howe hfar hbel hbw
    by_cases hlt : k < p.o.length
    · obtain ⟨o1, o2⟩ := HIN.out _ (List.getElem_mem hlt)
      obtain ⟨ob, oo, rfl, hob, hoc⟩ := (H.out.below' HBW.out hB).2.int hlt
      obtain ⟨v, hv⟩ : ∃ v : Nat, p.o[k] = v := ⟨(p.o[k]).toNat, by omega⟩
      have hvl : v < E.length := by omega
      have hpk := HPW.out k v hlt hv hvl
      rw [hv] at hoc
      have hEN : (E[v]).length = N := (HOKR.out _ (List.getElem_mem hvl)).1
      have hrw := HROW.out v hvl
      rw [hEN, ← hpk] at hrw
      have HRW := Lib.hid hrw
      have HPK := Lib.hid hpk
      have HEN := Lib.hid (show (pw p N k).length = N by rw [hpk]; exact hEN)
      clear hv o1 o2 hpk hrw hEN
      go_wp2_with fail
      go_at_call 141
      refine (HRW.out wr (by have := HBW.out.size; omega) (HRE.out.below' HBW.out hB)).mono ?_
      rintro e w5 ⟨A5, c5, rfl, hown5, hb5⟩
      have hrow5 : w5.ownsRow wr.heap.size 3 1 (.slice A5 N c5) N ((pw p N k).map I) := by
        have h' : w5.ownsRow _ _ _ _ _ _ := hown5
        rw [HEN.out] at h'
        exact h'
      have hl5 := own_below OWN.out hb5
      have hcl : w5.cell? ⟨w1.heap.size, k, none⟩ = some (Value.slice none 0 0) := by
        rw [hl5.cellAt _ (by omega)]
        exact rep_at (by rw [TT_length]; omega) (by rw [TT_length]; omega)
      have hfl : w5.frozen? ⟨w1.heap.size, k, none⟩ = false := hl5.frozenAt _
      have ROW5 := Lib.hid hrow5
      have L5 := Lib.hid hl5
      have OWE5 := Lib.hid (OWE.out.below hb5)
      have HB5 := Lib.hid (BEL.out.trans (hb5.mono hsz))
      clear hown5 hrow5 hl5 hb5
      go_wp2
      go_roundw
      case rel =>
        refine ⟨k + 1, upd f k (A5, c5), by omega, by go_num, ?_, ?_, ?_, HB5.out.setCell hg _⟩
        · have h := (L5.out.stored k (Value.slice A5 N c5)).1
          rw [fill_tt f N p.o.length k A5 c5 hlt] at h
          exact h
        · intro i hi
          by_cases hik : i = k
          · subst hik
            have e : upd f i (A5, c5) i = (A5, c5) := by simp [upd]
            rw [e]
            exact own_store_other (own_base ROW5.out (by omega)) L5.out (by decide) _
          · have e : upd f k (A5, c5) i = f i := by simp [upd, hik]
            rw [e]
            exact own_store_other (OWE5.out i (by omega)) L5.out (by decide) _
        · intro i j hi hj hij
          have hnew : ∀ t, (Value.slice A5 N c5).ownBlock = some t → wr.heap.size ≤ t := fun t ht => (own_block ROW5.out t ht).1
          have hold : ∀ q, q < k → ∀ t, (Value.slice (f q).1 N (f q).2).ownBlock = some t → t < wr.heap.size := fun q hq t ht => (own_block (OWE.out q hq) t ht).2
          by_cases hik : i = k
          · subst hik
            have ei : upd f i (A5, c5) i = (A5, c5) := by simp [upd]
            have ej : upd f i (A5, c5) j = f j := by simp [upd]; intro h; omega
            rw [ei, ej]
            cases hb : (Value.slice A5 N c5).ownBlock with
            | none => exact .inl rfl
            | some t =>
              right
              intro he
              have h1 := hnew t hb
              have h2 := hold j (by omega) t he.symm
              omega
          · have ei : upd f k (A5, c5) i = f i := by simp [upd, hik]
            rw [ei]
            by_cases hjk : j = k
            · subst hjk
              have ej : upd f j (A5, c5) j = (A5, c5) := by simp [upd]
              rw [ej]
              cases hb : (Value.slice (f i).1 N (f i).2).ownBlock with
              | none => exact .inl rfl
              | some t =>
                right
                intro he
                have h1 := hnew t he.symm
                have h2 := hold i (by omega) t hb
                omega
            · have ej : upd f k (A5, c5) j = f j := by simp [upd, hjk]
              rw [ej]
              exact FAR.out i j (by omega) (by omega) hij
      case measure => simp [intOf]; omega
    · have hk' : k = p.o.length := by omega
      subst hk'
      go_wp2
      go_ret
      have h := OWN.out
      rw [Nat.sub_self, List.replicate_zero, List.append_nil] at h
      exact ⟨_, _, f, rfl, ⟨own_base h (by omega), OWE.out.base (by omega)⟩, FAR.out, HBW.out⟩
end Go.Proofs.Ytbbjgcagkmlngaa
/- OutputExponents: what both sides answer. -/
namespace Go.Proofs.Ytbbjgcagkmlngaa
open Go.RowKit

def oR (p : Pl) : Nat := if good p then p.o.length else 0
def oN (p : Pl) : Nat := if good p then p.n.toNat else 0
theorem oR_len (p : Pl) : oR p ≤ 1000 := by
  unfold oR
  split
  · rename_i h
    obtain ⟨_, _, _, _, _, h6, _⟩ := good_facts h
    omega
  · omega
theorem oN_len (p : Pl) : oN p ≤ 1000 := by
  unfold oN
  split
  · rename_i h
    obtain ⟨N, hN, _, h6, _⟩ := good_facts h
    omega
  · omega

end Go.Proofs.Ytbbjgcagkmlngaa
/- Lists of lists compared, of the model and of the program. -/
namespace Go.Proofs.Ytbbjgcagkmlngaa
open Go.RowKit

set_option maxHeartbeats 400000 in
theorem sliceEqual_any (B : Nat) (A A' : Option Addr) (c c' : Nat) (a b : List Int) (w : World) (hm : a.length ≤ 4000000) (_hm' : b.length ≤ 4000000) (hr : Rd w B 1 A a.length (a.map I)) (hr' : Rd w B 1 A' b.length (b.map I)) :
    Calls Try.prog 105 #[.slice A a.length c, .slice A' b.length c'] w fun e w' => e = .returned (.bool (eqI a b)) ∧ Dr w w' := by
  have H := Lib.hid hr
  have H' := Lib.hid hr'
  clear hr hr'
  by_cases hl : a.length = b.length
  · have hlb : ((a.length : Int) == (b.length : Int)) = true := by simp [hl]
    have L := Lib.hid hl
    clear hl
    go_enter Try.func105, Try.ntmps105
    go_wp2
    go_loopw [13] (fun i wr => ∃ k n : Nat, k ≤ a.length ∧ i = .int .i64 k ∧ a.take k = b.take k ∧ wr = w.drewN n) (fun i _ => a.length - (intOf i).toNat)
    case atStart => exact ⟨0, 0, by omega, rfl, rfl, rfl⟩
    case round =>
      obtain ⟨k, n, hk, rfl, hq, rfl⟩ := hrel
      have Q := Lib.hid hq
      clear hq
      by_cases hlt : k < a.length
      · have hlt' : k < b.length := by have := L.out; omega
        obtain ⟨b1, off, rfl, hb, hcell⟩ := H.out.int hlt
        obtain ⟨b2, off2, rfl, hb2, hcell2⟩ := H'.out.int hlt'
        have i1 : (k : Int) < (a.length : Int) := by omega
        have i2 : (k : Int) < (b.length : Int) := by omega
        have i0 : (0 : Int) ≤ (k : Int) := by omega
        go_wp2
        go_quiet (fail)
        go_wp2
        · go_ret
          exact ⟨ret_bool (eqI_miss hlt hlt' (by assumption)).symm, Dr.mk2 _ _ _⟩
        · have he : (a[k] != b[k]) = false := by assumption
          go_roundw
          case rel => exact ⟨k + 1, _, by omega, by go_num, same_take hlt hlt' Q.out (by simpa using he), rfl⟩
          case measure => simp [intOf]; omega
      · go_wp2
        go_ret
        exact ⟨ret_bool (eqI_end L.out hlt Q.out).symm, Dr.mk _ _⟩
  · have hlb : ((a.length : Int) != (b.length : Int)) = true := by rw [bne_iff_ne]; omega
    have L := Lib.hid hl
    clear hl
    go_enter Try.func105, Try.ntmps105
    go_wp2
    go_ret
    exact ⟨ret_bool (eqI_len L.out).symm, Dr.refl _⟩

def sameB (R R' : Nat) (r r' : Nat → List Int) : Bool := decide (R = R') && (List.range R).all fun i => eqI (r i) (r' i)
theorem sameB_len {R R' : Nat} {r r' : Nat → List Int} (h : ¬ R = R') : sameB R R' r r' = false := by simp [sameB, h]
theorem sameB_miss {R R' k : Nat} {r r' : Nat → List Int} (hk : k < R) (h : eqI (r k) (r' k) = false) : sameB R R' r r' = false := by
  unfold sameB
  rw [Bool.and_eq_false_iff]
  right
  rw [List.all_eq_false]
  exact ⟨k, by simpa using hk, by rw [h]; decide⟩
theorem sameB_all {R R' : Nat} {r r' : Nat → List Int} (h : R = R') (ha : ∀ i, i < R → eqI (r i) (r' i) = true) : sameB R R' r r' = true := by
  unfold sameB
  rw [Bool.and_eq_true, decide_eq_true_eq, List.all_eq_true]
  exact ⟨h, fun i hi => ha i (by simpa using hi)⟩

set_option maxRecDepth 100000 in
set_option maxHeartbeats 2000000 in
theorem plSame_any (B B' : Nat) (A A' : Option Addr) (c c' N R R' : Nat) (f f' : Nat → Option Addr × Nat) (r r' : Nat → List Int) (w : World) (hN : N ≤ 1000) (hR : R ≤ 1000) (h : OwL w B A c f N R r) (h' : OwL w B' A' c' f' N R' r') :
    Calls Try.prog 122 #[.slice A R c, .slice A' R' c'] w fun e w' => e = .returned (.bool (sameB R R' r r')) ∧ Dr w w' := by
  have H := Lib.hid h
  have H' := Lib.hid h'
  clear h h'
  by_cases hl : R = R'
  case neg =>
    have hlb : ((R : Int) != (R' : Int)) = true := by rw [bne_iff_ne]; omega
    have L := Lib.hid (sameB_len (r := r) (r' := r') hl)
    clear hl
    go_enter Try.func122, Try.ntmps122
    go_wp2
    go_ret
    exact ⟨ret_bool L.out.symm, Dr.refl _⟩
  case pos =>
  have hlb : ((R : Int) != (R' : Int)) = false := by simp [hl]
  have L := Lib.hid hl
  clear hl
  go_enter Try.func122, Try.ntmps122
  go_wp2
  go_loopw [13] (fun i wr => ∃ k n : Nat, k ≤ R ∧ i = .int .i64 k ∧ wr = w.drewN n ∧ ∀ j, j < k → eqI (r j) (r' j) = true) (fun i _ => R - (intOf i).toNat)
  case atStart => exact ⟨0, 0, by omega, rfl, rfl, fun j hj => absurd hj (by omega)⟩
  case round =>
    obtain ⟨k, n, hk, rfl, rfl, hall⟩ := hrel
    have ALL := Lib.hid hall
    clear hall
    by_cases hlt : k < R
    · have hlt' : k < R' := by have := L.out; omega
      obtain ⟨g, rfl, _, _, hc, hrd, hrl⟩ := H.out.at_ hlt
      obtain ⟨g', rfl, _, _, hc', hrd', hrl'⟩ := H'.out.at_ hlt'
      have hE := fun W hr1 hr2 => l1Same_any w.heap.size (f k).1 (f' k).1 (f k).2 (f' k).2 (r k) (r' k) W (by omega) (by omega) hr1 hr2
      rw [hrl, hrl'] at hE
      have ikR : (k : Int) < (R : Int) := by omega
      have ikR' : (k : Int) < (R' : Int) := by omega
      obtain ⟨q, hq⟩ : ∃ q, eqI (r k) (r' k) = q := ⟨_, rfl⟩
      rw [hq] at hE
      obtain ⟨a1, ha1⟩ : ∃ a, (f k).1 = a := ⟨_, rfl⟩
      obtain ⟨a2, ha2⟩ : ∃ a, (f k).2 = a := ⟨_, rfl⟩
      obtain ⟨b1, hb1⟩ : ∃ a, (f' k).1 = a := ⟨_, rfl⟩
      obtain ⟨b2, hb2⟩ : ∃ a, (f' k).2 = a := ⟨_, rfl⟩
      rw [ha1, ha2, hb1, hb2] at hE
      rw [ha1] at hrd
      rw [hb1] at hrd'
      rw [ha1, ha2] at hc
      rw [hb1, hb2] at hc'
      have HE2 := Lib.hid hE
      have HR1 := Lib.hid hrd
      have HR2 := Lib.hid hrd'
      have QQ := Lib.hid hq
      clear hE hrd hrd' hrl hrl' ha1 ha2 hb1 hb2 hq
      cases q with
      | true =>
        go_wp2
        refine wp_region_Tw [0, 1, 2, 3, 4, 5, 6, 7, 9] [3, 7] (.lp 0 (.lp 1 (.lp 2 (.lp 4 (.lp 5 (.lp 6 (.ls 3 (.ls 7 (.hv 8 (.lp 9 (.done))))))))))) (by kernel_rfl) (by kernel_rfl) ?_
        (repeat (first | (refine T_lp rfl (fun K hK => ?_); go_simp; refine hK _ ?_; clear hK K) | (refine T_ls rfl rfl (fun K hK => ?_); go_simp; refine hK _ ?_; clear hK K)))
        (refine T_hv rfl (by kernel_rfl) (fun K hK => ?_); go_simp)
        go_at_call 140
        refine (HE2.out (w.drewN (n + 1)) (HR1.out.drewN _) (HR2.out.drewN _)).mono ?_
        rintro e w5 ⟨rfl, ⟨nd, rfl⟩⟩
        (go_simp; refine hK _ _ ?_; clear hK K)
        (repeat (first | (refine T_lp rfl (fun K hK => ?_); go_simp; refine hK _ ?_; clear hK K) | (refine T_ls rfl rfl (fun K hK => ?_); go_simp; refine hK _ ?_; clear hK K)))
        refine T_done ?_
        go_wp2
        go_roundw
        case rel => exact ⟨k + 1, _, by omega, by go_num, rfl, fun j hj => (by
          by_cases hjk : j = k
          · subst hjk; exact QQ.out
          · exact ALL.out j (by omega))⟩
        case measure => simp [intOf]; omega
      | false =>
        have MS := Lib.hid (sameB_miss (R' := R') hlt QQ.out)
        go_wp2
        refine wp_region_Tw [0, 1, 2, 3, 4, 5, 6, 7, 9] [3, 7] (.lp 0 (.lp 1 (.lp 2 (.lp 4 (.lp 5 (.lp 6 (.ls 3 (.ls 7 (.hv 8 (.lp 9 (.done))))))))))) (by kernel_rfl) (by kernel_rfl) ?_
        (repeat (first | (refine T_lp rfl (fun K hK => ?_); go_simp; refine hK _ ?_; clear hK K) | (refine T_ls rfl rfl (fun K hK => ?_); go_simp; refine hK _ ?_; clear hK K)))
        (refine T_hv rfl (by kernel_rfl) (fun K hK => ?_); go_simp)
        go_at_call 140
        refine (HE2.out (w.drewN (n + 1)) (HR1.out.drewN _) (HR2.out.drewN _)).mono ?_
        rintro e w5 ⟨rfl, ⟨nd, rfl⟩⟩
        (go_simp; refine hK _ _ ?_; clear hK K)
        (repeat (first | (refine T_lp rfl (fun K hK => ?_); go_simp; refine hK _ ?_; clear hK K) | (refine T_ls rfl rfl (fun K hK => ?_); go_simp; refine hK _ ?_; clear hK K)))
        refine T_done ?_
        go_wp2
        go_ret
        exact ⟨ret_bool MS.out.symm, Dr.mk _ _⟩
    · have hk' : k = R := by omega
      have SA := Lib.hid (sameB_all (r := r) (r' := r') L.out (fun i hi => ALL.out i (by omega)))
      clear hk'
      go_wp2
      go_ret
      exact ⟨ret_bool SA.out.symm, Dr.mk _ _⟩
end Go.Proofs.Ytbbjgcagkmlngaa
/- Lists of lists compared, of the library. -/
namespace Go.Proofs.Ytbbjgcagkmlngaa
open Go.RowKit

set_option maxRecDepth 100000 in
set_option maxHeartbeats 2000000 in
theorem equalFunc_any (B B' : Nat) (A A' : Option Addr) (c c' N R R' : Nat) (f f' : Nat → Option Addr × Nat) (r r' : Nat → List Int) (w : World) (hN : N ≤ 1000) (hR : R ≤ 1000) (h : OwL w B A c f N R r) (h' : OwL w B' A' c' f' N R' r') :
    Calls Try.prog 124 #[.slice A R c, .slice A' R' c', .func (.func 105) #[] #[]] w fun e w' => e = .returned (.bool (sameB R R' r r')) ∧ Dr w w' := by
  have H := Lib.hid h
  have H' := Lib.hid h'
  clear h h'
  by_cases hl : R = R'
  case neg =>
    have hlb : ((R : Int) != (R' : Int)) = true := by rw [bne_iff_ne]; omega
    have L := Lib.hid (sameB_len (r := r) (r' := r') hl)
    clear hl
    go_enter Try.func124, Try.ntmps124
    go_wp2
    go_ret
    exact ⟨ret_bool L.out.symm, Dr.refl _⟩
  case pos =>
  have hlb : ((R : Int) != (R' : Int)) = false := by simp [hl]
  have L := Lib.hid hl
  clear hl
  go_enter Try.func124, Try.ntmps124
  go_wp2
  go_loopw [17] (fun i wr => ∃ k n : Nat, k ≤ R ∧ i = .int .i64 k ∧ wr = w.drewN n ∧ ∀ j, j < k → eqI (r j) (r' j) = true) (fun i _ => R - (intOf i).toNat)
  case atStart => exact ⟨0, 0, by omega, rfl, rfl, fun j hj => absurd hj (by omega)⟩
  case round =>
    obtain ⟨k, n, hk, rfl, rfl, hall⟩ := hrel
    have ALL := Lib.hid hall
    clear hall
    by_cases hlt : k < R
    · have hlt' : k < R' := by have := L.out; omega
      obtain ⟨g, rfl, _, _, hc, hrd, hrl⟩ := H.out.at_ hlt
      obtain ⟨g', rfl, _, _, hc', hrd', hrl'⟩ := H'.out.at_ hlt'
      have hE := fun W hr1 hr2 => sliceEqual_any w.heap.size (f k).1 (f' k).1 (f k).2 (f' k).2 (r k) (r' k) W (by omega) (by omega) hr1 hr2
      rw [hrl, hrl'] at hE
      have ikR : (k : Int) < (R : Int) := by omega
      have ikR' : (k : Int) < (R' : Int) := by omega
      obtain ⟨q, hq⟩ : ∃ q, eqI (r k) (r' k) = q := ⟨_, rfl⟩
      rw [hq] at hE
      obtain ⟨a1, ha1⟩ : ∃ a, (f k).1 = a := ⟨_, rfl⟩
      obtain ⟨a2, ha2⟩ : ∃ a, (f k).2 = a := ⟨_, rfl⟩
      obtain ⟨b1, hb1⟩ : ∃ a, (f' k).1 = a := ⟨_, rfl⟩
      obtain ⟨b2, hb2⟩ : ∃ a, (f' k).2 = a := ⟨_, rfl⟩
      rw [ha1, ha2, hb1, hb2] at hE
      rw [ha1] at hrd
      rw [hb1] at hrd'
      rw [ha1, ha2] at hc
      rw [hb1, hb2] at hc'
      have HE2 := Lib.hid hE
      have HR1 := Lib.hid hrd
      have HR2 := Lib.hid hrd'
      have QQ := Lib.hid hq
      clear hE hrd hrd' hrl hrl' ha1 ha2 hb1 hb2 hq
      cases q with
      | true =>
        go_wp2_with fail
        go_at_call 105
        refine (HE2.out (w.drewN n) (HR1.out.drewN _) (HR2.out.drewN _)).mono ?_
        rintro e w5 ⟨rfl, ⟨nd, rfl⟩⟩
        go_wp2
        go_roundw
        case rel => exact ⟨k + 1, _, by omega, by go_num, rfl, fun j hj => (by
          by_cases hjk : j = k
          · subst hjk; exact QQ.out
          · exact ALL.out j (by omega))⟩
        case measure => simp [intOf]; omega
      | false =>
        have MS := Lib.hid (sameB_miss (R' := R') hlt QQ.out)
        go_wp2_with fail
        go_at_call 105
        refine (HE2.out (w.drewN n) (HR1.out.drewN _) (HR2.out.drewN _)).mono ?_
        rintro e w5 ⟨rfl, ⟨nd, rfl⟩⟩
        go_wp2
        go_ret
        exact ⟨ret_bool MS.out.symm, Dr.mk _ _⟩
    · have hk' : k = R := by omega
      have SA := Lib.hid (sameB_all (r := r) (r' := r') L.out (fun i hi => ALL.out i (by omega)))
      clear hk'
      go_wp2
      go_ret
      exact ⟨ret_bool SA.out.symm, Dr.mk _ _⟩
end Go.Proofs.Ytbbjgcagkmlngaa
/- SamePowers, of the model. -/
namespace Go.Proofs.Ytbbjgcagkmlngaa
open Go.RowKit

def spV (p q : Pl) : Bool := (good p && good q) && (decide (p.n = q.n) && sameB p.o.length q.o.length (pw p p.n.toNat) (pw q q.n.toNat))
theorem boxes2c {w w2 : World} {a b c a' b' c' : Value} {t t' : TypeId} (h : (w.alloc (.cells #[a, b, c] t)).alloc (.cells #[a', b', c'] t') = w2) :
    (w2.cell? ⟨w.heap.size, 0, none⟩ = some a ∧ w2.cell? ⟨w.heap.size, 1, none⟩ = some b ∧ w2.cell? ⟨w.heap.size, 2, none⟩ = some c) ∧ (w2.cell? ⟨w.heap.size + 1, 0, none⟩ = some a' ∧ w2.cell? ⟨w.heap.size + 1, 1, none⟩ = some b' ∧ w2.cell? ⟨w.heap.size + 1, 2, none⟩ = some c') ∧ w2.heap.size = w.heap.size + 2 ∧ Below w.heap.size w w2 := by
  subst h
  refine ⟨⟨?_, ?_, ?_⟩, ⟨?_, ?_, ?_⟩, by simp, ((Below.refl _ _).alloc (Nat.le_refl _) _).alloc (by simp) _⟩
  all_goals first
    | (rw [World.cell?_alloc_lt _ _ _ (by simp), World.cell?_alloc_at _ _ _ _ rfl]; rfl)
    | (rw [World.cell?_alloc_at _ _ _ _ (by simp)]; rfl)

set_option maxRecDepth 100000 in
set_option maxHeartbeats 4000000 in
theorem specSame_any (B : Nat) (A1 A2 A3 A4 : Option Addr) (c1 c2 c3 c4 : Nat) (p q : Pl) (w : World) (hB : B ≤ w.heap.size) (hls : p.s.length ≤ 2000000) (hlo : p.o.length ≤ 2000000) (hls' : q.s.length ≤ 2000000) (hlo' : q.o.length ≤ 2000000) (hr : RdP w B A1 A2 p) (hr' : RdP w B A3 A4 q) :
    Calls Try.prog 87 #[.agg #[.int .i64 p.n, .slice A1 p.s.length c1, .slice A2 p.o.length c2], .agg #[.int .i64 q.n, .slice A3 q.s.length c3, .slice A4 q.o.length c4]] w fun e w' => e = .returned (.tuple #[.bool (spV p q), .bool (good p && good q)]) ∧ Below w.heap.size w w' := by
  have H := Lib.hid hr
  have H' := Lib.hid hr'
  clear hr hr'
  obtain ⟨gp, hgp⟩ : ∃ x, good p = x := ⟨_, rfl⟩
  obtain ⟨gq, hgq⟩ : ∃ x, good q = x := ⟨_, rfl⟩
  have HGP := Lib.hid hgp
  have HGQ := Lib.hid hgq
  go_enter Try.func87, Try.ntmps87
  go_wp2_with fail
  go_at_call 74
  generalize hw1 : World.alloc (World.alloc w _) _ = w1
  obtain ⟨⟨x0, x1, x2⟩, ⟨x3, x4, x5⟩, xs, xb⟩ := boxes2c hw1
  clear hw1
  have hC := plGood_any w.heap.size A1 A2 c1 c2 p w1 (by omega) hls hlo ((H.out.below' xb hB).more hB)
  rw [hgp] at hC
  refine hC.mono ?_
  rintro e w2 ⟨rfl, hb2⟩
  have y0 := (hb2.cell (p := ⟨w.heap.size, 0, none⟩) (by simp only []; omega)).trans x0
  have y1 := (hb2.cell (p := ⟨w.heap.size, 1, none⟩) (by simp only []; omega)).trans x1
  have y2 := (hb2.cell (p := ⟨w.heap.size, 2, none⟩) (by simp only []; omega)).trans x2
  have y3 := (hb2.cell (p := ⟨w.heap.size + 1, 0, none⟩) (by simp only []; omega)).trans x3
  have y4 := (hb2.cell (p := ⟨w.heap.size + 1, 1, none⟩) (by simp only []; omega)).trans x4
  have y5 := (hb2.cell (p := ⟨w.heap.size + 1, 2, none⟩) (by simp only []; omega)).trans x5
  have HB2 := Lib.hid (xb.trans (hb2.mono (show w.heap.size ≤ w1.heap.size by omega)))
  have hs2 : w.heap.size + 2 ≤ w2.heap.size := by have := hb2.size; omega
  have hC2 := fun W hBW hrW => plGood_any w.heap.size A3 A4 c3 c4 q W hBW hls' hlo' hrW
  rw [hgq] at hC2
  have HC2 := Lib.hid hC2
  clear hC hgp hgq x0 x1 x2 x3 x4 x5 xs xb hb2 hC2
  cases gp with
  | false =>
    have ea : spV p q = false := by simp [spV, HGP.out]
    have EA := Lib.hid ea
    clear ea
    go_wp2
    go_ret2
    exact ⟨by rw [EA.out, HGP.out]; rfl, HB2.out⟩
  | true =>
    go_wp2_with fail
    go_at_call 74
    refine (HC2.out w2 (by omega) ((H'.out.below' HB2.out hB).more hB)).mono ?_
    rintro e w3 ⟨rfl, hb3⟩
    have z0 := (hb3.cell (p := ⟨w.heap.size, 0, none⟩) (by simp only []; omega)).trans y0
    have z1 := (hb3.cell (p := ⟨w.heap.size, 1, none⟩) (by simp only []; omega)).trans y1
    have z2 := (hb3.cell (p := ⟨w.heap.size, 2, none⟩) (by simp only []; omega)).trans y2
    have z3 := (hb3.cell (p := ⟨w.heap.size + 1, 0, none⟩) (by simp only []; omega)).trans y3
    have z4 := (hb3.cell (p := ⟨w.heap.size + 1, 1, none⟩) (by simp only []; omega)).trans y4
    have z5 := (hb3.cell (p := ⟨w.heap.size + 1, 2, none⟩) (by simp only []; omega)).trans y5
    have HB3 := Lib.hid (HB2.out.trans (hb3.mono (by omega)))
    have hs3 : w.heap.size + 2 ≤ w3.heap.size := by have := hb3.size; omega
    clear y0 y1 y2 y3 y4 y5 hb3
    cases gq with
    | false =>
      have ea : spV p q = false := by simp [spV, HGQ.out]
      have EA := Lib.hid ea
      clear ea z0 z1 z2 z3 z4 z5
      go_wp2
      go_ret2
      exact ⟨by rw [EA.out, HGP.out, HGQ.out]; rfl, HB3.out⟩
    | true =>
      have FS := Lib.hid (show ∀ x, Below w3.heap.size w3 x → (x.cell? ⟨w.heap.size, 0, none⟩ = some (.int .i64 p.n) ∧ x.cell? ⟨w.heap.size, 1, none⟩ = some (.slice A1 p.s.length c1) ∧ x.cell? ⟨w.heap.size, 2, none⟩ = some (.slice A2 p.o.length c2)) ∧ (x.cell? ⟨w.heap.size + 1, 0, none⟩ = some (.int .i64 q.n) ∧ x.cell? ⟨w.heap.size + 1, 1, none⟩ = some (.slice A3 q.s.length c3) ∧ x.cell? ⟨w.heap.size + 1, 2, none⟩ = some (.slice A4 q.o.length c4)) from fun x hx =>
        ⟨⟨(hx.cell (p := ⟨w.heap.size, 0, none⟩) (by simp only []; omega)).trans z0, (hx.cell (p := ⟨w.heap.size, 1, none⟩) (by simp only []; omega)).trans z1, (hx.cell (p := ⟨w.heap.size, 2, none⟩) (by simp only []; omega)).trans z2⟩,
          ⟨(hx.cell (p := ⟨w.heap.size + 1, 0, none⟩) (by simp only []; omega)).trans z3, (hx.cell (p := ⟨w.heap.size + 1, 1, none⟩) (by simp only []; omega)).trans z4, (hx.cell (p := ⟨w.heap.size + 1, 2, none⟩) (by simp only []; omega)).trans z5⟩⟩)
      have S0 := Lib.hid (show Below w3.heap.size w3 w3.drew from (Below.refl _ _).drew)
      clear z0 z1 z2 z3 z4 z5
      by_cases hpq : p.n = q.n
      · obtain ⟨N, hN, n1, n6, hs40, ho6, hok, hout, _⟩ := good_facts HGP.out
        obtain ⟨N', hN', _, _, hs40', ho6', hok', hout', _⟩ := good_facts HGQ.out
        obtain rfl : N' = N := by omega
        have h1 := fun W hBW hrW => plPowers_any w.heap.size N' A1 A2 c1 c2 p W hN n1 n6 hs40 ho6 hBW hok hout hrW
        have h2 := fun W hBW hrW => plPowers_any w.heap.size N' A3 A4 c3 c4 q W hN' n1 n6 hs40' ho6' hBW hok' hout' hrW
        have ea : spV p q = sameB p.o.length q.o.length (pw p N') (pw q N') := by
          have e1 : p.n.toNat = N' := by omega
          have e2 : q.n.toNat = N' := by omega
          unfold spV
          rw [HGP.out, HGQ.out, e1, e2, decide_eq_true hpq]
          rfl
        have hpe : (p.n == q.n) = true := by simpa using hpq
        have HP1 := Lib.hid h1
        have HP2 := Lib.hid h2
        have EA := Lib.hid ea
        clear h1 h2 ea hok hout hok' hout' hN hN' hpq
        go_wp2
        refine wp_region_T (fun x : World => Below w3.heap.size w3 x) [0, 1, 2, 3, 4, 5, 6, 8, 11, 12, 13] [1, 3, 6, 8] (.lp 0 (.lp 2 (.ls 1 (.ls 3 (.lp 4 (.lp 5 (.ls 6 (.ls 8 (.hv 7 (.hv 9 (.hv 10 (.lp 11 (.lp 12 (.lp 13 (.done))))))))))))))) (by kernel_rfl) (by kernel_rfl) ?_
        (repeat (refine T_lp rfl (fun K hK => ?_); go_simp; refine hK _ ?_; clear hK K))
        refine T_ls1 (v := .int .i64 p.n) rfl rfl S0.out (fun x hx => (by obtain ⟨⟨h0, h1, h2⟩, ⟨h3, h4, h5⟩⟩ := FS.out x hx; go_simp)) (fun K hK => ?_)
        (go_simp; refine hK _ ?_; clear hK K)
        refine T_ls1 (v := .int .i64 q.n) rfl rfl S0.out (fun x hx => (by obtain ⟨⟨h0, h1, h2⟩, ⟨h3, h4, h5⟩⟩ := FS.out x hx; go_simp)) (fun K hK => ?_)
        (go_simp; refine hK _ ?_; clear hK K)
        (repeat (refine T_lp rfl (fun K hK => ?_); go_simp; refine hK _ ?_; clear hK K))
        refine T_ls rfl S0.out (fun K hK => ?_)
        go_simp
        refine ⟨.agg #[.int .i64 p.n, .slice A1 p.s.length c1, .slice A2 p.o.length c2], fun x hx => (by obtain ⟨⟨h0, h1, h2⟩, ⟨h3, h4, h5⟩⟩ := FS.out x hx; go_simp), ?_⟩
        refine hK _ ?_
        clear hK K
        refine T_ls rfl S0.out (fun K hK => ?_)
        go_simp
        refine ⟨.agg #[.int .i64 q.n, .slice A3 q.s.length c3, .slice A4 q.o.length c4], fun x hx => (by obtain ⟨⟨h0, h1, h2⟩, ⟨h3, h4, h5⟩⟩ := FS.out x hx; go_simp), ?_⟩
        refine hK _ ?_
        clear hK K
        refine T_hvS rfl (fun K hK => ?_)
        go_simp
        go_at_call 123
        refine (HP1.out w3.drew (by simp; omega) (((H.out.below' HB3.out hB).more hB).drew)).mono ?_
        rintro e w4 ⟨Ap, cp, fp, rfl, hown4, hb4⟩
        have hb34 : Below w3.heap.size w3 w4 := (Below.refl _ _).drew.trans (hb4.mono (by simp))
        have OW4 := Lib.hid hown4
        have HB34 := Lib.hid hb34
        have hs4 : w3.heap.size ≤ w4.heap.size := hb34.size
        clear hown4 hb4
        go_simp
        refine hK _ _ hb34 ?_
        clear hK K hb34
        refine T_hvS rfl (fun K hK => ?_)
        go_simp
        go_at_call 123
        have hbw4 : Below w.heap.size w w4 := HB3.out.trans (HB34.out.mono (by omega))
        refine (HP2.out w4 (by omega) ((H'.out.below' hbw4 hB).more hB)).mono ?_
        rintro e w5 ⟨Aq, cq, fq, rfl, hown5, hb5⟩
        have hb35 : Below w3.heap.size w3 w5 := HB34.out.trans (hb5.mono hs4)
        have OW5 := Lib.hid hown5
        have OW45 := Lib.hid (OW4.out.below hb5)
        have HB35 := Lib.hid hb35
        clear hown5 hb5 hbw4
        go_simp
        refine hK _ _ hb35 ?_
        clear hK K hb35
        refine T_hvS rfl (fun K hK => ?_)
        go_simp
        go_at_call 122
        refine (plSame_any _ _ Ap Aq cp cq N' p.o.length q.o.length fp fq (pw p N') (pw q N') w5 (by omega) (by omega) OW45.out OW5.out).mono ?_
        rintro e w6 ⟨rfl, ⟨nd, rfl⟩⟩
        go_simp
        refine hK _ _ (bDrewN HB35.out _) ?_
        clear hK K
        (repeat (refine T_lp rfl (fun K hK => ?_); go_simp; refine hK _ ?_; clear hK K))
        refine T_done ?_
        go_wp2
        go_ret2
        exact ⟨by rw [EA.out, HGP.out, HGQ.out]; rfl, bDrewN (HB3.out.trans (HB35.out.mono (by omega))) _⟩
      · have hpe : (p.n == q.n) = false := by simpa using hpq
        have ea : spV p q = false := by
          unfold spV
          rw [decide_eq_false hpq]
          simp
        have EA := Lib.hid ea
        clear ea hpq
        go_wp2
        refine wp_region_T (fun x : World => Below w3.heap.size w3 x) [0, 1, 2, 3, 4, 5, 6, 8, 11, 12, 13] [1, 3, 6, 8] (.lp 0 (.lp 2 (.ls 1 (.ls 3 (.lp 4 (.lp 5 (.ls 6 (.ls 8 (.hv 7 (.hv 9 (.hv 10 (.lp 11 (.lp 12 (.lp 13 (.done))))))))))))))) (by kernel_rfl) (by kernel_rfl) ?_
        (repeat (refine T_lp rfl (fun K hK => ?_); go_simp; refine hK _ ?_; clear hK K))
        refine T_ls1 (v := .int .i64 p.n) rfl rfl S0.out (fun x hx => (by obtain ⟨⟨h0, h1, h2⟩, ⟨h3, h4, h5⟩⟩ := FS.out x hx; go_simp)) (fun K hK => ?_)
        (go_simp; refine hK _ ?_; clear hK K)
        refine T_ls1 (v := .int .i64 q.n) rfl rfl S0.out (fun x hx => (by obtain ⟨⟨h0, h1, h2⟩, ⟨h3, h4, h5⟩⟩ := FS.out x hx; go_simp)) (fun K hK => ?_)
        (go_simp; refine hK _ ?_; clear hK K)
        (repeat (refine T_lp rfl (fun K hK => ?_); go_simp; refine hK _ ?_; clear hK K))
        refine T_ls rfl S0.out (fun K hK => ?_)
        (go_simp; refine hK _ ?_; clear hK K)
        refine T_ls rfl S0.out (fun K hK => ?_)
        (go_simp; refine hK _ ?_; clear hK K)
        refine T_hvS rfl (fun K hK => ?_)
        go_simp
        refine hK _ _ S0.out ?_
        clear hK K
        refine T_hvS rfl (fun K hK => ?_)
        go_simp
        refine hK _ _ S0.out ?_
        clear hK K
        refine T_hvS rfl (fun K hK => ?_)
        go_simp
        refine hK _ _ S0.out ?_
        clear hK K
        (repeat (refine T_lp rfl (fun K hK => ?_); go_simp; refine hK _ ?_; clear hK K))
        refine T_done ?_
        go_wp2
        go_ret2
        exact ⟨by rw [EA.out, HGP.out, HGQ.out]; rfl, HB3.out.drew⟩
end Go.Proofs.Ytbbjgcagkmlngaa
/- SamePowers, of the program. -/
namespace Go.Proofs.Ytbbjgcagkmlngaa
open Go.RowKit

set_option maxRecDepth 100000 in
set_option maxHeartbeats 4000000 in
theorem implSame_any (B : Nat) (A1 A2 A3 A4 : Option Addr) (c1 c2 c3 c4 : Nat) (p q : Pl) (w : World) (hB : B ≤ w.heap.size) (hls : p.s.length ≤ 2000000) (hlo : p.o.length ≤ 2000000) (hls' : q.s.length ≤ 2000000) (hlo' : q.o.length ≤ 2000000) (hr : RdP w B A1 A2 p) (hr' : RdP w B A3 A4 q) :
    Calls Try.prog 88 #[.agg #[.int .i64 p.n, .slice A1 p.s.length c1, .slice A2 p.o.length c2], .agg #[.int .i64 q.n, .slice A3 q.s.length c3, .slice A4 q.o.length c4]] w fun e w' => e = .returned (.tuple #[.bool (spV p q), .bool (good p && good q)]) ∧ Below w.heap.size w w' := by
  have H := Lib.hid hr
  have H' := Lib.hid hr'
  clear hr hr'
  go_enter Try.func88, Try.ntmps88
  go_wp2_with fail
  go_at_call 81
  generalize hw1 : World.alloc (World.alloc w _) _ = w1
  obtain ⟨⟨x0, x1, x2⟩, ⟨x3, x4, x5⟩, xs, xb⟩ := boxes2c hw1
  clear hw1
  refine (withValues_any B A1 A2 c1 c2 p w1 (by omega) hls hlo (H.out.below' xb hB)).mono ?_
  rintro e w2 ⟨hb2, hpost⟩
  have y0 := (hb2.cell (p := ⟨w.heap.size, 0, none⟩) (by simp only []; omega)).trans x0
  have y3 := (hb2.cell (p := ⟨w.heap.size + 1, 0, none⟩) (by simp only []; omega)).trans x3
  have y4 := (hb2.cell (p := ⟨w.heap.size + 1, 1, none⟩) (by simp only []; omega)).trans x4
  have y5 := (hb2.cell (p := ⟨w.heap.size + 1, 2, none⟩) (by simp only []; omega)).trans x5
  have yk3 := cell_kept y3
  have yk4 := cell_kept y4
  have yk5 := cell_kept y5
  have HB2 := Lib.hid (xb.trans (hb2.mono (show w.heap.size ≤ w1.heap.size by omega)))
  have hs2 : w.heap.size + 2 ≤ w2.heap.size := by have := hb2.size; omega
  have hs12 : w1.heap.size ≤ w2.heap.size := hb2.size
  clear x0 x1 x2 x3 x4 x5 xs xb hb2
  rw [valsI_eq] at hpost
  by_cases hg : good p = true
  · rw [if_pos hg] at hpost
    simp only at hpost
    obtain ⟨A, c, rfl, hown⟩ := hpost
    have HOWN := Lib.hid hown
    have HG := Lib.hid hg
    clear hown hg
    go_wp2_with fail
    go_at_call 81
    generalize hw3 : World.alloc w2 _ = w3
    obtain ⟨v0, v1, v2, v3, vs, vb⟩ := box4b hw3
    clear hw3 yk3 yk4 yk5
    have hbw3 : Below w.heap.size w w3 := HB2.out.trans (vb.mono (by omega))
    refine (withValues_any B A3 A4 c3 c4 q w3 (by omega) hls' hlo' (H'.out.below' hbw3 hB)).mono ?_
    rintro e w4 ⟨hb4, hpost⟩
    have hb24 : Below w2.heap.size w2 w4 := vb.trans (hb4.mono (by omega))
    have z0 := (hb24.cell (p := ⟨w.heap.size, 0, none⟩) (by simp only []; omega)).trans y0
    have z3 := (hb24.cell (p := ⟨w.heap.size + 1, 0, none⟩) (by simp only []; omega)).trans y3
    have u0 := (hb4.cell (p := ⟨w2.heap.size, 0, none⟩) (by simp only []; omega)).trans v0
    have u1 := (hb4.cell (p := ⟨w2.heap.size, 1, none⟩) (by simp only []; omega)).trans v1
    have u2 := (hb4.cell (p := ⟨w2.heap.size, 2, none⟩) (by simp only []; omega)).trans v2
    have u3 := (hb4.cell (p := ⟨w2.heap.size, 3, none⟩) (by simp only []; omega)).trans v3
    have hs4 : w3.heap.size ≤ w4.heap.size := hb4.size
    have HB4 := Lib.hid (hbw3.trans (hb4.mono (by have := hbw3.size; omega)))
    have HB24 := Lib.hid hb24
    clear y0 y3 y4 y5 v0 v1 v2 v3 vb hb4 hb24
    rw [valsI_eq] at hpost
    by_cases hgq : good q = true
    · rw [if_pos hgq] at hpost
      simp only at hpost
      obtain ⟨A', c', rfl, hown'⟩ := hpost
      obtain ⟨N, hN, n1, n6, hs40, ho6, hok, hout, _⟩ := good_facts HG.out
      obtain ⟨N', hN', n1', n6', hs40', ho6', hok', hout', _⟩ := good_facts hgq
      have e1 : p.n.toNat = N := by omega
      have e2 : q.n.toNat = N' := by omega
      have hown := HOWN.out
      simp only [e1, List.length_map] at hown u3
      simp only [e2, List.length_map] at hown' ⊢
      have h1 := fun W B hBW hrW hre => rows_any B N A1 A2 A c1 c2 c p W n1 n6 ho6 hBW hok hout hrW hre
      have h2 := fun W B hBW hrW hre => rows_any B N' A3 A4 A' c3 c4 c' q W n1' n6' ho6' hBW hok' hout' hrW hre
      have hel := exps_length N p.s
      have hel' := exps_length N' q.s
      obtain ⟨L, hL⟩ : ∃ L, (exps N p.s).length = L := ⟨_, rfl⟩
      obtain ⟨L', hL'⟩ : ∃ L, (exps N' q.s).length = L := ⟨_, rfl⟩
      rw [hL] at hown u3
      rw [hL'] at hown' ⊢
      simp only [hL] at h1
      simp only [hL'] at h2
      have HR1 := Lib.hid (Rd.of_own hown)
      have HR2 := Lib.hid (Rd.of_own hown')
      have H1 := Lib.hid h1
      have H2 := Lib.hid h2
      have HGQ := Lib.hid hgq
      have hspV : spV p q = (decide (p.n = q.n) && sameB p.o.length q.o.length (pw p N) (pw q N')) := by
        unfold spV
        rw [HG.out, hgq, e1, e2]
        rfl
      have HSP := Lib.hid hspV
      have HNN := Lib.hid hN
      have HNN' := Lib.hid hN'
      clear h1 h2 hok hout hok' hout' hown hown' hel hel' hL hL' hspV hgq e1 e2 hN hN'
      go_wp2
      generalize hw5 : World.alloc w4 _ = w5
      obtain ⟨t0, t1, t2, t3, ts, tb⟩ := box4b hw5
      clear hw5
      have HB5 := Lib.hid (HB4.out.trans (tb.mono (by have := HB4.out.size; omega)))
      have HB25 := Lib.hid (HB24.out.trans (tb.mono (by omega)))
      have TB := Lib.hid tb
      have FS := Lib.hid (show ∀ x, Below w5.heap.size w5 x → (x.cell? ⟨w.heap.size, 0, none⟩ = some (.int .i64 p.n) ∧ x.cell? ⟨w.heap.size + 1, 0, none⟩ = some (.int .i64 q.n)) ∧ (x.cell? ⟨w2.heap.size, 0, none⟩ = some (.int .i64 p.n) ∧ x.cell? ⟨w2.heap.size, 1, none⟩ = some (.slice A1 p.s.length c1) ∧ x.cell? ⟨w2.heap.size, 2, none⟩ = some (.slice A2 p.o.length c2) ∧ x.cell? ⟨w2.heap.size, 3, none⟩ = some (.slice A L c)) ∧
          (x.cell? ⟨w4.heap.size, 0, none⟩ = some (.int .i64 q.n) ∧ x.cell? ⟨w4.heap.size, 1, none⟩ = some (.slice A3 q.s.length c3) ∧ x.cell? ⟨w4.heap.size, 2, none⟩ = some (.slice A4 q.o.length c4) ∧ x.cell? ⟨w4.heap.size, 3, none⟩ = some (.slice A' L' c')) from fun x hx => by
        have hx4 : Below w4.heap.size w4 x := tb.trans (hx.mono (by omega))
        exact ⟨⟨(hx4.cell (p := ⟨w.heap.size, 0, none⟩) (by simp only []; omega)).trans z0, (hx4.cell (p := ⟨w.heap.size + 1, 0, none⟩) (by simp only []; omega)).trans z3⟩,
          ⟨(hx4.cell (p := ⟨w2.heap.size, 0, none⟩) (by simp only []; omega)).trans u0, (hx4.cell (p := ⟨w2.heap.size, 1, none⟩) (by simp only []; omega)).trans u1, (hx4.cell (p := ⟨w2.heap.size, 2, none⟩) (by simp only []; omega)).trans u2, (hx4.cell (p := ⟨w2.heap.size, 3, none⟩) (by simp only []; omega)).trans u3⟩,
          ⟨(hx.cell (p := ⟨w4.heap.size, 0, none⟩) (by simp only []; omega)).trans t0, (hx.cell (p := ⟨w4.heap.size, 1, none⟩) (by simp only []; omega)).trans t1, (hx.cell (p := ⟨w4.heap.size, 2, none⟩) (by simp only []; omega)).trans t2, (hx.cell (p := ⟨w4.heap.size, 3, none⟩) (by simp only []; omega)).trans t3⟩⟩)
      have S0 := Lib.hid (show Below w5.heap.size w5 w5.drew from (Below.refl _ _).drew)
      have TS := Lib.hid ts
      clear z0 z3 u0 u1 u2 u3 t0 t1 t2 t3 tb hbw3 ts
      by_cases hpq : p.n = q.n
      · have hpe : (p.n == q.n) = true := by simpa using hpq
        obtain rfl : N = N' := by have := HNN.out; have := HNN'.out; omega
        have EA := Lib.hid (HSP.out.trans (by rw [decide_eq_true hpq, Bool.true_and]))
        have h1 := H1.out
        have h2 := H2.out
        rw [← HNN.out] at h1
        rw [← HNN'.out] at h2
        have H1b := Lib.hid h1
        have H2b := Lib.hid h2
        clear hpq h1 h2
        refine wp_region_T (fun x : World => Below w5.heap.size w5 x) [0, 1, 2, 3, 4, 5, 6, 8, 11, 12, 13] [1, 3, 6, 8] (.lp 0 (.lp 2 (.ls 1 (.ls 3 (.lp 4 (.lp 5 (.ls 6 (.ls 8 (.hv 7 (.hv 9 (.hv 10 (.lp 11 (.lp 12 (.lp 13 (.done))))))))))))))) (by kernel_rfl) (by kernel_rfl) ?_
        (repeat (refine T_lp rfl (fun K hK => ?_); go_simp; refine hK _ ?_; clear hK K))
        refine T_ls1 (v := .int .i64 p.n) rfl rfl S0.out (fun x hx => (by obtain ⟨⟨h0, h1⟩, _⟩ := FS.out x hx; go_simp)) (fun K hK => ?_)
        (go_simp; refine hK _ ?_; clear hK K)
        refine T_ls1 (v := .int .i64 q.n) rfl rfl S0.out (fun x hx => (by obtain ⟨⟨h0, h1⟩, _⟩ := FS.out x hx; go_simp)) (fun K hK => ?_)
        (go_simp; refine hK _ ?_; clear hK K)
        (repeat (refine T_lp rfl (fun K hK => ?_); go_simp; refine hK _ ?_; clear hK K))
        refine T_ls rfl S0.out (fun K hK => ?_)
        go_simp
        refine ⟨.agg #[.int .i64 p.n, .slice A1 p.s.length c1, .slice A2 p.o.length c2, .slice A L c], fun x hx => (by obtain ⟨_, ⟨h0, h1, h2, h3⟩, _⟩ := FS.out x hx; go_simp), ?_⟩
        refine hK _ ?_
        clear hK K
        refine T_ls rfl S0.out (fun K hK => ?_)
        go_simp
        refine ⟨.agg #[.int .i64 q.n, .slice A3 q.s.length c3, .slice A4 q.o.length c4, .slice A' L' c'], fun x hx => (by obtain ⟨_, _, ⟨h0, h1, h2, h3⟩⟩ := FS.out x hx; go_simp), ?_⟩
        refine hK _ ?_
        clear hK K
        refine T_hvS rfl (fun K hK => ?_)
        go_simp
        go_at_call 125
        refine (H1b.out w5.drew w5.heap.size (by simp) (((H.out.below' HB5.out hB).more (by have := HB5.out.size; omega)).drew) (((HR1.out.below HB25.out).more (by have := TS.out; omega)).drew)).mono ?_
        rintro e w6 ⟨Ap, cp, fp, rfl, hown6, _, hb6⟩
        have hb56 : Below w5.heap.size w5 w6 := (Below.refl _ _).drew.trans (hb6.mono (by simp))
        have OW6 := Lib.hid hown6
        have HB56 := Lib.hid hb56
        have hs6 : w5.heap.size ≤ w6.heap.size := hb56.size
        clear hown6 hb6
        go_simp
        refine hK _ _ hb56 ?_
        clear hK K hb56
        refine T_hvS rfl (fun K hK => ?_)
        go_simp
        go_at_call 125
        have hbw6 : Below w.heap.size w w6 := HB5.out.trans (HB56.out.mono (by have := HB5.out.size; omega))
        refine (H2b.out w6 w6.heap.size (Nat.le_refl _) ((H'.out.below' hbw6 hB).more (by have := hbw6.size; omega)) ((HR2.out.below (TB.out.trans (HB56.out.mono (by have := TS.out; omega)))).more (by have := TS.out; omega))).mono ?_
        rintro e w7 ⟨Aq, cq, fq, rfl, hown7, _, hb7⟩
        have hb57 : Below w5.heap.size w5 w7 := HB56.out.trans (hb7.mono hs6)
        have OW7 := Lib.hid hown7
        have OW67 := Lib.hid (OW6.out.below hb7)
        have HB57 := Lib.hid hb57
        clear hown7 hb7 hbw6
        go_simp
        refine hK _ _ hb57 ?_
        clear hK K hb57
        refine T_hvS rfl (fun K hK => ?_)
        go_simp
        go_at_call 124
        refine (equalFunc_any _ _ Ap Aq cp cq N p.o.length q.o.length fp fq (pw p N) (pw q N) w7 (by have := TS.out; omega) (by have := TS.out; omega) OW67.out OW7.out).mono ?_
        rintro e w8 ⟨rfl, ⟨nd, rfl⟩⟩
        go_simp
        refine hK _ _ (bDrewN HB57.out _) ?_
        clear hK K
        (repeat (refine T_lp rfl (fun K hK => ?_); go_simp; refine hK _ ?_; clear hK K))
        refine T_done ?_
        go_wp2
        go_ret2
        exact ⟨by rw [EA.out, HG.out, HGQ.out]; rfl, bDrewN (HB5.out.trans (HB57.out.mono (by have := HB5.out.size; omega))) _⟩
      · have hpe : (p.n == q.n) = false := by simpa using hpq
        have EA := Lib.hid (HSP.out.trans (by rw [decide_eq_false hpq, Bool.false_and]))
        clear hpq
        refine wp_region_T (fun x : World => Below w5.heap.size w5 x) [0, 1, 2, 3, 4, 5, 6, 8, 11, 12, 13] [1, 3, 6, 8] (.lp 0 (.lp 2 (.ls 1 (.ls 3 (.lp 4 (.lp 5 (.ls 6 (.ls 8 (.hv 7 (.hv 9 (.hv 10 (.lp 11 (.lp 12 (.lp 13 (.done))))))))))))))) (by kernel_rfl) (by kernel_rfl) ?_
        (repeat (refine T_lp rfl (fun K hK => ?_); go_simp; refine hK _ ?_; clear hK K))
        refine T_ls1 (v := .int .i64 p.n) rfl rfl S0.out (fun x hx => (by obtain ⟨⟨h0, h1⟩, _⟩ := FS.out x hx; go_simp)) (fun K hK => ?_)
        (go_simp; refine hK _ ?_; clear hK K)
        refine T_ls1 (v := .int .i64 q.n) rfl rfl S0.out (fun x hx => (by obtain ⟨⟨h0, h1⟩, _⟩ := FS.out x hx; go_simp)) (fun K hK => ?_)
        (go_simp; refine hK _ ?_; clear hK K)
        (repeat (refine T_lp rfl (fun K hK => ?_); go_simp; refine hK _ ?_; clear hK K))
        refine T_ls rfl S0.out (fun K hK => ?_)
        (go_simp; refine hK _ ?_; clear hK K)
        refine T_ls rfl S0.out (fun K hK => ?_)
        (go_simp; refine hK _ ?_; clear hK K)
        refine T_hvS rfl (fun K hK => ?_)
        go_simp
        refine hK _ _ S0.out ?_
        clear hK K
        refine T_hvS rfl (fun K hK => ?_)
        go_simp
        refine hK _ _ S0.out ?_
        clear hK K
        refine T_hvS rfl (fun K hK => ?_)
        go_simp
        refine hK _ _ S0.out ?_
        clear hK K
        (repeat (refine T_lp rfl (fun K hK => ?_); go_simp; refine hK _ ?_; clear hK K))
        refine T_done ?_
        go_wp2
        go_ret2
        exact ⟨by rw [EA.out, HG.out, HGQ.out]; rfl, HB5.out.drew⟩
    · rw [if_neg hgq] at hpost
      simp only at hpost
      subst hpost
      have hg' : good q = false := by simpa using hgq
      have EA := Lib.hid (show spV p q = false by simp [spV, hg'])
      have HGQ := Lib.hid hg'
      clear hgq hg'
      go_wp2
      go_ret2
      exact ⟨by rw [EA.out, HG.out, HGQ.out]; rfl, HB4.out.alloc HB4.out.size _⟩
  · rw [if_neg hg] at hpost
    simp only at hpost
    subst hpost
    have hg' : good p = false := by simpa using hg
    have EA := Lib.hid (show spV p q = false by simp [spV, hg'])
    have HG := Lib.hid hg'
    clear hg hg'
    go_wp2_with fail
    go_at_call 81
    generalize hw3 : World.alloc w2 _ = w3
    obtain ⟨v0, v1, v2, v3, vs, vb⟩ := box4b hw3
    clear hw3 yk3 yk4 yk5
    have hbw3 : Below w.heap.size w w3 := HB2.out.trans (vb.mono (by omega))
    refine (withValues_any B A3 A4 c3 c4 q w3 (by omega) hls' hlo' (H'.out.below' hbw3 hB)).mono ?_
    rintro e w4 ⟨hb4, hpost⟩
    have HB4 := Lib.hid (hbw3.trans (hb4.mono (by have := hbw3.size; omega)))
    clear y0 y3 y4 y5 v0 v1 v2 v3 vb hb4
    rw [valsI_eq] at hpost
    by_cases hgq : good q = true
    · rw [if_pos hgq] at hpost
      simp only at hpost
      obtain ⟨A', c', rfl, hown'⟩ := hpost
      clear hown' hgq
      go_wp2
      go_ret2
      exact ⟨by rw [EA.out, HG.out]; rfl, HB4.out.alloc HB4.out.size _⟩
    · rw [if_neg hgq] at hpost
      simp only at hpost
      subst hpost
      clear hgq
      go_wp2
      go_ret2
      exact ⟨by rw [EA.out, HG.out]; rfl, HB4.out.alloc HB4.out.size _⟩
end Go.Proofs.Ytbbjgcagkmlngaa
/- Code of registers against a plan. -/
namespace Go.Proofs.Ytbbjgcagkmlngaa
open Go.RowKit

theorem good_zero : good zeroP = false := by rfl
theorem good_rcR (c : Rc) : good (rcR c) = rcB c := by
  cases h : rcB c with
  | false => rw [rcR_false h, good_zero]
  | true =>
    rw [rcR_true h]
    unfold rcB at h
    simp only [Bool.and_eq_true] at h
    exact h.2.2.2
def ckV (c : Rc) (p : Pl) : Bool := spV (rcR c) p
def ckG (c : Rc) (p : Pl) : Bool := rcB c && good p
theorem ck_bad {c : Rc} {p : Pl} (h : ckG c p = false) : ckV c p = false := by
  unfold ckV spV
  rw [good_rcR]
  have h' : (rcB c && good p) = false := h
  rw [h']
  rfl

set_option maxRecDepth 100000 in
set_option maxHeartbeats 4000000 in
theorem specCheck_any (B : Nat) (A1 A2 A3 : Option Addr) (c1 c2 c3 : Nat) (c : Rc) (P1 P2 : Option Addr) (d1 d2 : Nat) (p : Pl) (w : World) (hB : B ≤ w.heap.size) (hl1 : c.i.length ≤ 1048576) (hl2 : c.ops.length ≤ 1048576) (hl3 : c.o.length ≤ 1048576) (hs : p.s.length ≤ 1048576) (ho : p.o.length ≤ 1048576) (hcap : c.i.length ≤ c1 ∧ c.ops.length ≤ c2 ∧ c.o.length ≤ c3) (hr : RdC w B A1 A2 A3 c) (hp : RdP w B P1 P2 p) :
    Calls Try.prog 41 #[.agg #[.int .i64 c.r, .slice A1 c.i.length c1, .slice A2 c.ops.length c2, .slice A3 c.o.length c3], .agg #[.int .i64 p.n, .slice P1 p.s.length d1, .slice P2 p.o.length d2]] w fun e w' => e = .returned (.tuple #[.bool (ckV c p), .bool (ckG c p)]) ∧ Below w.heap.size w w' := by
  have H := Lib.hid hr
  have HP := Lib.hid hp
  have RP := Lib.hid (fun W hW hrW => rePlan_any B A1 A2 A3 c1 c2 c3 c W hW hl1 hl2 hl3 hcap hrW)
  clear hr hp hcap
  go_enter Try.func41, Try.ntmps41
  go_wp2_with fail
  go_at_call 58
  generalize hw1 : World.alloc w _ = w1
  obtain ⟨_, xs, xb⟩ := bx4r hw1
  clear hw1
  generalize hw2 : World.alloc w1 _ = w2
  obtain ⟨⟨y0, y1, y2⟩, ys, yb⟩ := bx3r hw2
  clear hw2
  rw [xs] at y0 y1 y2
  have HB2 := Lib.hid (xb.trans (yb.mono (by omega)))
  have hs2 : w.heap.size + 2 = w2.heap.size := by omega
  clear xs ys xb yb
  refine (RP.out w2 (by omega) (H.out.below' HB2.out hB)).mono ?_
  rintro e w3 ⟨V, rfl, hV, hb3⟩
  have y0 := (hb3.cell (p := ⟨w.heap.size + 1, 0, none⟩) (by simp only []; omega)).trans y0
  have y1 := (hb3.cell (p := ⟨w.heap.size + 1, 1, none⟩) (by simp only []; omega)).trans y1
  have y2 := (hb3.cell (p := ⟨w.heap.size + 1, 2, none⟩) (by simp only []; omega)).trans y2
  have HB3 := Lib.hid (HB2.out.trans (hb3.mono (by omega)))
  have HV := Lib.hid hV
  have hs3 : w.heap.size + 2 ≤ w3.heap.size := by have := hb3.size; omega
  obtain ⟨a, n1, n2, R1, R2, v1, v2, rfl⟩ := hV.2
  clear hV hb3 hs2
  cases hg : rcB c with
  | false =>
    have EG := Lib.hid (show ckG c p = false by unfold ckG; rw [hg]; rfl)
    have EV := Lib.hid (ck_bad EG.out)
    clear hg
    go_wp2
    go_ret2
    exact ⟨by rw [EG.out, EV.out]; rfl, HB3.out.alloc HB3.out.size _⟩
  | true =>
    obtain ⟨R1', R2', v1', v2', he, hown⟩ := HV.out.1 hg
    injection he with he
    simp only [Array.mk.injEq, List.cons.injEq, Value.int.injEq, Value.slice.injEq, and_true, true_and] at he
    obtain ⟨rfl, ⟨rfl, rfl, rfl⟩, rfl, rfl, rfl⟩ := he
    have OWN := Lib.hid hown
    have HG := Lib.hid hg
    have Y0 := cell_kept y0
    have Y1 := cell_kept y1
    have Y2 := cell_kept y2
    clear hown
    have RL := Lib.hid (rcR_len c)
    have ER := Lib.hid (rcR_true hg)
    clear hg
    go_wp2_with fail
    go_at_call 74
    generalize hw4 : World.alloc w3 _ = w4
    obtain ⟨⟨e0, e1, e2⟩, es, eb⟩ := bx3r hw4
    clear hw4 Y0 Y1 Y2
    have y0 := (eb.cell (p := ⟨w.heap.size + 1, 0, none⟩) (by simp only []; omega)).trans y0
    have y1 := (eb.cell (p := ⟨w.heap.size + 1, 1, none⟩) (by simp only []; omega)).trans y1
    have y2 := (eb.cell (p := ⟨w.heap.size + 1, 2, none⟩) (by simp only []; omega)).trans y2
    have HB4 := Lib.hid (HB3.out.trans (eb.mono (by omega)))
    have OWN4 := Lib.hid (OWN.out.below eb)
    have hC := plGood_any B P1 P2 d1 d2 p w4 (by have := HB4.out.size; omega) (by omega) (by omega) (HP.out.below' HB4.out hB)
    obtain ⟨gp, hgp⟩ : ∃ t, good p = t := ⟨_, rfl⟩
    rw [hgp] at hC
    have HGP := Lib.hid hgp
    refine hC.mono ?_
    rintro e w5 ⟨rfl, hb5⟩
    have hs4 : w3.heap.size + 1 = w4.heap.size := es.symm
    have y0 := (hb5.cell (p := ⟨w.heap.size + 1, 0, none⟩) (by simp only []; omega)).trans y0
    have y1 := (hb5.cell (p := ⟨w.heap.size + 1, 1, none⟩) (by simp only []; omega)).trans y1
    have y2 := (hb5.cell (p := ⟨w.heap.size + 1, 2, none⟩) (by simp only []; omega)).trans y2
    have e0 := (hb5.cell (p := ⟨w3.heap.size, 0, none⟩) (by simp only []; omega)).trans e0
    have e1 := (hb5.cell (p := ⟨w3.heap.size, 1, none⟩) (by simp only []; omega)).trans e1
    have e2 := (hb5.cell (p := ⟨w3.heap.size, 2, none⟩) (by simp only []; omega)).trans e2
    have HB5 := Lib.hid (HB4.out.trans (hb5.mono HB4.out.size))
    have OWN5 := Lib.hid (OWN4.out.below hb5)
    clear hC hgp hb5 eb es
    cases gp with
    | false =>
      have EG := Lib.hid (show ckG c p = false by unfold ckG; rw [HG.out, HGP.out]; rfl)
      have EV := Lib.hid (ck_bad EG.out)
      go_wp2
      go_ret2
      exact ⟨by rw [EG.out, EV.out]; rfl, HB5.out⟩
    | true =>
      have EG := Lib.hid (show ckG c p = true by unfold ckG; rw [HG.out, HGP.out]; rfl)
      have hS := specSame_any w5.heap.size R1 R2 P1 P2 v1 v2 d1 d2 (rcP c) p w5 (Nat.le_refl _) (by rw [← ER.out]; have := RL.out.1; omega) (by rw [← ER.out]; have := RL.out.2; omega) (by omega) (by omega) OWN5.out.rd ((HP.out.below' HB5.out hB).more (by have := HB5.out.size; omega))
      rw [show (good (rcP c) && good p) = true from by rw [← ER.out, good_rcR, HG.out, HGP.out]; rfl] at hS
      have HS := Lib.hid hS
      have EV := Lib.hid (show ckV c p = spV (rcP c) p by unfold ckV; rw [ER.out])
      obtain ⟨u, hu⟩ : ∃ u, spV (rcP c) p = u := ⟨_, rfl⟩
      have ev := EV.out
      have hS := HS.out
      rw [hu] at ev hS
      have HS := Lib.hid hS
      have EV := Lib.hid ev
      clear hS ev hu
      go_wp2_with fail
      go_at_call 87
      refine HS.out.mono ?_
      rintro e w6 ⟨rfl, hb6⟩
      have HB6 := Lib.hid (HB5.out.trans (hb6.mono HB5.out.size))
      clear hb6
      go_wp2
      go_ret2
      exact ⟨by rw [EG.out, EV.out]; rfl, HB6.out⟩

set_option maxRecDepth 100000 in
set_option maxHeartbeats 4000000 in
theorem implCheck_any (B : Nat) (A1 A2 A3 : Option Addr) (c1 c2 c3 : Nat) (c : Rc) (P1 P2 : Option Addr) (d1 d2 : Nat) (p : Pl) (w : World) (hB : B ≤ w.heap.size) (hl1 : c.i.length ≤ 1048576) (hl2 : c.ops.length ≤ 1048576) (hl3 : c.o.length ≤ 1048576) (hs : p.s.length ≤ 1048576) (ho : p.o.length ≤ 1048576) (hcap : c.i.length ≤ c1 ∧ c.ops.length ≤ c2 ∧ c.o.length ≤ c3) (hr : RdC w B A1 A2 A3 c) (hp : RdP w B P1 P2 p) :
    Calls Try.prog 42 #[.agg #[.int .i64 c.r, .slice A1 c.i.length c1, .slice A2 c.ops.length c2, .slice A3 c.o.length c3], .agg #[.int .i64 p.n, .slice P1 p.s.length d1, .slice P2 p.o.length d2]] w fun e w' => e = .returned (.tuple #[.bool (ckV c p), .bool (ckG c p)]) ∧ Below w.heap.size w w' := by
  have H := Lib.hid hr
  have HP := Lib.hid hp
  have RP := Lib.hid (fun W hW hrW => implRcPlan_any B A1 A2 A3 c1 c2 c3 c W hW hl1 hl2 hl3 hcap hrW)
  have RL := Lib.hid (rcR_len c)
  have GR := Lib.hid (good_rcR c)
  obtain ⟨m, hm⟩ : ∃ m, rcR c = m := ⟨_, rfl⟩
  have EV := Lib.hid (show ckV c p = spV m p by unfold ckV; rw [hm])
  have rp := RP.out
  have rl := RL.out
  have gr := GR.out
  rw [hm] at rp rl gr
  have EG := Lib.hid (show ckG c p = (good m && good p) by unfold ckG; rw [gr])
  have RP := Lib.hid rp
  obtain ⟨rl1, rl2⟩ := rl
  clear hr hp hcap rp gr hm
  go_enter Try.func42, Try.ntmps42
  go_wp2_with fail
  go_at_call 21
  generalize hw1 : World.alloc w _ = w1
  obtain ⟨_, xs, xb⟩ := bx4r hw1
  clear hw1
  generalize hw2 : World.alloc w1 _ = w2
  obtain ⟨⟨y0, y1, y2⟩, ys, yb⟩ := bx3r hw2
  clear hw2
  rw [xs] at y0 y1 y2
  have HB2 := Lib.hid (xb.trans (yb.mono (by omega)))
  have hs2 : w.heap.size + 2 = w2.heap.size := by omega
  clear xs ys xb yb
  refine (RP.out w2 (by omega) (H.out.below' HB2.out hB)).mono ?_
  rintro e w3 ⟨E1, E2, e1, e2, rfl, hown, hb3⟩
  have y0 := (hb3.cell (p := ⟨w.heap.size + 1, 0, none⟩) (by simp only []; omega)).trans y0
  have y1 := (hb3.cell (p := ⟨w.heap.size + 1, 1, none⟩) (by simp only []; omega)).trans y1
  have y2 := (hb3.cell (p := ⟨w.heap.size + 1, 2, none⟩) (by simp only []; omega)).trans y2
  have HB3 := Lib.hid (HB2.out.trans (hb3.mono (by omega)))
  have OWN := Lib.hid hown
  have hs3 : w.heap.size + 2 ≤ w3.heap.size := by have := hb3.size; omega
  have Y0 := cell_kept y0
  have Y1 := cell_kept y1
  have Y2 := cell_kept y2
  clear hown hb3 hs2
  go_wp2_with fail
  go_at_call 88
  generalize hw4 : World.alloc w3 _ = w4
  obtain ⟨_, es, eb⟩ := bx3r hw4
  clear hw4 Y0 Y1 Y2
  have HB4 := Lib.hid (HB3.out.trans (eb.mono (by omega)))
  refine (implSame_any w4.heap.size E1 E2 P1 P2 e1 e2 d1 d2 m p w4 (Nat.le_refl _) (by omega) (by omega) (by omega) (by omega) (OWN.out.below eb).rd ((HP.out.below' HB4.out hB).more (by have := HB4.out.size; omega))).mono ?_
  rintro e w5 ⟨rfl, hb5⟩
  have HB5 := Lib.hid (HB4.out.trans (hb5.mono HB4.out.size))
  clear hb5
  go_wp2
  go_ret2
  exact ⟨by rw [EG.out, EV.out]; rfl, HB5.out⟩
end Go.Proofs.Ytbbjgcagkmlngaa
