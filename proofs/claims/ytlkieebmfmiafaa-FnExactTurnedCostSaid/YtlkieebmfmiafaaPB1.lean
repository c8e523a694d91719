/- Joined: Jc Us Ut Uu Jd Gr Ca Je Mk Jf Jg Jh Cb Qm Qa Qb Qc Qd Qe Ml Mm Ql Qf Qg Bl Qj Qn Uv Kb Kd Ta Tb Cc Cd Pa Ce Mu. -/
import Derived.Test.YtlkieebmfmiafaaPB0
import Derived.WalkMore
import Derived.Lib.AppendZeros
import Derived.Lib.AppendZerosOnto
import Derived.Shelf.Small.Bits
import Derived.Lib.BitFns
/- How often values are used, by the model. -/
namespace Go.Proofs.Ytlkieebmfmiafaa
open Go.RowKit

set_option maxRecDepth 100000 in
set_option maxHeartbeats 2000000 in
theorem duUses_any (B N R : Nat) (A1 A2 : Option Addr) (c1 c2 : Nat) (p : Pl) (w : World) (hpn : p.n = N) (h6 : N ≤ 6) (hs40 : p.s.length ≤ 40) (ho6 : p.o.length ≤ 6) (hR : R = N + p.s.length) (hB : B ≤ w.heap.size) (hok : OkS N p.s)
    (hout : ∀ x ∈ p.o, 0 ≤ x ∧ x < (N : Int) + p.s.length) (hr : RdP w B A1 A2 p) :
    Calls Try.prog 59 #[.agg #[.int .i64 p.n, .slice A1 p.s.length c1, .slice A2 p.o.length c2]] w fun e w' =>
      ∃ A c, e = .returned (.slice A R c) ∧ w'.ownsRow w.heap.size 3 1 (.slice A R c) R ((cL p.s p.o R p.s.length p.o.length).map I) ∧ Below w.heap.size w w' := by
  have H := Lib.hid hr
  have HO := Lib.hid hok
  have HOUT := Lib.hid hout
  have HR := Lib.hid hR
  have hR46 : R ≤ 46 := by omega
  have hNR : (N : Int) + (p.s.length : Int) = (R : Int) := by omega
  clear hr hok hout hR
  rw [hpn]
  clear hpn
  have hmk := run_make_row' (P := Try.prog) 23 3 (.int .i64 0) 8 Try.underlying23 info_int rfl .i64 .i64 R (by omega) (by omega)
  go_enter Try.func59, Try.ntmps59
  go_wp2
  clear hmk
  generalize hw1 : World.alloc w _ = w1
  obtain ⟨x0, x1, x2, xs, xb⟩ := box3 hw1
  clear hw1
  rw [← xs]
  generalize hw2 : World.alloc w1 _ = w2
  have hmade : w2.ownsRow (w.heap.size + 1) 3 1 (.slice (some ⟨w1.heap.size, 0, none⟩) R R) R ((cL p.s p.o R 0 0).map I) := by
    rw [cL_zero, List.map_replicate, ← hw2]
    exact zeros_row R (by omega) (by omega)
  have hb2 : Below (w.heap.size + 1) w1 w2 := by rw [← hw2]; exact (Below.refl _ _).alloc (by omega) _
  clear hw2
  have y2 := (hb2.cell (p := ⟨w.heap.size, 2, none⟩) (by simp)).trans x2
  have HB2 := Lib.hid (xb.trans (hb2.mono (show w.heap.size ≤ w.heap.size + 1 by omega)))
  have HM := Lib.hid hmade
  have hg : w.heap.size + 1 ≤ w1.heap.size := by omega
  clear x0 x1 x2 xs xb hb2 hmade hNR
  go_loopw [18] (fun i wr => ∃ k : Nat, k ≤ p.s.length ∧ i = .int .i64 k ∧ wr.ownsRow (w.heap.size + 1) 3 1 (.slice (some ⟨w1.heap.size, 0, none⟩) R R) R ((cL p.s p.o R k 0).map I) ∧ Below (w.heap.size + 1) w2 wr) (fun i _ => p.s.length - (intOf i).toNat)
  case atStart => exact ⟨0, by omega, rfl, HM.out, Below.refl _ _⟩
  case round =>
    obtain ⟨k, hk, rfl, hown, hbel⟩ := hrel
    have hsz : w.heap.size + 1 ≤ wr.heap.size := by have := hbel.size; have := (own_block HM.out) _ rfl; omega
    by_cases hlt : k < p.s.length
    · obtain ⟨o1, o2, o3⟩ := HO.out k hlt
      obtain ⟨a, ha⟩ : ∃ a : Nat, (p.s[k]).1 = a := ⟨(p.s[k]).1.toNat, by omega⟩
      obtain ⟨b, hb⟩ : ∃ b : Nat, (p.s[k]).2 = b := ⟨(p.s[k]).2.toNat, by omega⟩
      obtain ⟨sb, off, rfl, hsb, hc1, hc2⟩ := ((H.out.1.below' HB2.out hB).below' hbel (by omega)).stp hlt
      have hst : p.s.getD k (0, 0) = ((a : Int), (b : Int)) := by
        have e : p.s.getD k (0, 0) = p.s[k] := by simp [hlt]
        rw [e, ← ha, ← hb]
      rw [ha] at hc1
      rw [hb] at hc2
      have haR : a < R := by have := HR.out; omega
      have hbR : b < R := by have := HR.out; omega
      have iaR : (a : Int) < (R : Int) := by omega
      have ibR : (b : Int) < (R : Int) := by omega
      obtain ⟨w3, hw3⟩ : ∃ w3, wr.alloc (.cells #[.int .i64 (a : Int), .int .i64 (b : Int)] 94) = w3 := ⟨_, rfl⟩
      obtain ⟨d0, d1, ds, db⟩ := box2 hw3
      have hown3 := own_below hown db
      have u1 := OwI.cellD hown3 haR
      rw [cL_at p.s p.o k 0 haR] at u1
      have f1 : w3.frozen? ⟨w1.heap.size, a, none⟩ = false := hown3.frozenAt _
      have hown4 := OwI.set (a := a) hown3 ((usC p.s p.o k 0 (a : Int) : Nat) + 1)
      have u2 := OwI.cellD hown4 hbR
      rw [cL_mid_at p.o haR hbR] at u2
      have f2 : (w3.setCell ⟨w1.heap.size, a, none⟩ (.int .i64 ((usC p.s p.o k 0 (a : Int) : Nat) + 1))).frozen? ⟨w1.heap.size, b, none⟩ = false := hown4.frozenAt _
      have hown5 := OwI.set (a := b) hown4 (((usC p.s p.o k 0 (b : Int) + (if b = a then 1 else 0) : Nat) : Int) + 1)
      rw [cL_step p.o haR hbR hst] at hown5
      have g1 : (w3.setCell ⟨w1.heap.size, a, none⟩ (.int .i64 ((usC p.s p.o k 0 (a : Int) : Nat) + 1))).cell? ⟨wr.heap.size, 1, none⟩ = some (.int .i64 (b : Int)) := by
        have hgw : w1.heap.size < wr.heap.size := ((own_block hown) _ rfl).2
        exact (World.cell?_of_block (a := ⟨wr.heap.size, 1, none⟩) (Below.heap_setCell w3 ⟨w1.heap.size, a, none⟩ _ wr.heap.size (by simp only []; omega))).trans d1
      have bc1 := usC_le p.s p.o k 0 (a : Int)
      have bc2 := usC_le p.s p.o k 0 (b : Int)
      obtain ⟨n1, hn1⟩ : ∃ n, usC p.s p.o k 0 (a : Int) = n := ⟨_, rfl⟩
      obtain ⟨n2, hn2⟩ : ∃ n, usC p.s p.o k 0 (b : Int) + (if b = a then 1 else 0) = n := ⟨_, rfl⟩
      have bn2 : n2 ≤ 2 * k + 1 := by rw [← hn2]; split <;> omega
      rw [hn1] at u1 f2 u2 g1 hown5 bc1
      rw [hn2] at u2 hown5
      have O5 := Lib.hid hown5
      have BEL := Lib.hid hbel
      have DB := Lib.hid db
      clear hown hbel hown3 hown4 hown5 hst ha hb o1 o2 o3 hn1 hn2 bc2 db
      have iqk : (k : Int) < (p.s.length : Int) := by omega
      go_wp2
      go_roundw
      case rel =>
        refine ⟨k + 1, by omega, by go_num, O5.out, ?_⟩
        exact ((BEL.out.trans (DB.out.mono hsz)).setCell hg _).setCell hg _
      case measure => simp [intOf]; omega
    · have hk' : k = p.s.length := by omega
      subst hk'
      have z2 := (hbel.cell (p := ⟨w.heap.size, 2, none⟩) (by simp)).trans y2
      have HB3 := Lib.hid (HB2.out.trans (hbel.mono (show w.heap.size ≤ w.heap.size + 1 by omega)))
      have OWN := Lib.hid hown
      clear hown hbel y2
      go_wp2
      go_loopw [40] (fun i wq => ∃ k : Nat, k ≤ p.o.length ∧ i = .int .i64 k ∧ wq.ownsRow (w.heap.size + 1) 3 1 (.slice (some ⟨w1.heap.size, 0, none⟩) R R) R ((cL p.s p.o R p.s.length k).map I) ∧ Below (w.heap.size + 1) wr wq) (fun i _ => p.o.length - (intOf i).toNat)
      case atStart => exact ⟨0, by omega, rfl, OWN.out, Below.refl _ _⟩
      case round =>
        obtain ⟨j, hj, rfl, hown, hbel⟩ := hrel
        by_cases hlt : j < p.o.length
        · obtain ⟨ob, oo, rfl, hob, hoc⟩ := ((H.out.2.below' HB3.out hB).below' hbel (by omega)).int hlt
          obtain ⟨q1, q2⟩ := HOUT.out _ (List.getElem_mem hlt)
          obtain ⟨v, hv⟩ : ∃ v : Nat, p.o[j] = v := ⟨(p.o[j]).toNat, by omega⟩
          have hvR : v < R := by have := HR.out; omega
          have ivR : (v : Int) < (R : Int) := by omega
          have hst : p.o.getD j 0 = (v : Int) := by simp [hlt, hv]
          rw [hv] at hoc
          have u1 := OwI.cellD hown hvR
          rw [cL_at p.s p.o p.s.length j hvR] at u1
          have f1 : wr.frozen? ⟨w1.heap.size, v, none⟩ = false := hown.frozenAt _
          have hown5 := OwI.set (a := v) hown ((usC p.s p.o p.s.length j (v : Int) : Nat) + 1)
          rw [cL_out p.s p.s.length hvR hst] at hown5
          have bc1 := usC_le p.s p.o p.s.length j (v : Int)
          obtain ⟨n1, hn1⟩ : ∃ n, usC p.s p.o p.s.length j (v : Int) = n := ⟨_, rfl⟩
          rw [hn1] at u1 hown5 bc1
          have O5 := Lib.hid hown5
          have BEL := Lib.hid hbel
          have iqj : (j : Int) < (p.o.length : Int) := by omega
          clear hown hbel hown5 hst hv q1 q2 hn1
          go_wp2
          go_roundw
          case rel => exact ⟨j + 1, by omega, by go_num, O5.out, BEL.out.setCell hg _⟩
          case measure => simp [intOf]; omega
        · have hj' : j = p.o.length := by omega
          subst hj'
          have O5 := Lib.hid hown
          have HB4 := Lib.hid (HB3.out.trans (hbel.mono (show w.heap.size ≤ w.heap.size + 1 by omega)))
          clear hown hbel
          go_wp2
          go_ret
          exact ⟨_, _, rfl, own_base O5.out (by omega), HB4.out⟩
end Go.Proofs.Ytlkieebmfmiafaa
/- Used steps, of the model and of the program. -/
namespace Go.Proofs.Ytlkieebmfmiafaa
open Go.RowKit

theorem put_below {w w2 w3 : World} {o o' : Obj} (h : Below w.heap.size (w.alloc o) w2) (h' : Below w.heap.size (w2.alloc o') w3) : Below w.heap.size w w3 := by
  have hs2 : w.heap.size ≤ w2.heap.size := by have := h.size; simp at this; omega
  exact ((((Below.refl _ _).alloc (Nat.le_refl _) _).trans h).alloc hs2 _).trans h'

set_option maxHeartbeats 1000000 in
theorem l1Put_any (B : Nat) (A : Option Addr) (c : Nat) (l : List Int) (n : Int) (w : World) (hm : l.length ≤ 1000000) (hB : B ≤ w.heap.size) (hlt : ∀ x ∈ l, n < x) (hcap : l.length ≤ c) (hr : Rd w B 1 A l.length (l.map I)) :
    Calls Try.prog 119 #[.slice A l.length c, .int .i64 n] w fun e w' => ∃ A' c', e = .returned (.slice A' (l.length + 1) c') ∧ OwI w' w.heap.size (.slice A' (l.length + 1) c') (n :: l) ∧ Below w.heap.size w w' := by
  have H := Lib.hid hr
  have HLT := Lib.hid hlt
  clear hr hlt
  go_enter Try.func119, Try.ntmps119
  go_wp2
  go_loop [5] (fun i => i = .int .i64 0) (fun _ => 0)
  case atStart => rfl
  case round =>
    subst hrel
    by_cases hl : 0 < l.length
    · obtain ⟨b, off, rfl, hb, hcell⟩ := H.out.int hl
      rw [Nat.add_zero] at hcell
      have h1 := HLT.out _ (List.getElem_mem hl)
      have h2 : ¬ l[0] < n := by omega
      have h3 : ¬ l[0] = n := by omega
      have i0 : (0 : Int) < (l.length : Int) := by omega
      go_wp2_with (first
        | (at_builtin; refine list_step (fun K hK => ?_); refine step_appM Try.underlying23 info_int rfl (by omega) (by omega) rfl (.tmp 34) (.tmp 37) rfl w.heap.size 0 _ [] rfl (own_empty 1 (Nat.le_refl _)) _ 0 _ [] rfl (Rd.nil _ 0 _ _) (by simp) (by omega) (by simp) ?_; intro A2 c2 w2 hown2 hg2 hbel2; go_simp; refine hK _ _ ?_; clear hK K)
        | (at_builtin; refine list_step (fun K hK => ?_); refine step_app1 Try.underlying23 info_int rfl (by omega) rfl (.tmp 39) (.tmp 41) rfl w.heap.size 0 _ [] rfl (World.ownsRow.alloc hown2 _) w2.heap.size 1 (I n) rfl (by simp) rfl (by omega) (by have := hbel2.size; simp at this; simp; omega) ?_; intro A3 c3 w3 hown3 hg3 hbel3; go_simp; refine hK _ _ ?_; clear hK K)
        | (at_builtin; refine list_step (fun K hK => ?_); have hb23 := put_below hbel2 hbel3; refine step_appM Try.underlying23 info_int rfl (by omega) (by omega) rfl (.tmp 43) (.tmp 46) rfl w.heap.size 1 _ _ rfl hown3 _ l.length _ (l.map I) rfl (H.out.below' hb23 hB) (ints_one l) (by omega) hb23.size ?_; intro A4 c4 w4 hown4 hg4 hbel4; go_simp; refine hK _ _ ?_; clear hK K))
      go_ret
      refine ⟨A4, c4, ret_slice (by omega), ?_, (put_below hbel2 hbel3).trans hbel4⟩
      have h := hown4
      rw [show 1 + l.length = l.length + 1 by omega] at h
      simpa [OwI] using h
    · have hl0 : l.length = 0 := by omega
      go_wp2_with (first
        | (at_builtin; refine list_step (fun K hK => ?_); refine step_appM Try.underlying23 info_int rfl (by omega) (by omega) rfl (.tmp 34) (.tmp 37) rfl w.heap.size 0 _ [] rfl (own_empty 1 (Nat.le_refl _)) _ 0 _ [] rfl (Rd.nil _ 0 _ _) (by simp) (by omega) (by simp) ?_; intro A2 c2 w2 hown2 hg2 hbel2; go_simp; refine hK _ _ ?_; clear hK K)
        | (at_builtin; refine list_step (fun K hK => ?_); refine step_app1 Try.underlying23 info_int rfl (by omega) rfl (.tmp 39) (.tmp 41) rfl w.heap.size 0 _ [] rfl (World.ownsRow.alloc hown2 _) w2.heap.size 1 (I n) rfl (by simp) rfl (by omega) (by have := hbel2.size; simp at this; simp; omega) ?_; intro A3 c3 w3 hown3 hg3 hbel3; go_simp; refine hK _ _ ?_; clear hK K)
        | (at_builtin; refine list_step (fun K hK => ?_); have hb23 := put_below hbel2 hbel3; refine step_appM Try.underlying23 info_int rfl (by omega) (by omega) rfl (.tmp 43) (.tmp 46) rfl w.heap.size 1 _ _ rfl hown3 _ 0 _ (l.map I) rfl (by have h := H.out.below' hb23 hB; rw [hl0] at h; exact h) (ints_one l) (by omega) hb23.size ?_; intro A4 c4 w4 hown4 hg4 hbel4; go_simp; refine hK _ _ ?_; clear hK K))
      go_ret
      refine ⟨A4, c4, ret_slice (by omega), ?_, (put_below hbel2 hbel3).trans hbel4⟩
      have h := hown4
      rw [show 1 + 0 = l.length + 1 by omega] at h
      show w4.ownsRow _ _ _ _ _ _
      have e1 : (n :: l).length = l.length + 1 := rfl
      rw [e1]
      first | exact h | (rw [hl0] at h ⊢; exact h)
end Go.Proofs.Ytlkieebmfmiafaa
/- Used steps: what they are, and the model's. -/
namespace Go.Proofs.Ytlkieebmfmiafaa
open Go.RowKit

def needI (N : Nat) (s : List (Int × Int)) (o : List Int) : Nat → List Int
  | 0 => o
  | j + 1 => if hasI (needI N s o j) ((N : Int) + ((s.length - 1 - j : Nat) : Int)) then needI N s o j ++ [(s.getD (s.length - 1 - j) (0, 0)).1, (s.getD (s.length - 1 - j) (0, 0)).2] else needI N s o j
def finI (N : Nat) (s : List (Int × Int)) (o : List Int) (i : Nat) : Bool := hasI (needI N s o s.length) ((N : Int) + (i : Int))
def usT (N : Nat) (s : List (Int × Int)) (o : List Int) (j : Nat) : List Int := ((List.range' (s.length - j) j).filter (finI N s o)).map fun i : Nat => (i : Int)
def usd (N : Nat) (s : List (Int × Int)) (o : List Int) : List Int := usT N s o s.length

theorem hasI_two (l : List Int) (a b x : Int) : hasI (l ++ [a, b]) x = (hasI l x || (x == a || x == b)) := by
  unfold hasI
  rw [Bool.eq_iff_iff]
  simp
theorem need_hit {N : Nat} {s : List (Int × Int)} {o : List Int} {j i : Nat} (hi : i < s.length) (hij : s.length - 1 - j = i) (h : hasI (needI N s o j) ((N : Int) + (i : Int)) = true) : needI N s o (j + 1) = needI N s o j ++ [(s[i]).1, (s[i]).2] := by
  subst hij
  simp only [needI]
  rw [if_pos h]
  simp [hi]
theorem need_miss {N : Nat} {s : List (Int × Int)} {o : List Int} {j i : Nat} (hij : s.length - 1 - j = i) (h : hasI (needI N s o j) ((N : Int) + (i : Int)) = false) : needI N s o (j + 1) = needI N s o j := by
  subst hij
  simp only [needI]
  rw [if_neg (by rw [h]; decide)]
theorem need_len (N : Nat) (s : List (Int × Int)) (o : List Int) : ∀ j, (needI N s o j).length ≤ o.length + 2 * j := by
  intro j
  induction j with
  | zero => simp [needI]
  | succ j ih =>
    simp only [needI]
    split
    · simp; omega
    · omega
theorem need_stable {N : Nat} {s : List (Int × Int)} {o : List Int} (hs : OkS N s) {j i : Nat} (hj : j < s.length) (hij : s.length - 1 - j = i) : ∀ d, j + d ≤ s.length → hasI (needI N s o (j + d)) ((N : Int) + (i : Int)) = hasI (needI N s o j) ((N : Int) + (i : Int)) := by
  intro d
  induction d with
  | zero => intro _; rfl
  | succ d ih =>
    intro hd
    have ih := ih (by omega)
    have hlt : s.length - 1 - (j + d) < s.length := by omega
    obtain ⟨h1, h2, h3⟩ := hs _ hlt
    show hasI (needI N s o (j + d + 1)) _ = _
    cases hq : hasI (needI N s o (j + d)) ((N : Int) + ((s.length - 1 - (j + d) : Nat) : Int)) with
    | true =>
      rw [need_hit hlt rfl hq, hasI_two, ih]
      have e1 : (((N : Int) + (i : Int)) == (s[s.length - 1 - (j + d)]).1) = false := by rw [beq_eq_false_iff_ne]; omega
      have e2 : (((N : Int) + (i : Int)) == (s[s.length - 1 - (j + d)]).2) = false := by rw [beq_eq_false_iff_ne]; omega
      rw [e1, e2]
      simp
    | false => rw [need_miss rfl hq, ih]
theorem fin_at {N : Nat} {s : List (Int × Int)} {o : List Int} (hs : OkS N s) {j i : Nat} (hj : j < s.length) (hij : s.length - 1 - j = i) : finI N s o i = hasI (needI N s o j) ((N : Int) + (i : Int)) := by
  have h := need_stable (o := o) hs hj hij (s.length - j) (by omega)
  rw [show j + (s.length - j) = s.length by omega] at h
  exact h
theorem us_hit {N : Nat} {s : List (Int × Int)} {o : List Int} {j i : Nat} (hj : j < s.length) (hij : s.length - 1 - j = i) (h : finI N s o i = true) : usT N s o (j + 1) = (i : Int) :: usT N s o j := by
  unfold usT
  rw [show s.length - (j + 1) = i by omega, List.range'_succ, show i + 1 = s.length - j by omega, List.filter_cons_of_pos h]
  rfl
theorem us_miss {N : Nat} {s : List (Int × Int)} {o : List Int} {j i : Nat} (hj : j < s.length) (hij : s.length - 1 - j = i) (h : finI N s o i = false) : usT N s o (j + 1) = usT N s o j := by
  unfold usT
  rw [show s.length - (j + 1) = i by omega, List.range'_succ, show i + 1 = s.length - j by omega, List.filter_cons_of_neg (by rw [h]; decide)]
theorem us_gt {N : Nat} {s : List (Int × Int)} {o : List Int} {j i : Nat} (hj : j < s.length) (hij : s.length - 1 - j = i) : ∀ x ∈ usT N s o j, (i : Int) < x := by
  intro x hx
  unfold usT at hx
  simp only [List.mem_map, List.mem_filter, List.mem_range'_1] at hx
  obtain ⟨y, ⟨hy, _⟩, rfl⟩ := hx
  omega
theorem us_len (N : Nat) (s : List (Int × Int)) (o : List Int) (j : Nat) : (usT N s o j).length ≤ j := by
  unfold usT
  rw [List.length_map]
  exact Nat.le_trans (List.length_filter_le _ _) (by simp)
theorem own_cap {w : World} {B e sz n c : Nat} {A : Option Addr} {xs : List Value} (h : w.ownsRow B e sz (.slice A n c) n xs) : n ≤ c := by
  obtain ⟨A0, c0, e0, h0⟩ := own_form h
  injection e0 with _ _ e1
  omega
theorem rd_two {w : World} {g : Nat} {a b : Int} (h0 : w.cell? ⟨g, 0, none⟩ = some (I a)) (h1 : w.cell? ⟨g, 1, none⟩ = some (I b)) : Rd w (g + 1) 1 (some ⟨g, 0, none⟩) 2 ([a, b].map I) :=
  ⟨rfl, fun _ => ⟨g, 0, rfl, by omega, fun j hj => by
    have hj2 : j = 0 ∨ j = 1 := by omega
    rcases hj2 with rfl | rfl
    · exact h0
    · exact h1⟩⟩

end Go.Proofs.Ytlkieebmfmiafaa
/- Used steps: the program's. -/
namespace Go.Proofs.Ytlkieebmfmiafaa
open Go.RowKit

theorem info_bool : (Try.prog.info? 4).map (fun i => (i.zero, i.size, i.bytes)) = some (some (.bool false), 1, 1) := by kernel_rfl
def bools (l : List Int) (R : Nat) : List Value := (List.range R).map fun v : Nat => Value.bool (hasI l (v : Int))
theorem bools_length (l : List Int) (R : Nat) : (bools l R).length = R := by simp [bools]
theorem bools_nil (R : Nat) : bools [] R = List.replicate R (.bool false) := by
  apply List.ext_getElem?
  intro j
  by_cases hj : j < R <;> simp [bools, hj, hasI]
theorem bools_set (l : List Int) {R a : Nat} (ha : a < R) : (bools l R).set a (.bool true) = bools (l ++ [(a : Int)]) R := by
  apply List.ext_getElem?
  intro j
  by_cases hj : j < R
  · by_cases hja : a = j
    · subst hja
      rw [List.getElem?_set_self (by rw [bools_length]; exact ha)]
      simp [bools, ha, hasI]
    · rw [List.getElem?_set_ne hja]
      have : ¬ (j : Int) = (a : Int) := by omega
      simp [bools, hj, hasI, this]
  · rw [List.getElem?_eq_none (by simp [bools]; omega), List.getElem?_eq_none (by simp [bools]; omega)]
theorem bools_at (l : List Int) {R a : Nat} (ha : a < R) : (bools l R)[a]? = some (.bool (hasI l (a : Int))) := by simp [bools, ha]
theorem box4 {w w1 : World} {a b c d : Value} {t : TypeId} (h : w.alloc (.cells #[a, b, c, d] t) = w1) :
    w1.cell? ⟨w.heap.size, 0, none⟩ = some a ∧ w1.cell? ⟨w.heap.size, 1, none⟩ = some b ∧ w1.cell? ⟨w.heap.size, 2, none⟩ = some c ∧ w1.cell? ⟨w.heap.size, 3, none⟩ = some d ∧ w1.heap.size = w.heap.size + 1 ∧ Below w.heap.size w w1 := by
  subst h
  refine ⟨?_, ?_, ?_, ?_, by simp, (Below.refl _ _).alloc (Nat.le_refl _) _⟩ <;> (rw [World.cell?_alloc_at _ _ _ _ rfl]; rfl)
theorem bools_own {w : World} {B : Nat} (n : Nat) (hn : n ≤ 1000) (hB : B ≤ w.heap.size) :
    (w.alloc (.cells (madeCells #[Value.bool false] n) 4)).ownsRow B 4 1 (.slice (some ⟨w.heap.size, 0, none⟩) n n) n (bools [] n) := by
  have h := World.ownsRow_lit (base := B) (e := 4) (size := 1) w (madeCells #[Value.bool false] n) n hB (by unfold maxLen; omega) (by simp [size_madeCells])
  rw [toList_madeCells_one] at h
  rw [bools_nil]
  exact h

/-- A store of true. -/
theorem own_set1 {w : World} {B g R a : Nat} {l : List Int} (h : w.ownsRow B 4 1 (.slice (some ⟨g, 0, none⟩) R R) R (bools l R)) (ha : a < R) :
    w.frozen? ⟨g, a, none⟩ = false ∧ (∃ u, w.cell? ⟨g, a, none⟩ = some (.bool u)) ∧ (w.setCell ⟨g, a, none⟩ (.bool true)).ownsRow B 4 1 (.slice (some ⟨g, 0, none⟩) R R) R (bools (l ++ [(a : Int)]) R) := by
  refine ⟨h.frozenAt _, ⟨_, by rw [h.cellAt _ (by omega)]; exact bools_at _ ha⟩, ?_⟩
  have h1 := (h.stored a (.bool true)).1
  rw [bools_set _ ha] at h1
  exact h1

def usP (N : Nat) (s : List (Int × Int)) (o : List Int) (k : Nat) : List Int := ((List.range k).filter (finI N s o)).map fun i : Nat => (i : Int)
theorem usP_all (N : Nat) (s : List (Int × Int)) (o : List Int) : usP N s o s.length = usd N s o := by
  unfold usP usd usT
  rw [Nat.sub_self, List.range_eq_range']
theorem usP_len (N : Nat) (s : List (Int × Int)) (o : List Int) (k : Nat) : (usP N s o k).length ≤ k := by
  unfold usP
  rw [List.length_map]
  exact Nat.le_trans (List.length_filter_le _ _) (by simp)
theorem usP_hit {N : Nat} {s : List (Int × Int)} {o : List Int} {k : Nat} (h : finI N s o k = true) : usP N s o (k + 1) = usP N s o k ++ [(k : Int)] := by
  unfold usP
  rw [List.range_succ, List.filter_append, List.map_append]
  simp [h]
theorem usP_miss {N : Nat} {s : List (Int × Int)} {o : List Int} {k : Nat} (h : finI N s o k = false) : usP N s o (k + 1) = usP N s o k := by
  unfold usP
  rw [List.range_succ, List.filter_append, List.map_append]
  simp [h]

end Go.Proofs.Ytlkieebmfmiafaa
/- The uses of one value, and of all values, by the program. -/
namespace Go.Proofs.Ytlkieebmfmiafaa
open Go.RowKit

set_option maxRecDepth 100000 in
set_option maxHeartbeats 1000000 in
theorem sidesOf_any (a b v : Int) (w : World) :
    Calls Try.prog 129 #[.agg #[.int .i64 a, .int .i64 b], .int .i64 v] w fun e w' => e = .returned (.int .i64 (sid (a, b) v : Nat)) ∧ Below w.heap.size w w' := by
  have e0 : sid (a, b) v = (if a = v then 1 else 0) + (if b = v then 1 else 0) := rfl
  by_cases ha : a = v
  · by_cases hb : b = v
    · have q1 : (a == v) = true := by simpa using ha
      have q2 : (b == v) = true := by simpa using hb
      rw [if_pos ha, if_pos hb] at e0
      have E := Lib.hid e0
      clear e0 ha hb
      go_enter Try.func129, Try.ntmps129
      go_wp2
      go_ret
      exact ⟨by rw [E.out]; rfl, (Below.refl _ _).alloc (Nat.le_refl _) _⟩
    · have q1 : (a == v) = true := by simpa using ha
      have q2 : (b == v) = false := by simpa using hb
      rw [if_pos ha, if_neg hb] at e0
      have E := Lib.hid e0
      clear e0 ha hb
      go_enter Try.func129, Try.ntmps129
      go_wp2
      go_ret
      exact ⟨by rw [E.out]; rfl, (Below.refl _ _).alloc (Nat.le_refl _) _⟩
  · by_cases hb : b = v
    · have q1 : (a == v) = false := by simpa using ha
      have q2 : (b == v) = true := by simpa using hb
      rw [if_neg ha, if_pos hb] at e0
      have E := Lib.hid e0
      clear e0 ha hb
      go_enter Try.func129, Try.ntmps129
      go_wp2
      go_ret
      exact ⟨by rw [E.out]; rfl, (Below.refl _ _).alloc (Nat.le_refl _) _⟩
    · have q1 : (a == v) = false := by simpa using ha
      have q2 : (b == v) = false := by simpa using hb
      rw [if_neg ha, if_neg hb] at e0
      have E := Lib.hid e0
      clear e0 ha hb
      go_enter Try.func129, Try.ntmps129
      go_wp2
      go_ret
      exact ⟨by rw [E.out]; rfl, (Below.refl _ _).alloc (Nat.le_refl _) _⟩

theorem us_set0 {w : World} {g : Nat} {a b : Value} {t : TypeId} (h : w.heap[g]? = some (.cells #[a, b] t (0, 0))) (u : Value) : (w.setCell ⟨g, 0, none⟩ u).heap[g]? = some (.cells #[u, b] t (0, 0)) := by
  rw [heap_setCell_same w g 0 _ t u h]
  rfl
theorem us_set1 {w : World} {g : Nat} {a b : Value} {t : TypeId} (h : w.heap[g]? = some (.cells #[a, b] t (0, 0))) (u : Value) : (w.setCell ⟨g, 1, none⟩ u).heap[g]? = some (.cells #[a, u] t (0, 0)) := by
  rw [heap_setCell_same w g 1 _ t u h]
  rfl

theorem apart_lt {w : World} {v v' : Value} {m sz n : Nat} {e : TypeId} {xs : List Value} (h : ∀ k, v.ownBlock = some k → k < m) (h' : w.ownsRow m e sz v' n xs) : v.ownBlock = none ∨ v.ownBlock ≠ v'.ownBlock := by
  cases hv : v.ownBlock with
  | none => exact .inl rfl
  | some k =>
    right
    intro e
    have h1 := h k hv
    have h2 := (own_block h' k e.symm).1
    omega
theorem us_boxes {w w1 : World} {a b c d : Value} (h : ((w.alloc (.cells #[a, b, c, d] 72)).alloc (.cells #[.slice none 0 0, .slice none 0 0] 78)).alloc (.cells #[.slice none 0 0, .slice none 0 0] 78) = w1) :
    w1.cell? ⟨w.heap.size, 1, none⟩ = some b ∧ w1.cell? ⟨w.heap.size, 2, none⟩ = some c ∧ w1.heap[w.heap.size + 1]? = some (.cells #[.slice none 0 0, .slice none 0 0] 78 (0, 0)) ∧
      w1.heap[w.heap.size + 1 + 1]? = some (.cells #[.slice none 0 0, .slice none 0 0] 78 (0, 0)) ∧ w1.heap.size = w.heap.size + 3 ∧ Below w.heap.size w w1 := by
  generalize ha : w.alloc (.cells #[a, b, c, d] 72) = wa at h
  generalize hb : wa.alloc (.cells #[.slice none 0 0, .slice none 0 0] 78) = wb at h
  obtain ⟨x0, x1, x2, x3, xs, xb⟩ := box4 ha
  obtain ⟨_, _, ys, yb⟩ := box2 hb
  obtain ⟨_, _, zs, zb⟩ := box2 h
  have h2 := heap_alloc_new wa (.cells #[.slice none 0 0, .slice none 0 0] 78)
  have h3 := heap_alloc_new wb (.cells #[.slice none 0 0, .slice none 0 0] 78)
  rw [hb, xs] at h2
  rw [h, ys, xs] at h3
  have yz : Below (w.heap.size + 1) wa w1 := (yb.mono (by omega)).trans (zb.mono (by omega))
  refine ⟨(yz.cell (p := ⟨w.heap.size, 1, none⟩) (by simp)).trans x1, (yz.cell (p := ⟨w.heap.size, 2, none⟩) (by simp)).trans x2, (zb.block (w.heap.size + 1) (by omega)).trans h2, h3, by omega, xb.trans (yz.mono (by omega))⟩

set_option maxRecDepth 100000 in
set_option maxHeartbeats 4000000 in
theorem usesOf_any (B N R : Nat) (A1 A2 A : Option Addr) (c1 c2 c : Nat) (p : Pl) (v : Int) (w : World) (hs40 : p.s.length ≤ 40) (ho6 : p.o.length ≤ 6) (hB : B ≤ w.heap.size) (hr : RdP w B A1 A2 p) :
    Calls Try.prog 108 #[.agg #[.int .i64 N, .slice A1 p.s.length c1, .slice A2 p.o.length c2, .slice A R c], .int .i64 v] w fun e w' =>
      ∃ O co S cs, e = .returned (.agg #[.slice O (usO p.o v p.o.length).length co, .slice S (usS p.s v p.s.length).length cs]) ∧
        OwI w' w.heap.size (.slice O (usO p.o v p.o.length).length co) (usO p.o v p.o.length) ∧ OwI w' w.heap.size (.slice S (usS p.s v p.s.length).length cs) (usS p.s v p.s.length) ∧ Below w.heap.size w w' := by
  have H := Lib.hid hr
  clear hr
  go_enter Try.func108, Try.ntmps108
  go_wp2
  generalize hw1 : World.alloc (World.alloc (World.alloc w _) _) _ = w1
  obtain ⟨x1, x2, RES1, BLK1, xs, xb⟩ := us_boxes hw1
  clear hw1
  obtain ⟨g, hg⟩ : ∃ g, w.heap.size + 1 + 1 = g := ⟨_, rfl⟩
  rw [hg] at BLK1 ⊢
  obtain ⟨q, hq⟩ : ∃ q, w.heap.size + 1 = q := ⟨_, rfl⟩
  rw [hq] at RES1 ⊢
  have hgw : w.heap.size ≤ g := by omega
  have hqw : w.heap.size ≤ q := by omega
  have hqg : q < g := by omega
  have hw1s : w1.heap.size = g + 1 := by omega
  clear hg hq xs
  go_loopw [14] (fun iv wr => ∃ (k : Nat) (A4 : Option Addr) (c4 : Nat), k ≤ p.o.length ∧ iv = .int .i64 k ∧ wr.heap[g]? = some (.cells #[.slice A4 (usO p.o v k).length c4, .slice none 0 0] 78 (0, 0)) ∧
    OwI wr (g + 1) (.slice A4 (usO p.o v k).length c4) (usO p.o v k) ∧ Below g w1 wr) (fun i _ => p.o.length - (intOf i).toNat)
  case atStart => exact ⟨0, none, 0, by omega, rfl, by simpa [usO] using BLK1, by simpa [usO] using OwI.nil w1 (g + 1), Below.refl _ _⟩
  case round =>
    obtain ⟨k, A4, c4, hk, rfl, hblk, hown, hbel⟩ := hrel
    have hsz : g + 1 ≤ wr.heap.size := by have := hbel.size; omega
    have hul := usO_le p.o v k
    by_cases hlt : k < p.o.length
    · obtain ⟨ob, oo, rfl, hob, hoc⟩ := ((H.out.2.below' xb hB).below' hbel (by omega)).int hlt
      have iqk : (k : Int) < (p.o.length : Int) := by omega
      have hst : p.o.getD k 0 = p.o[k] := by simp [hlt]
      obtain ⟨d0, d1, g0, g1⟩ := us_cells hblk
      have BLK := Lib.hid hblk
      have OWN := Lib.hid hown
      have BEL := Lib.hid hbel
      have XB := Lib.hid xb
      clear hblk hown hbel xb BLK1 RES1
      by_cases he : p.o[k] = v
      · have q : (p.o[k] == v) = true := by simpa using he
        have HIT := Lib.hid (usO_hit (hst.trans he))
        clear hst he
        go_wp2_with (at_builtin; refine list_step (fun K hK => ?_); refine step_app_int rfl (.tmp 23) (.tmp 25) rfl (g + 1) (usO p.o v k).length _ (usO p.o v k) rfl (OWN.out.alloc _) rfl wr.heap.size 1 (k : Int) rfl (by simp) (by omega) (by simp; omega) ?_; intro A5 c5 w5 hown5 hg5 hbel5; have hb5 := us_kept BLK.out OWN.out hg5; obtain ⟨e0, e1, h0, h1⟩ := us_cells hb5; go_simp; refine hK _ _ ?_; clear hK K)
        go_roundw
        case rel =>
          have hl : (usO p.o v (k + 1)).length = (usO p.o v k).length + 1 := by rw [HIT.out]; simp
          refine ⟨k + 1, A5, c5, by omega, by go_num, by rw [hl]; exact us_set0 hb5 _, by rw [hl, HIT.out]; exact own_set (h := hown5) hb5 (by decide) _, ?_⟩
          exact (((BEL.out.alloc (by omega) _)).trans (hbel5.mono (by omega))).setCell (Nat.le_refl _) _
        case measure => simp [intOf]; omega
      · have q : (p.o[k] == v) = false := by simpa using he
        have MISS := Lib.hid (usO_miss (v := v) (o := p.o) (k := k) (by rw [hst]; exact he))
        clear hst he
        go_wp2
        go_roundw
        case rel => exact ⟨k + 1, A4, c4, by omega, by go_num, by rw [MISS.out]; exact BLK.out, by rw [MISS.out]; exact OWN.out, BEL.out⟩
        case measure => simp [intOf]; omega
    · have hk' : k = p.o.length := by omega
      subst hk'
      have z1 := (hbel.cell (p := ⟨w.heap.size, 1, none⟩) (by simp; omega)).trans x1
      have RESr := Lib.hid ((hbel.block q (by omega)).trans RES1)
      have HB2 := Lib.hid (xb.trans (hbel.mono hgw))
      have hOB := fun k hk => (own_block hown k hk).2
      have OWN := Lib.hid hown
      have BLK := Lib.hid hblk
      have OBL := Lib.hid hOB
      obtain ⟨lo, hlo⟩ : ∃ l, usO p.o v p.o.length = l := ⟨_, rfl⟩
      rw [hlo] at OWN BLK OBL
      have HLO := Lib.hid hlo
      clear hown hblk hbel hOB hlo xb x1 x2 RES1 BLK1
      obtain ⟨m, hm⟩ : ∃ m, wr.heap.size = m := ⟨_, rfl⟩
      rw [hm] at OBL hsz
      have HMm := Lib.hid hm
      clear hm
      go_wp2
      go_loopw [33] (fun iv wq => ∃ (k : Nat) (A5 : Option Addr) (c5 : Nat), k ≤ p.s.length ∧ iv = .int .i64 k ∧ wq.heap[g]? = some (.cells #[.slice A4 lo.length c4, .slice A5 (usS p.s v k).length c5] 78 (0, 0)) ∧
        OwI wq (g + 1) (.slice A4 lo.length c4) lo ∧ OwI wq m (.slice A5 (usS p.s v k).length c5) (usS p.s v k) ∧ Below g wr wq) (fun i _ => p.s.length - (intOf i).toNat)
      case atStart => exact ⟨0, none, 0, by omega, rfl, by simpa [usS] using BLK.out, OWN.out, by simpa [usS] using OwI.nil wr m, Below.refl _ _⟩
      case round =>
        obtain ⟨k, A5, c5, hk, rfl, hblk, hownO, hownS, hbel⟩ := hrel
        have hsr := hbel.size
        have hsq : g + 1 ≤ wr.heap.size := by have := HMm.out; omega
        have hmq : m ≤ wr.heap.size := by have := HMm.out; omega
        by_cases hlt : k < p.s.length
        · obtain ⟨sb, off, rfl, hsb, hc1, hc2⟩ := ((H.out.1.below' HB2.out hB).below' hbel (by omega)).stp hlt
          have iqk : (k : Int) < (p.s.length : Int) := by omega
          have hst : p.s.getD k (0, 0) = p.s[k] := by simp [hlt]
          have SUC := Lib.hid (show usS p.s v (k + 1) = usS p.s v k ++ List.replicate (sid p.s[k] v) (k : Int) by rw [← hst]; rfl)
          obtain ⟨a, ha⟩ : ∃ a, (p.s[k]).1 = a := ⟨_, rfl⟩
          obtain ⟨b, hb⟩ : ∃ b, (p.s[k]).2 = b := ⟨_, rfl⟩
          have hab : p.s[k] = (a, b) := by rw [← ha, ← hb]
          rw [hab] at SUC
          rw [ha] at hc1
          rw [hb] at hc2
          have hsd := sid_le (a, b) v
          have hsl := usS_le p.s v k
          have SD := fun W => sidesOf_any a b v W
          obtain ⟨n, hn⟩ : ∃ n, sid (a, b) v = n := ⟨_, rfl⟩
          rw [hn] at SUC hsd SD
          have SD := Lib.hid SD
          obtain ⟨l, hl⟩ : ∃ l, usS p.s v k = l := ⟨_, rfl⟩
          rw [hl] at SUC hsl hblk hownS
          have BLK2 := Lib.hid hblk
          have OWO := Lib.hid hownO
          have OWS := Lib.hid hownS
          have BEL := Lib.hid hbel
          clear hblk hownO hownS hbel hst ha hb hab hn hl
          go_wp2_with fail
          go_at_call 129
          generalize hw3 : World.alloc wr _ = w3
          obtain ⟨_, _, es, eb⟩ := box2 hw3
          clear hw3
          refine (SD.out w3).mono ?_
          rintro e w4 ⟨rfl, hb4⟩
          have hb14 : Below wr.heap.size wr w4 := eb.trans (hb4.mono (by omega))
          have BLK4 := Lib.hid ((hb14.block g (by omega)).trans BLK2.out)
          have OWO4 := Lib.hid (OWO.out.below hb14)
          have OWS4 := Lib.hid (OWS.out.below hb14)
          have BEL4 := Lib.hid (BEL.out.trans (hb14.mono (by omega)))
          have hs4 : wr.heap.size ≤ w4.heap.size := hb14.size
          clear eb es hb4 hb14
          go_wp2
          go_loopw [41] (fun iv wt => ∃ (t : Nat) (A6 : Option Addr) (c6 : Nat), t ≤ n ∧ iv = .int .i64 t ∧ wt.heap[g]? = some (.cells #[.slice A4 lo.length c4, .slice A6 (l.length + t) c6] 78 (0, 0)) ∧
            OwI wt (g + 1) (.slice A4 lo.length c4) lo ∧ wt.ownsRow m 3 1 (.slice A6 (l.length + t) c6) (l.length + t) ((l ++ List.replicate t (k : Int)).map I) ∧ Below g w4 wt) (fun i _ => n - (intOf i).toNat)
          case atStart => exact ⟨0, A5, c5, by omega, rfl, BLK4.out, OWO4.out, by simpa [OwI] using OWS4.out, Below.refl _ _⟩
          case round =>
            obtain ⟨t, A6, c6, ht, rfl, hblk, hownO, hownS, hbel⟩ := hrel
            have hst4 : w4.heap.size ≤ wr.heap.size := hbel.size
            obtain ⟨d0, d1, g0, g1⟩ := us_cells hblk
            have BLK5 := Lib.hid hblk
            have OWO5 := Lib.hid hownO
            have OWS5 := Lib.hid hownS
            have BEL5 := Lib.hid hbel
            clear hblk hownO hownS hbel
            by_cases htl : t < n
            · have iqt : (t : Int) < (n : Int) := by omega
              have hll : (l ++ List.replicate t (k : Int)).length = l.length + t := by simp
              have HLL := Lib.hid hll
              clear hll
              go_wp2_with (at_builtin; refine list_step (fun K hK => ?_); refine step_app1 Try.underlying23 info_int rfl (by omega) rfl (.tmp 44) (.tmp 46) rfl m (l.length + t) _ _ rfl (World.ownsRow.alloc OWS5.out _) wr.heap.size 1 (I (k : Int)) rfl (by simp) rfl (by omega) (by simp; omega) ?_; intro A7 c7 w5 hown5 hg5 hbel5; have hb5 := us_kept BLK5.out OWS5.out hg5; have hO5 := World.ownsRow.kept (World.ownsRow.alloc OWO5.out _) hg5 (apart_lt OBL.out OWS5.out); obtain ⟨e0, e1, h0, h1⟩ := us_cells hb5; go_simp; refine hK _ _ ?_; clear hK K)
              go_roundw
              case rel =>
                refine ⟨t + 1, A7, c7, by omega, by go_num, us_set1 hb5 _, own_set (h := hO5) hb5 (by decide) _, ?_, ?_⟩
                · have h := own_set (g := g) (o := 1) hown5 hb5 (by decide) (.slice A7 (l.length + t + 1) c7)
                  have e : (l ++ List.replicate t (k : Int)).map I ++ [I (k : Int)] = (l ++ List.replicate (t + 1) (k : Int)).map I := by
                    simp [List.replicate_succ']
                  rw [e] at h
                  exact h
                · exact (((BEL5.out.alloc (by omega) _)).trans (hbel5.mono (by omega))).setCell (Nat.le_refl _) _
              case measure => simp [intOf]; omega
            · have ht' : t = n := by omega
              subst ht'
              go_wp2
              go_roundw
              case rel =>
                have hll : (usS p.s v (k + 1)).length = l.length + t := by rw [SUC.out]; simp
                refine ⟨k + 1, A6, c6, by omega, by go_num, by rw [hll]; exact BLK5.out, OWO5.out, ?_, BEL4.out.trans BEL5.out⟩
                show World.ownsRow _ _ _ _ _ _ _
                rw [hll, SUC.out]
                exact OWS5.out
              case measure => simp [intOf]; omega
        · have hk' : k = p.s.length := by omega
          subst hk'
          obtain ⟨d0, d1, _, _⟩ := us_cells hblk
          have RESq := (hbel.block q hqg).trans RESr.out
          obtain ⟨_, _, f0, f1⟩ := us_cells RESq
          have BLK2 := Lib.hid hblk
          have OWO := Lib.hid hownO
          have OWS := Lib.hid hownS
          have HB3 := Lib.hid (HB2.out.trans (hbel.mono hgw))
          have RESQ := Lib.hid RESq
          obtain ⟨r0, r1, _, _⟩ := us_cells RESq
          clear hblk hownO hownS hbel RESq
          go_wp2
          have hq1 := us_set0 RESQ.out (.slice A4 lo.length c4)
          refine bodyPost_ret (v := .agg #[.slice A4 lo.length c4, .slice A5 (usS p.s v p.s.length).length c5]) (by simp [results, Try.results108, go_sem, r0, r1]) rfl ⟨A4, c4, A5, c5, by rw [HLO.out], ?_, ?_, ?_⟩
          · rw [HLO.out]
            exact own_base (own_set (own_set (h := OWO.out) RESQ.out (by decide) _) hq1 (by decide) _) (by omega)
          · exact own_base (own_set (own_set (h := OWS.out) RESQ.out (by decide) _) hq1 (by decide) _) (by omega)
          · exact (HB3.out.setCell hqw _).setCell hqw _
end Go.Proofs.Ytlkieebmfmiafaa
/- A new row with room: the library's slices.Grow at the nil slice. -/
namespace Go.Proofs.Ytlkieebmfmiafaa
open Go.RowKit

set_option maxRecDepth 100000 in
set_option maxHeartbeats 1000000 in
theorem growS_any (n : Nat) (w : World) (hn : n ≤ 1000000) :
    Calls Try.prog 137 #[.slice none 0 0, .int .i64 n] w fun e w' => ∃ A c, e = .returned (.slice A 0 c) ∧ w'.ownsRow w.heap.size 94 2 (.slice A 0 c) 0 [] ∧ Below w.heap.size w w' := by
  by_cases h0 : n = 0
  · subst h0
    go_enter Try.func137, Try.ntmps137
    go_wp2
    go_ret
    exact ⟨none, 0, rfl, World.ownsRow_nil _ _ _ _, Below.refl _ _⟩
  · obtain ⟨i0, hi, hz0, hz1, hz2⟩ := info_parts info_step
    have hap := fun W ty => Lib.run_append_nil_zeros (P := Try.prog) W 29 3 ty 94 i0 _ .i64 .i64 Try.underlying29 Try.underlying3 hi hz0 n (by omega) (by rw [hz1]; omega) (by omega) (by rw [hz2]; omega)
    have HAP := Lib.hid hap
    clear hap
    have hpos : (n : Int) > 0 := by omega
    have hneg : ¬ ((n : Int) < 0) := by omega
    go_enter Try.func137, Try.ntmps137
    go_wp2_with (at_builtin; refine Lib.wpList_append_run _ rfl _ _ _ _ rfl _ _ rfl rfl _ _ (HAP.out _ _) ?_)
    all_goals go_ret
    have hG := grownCap_ge w n 0 94
    have hM := grownCap_le_maxLen w n 0 94 (by unfold maxLen; omega)
    refine ⟨some ⟨w.heap.size, 0, none⟩, grownCap w n 0 94, rfl, ?_, ((Below.refl _ _).alloc (Nat.le_refl _) _).drew⟩
    exact World.ownsRow_made (base := w.heap.size) (size := 2) w _ _ (Nat.le_refl _) hM (by rw [Array.size_append, size_zeroCells, size_zeroCells]; simp; omega)
end Go.Proofs.Ytlkieebmfmiafaa
/- Two rows of steps behind each other: the library's slices.Concat. -/
namespace Go.Proofs.Ytlkieebmfmiafaa
open Go.RowKit

def catN (a b k : Nat) : Nat := match k with | 0 => 0 | 1 => a | _ => a + b
def catL (a b : List (Int × Int)) (k : Nat) : List (Int × Int) := match k with | 0 => [] | 1 => a | _ => a ++ b
theorem fl_append (a b : List (Int × Int)) : fl (a ++ b) = fl a ++ fl b := by simp [fl]

set_option maxRecDepth 100000 in
set_option maxHeartbeats 2000000 in
theorem concatS_any (B g : Nat) (A1 A2 : Option Addr) (k1 k2 c : Nat) (s1 s2 : List (Int × Int)) (w : World) (hm1 : s1.length ≤ 10000) (hm2 : s2.length ≤ 10000) (hB : B ≤ w.heap.size)
    (hc1 : w.cell? ⟨g, 0, none⟩ = some (.slice A1 s1.length k1)) (hc2 : w.cell? ⟨g, 1, none⟩ = some (.slice A2 s2.length k2)) (hg : g < w.heap.size) (hr1 : Rd w B 2 A1 s1.length (fl s1)) (hr2 : Rd w B 2 A2 s2.length (fl s2)) :
    Calls Try.prog 126 #[.slice (some ⟨g, 0, none⟩) 2 c] w fun e w' => ∃ A' c', e = .returned (.slice A' (s1.length + s2.length) c') ∧ OwS w' w.heap.size (.slice A' (s1.length + s2.length) c') (s1 ++ s2) ∧ Below w.heap.size w w' := by
  have H1 := Lib.hid hr1
  have H2 := Lib.hid hr2
  clear hr1 hr2
  obtain ⟨a, ha⟩ : ∃ a, s1.length = a := ⟨_, rfl⟩
  obtain ⟨b, hb⟩ : ∃ b, s2.length = b := ⟨_, rfl⟩
  rw [ha] at hc1 hm1
  rw [hb] at hc2 hm2
  have HA := Lib.hid ha
  have HBL := Lib.hid hb
  rw [ha, hb]
  clear ha hb
  go_enter Try.func126, Try.ntmps126
  go_wp2
  go_loopw [3, 11] (fun s i wr => ∃ k : Nat, k ≤ 2 ∧ i = .int .i64 k ∧ s = .int .i64 ((catN a b k : Nat) : Int) ∧ w = wr) (fun _ i _ => 2 - (intOf i).toNat)
  case atStart => exact ⟨0, by omega, rfl, rfl, rfl⟩
  case round =>
    obtain ⟨k, hk, rfl, rfl, rfl⟩ := hrel
    obtain rfl | rfl | rfl : k = 0 ∨ k = 1 ∨ k = 2 := by omega
    · simp only [catN]
      go_wp2
      go_roundw
      case rel => exact ⟨1, by omega, by go_num, by first | rfl | (simp only [catN]; go_num), trivial⟩
      case measure => simp [intOf]
    · simp only [catN]
      go_wp2
      go_roundw
      case rel => exact ⟨2, by omega, by go_num, by first | rfl | (simp only [catN]; go_num), trivial⟩
      case measure => simp [intOf]
    · simp only [catN]
      go_wp2_with fail
      go_at_call 137
      refine (growS_any (a + b) w (by omega)).mono ?_
      rintro e w2 ⟨A0, c0, rfl, hown0, hb0⟩
      have OWN0 := Lib.hid hown0
      have HB0 := Lib.hid hb0
      clear hown0 hb0
      go_wp2
      go_loopw [6, 27] (fun v i wr => ∃ (k : Nat) (A : Option Addr) (q : Nat), k ≤ 2 ∧ i = .int .i64 k ∧ v = .slice A (catN a b k) q ∧ wr.ownsRow w.heap.size 94 2 (.slice A (catN a b k) q) (catN a b k) (fl (catL s1 s2 k)) ∧ Below w.heap.size w wr) (fun _ i _ => 2 - (intOf i).toNat)
      case atStart => exact ⟨0, A0, c0, by omega, rfl, rfl, OWN0.out, HB0.out⟩
      case round =>
        obtain ⟨k, A, q, hk, rfl, rfl, hown, hbel⟩ := hrel
        have e1 := (hbel.cell (p := ⟨g, 0, none⟩) hg).trans hc1
        have e2 := (hbel.cell (p := ⟨g, 1, none⟩) hg).trans hc2
        have OWN := Lib.hid hown
        have BEL := Lib.hid hbel
        clear hown hbel
        obtain rfl | rfl | rfl : k = 0 ∨ k = 1 ∨ k = 2 := by omega
        · simp only [catN]
          go_wp2_with (first
            | (at_builtin; refine list_step (fun K hK => ?_); refine step_appM Try.underlying29 info_step rfl (by omega) (by omega) rfl (.tmp 31) (.tmp 32) rfl w.heap.size 0 _ _ rfl OWN.out _ a k1 (fl s1) rfl (by have := H1.out.below (BEL.out.mono hB); rw [HA.out] at this; exact this) (fl_one s1) (by omega) BEL.out.size ?_; intro A2' c2' w2' hown2 hg2 hbel2; go_simp; refine hK _ _ ?_; clear hK K))
          go_roundw
          case rel =>
            have hown3 : w2'.ownsRow w.heap.size 94 2 (.slice A2' a c2') a (fl s1) := by
              have h := hown2
              rw [Nat.zero_add] at h
              exact h
            exact ⟨1, A2', c2', by omega, by go_num, by first | rfl | simp [catN], hown3, BEL.out.trans hbel2⟩
          case measure => simp [intOf]
        · simp only [catN]
          go_wp2_with (first
            | (at_builtin; refine list_step (fun K hK => ?_); refine step_appM Try.underlying29 info_step rfl (by omega) (by omega) rfl (.tmp 31) (.tmp 32) rfl w.heap.size a _ _ rfl OWN.out _ b k2 (fl s2) rfl (by have := H2.out.below (BEL.out.mono hB); rw [HBL.out] at this; exact this) (fl_one s2) (by omega) BEL.out.size ?_; intro A2' c2' w2' hown2 hg2 hbel2; go_simp; refine hK _ _ ?_; clear hK K))
          go_roundw
          case rel =>
            have hown3 : w2'.ownsRow w.heap.size 94 2 (.slice A2' (a + b) c2') (a + b) (fl (s1 ++ s2)) := by
              rw [fl_append]
              exact hown2
            exact ⟨2, A2', c2', by omega, by go_num, by first | rfl | simp [catN], hown3, BEL.out.trans hbel2⟩
          case measure => simp [intOf]
        · simp only [catN]
          go_wp2
          go_ret
          refine ⟨A, q, rfl, ?_, BEL.out⟩
          have h := OWN.out
          show World.ownsRow _ _ _ _ _ _ _
          rw [List.length_append, HA.out, HBL.out]
          exact h
end Go.Proofs.Ytlkieebmfmiafaa
/- The uses of all values, by the program. -/
namespace Go.Proofs.Ytlkieebmfmiafaa
open Go.RowKit

theorem fill2 (l : List Value) (z a b : Value) {n k : Nat} (hl : l.length = k * 2) (hk : k < n) :
    ((l ++ List.replicate ((n - k) * 2) z).set (k * 2) a).set (k * 2 + 1) b = l ++ [a, b] ++ List.replicate ((n - (k + 1)) * 2) z := by
  rw [show (n - k) * 2 = (n - (k + 1)) * 2 + 1 + 1 by omega, List.replicate_succ, List.replicate_succ, List.set_append_right _ _ (by omega), List.set_append_right _ _ (by omega), hl, Nat.sub_self, show k * 2 + 1 - k * 2 = 1 by omega]
  simp
theorem info_uses : (Try.prog.info? 78).map (fun i => (i.zero, i.size, i.bytes)) = some (some (.agg #[.slice none 0 0, .slice none 0 0]), 2, 48) := by kernel_rfl

def uuV (fo fs : Nat → Option Addr × Nat) (s : List (Int × Int)) (o : List Int) (i : Nat) : List Value :=
  [.slice (fo i).1 (usO o (i : Int) o.length).length (fo i).2, .slice (fs i).1 (usS s (i : Int) s.length).length (fs i).2]
def UU (fo fs : Nat → Option Addr × Nat) (s : List (Int × Int)) (o : List Int) (k : Nat) : List Value := (List.range k).flatMap (uuV fo fs s o)
def updU (f : Nat → Option Addr × Nat) (k : Nat) (a : Option Addr × Nat) : Nat → Option Addr × Nat := fun i => if i = k then a else f i
theorem UU_succ (fo fs : Nat → Option Addr × Nat) (s : List (Int × Int)) (o : List Int) (k : Nat) : UU fo fs s o (k + 1) = UU fo fs s o k ++ uuV fo fs s o k := by
  unfold UU
  rw [List.range_succ, List.flatMap_append]
  simp
theorem UU_len (fo fs : Nat → Option Addr × Nat) (s : List (Int × Int)) (o : List Int) (k : Nat) : (UU fo fs s o k).length = k * 2 := by
  induction k with
  | zero => rfl
  | succ k ih => rw [UU_succ, List.length_append, ih]; simp [uuV]; omega
theorem UU_at (fo fs : Nat → Option Addr × Nat) (s : List (Int × Int)) (o : List Int) {i k : Nat} (h : i < k) :
    (UU fo fs s o k)[i * 2]? = some (.slice (fo i).1 (usO o (i : Int) o.length).length (fo i).2) ∧ (UU fo fs s o k)[i * 2 + 1]? = some (.slice (fs i).1 (usS s (i : Int) s.length).length (fs i).2) := by
  induction k with
  | zero => omega
  | succ k ih =>
    rw [UU_succ]
    rcases Nat.lt_or_ge i k with h1 | h1
    · obtain ⟨e1, e2⟩ := ih h1
      have hl := UU_len fo fs s o k
      exact ⟨by rw [List.getElem?_append_left (by omega), e1], by rw [List.getElem?_append_left (by omega), e2]⟩
    · have e : i = k := by omega
      subst e
      have hl := UU_len fo fs s o i
      exact ⟨by rw [List.getElem?_append_right (by omega), hl, Nat.sub_self]; rfl, by rw [List.getElem?_append_right (by omega), hl, show i * 2 + 1 - i * 2 = 1 by omega]; rfl⟩
theorem UU_upd (fo fs : Nat → Option Addr × Nat) (s : List (Int × Int)) (o : List Int) (k : Nat) (a b : Option Addr × Nat) :
    UU (updU fo k a) (updU fs k b) s o (k + 1) = UU fo fs s o k ++ [.slice a.1 (usO o (k : Int) o.length).length a.2, .slice b.1 (usS s (k : Int) s.length).length b.2] := by
  have key : ∀ j, j ≤ k → UU (updU fo k a) (updU fs k b) s o j = UU fo fs s o j := by
    intro j
    induction j with
    | zero => intro _; rfl
    | succ j ih =>
      intro hj
      rw [UU_succ, UU_succ, ih (by omega)]
      have : ¬ j = k := by omega
      simp [uuV, updU, this]
  rw [UU_succ, key k (Nat.le_refl _)]
  simp [uuV, updU]
/-- Rows of outputs and of steps, of the first k values. -/
def OwX (w : World) (B : Nat) (fo fs : Nat → Option Addr × Nat) (s : List (Int × Int)) (o : List Int) (k : Nat) : Prop :=
  ∀ i : Nat, i < k → OwI w B (.slice (fo i).1 (usO o (i : Int) o.length).length (fo i).2) (usO o (i : Int) o.length) ∧ OwI w B (.slice (fs i).1 (usS s (i : Int) s.length).length (fs i).2) (usS s (i : Int) s.length)
/-- A list of the uses of R values, all of it own. -/
def OwU (w : World) (B : Nat) (A : Option Addr) (c : Nat) (fo fs : Nat → Option Addr × Nat) (s : List (Int × Int)) (o : List Int) (R : Nat) : Prop :=
  w.ownsRow B 78 2 (.slice A R c) R (UU fo fs s o R) ∧ OwX w B fo fs s o R
section
variable {w w' : World} {B B' c k R : Nat} {A : Option Addr} {fo fs : Nat → Option Addr × Nat} {s : List (Int × Int)} {o : List Int}
theorem OwX.below (h : OwX w B fo fs s o k) (hb : Below w.heap.size w w') : OwX w' B fo fs s o k := fun i hi => ⟨(h i hi).1.below hb, (h i hi).2.below hb⟩
theorem OwX.base (h : OwX w B fo fs s o k) (hB : B' ≤ B) : OwX w B' fo fs s o k := fun i hi => ⟨(h i hi).1.base hB, (h i hi).2.base hB⟩
theorem OwX.set {g j : Nat} {cs : Array Value} {t : TypeId} (h : OwX w B fo fs s o k) (hg : w.heap[g]? = some (.cells cs t (0, 0))) (ht : t ≠ 3) (u : Value) : OwX (w.setCell ⟨g, j, none⟩ u) B fo fs s o k :=
  fun i hi => ⟨own_set (h := (h i hi).1) hg ht u, own_set (h := (h i hi).2) hg ht u⟩
theorem OwX.upd {a b : Option Addr × Nat} (h : OwX w B fo fs s o k) (ha : OwI w B (.slice a.1 (usO o (k : Int) o.length).length a.2) (usO o (k : Int) o.length)) (hb : OwI w B (.slice b.1 (usS s (k : Int) s.length).length b.2) (usS s (k : Int) s.length)) :
    OwX w B (updU fo k a) (updU fs k b) s o (k + 1) := by
  intro i hi
  by_cases e : i = k
  · subst e
    simp only [updU, if_true]
    exact ⟨ha, hb⟩
  · have := h i (by omega)
    simp only [updU, if_neg e]
    exact this
theorem OwU.below (h : OwU w B A c fo fs s o R) (hb : Below w.heap.size w w') : OwU w' B A c fo fs s o R := ⟨own_below h.1 hb, h.2.below hb⟩
theorem OwU.base (h : OwU w B A c fo fs s o R) (hB : B' ≤ B) : OwU w B' A c fo fs s o R := ⟨own_base h.1 hB, h.2.base hB⟩
/-- The two cells of value i, and its rows. -/
theorem OwU.at_ (h : OwU w B A c fo fs s o R) {i : Nat} (hi : i < R) : ∃ g, A = some ⟨g, 0, none⟩ ∧ B ≤ g ∧ g < w.heap.size ∧
    w.cell? ⟨g, i * 2, none⟩ = some (.slice (fo i).1 (usO o (i : Int) o.length).length (fo i).2) ∧ w.cell? ⟨g, i * 2 + 1, none⟩ = some (.slice (fs i).1 (usS s (i : Int) s.length).length (fs i).2) := by
  obtain ⟨g, rfl, hB, hg, hc, _⟩ := own_at h.1 (by omega)
  obtain ⟨e1, e2⟩ := UU_at fo fs s o hi
  exact ⟨g, rfl, hB, hg, (hc _ (by omega)).trans e1, (hc _ (by omega)).trans e2⟩
end

set_option maxRecDepth 100000 in
set_option maxHeartbeats 4000000 in
theorem allUses_any (B N R : Nat) (A1 A2 A : Option Addr) (c1 c2 c : Nat) (p : Pl) (w : World) (hs40 : p.s.length ≤ 40) (ho6 : p.o.length ≤ 6) (hR : R ≤ 46) (hB : B ≤ w.heap.size) (hr : RdP w B A1 A2 p) :
    Calls Try.prog 63 #[.agg #[.int .i64 N, .slice A1 p.s.length c1, .slice A2 p.o.length c2, .slice A R c]] w fun e w' =>
      ∃ A' c' fo fs, e = .returned (.slice A' R c') ∧ OwU w' w.heap.size A' c' fo fs p.s p.o R ∧ Below w.heap.size w w' := by
  have H := Lib.hid hr
  clear hr
  obtain ⟨i0, hi, hz0, hz1, hz2⟩ := info_parts info_uses
  have hmk : ∀ W : World, (Instr.makeSlice 75 (.int .i64 (R : Int)) (.int .i64 (R : Int))).run Try.prog W = .ok (.slice (some ⟨W.heap.size, 0, none⟩) R R) (W.alloc (.cells (madeCells #[.slice none 0 0, .slice none 0 0] (R * 2)) 78)) := fun W => by
    have hr := run_make (P := Try.prog) W 75 78 i0 _ Try.underlying75 hi hz0 .i64 .i64 R R (by omega) (Int.le_refl _) (by rw [hz2]; omega) (by omega)
    simp only [Int.toNat_natCast] at hr
    rw [hz1] at hr
    exact hr
  go_enter Try.func63, Try.ntmps63
  go_wp2
  clear hmk hi hz0 hz1 hz2
  generalize hw1 : World.alloc w _ = w1
  obtain ⟨x0, x1, x2, x3, xs, xb⟩ := box4 hw1
  clear hw1
  rw [← xs]
  generalize hw2 : World.alloc w1 _ = w2
  have hmade : w2.ownsRow (w.heap.size + 1) 78 2 (.slice (some ⟨w1.heap.size, 0, none⟩) R R) R (UU (fun _ => (none, 0)) (fun _ => (none, 0)) p.s p.o 0 ++ List.replicate ((R - 0) * 2) (.slice none 0 0)) := by
    have h := World.ownsRow_lit (base := w.heap.size + 1) (e := 78) (size := 2) w1 (madeCells #[Value.slice none 0 0, Value.slice none 0 0] (R * 2)) R (by omega) (by unfold maxLen; omega) (by simp [size_madeCells])
    rw [made2, hw2] at h
    simpa [UU] using h
  have hb2 : Below (w.heap.size + 1) w1 w2 := by rw [← hw2]; exact (Below.refl _ _).alloc (by omega) _
  clear hw2
  have y0 := (hb2.cell (p := ⟨w.heap.size, 0, none⟩) (by simp)).trans x0
  have y1 := (hb2.cell (p := ⟨w.heap.size, 1, none⟩) (by simp)).trans x1
  have y2 := (hb2.cell (p := ⟨w.heap.size, 2, none⟩) (by simp)).trans x2
  have y3 := (hb2.cell (p := ⟨w.heap.size, 3, none⟩) (by simp)).trans x3
  have HB2 := Lib.hid (xb.trans (hb2.mono (show w.heap.size ≤ w.heap.size + 1 by omega)))
  have HM := Lib.hid hmade
  have hg : w.heap.size + 1 ≤ w1.heap.size := by omega
  have hw12 : w.heap.size + 1 < w2.heap.size := by have := ((own_block hmade) _ rfl).2; have e : w1.heap.size < w2.heap.size := this; omega
  clear x0 x1 x2 x3 xs xb hb2 hmade
  go_loopw [12] (fun iv wr => ∃ (k : Nat) (fo fs : Nat → Option Addr × Nat), k ≤ R ∧ iv = .int .i64 k ∧ wr.ownsRow (w.heap.size + 1) 78 2 (.slice (some ⟨w1.heap.size, 0, none⟩) R R) R (UU fo fs p.s p.o k ++ List.replicate ((R - k) * 2) (.slice none 0 0)) ∧
    OwX wr (w.heap.size + 1) fo fs p.s p.o k ∧ Below (w.heap.size + 1) w2 wr) (fun i _ => R - (intOf i).toNat)
  case atStart => exact ⟨0, _, _, by omega, rfl, HM.out, fun i hi => absurd hi (by omega), Below.refl _ _⟩
  case round =>
    obtain ⟨k, fo, fs, hk, rfl, hown, hX, hbel⟩ := hrel
    have hsz : w.heap.size + 1 < wr.heap.size := by have := hbel.size; omega
    have OWN := Lib.hid hown
    have OWX := Lib.hid hX
    by_cases hlt : k < R
    · have iqk : (k : Int) < (R : Int) := by omega
      have hbw := HB2.out.trans (hbel.mono (show w.heap.size ≤ w.heap.size + 1 by omega))
      have FS := Lib.hid (show ∀ x, Below wr.heap.size wr x → x.cell? ⟨w.heap.size, 0, none⟩ = some (.int .i64 N) ∧ x.cell? ⟨w.heap.size, 1, none⟩ = some (.slice A1 p.s.length c1) ∧ x.cell? ⟨w.heap.size, 2, none⟩ = some (.slice A2 p.o.length c2) ∧ x.cell? ⟨w.heap.size, 3, none⟩ = some (.slice A R c) from fun x hx =>
        ⟨((hx.cell (p := ⟨w.heap.size, 0, none⟩) (by simp only []; omega)).trans (hbel.cell (p := ⟨w.heap.size, 0, none⟩) (by simp))).trans y0, ((hx.cell (p := ⟨w.heap.size, 1, none⟩) (by simp only []; omega)).trans (hbel.cell (p := ⟨w.heap.size, 1, none⟩) (by simp))).trans y1,
        ((hx.cell (p := ⟨w.heap.size, 2, none⟩) (by simp only []; omega)).trans (hbel.cell (p := ⟨w.heap.size, 2, none⟩) (by simp))).trans y2, ((hx.cell (p := ⟨w.heap.size, 3, none⟩) (by simp only []; omega)).trans (hbel.cell (p := ⟨w.heap.size, 3, none⟩) (by simp))).trans y3⟩)
      have US := Lib.hid (show ∀ W, Below wr.heap.size wr W → _ from fun W hW => usesOf_any B N R A1 A2 A c1 c2 c p (k : Int) W hs40 ho6 (by have := hW.size; omega) ((H.out.below' hbw hB).below' hW (by omega)))
      have BEL := Lib.hid hbel
      clear hown hX hbel hbw
      obtain ⟨v0, v1, v2, v3⟩ := FS.out wr (Below.refl _ _)
      go_wp2_with fail
      go_at_call 108
      refine (US.out wr (Below.refl _ _)).mono ?_
      rintro e w5 ⟨O, co, S, cs, rfl, hO5, hS5, hb5⟩
      have hown5 := own_below OWN.out hb5
      have hX5 := OWX.out.below hb5
      have hl := UU_len fo fs p.s p.o k
      have d0 : w5.cell? ⟨w1.heap.size, k * 2, none⟩ = some (.slice none 0 0) := by
        rw [hown5.cellAt _ (by omega), List.getElem?_append_right (by omega), List.getElem?_replicate, if_pos (by omega)]
      have d1 : w5.cell? ⟨w1.heap.size, k * 2 + 1, none⟩ = some (.slice none 0 0) := by
        rw [hown5.cellAt _ (by omega), List.getElem?_append_right (by omega), List.getElem?_replicate, if_pos (by omega)]
      have f0 : w5.frozen? ⟨w1.heap.size, k * 2, none⟩ = false := hown5.frozenAt _
      have f1 : w5.frozen? ⟨w1.heap.size, k * 2 + 1, none⟩ = false := hown5.frozenAt _
      have OWN5 := Lib.hid hown5
      have OWX5 := Lib.hid hX5
      have HO5 := Lib.hid hO5
      have HS5 := Lib.hid hS5
      have BEL5 := Lib.hid (BEL.out.trans (hb5.mono (show w.heap.size + 1 ≤ wr.heap.size by omega)))
      clear hown5 hX5 hO5 hS5 hb5 hl v0 v1 v2 v3
      go_wp2
      go_roundw
      case rel =>
        refine ⟨k + 1, updU fo k (O, co), updU fs k (S, cs), by omega, by go_num, ?_, ?_, (BEL5.out.setCell hg _).setCell hg _⟩
        · have h := ((OWN5.out.stored (k * 2) (.slice O (usO p.o (k : Int) p.o.length).length co)).1.stored (k * 2 + 1) (.slice S (usS p.s (k : Int) p.s.length).length cs)).1
          rw [fill2 _ _ _ _ (UU_len fo fs p.s p.o k) hlt] at h
          rw [UU_upd]
          exact h
        · obtain ⟨ws, hws⟩ := own_heap OWN5.out
          have h2 := (OWN5.out.stored (k * 2) (.slice O (usO p.o (k : Int) p.o.length).length co)).1
          obtain ⟨ws2, hws2⟩ := own_heap h2
          refine OwX.upd ((OWX5.out.set hws (by decide) _).set hws2 (by decide) _) ?_ ?_
          · exact own_base (own_set (own_set (h := HO5.out) hws (by decide) _) hws2 (by decide) _) (by omega)
          · exact own_base (own_set (own_set (h := HS5.out) hws (by decide) _) hws2 (by decide) _) (by omega)
      case measure => simp [intOf]; omega
    · have hk' : k = R := by omega
      subst hk'
      have HB3 := Lib.hid (HB2.out.trans (hbel.mono (show w.heap.size ≤ w.heap.size + 1 by omega)))
      clear hown hX hbel
      go_wp2
      go_ret
      refine ⟨_, _, rfl, ⟨fo, fs, ?_, OWX.out.base (by omega)⟩, HB3.out⟩
      have h := own_base OWN.out (show w.heap.size ≤ w.heap.size + 1 by omega)
      simpa using h
end Go.Proofs.Ytlkieebmfmiafaa
/- The laws' own helpers: marks. -/
namespace Go.Proofs.Ytlkieebmfmiafaa
open Go.RowKit

def marksI (k : Int) (n : Nat) : List Int := (List.range n).map fun i : Nat => k + (i : Int)
def marksS (k : Int) (n : Nat) : List (Int × Int) := (List.range n).map fun i : Nat => (k + 2 * (i : Int), k + 2 * (i : Int) + 1)
theorem marksI_length (k : Int) (n : Nat) : (marksI k n).length = n := by simp [marksI]
theorem marksS_length (k : Int) (n : Nat) : (marksS k n).length = n := by simp [marksS]
theorem marksI_succ (k : Int) (n : Nat) : marksI k (n + 1) = marksI k n ++ [k + (n : Int)] := by
  unfold marksI
  rw [List.range_succ, List.map_append]
  rfl
theorem marksS_succ (k : Int) (n : Nat) : marksS k (n + 1) = marksS k n ++ [(k + 2 * (n : Int), k + 2 * (n : Int) + 1)] := by
  unfold marksS
  rw [List.range_succ, List.map_append]
  rfl
/-- The first k of a list replaced. -/
def over {α : Type} (xs ys : List α) (k : Nat) : List α := xs.take k ++ ys.drop k
theorem over_set_int (l : List Int) (m : Int) (k : Nat) (hk : k < l.length) :
    (((marksI m k) ++ l.drop k).map I).set k (I (m + (k : Int))) = ((marksI m (k + 1)) ++ l.drop (k + 1)).map I := by
  rw [← List.map_set, List.set_append_right _ _ (by rw [marksI_length]; omega), marksI_length, Nat.sub_self, marksI_succ, List.drop_eq_getElem_cons hk, List.set_cons_zero]
  simp
theorem over_set_step (s : List (Int × Int)) (m : Int) (k : Nat) (hk : k < s.length) :
    ((fl ((marksS m k) ++ s.drop k)).set (k * 2) (I (m + 2 * (k : Int)))).set (k * 2 + 1) (I (m + 2 * (k : Int) + 1)) = fl ((marksS m (k + 1)) ++ s.drop (k + 1)) := by
  have e : ∀ a b : List (Int × Int), fl (a ++ b) = fl a ++ fl b := fun a b => by simp [fl]
  have hl : (fl (marksS m k)).length = k * 2 := by rw [fl_length, marksS_length]
  have e2 : fl (s.drop k) = I (s[k]).1 :: I (s[k]).2 :: fl (s.drop (k + 1)) := by rw [List.drop_eq_getElem_cons hk]; rfl
  rw [e, e2, List.set_append_right _ _ (by omega), hl, Nat.sub_self, List.set_cons_zero, List.set_append_right _ _ (by omega), hl, show k * 2 + 1 - k * 2 = 1 by omega, List.set_cons_succ, List.set_cons_zero, marksS_succ, e, e]
  simp [fl]

set_option maxHeartbeats 1000000 in
theorem markIntS_any (B : Nat) (A : Option Addr) (c : Nat) (l : List Int) (m : Int) (w : World) (hm : l.length ≤ 4000000) (hm0 : 0 ≤ m) (hm1 : m ≤ 100000000) (hown : OwI w B (.slice A l.length c) l) :
    Calls Try.prog 22 #[.slice A l.length c, .int .i64 m] w fun e w' => e = .returned (.int .i64 (m + (l.length : Int))) ∧ OwI w' B (.slice A l.length c) (marksI m l.length) ∧ w.grownBy w' (Value.slice A l.length c).ownBlock := by
  have HOWN := Lib.hid hown
  clear hown
  go_enter Try.func22, Try.ntmps22
  go_wp2
  go_loopw [1, 5] (fun kv iv wr => ∃ k : Nat, k ≤ l.length ∧ iv = .int .i64 k ∧ kv = .int .i64 (m + (k : Int)) ∧ OwI wr B (.slice A l.length c) (marksI m k ++ l.drop k) ∧ w.grownBy wr (Value.slice A l.length c).ownBlock) (fun _ i _ => l.length - (intOf i).toNat)
  case atStart => exact ⟨0, by omega, rfl, by simp, HOWN.out, World.grownBy.refl _ _⟩
  case round =>
    obtain ⟨k, hk, rfl, rfl, hown, hbel⟩ := hrel
    have hll : (marksI m k ++ l.drop k).length = l.length := by rw [List.length_append, marksI_length, List.length_drop]; omega
    by_cases hlt : k < l.length
    · have ho : wr.ownsRow B 3 1 (.slice A l.length c) l.length ((marksI m k ++ l.drop k).map I) := by
        have h : wr.ownsRow _ _ _ _ _ _ := hown
        rw [hll] at h
        exact h
      obtain ⟨g, rfl, hgB, hgs, hcs, hfs⟩ := own_at ho (by omega)
      have hc : wr.cell? ⟨g, k, none⟩ = some (.int .i64 ((marksI m k ++ l.drop k)[k]'(by rw [hll]; exact hlt))) := by
        rw [hcs _ (by omega)]
        have hlt' : k < (marksI m k ++ l.drop k).length := by rw [hll]; exact hlt
        simp only [List.getElem?_map, List.getElem?_eq_getElem hlt', Option.map_some, I]
      have hf := hfs k
      have HO := Lib.hid ho
      have HB := Lib.hid hbel
      generalize hval : (Value.int .i64 ((marksI m k ++ l.drop k)[k]'(by rw [hll]; exact hlt))) = cv at hc
      clear ho hown hbel hcs hfs hval
      go_wp2
      go_roundw
      case rel =>
        refine ⟨k + 1, by omega, by go_num, by go_num, ?_, grown_set HB.out _⟩
        have h := (HO.out.stored k (I (m + (k : Int)))).1
        rw [over_set_int l m k hlt] at h
        show World.ownsRow _ _ _ _ _ _ _
        rw [show (marksI m (k + 1) ++ l.drop (k + 1)).length = l.length by rw [List.length_append, marksI_length, List.length_drop]; omega]
        exact h
      case measure => simp [intOf]; omega
    · have hk' : k = l.length := by omega
      subst hk'
      rw [List.drop_length, List.append_nil] at hown
      go_wp2
      go_ret
      exact ⟨rfl, hown, hbel⟩

set_option maxHeartbeats 1000000 in
theorem heldIntS_any (B : Nat) (A : Option Addr) (c n : Nat) (m : Int) (w : World) (hm : n ≤ 4000000) (hm0 : 0 ≤ m) (hm1 : m ≤ 100000000) (hr : Rd w B 1 A n ((marksI m n).map I)) :
    Calls Try.prog 23 #[.slice A n c, .int .i64 m] w fun e w' => e = .returned (.int .i64 (m + (n : Int))) ∧ w = w' := by
  have hr2 : Rd w B 1 A (marksI m n).length ((marksI m n).map I) := by rw [marksI_length]; exact hr
  have H := Lib.hid hr2
  clear hr hr2
  go_enter Try.func23, Try.ntmps23
  go_wp2
  go_loopw [1, 5] (fun kv iv wr => ∃ k : Nat, k ≤ n ∧ iv = .int .i64 k ∧ kv = .int .i64 (m + (k : Int)) ∧ w = wr) (fun _ i _ => n - (intOf i).toNat)
  case atStart => exact ⟨0, by omega, rfl, by simp, rfl⟩
  case round =>
    obtain ⟨k, hk, rfl, rfl, rfl⟩ := hrel
    by_cases hlt : k < n
    · obtain ⟨b, off, rfl, hb, hcell⟩ := H.out.int (show k < (marksI m n).length by rw [marksI_length]; exact hlt)
      have e : (marksI m n)[k]'(by rw [marksI_length]; exact hlt) = m + (k : Int) := by simp [marksI]
      rw [e] at hcell
      have ik : (k : Int) < (n : Int) := by omega
      go_wp2
      go_roundw
      case rel => exact ⟨k + 1, by omega, by go_num, by go_num, trivial⟩
      case measure => simp [intOf]; omega
    · have hk' : k = n := by omega
      subst hk'
      go_wp2
      go_ret
      exact ⟨rfl, rfl⟩
set_option maxRecDepth 100000 in
set_option maxHeartbeats 1000000 in
theorem markStepS_any (B : Nat) (A : Option Addr) (c : Nat) (s : List (Int × Int)) (m : Int) (w : World) (hm : s.length ≤ 4000000) (hm0 : 0 ≤ m) (hm1 : m ≤ 100000000) (hown : OwS w B (.slice A s.length c) s) :
    Calls Try.prog 66 #[.slice A s.length c, .int .i64 m] w fun e w' => e = .returned (.int .i64 (m + 2 * (s.length : Int))) ∧ OwS w' B (.slice A s.length c) (marksS m s.length) ∧ w.grownBy w' (Value.slice A s.length c).ownBlock := by
  have HOWN := Lib.hid hown
  clear hown
  go_enter Try.func66, Try.ntmps66
  go_wp2
  go_loopw [1, 5] (fun kv iv wr => ∃ k : Nat, k ≤ s.length ∧ iv = .int .i64 k ∧ kv = .int .i64 (m + 2 * (k : Int)) ∧ OwS wr B (.slice A s.length c) (marksS m k ++ s.drop k) ∧ w.grownBy wr (Value.slice A s.length c).ownBlock) (fun _ i _ => s.length - (intOf i).toNat)
  case atStart => exact ⟨0, by omega, rfl, by simp, HOWN.out, World.grownBy.refl _ _⟩
  case round =>
    obtain ⟨k, hk, rfl, rfl, hown, hbel⟩ := hrel
    have hll : (marksS m k ++ s.drop k).length = s.length := by rw [List.length_append, marksS_length, List.length_drop]; omega
    by_cases hlt : k < s.length
    · have ho : wr.ownsRow B 94 2 (.slice A s.length c) s.length (fl (marksS m k ++ s.drop k)) := by
        have h : wr.ownsRow _ _ _ _ _ _ := hown
        rw [hll] at h
        exact h
      obtain ⟨g, rfl, hgB, hgs, hcs, hfs⟩ := own_at ho (by omega)
      have hlt' : k < (marksS m k ++ s.drop k).length := by rw [hll]; exact hlt
      obtain ⟨v0, hv0⟩ : ∃ v, wr.cell? ⟨g, k * 2, none⟩ = some (.int .i64 v) := ⟨_, by rw [hcs _ (by omega)]; exact (fl_at hlt').1⟩
      obtain ⟨v1, hv1⟩ : ∃ v, wr.cell? ⟨g, k * 2 + 1, none⟩ = some (.int .i64 v) := ⟨_, by rw [hcs _ (by omega)]; exact (fl_at hlt').2⟩
      have hf0 := hfs (k * 2)
      have ho1 := (ho.stored (k * 2) (I (m + 2 * (k : Int)))).1
      have hf1 := ho1.frozenAt (k * 2 + 1)
      have hv2 : (wr.setCell ⟨g, k * 2, none⟩ (I (m + 2 * (k : Int)))).cell? ⟨g, k * 2 + 1, none⟩ = some (.int .i64 v1) := by
        rw [ho1.cellAt _ (by omega), List.getElem?_set_ne (by omega), ← hcs _ (by omega)]
        exact hv1
      have HO := Lib.hid ho1
      have HB := Lib.hid hbel
      clear ho ho1 hown hbel hcs hfs
      go_wp2
      go_roundw
      case rel =>
        refine ⟨k + 1, by omega, by go_num, by go_num, ?_, grown_set (grown_set HB.out _) _⟩
        have h := (HO.out.stored (k * 2 + 1) (I (m + 2 * (k : Int) + 1))).1
        rw [over_set_step s m k hlt] at h
        show World.ownsRow _ _ _ _ _ _ _
        rw [show (marksS m (k + 1) ++ s.drop (k + 1)).length = s.length by rw [List.length_append, marksS_length, List.length_drop]; omega]
        exact h
      case measure => simp [intOf]; omega
    · have hk' : k = s.length := by omega
      subst hk'
      rw [List.drop_length, List.append_nil] at hown
      go_wp2
      go_ret
      exact ⟨rfl, hown, hbel⟩

set_option maxHeartbeats 1000000 in
theorem heldStepS_any (B : Nat) (A : Option Addr) (c n : Nat) (m : Int) (w : World) (hm : n ≤ 4000000) (hm0 : 0 ≤ m) (hm1 : m ≤ 100000000) (hr : Rd w B 2 A n (fl (marksS m n))) :
    Calls Try.prog 72 #[.slice A n c, .int .i64 m] w fun e w' => e = .returned (.int .i64 (m + 2 * (n : Int))) ∧ w = w' := by
  have hr2 : Rd w B 2 A (marksS m n).length (fl (marksS m n)) := by rw [marksS_length]; exact hr
  have H := Lib.hid hr2
  clear hr hr2
  go_enter Try.func72, Try.ntmps72
  go_wp2
  go_loopw [1, 5] (fun kv iv wr => ∃ k : Nat, k ≤ n ∧ iv = .int .i64 k ∧ kv = .int .i64 (m + 2 * (k : Int)) ∧ w = wr) (fun _ i _ => n - (intOf i).toNat)
  case atStart => exact ⟨0, by omega, rfl, by simp, rfl⟩
  case round =>
    obtain ⟨k, hk, rfl, rfl, rfl⟩ := hrel
    by_cases hlt : k < n
    · obtain ⟨b, off, rfl, hb, hc1, hc2⟩ := H.out.stp (show k < (marksS m n).length by rw [marksS_length]; exact hlt)
      have e : (marksS m n)[k]'(by rw [marksS_length]; exact hlt) = (m + 2 * (k : Int), m + 2 * (k : Int) + 1) := by simp [marksS]
      rw [e] at hc1 hc2
      have ik : (k : Int) < (n : Int) := by omega
      go_wp2
      go_roundw
      case rel => exact ⟨k + 1, by omega, by go_num, by go_num, trivial⟩
      case measure => simp [intOf]; omega
    · have hk' : k = n := by omega
      subst hk'
      go_wp2
      go_ret
      exact ⟨rfl, rfl⟩

/-- Only blocks from lo on and before hi may have changed. -/
def Win (lo hi : Nat) (w w' : World) : Prop := Below lo w w' ∧ ∀ k, hi ≤ k → k < w.heap.size → w'.heap[k]? = w.heap[k]?
theorem Win.refl (lo hi : Nat) (w : World) : Win lo hi w w := ⟨Below.refl _ _, fun _ _ _ => rfl⟩
theorem Win.trans {lo hi : Nat} {a b c : World} (h : Win lo hi a b) (h' : Win lo hi b c) : Win lo hi a c :=
  ⟨h.1.trans h'.1, fun k h1 h2 => (h'.2 k h1 (Nat.lt_of_lt_of_le h2 h.1.size)).trans (h.2 k h1 h2)⟩
theorem Win.of_below {lo hi : Nat} {w w' : World} (h : Below w.heap.size w w') (hl : lo ≤ w.heap.size) : Win lo hi w w' := ⟨h.mono hl, fun k _ hk => h.block k hk⟩
theorem Win.of_grown {lo hi : Nat} {w w' : World} {row : Option Nat} (h : w.grownBy w' row) (hl : lo ≤ w.heap.size) (h1 : ∀ k, row = some k → lo ≤ k ∧ k < hi) : Win lo hi w w' :=
  ⟨⟨h.os, h.tape, h.output, h.size, fun k hk => h.block k (by omega) (fun e => by have := h1 k e.symm; omega)⟩, fun k h2 hk => h.block k hk (fun e => by have := h1 k e.symm; omega)⟩
theorem Win.own {lo hi B sz n : Nat} {e : TypeId} {w w' : World} {v : Value} {xs : List Value} (h : Win lo hi w w') (ho : w.ownsRow B e sz v n xs) (hB : hi ≤ B) : w'.ownsRow B e sz v n xs := by
  refine ⟨ho.1, ?_⟩
  rcases ho.2 with h0 | ⟨g, cap, cur, hv, hb, hg, r⟩
  · exact .inl h0
  · exact .inr ⟨g, cap, cur, hv, hb, by rw [h.2 g (by omega) (Array.getElem?_eq_some_iff.1 hg).1]; exact hg, r⟩

set_option maxRecDepth 100000 in
set_option maxHeartbeats 1000000 in
theorem markPlan_any (B hi : Nat) (A1 A2 : Option Addr) (c1 c2 : Nat) (p : Pl) (m : Int) (w : World) (h1 : p.s.length ≤ 1048576) (h2 : p.o.length ≤ 1048576) (hm0 : 0 ≤ m) (hm1 : m ≤ 10) (hB : B ≤ w.heap.size) (hhi : hi ≤ w.heap.size) (hown : OwP w B A1 A2 c1 c2 p)
    (hb1 : ∀ k, (Value.slice A1 p.s.length c1).ownBlock = some k → k < hi) (hb2 : ∀ k, (Value.slice A2 p.o.length c2).ownBlock = some k → k < hi) :
    Calls Try.prog 21 #[.agg #[.int .i64 p.n, .slice A1 p.s.length c1, .slice A2 p.o.length c2], .int .i64 m] w fun e w' =>
      e = .returned (.int .i64 (m + 2 * (p.s.length : Int) + (p.o.length : Int))) ∧ OwS w' B (.slice A1 p.s.length c1) (marksS m p.s.length) ∧ OwI w' B (.slice A2 p.o.length c2) (marksI (m + 2 * (p.s.length : Int)) p.o.length) ∧ Win B hi w w' := by
  have HOWN := Lib.hid hown
  have H1 := Lib.hid hb1
  have H2 := Lib.hid hb2
  clear hown hb1 hb2
  go_enter Try.func21, Try.ntmps21
  go_wp2_with fail
  go_at_call 66
  generalize hw1 : World.alloc w _ = w1
  obtain ⟨x0, x1, x2, xs, xb⟩ := box3 hw1
  clear hw1
  have hown1 := HOWN.out.below xb
  refine (markStepS_any B A1 c1 p.s m w1 (by omega) hm0 (by omega) hown1.1).mono ?_
  rintro e w2 ⟨rfl, ho2, hg2⟩
  have hne := own_ne hown1.2 hown1.1 (by decide)
  have ho2i := World.ownsRow.kept hown1.2 hg2 hne
  have hw2 : Win B hi w1 w2 := Win.of_grown hg2 (by omega) (fun k hk => ⟨(own_block hown1.1 k hk).1, H1.out k hk⟩)
  have y2 : w2.cell? ⟨w.heap.size, 2, none⟩ = some (.slice A2 p.o.length c2) := (World.cell?_of_block (hw2.2 w.heap.size (by omega) (by omega))).trans x2
  have HW2 := Lib.hid ((Win.of_below xb hB).trans hw2)
  have HO2 := Lib.hid ho2
  have HI2 := Lib.hid ho2i
  have hs2 : w.heap.size + 1 ≤ w2.heap.size := by have := hg2.size; omega
  clear x0 x1 x2 xs xb hown1 ho2 hg2 hne ho2i hw2
  go_wp2_with fail
  go_at_call 22
  refine (markIntS_any B A2 c2 p.o (m + 2 * (p.s.length : Int)) w2 (by omega) (by omega) (by omega) HI2.out).mono ?_
  rintro e w3 ⟨rfl, ho3, hg3⟩
  have hne := own_ne HO2.out HI2.out (by decide)
  have ho3s := World.ownsRow.kept HO2.out hg3 hne
  have hw3 : Win B hi w2 w3 := Win.of_grown hg3 (by omega) (fun k hk => ⟨(own_block HI2.out k hk).1, H2.out k hk⟩)
  have HW3 := Lib.hid (HW2.out.trans hw3)
  have HO3 := Lib.hid ho3
  have HS3 := Lib.hid ho3s
  clear ho3 hg3 hne ho3s hw3
  go_wp2
  go_ret
  exact ⟨rfl, HS3.out, HO3.out, HW3.out⟩

set_option maxRecDepth 100000 in
set_option maxHeartbeats 1000000 in
theorem heldPlan_any (B : Nat) (A1 A2 : Option Addr) (c1 c2 n1 n2 : Nat) (z m : Int) (w : World) (h1 : n1 ≤ 1048576) (h2 : n2 ≤ 1048576) (hm0 : 0 ≤ m) (hm1 : m ≤ 10) (hB : B ≤ w.heap.size) (hr1 : Rd w B 2 A1 n1 (fl (marksS m n1))) (hr2 : Rd w B 1 A2 n2 ((marksI (m + 2 * (n1 : Int)) n2).map I)) :
    Calls Try.prog 28 #[.agg #[.int .i64 z, .slice A1 n1 c1, .slice A2 n2 c2], .int .i64 m] w fun e w' =>
      e = .returned (.int .i64 (m + 2 * (n1 : Int) + (n2 : Int))) ∧ Below w.heap.size w w' := by
  have H1 := Lib.hid hr1
  have H2 := Lib.hid hr2
  clear hr1 hr2
  have hn1 : ¬ (m + 2 * (n1 : Int) < 0) := by omega
  have hn2 : ¬ (m + 2 * (n1 : Int) + (n2 : Int) < 0) := by omega
  go_enter Try.func28, Try.ntmps28
  go_wp2_with fail
  go_at_call 72
  generalize hw1 : World.alloc w _ = w1
  obtain ⟨x0, x1, x2, xs, xb⟩ := box3 hw1
  clear hw1
  refine (heldStepS_any B A1 c1 n1 m w1 (by omega) hm0 (by omega) (H1.out.below' xb hB)).mono ?_
  rintro e w2 ⟨rfl, rfl⟩
  have XB := Lib.hid xb
  clear xb
  go_wp2_with fail
  go_at_call 23
  refine (heldIntS_any B A2 c2 n2 (m + 2 * (n1 : Int)) w1 (by omega) (by omega) (by omega) (H2.out.below' XB.out hB)).mono ?_
  rintro e w3 ⟨rfl, rfl⟩
  go_wp2
  go_ret
  exact ⟨rfl, XB.out⟩
end Go.Proofs.Ytlkieebmfmiafaa
/- UsesOf, of the model and of the program. -/
namespace Go.Proofs.Ytlkieebmfmiafaa
open Go.RowKit

def usR (p : Pl) : List Int := if good p then usL p else []
theorem usR_good {p : Pl} {N : Nat} (h : good p = true) (hN : p.n = N) : usR p = cL p.s p.o (N + p.s.length) p.s.length p.o.length := by
  have : p.n.toNat = N := by omega
  unfold usR usL
  rw [if_pos h, this]
theorem usR_bad {p : Pl} (h : good p = false) : usR p = [] := by unfold usR; rw [if_neg (by rw [h]; decide)]
theorem usR_le (p : Pl) : (usR p).length ≤ 1000 := by
  cases h : good p with
  | false => rw [usR_bad h]; simp
  | true =>
    obtain ⟨N, hN, _, n6, h40, _⟩ := good_facts h
    rw [usR_good h hN, cL_length]
    omega
/-- Behind withValues: the box of what it answers. -/
theorem box4v {w w1 : World} {a b c d : Value} {t : TypeId} (h : w.alloc (.cells #[a, b, c, d] t) = w1) :
    (w1.cell? ⟨w.heap.size, 0, none⟩ = some a ∧ w1.cell? ⟨w.heap.size, 1, none⟩ = some b ∧ w1.cell? ⟨w.heap.size, 2, none⟩ = some c ∧ w1.cell? ⟨w.heap.size, 3, none⟩ = some d) ∧ w1.heap.size = w.heap.size + 1 ∧ Below w.heap.size w w1 :=
  let ⟨h0, h1, h2, h3, hs, hb⟩ := box4 h
  ⟨⟨h0, h1, h2, h3⟩, hs, hb⟩

set_option maxRecDepth 100000 in
set_option maxHeartbeats 1000000 in
theorem count_any (O S : Option Addr) (n m co cs : Nat) (w : World) (hn : n ≤ 1000) (hm : m ≤ 1000) :
    Calls Try.prog 64 #[.agg #[.slice O n co, .slice S m cs]] w fun e w' => e = .returned (.int .i64 ((n : Int) + (m : Int))) ∧ Below w.heap.size w w' := by
  have hw : IntKind.i64.wrap ((n : Int) + (m : Int)) = (n : Int) + (m : Int) := IntWalk.i64_in _ (by omega)
  go_enter Try.func64, Try.ntmps64
  go_wp2
  go_ret
  exact ⟨rfl, (Below.refl _ _).alloc (Nat.le_refl _) _⟩

set_option maxRecDepth 100000 in
set_option maxHeartbeats 1000000 in
theorem specUses_any (B : Nat) (A1 A2 : Option Addr) (c1 c2 : Nat) (p : Pl) (w : World) (hB : B ≤ w.heap.size) (hls : p.s.length ≤ 2000000) (hlo : p.o.length ≤ 2000000) (hr : RdP w B A1 A2 p) :
    Calls Try.prog 16 #[.agg #[.int .i64 p.n, .slice A1 p.s.length c1, .slice A2 p.o.length c2]] w fun e w' =>
      ∃ A c, e = .returned (.tuple #[.slice A (usR p).length c, .bool (good p)]) ∧ OwI w' w.heap.size (.slice A (usR p).length c) (usR p) ∧ Below w.heap.size w w' := by
  have H := Lib.hid hr
  clear hr
  obtain ⟨gd, hgd⟩ : ∃ x, good p = x := ⟨_, rfl⟩
  have HG := Lib.hid hgd
  go_enter Try.func16, Try.ntmps16
  go_wp2_with fail
  go_at_call 58
  generalize hw1 : World.alloc w _ = w1
  obtain ⟨x0, x1, x2, xs, xb⟩ := box3 hw1
  clear hw1
  have hC := plGood_any w.heap.size A1 A2 c1 c2 p w1 (by omega) hls hlo ((H.out.below' xb hB).more hB)
  rw [hgd] at hC
  refine hC.mono ?_
  rintro e w2 ⟨rfl, hb2⟩
  clear hC hgd
  have y0 := (hb2.cell (p := ⟨w.heap.size, 0, none⟩) (by simp only []; omega)).trans x0
  have y1 := (hb2.cell (p := ⟨w.heap.size, 1, none⟩) (by simp only []; omega)).trans x1
  have y2 := (hb2.cell (p := ⟨w.heap.size, 2, none⟩) (by simp only []; omega)).trans x2
  have HB2 := Lib.hid (xb.trans (hb2.mono (show w.heap.size ≤ w1.heap.size by omega)))
  have hs2 : w.heap.size + 1 ≤ w2.heap.size := by have := hb2.size; omega
  clear x0 x1 x2 xs xb hb2
  cases gd with
  | false =>
    have EA := Lib.hid (usR_bad HG.out)
    go_wp2
    go_ret2
    exact ⟨none, 0, by rw [EA.out, HG.out]; rfl, by rw [EA.out]; exact OwI.nil _ _, HB2.out⟩
  | true =>
    obtain ⟨N, hN, n1, n6, hs40, ho6, hok, hout, _⟩ := good_facts HG.out
    have EA := Lib.hid (usR_good HG.out hN)
    have HC := Lib.hid (duUses_any w.heap.size N (N + p.s.length) A1 A2 c1 c2 p w2 hN n6 hs40 ho6 rfl (by omega) hok hout ((H.out.below' HB2.out hB).more hB))
    clear hok hout hN
    go_wp2_with fail
    go_at_call 59
    refine HC.out.mono ?_
    rintro e w3 ⟨A3, c3, rfl, hown3, hb3⟩
    have HO := Lib.hid (own_base hown3 (show w.heap.size ≤ w2.heap.size by omega))
    have HB3 := Lib.hid (HB2.out.trans (hb3.mono (show w.heap.size ≤ w2.heap.size by omega)))
    clear hown3 hb3
    go_wp2
    go_ret2
    refine ⟨A3, c3, by rw [EA.out, HG.out, cL_length]; rfl, ?_, HB3.out⟩
    show World.ownsRow _ _ _ _ _ _ _
    rw [EA.out, cL_length]
    exact HO.out

/-- The first k counts. -/
def cK (s : List (Int × Int)) (o : List Int) (k : Nat) : List Int := cL s o k s.length o.length
theorem cK_succ (s : List (Int × Int)) (o : List Int) (k : Nat) : cK s o (k + 1) = cK s o k ++ [((usC s o s.length o.length (k : Int) : Nat) : Int)] := by
  unfold cK cL
  rw [List.range_succ, List.map_append]
  rfl
theorem cK_len (s : List (Int × Int)) (o : List Int) (k : Nat) : (cK s o k).length = k := cL_length _ _ _ _ _

set_option maxRecDepth 100000 in
set_option maxHeartbeats 2000000 in
theorem implUses_any (B : Nat) (A1 A2 : Option Addr) (c1 c2 : Nat) (p : Pl) (w : World) (hB : B ≤ w.heap.size) (hls : p.s.length ≤ 2000000) (hlo : p.o.length ≤ 2000000) (hr : RdP w B A1 A2 p) :
    Calls Try.prog 18 #[.agg #[.int .i64 p.n, .slice A1 p.s.length c1, .slice A2 p.o.length c2]] w fun e w' =>
      ∃ A c, e = .returned (.tuple #[.slice A (usR p).length c, .bool (good p)]) ∧ OwI w' w.heap.size (.slice A (usR p).length c) (usR p) ∧ Below w.heap.size w w' := by
  have H := Lib.hid hr
  clear hr
  go_enter Try.func18, Try.ntmps18
  go_wp2_with fail
  go_at_call 62
  generalize hw1 : World.alloc w _ = w1
  obtain ⟨x0, x1, x2, xs, xb⟩ := box3 hw1
  clear hw1
  refine (withValues_any B A1 A2 c1 c2 p w1 (by omega) hls hlo (H.out.below' xb hB)).mono ?_
  rintro e w2 ⟨hb2, hpost⟩
  have HB2 := Lib.hid (xb.trans (hb2.mono (show w.heap.size ≤ w1.heap.size by omega)))
  clear x0 x1 x2 hb2
  rw [valsI_eq] at hpost
  by_cases hg : good p = true
  · rw [if_pos hg] at hpost
    simp only at hpost
    obtain ⟨A, c, rfl, _⟩ := hpost
    obtain ⟨N, hN, n1, n6, hs40, ho6, _, _, _⟩ := good_facts hg
    have hn' : p.n.toNat = N := by omega
    have EA := Lib.hid (usR_good hg hN)
    have HG := Lib.hid hg
    have hel := exps_length N p.s
    obtain ⟨R, hR⟩ : ∃ R, N + p.s.length = R := ⟨_, rfl⟩
    rw [hn', List.length_map, hel, hR, hN]
    rw [hR] at EA
    have hR46 : R ≤ 46 := by omega
    have US := fun W hW hr => allUses_any B N R A1 A2 A c1 c2 c p W hs40 ho6 hR46 hW hr
    have US := Lib.hid US
    clear hn' hN hg hel hR xs xb
    go_wp2_with fail
    go_at_call 63
    generalize hw3 : World.alloc w2 _ = w3
    obtain ⟨_, xs, xb⟩ := box4v hw3
    clear hw3
    have hs2 := HB2.out.size
    have HB3 := Lib.hid (HB2.out.trans (xb.mono hs2))
    refine (US.out w3 (by omega) (H.out.below' HB3.out hB)).mono ?_
    rintro e w4 ⟨A3, c3, fo, fs, rfl, hU, hb4⟩
    have HU := Lib.hid hU
    have HB4 := Lib.hid (HB3.out.trans (hb4.mono (show w.heap.size ≤ w3.heap.size by omega)))
    have hs4 : w.heap.size ≤ w4.heap.size := HB4.out.size
    clear hU hb4 xs xb
    go_wp2
    go_loopw [6, 19] (fun ov iv wr => ∃ (k : Nat) (A4 : Option Addr) (c4 : Nat), k ≤ R ∧ iv = .int .i64 k ∧ ov = .slice A4 k c4 ∧ wr.ownsRow w4.heap.size 3 1 (.slice A4 k c4) k ((cK p.s p.o k).map I) ∧ Below w4.heap.size w4 wr) (fun _ i _ => R - (intOf i).toNat)
    case atStart => exact ⟨0, none, 0, by omega, rfl, rfl, World.ownsRow_nil _ _ _ _, Below.refl _ _⟩
    case round =>
      obtain ⟨k, A4, c4, hk, rfl, rfl, hown, hbel⟩ := hrel
      have hsz : w4.heap.size ≤ wr.heap.size := hbel.size
      by_cases hlt : k < R
      · have iqk : (k : Int) < (R : Int) := by omega
        obtain ⟨g, rfl, _, hg4, d0, d1⟩ := (HU.out.below hbel).at_ hlt
        have SUC := Lib.hid (cK_succ p.s p.o k)
        have l1 := usS_le p.s (k : Int) p.s.length
        have l2 := usO_le p.o (k : Int) p.o.length
        have hc : usC p.s p.o p.s.length p.o.length (k : Int) = (usS p.s (k : Int) p.s.length).length + (usO p.o (k : Int) p.o.length).length := rfl
        rw [hc] at SUC
        obtain ⟨n, hn⟩ : ∃ n, (usO p.o (k : Int) p.o.length).length = n := ⟨_, rfl⟩
        obtain ⟨m, hm⟩ : ∃ m, (usS p.s (k : Int) p.s.length).length = m := ⟨_, rfl⟩
        obtain ⟨a1, ha1⟩ : ∃ a, fo k = a := ⟨_, rfl⟩
        obtain ⟨a2, ha2⟩ : ∃ a, fs k = a := ⟨_, rfl⟩
        rw [hn, ha1] at d0
        rw [hm, ha2] at d1
        rw [hn, hm] at SUC
        rw [hm] at l1
        rw [hn] at l2
        have HCN := Lib.hid (fun W => count_any a1.1 a2.1 n m a1.2 a2.2 W (by omega) (by omega))
        have OWN := Lib.hid hown
        have BEL := Lib.hid hbel
        clear hc hn hm hown hbel ha1 ha2
        go_wp2_with fail
        go_at_call 64
        generalize hw5 : World.alloc wr _ = w5
        obtain ⟨e0, e1, es, eb⟩ := box2 hw5
        clear hw5
        refine (HCN.out w5).mono ?_
        rintro e w6 ⟨rfl, hb6⟩
        have hb56 : Below wr.heap.size wr w6 := eb.trans (hb6.mono (by omega))
        have OWN6 := Lib.hid (own_below OWN.out hb56)
        have BEL6 := Lib.hid (BEL.out.trans (hb56.mono hsz))
        have hs6 : w4.heap.size ≤ w6.heap.size := BEL6.out.size
        have hkl : (cK p.s p.o k).length = k := cK_len _ _ _
        have HKL := Lib.hid hkl
        clear e0 e1 es eb hb6 hb56 hkl
        go_wp2_with (at_builtin; refine list_step (fun K hK => ?_); refine step_app1 Try.underlying23 info_int rfl (by omega) rfl (.tmp 23) (.tmp 26) rfl w4.heap.size k _ _ rfl (World.ownsRow.alloc OWN6.out _) w6.heap.size 1 (I ((n : Int) + (m : Int))) rfl (by simp) rfl (by omega) (by simp; omega) ?_; intro A7 c7 w7 hown7 hg7 hbel7; go_simp; refine hK _ _ ?_; clear hK K)
        go_roundw
        case rel =>
          refine ⟨k + 1, A7, c7, by omega, by go_num, rfl, ?_, (BEL6.out.alloc hs6 _).trans hbel7⟩
          have e : (cK p.s p.o (k + 1)).map I = (cK p.s p.o k).map I ++ [I ((n : Int) + (m : Int))] := by
            rw [SUC.out, List.map_append, show (((m + n : Nat)) : Int) = (n : Int) + (m : Int) by omega]
            rfl
          rw [e]
          exact hown7
        case measure => simp [intOf]; omega
      · have hk' : k = R := by omega
        subst hk'
        have OWN := Lib.hid (own_base hown hs4)
        have HB5 := Lib.hid (HB4.out.trans (hbel.mono hs4))
        clear hown hbel
        go_wp2
        go_ret2
        refine ⟨A4, c4, by rw [EA.out, HG.out, cL_length]; rfl, ?_, HB5.out⟩
        show World.ownsRow _ _ _ _ _ _ _
        rw [EA.out, cL_length]
        exact OWN.out
  · rw [if_neg hg] at hpost
    simp only at hpost
    subst hpost
    have hg' : good p = false := by simpa using hg
    have EA := Lib.hid (usR_bad hg')
    have HG := Lib.hid hg'
    clear hg hg'
    go_wp2
    go_ret2
    exact ⟨none, 0, by rw [EA.out, HG.out]; rfl, by rw [EA.out]; exact OwI.nil _ _, HB2.out.alloc HB2.out.size _⟩
end Go.Proofs.Ytlkieebmfmiafaa
/- CanTurn, of the model and of the program. -/
namespace Go.Proofs.Ytlkieebmfmiafaa
open Go.RowKit

set_option maxRecDepth 100000 in
set_option maxHeartbeats 1000000 in
theorem isNone_any (O S : Option Addr) (n m co cs : Nat) (w : World) (hn : n ≤ 1000) (hm : m ≤ 1000) :
    Calls Try.prog 112 #[.agg #[.slice O n co, .slice S m cs]] w fun e w' => e = .returned (.bool (decide (m + n = 0))) ∧ Below w.heap.size w w' := by
  have HC := Lib.hid (fun W => count_any O S n m co cs W hn hm)
  have e0 : ((n : Int) + (m : Int) == 0) = decide (m + n = 0) := by
    by_cases h : m + n = 0
    · rw [decide_eq_true h]; simp; omega
    · rw [decide_eq_false h]; simp; omega
  have E := Lib.hid e0
  clear e0
  go_enter Try.func112, Try.ntmps112
  go_wp2_with fail
  go_at_call 64
  generalize hw1 : World.alloc w _ = w1
  obtain ⟨_, _, xs, xb⟩ := box2 hw1
  clear hw1
  refine (HC.out w1).mono ?_
  rintro e w2 ⟨rfl, hb2⟩
  have HB2 := Lib.hid (xb.trans (hb2.mono (show w.heap.size ≤ w1.heap.size by omega)))
  clear xs xb hb2
  go_wp2
  go_ret
  exact ⟨by rw [← E.out]; rfl, HB2.out⟩

/-- The first value that is not used, or -1. -/
def noU (s : List (Int × Int)) (o : List Int) (R : Nat) : Nat → Bool
  | 0 => false
  | k + 1 => noU s o R k || decide (usC s o s.length o.length (k : Int) = 0)
theorem noU_mono {s : List (Int × Int)} {o : List Int} {R j : Nat} (h : noU s o R j = true) : ∀ k, j ≤ k → noU s o R k = true := by
  intro k
  induction k with
  | zero => intro hk; rw [show j = 0 by omega] at h; exact h
  | succ k ih =>
    intro hk
    rcases Nat.lt_or_ge j (k + 1) with h1 | h1
    · simp only [noU, ih (by omega), Bool.true_or]
    · rw [show j = k + 1 by omega] at h; exact h

set_option maxRecDepth 100000 in
set_option maxHeartbeats 2000000 in
theorem indexNone_any (B R : Nat) (A : Option Addr) (c : Nat) (fo fs : Nat → Option Addr × Nat) (s : List (Int × Int)) (o : List Int) (w : World) (hs : s.length ≤ 40) (ho : o.length ≤ 6) (hR : R ≤ 46) (h : OwU w B A c fo fs s o R) :
    Calls Try.prog 130 #[.slice A R c, .func (.func 112) #[] #[]] w fun e w' => (∃ i : Int, e = .returned (.int .i64 i) ∧ decide (0 ≤ i) = noU s o R R) ∧ Below w.heap.size w w' := by
  have HU := Lib.hid h
  clear h
  go_enter Try.func130, Try.ntmps130
  go_wp2
  go_loopw [8] (fun iv wr => ∃ k : Nat, k ≤ R ∧ iv = .int .i64 k ∧ noU s o R k = false ∧ Below w.heap.size w wr) (fun i _ => R - (intOf i).toNat)
  case atStart => exact ⟨0, by omega, rfl, rfl, Below.refl _ _⟩
  case round =>
    obtain ⟨k, hk, rfl, hno, hbel⟩ := hrel
    by_cases hlt : k < R
    · have iqk : (k : Int) < (R : Int) := by omega
      obtain ⟨g, rfl, _, hg4, d0, d1⟩ := (HU.out.below hbel).at_ hlt
      have l1 := usS_le s (k : Int) s.length
      have l2 := usO_le o (k : Int) o.length
      have hc : usC s o s.length o.length (k : Int) = (usS s (k : Int) s.length).length + (usO o (k : Int) o.length).length := rfl
      have hno2 : noU s o R (k + 1) = decide (usC s o s.length o.length (k : Int) = 0) := by simp [noU, hno]
      rw [hc] at hno2
      obtain ⟨n, hn⟩ : ∃ n, (usO o (k : Int) o.length).length = n := ⟨_, rfl⟩
      obtain ⟨m, hm⟩ : ∃ m, (usS s (k : Int) s.length).length = m := ⟨_, rfl⟩
      obtain ⟨a1, ha1⟩ : ∃ a, fo k = a := ⟨_, rfl⟩
      obtain ⟨a2, ha2⟩ : ∃ a, fs k = a := ⟨_, rfl⟩
      rw [hn, ha1] at d0
      rw [hm, ha2] at d1
      rw [hn, hm] at hno2
      rw [hm] at l1
      rw [hn] at l2
      have HCN := fun W => isNone_any a1.1 a2.1 n m a1.2 a2.2 W (by omega) (by omega)
      obtain ⟨t, ht⟩ : ∃ t, decide (m + n = 0) = t := ⟨_, rfl⟩
      rw [ht] at HCN hno2
      have HCN := Lib.hid HCN
      have NO2 := Lib.hid hno2
      have BEL := Lib.hid hbel
      have hsz := hbel.size
      clear hc hn hm hbel ha1 ha2 hno hno2 ht
      go_wp2_with fail
      refine (HCN.out wr).mono ?_
      rintro e w5 ⟨rfl, hb5⟩
      have BEL5 := Lib.hid (BEL.out.trans (hb5.mono hsz))
      clear hb5
      cases t with
      | true =>
        go_wp2
        go_ret
        refine ⟨⟨_, rfl, ?_⟩, BEL5.out⟩
        rw [noU_mono NO2.out R (by omega)]
        exact decide_eq_true (by omega)
      | false =>
        go_wp2
        go_roundw
        case rel => exact ⟨k + 1, by omega, by go_num, NO2.out, BEL5.out⟩
        case measure => simp [intOf]; omega
    · have hk' : k = R := by omega
      subst hk'
      go_wp2
      go_ret
      exact ⟨⟨_, rfl, by rw [hno]; rfl⟩, hbel⟩

set_option maxRecDepth 100000 in
set_option maxHeartbeats 1000000 in
theorem containsNone_any (B R : Nat) (A : Option Addr) (c : Nat) (fo fs : Nat → Option Addr × Nat) (s : List (Int × Int)) (o : List Int) (w : World) (hs : s.length ≤ 40) (ho : o.length ≤ 6) (hR : R ≤ 46) (h : OwU w B A c fo fs s o R) :
    Calls Try.prog 111 #[.slice A R c, .func (.func 112) #[] #[]] w fun e w' => e = .returned (.bool (noU s o R R)) ∧ Below w.heap.size w w' := by
  have HI := Lib.hid (indexNone_any B R A c fo fs s o w hs ho hR h)
  clear h
  go_enter Try.func111, Try.ntmps111
  go_wp2_with fail
  go_at_call 130
  refine HI.out.mono ?_
  rintro e w2 ⟨⟨i, rfl, hi⟩, hb2⟩
  have HII := Lib.hid hi
  have HB2 := Lib.hid hb2
  clear hi hb2
  go_wp2
  go_ret
  exact ⟨by rw [← HII.out]; rfl, HB2.out⟩

set_option maxRecDepth 100000 in
set_option maxHeartbeats 1000000 in
theorem canTurn_any (B N R : Nat) (A1 A2 A : Option Addr) (c1 c2 c : Nat) (p : Pl) (w : World) (hs40 : p.s.length ≤ 40) (ho6 : p.o.length ≤ 6) (hR : R ≤ 46) (hB : B ≤ w.heap.size) (hr : RdP w B A1 A2 p) :
    Calls Try.prog 68 #[.agg #[.int .i64 N, .slice A1 p.s.length c1, .slice A2 p.o.length c2, .slice A R c]] w fun e w' =>
      e = .returned (.bool (!noU p.s p.o R R)) ∧ Below w.heap.size w w' := by
  have US := Lib.hid (fun W hW hr => allUses_any B N R A1 A2 A c1 c2 c p W hs40 ho6 hR hW hr)
  have H := Lib.hid hr
  clear hr
  obtain ⟨z, hz⟩ : ∃ z, noU p.s p.o R R = z := ⟨_, rfl⟩
  have HZ := Lib.hid hz
  rw [hz]
  clear hz
  go_enter Try.func68, Try.ntmps68
  go_wp2_with fail
  go_at_call 63
  generalize hw1 : World.alloc w _ = w1
  obtain ⟨_, xs, xb⟩ := box4v hw1
  clear hw1
  refine (US.out w1 (by omega) (H.out.below' xb hB)).mono ?_
  rintro e w2 ⟨A3, c3, fo, fs, rfl, hU, hb2⟩
  have hC := containsNone_any _ R A3 c3 fo fs p.s p.o w2 hs40 ho6 hR hU
  rw [HZ.out] at hC
  have HC := Lib.hid hC
  have HB2 := Lib.hid (xb.trans (hb2.mono (show w.heap.size ≤ w1.heap.size by omega)))
  clear hU hb2 xs xb hC
  go_wp2_with fail
  go_at_call 111
  refine HC.out.mono ?_
  rintro e w3 ⟨rfl, hb3⟩
  have HB3 := Lib.hid (HB2.out.trans (hb3.mono HB2.out.size))
  clear hb3
  go_wp2
  go_ret
  exact ⟨rfl, HB3.out⟩

/-- Whether a plan can be turned round. -/
def canB (p : Pl) : Bool := decide (0 < p.o.length) && !hasI (usL p) 0
def canR (p : Pl) : Bool := good p && canB p
theorem noU_iff {s : List (Int × Int)} {o : List Int} {R : Nat} : ∀ k, noU s o R k = true ↔ ∃ v : Nat, v < k ∧ usC s o s.length o.length (v : Int) = 0 := by
  intro k
  induction k with
  | zero => simp [noU]
  | succ k ih =>
    simp only [noU, Bool.or_eq_true, decide_eq_true_eq]
    rw [ih]
    constructor
    · rintro (⟨v, h1, h2⟩ | h)
      · exact ⟨v, by omega, h2⟩
      · exact ⟨k, by omega, h⟩
    · rintro ⟨v, h1, h2⟩
      rcases Nat.lt_or_ge v k with h3 | h3
      · exact .inl ⟨v, h3, h2⟩
      · right
        rw [show k = v by omega]
        exact h2
theorem noU_has (s : List (Int × Int)) (o : List Int) (R : Nat) : hasI (cL s o R s.length o.length) 0 = noU s o R R := by
  rw [Bool.eq_iff_iff, noU_iff]
  unfold hasI cL
  rw [List.contains_iff_mem, List.mem_map]
  constructor
  · rintro ⟨v, h1, h2⟩
    exact ⟨v, List.mem_range.1 h1, by omega⟩
  · rintro ⟨v, h1, h2⟩
    exact ⟨v, List.mem_range.2 h1, by omega⟩
theorem can_eq {p : Pl} {N : Nat} (hN : p.n = N) (n1 : 1 ≤ N) (hok : OkS N p.s) : canB p = !noU p.s p.o (N + p.s.length) (N + p.s.length) := by
  have hn : p.n.toNat = N := by omega
  unfold canB usL
  rw [hn, noU_has]
  by_cases ho : 0 < p.o.length
  · rw [decide_eq_true ho, Bool.true_and]
  · have : noU p.s p.o (N + p.s.length) (N + p.s.length) = true := by
      rw [noU_iff]
      refine ⟨N + p.s.length - 1, by omega, ?_⟩
      have h1 : usS p.s ((N + p.s.length - 1 : Nat) : Int) p.s.length = [] := by
        apply List.eq_nil_iff_forall_not_mem.2
        intro x hx
        obtain ⟨i, hi, _, h3⟩ := mem_usS.1 hx
        obtain ⟨q1, q2, q3⟩ := hok i hi
        have e : p.s.getD i (0, 0) = p.s[i] := by simp [hi]
        rw [e] at h3
        rcases h3 with h3 | h3 <;> omega
      have h2 : p.o = [] := by
        apply List.eq_nil_of_length_eq_zero
        omega
      unfold usC
      rw [h1, h2]
      rfl
    rw [this, decide_eq_false ho]
    rfl
end Go.Proofs.Ytlkieebmfmiafaa
/- CanTurn: what both sides answer. -/
namespace Go.Proofs.Ytlkieebmfmiafaa
open Go.RowKit

set_option maxRecDepth 100000 in
set_option maxHeartbeats 1000000 in
theorem duCan_any (B N : Nat) (A1 A2 : Option Addr) (c1 c2 : Nat) (p : Pl) (w : World) (hpn : p.n = N) (h6 : N ≤ 6) (hs40 : p.s.length ≤ 40) (ho6 : p.o.length ≤ 6) (hB : B ≤ w.heap.size) (hok : OkS N p.s)
    (hout : ∀ x ∈ p.o, 0 ≤ x ∧ x < (N : Int) + p.s.length) (hr : RdP w B A1 A2 p) :
    Calls Try.prog 67 #[.agg #[.int .i64 p.n, .slice A1 p.s.length c1, .slice A2 p.o.length c2]] w fun e w' => e = .returned (.bool (canB p)) ∧ Below w.heap.size w w' := by
  have hn : p.n.toNat = N := by omega
  have H := Lib.hid hr
  by_cases hlt : 0 < p.o.length
  · have hcb : canB p = !hasI (cL p.s p.o (N + p.s.length) p.s.length p.o.length) 0 := by
      unfold canB usL
      rw [hn, decide_eq_true hlt, Bool.true_and]
    have CB := Lib.hid hcb
    have HC := Lib.hid (fun W hW hr => duUses_any B N (N + p.s.length) A1 A2 c1 c2 p W hpn h6 hs40 ho6 rfl hW hok hout hr)
    obtain ⟨L, hL⟩ : ∃ L, cL p.s p.o (N + p.s.length) p.s.length p.o.length = L := ⟨_, rfl⟩
    have hLl : L.length = N + p.s.length := by rw [← hL]; exact cL_length _ _ _ _ _
    rw [hL] at CB HC
    obtain ⟨z, hz⟩ : ∃ z, hasI L 0 = z := ⟨_, rfl⟩
    have HZ := Lib.hid hz
    rw [hz] at CB
    have i0 : (0 : Int) < (p.o.length : Int) := by omega
    have hLL := Lib.hid hLl
    clear hr hn hpn hok hout hcb hL hz hLl
    go_enter Try.func67, Try.ntmps67
    go_wp2_with fail
    go_at_call 59
    generalize hw1 : World.alloc w _ = w1
    obtain ⟨x0, x1, x2, xs, xb⟩ := box3 hw1
    clear hw1
    refine (HC.out w1 (by omega) (H.out.below' xb hB)).mono ?_
    rintro e w2 ⟨A3, c3, rfl, hown, hb2⟩
    have HB2 := Lib.hid (xb.trans (hb2.mono (show w.heap.size ≤ w1.heap.size by omega)))
    have hH := l1Has_any w2.heap.size A3 c3 L 0 w2 (by have := hLL.out; omega) (by have h := Rd.of_own hown; rw [hLL.out]; exact h)
    rw [HZ.out, hLL.out] at hH
    have HH := Lib.hid hH
    clear x0 x1 x2 xs xb hown hb2 hH
    go_wp2_with fail
    go_at_call 110
    refine HH.out.mono ?_
    rintro e w3 ⟨rfl, rfl⟩
    go_wp2
    go_ret
    exact ⟨by rw [CB.out]; rfl, HB2.out⟩
  · have hcb : canB p = false := by
      unfold canB
      rw [decide_eq_false hlt, Bool.false_and]
    have CB := Lib.hid hcb
    have i0 : ¬ (0 : Int) < (p.o.length : Int) := by omega
    clear hcb hr
    go_enter Try.func67, Try.ntmps67
    go_wp2
    go_ret
    exact ⟨by rw [CB.out]; rfl, (Below.refl _ _).alloc (Nat.le_refl _) _⟩

set_option maxRecDepth 100000 in
set_option maxHeartbeats 1000000 in
theorem specCan_any (B : Nat) (A1 A2 : Option Addr) (c1 c2 : Nat) (p : Pl) (w : World) (hB : B ≤ w.heap.size) (hls : p.s.length ≤ 2000000) (hlo : p.o.length ≤ 2000000) (hr : RdP w B A1 A2 p) :
    Calls Try.prog 24 #[.agg #[.int .i64 p.n, .slice A1 p.s.length c1, .slice A2 p.o.length c2]] w fun e w' => e = .returned (.tuple #[.bool (canR p), .bool (good p)]) ∧ Below w.heap.size w w' := by
  have H := Lib.hid hr
  clear hr
  obtain ⟨gd, hgd⟩ : ∃ x, good p = x := ⟨_, rfl⟩
  have HG := Lib.hid hgd
  go_enter Try.func24, Try.ntmps24
  go_wp2_with fail
  go_at_call 58
  generalize hw1 : World.alloc w _ = w1
  obtain ⟨x0, x1, x2, xs, xb⟩ := box3 hw1
  clear hw1
  have hC := plGood_any w.heap.size A1 A2 c1 c2 p w1 (by omega) hls hlo ((H.out.below' xb hB).more hB)
  rw [hgd] at hC
  refine hC.mono ?_
  rintro e w2 ⟨rfl, hb2⟩
  clear hC hgd
  have y0 := (hb2.cell (p := ⟨w.heap.size, 0, none⟩) (by simp only []; omega)).trans x0
  have y1 := (hb2.cell (p := ⟨w.heap.size, 1, none⟩) (by simp only []; omega)).trans x1
  have y2 := (hb2.cell (p := ⟨w.heap.size, 2, none⟩) (by simp only []; omega)).trans x2
  have HB2 := Lib.hid (xb.trans (hb2.mono (show w.heap.size ≤ w1.heap.size by omega)))
  have hs2 : w.heap.size + 1 ≤ w2.heap.size := by have := hb2.size; omega
  clear x0 x1 x2 xs xb hb2
  cases gd with
  | false =>
    have EA := Lib.hid (show canR p = false by unfold canR; rw [HG.out]; rfl)
    go_wp2
    go_ret2
    exact ⟨by rw [EA.out, HG.out]; rfl, HB2.out⟩
  | true =>
    obtain ⟨N, hN, n1, n6, hs40, ho6, hok, hout, _⟩ := good_facts HG.out
    have EA := Lib.hid (show canR p = canB p by unfold canR; rw [HG.out]; rfl)
    have HC := Lib.hid (duCan_any w.heap.size N A1 A2 c1 c2 p w2 hN n6 hs40 ho6 (by omega) hok hout ((H.out.below' HB2.out hB).more hB))
    clear hok hout hN
    go_wp2_with fail
    go_at_call 67
    refine HC.out.mono ?_
    rintro e w3 ⟨rfl, hb3⟩
    have HB3 := Lib.hid (HB2.out.trans (hb3.mono (show w.heap.size ≤ w2.heap.size by omega)))
    clear hb3
    go_wp2
    go_ret2
    exact ⟨by rw [EA.out, HG.out]; rfl, HB3.out⟩

set_option maxRecDepth 100000 in
set_option maxHeartbeats 2000000 in
theorem implCan_any (B : Nat) (A1 A2 : Option Addr) (c1 c2 : Nat) (p : Pl) (w : World) (hB : B ≤ w.heap.size) (hls : p.s.length ≤ 2000000) (hlo : p.o.length ≤ 2000000) (hr : RdP w B A1 A2 p) :
    Calls Try.prog 25 #[.agg #[.int .i64 p.n, .slice A1 p.s.length c1, .slice A2 p.o.length c2]] w fun e w' => e = .returned (.tuple #[.bool (canR p), .bool (good p)]) ∧ Below w.heap.size w w' := by
  have H := Lib.hid hr
  clear hr
  go_enter Try.func25, Try.ntmps25
  go_wp2_with fail
  go_at_call 62
  generalize hw1 : World.alloc w _ = w1
  obtain ⟨x0, x1, x2, xs, xb⟩ := box3 hw1
  clear hw1
  refine (withValues_any B A1 A2 c1 c2 p w1 (by omega) hls hlo (H.out.below' xb hB)).mono ?_
  rintro e w2 ⟨hb2, hpost⟩
  have HB2 := Lib.hid (xb.trans (hb2.mono (show w.heap.size ≤ w1.heap.size by omega)))
  clear x0 x1 x2 hb2
  rw [valsI_eq] at hpost
  by_cases hg : good p = true
  · rw [if_pos hg] at hpost
    simp only at hpost
    obtain ⟨A, c, rfl, _⟩ := hpost
    obtain ⟨N, hN, n1, n6, hs40, ho6, hok, _, _⟩ := good_facts hg
    have hn' : p.n.toNat = N := by omega
    have hcan := can_eq hN n1 hok
    have hel := exps_length N p.s
    obtain ⟨R, hR⟩ : ∃ R, N + p.s.length = R := ⟨_, rfl⟩
    rw [hn', List.length_map, hel, hR, hN]
    rw [hR] at hcan
    have hR46 : R ≤ 46 := by omega
    have CT := fun W hW hr => canTurn_any B N R A1 A2 A c1 c2 c p W hs40 ho6 hR46 hW hr
    rw [← hcan] at CT
    have CT := Lib.hid CT
    have HG := Lib.hid hg
    have EA := Lib.hid (show canR p = canB p by unfold canR; rw [hg]; rfl)
    clear hn' hN hg hel hR xs xb hcan hok
    go_wp2_with fail
    go_at_call 68
    generalize hw3 : World.alloc w2 _ = w3
    obtain ⟨_, xs, xb⟩ := box4v hw3
    clear hw3
    have hs2 := HB2.out.size
    have HB3 := Lib.hid (HB2.out.trans (xb.mono hs2))
    refine (CT.out w3 (by omega) (H.out.below' HB3.out hB)).mono ?_
    rintro e w4 ⟨rfl, hb4⟩
    have HB4 := Lib.hid (HB3.out.trans (hb4.mono (show w.heap.size ≤ w3.heap.size by omega)))
    clear hb4 xs xb
    go_wp2
    go_ret2
    exact ⟨by rw [EA.out, HG.out]; rfl, HB4.out⟩
  · rw [if_neg hg] at hpost
    simp only at hpost
    subst hpost
    have hg' : good p = false := by simpa using hg
    have EA := Lib.hid (show canR p = false by unfold canR; rw [hg']; rfl)
    have HG := Lib.hid hg'
    clear hg hg'
    go_wp2
    go_ret2
    exact ⟨by rw [EA.out, HG.out]; rfl, HB2.out.alloc HB2.out.size _⟩
end Go.Proofs.Ytlkieebmfmiafaa
/- The program's new operands of steps, by any list of names. -/
namespace Go.Proofs.Ytlkieebmfmiafaa
open Go.RowKit

/-- A step with the names of its operands, the smaller one first. -/
def stN (nm : List Int) (st : Int × Int) : Int × Int := stI (nm.getD st.1.toNat 0) (nm.getD st.2.toNat 0)

set_option maxRecDepth 100000 in
set_option maxHeartbeats 2000000 in
theorem renamedStepsN_any (B : Nat) (A A2 : Option Addr) (c c2 : Nat) (s : List (Int × Int)) (nm : List Int) (w : World) (hm : s.length ≤ 1000) (hB : B ≤ w.heap.size) (hin : ∀ st ∈ s, 0 ≤ st.1 ∧ st.1 ≤ st.2 ∧ st.2 < (nm.length : Int)) (hr : Rd w B 2 A s.length (fl s)) (hrn : Rd w B 1 A2 nm.length (nm.map I)) :
    Calls Try.prog 92 #[.slice A s.length c, .slice A2 nm.length c2] w fun e w' => ∃ A' c', e = .returned (.slice A' s.length c') ∧ OwS w' w.heap.size (.slice A' s.length c') (s.map (stN nm)) ∧ Below w.heap.size w w' := by
  have H := Lib.hid hr
  have HN := Lib.hid hrn
  have HIN := Lib.hid hin
  clear hr hrn hin
  obtain ⟨T, hT⟩ : ∃ T, s.map (stN nm) = T := ⟨_, rfl⟩
  have hTl : T.length = s.length := by rw [← hT]; simp
  have hTat : ∀ k (h : k < s.length) (h' : k < T.length), T[k] = stN nm s[k] := fun k h h' => by subst hT; simp
  rw [hT]
  have HTL := Lib.hid hTl
  have HTA := Lib.hid hTat
  clear hT hTl hTat
  obtain ⟨i0, hi, hz0, hz1, hz2⟩ := info_parts info_step
  have hmk : ∀ W : World, (Instr.makeSlice 29 (.int .i64 (s.length : Int)) (.int .i64 (s.length : Int))).run Try.prog W = .ok (.slice (some ⟨W.heap.size, 0, none⟩) s.length s.length) (W.alloc (.cells (madeCells #[.int .i64 0, .int .i64 0] (s.length * 2)) 94)) := fun W => by
    have hr := run_make (P := Try.prog) W 29 94 i0 _ Try.underlying29 hi hz0 .i64 .i64 s.length s.length (by omega) (Int.le_refl _) (by rw [hz2]; omega) (by omega)
    simp only [Int.toNat_natCast] at hr
    rw [hz1] at hr
    exact hr
  have hmade : (w.alloc (.cells (madeCells #[.int .i64 0, .int .i64 0] (s.length * 2)) 94)).ownsRow w.heap.size 94 2 (.slice (some ⟨w.heap.size, 0, none⟩) s.length s.length) s.length (fl (T.take 0) ++ List.replicate ((s.length - 0) * 2) (I 0)) := by
    have h := World.ownsRow_lit (base := w.heap.size) (e := 94) (size := 2) w (madeCells #[Value.int .i64 0, .int .i64 0] (s.length * 2)) s.length (Nat.le_refl _) (by unfold maxLen; omega) (by simp [size_madeCells])
    rw [made2] at h
    simpa [fl] using h
  have HM := Lib.hid hmade
  clear hmade hi hz0 hz1 hz2
  go_enter Try.func92, Try.ntmps92
  go_wp2
  clear hmk
  go_loopw [13] (fun i wr => ∃ k : Nat, k ≤ s.length ∧ i = .int .i64 k ∧ wr.ownsRow w.heap.size 94 2 (.slice (some ⟨w.heap.size, 0, none⟩) s.length s.length) s.length (fl (T.take k) ++ List.replicate ((s.length - k) * 2) (I 0)) ∧ Below w.heap.size w wr) (fun i _ => s.length - (intOf i).toNat)
  case atStart => exact ⟨0, by omega, rfl, HM.out, (Below.refl _ _).alloc (Nat.le_refl _) _⟩
  case round =>
    obtain ⟨k, hk, rfl, hown, hbel⟩ := hrel
    have hsz : w.heap.size ≤ wr.heap.size := hbel.size
    by_cases hlt : k < s.length
    · obtain ⟨i1, i2, i3⟩ := HIN.out _ (List.getElem_mem hlt)
      obtain ⟨b, off, rfl, hb, hc1, hc2⟩ := (H.out.below' hbel (by omega)).stp hlt
      obtain ⟨x, hx⟩ : ∃ x : Nat, (s[k]).1 = x := ⟨(s[k]).1.toNat, by omega⟩
      obtain ⟨y, hy⟩ : ∃ y : Nat, (s[k]).2 = y := ⟨(s[k]).2.toNat, by omega⟩
      rw [hx] at hc1
      rw [hy] at hc2
      have hxl : x < nm.length := by omega
      have hyl : y < nm.length := by omega
      have hE := fun W hBW hrW => renamedStep_any B x y A2 c2 nm W hBW (by exact hxl) (by exact hyl) hrW
      have hta : T[k]'(by have := HTL.out; omega) = (leastI nm[x] nm[y], mostI nm[x] nm[y]) := by
        rw [HTA.out k hlt (by have := HTL.out; omega)]
        unfold stN stI
        rw [hx, hy]
        simp [hxl, hyl]
      have HE := Lib.hid hE
      have HTAK := Lib.hid hta
      have BEL := Lib.hid hbel
      have OWN := Lib.hid hown
      clear hown hbel hE hta hx hy i1 i2 i3
      go_wp2_with fail
      go_at_call 122
      generalize hw4 : World.alloc wr _ = w4
      obtain ⟨e0, e1, es, eb⟩ := box2 hw4
      clear hw4
      have hbw4 : Below w.heap.size w w4 := BEL.out.trans (eb.mono hsz)
      refine (HE.out w4 (by have := hbw4.size; omega) (HN.out.below' hbw4 hB)).mono ?_
      rintro e w5 ⟨rfl, hb5⟩
      have hb45 : Below wr.heap.size wr w5 := eb.trans (hb5.mono eb.size)
      have hown5 := own_below OWN.out hb45
      have hl : (fl (T.take k)).length = k * 2 := by rw [fl_length]; have := HTL.out; simp; omega
      have d0 : w5.cell? ⟨w.heap.size, k * 2, none⟩ = some (I 0) := by
        rw [hown5.cellAt _ (by omega)]
        exact rep_at (by omega) (by omega)
      have d1 : w5.cell? ⟨w.heap.size, k * 2 + 1, none⟩ = some (I 0) := by
        rw [hown5.cellAt _ (by omega)]
        exact rep_at (by omega) (by omega)
      have f0 : w5.frozen? ⟨w.heap.size, k * 2, none⟩ = false := hown5.frozenAt _
      have f1 : w5.frozen? ⟨w.heap.size, k * 2 + 1, none⟩ = false := hown5.frozenAt _
      have HB5 := Lib.hid (BEL.out.trans (hb45.mono hsz))
      have OWN5 := Lib.hid hown5
      clear hb5 hown5 hl hb45 hbw4 eb e0 e1
      go_wp2
      go_roundw
      case rel =>
        refine ⟨k + 1, by omega, by go_num, ?_, ((HB5.out.setCell (Nat.le_refl _) _).setCell (Nat.le_refl _) _)⟩
        have h := ((OWN5.out.stored (k * 2) (I (leastI nm[x] nm[y]))).1.stored (k * 2 + 1) (I (mostI nm[x] nm[y]))).1
        have hf := fill_step T k (by have := HTL.out; omega)
        rw [HTAK.out, HTL.out] at hf
        rw [hf] at h
        exact h
      case measure => simp [intOf]; omega
    · have hk' : k = s.length := by omega
      have BEL := Lib.hid hbel
      have OWN := Lib.hid hown
      subst hk'
      clear hown hbel
      go_wp2
      go_ret
      refine ⟨_, _, rfl, ?_, BEL.out⟩
      have h := OWN.out
      rw [List.take_of_length_le (by have := HTL.out; omega)] at h
      show World.ownsRow _ _ _ _ _ _ _
      rw [HTL.out]
      simpa using h
end Go.Proofs.Ytlkieebmfmiafaa
/- Chains as data: strictly rising lists, the sums of a number, the steps of a chain. -/
namespace Go.Proofs.Ytlkieebmfmiafaa

/-- Strictly rising. -/
def Asc (l : List Int) : Prop := ∀ i j, i < j → j < l.length → l.getD i 0 < l.getD j 0
/-- What a sum of the number k with the greater index j is: index i. -/
def prsI (l : List Int) (k j n : Nat) : List (Int × Int) := ((List.range n).filter fun i : Nat => l.getD i 0 + l.getD j 0 == l.getD k 0).map fun i : Nat => ((i : Int), (j : Int))
def prsJ (l : List Int) (k j : Nat) : List (Int × Int) := prsI l k j (j + 1)
def prs (l : List Int) (k m : Nat) : List (Int × Int) := (List.range m).flatMap (prsJ l k)

theorem prsI_zero (l : List Int) (k j : Nat) : prsI l k j 0 = [] := rfl
theorem prsI_hit {l : List Int} {k j n : Nat} (h : l.getD n 0 + l.getD j 0 = l.getD k 0) : prsI l k j (n + 1) = prsI l k j n ++ [((n : Int), (j : Int))] := by
  unfold prsI
  have e : (l.getD n 0 + l.getD j 0 == l.getD k 0) = true := by simpa only [beq_iff_eq] using h
  rw [List.range_succ, List.filter_append, List.map_append]
  simp only [List.filter_cons, List.filter_nil, e]
  rfl
theorem prsI_miss {l : List Int} {k j n : Nat} (h : ¬ l.getD n 0 + l.getD j 0 = l.getD k 0) : prsI l k j (n + 1) = prsI l k j n := by
  unfold prsI
  have e : (l.getD n 0 + l.getD j 0 == l.getD k 0) = false := by simpa only [beq_eq_false_iff_ne] using h
  rw [List.range_succ, List.filter_append, List.map_append]
  simp only [List.filter_cons, List.filter_nil, e]
  simp
theorem prs_zero (l : List Int) (k : Nat) : prs l k 0 = [] := rfl
theorem prs_succ (l : List Int) (k m : Nat) : prs l k (m + 1) = prs l k m ++ prsJ l k m := by
  unfold prs
  rw [List.range_succ, List.flatMap_append]
  simp
theorem prsI_le (l : List Int) (k j n : Nat) : (prsI l k j n).length ≤ n := by
  unfold prsI
  rw [List.length_map]
  exact Nat.le_trans (List.length_filter_le _ _) (by simp)

theorem take_succ_getD {l : List Int} {k : Nat} (hk : k < l.length) : l.take (k + 1) = l.take k ++ [l.getD k 0] := by
  rw [List.take_succ_eq_append_getElem hk]
  simp [hk]
theorem mem_take_getD {l : List Int} {k : Nat} {x : Int} (hk : k ≤ l.length) : x ∈ l.take k ↔ ∃ i, i < k ∧ l.getD i 0 = x := by
  rw [List.mem_iff_getElem]
  constructor
  · rintro ⟨i, hi, rfl⟩
    have h1 : i < k := by rw [List.length_take] at hi; omega
    refine ⟨i, h1, ?_⟩
    rw [List.getElem_take]
    simp [show i < l.length by omega]
  · rintro ⟨i, hi, rfl⟩
    refine ⟨i, by rw [List.length_take]; omega, ?_⟩
    rw [List.getElem_take]
    simp [show i < l.length by omega]
/-- In a strictly rising list the index of x is the number of lesser numbers. -/
theorem count_at {l : List Int} {x : Int} : ∀ m, m ≤ l.length →
    (∀ i, i < m → l.getD i 0 < x) → (l.take m).countP (fun y => decide (y < x)) = m := by
  intro m
  induction m with
  | zero => intro _ _; rfl
  | succ m ih =>
    intro hm h
    rw [take_succ_getD (by omega), List.countP_append, ih (by omega) (fun i hi => h i (by omega))]
    have e2 : decide (l.getD m 0 < x) = true := by simpa only [decide_eq_true_eq] using h m (by omega)
    simp only [List.countP_cons, List.countP_nil, e2]
    simp
theorem find_eq {l : List Int} (ha : Asc l) (x : Int) : ∀ m, m ≤ l.length →
    ((List.range m).filter fun i => l.getD i 0 == x) = if x ∈ l.take m then [(l.take m).countP (fun y => decide (y < x))] else [] := by
  intro m
  induction m with
  | zero => intro _; simp
  | succ m ih =>
    intro hm
    rw [List.range_succ, List.filter_append, ih (by omega), take_succ_getD (by omega)]
    by_cases hx : l.getD m 0 = x
    · have hnot : ¬ x ∈ l.take m := by
        rw [mem_take_getD (by omega)]
        rintro ⟨i, hi, he⟩
        have := ha i m hi (by omega)
        omega
      have hc : (l.take m).countP (fun y => decide (y < x)) = m := count_at m (by omega) fun i hi => by have := ha i m hi (by omega); omega
      rw [if_neg hnot, List.countP_append, hc]
      rw [if_pos (by rw [hx]; simp)]
      have e1 : (l.getD m 0 == x) = true := by simpa using hx
      have e2 : decide (l.getD m 0 < x) = false := by simp only [decide_eq_false_iff_not]; omega
      simp only [List.filter_cons, List.filter_nil, e1, List.countP_cons, List.countP_nil, e2]
      simp
    · by_cases hin : x ∈ l.take m
      · rw [if_pos hin, if_pos (List.mem_append_left _ hin), List.countP_append]
        obtain ⟨i, hi, he⟩ := (mem_take_getD (by omega)).1 hin
        have := ha i m hi (by omega)
        have h1 : ¬ l.getD m 0 < x := by omega
        have h2 : (l.getD m 0 == x) = false := by simpa using hx
        simp only [List.filter_cons, h2, List.countP_cons, List.countP_nil, h1, List.filter_nil]
        simp
      · have h2 : (l.getD m 0 == x) = false := by simpa using hx
        have hnot : ¬ x ∈ l.take m ++ [l.getD m 0] := by
          intro h
          rcases List.mem_append.1 h with h | h
          · exact hin h
          · exact hx (List.mem_singleton.1 h).symm
        rw [if_neg hin, if_neg hnot]
        simp only [List.filter_cons, h2, List.filter_nil]
        simp
theorem prsJ_eq {l : List Int} (ha : Asc l) (k j : Nat) (hj : j < l.length) :
    prsJ l k j = if l.getD k 0 - l.getD j 0 ∈ l.take (j + 1) then [((((l.take (j + 1)).countP (fun y => decide (y < l.getD k 0 - l.getD j 0)) : Nat) : Int), (j : Int))] else [] := by
  unfold prsJ prsI
  have e : (fun i : Nat => l.getD i 0 + l.getD j 0 == l.getD k 0) = fun i : Nat => l.getD i 0 == l.getD k 0 - l.getD j 0 := by
    funext i
    rw [Bool.eq_iff_iff]
    simp only [beq_iff_eq]
    omega
  rw [e, find_eq ha _ (j + 1) (by omega)]
  split <;> rfl
theorem prsJ_le {l : List Int} (ha : Asc l) (k j : Nat) (hj : j < l.length) : (prsJ l k j).length ≤ 1 := by
  rw [prsJ_eq ha k j hj]
  split <;> simp
theorem prs_le {l : List Int} (ha : Asc l) (k : Nat) : ∀ m, m ≤ l.length → (prs l k m).length ≤ m := by
  intro m
  induction m with
  | zero => intro _; simp [prs_zero]
  | succ m ih =>
    intro h
    rw [prs_succ, List.length_append]
    have := ih (by omega)
    have := prsJ_le ha k m (by omega)
    omega
/-- The parts of a sum: 0 ≤ A ≤ B < m. -/
theorem prs_mem {l : List Int} {k : Nat} : ∀ m, ∀ p ∈ prs l k m, ∃ i j : Nat, p = ((i : Int), (j : Int)) ∧ i ≤ j ∧ j < m ∧ l.getD i 0 + l.getD j 0 = l.getD k 0 := by
  intro m
  induction m with
  | zero => intro p hp; simp [prs_zero] at hp
  | succ m ih =>
    intro p hp
    rw [prs_succ] at hp
    rcases List.mem_append.1 hp with h | h
    · obtain ⟨i, j, e, h1, h2, h3⟩ := ih p h
      exact ⟨i, j, e, h1, by omega, h3⟩
    · unfold prsJ prsI at h
      simp only [List.mem_map, List.mem_filter, List.mem_range, beq_iff_eq] at h
      obtain ⟨i, ⟨hi, he⟩, rfl⟩ := h
      exact ⟨i, m, rfl, by omega, by omega, he⟩

/-- Rising, and within lo..hi, up to index k. -/
def risB (l : List Int) (lo hi : Int) (k : Nat) : Bool := (List.range k).all fun i => inB (l.getD i 0) lo hi && (decide (i = 0) || decide (l.getD (i - 1) 0 < l.getD i 0))
theorem risB_succ (l : List Int) (lo hi : Int) (k : Nat) : risB l lo hi (k + 1) = (risB l lo hi k && (inB (l.getD k 0) lo hi && (decide (k = 0) || decide (l.getD (k - 1) 0 < l.getD k 0)))) := by
  unfold risB
  rw [List.range_succ, List.all_append]
  simp
theorem risB_false {l : List Int} {lo hi : Int} {k : Nat} (n : Nat) (hk : k < n) (h : (inB (l.getD k 0) lo hi && (decide (k = 0) || decide (l.getD (k - 1) 0 < l.getD k 0))) = false) : risB l lo hi n = false := by
  unfold risB
  rw [List.all_eq_false]
  exact ⟨k, List.mem_range.2 hk, by rw [h]; simp⟩
theorem risB_asc {l : List Int} {lo hi : Int} : ∀ n, risB l lo hi n = true → n ≤ l.length → (∀ i, i < n → lo ≤ l.getD i 0 ∧ l.getD i 0 ≤ hi) ∧ ∀ i j, i < j → j < n → l.getD i 0 < l.getD j 0 := by
  intro n
  induction n with
  | zero => intro _ _; exact ⟨fun i h => absurd h (by omega), fun i j _ h => absurd h (by omega)⟩
  | succ n ih =>
    intro h hn
    rw [risB_succ] at h
    simp only [Bool.and_eq_true, Bool.or_eq_true, decide_eq_true_eq, inB] at h
    obtain ⟨h1, ⟨h2, h3⟩, h4⟩ := h
    obtain ⟨i1, i2⟩ := ih h1 (by omega)
    refine ⟨fun i hi => ?_, fun i j hij hj => ?_⟩
    · rcases Nat.lt_or_eq_of_le (Nat.le_of_lt_succ hi) with h | rfl
      · exact i1 i h
      · exact ⟨h2, h3⟩
    · rcases Nat.lt_or_eq_of_le (Nat.le_of_lt_succ hj) with h | rfl
      · exact i2 i j hij h
      · rcases h4 with h4 | h4
        · omega
        · rcases Nat.lt_or_eq_of_le (Nat.le_sub_one_of_lt hij) with h5 | rfl
          · have := i2 i (j - 1) h5 (by omega)
            omega
          · exact h4
/-- All of a chain but the sums. -/
def chB (l : List Int) : Bool := inB (l.length : Nat) 1 41 && (l.getD 0 0 == 1) && risB l 1 1000000 l.length
def sumsB (l : List Int) (k : Nat) : Bool := (List.range k).all fun i => decide (i = 0) || !(prs l i i).isEmpty
def chG (l : List Int) : Bool := chB l && sumsB l l.length
theorem sumsB_succ (l : List Int) (k : Nat) : sumsB l (k + 1) = (sumsB l k && (decide (k = 0) || !(prs l k k).isEmpty)) := by
  unfold sumsB
  rw [List.range_succ, List.all_append]
  simp
theorem sumsB_false {l : List Int} {k : Nat} (n : Nat) (hk : k < n) (h0 : k ≠ 0) (h : prs l k k = []) : sumsB l n = false := by
  unfold sumsB
  rw [List.all_eq_false]
  exact ⟨k, List.mem_range.2 hk, by simp [h, h0]⟩
/-- The last sum of each number from 1 to k - 1. -/
def stepsK (l : List Int) (k : Nat) : List (Int × Int) := (List.range (k - 1)).map fun i => (prs l (i + 1) (i + 1)).getLastD (0, 0)
theorem stepsK_succ (l : List Int) (k : Nat) (hk : 1 ≤ k) : stepsK l (k + 1) = stepsK l k ++ [(prs l k k).getLastD (0, 0)] := by
  unfold stepsK
  rw [show k + 1 - 1 = (k - 1) + 1 by omega, List.range_succ, List.map_append]
  simp [show k - 1 + 1 = k by omega]
theorem stepsK_length (l : List Int) (k : Nat) : (stepsK l k).length = k - 1 := by simp [stepsK]
theorem stepsK_one (l : List Int) : stepsK l 1 = [] := rfl

structure Chn (l : List Int) : Prop where
  pos : 1 ≤ l.length
  most : l.length ≤ 41
  one : l.getD 0 0 = 1
  rng : ∀ i, i < l.length → 1 ≤ l.getD i 0 ∧ l.getD i 0 ≤ 1000000
  asc : Asc l
theorem chn_of {l : List Int} (h : chB l = true) : Chn l := by
  unfold chB at h
  simp only [Bool.and_eq_true, inB, decide_eq_true_eq, beq_iff_eq] at h
  obtain ⟨⟨⟨h1, h2⟩, h3⟩, h4⟩ := h
  obtain ⟨h5, h6⟩ := risB_asc l.length h4 (Nat.le_refl _)
  exact ⟨by omega, by omega, h3, h5, h6⟩
theorem risB_of {l : List Int} {lo hi : Int} : ∀ n, (∀ i, i < n → lo ≤ l.getD i 0 ∧ l.getD i 0 ≤ hi) → (∀ i, i + 1 < n → l.getD i 0 < l.getD (i + 1) 0) → risB l lo hi n = true := by
  intro n
  induction n with
  | zero => intro _ _; rfl
  | succ n ih =>
    intro h1 h2
    rw [risB_succ, ih (fun i hi => h1 i (by omega)) (fun i hi => h2 i (by omega))]
    have := h1 n (by omega)
    simp only [Bool.true_and, Bool.and_eq_true, Bool.or_eq_true, decide_eq_true_eq, inB]
    refine ⟨this, ?_⟩
    rcases Nat.eq_zero_or_pos n with h | h
    · exact .inl h
    · right
      have := h2 (n - 1) (by omega)
      rwa [show n - 1 + 1 = n by omega] at this
theorem chn_chB {l : List Int} (h : Chn l) : chB l = true := by
  have h3 := h.one
  have h1 := h.pos
  have h2 := h.most
  unfold chB
  rw [risB_of l.length h.rng fun i hi => h.asc i (i + 1) (by omega) hi]
  simp only [Bool.and_true, Bool.and_eq_true, inB, decide_eq_true_eq, beq_iff_eq]
  exact ⟨⟨by omega, by omega⟩, h3⟩
theorem chG_chn {l : List Int} (h : chG l = true) : Chn l := chn_of (by unfold chG at h; simp only [Bool.and_eq_true] at h; exact h.1)
theorem chG_sums {l : List Int} (h : chG l = true) : ∀ k, 1 ≤ k → k < l.length → prs l k k ≠ [] := by
  intro k h1 h2 he
  unfold chG at h
  rw [sumsB_false l.length h2 (by omega) he] at h
  simp at h
theorem getLastD_snoc {α : Type} (l : List α) (a d : α) : (l ++ [a]).getLastD d = a := by simp
theorem last_form {l : List (Int × Int)} (h : l ≠ []) : l.getLastD (0, 0) = l[l.length - 1]'(by have := List.length_pos_iff.2 h; omega) := by
  rw [List.getLastD_eq_getLast?, List.getLast?_eq_getElem?]
  have := List.length_pos_iff.2 h
  simp [show l.length - 1 < l.length by omega]
end Go.Proofs.Ytlkieebmfmiafaa
/- The model's small functions of chains: rising lists, the sums of a number. -/
namespace Go.Proofs.Ytlkieebmfmiafaa
open Go.RowKit

/-- The cell of element k. -/
theorem Rd.intD {w : World} {B : Nat} {A : Option Addr} {l : List Int} (h : Rd w B 1 A l.length (l.map I)) {k : Nat} (hk : k < l.length) :
    ∃ b off, A = some ⟨b, off, none⟩ ∧ b < B ∧ w.cell? ⟨b, off + k, none⟩ = some (.int .i64 (l.getD k 0)) := by
  obtain ⟨b, off, e, hb, hc⟩ := h.int hk
  exact ⟨b, off, e, hb, by rw [hc]; simp [hk]⟩
/-- All cells of a list that is not empty. -/
theorem Rd.cells {w : World} {B : Nat} {A : Option Addr} {l : List Int} (h : Rd w B 1 A l.length (l.map I)) (h0 : 0 < l.length) :
    ∃ b off, A = some ⟨b, off, none⟩ ∧ b < B ∧ ∀ k, k < l.length → w.cell? ⟨b, off + k, none⟩ = some (.int .i64 (l.getD k 0)) := by
  obtain ⟨b, off, e, hb, hc⟩ := h.2 (by omega)
  refine ⟨b, off, e, hb, fun k hk => ?_⟩
  rw [hc k (by omega)]
  simp [I, hk]

end Go.Proofs.Ytlkieebmfmiafaa
/- The model's sums of a number of a list. -/
namespace Go.Proofs.Ytlkieebmfmiafaa
open Go.RowKit

theorem OwS.nil (w : World) (B : Nat) : OwS w B (.slice none 0 0) [] := World.ownsRow_nil _ _ _ _
theorem OwS.below {w w' : World} {B : Nat} {v : Value} {s : List (Int × Int)} (h : OwS w B v s) (hb : Below w.heap.size w w') : OwS w' B v s := own_below h hb
theorem OwS.base {w : World} {B B' : Nat} {v : Value} {s : List (Int × Int)} (h : OwS w B v s) (hB : B' ≤ B) : OwS w B' v s := own_base h hB
theorem OwS.rd {w : World} {B : Nat} {A : Option Addr} {c : Nat} {s : List (Int × Int)} (h : OwS w B (.slice A s.length c) s) : Rd w w.heap.size 2 A s.length (fl s) := Rd.of_own h

end Go.Proofs.Ytlkieebmfmiafaa
/- Whether a list is a chain, and its steps, by the model. -/
namespace Go.Proofs.Ytlkieebmfmiafaa
open Go.RowKit

theorem sumsB_one (l : List Int) : sumsB l 1 = true := rfl
theorem isEmpty_ne {α : Type} {l : List α} (h : l ≠ []) : l.isEmpty = false := by cases l with | nil => exact absurd rfl h | cons => rfl

end Go.Proofs.Ytlkieebmfmiafaa
/- The steps of a chain, by the model. -/
namespace Go.Proofs.Ytlkieebmfmiafaa
open Go.RowKit

/-- The last element of an own row of steps. -/
theorem OwS.last {w : World} {B : Nat} {A : Option Addr} {c q : Nat} {P : List (Int × Int)} (h : OwS w B (.slice A (q + 1) c) P) (hq : P.length = q + 1) :
    ∃ g x y, A = some ⟨g, 0, none⟩ ∧ B ≤ g ∧ g < w.heap.size ∧ w.cell? ⟨g, q * 2, none⟩ = some (.int .i64 x) ∧ w.cell? ⟨g, q * 2 + 1, none⟩ = some (.int .i64 y) ∧ P.getLastD (0, 0) = (x, y) := by
  unfold OwS at h
  rw [hq] at h
  obtain ⟨g, rfl, hB, hg, hc, _⟩ := own_at h (by omega)
  have hlt : q < P.length := by omega
  obtain ⟨f1, f2⟩ := fl_at hlt
  refine ⟨g, P[q].1, P[q].2, rfl, hB, hg, by rw [hc _ (by omega), f1], by rw [hc _ (by omega), f2], ?_⟩
  have hne : P ≠ [] := by intro h; rw [h] at hq; simp at hq
  rw [last_form hne]
  simp [hq]

end Go.Proofs.Ytlkieebmfmiafaa
/- The program's search in a rising list, and the sums of a number. -/
namespace Go.Proofs.Ytlkieebmfmiafaa
open Go.RowKit

/-- How many numbers of the list are less than x. -/
def cnt (l : List Int) (x : Int) : Nat := l.countP fun y => decide (y < x)
theorem cnt_at {l : List Int} {x : Int} {i : Nat} (hi : i ≤ l.length) (h1 : ∀ t, t < i → l.getD t 0 < x) (h2 : ∀ t, i ≤ t → t < l.length → x ≤ l.getD t 0) : cnt l x = i := by
  unfold cnt
  rw [← List.take_append_drop i l, List.countP_append, count_at i hi h1]
  have : (l.drop i).countP (fun y => decide (y < x)) = 0 := by
    rw [List.countP_eq_zero]
    intro y hy
    obtain ⟨j, hj, rfl⟩ := List.mem_iff_getElem.1 hy
    rw [List.length_drop] at hj
    have := h2 (i + j) (by omega) (by omega)
    rw [List.getElem_drop]
    simp only [decide_eq_true_eq]
    have e : l.getD (i + j) 0 = l[i + j]'(by omega) := by simp [show i + j < l.length by omega]
    omega
  omega
theorem mem_at {l : List Int} (ha : Asc l) {x : Int} {i : Nat} (hi : i ≤ l.length) (h1 : ∀ t, t < i → l.getD t 0 < x) (h2 : ∀ t, i ≤ t → t < l.length → x ≤ l.getD t 0) : decide (x ∈ l) = decide (i < l.length ∧ l.getD i 0 = x) := by
  rw [decide_eq_decide]
  have e := mem_take_getD (l := l) (k := l.length) (x := x) (Nat.le_refl _)
  rw [List.take_length] at e
  rw [e]
  constructor
  · rintro ⟨j, hj, rfl⟩
    rcases Nat.lt_trichotomy j i with h | rfl | h
    · have := h1 j h; omega
    · exact ⟨hj, rfl⟩
    · have := h2 i (Nat.le_refl _) (by omega)
      have := ha i j h hj
      omega
  · rintro ⟨h, rfl⟩
    exact ⟨i, h, rfl⟩
theorem asc_le {l : List Int} (ha : Asc l) {i j : Nat} (h : i ≤ j) (hj : j < l.length) : l.getD i 0 ≤ l.getD j 0 := by
  rcases Nat.lt_or_eq_of_le h with h | rfl
  · exact Int.le_of_lt (ha i j h hj)
  · exact Int.le_refl _

end Go.Proofs.Ytlkieebmfmiafaa
/- Small lemmas of the laws' walks. -/
namespace Go.Proofs.Ytlkieebmfmiafaa
open Go.RowKit
theorem eqI_refl (l : List Int) : eqI l l = true := by simp [eqI]
theorem bDrewN {B : Nat} {w w' : World} (h : Below B w w') (n : Nat) : Below B w (w'.drewN n) := h.trans ⟨rfl, rfl, rfl, Nat.le_refl _, fun _ _ => rfl⟩
theorem own_rd_marks {w : World} {B c n : Nat} {A : Option Addr} {m : Int} (h : OwI w B (.slice A n c) (marksI m n)) : Rd w w.heap.size 1 A n ((marksI m n).map I) := by
  have h' : w.ownsRow _ _ _ _ _ _ := h
  rw [marksI_length] at h'
  exact Rd.of_own h'
end Go.Proofs.Ytlkieebmfmiafaa
/- Small lemmas of the laws' walks, of plans that are answered. -/
namespace Go.Proofs.Ytlkieebmfmiafaa
open Go.ChangeShapes Go.WideShapes Go.ChangeAt Go.RowKit Go.Deep Go.Joins
theorem own_rd_marksS {w : World} {B c n : Nat} {A : Option Addr} {m : Int} (h : OwS w B (.slice A n c) (marksS m n)) : Rd w w.heap.size 2 A n (fl (marksS m n)) := by
  have h' : w.ownsRow _ _ _ _ _ _ := h
  rw [marksS_length] at h'
  exact Rd.of_own h'
set_option maxRecDepth 100000 in
theorem open_list {H : Type} {enc : TypeId × Value → H} {W : World} {base : Nat} {spare : Nat → Bool} {held : Bool} {v : Value} {d : DataW H} {p : List MemPlace} {b0 : Nat} {r : Reach} (hv : Value.okWide Try.prog W r b0 23 v) (h : DataW.Trod enc Try.prog W base spare held 23 v d p) :
    ∃ (A : Option Addr) (c : Nat) (l : List Int), v = .slice A l.length c ∧ l.length ≤ 9223372036854775807 ∧ Rd W W.heap.size 1 A l.length (l.map I) := by
  obtain ⟨A0, n0, c0, rfl⟩ := okWide_slice Try.underlying23 hv
  obtain ⟨fuel, hf⟩ := h
  obtain ⟨A, c, l, e, h1, h2⟩ := open_ints_rd hf
  exact ⟨A, c, l, e, by unfold maxLen at h1; exact h1, h2⟩
end Go.Proofs.Ytlkieebmfmiafaa
/- Small lemmas of the laws over lists. -/
namespace Go.Proofs.Ytlkieebmfmiafaa
open Go.ChangeShapes Go.WideShapes Go.ChangeAt Go.RowKit Go.Deep Go.Joins
theorem OwI.cap {w : World} {B c n : Nat} {A : Option Addr} {l : List Int} (h : OwI w B (.slice A n c) l) : l.length ≤ c := by
  obtain ⟨A', c', e, hc⟩ := own_form h
  simp only [Value.slice.injEq] at e
  obtain ⟨_, _, rfl⟩ := e
  exact hc
/-- Two rows, the one made behind the other, lie apart. -/
theorem own_apart {w0 w : World} {B B' sz sz' n n' : Nat} {e e' : TypeId} {v v' : Value} {xs xs' : List Value} (h : w0.ownsRow B e sz v n xs) (h' : w.ownsRow B' e' sz' v' n' xs') (hB : w0.heap.size ≤ B') : v'.ownBlock = none ∨ v'.ownBlock ≠ v.ownBlock := by
  cases hv : v'.ownBlock with
  | none => exact .inl rfl
  | some k =>
    right
    intro hh
    have h1 := (own_block h' k hv).1
    have h2 := (own_block h k hh.symm).2
    omega
end Go.Proofs.Ytlkieebmfmiafaa
/- The program's sums of a number. -/
namespace Go.Proofs.Ytlkieebmfmiafaa
open Go.RowKit

theorem Rd.take {w : World} {B : Nat} {A : Option Addr} {l : List Int} (h : Rd w B 1 A l.length (l.map I)) {n : Nat} (hn : n ≤ l.length) : Rd w B 1 A n ((l.take n).map I) := by
  refine ⟨by simp; omega, fun h0 => ?_⟩
  obtain ⟨b, off, e, hb, hc⟩ := h.2 (by omega)
  refine ⟨b, off, e, hb, fun j hj => ?_⟩
  rw [hc j (by omega), List.map_take, List.getElem?_take]
  simp [show j < n by omega]
theorem asc_take {l : List Int} (h : Asc l) (n : Nat) : Asc (l.take n) := by
  intro i j hij hj
  rw [List.length_take] at hj
  have e : ∀ t, t < n → t < l.length → (l.take n).getD t 0 = l.getD t 0 := fun t h1 h2 => by simp [h1, h2]
  rw [e i (by omega) (by omega), e j (by omega) (by omega)]
  exact h i j hij (by omega)

end Go.Proofs.Ytlkieebmfmiafaa
/- Whether a list is a chain, and its steps, by the program. -/
namespace Go.Proofs.Ytlkieebmfmiafaa
open Go.RowKit

/-- The steps that are answered: of no chain none. -/
def chS (l : List Int) : List (Int × Int) := if chG l then stepsK l l.length else []
theorem chS_true {l : List Int} (h : chG l = true) : chS l = stepsK l l.length := by unfold chS; rw [if_pos h]
theorem chS_false {l : List Int} (h : chG l = false) : chS l = [] := by unfold chS; rw [h]; rfl
theorem chS_le (l : List Int) : (chS l).length ≤ 1000 := by
  unfold chS
  split
  · rename_i h
    rw [stepsK_length]
    have := (chG_chn h).most
    omega
  · simp
theorem may_false {l : List Int} {k : Nat} (hk : k + 1 < l.length) (h : l.getD (k + 1) 0 ≤ l.getD k 0) : chB l = false := by
  unfold chB
  rw [risB_false (l := l) (lo := 1) (hi := 1000000) (k := k + 1) l.length hk (by
    rw [show k + 1 - 1 = k from rfl]
    have h1 : decide (l.getD k 0 < l.getD (k + 1) 0) = false := by rw [decide_eq_false_iff_not]; omega
    rw [h1]
    simp), Bool.and_false]
theorem may_end {l : List Int} (h1 : 1 ≤ l.length) (h2 : l.length ≤ 41) (h3 : l.getD 0 0 = 1) (h : ∀ i, i + 1 < l.length → l.getD i 0 < l.getD (i + 1) 0) : chB l = decide (l.getD (l.length - 1) 0 ≤ 1000000) := by
  have hup : ∀ j, j < l.length → ∀ i, i ≤ j → l.getD i 0 ≤ l.getD j 0 := by
    intro j
    induction j with
    | zero => intro _ i hi; rw [show i = 0 by omega]; exact Int.le_refl _
    | succ j ih =>
      intro hj i hi
      rcases Nat.lt_or_eq_of_le hi with hi | rfl
      · have := ih (by omega) i (by omega)
        have := h j hj
        omega
      · exact Int.le_refl _
  by_cases hle : l.getD (l.length - 1) 0 ≤ 1000000
  · rw [decide_eq_true hle]
    unfold chB
    rw [risB_of l.length (fun i hi => ⟨by have := hup i hi 0 (by omega); rw [h3] at this; exact this, by have := hup (l.length - 1) (by omega) i (by omega); omega⟩) h, h3]
    unfold inB
    rw [decide_eq_true (show (1 : Int) ≤ ((l.length : Nat) : Int) by omega), decide_eq_true (show ((l.length : Nat) : Int) ≤ 41 by omega)]
    rfl
  · rw [decide_eq_false hle]
    unfold chB
    rw [risB_false (l := l) (lo := 1) (hi := 1000000) (k := l.length - 1) l.length (by omega) (by
      unfold inB
      rw [decide_eq_false hle]
      simp), Bool.and_false]

end Go.Proofs.Ytlkieebmfmiafaa
/- The library's bit length, at this program. -/
namespace Go.Proofs.Ytlkieebmfmiafaa
open Go.Shelf
end Go.Proofs.Ytlkieebmfmiafaa
/- Bit lengths. -/
namespace Go.Proofs.Ytlkieebmfmiafaa
open Go.RowKit

def bl (n : Int) : Nat := Lib.bitLen n.toNat
theorem bl_more {n : Nat} {b : Nat} (hn : n ≤ 1000000) (h : 2 ^ b ≤ n) : b + 1 ≤ Lib.bitLen n := by
  rw [Lib.bitLen_shift b n h (by omega)]
  have h1 : n / 2 ^ b ≠ 0 := by
    have := Nat.div_pos h (Nat.two_pow_pos b)
    omega
  have h2 : n / 2 ^ b ≤ n := Nat.div_le_self _ _
  rw [Lib.bitLen_half (n / 2 ^ b) h1 (by omega)]
  omega
theorem bl_bd {n : Nat} (hn : n ≤ 1000000) : Lib.bitLen n ≤ 20 := Lib.bitLen_le n 20 (by omega) (by omega)

def isNum (n : Int) : Bool := inB n 1 1000000
def bitN (n : Int) : Int := if isNum n then (bl n : Int) else 0
theorem bitN_true {n : Int} (h : isNum n = true) : bitN n = bl n := by unfold bitN; rw [if_pos h]
theorem bitN_false {n : Int} (h : isNum n = false) : bitN n = 0 := by unfold bitN; rw [h]; rfl
theorem isNum_rng {n : Int} (h : isNum n = true) : 1 ≤ n ∧ n ≤ 1000000 := by
  unfold isNum inB at h
  simpa using h


end Go.Proofs.Ytlkieebmfmiafaa
/- Lists that are answered if they are chains; copies of lists. -/
namespace Go.Proofs.Ytlkieebmfmiafaa
open Go.RowKit

/-- A list that is answered if b. -/
def selL (b : Bool) (l : List Int) : List Int := if b then l else []
theorem selL_true {b : Bool} {l : List Int} (h : b = true) : selL b l = l := by unfold selL; rw [if_pos h]
theorem selL_false {b : Bool} {l : List Int} (h : b = false) : selL b l = [] := by unfold selL; rw [h]; rfl
theorem selL_le {b : Bool} {l : List Int} (h : b = true → chG l = true) : (selL b l).length ≤ 1000 := by
  cases b with
  | false => simp [selL]
  | true => have := (chG_chn (h rfl)).most; rw [selL_true rfl]; omega
theorem and_chG {b : Bool} {l : List Int} (h : (b && chG l) = true) : chG l = true := by simp only [Bool.and_eq_true] at h; exact h.2

theorem eq_nil_I (A : Option Addr) (n c : Nat) (W : World) : (binOp .eql 23 (.slice A n c) (.slice none 0 0)).run Try.prog W = .ok (.bool A.isNone) W := by
  simp only [binOp]
  simp [run_equal_slice_nil W 23 3 A n c Try.underlying23]
theorem Rd.addr {w : World} {B : Nat} {A : Option Addr} {l : List Int} (h : Rd w B 1 A l.length (l.map I)) (h0 : 0 < l.length) : ∃ a, A = some a := by
  obtain ⟨b, off, e, _⟩ := h.2 (by omega)
  exact ⟨_, e⟩
set_option maxRecDepth 100000 in
set_option maxHeartbeats 1000000 in
theorem cloneI_any (B : Nat) (A : Option Addr) (c : Nat) (l : List Int) (w : World) (hm : l.length ≤ 1000000) (h0 : 0 < l.length) (hB : B ≤ w.heap.size) (hr : Rd w B 1 A l.length (l.map I)) :
    Calls Try.prog 116 #[.slice A l.length c] w fun e w' => ∃ A' c', e = .returned (.slice A' l.length c') ∧ OwI w' w.heap.size (.slice A' l.length c') l ∧ Below w.heap.size w w' := by
  obtain ⟨ad, rfl⟩ := hr.addr h0
  have H := Lib.hid hr
  clear hr
  have hnil := fun W => eq_nil_I (some ad) l.length c W
  go_enter Try.func116, Try.ntmps116
  go_wp2_with (first
    | (at_builtin; refine list_step (fun K hK => ?_); refine step_appM Try.underlying23 info_int rfl (by omega) (by omega) rfl (.tmp 5) (.tmp 6) rfl w.heap.size 0 _ [] rfl (own_empty 1 (Nat.le_refl _)) _ l.length c (l.map I) rfl (H.out.alloc hB _) (ints_one l) (by omega) (by simp) ?_; intro A2 c2 w2 hown2 hg2 hbel2; go_simp; refine hK _ _ ?_; clear hK K))
  go_ret
  simp only [Nat.zero_add, List.nil_append] at hown2
  exact ⟨A2, c2, by simp, hown2, ((Below.refl _ _).alloc (Nat.le_refl _) _).trans hbel2⟩
end Go.Proofs.Ytlkieebmfmiafaa
/- UsedSteps and IsTrim, of the model and of the program. -/
namespace Go.Proofs.Ytlkieebmfmiafaa
open Go.RowKit

def usdP (p : Pl) : List Int := if good p then usd p.n.toNat p.s p.o else []
def trimB (p : Pl) : Bool := good p && decide ((usdP p).length = p.s.length)
theorem usdP_len (p : Pl) : (usdP p).length ≤ 40 := by
  unfold usdP
  split
  · rename_i h
    obtain ⟨N, hN, _, _, h40, _⟩ := good_facts h
    have := us_len p.n.toNat p.s p.o p.s.length
    unfold usd
    omega
  · simp

theorem rows_len {p : Pl} {N : Nat} (hN : p.n = N) : ((exps p.n.toNat p.s).map (pad p.n.toNat)).length = N + p.s.length := by
  rw [List.length_map, exps_length]
  omega
theorem box5 {w w1 : World} {a b c d : Value} {t : TypeId} (h : w.alloc (.cells #[a, b, c, d] t) = w1) : w1.heap.size = w.heap.size + 1 ∧ Below w.heap.size w w1 := (box4 h).2.2.2.2

end Go.Proofs.Ytlkieebmfmiafaa
/- A plan with only some steps, in an order: the model's. -/
namespace Go.Proofs.Ytlkieebmfmiafaa
open Go.RowKit

/-- Three stores into a plan's box. -/
theorem own_set3 {w : World} {g B sz n : Nat} {t e : TypeId} {v : Value} {xs : List Value} {cs : Array Value} (h : w.ownsRow B e sz v n xs) (hg : w.heap[g]? = some (.cells cs t (0, 0))) (ht : t ≠ e) (a b c : Value) :
    (((w.setCell ⟨g, 0, none⟩ a).setCell ⟨g, 1, none⟩ b).setCell ⟨g, 2, none⟩ c).ownsRow B e sz v n xs := by
  have h1 := own_set (o := 0) h hg ht a
  have k1 := heap_setCell_same w g 0 _ t a hg
  have h2 := own_set (o := 1) h1 k1 ht b
  have k2 := heap_setCell_same _ g 1 _ t b k1
  exact own_set (o := 2) h2 k2 ht c

end Go.Proofs.Ytlkieebmfmiafaa
/- A plan with only some steps, in an order: the program's. -/
namespace Go.Proofs.Ytlkieebmfmiafaa
open Go.RowKit

def nmOk (N : Nat) (t : List Int) (v : Int) : Bool := decide (v < N) || hasI t (v - N)
def nmI (N : Nat) (t : List Int) (v : Int) : Int := if v < N then v else if hasI t (v - N) then N + plc t (v - N) 0 else -1
def nmT (N m : Nat) (t : List Int) : List Int := (List.range (N + m)).map fun v : Nat => nmI N t (v : Int)
theorem nmT_length (N m : Nat) (t : List Int) : (nmT N m t).length = N + m := by simp [nmT]
theorem nmT_at (N m : Nat) (t : List Int) {v : Nat} (hv : v < N + m) : (nmT N m t)[v]'(by rw [nmT_length]; exact hv) = nmI N t (v : Int) := by simp [nmT]
theorem nm_bad {N : Nat} {t : List Int} {v : Int} (h : nmOk N t v = false) : nmI N t v = -1 := by
  unfold nmOk at h
  rw [Bool.or_eq_false_iff, decide_eq_false_iff_not] at h
  unfold nmI
  rw [if_neg h.1, if_neg (by rw [h.2]; decide)]
theorem nm_good {N : Nat} {l : List Int} {k : Nat} {v : Int} (h : nmOk N (l.take k) v = true) : nmI N (l.take k) v = numI N l v := by
  unfold nmOk at h
  unfold nmI numI
  by_cases hv : v < N
  · rw [if_pos hv, if_pos hv]
  · have h2 : hasI (l.take k) (v - N) = true := by
      rw [Bool.or_eq_true, decide_eq_true_eq] at h
      rcases h with h | h
      · exact absurd h hv
      · exact h
    rw [if_neg hv, if_neg hv, if_pos h2]
    have e := plc_app (l.take k) (l.drop k) (v - N) 0
    rw [List.take_append_drop, h2] at e
    rw [e]
    rfl
theorem nm_nonneg {N : Nat} {l : List Int} {v : Int} (h0 : 0 ≤ v) {k : Nat} (h : nmOk N (l.take k) v = true) : 0 ≤ numI N l v := by
  rw [← nm_good h]
  unfold nmOk at h
  unfold nmI
  by_cases hv : v < N
  · rw [if_pos hv]; exact h0
  · have h2 : hasI (l.take k) (v - N) = true := by
      rw [Bool.or_eq_true, decide_eq_true_eq] at h
      rcases h with h | h
      · exact absurd h hv
      · exact h
    rw [if_neg hv, if_pos h2]
    have := plc_nonneg h2 0
    omega
theorem nm_set {N m n k : Nat} {t : List Int} (ht : hasI t (n : Int) = false) (hk : t.length = k) : (nmT N m t).set (N + n) ((N : Int) + (k : Int)) = nmT N m (t ++ [(n : Int)]) := by
  apply List.ext_getElem?
  intro j
  by_cases hj : j < N + m
  · rw [show (nmT N m (t ++ [(n : Int)]))[j]? = some (nmI N (t ++ [(n : Int)]) (j : Int)) by simp [nmT, hj]]
    by_cases hjn : N + n = j
    · subst hjn
      rw [List.getElem?_set_self (by rw [nmT_length]; exact hj)]
      unfold nmI
      have e1 : ((N + n : Nat) : Int) - (N : Int) = (n : Int) := by omega
      have e2 : hasI (t ++ [(n : Int)]) (n : Int) = true := by simp [hasI]
      rw [if_neg (by omega), e1, if_pos e2, plc_app, ht]
      simp [plc, hk]
    · rw [List.getElem?_set_ne hjn, show (nmT N m t)[j]? = some (nmI N t (j : Int)) by simp [nmT, hj]]
      unfold nmI
      by_cases hjN : (j : Int) < (N : Int)
      · rw [if_pos hjN, if_pos hjN]
      · have e2 : hasI (t ++ [(n : Int)]) ((j : Int) - (N : Int)) = hasI t ((j : Int) - (N : Int)) := by
          unfold hasI
          rw [Bool.eq_iff_iff]
          simp
          omega
        rw [if_neg hjN, if_neg hjN, e2]
        by_cases hh : hasI t ((j : Int) - (N : Int)) = true
        · rw [if_pos hh, if_pos hh, plc_app, if_pos hh]
        · rw [if_neg hh, if_neg hh]
  · rw [List.getElem?_eq_none (by rw [List.length_set, nmT_length]; omega), List.getElem?_eq_none (by rw [nmT_length]; omega)]
theorem nm_start (N m : Nat) : ups N ++ List.replicate m (-1 : Int) = nmT N m [] := by
  apply List.ext_getElem?
  intro j
  by_cases hj : j < N + m
  · rw [show (nmT N m [])[j]? = some (nmI N [] (j : Int)) by simp [nmT, hj]]
    by_cases hjN : j < N
    · rw [List.getElem?_append_left (by rw [ups_length]; exact hjN)]
      have : (j : Int) < (N : Int) := by omega
      simp [ups, hjN, nmI, this]
    · rw [List.getElem?_append_right (by rw [ups_length]; omega), ups_length, List.getElem?_replicate, if_pos (by omega)]
      have : ¬ (j : Int) < (N : Int) := by omega
      simp [nmI, this, hasI]
  · rw [List.getElem?_eq_none (by simp [ups_length]; omega), List.getElem?_eq_none (by rw [nmT_length]; omega)]

def stepAt (p : Pl) (l : List Int) (i : Nat) : Int × Int := p.s.getD (l.getD i 0).toNat (0, 0)
def kOk (N : Nat) (p : Pl) (l : List Int) (k : Nat) : Bool := (List.range k).all fun i => nmOk N (l.take i) (stepAt p l i).1 && nmOk N (l.take i) (stepAt p l i).2
theorem stepAt_eq {p : Pl} {l : List Int} {k n : Nat} (hk : k < l.length) (hn : l[k] = (n : Int)) (hns : n < p.s.length) : stepAt p l k = p.s[n] := by
  unfold stepAt
  have : l.getD k 0 = (n : Int) := by simp [hk, hn]
  rw [this]
  simp [hns]
theorem kOk_succ (N : Nat) (p : Pl) (l : List Int) (k : Nat) : kOk N p l (k + 1) = (kOk N p l k && (nmOk N (l.take k) (stepAt p l k).1 && nmOk N (l.take k) (stepAt p l k).2)) := by
  unfold kOk
  rw [List.range_succ, List.all_append]
  simp
theorem kOk_false {N : Nat} {p : Pl} {l : List Int} {k : Nat} (hk : k < l.length) (h : (nmOk N (l.take k) (stepAt p l k).1 && nmOk N (l.take k) (stepAt p l k).2) = false) : kOk N p l l.length = false := by
  unfold kOk
  rw [List.all_eq_false]
  exact ⟨k, by simpa using hk, by rw [h]; decide⟩
def KeepPost (p : Pl) (N : Nat) (l : List Int) (w : World) (e : Ending) (w' : World) : Prop :=
  Below w.heap.size w w' ∧ (if kOk N p l l.length = true then ∃ B1 B2 d1 d2, e = .returned (.tuple #[.agg #[.int .i64 (N : Int), .slice B1 l.length d1, .slice B2 p.o.length d2], .bool true]) ∧ OwS w' w.heap.size (.slice B1 l.length d1) (keepS p N l l.length) ∧ OwI w' w.heap.size (.slice B2 p.o.length d2) (keepO p N l p.o.length)
    else e = .returned (.tuple #[.agg #[.int .i64 0, .slice none 0 0, .slice none 0 0], .bool false]))
theorem keepPost_none {p : Pl} {N : Nat} {l : List Int} {w w' : World} (h : kOk N p l l.length = false) (hb : Below w.heap.size w w') : KeepPost p N l w (.returned (.tuple #[.agg #[.int .i64 0, .slice none 0 0, .slice none 0 0], .bool false])) w' :=
  ⟨hb, by rw [if_neg (by rw [h]; decide)]⟩
theorem has_take_nodup {l : List Int} (hnd : l.Nodup) {k : Nat} (hk : k < l.length) : hasI (l.take k) l[k] = false := by
  unfold hasI
  simp only [List.contains_eq_mem, decide_eq_false_iff_not]
  intro hmem
  obtain ⟨i, hi, he⟩ := List.mem_iff_getElem.1 hmem
  rw [List.getElem_take] at he
  have hik : i < k := by simp at hi; omega
  have := (List.nodup_iff_pairwise_ne.1 hnd)
  rw [List.pairwise_iff_getElem] at this
  exact this i k (by omega) hk hik he

/-- A store into a row of another type. -/
theorem own_store_other {w : World} {B B' sz sz' n n' g o c' : Nat} {e e' : TypeId} {v : Value} {xs xs' : List Value} (h : w.ownsRow B e sz v n xs) (h' : w.ownsRow B' e' sz' (.slice (some ⟨g, 0, none⟩) n' c') n' xs') (hne : e' ≠ e) (u : Value) :
    (w.setCell ⟨g, o, none⟩ u).ownsRow B e sz v n xs := by
  rcases h'.2 with ⟨hv, _⟩ | ⟨g', cap, cur, hv, _, hg', _⟩
  · injection hv with hv _ _
    cases hv
  · injection hv with hv _ _
    injection hv with hv
    injection hv with hv _ _
    subst hv
    exact own_set h hg' hne u

end Go.Proofs.Ytlkieebmfmiafaa
/- Trimmed plans: used steps are kept with all that they need. -/
namespace Go.Proofs.Ytlkieebmfmiafaa
open Go.RowKit

theorem need_mono {N : Nat} {s : List (Int × Int)} {o : List Int} {x : Int} {j : Nat} : ∀ d, hasI (needI N s o j) x = true → hasI (needI N s o (j + d)) x = true := by
  intro d
  induction d with
  | zero => intro h; exact h
  | succ d ih =>
    intro h
    have ih := ih h
    show hasI (needI N s o (j + d + 1)) x = true
    simp only [needI]
    split
    · rw [hasI_two, ih]; rfl
    · exact ih
theorem usd_mem {N : Nat} {s : List (Int × Int)} {o : List Int} {x : Int} : x ∈ usd N s o ↔ ∃ i : Nat, i < s.length ∧ finI N s o i = true ∧ x = i := by
  unfold usd usT
  simp only [List.mem_map, List.mem_filter, List.mem_range'_1]
  constructor
  · rintro ⟨i, ⟨h1, h2⟩, rfl⟩
    exact ⟨i, by omega, h2, rfl⟩
  · rintro ⟨i, h1, h2, rfl⟩
    exact ⟨i, ⟨by omega, h2⟩, rfl⟩
theorem usd_sorted (N : Nat) (s : List (Int × Int)) (o : List Int) : (usd N s o).Pairwise (· < ·) := by
  unfold usd usT
  rw [List.pairwise_map]
  refine List.Pairwise.filter _ ?_
  refine List.Pairwise.imp ?_ (List.pairwise_lt_range' (s := s.length - s.length) (n := s.length) (step := 1))
  intro a b h
  omega
theorem usd_nodup (N : Nat) (s : List (Int × Int)) (o : List Int) : (usd N s o).Nodup := by
  rw [List.nodup_iff_pairwise_ne]
  exact List.Pairwise.imp (fun h => by omega) (usd_sorted N s o)
theorem take_of_lt {l : List Int} (hs : l.Pairwise (· < ·)) {k : Nat} (hk : k < l.length) {x : Int} (hx : x ∈ l) (hlt : x < l[k]) : hasI (l.take k) x = true := by
  unfold hasI
  simp only [List.contains_eq_mem, decide_eq_true_eq]
  obtain ⟨i, hi, rfl⟩ := List.mem_iff_getElem.1 hx
  rw [List.pairwise_iff_getElem] at hs
  have hik : i < k := by
    rcases Nat.lt_or_ge i k with h | h
    · exact h
    · exfalso
      rcases Nat.lt_or_eq_of_le h with h | h
      · have := hs k i hk hi h; omega
      · subst h; omega
  exact List.mem_iff_getElem.2 ⟨i, by simp; omega, by rw [List.getElem_take]⟩
theorem fin_of_has {N : Nat} {s : List (Int × Int)} {o : List Int} {x : Int} {j : Nat} (hj : j ≤ s.length) (h : hasI (needI N s o j) x = true) {i : Nat} (hx : x = (N : Int) + (i : Int)) : finI N s o i = true := by
  unfold finI
  rw [← hx]
  have := need_mono (s.length - j) h
  rwa [show j + (s.length - j) = s.length by omega] at this
theorem usd_cover {N : Nat} {s : List (Int × Int)} {o : List Int} (hout : ∀ x ∈ o, 0 ≤ x ∧ x < (N : Int) + s.length) : ∀ x ∈ o, nmOk N (usd N s o) x = true := by
  intro x hx
  obtain ⟨h1, h2⟩ := hout x hx
  unfold nmOk
  rw [Bool.or_eq_true, decide_eq_true_eq]
  by_cases hv : x < N
  · exact .inl hv
  · right
    have h0 : hasI (needI N s o 0) x = true := by
      unfold hasI
      simp [needI, hx]
    have hf := fin_of_has (by omega) h0 (i := (x - N).toNat) (by omega)
    unfold hasI
    simp only [List.contains_eq_mem, decide_eq_true_eq]
    exact usd_mem.2 ⟨(x - N).toNat, by omega, hf, by omega⟩
theorem usd_ok {N : Nat} {p : Pl} (hs : OkS N p.s) : kOk N p (usd N p.s p.o) (usd N p.s p.o).length = true := by
  unfold kOk
  rw [List.all_eq_true]
  intro k hk
  have hk : k < (usd N p.s p.o).length := by simpa using hk
  obtain ⟨n, hn, hf, he⟩ := usd_mem.1 (List.getElem_mem hk)
  obtain ⟨s1, s2, s3⟩ := hs n hn
  rw [stepAt_eq hk he hn]
  have hj : p.s.length - 1 - n < p.s.length := by omega
  have hat := fin_at (o := p.o) hs hj (i := n) (by omega)
  rw [hf] at hat
  have hneed := need_hit (o := p.o) hn (j := p.s.length - 1 - n) (by omega) hat.symm
  have one : ∀ v : Int, 0 ≤ v → v < N + n → hasI (needI N p.s p.o (p.s.length - 1 - n + 1)) v = true → nmOk N ((usd N p.s p.o).take k) v = true := by
    intro v h0 hv hh
    unfold nmOk
    rw [Bool.or_eq_true, decide_eq_true_eq]
    by_cases hvN : v < N
    · exact .inl hvN
    · right
      have hf2 := fin_of_has (by omega) hh (i := (v - N).toNat) (by omega)
      have hm : (v - N) ∈ usd N p.s p.o := usd_mem.2 ⟨(v - N).toNat, by omega, hf2, by omega⟩
      exact take_of_lt (usd_sorted _ _ _) hk hm (by rw [he]; omega)
  rw [Bool.and_eq_true]
  exact ⟨one _ s1 (by omega) (by rw [hneed, hasI_two]; simp), one _ (by omega) (by omega) (by rw [hneed, hasI_two]; simp)⟩
end Go.Proofs.Ytlkieebmfmiafaa
/- TrimPlan, of the model and of the program. -/
namespace Go.Proofs.Ytlkieebmfmiafaa
open Go.RowKit

def zeroP : Pl := ⟨0, [], []⟩
def trimR (p : Pl) : Pl := if good p then ⟨p.n, keepS p p.n.toNat (usd p.n.toNat p.s p.o) (usd p.n.toNat p.s p.o).length, keepO p p.n.toNat (usd p.n.toNat p.s p.o) p.o.length⟩ else zeroP
theorem trimR_good {p : Pl} {N : Nat} (h : good p = true) (hN : p.n = N) : trimR p = ⟨p.n, keepS p N (usd N p.s p.o) (usd N p.s p.o).length, keepO p N (usd N p.s p.o) p.o.length⟩ := by
  have : p.n.toNat = N := by omega
  unfold trimR
  rw [if_pos h, this]
theorem trimR_bad {p : Pl} (h : good p = false) : trimR p = zeroP := by
  unfold trimR
  rw [if_neg (by rw [h]; decide)]
theorem trimR_len (p : Pl) : (trimR p).s.length ≤ 1000 ∧ (trimR p).o.length ≤ 1000 := by
  cases h : good p with
  | false => rw [trimR_bad h]; simp [zeroP]
  | true =>
    obtain ⟨N, hN, _, _, h40, ho6, _⟩ := good_facts h
    rw [trimR_good h hN]
    have := us_len N p.s p.o p.s.length
    simp only
    rw [keepS_len p N _ (Nat.le_refl _), keepO_len p N _ (Nat.le_refl _)]
    unfold usd
    omega
theorem usd_in {N : Nat} {s : List (Int × Int)} {o : List Int} : ∀ x ∈ usd N s o, 0 ≤ x ∧ x < (s.length : Int) := by
  intro x hx
  obtain ⟨i, h1, _, rfl⟩ := usd_mem.1 hx
  omega
/-- Boxes of a plan that came in and of a plan that is answered. -/
theorem boxes2 {w w2 : World} {a b c : Value} {t : TypeId} (h : (w.alloc (.cells #[a, b, c] t)).alloc (.cells #[.int .i64 0, .slice none 0 0, .slice none 0 0] 31) = w2) :
    w2.heap[w.heap.size]? = some (.cells #[a, b, c] t (0, 0)) ∧ w2.heap[w.heap.size + 1]? = some (.cells #[.int .i64 0, .slice none 0 0, .slice none 0 0] 31 (0, 0)) ∧ w2.heap.size = w.heap.size + 2 ∧ Below w.heap.size w w2 := by
  subst h
  refine ⟨?_, ?_, by simp, ((Below.refl _ _).alloc (Nat.le_refl _) _).alloc (by simp) _⟩
  · rw [Below.heap_alloc _ _ _ (by simp)]; exact heap_alloc_new w _
  · have := heap_alloc_new (w.alloc (.cells #[a, b, c] t)) (.cells #[.int .i64 0, .slice none 0 0, .slice none 0 0] 31)
    simpa using this
theorem cells3 {w : World} {g : Nat} {a b c : Value} {t : TypeId} (h : w.heap[g]? = some (.cells #[a, b, c] t (0, 0))) :
    w.cell? ⟨g, 0, none⟩ = some a ∧ w.cell? ⟨g, 1, none⟩ = some b ∧ w.cell? ⟨g, 2, none⟩ = some c ∧ w.frozen? ⟨g, 0, none⟩ = false ∧ w.frozen? ⟨g, 1, none⟩ = false ∧ w.frozen? ⟨g, 2, none⟩ = false := by
  refine ⟨?_, ?_, ?_, frozen_of_row w _ 0 _ _ h, frozen_of_row w _ 1 _ _ h, frozen_of_row w _ 2 _ _ h⟩
  · rw [cell_of_row w _ 0 _ _ (0, 0) h]; rfl
  · rw [cell_of_row w _ 1 _ _ (0, 0) h]; rfl
  · rw [cell_of_row w _ 2 _ _ (0, 0) h]; rfl
theorem OwP.zero (w : World) (B : Nat) : OwP w B none none 0 0 zeroP := ⟨World.ownsRow_nil _ _ _ _, World.ownsRow_nil _ _ _ _⟩

theorem owP_of3 {w : World} {g B n m : Nat} {B1 B2 : Option Addr} {d1 d2 : Nat} {s : List (Int × Int)} {o : List Int} {z : Int} {t : TypeId} {cs : Array Value} (h : OwS w B (.slice B1 n d1) s) (h' : OwI w B (.slice B2 m d2) o) (hg : w.heap[g]? = some (.cells cs t (0, 0)))
    (ht : t ≠ 94) (ht' : t ≠ 3) (hn : s.length = n) (hm : o.length = m) (a b c : Value) :
    OwP (((w.setCell ⟨g, 0, none⟩ a).setCell ⟨g, 1, none⟩ b).setCell ⟨g, 2, none⟩ c) B B1 B2 d1 d2 ⟨z, s, o⟩ := by
  subst hn
  subst hm
  exact ⟨own_set3 h hg ht a b c, own_set3 h' hg ht' a b c⟩

end Go.Proofs.Ytlkieebmfmiafaa
/- The steps of two plans behind each other: the program's. -/
namespace Go.Proofs.Ytlkieebmfmiafaa
open Go.RowKit

/-- The names of new values. -/
def tailN (b : Int) (m : Nat) : List Int := (List.range m).map fun i : Nat => b + i
theorem tailN_length (b : Int) (m : Nat) : (tailN b m).length = m := by simp [tailN]
theorem tailN_succ (b : Int) (m : Nat) : tailN b (m + 1) = tailN b m ++ [b + m] := by simp [tailN, List.range_succ]
theorem boxesPQ {w w2 : World} {a b c a' b' c' : Value} {t t' : TypeId} (h : (w.alloc (.cells #[a, b, c] t)).alloc (.cells #[a', b', c'] t') = w2) :
    w2.heap[w.heap.size]? = some (.cells #[a, b, c] t (0, 0)) ∧ w2.heap[w.heap.size + 1]? = some (.cells #[a', b', c'] t' (0, 0)) ∧ w2.heap.size = w.heap.size + 2 ∧ Below w.heap.size w w2 := by
  subst h
  refine ⟨?_, ?_, by simp, ((Below.refl _ _).alloc (Nat.le_refl _) _).alloc (by simp) _⟩
  · rw [Below.heap_alloc _ _ _ (by simp)]; exact heap_alloc_new w _
  · have := heap_alloc_new (w.alloc (.cells #[a, b, c] t)) (.cells #[a', b', c'] t')
    simpa using this

set_option maxRecDepth 100000 in
set_option maxHeartbeats 2000000 in
theorem stepsBehind_any (B N : Nat) (A1 A2 D1 D2 A : Option Addr) (c1 c2 d1 d2 c : Nat) (p q : Pl) (L : List Int) (w : World) (hN : p.n = N) (hN6 : N ≤ 1000) (hsp : p.s.length ≤ 1000) (hsq : q.s.length ≤ 1000) (hL0 : 0 < L.length) (hL : L.length ≤ 1000) (hB : B ≤ w.heap.size)
    (hin : ∀ st ∈ q.s, 0 ≤ st.1 ∧ st.1 ≤ st.2 ∧ st.2 < (L.length : Int) + q.s.length) (hr : Rd w B 2 A1 p.s.length (fl p.s)) (hrq : Rd w B 2 D1 q.s.length (fl q.s)) (hrl : Rd w B 1 A L.length (L.map I)) :
    Calls Try.prog 98 #[.agg #[.int .i64 p.n, .slice A1 p.s.length c1, .slice A2 p.o.length c2], .agg #[.int .i64 q.n, .slice D1 q.s.length d1, .slice D2 q.o.length d2], .slice A L.length c] w fun e w' =>
      ∃ E1 E2 e1 e2, e = .returned (.tuple #[.slice E1 (p.s.length + q.s.length) e1, .slice E2 (L.length + q.s.length) e2]) ∧ OwS w' w.heap.size (.slice E1 (p.s.length + q.s.length) e1) (p.s ++ q.s.map (stN (L ++ tailN (p.n + p.s.length) q.s.length))) ∧ OwI w' w.heap.size (.slice E2 (L.length + q.s.length) e2) (L ++ tailN (p.n + p.s.length) q.s.length) ∧ Below w.heap.size w w' := by
  have H := Lib.hid hr
  have HQ := Lib.hid hrq
  have HL := Lib.hid hrl
  have HIN := Lib.hid hin
  clear hr hrq hrl hin
  rw [hN]
  clear hN
  obtain ⟨nm, hnm⟩ : ∃ nm, L ++ tailN ((N : Int) + p.s.length) q.s.length = nm := ⟨_, rfl⟩
  have hnl : nm.length = L.length + q.s.length := by rw [← hnm]; simp [tailN]
  obtain ⟨T, hT⟩ : ∃ T, q.s.map (stN nm) = T := ⟨_, rfl⟩
  have hTl : T.length = q.s.length := by rw [← hT]; simp
  rw [hnm, hT]
  have HNM := Lib.hid hnm
  have HNL := Lib.hid hnl
  have HT := Lib.hid hT
  have HTL := Lib.hid hTl
  clear hnm hnl hT hTl
  go_enter Try.func98, Try.ntmps98
  go_wp2_with fail
  go_at_call 116
  generalize hw1 : World.alloc (World.alloc w _) _ = w1
  obtain ⟨q0, q1, xs, xb⟩ := boxesPQ hw1
  clear hw1
  refine (cloneI_any w.heap.size A c L w1 (by omega) hL0 (by omega) ((HL.out.below' xb hB).more hB)).mono ?_
  rintro e w2 ⟨A3, c3, rfl, hown3, hb3⟩
  have r0 := (hb3.block w.heap.size (by omega)).trans q0
  have r1 := (hb3.block (w.heap.size + 1) (by omega)).trans q1
  obtain ⟨y0, y1, _, _, _, _⟩ := cells3 r0
  obtain ⟨_, z1, _, _, _, _⟩ := cells3 r1
  have HB2 := Lib.hid (xb.trans (hb3.mono (show w.heap.size ≤ w1.heap.size by omega)))
  have hs2 : w1.heap.size ≤ w2.heap.size := hb3.size
  have OWN3 := Lib.hid hown3
  have XS := Lib.hid xs
  have hx1 : w.heap.size + 1 < w1.heap.size := by omega
  clear q0 q1 xb hb3 r0 r1 hown3 xs
  go_wp2
  go_loopw [8, 15] (fun v i wr => ∃ (k : Nat) (A4 : Option Addr) (c4 : Nat), k ≤ q.s.length ∧ i = .int .i64 k ∧ v = .slice A4 (L.length + k) c4 ∧ wr.ownsRow w1.heap.size 3 1 (.slice A4 (L.length + k) c4) (L.length + k) ((L ++ tailN ((N : Int) + p.s.length) k).map I) ∧ Below w1.heap.size w2 wr) (fun _ i _ => q.s.length - (intOf i).toNat)
  case atStart =>
    refine ⟨0, A3, c3, by omega, rfl, rfl, ?_, Below.refl _ _⟩
    have h : w2.ownsRow w1.heap.size 3 1 (.slice A3 L.length c3) L.length (L.map I) := OWN3.out
    simpa [tailN] using h
  case round =>
    obtain ⟨k, A4, c4, hk, rfl, rfl, hown, hbel⟩ := hrel
    have hsz : w2.heap.size ≤ wr.heap.size := hbel.size
    have v0 := (hbel.cell (p := ⟨w.heap.size, 0, none⟩) (by simp only []; omega)).trans y0
    have v1 := (hbel.cell (p := ⟨w.heap.size, 1, none⟩) (by simp only []; omega)).trans y1
    have u1 := (hbel.cell (p := ⟨w.heap.size + 1, 1, none⟩) (by simp only []; omega)).trans z1
    by_cases hlt : k < q.s.length
    · have OWN := Lib.hid hown
      have BEL := Lib.hid hbel
      clear hown hbel
      go_wp2_with (at_builtin; refine list_step (fun K hK => ?_); refine step_app1 Try.underlying23 info_int rfl (by omega) rfl (.tmp 18) (.tmp 27) rfl w1.heap.size (L.length + k) _ ((L ++ tailN ((N : Int) + p.s.length) k).map I) rfl (World.ownsRow.alloc OWN.out _) wr.heap.size 1 (I ((N : Int) + p.s.length + k)) rfl (by rw [World.cell?_alloc_at _ _ _ _ rfl]; rfl) rfl (by omega) (by simp; omega) ?_; intro A5 c5 w6 hown6 hg6 hbel6; go_simp; refine hK _ _ ?_; clear hK K)
      go_roundw
      case rel =>
        refine ⟨k + 1, A5, c5, by omega, by go_num, rfl, ?_, (BEL.out.alloc (by omega) _).trans hbel6⟩
        rw [tailN_succ, ← List.append_assoc, List.map_append]
        exact hown6
      case measure => simp [intOf]; omega
    · have hk' : k = q.s.length := by omega
      subst hk'
      rw [HNM.out] at hown
      have hbw : Below w.heap.size w wr := HB2.out.trans (hbel.mono (show w.heap.size ≤ w1.heap.size by omega))
      have hwr : w.heap.size ≤ wr.heap.size := hbw.size
      have RN : Rd wr wr.heap.size 1 A4 (L.length + q.s.length) (nm.map I) := Rd.of_own hown
      have RQ : Rd wr wr.heap.size 2 D1 q.s.length (fl q.s) := (HQ.out.below' hbw hB).more (by omega)
      have RP := Lib.hid (show Rd wr wr.heap.size 2 A1 p.s.length (fl p.s) from (H.out.below' hbw hB).more (by omega))
      have hCs := renamedStepsN_any wr.heap.size D1 A4 d1 c4 q.s nm wr.drew (by omega) (by simp) (fun st hst => by
        obtain ⟨i1, i2, i3⟩ := HIN.out st hst
        have := HNL.out
        exact ⟨i1, i2, by omega⟩) RQ.drew (by rw [HNL.out]; exact RN.drew)
      rw [HNL.out, HT.out] at hCs
      have HCS := Lib.hid hCs
      have OWN := Lib.hid hown
      have HBW := Lib.hid hbw
      have FS := Lib.hid (show ∀ x, Below wr.heap.size wr x → x.cell? ⟨w.heap.size, 1, none⟩ = some (.slice A1 p.s.length c1) ∧ x.cell? ⟨w.heap.size + 1, 1, none⟩ = some (.slice D1 q.s.length d1) from fun x hx =>
        ⟨(hx.cell (p := ⟨w.heap.size, 1, none⟩) (by simp only []; omega)).trans v1, (hx.cell (p := ⟨w.heap.size + 1, 1, none⟩) (by simp only []; omega)).trans u1⟩)
      have S0 := Lib.hid (show Below wr.heap.size wr wr.drew from (Below.refl _ _).drew)
      clear hown hbel hbw RN RQ hCs v0 v1 u1 y0 y1 z1
      go_wp2
      refine wp_region_T (fun x : World => Below wr.heap.size wr x) [0, 1, 2, 3, 4, 8, 9, 10] [1, 3] (.lp 0 (.lp 2 (.lp 4 (.lp 8 (.ls 1 (.ls 3 (.hv 5 (.hv 6 (.hv 7 (.lp 9 (.lp 10 (.done)))))))))))) (by kernel_rfl) (by kernel_rfl) ?_
      (repeat (refine T_lp rfl (fun K hK => ?_); go_simp; refine hK _ ?_; clear hK K))
      refine T_ls1 (v := .slice A1 p.s.length c1) rfl rfl S0.out (fun x hx => (by obtain ⟨h0, h1⟩ := FS.out x hx; go_simp)) (fun K hK => ?_)
      (go_simp; refine hK _ ?_; clear hK K)
      refine T_ls1 (v := .slice D1 q.s.length d1) rfl rfl S0.out (fun x hx => (by obtain ⟨h0, h1⟩ := FS.out x hx; go_simp)) (fun K hK => ?_)
      (go_simp; refine hK _ ?_; clear hK K)
      refine T_hvS rfl (fun K hK => ?_)
      go_simp
      go_at_call 92
      refine HCS.out.mono ?_
      rintro e w5 ⟨A6, c6, rfl, hown6, hb6⟩
      have hb5 : Below wr.heap.size wr w5 := S0.out.trans (hb6.mono (by simp))
      have hT6 : OwS w5 wr.drew.heap.size (.slice A6 T.length c6) T := by rw [HTL.out]; exact hown6
      have RT := Lib.hid (show Rd w5 w5.heap.size 2 A6 T.length (fl T) from Rd.of_own hT6)
      have HB5 := Lib.hid hb5
      have hs5 : wr.heap.size ≤ w5.heap.size := hb5.size
      clear hown6 hb6 hT6
      go_simp
      refine hK _ _ hb5 ?_
      clear hK K hb5
      refine T_hvS rfl (fun K hK => ?_)
      go_simp
      refine hK _ _ (HB5.out.alloc hs5 _) ?_
      clear hK K
      refine T_hv rfl (by kernel_rfl) (fun K hK => ?_)
      go_simp
      go_at_call 126
      generalize hw7 : World.alloc w5 _ = w7
      obtain ⟨e0, e1, es, eb⟩ := box2 hw7
      clear hw7
      have hb7 : Below wr.heap.size wr w7 := HB5.out.trans (eb.mono hs5)
      have hCc := concatS_any w5.heap.size w5.heap.size A1 A6 c1 c6 2 p.s T w7 (by omega) (by rw [HTL.out]; omega) (by omega) e0 (by rw [HTL.out]; exact e1) (by omega) ((RP.out.below' hb7 (Nat.le_refl _)).more hs5) (RT.out.below' eb (Nat.le_refl _))
      rw [HTL.out] at hCc
      refine hCc.mono ?_
      rintro e w8 ⟨A9, c9, rfl, hown9, hb9⟩
      have hb8 : Below wr.heap.size wr w8 := hb7.trans (hb9.mono (by omega))
      have HO9 := Lib.hid (own_base hown9 (show w.heap.size ≤ w7.heap.size by omega))
      have HO8 := Lib.hid (own_base (own_below OWN.out hb8) (show w.heap.size ≤ w1.heap.size by omega))
      have HB8 := Lib.hid (HBW.out.trans (hb8.mono hwr))
      clear e0 e1 es eb hb7 hCc hown9 hb9 hb8
      (go_simp; refine hK _ _ ?_; clear hK K)
      (repeat (refine T_lp rfl (fun K hK => ?_); go_simp; refine hK _ ?_; clear hK K))
      refine T_done ?_
      go_wp2
      refine bodyPost_ret (v := .tuple #[.slice A9 (p.s.length + q.s.length) c9, .slice A4 (L.length + q.s.length) c4]) (by simp [results, Try.results98, go_sem]) rfl ⟨A9, A4, c9, c4, rfl, HO9.out, ?_, HB8.out⟩
      show World.ownsRow _ _ _ _ _ _ _
      rw [HNL.out]
      exact HO8.out
end Go.Proofs.Ytlkieebmfmiafaa
/- The steps of two plans behind each other: the model's. -/
namespace Go.Proofs.Ytlkieebmfmiafaa
open Go.RowKit

theorem tailN_get (L : List Int) (b : Int) {k m x : Nat} (hx : x < L.length + k) (hk : k ≤ m) : (L ++ tailN b m).getD x 0 = (L ++ tailN b k).getD x 0 := by
  rw [List.getD_eq_getElem?_getD, List.getD_eq_getElem?_getD, List.getElem?_append, List.getElem?_append]
  split
  · rfl
  · simp [tailN, show x - L.length < m by omega, show x - L.length < k by omega]

set_option maxRecDepth 100000 in
set_option maxHeartbeats 2000000 in
theorem plThen_any (B N : Nat) (A1 D1 D2 A : Option Addr) (c1 d1 d2 c : Nat) (S : List (Int × Int)) (q : Pl) (L : List Int) (w : World) (hN6 : N ≤ 1000) (hs : S.length ≤ 1000) (hsq : q.s.length ≤ 1000) (hoq : q.o.length ≤ 1000) (hL : L.length ≤ 1000) (hB : B ≤ w.heap.size)
    (hok : OkS L.length q.s) (hout : ∀ x ∈ q.o, 0 ≤ x ∧ x < (L.length : Int) + q.s.length) (hr : Rd w B 2 A1 S.length (fl S)) (hrq : RdP w B D1 D2 q) (hrl : Rd w B 1 A L.length (L.map I)) :
    Calls Try.prog 84 #[.slice A1 S.length c1, .int .i64 (N : Int), .agg #[.int .i64 q.n, .slice D1 q.s.length d1, .slice D2 q.o.length d2], .slice A L.length c] w fun e w' =>
      ∃ E1 E2 e1 e2, e = .returned (.tuple #[.slice E1 (S.length + q.s.length) e1, .slice E2 q.o.length e2]) ∧ OwS w' w.heap.size (.slice E1 (S.length + q.s.length) e1) (S ++ q.s.map (stN (L ++ tailN ((N : Int) + S.length) q.s.length))) ∧ OwI w' w.heap.size (.slice E2 q.o.length e2) (q.o.map fun x => (L ++ tailN ((N : Int) + S.length) q.s.length).getD x.toNat 0) ∧ Below w.heap.size w w' := by
  have H := Lib.hid hr
  have HQ := Lib.hid hrq
  have HL := Lib.hid hrl
  have HOK := Lib.hid hok
  have HOUT := Lib.hid hout
  clear hr hrq hrl hok hout
  obtain ⟨b, hb⟩ : ∃ b : Int, (N : Int) + S.length = b := ⟨_, rfl⟩
  obtain ⟨nm, hnm⟩ : ∃ nm, L ++ tailN b q.s.length = nm := ⟨_, rfl⟩
  have hget : ∀ k x, x < L.length + k → k ≤ q.s.length → nm.getD x 0 = (L ++ tailN b k).getD x 0 := fun k x h1 h2 => by rw [← hnm]; exact tailN_get L b h1 h2
  rw [hb, hnm]
  have HBV := Lib.hid hb
  have HNM := Lib.hid hnm
  have HGET := Lib.hid hget
  clear hb hnm hget
  go_enter Try.func84, Try.ntmps84
  go_wp2_with fail
  go_at_call 88
  generalize hw1 : World.alloc w _ = w1
  obtain ⟨e0, e1, e2, es, eb⟩ := box3 hw1
  clear hw1
  refine (l1Own_any w.heap.size A c L w1 (by omega) (by omega) ((HL.out.below' eb hB).more hB)).mono ?_
  rintro e w2 ⟨A3, c3, rfl, hown3, hb3⟩
  have y1 := (hb3.cell (p := ⟨w.heap.size, 1, none⟩) (by simp only []; omega)).trans e1
  have y2 := (hb3.cell (p := ⟨w.heap.size, 2, none⟩) (by simp only []; omega)).trans e2
  have hs2 : w1.heap.size ≤ w2.heap.size := hb3.size
  have hx1 : w.heap.size < w1.heap.size := by omega
  have HB2 := Lib.hid (eb.trans (hb3.mono (show w.heap.size ≤ w1.heap.size by omega)))
  have OWN3 := Lib.hid hown3
  clear e0 e1 e2 es eb hb3 hown3
  go_wp2_with (first
    | (at_builtin; refine list_step (fun K hK => ?_); refine step_appM Try.underlying29 info_step rfl (by omega) (by omega) rfl (.tmp 19) (.tmp 20) rfl w2.heap.size 0 _ [] rfl (own_empty 2 (Nat.le_refl _)) _ S.length c1 (fl S) rfl ((H.out.below' HB2.out hB).alloc (by omega) _) (fl_one S) (by omega) (by simp) ?_; intro A4 c4 w4 hown4 hg4 hbel4; have hb24 : Below w2.heap.size w2 w4 := ((Below.refl _ _).alloc (Nat.le_refl _) _).trans hbel4; have z1 := (hb24.cell (p := ⟨w.heap.size, 1, none⟩) (by simp only []; omega)).trans y1; have z2 := (hb24.cell (p := ⟨w.heap.size, 2, none⟩) (by simp only []; omega)).trans y2; have HB24 := Lib.hid hb24; have OWN4 := Lib.hid hown4; clear hg4 hbel4 hown4 hb24 y1 y2; go_simp; refine hK _ _ ?_; clear hK K))
  have hs4 : w2.heap.size ≤ w4.heap.size := HB24.out.size
  have HB4 := Lib.hid (HB2.out.trans (HB24.out.mono (show w.heap.size ≤ w2.heap.size by omega)))
  go_loopw [10, 11, 25] (fun nv tv i wr => ∃ (k : Nat) (A5 A6 : Option Addr) (c5 c6 : Nat), k ≤ q.s.length ∧ i = .int .i64 k ∧ nv = .slice A5 (L.length + k) c5 ∧ tv = .slice A6 (S.length + k) c6 ∧ wr.ownsRow w1.heap.size 3 1 (.slice A5 (L.length + k) c5) (L.length + k) ((L ++ tailN b k).map I) ∧ wr.ownsRow w1.heap.size 94 2 (.slice A6 (S.length + k) c6) (S.length + k) (fl (S ++ (q.s.take k).map (stN nm))) ∧ Below w1.heap.size w4 wr) (fun _ _ i _ => q.s.length - (intOf i).toNat)
  case atStart =>
    refine ⟨0, A3, A4, c3, c4, by omega, rfl, rfl, by simp, ?_, ?_, Below.refl _ _⟩
    · have h : w4.ownsRow w1.heap.size 3 1 (.slice A3 L.length c3) L.length (L.map I) := own_below OWN3.out HB24.out
      simpa [tailN] using h
    · have h := own_base OWN4.out hs2
      simpa using h
  case round =>
    obtain ⟨k, A5, A6, c5, c6, hk, rfl, rfl, rfl, hn, ht, hbel⟩ := hrel
    have hsz : w4.heap.size ≤ wr.heap.size := hbel.size
    have v1 := (hbel.cell (p := ⟨w.heap.size, 1, none⟩) (by simp only []; omega)).trans z1
    have v2 := (hbel.cell (p := ⟨w.heap.size, 2, none⟩) (by simp only []; omega)).trans z2
    have hbw : Below w.heap.size w wr := HB4.out.trans (hbel.mono (by omega))
    have hMl : (L ++ tailN b k).length = L.length + k := by simp [tailN]
    by_cases hlt : k < q.s.length
    · obtain ⟨i1, i2, i3⟩ := HOK.out k hlt
      obtain ⟨sb, off, rfl, hsb, hc1, hc2⟩ := (HQ.out.below' hbw hB).1.stp hlt
      obtain ⟨x, hx⟩ : ∃ x : Nat, (q.s[k]).1 = x := ⟨(q.s[k]).1.toNat, by omega⟩
      obtain ⟨y, hy⟩ : ∃ y : Nat, (q.s[k]).2 = y := ⟨(q.s[k]).2.toNat, by omega⟩
      rw [hx] at hc1
      rw [hy] at hc2
      have hxl : x < L.length + k := by omega
      have hyl : y < L.length + k := by omega
      have ixl : (x : Int) < (L.length : Int) + (k : Int) := by omega
      have iyl : (y : Int) < (L.length : Int) + (k : Int) := by omega
      have RN : Rd wr wr.heap.size 1 A5 (L ++ tailN b k).length ((L ++ tailN b k).map I) := by rw [hMl]; exact Rd.of_own hn
      obtain ⟨fb, fo, rfl, hfb, hcx⟩ := RN.int (show x < (L ++ tailN b k).length by rw [hMl]; exact hxl)
      obtain ⟨fb', fo', hf', _, hcy⟩ := RN.int (show y < (L ++ tailN b k).length by rw [hMl]; exact hyl)
      obtain ⟨rfl, rfl⟩ : fb = fb' ∧ fo = fo' := by
        injection hf' with hf'
        injection hf' with e1 e2
        exact ⟨e1, e2⟩
      have hst : (q.s.take (k + 1)).map (stN nm) = (q.s.take k).map (stN nm) ++ [(leastI ((L ++ tailN b k)[x]'(by rw [hMl]; exact hxl)) ((L ++ tailN b k)[y]'(by rw [hMl]; exact hyl)), mostI ((L ++ tailN b k)[x]'(by rw [hMl]; exact hxl)) ((L ++ tailN b k)[y]'(by rw [hMl]; exact hyl)))] := by
        rw [List.take_succ_eq_append_getElem hlt, List.map_append]
        congr 1
        have ex := HGET.out k x hxl hk
        have ey := HGET.out k y hyl hk
        have gx : ∀ z (h : z < (L ++ tailN b k).length), (L ++ tailN b k).getD z 0 = (L ++ tailN b k)[z] := fun z h => by rw [List.getD_eq_getElem?_getD, List.getElem?_eq_getElem h]; rfl
        rw [gx x (by rw [hMl]; exact hxl)] at ex
        rw [gx y (by rw [hMl]; exact hyl)] at ey
        rw [List.map_cons, List.map_nil]
        unfold stN stI
        rw [hx, hy, Int.toNat_natCast, Int.toNat_natCast, ex, ey]
      obtain ⟨f1, hf1⟩ : ∃ f, (L ++ tailN b k)[x]'(by rw [hMl]; exact hxl) = f := ⟨_, rfl⟩
      obtain ⟨f2, hf2⟩ : ∃ f, (L ++ tailN b k)[y]'(by rw [hMl]; exact hyl) = f := ⟨_, rfl⟩
      rw [hf1] at hcx hst
      rw [hf2] at hcy hst
      have HST := Lib.hid hst
      have HN := Lib.hid hn
      have HT := Lib.hid ht
      have HBL := Lib.hid hbel
      clear hst hn ht hbel hx hy i1 i2 i3 RN hf' hf1 hf2 hbw hMl
      go_wp2
      generalize hw5 : World.alloc wr _ = w5
      obtain ⟨e0, e1, es, eb⟩ := box2 hw5
      clear hw5
      have hfb5 : fb < w5.heap.size := by omega
      have FS := Lib.hid (show ∀ x', Below w5.heap.size w5 x' → x'.cell? ⟨wr.heap.size, 0, none⟩ = some (.int .i64 (x : Int)) ∧ x'.cell? ⟨wr.heap.size, 1, none⟩ = some (.int .i64 (y : Int)) ∧ x'.cell? ⟨fb, fo + x, none⟩ = some (.int .i64 f1) ∧ x'.cell? ⟨fb, fo + y, none⟩ = some (.int .i64 f2) from fun x' hx' =>
        ⟨(hx'.cell (p := ⟨wr.heap.size, 0, none⟩) (by simp only []; omega)).trans e0, (hx'.cell (p := ⟨wr.heap.size, 1, none⟩) (by simp only []; omega)).trans e1,
          (hx'.cell (p := ⟨fb, fo + x, none⟩) hfb5).trans ((eb.cell (p := ⟨fb, fo + x, none⟩) (by simp only []; omega)).trans hcx), (hx'.cell (p := ⟨fb, fo + y, none⟩) hfb5).trans ((eb.cell (p := ⟨fb, fo + y, none⟩) (by simp only []; omega)).trans hcy)⟩)
      have S0 := Lib.hid (show Below w5.heap.size w5 w5.drew from (Below.refl _ _).drew)
      have EB := Lib.hid eb
      clear v1 v2 e0 e1 eb hcx hcy hc1 hc2
      refine wp_region_T (fun x : World => Below w5.heap.size w5 x) [0, 1, 2, 3, 4, 5, 6, 7, 8, 9, 10, 14] [3, 5, 8, 10] (.lp 0 (.lp 1 (.lp 2 (.lp 6 (.lp 7 (.ls 3 (.lp 4 (.ls 5 (.ls 8 (.lp 9 (.ls 10 (.hv 11 (.hv 12 (.hv 13 (.lp 14 (.done)))))))))))))))) (by kernel_rfl) (by kernel_rfl) ?_
      (repeat (refine T_lp rfl (fun K hK => ?_); go_simp; refine hK _ ?_; clear hK K))
      refine T_ls1 (v := .int .i64 (x : Int)) rfl rfl S0.out (fun x hx => (by obtain ⟨h0, h1, h2, h3⟩ := FS.out x hx; go_simp)) (fun K hK => ?_)
      (go_simp; refine hK _ ?_; clear hK K)
      (repeat (refine T_lp rfl (fun K hK => ?_); go_simp; refine hK _ ?_; clear hK K))
      refine T_ls1 (v := .int .i64 f1) rfl rfl S0.out (fun x hx => (by obtain ⟨h0, h1, h2, h3⟩ := FS.out x hx; go_simp)) (fun K hK => ?_)
      (go_simp; refine hK _ ?_; clear hK K)
      (repeat (refine T_lp rfl (fun K hK => ?_); go_simp; refine hK _ ?_; clear hK K))
      refine T_ls1 (v := .int .i64 (y : Int)) rfl rfl S0.out (fun x hx => (by obtain ⟨h0, h1, h2, h3⟩ := FS.out x hx; go_simp)) (fun K hK => ?_)
      (go_simp; refine hK _ ?_; clear hK K)
      (repeat (refine T_lp rfl (fun K hK => ?_); go_simp; refine hK _ ?_; clear hK K))
      refine T_ls1 (v := .int .i64 f2) rfl rfl S0.out (fun x hx => (by obtain ⟨h0, h1, h2, h3⟩ := FS.out x hx; go_simp)) (fun K hK => ?_)
      (go_simp; refine hK _ ?_; clear hK K)
      refine T_hvS rfl (fun K hK => ?_)
      go_simp
      go_at_call 89
      refine (plStep_any _ _ _).mono ?_
      rintro e w7 ⟨rfl, hb7⟩
      have hb57 : Below w5.heap.size w5 w7 := (Below.refl _ _).drew.trans (hb7.mono (by simp))
      have hbr7 : Below wr.heap.size wr w7 := EB.out.trans (hb57.mono EB.out.size)
      have HN7 := Lib.hid (own_below HN.out hbr7)
      have HT7 := Lib.hid (own_below HT.out hbr7)
      have HB7 := Lib.hid (HBL.out.trans (hbr7.mono (by omega)))
      have hs7 : w1.heap.size ≤ w7.heap.size := by have := hbr7.size; omega
      have HB57 := Lib.hid hb57
      clear hb7 hbr7
      go_simp
      refine hK _ _ hb57 ?_
      clear hK K hb57
      refine T_hvS rfl (fun K hK => ?_)
      go_simp
      refine hK _ _ (HB57.out.alloc HB57.out.size _) ?_
      clear hK K
      refine T_hv rfl (by kernel_rfl) (fun K hK => ?_)
      refine step_app2 Try.underlying29 info_step rfl (by omega) rfl (.tmp 29) (.tmp 41) rfl w1.heap.size (S.length + k) _ (fl (S ++ (q.s.take k).map (stN nm))) rfl (World.ownsRow.alloc HT7.out _) w7.heap.size 1 (I (leastI f1 f2)) (I (mostI f1 f2)) rfl (by simp) (by simp) rfl rfl (by omega) (by simp; omega) ?_
      intro A8 c8 w8 hown8 hg8 hbel8
      have hn8 := World.ownsRow.kept (World.ownsRow.alloc HN7.out _) hg8 (own_ne HN7.out HT7.out (by decide))
      have HN8 := Lib.hid hn8
      have HT8 := Lib.hid hown8
      have HB8 := Lib.hid ((HB7.out.alloc hs7 _).trans hbel8)
      have hs8 : w1.heap.size ≤ w8.heap.size := by have := HB8.out.size; omega
      clear hn8 hown8 hg8 hbel8
      (go_simp; refine hK _ _ ?_; clear hK K)
      (repeat (refine T_lp rfl (fun K hK => ?_); go_simp; refine hK _ ?_; clear hK K))
      refine T_done ?_
      go_wp2_with (at_builtin; refine list_step (fun K hK => ?_); refine step_app1 Try.underlying23 info_int rfl (by omega) rfl (.tmp 43) (.tmp 49) rfl w1.heap.size (L.length + k) _ ((L ++ tailN b k).map I) rfl (World.ownsRow.alloc HN8.out _) w8.heap.size 1 (I ((N : Int) + ((S.length : Int) + (k : Int) + 1) - 1)) rfl (by rw [World.cell?_alloc_at _ _ _ _ rfl]; first | rfl | go_num) rfl (by omega) (by simp; omega) ?_; intro A9 c9 w9 hown9 hg9 hbel9; have ht9 := World.ownsRow.kept (World.ownsRow.alloc HT8.out _) hg9 (own_ne HT8.out HN8.out (by decide)); have HT9 := Lib.hid ht9; have HN9 := Lib.hid hown9; have HB9 := Lib.hid ((HB8.out.alloc hs8 _).trans hbel9); clear ht9 hown9 hg9 hbel9; go_simp; refine hK _ _ ?_; clear hK K)
      go_roundw
      case rel =>
        refine ⟨k + 1, A9, A8, c9, c8, by omega, by go_num, rfl, rfl, ?_, ?_, HB9.out⟩
        · have h := HN9.out
          rw [tailN_succ, ← List.append_assoc, List.map_append, ← HBV.out]
          rw [show (N : Int) + ((S.length : Int) + (k : Int) + 1) - 1 = (N : Int) + (S.length : Int) + (k : Int) by omega] at h
          rw [← HBV.out] at h
          exact h
        · have h := HT9.out
          rw [HST.out, ← List.append_assoc, fl_snoc]
          exact h
      case measure => simp [intOf]; omega
    · have hk' : k = q.s.length := by omega
      subst hk'
      rw [List.take_of_length_le (Nat.le_refl _)] at ht
      rw [HNM.out] at hn
      rw [HNM.out] at hMl
      have HT := Lib.hid ht
      have HN := Lib.hid hn
      have HML := Lib.hid hMl
      have HBL := Lib.hid hbel
      have HBW := Lib.hid hbw
      have hsw : w.heap.size ≤ wr.heap.size := hbw.size
      clear ht hn hMl hbel hbw v1 z1 z2
      go_wp2
      go_loopw [14, 55] (fun ov i wq => ∃ (j : Nat) (A7 : Option Addr) (c7 : Nat), j ≤ q.o.length ∧ i = .int .i64 j ∧ ov = .slice A7 j c7 ∧ wq.ownsRow wr.heap.size 3 1 (.slice A7 j c7) j (((q.o.take j).map fun x => nm.getD x.toNat 0).map I) ∧ Below wr.heap.size wr wq) (fun _ i _ => q.o.length - (intOf i).toNat)
      case atStart => exact ⟨0, none, 0, by omega, rfl, rfl, World.ownsRow_nil _ _ _ _, Below.refl _ _⟩
      case round =>
        obtain ⟨j, A7, c7, hj, rfl, rfl, ho, hb2⟩ := hrel
        have hsz2 := hb2.size
        have HB2' := Lib.hid hb2
        by_cases hlt2 : j < q.o.length
        · obtain ⟨o1, o2⟩ := HOUT.out _ (List.getElem_mem hlt2)
          obtain ⟨ob, oo, rfl, hob, hoc⟩ := (HQ.out.below' (HBW.out.trans (hb2.mono hsw)) hB).2.int hlt2
          obtain ⟨v, hv⟩ : ∃ v : Nat, q.o[j] = v := ⟨(q.o[j]).toNat, by omega⟩
          have hvl : v < nm.length := by rw [HML.out]; omega
          have ivl : (v : Int) < (L.length : Int) + (q.s.length : Int) := by omega
          have hvl' : v < L.length + q.s.length := by omega
          have RN := Rd.of_own HN.out
          rw [← HML.out] at RN
          obtain ⟨fb, fo, rfl, hfb, hcx⟩ := (RN.below' hb2 (Nat.le_refl _)).int hvl
          have hst : ((q.o.take (j + 1)).map fun x => nm.getD x.toNat 0) = ((q.o.take j).map fun x => nm.getD x.toNat 0) ++ [nm[v]] := by
            rw [List.take_succ_eq_append_getElem hlt2, List.map_append, List.map_cons, List.map_nil, hv, Int.toNat_natCast, List.getD_eq_getElem?_getD, List.getElem?_eq_getElem hvl]; rfl
          rw [hv] at hoc
          obtain ⟨f1, hf1⟩ : ∃ f, nm[v] = f := ⟨_, rfl⟩
          rw [hf1] at hcx hst
          have HST := Lib.hid hst
          have HO := Lib.hid ho
          clear hst ho hb2 hv o1 o2 hf1 RN hvl
          go_wp2_with (at_builtin; refine list_step (fun K hK => ?_); refine step_app1 Try.underlying23 info_int rfl (by omega) rfl (.tmp 59) (.tmp 64) rfl _ j _ ((((q.o.take j).map fun x => nm.getD x.toNat 0).map I)) rfl (World.ownsRow.alloc HO.out _) wr.heap.size 1 (I f1) rfl (by rw [World.cell?_alloc_at _ _ _ _ rfl]; rfl) rfl (by omega) (by simp; omega) ?_; intro A9 c9 w9 hown9 hg9 hbel9; go_simp; refine hK _ _ ?_; clear hK K)
          go_roundw
          case rel =>
            refine ⟨j + 1, A9, c9, by omega, by go_num, rfl, ?_, (HB2'.out.alloc hsz2 _).trans hbel9⟩
            rw [HST.out, List.map_append]
            exact hown9
          case measure => simp [intOf]; omega
        · have hj' : j = q.o.length := by omega
          subst hj'
          rw [List.take_of_length_le (Nat.le_refl _)] at ho
          have HO := Lib.hid ho
          clear ho hb2
          go_wp2
          refine bodyPost_ret (v := .tuple #[.slice A6 (S.length + q.s.length) c6, .slice A7 q.o.length c7]) (by simp [results, Try.results84, go_sem]) rfl ⟨A6, A7, c6, c7, rfl, ?_, ?_, HBW.out.trans (HB2'.out.mono hsw)⟩
          · show World.ownsRow _ _ _ _ _ _ _
            rw [List.length_append, List.length_map]
            exact own_base (own_below HT.out HB2'.out) (by omega)
          · show World.ownsRow _ _ _ _ _ _ _
            rw [List.length_map]
            exact own_base HO.out hsw
end Go.Proofs.Ytlkieebmfmiafaa
/- PickOutputs: what both sides answer; the model's. -/
namespace Go.Proofs.Ytlkieebmfmiafaa
open Go.RowKit

theorem boxes2b {w w2 : World} {a b c : Value} {t : TypeId} (h : (w.alloc (.cells #[a, b, c] t)).alloc (.cells #[.int .i64 0, .slice none 0 0, .slice none 0 0] 31) = w2) :
    w2.heap[w.heap.size]? = some (.cells #[a, b, c] t (0, 0)) ∧ w2.heap[w.heap.size + 1]? = some (.cells #[.int .i64 0, .slice none 0 0, .slice none 0 0] 31 (0, 0)) ∧ w2.heap.size = w.heap.size + 2 ∧ Below w.heap.size w w2 := by
  subst h
  refine ⟨?_, ?_, by simp, ((Below.refl _ _).alloc (Nat.le_refl _) _).alloc (by simp) _⟩
  · rw [Below.heap_alloc _ _ _ (by simp)]; exact heap_alloc_new w _
  · have := heap_alloc_new (w.alloc (.cells #[a, b, c] t)) (.cells #[.int .i64 0, .slice none 0 0, .slice none 0 0] 31)
    simpa using this
theorem cells3b {w : World} {g : Nat} {a b c : Value} {t : TypeId} (h : w.heap[g]? = some (.cells #[a, b, c] t (0, 0))) :
    w.cell? ⟨g, 0, none⟩ = some a ∧ w.cell? ⟨g, 1, none⟩ = some b ∧ w.cell? ⟨g, 2, none⟩ = some c ∧ w.frozen? ⟨g, 0, none⟩ = false ∧ w.frozen? ⟨g, 1, none⟩ = false ∧ w.frozen? ⟨g, 2, none⟩ = false := by
  refine ⟨?_, ?_, ?_, frozen_of_row w _ 0 _ _ h, frozen_of_row w _ 1 _ _ h, frozen_of_row w _ 2 _ _ h⟩
  · rw [cell_of_row w _ 0 _ _ (0, 0) h]; rfl
  · rw [cell_of_row w _ 1 _ _ (0, 0) h]; rfl
  · rw [cell_of_row w _ 2 _ _ (0, 0) h]; rfl
def selV (b : Bool) (x y : Value) : Value := if b then x else y
def zeroQ : Pl := ⟨0, [], []⟩
theorem OwP.zeroQ (w : World) (B : Nat) : OwP w B none none 0 0 zeroQ := ⟨World.ownsRow_nil _ _ _ _, World.ownsRow_nil _ _ _ _⟩

def pickO (p : Pl) (l : List Int) (k : Nat) : List Int := (l.take k).map fun i => p.o.getD i.toNat 0
def pickB (p : Pl) (l : List Int) : Bool := good p && (allB l 0 ((p.o.length : Int) - 1) && decide (l.length ≤ 6))
def pickR (p : Pl) (l : List Int) : Pl := if pickB p l then ⟨p.n, p.s, pickO p l l.length⟩ else zeroQ
theorem pickO_len (p : Pl) (l : List Int) {k : Nat} (hk : k ≤ l.length) : (pickO p l k).length = k := by simp [pickO]; omega
theorem pickO_succ {p : Pl} {l : List Int} {k v : Nat} (hk : k < l.length) (hv : l[k] = (v : Int)) (hvl : v < p.o.length) : pickO p l (k + 1) = pickO p l k ++ [p.o[v]] := by
  unfold pickO
  rw [List.take_succ_eq_append_getElem hk, List.map_append, hv]
  simp [hvl]
theorem pickR_len (p : Pl) (l : List Int) : (pickR p l).s.length ≤ 1000 ∧ (pickR p l).o.length ≤ 1000 := by
  unfold pickR
  split
  · rename_i h
    unfold pickB at h
    simp only [Bool.and_eq_true, decide_eq_true_eq] at h
    obtain ⟨_, _, _, _, h40, _⟩ := good_facts h.1
    simp only
    rw [pickO_len p l (Nat.le_refl _)]
    omega
  · simp [zeroQ]
theorem all_in {l : List Int} {m : Int} (h : allB l 0 m = true) : ∀ x ∈ l, 0 ≤ x ∧ x ≤ m := by
  intro x hx
  unfold allB at h
  rw [List.all_eq_true] at h
  have := h x hx
  simpa [inB] using this
/-- The plan with picked outputs is a plan, unless there are too many of them. -/
theorem good_pick {p : Pl} {l : List Int} (hg : good p = true) (ha : allB l 0 ((p.o.length : Int) - 1) = true) : good ⟨p.n, p.s, pickO p l l.length⟩ = decide (l.length ≤ 6) := by
  have hin := all_in ha
  have hlen := pickO_len p l (Nat.le_refl _)
  have ho : allB (pickO p l l.length) 0 (p.n + p.s.length - 1) = true := by
    unfold good at hg
    simp only [Bool.and_eq_true] at hg
    have hall := hg.2.2.2.2.2
    unfold allB at hall ⊢
    rw [List.all_eq_true] at hall ⊢
    intro x hx
    unfold pickO at hx
    rw [List.take_of_length_le (Nat.le_refl _)] at hx
    obtain ⟨i, hi, rfl⟩ := List.mem_map.1 hx
    obtain ⟨h0, h1⟩ := hin i hi
    have hlt : i.toNat < p.o.length := by omega
    have e : p.o.getD i.toNat 0 = p.o[i.toNat] := by simp [hlt]
    rw [e]
    exact hall _ (List.getElem_mem hlt)
  unfold good at hg ⊢
  simp only [Bool.and_eq_true] at hg
  obtain ⟨g1, g2, _, g4, g5, _⟩ := hg
  simp only [g1, g2, g4, g5, ho, hlen, Bool.true_and, Bool.and_true]

set_option maxRecDepth 100000 in
set_option maxHeartbeats 1000000 in
theorem plOwn_any (B : Nat) (A1 A2 : Option Addr) (c1 c2 : Nat) (p : Pl) (w : World) (hB : B ≤ w.heap.size) (hls : p.s.length ≤ 1000) (hlo : p.o.length ≤ 1000) (hr : RdP w B A1 A2 p) :
    Calls Try.prog 77 #[.agg #[.int .i64 p.n, .slice A1 p.s.length c1, .slice A2 p.o.length c2]] w fun e w' =>
      ∃ B1 B2 d1 d2, e = .returned (.agg #[.int .i64 p.n, .slice B1 p.s.length d1, .slice B2 p.o.length d2]) ∧ OwP w' w.heap.size B1 B2 d1 d2 p ∧ Below w.heap.size w w' := by
  have H := Lib.hid hr
  clear hr
  go_enter Try.func77, Try.ntmps77
  go_wp2
  generalize hw1 : World.alloc (World.alloc w _) _ = w1
  obtain ⟨q0, q1, xs, xb⟩ := boxes2b hw1
  clear hw1
  obtain ⟨y0, y1, y2, _, _, _⟩ := cells3b q0
  have Q1 := Lib.hid q1
  have XB := Lib.hid xb
  have FS := Lib.hid (show ∀ x, Below w1.heap.size w1 x → x.cell? ⟨w.heap.size, 0, none⟩ = some (.int .i64 p.n) ∧ x.cell? ⟨w.heap.size, 1, none⟩ = some (.slice A1 p.s.length c1) ∧ x.cell? ⟨w.heap.size, 2, none⟩ = some (.slice A2 p.o.length c2) from fun x hx =>
    ⟨(hx.cell (p := ⟨w.heap.size, 0, none⟩) (by simp only []; omega)).trans y0, (hx.cell (p := ⟨w.heap.size, 1, none⟩) (by simp only []; omega)).trans y1, (hx.cell (p := ⟨w.heap.size, 2, none⟩) (by simp only []; omega)).trans y2⟩)
  have S0 := Lib.hid (show Below w1.heap.size w1 w1.drew from (Below.refl _ _).drew)
  clear q0 q1 xb y0 y1 y2
  refine wp_region_T (fun x : World => Below w1.heap.size w1 x) [0, 1, 3, 4, 6, 7, 9] [1, 4, 7] (.lp 0 (.lp 3 (.lp 6 (.ls 1 (.ls 4 (.ls 7 (.hv 2 (.hv 5 (.hv 8 (.lp 9 (.hv 10 (.done)))))))))))) (by kernel_rfl) (by kernel_rfl) ?_
  (repeat (refine T_lp rfl (fun K hK => ?_); go_simp; refine hK _ ?_; clear hK K))
  refine T_ls1 (v := .int .i64 p.n) rfl rfl S0.out (fun x hx => (by obtain ⟨h0, h1, h2⟩ := FS.out x hx; go_simp)) (fun K hK => ?_)
  (go_simp; refine hK _ ?_; clear hK K)
  refine T_ls1 (v := .slice A1 p.s.length c1) rfl rfl S0.out (fun x hx => (by obtain ⟨h0, h1, h2⟩ := FS.out x hx; go_simp)) (fun K hK => ?_)
  (go_simp; refine hK _ ?_; clear hK K)
  refine T_ls1 (v := .slice A2 p.o.length c2) rfl rfl S0.out (fun x hx => (by obtain ⟨h0, h1, h2⟩ := FS.out x hx; go_simp)) (fun K hK => ?_)
  (go_simp; refine hK _ ?_; clear hK K)
  refine T_hvS rfl (fun K hK => ?_)
  go_simp
  refine hK _ _ (S0.out.alloc (Nat.le_refl _) _) ?_
  clear hK K
  refine T_hvS rfl (fun K hK => ?_)
  have hb1 : Below w.heap.size w (w1.alloc (Obj.cells #[] 94)).drew := XB.out.trans ((((Below.refl _ w1).alloc (Nat.le_refl _) _).drew).mono (by omega))
  have he := own_empty (w := w1) (B := w1.heap.size) (e := 94) 2 (Nat.le_refl _)
  rw [xs] at he
  refine step_appM Try.underlying29 info_step rfl (by omega) (by omega) rfl (.tmp 5) (.tmp 7) rfl (w.heap.size + 2) 0 _ [] rfl he A1 p.s.length c1 (fl p.s) rfl ((H.out.below' hb1 hB).1) (fl_one p.s) (by omega) (by simp; omega) ?_
  intro A4 c4 w4 hown4 hg4 hbel4
  have hb14 : Below w1.heap.size w1 w4 := (((Below.refl _ w1).alloc (Nat.le_refl _) _).drew).trans (hbel4.mono (by omega))
  go_simp
  refine hK _ _ hb14 ?_
  clear hK K hb1 he
  have hs4 := hb14.size
  have hbw4 : Below w.heap.size w w4 := XB.out.trans (hb14.mono (by omega))
  have OS := Lib.hid hown4
  have HB14 := Lib.hid hb14
  have HBW := Lib.hid hbw4
  clear hown4 hg4 hbel4 hb14 hbw4
  refine T_hvS rfl (fun K hK => ?_)
  go_simp
  go_at_call 88
  refine (l1Own_any B A2 c2 p.o w4 (by omega) (by omega) (H.out.below' HBW.out hB).2).mono ?_
  rintro e w5 ⟨A5, c5, rfl, hown5, hb5⟩
  have hb15 : Below w1.heap.size w1 w5 := HB14.out.trans (hb5.mono hs4)
  have r5 := (hb15.block (w.heap.size + 1) (by omega)).trans Q1.out
  obtain ⟨t0, t1, t2, g0, g1, g2⟩ := cells3b r5
  have R5 := Lib.hid r5
  have OS5 := Lib.hid (own_base (own_below OS.out hb5) (show w.heap.size ≤ w.heap.size + 2 by omega))
  have OI5 := Lib.hid (hown5.base (show w.heap.size ≤ w4.heap.size by omega))
  have HB5 := Lib.hid (XB.out.trans (hb15.mono (by omega)))
  go_simp
  refine hK _ _ hb15 ?_
  clear hK K r5 hown5 hb5 hb15
  (repeat (refine T_lp rfl (fun K hK => ?_); go_simp; refine hK _ ?_; clear hK K))
  (refine T_hv rfl (by kernel_rfl) (fun K hK => ?_); go_simp; refine hK _ _ ?_; clear hK K)
  refine T_done ?_
  go_wp2
  refine bodyPost_ret (v := .agg #[.int .i64 p.n, .slice A4 p.s.length c4, .slice A5 p.o.length c5]) (by simp [results, Try.results77, go_sem, t0, t1, t2]) rfl ⟨A4, A5, c4, c5, rfl, ⟨?_, ?_⟩, ?_⟩
  · have h := own_set3 OS5.out R5.out (by decide) (.int .i64 p.n) (.slice A4 p.s.length c4) (.slice A5 p.o.length c5)
    simp only [Nat.zero_add, List.nil_append] at h
    exact h
  · exact own_set3 OI5.out R5.out (by decide) _ _ _
  · exact ((HB5.out.setCell (by simp) _).setCell (by simp) _).setCell (by simp) _

set_option maxRecDepth 100000 in
set_option maxHeartbeats 1000000 in
theorem plIf_any (B : Nat) (A1 A2 : Option Addr) (c1 c2 : Nat) (p : Pl) (w : World) (hB : B ≤ w.heap.size) (hls : p.s.length ≤ 2000000) (hlo : p.o.length ≤ 2000000) (hr : RdP w B A1 A2 p) :
    Calls Try.prog 69 #[.agg #[.int .i64 p.n, .slice A1 p.s.length c1, .slice A2 p.o.length c2]] w fun e w' =>
      e = .returned (.tuple #[selV (good p) (.agg #[.int .i64 p.n, .slice A1 p.s.length c1, .slice A2 p.o.length c2]) (.agg #[.int .i64 0, .slice none 0 0, .slice none 0 0]), .bool (good p)]) ∧ Below w.heap.size w w' := by
  have H := Lib.hid hr
  clear hr
  obtain ⟨gd, hgd⟩ : ∃ x, good p = x := ⟨_, rfl⟩
  have HG := Lib.hid hgd
  go_enter Try.func69, Try.ntmps69
  go_wp2_with fail
  go_at_call 58
  generalize hw1 : World.alloc (World.alloc w _) _ = w1
  obtain ⟨q0, q1, xs, xb⟩ := boxes2b hw1
  clear hw1
  have hC := plGood_any w.heap.size A1 A2 c1 c2 p w1 (by omega) hls hlo ((H.out.below' xb hB).more hB)
  rw [hgd] at hC
  refine hC.mono ?_
  rintro e w2 ⟨rfl, hb2⟩
  clear hC hgd
  obtain ⟨y0, y1, y2, _, _, _⟩ := cells3b ((hb2.block w.heap.size (by omega)).trans q0)
  obtain ⟨t0, t1, t2, g0, g1, g2⟩ := cells3b ((hb2.block (w.heap.size + 1) (by omega)).trans q1)
  have HB2 := Lib.hid (xb.trans (hb2.mono (show w.heap.size ≤ w1.heap.size by omega)))
  clear q0 q1 xs xb hb2
  cases gd with
  | false =>
    go_wp2
    refine bodyPost_ret (v := .tuple #[.agg #[.int .i64 0, .slice none 0 0, .slice none 0 0], .bool false]) (by simp [results, Try.results69, go_sem, t0, t1, t2]) rfl ⟨by rw [HG.out]; rfl, ?_⟩
    exact ((HB2.out.setCell (by simp) _).setCell (by simp) _).setCell (by simp) _
  | true =>
    go_wp2
    refine bodyPost_ret (v := .tuple #[.agg #[.int .i64 p.n, .slice A1 p.s.length c1, .slice A2 p.o.length c2], .bool true]) (by simp [results, Try.results69, go_sem, t0, t1, t2]) rfl ⟨by rw [HG.out]; rfl, ?_⟩
    exact ((HB2.out.setCell (by simp) _).setCell (by simp) _).setCell (by simp) _
end Go.Proofs.Ytlkieebmfmiafaa
/- Plans behind each other as data; what both sides answer for a plan or none. -/
namespace Go.Proofs.Ytlkieebmfmiafaa
open Go.RowKit

set_option maxRecDepth 100000 in
set_option maxHeartbeats 1000000 in
theorem planOrNone_any (B : Nat) (A1 A2 : Option Addr) (c1 c2 : Nat) (p : Pl) (w : World) (hB : B ≤ w.heap.size) (hls : p.s.length ≤ 2000000) (hlo : p.o.length ≤ 2000000) (hr : RdP w B A1 A2 p) :
    Calls Try.prog 91 #[.agg #[.int .i64 p.n, .slice A1 p.s.length c1, .slice A2 p.o.length c2]] w fun e w' =>
      e = .returned (.tuple #[selV (good p) (.agg #[.int .i64 p.n, .slice A1 p.s.length c1, .slice A2 p.o.length c2]) (.agg #[.int .i64 0, .slice none 0 0, .slice none 0 0]), .bool (good p)]) ∧ Below w.heap.size w w' := by
  have H := Lib.hid hr
  clear hr
  obtain ⟨gd, hgd⟩ : ∃ x, good p = x := ⟨_, rfl⟩
  have HG := Lib.hid hgd
  go_enter Try.func91, Try.ntmps91
  go_wp2_with fail
  go_at_call 80
  generalize hw1 : World.alloc (World.alloc w _) _ = w1
  obtain ⟨q0, q1, xs, xb⟩ := boxes2b hw1
  clear hw1
  have hC := implIsPlan_any w.heap.size A1 A2 c1 c2 p w1 (by omega) hls hlo ((H.out.below' xb hB).more hB)
  rw [hgd] at hC
  refine hC.mono ?_
  rintro e w2 ⟨rfl, hb2⟩
  clear hC hgd
  obtain ⟨y0, y1, y2, _, _, _⟩ := cells3b ((hb2.block w.heap.size (by omega)).trans q0)
  obtain ⟨t0, t1, t2, g0, g1, g2⟩ := cells3b ((hb2.block (w.heap.size + 1) (by omega)).trans q1)
  have HB2 := Lib.hid (xb.trans (hb2.mono (show w.heap.size ≤ w1.heap.size by omega)))
  clear q0 q1 xs xb hb2
  cases gd with
  | false =>
    go_wp2
    refine bodyPost_ret (v := .tuple #[.agg #[.int .i64 0, .slice none 0 0, .slice none 0 0], .bool false]) (by simp [results, Try.results91, go_sem, t0, t1, t2]) rfl ⟨by rw [HG.out]; rfl, ?_⟩
    exact ((HB2.out.setCell (by simp) _).setCell (by simp) _).setCell (by simp) _
  | true =>
    go_wp2
    refine bodyPost_ret (v := .tuple #[.agg #[.int .i64 p.n, .slice A1 p.s.length c1, .slice A2 p.o.length c2], .bool true]) (by simp [results, Try.results91, go_sem, t0, t1, t2]) rfl ⟨by rw [HG.out]; rfl, ?_⟩
    exact ((HB2.out.setCell (by simp) _).setCell (by simp) _).setCell (by simp) _
def compNm (p q : Pl) : List Int := p.o ++ tailN (p.n + p.s.length) q.s.length
def compD (p q : Pl) : Pl := ⟨p.n, p.s ++ q.s.map (stN (compNm p q)), q.o.map fun x => (compNm p q).getD x.toNat 0⟩
def compB (p q : Pl) : Bool := (good p && (good q && decide ((p.o.length : Int) = q.n))) && good (compD p q)
def compR (p q : Pl) : Pl := if compB p q then compD p q else zeroP
theorem compR_true {p q : Pl} (h : compB p q = true) : compR p q = compD p q := by unfold compR; rw [if_pos h]
theorem compR_false {p q : Pl} (h : compB p q = false) : compR p q = zeroP := by unfold compR; rw [if_neg (by rw [h]; decide)]
theorem compD_s (p q : Pl) : (compD p q).s.length = p.s.length + q.s.length := by simp [compD]
theorem compD_o (p q : Pl) : (compD p q).o.length = q.o.length := by simp [compD]
theorem boxesPQZ {w w2 : World} {a b c a' b' c' : Value} {t t' : TypeId} (h : ((w.alloc (.cells #[a, b, c] t)).alloc (.cells #[a', b', c'] t')).alloc (.cells #[.int .i64 0, .slice none 0 0, .slice none 0 0] 31) = w2) :
    w2.heap[w.heap.size]? = some (.cells #[a, b, c] t (0, 0)) ∧ w2.heap[w.heap.size + 1]? = some (.cells #[a', b', c'] t' (0, 0)) ∧ w2.heap[w.heap.size + 2]? = some (.cells #[.int .i64 0, .slice none 0 0, .slice none 0 0] 31 (0, 0)) ∧ w2.heap.size = w.heap.size + 3 ∧ Below w.heap.size w w2 := by
  subst h
  refine ⟨?_, ?_, ?_, by simp, (((Below.refl _ _).alloc (Nat.le_refl _) _).alloc (by simp) _).alloc (by simp; omega) _⟩
  · rw [Below.heap_alloc _ _ _ (by simp; omega), Below.heap_alloc _ _ _ (by simp)]; exact heap_alloc_new w _
  · rw [Below.heap_alloc _ _ _ (by simp)]
    have := heap_alloc_new (w.alloc (.cells #[a, b, c] t)) (.cells #[a', b', c'] t')
    simpa using this
  · have := heap_alloc_new ((w.alloc (.cells #[a, b, c] t)).alloc (.cells #[a', b', c'] t')) (.cells #[.int .i64 0, .slice none 0 0, .slice none 0 0] 31)
    simpa using this
end Go.Proofs.Ytlkieebmfmiafaa
/- The maker of plans of the program: one step more, squares, the plan that it has made. -/
namespace Go.Proofs.Ytlkieebmfmiafaa
open Go.RowKit

/-- A maker at block g with n inputs and the steps s. -/
def MkS (w : World) (B g : Nat) (n : Int) (s : List (Int × Int)) : Prop :=
  ∃ A c, w.heap[g]? = some (.cells #[.int .i64 n, .slice A s.length c] 96 (0, 0)) ∧ OwS w B (.slice A s.length c) s
theorem MkS.same {w w' : World} {B g : Nat} {n : Int} {s : List (Int × Int)} (h : MkS w B g n s) (hk : ∀ k, k < w.heap.size → w'.heap[k]? = w.heap[k]?) : MkS w' B g n s := by
  obtain ⟨A, c, h1, h2⟩ := h
  exact ⟨A, c, (hk g (Array.getElem?_eq_some_iff.1 h1).1).trans h1, own_same h2 hk⟩
theorem MkS.below {w w' : World} {B g : Nat} {n : Int} {s : List (Int × Int)} (h : MkS w B g n s) (hb : Below w.heap.size w w') : MkS w' B g n s := h.same hb.block
theorem MkS.lt {w : World} {B g : Nat} {n : Int} {s : List (Int × Int)} (h : MkS w B g n s) : g < w.heap.size := by
  obtain ⟨A, c, h1, _⟩ := h
  exact (Array.getElem?_eq_some_iff.1 h1).1

/-- Own rows of neither steps nor makers are kept. -/
def Kp (w w' : World) : Prop := ∀ (B sz n : Nat) (e : TypeId) (v : Value) (xs : List Value), e ≠ 94 → e ≠ 96 → w.ownsRow B e sz v n xs → w'.ownsRow B e sz v n xs
theorem Kp.refl (w : World) : Kp w w := fun _ _ _ _ _ _ _ _ h => h
theorem Kp.trans {a b c : World} (h : Kp a b) (h' : Kp b c) : Kp a c := fun B sz n e v xs h1 h2 h3 => h' B sz n e v xs h1 h2 (h B sz n e v xs h1 h2 h3)
theorem Kp.ints {a b : World} (h : Kp a b) {B : Nat} {v : Value} {l : List Int} (ho : OwI a B v l) : OwI b B v l := h _ _ _ _ _ _ (by decide) (by decide) ho
theorem stI_min (a b : Int) : stI a b = (min a b, max a b) := by
  have h1 : leastI a b = min a b := by unfold leastI; split <;> omega
  have h2 : mostI a b = max a b := by unfold mostI; split <;> omega
  unfold stI
  rw [h1, h2]
theorem mk_kept {w w3 : World} {B g c : Nat} {n : Int} {s : List (Int × Int)} {A : Option Addr} {o : Obj} (hb : w.heap[g]? = some (.cells #[.int .i64 n, .slice A s.length c] 96 (0, 0))) (ho : OwS w B (.slice A s.length c) s)
    (hg : (w.alloc o).grownBy w3 (Value.slice A s.length c).ownBlock) :
    w3.heap[g]? = some (.cells #[.int .i64 n, .slice A s.length c] 96 (0, 0)) ∧ w3.frozen? ⟨g, 1, none⟩ = false ∧ w3.cell? ⟨g, 1, none⟩ = some (.slice A s.length c) := by
  have hgl : g < w.heap.size := (Array.getElem?_eq_some_iff.1 hb).1
  have hbA : (w.alloc o).heap[g]? = _ := (Below.heap_alloc w o g hgl).trans hb
  have h3 := (hg.block g (by simp; omega) (own_ne_blk (World.ownsRow.alloc ho o) hbA (by decide))).trans hbA
  exact ⟨h3, frozen_of_row w3 g 1 _ _ h3, by rw [cell_of_row w3 g 1 _ _ (0, 0) h3]; rfl⟩
theorem mk_set {w w' : World} {g : Nat} {a b u : Value} {t : TypeId} (hb : w.heap[g]? = some (.cells #[a, b] t (0, 0))) (h : w.setCell ⟨g, 1, none⟩ u = w') : w'.heap[g]? = some (.cells #[a, u] t (0, 0)) := by
  subst h
  rw [heap_setCell_same w g 1 _ t u hb]
  rfl

set_option maxRecDepth 100000 in
set_option maxHeartbeats 1000000 in
theorem makerMul_any (B g : Nat) (n : Int) (s : List (Int × Int)) (a b : Int) (w : World) (hB : B ≤ g) (hm : MkS w B g n s) (hl : s.length ≤ 1000) (hn0 : 0 ≤ n) (hn1 : n ≤ 1000) :
    Calls Try.prog 134 #[.pointer (some ⟨g, 0, none⟩), .int .i64 a, .int .i64 b] w fun e w' =>
      e = .returned (.int .i64 (n + s.length)) ∧ MkS w' B g n (s ++ [stI a b]) ∧ Below B w w' ∧ Kp w w' := by
  obtain ⟨A, c, hblk, hown⟩ := hm
  have hgl : g < w.heap.size := (Array.getElem?_eq_some_iff.1 hblk).1
  have c1 : w.cell? ⟨g, 1, none⟩ = some (.slice A s.length c) := by rw [cell_of_row w g 1 _ _ (0, 0) hblk]; rfl
  have HB := Lib.hid hblk
  have HO := Lib.hid hown
  have hBs : B ≤ w.heap.size := by omega
  clear hblk hown
  have HXY := Lib.hid (stI_min a b)
  go_enter Try.func134, Try.ntmps134
  go_wp2_with (at_builtin; refine list_step (fun K hK => ?_); refine step_app2 Try.underlying29 info_step rfl (by omega) rfl (.tmp 11) (.tmp 19) rfl B s.length _ (fl s) rfl (World.ownsRow.alloc HO.out _) w.heap.size 1 (I _) (I _) rfl (by simp; rfl) (by simp; rfl) rfl rfl (by omega) (by simp; omega) ?_; intro A3 c3 w3 hown3 hg3 hbel3; obtain ⟨hb3, f3, k3⟩ := mk_kept HB.out HO.out hg3; go_simp; refine hK _ _ ?_; clear hK K)
  obtain ⟨w4, hw4⟩ : ∃ w4, World.setCell w3 ⟨g, 1, none⟩ (.slice A3 (s.length + 1) c3) = w4 := ⟨_, rfl⟩
  rw [hw4]
  have hb4 := mk_set hb3 hw4
  have x0 : w4.cell? ⟨g, 0, none⟩ = some (.int .i64 n) := by rw [cell_of_row w4 g 0 _ _ (0, 0) hb4]; rfl
  have x1 : w4.cell? ⟨g, 1, none⟩ = some (.slice A3 (s.length + 1) c3) := by rw [cell_of_row w4 g 1 _ _ (0, 0) hb4]; rfl
  have hw : IntKind.i64.wrap (n + ((s.length : Int) + 1)) = n + ((s.length : Int) + 1) := IntWalk.i64_in _ (by omega)
  have hw2 : IntKind.i64.wrap (n + ((s.length : Int) + 1) - 1) = n + (s.length : Int) := by
    rw [IntWalk.i64_in _ (by omega)]
    omega
  have R4 := Lib.hid (show OwS w4 B (.slice A3 (s.length + 1) c3) (s ++ [stI a b]) from by
    subst hw4
    unfold OwS
    rw [HXY.out, fl_snoc, List.length_append, List.length_singleton]
    exact own_set hown3 hb3 (by decide) _)
  have B4 := Lib.hid (show Below B w w4 from by
    subst hw4
    exact (((Below.refl _ _).alloc hBs _).trans hbel3).setCell hB _)
  have K4 := Lib.hid (show Kp w w4 from fun B' sz n' e v xs h1 h2 h3 => by
    subst hw4
    exact own_set (World.ownsRow.kept (World.ownsRow.alloc h3 _) hg3 (own_ne h3 HO.out h1)) hb3 (Ne.symm h2) _)
  have HB4 := Lib.hid hb4
  clear hw4 hb4 hb3 f3 k3 hown3 hg3 hbel3
  refine wp_region_Tw [0, 1, 2, 3, 4, 5, 6, 7, 8, 9, 10, 11] [3, 7] (.lp 0 (.lp 1 (.lp 2 (.lp 4 (.lp 5 (.lp 6 (.ls 3 (.ls 7 (.lp 8 (.lp 9 (.lp 10 (.lp 11 (.done))))))))))))) (by kernel_rfl) (by kernel_rfl) ?_
  (repeat (first | (refine T_lp rfl (fun K hK => ?_); go_simp; refine hK _ ?_; clear hK K) | (refine T_ls rfl rfl (fun K hK => ?_); go_simp; refine hK _ ?_; clear hK K)))
  refine T_done ?_
  go_wp2
  go_ret
  exact ⟨rfl, ⟨A3, c3, by rw [List.length_append, List.length_singleton]; exact HB4.out, by rw [List.length_append, List.length_singleton]; exact R4.out⟩, B4.out.drew, K4.out⟩

/-- One product more: the steps and the value. -/
def muS (n : Int) (x : List (Int × Int) × Int) (b : Int) : List (Int × Int) × Int := (x.1 ++ [stI x.2 b], n + x.1.length)
/-- A product that may have no factor yet. -/
def onS (n : Int) (x : List (Int × Int) × Int) (b : Int) : List (Int × Int) × Int := if x.2 = -1 then (x.1, b) else muS n x b
/-- Squared k times. -/
def sqN (n : Int) (x : List (Int × Int) × Int) : Nat → List (Int × Int) × Int
  | 0 => x
  | k + 1 => muS n (sqN n x k) (sqN n x k).2
theorem sqN_len (n : Int) (x : List (Int × Int) × Int) (k : Nat) : (sqN n x k).1.length = x.1.length + k := by
  induction k with
  | zero => rfl
  | succ k ih => show ((sqN n x k).1 ++ [_]).length = _; rw [List.length_append, ih]; simp; omega
theorem onS_len (n : Int) (x : List (Int × Int) × Int) (b : Int) : (onS n x b).1.length ≤ x.1.length + 1 := by
  unfold onS muS
  split <;> simp

set_option maxRecDepth 100000 in
set_option maxHeartbeats 1000000 in
theorem makerOnto_any (B g : Nat) (n : Int) (x : List (Int × Int) × Int) (b : Int) (w : World) (hB : B ≤ g) (hm : MkS w B g n x.1) (hl : x.1.length ≤ 1000) (hn0 : 0 ≤ n) (hn1 : n ≤ 1000) :
    Calls Try.prog 118 #[.pointer (some ⟨g, 0, none⟩), .int .i64 x.2, .int .i64 b] w fun e w' =>
      e = .returned (.int .i64 (onS n x b).2) ∧ MkS w' B g n (onS n x b).1 ∧ Below B w w' ∧ Kp w w' := by
  obtain ⟨s, v⟩ := x
  by_cases h : v = -1
  · have E := Lib.hid (show onS n (s, v) b = (s, b) by unfold onS; rw [if_pos h])
    have HM := Lib.hid hm
    have hv : (v == -1) = true := by simpa using h
    clear hm h
    go_enter Try.func118, Try.ntmps118
    go_wp2
    go_ret
    exact ⟨by rw [E.out]; rfl, by rw [E.out]; exact HM.out, Below.refl _ _, Kp.refl _⟩
  · have E := Lib.hid (show onS n (s, v) b = muS n (s, v) b by unfold onS; rw [if_neg h])
    have HM := Lib.hid (makerMul_any B g n s v b w hB hm hl hn0 hn1)
    have hv : (v == -1) = false := by simpa using h
    clear hm h
    go_enter Try.func118, Try.ntmps118
    go_wp2_with (go_at_call 134; refine HM.out.mono ?_; rintro e w2 ⟨rfl, hm2, hb2, hk2⟩)
    go_ret
    exact ⟨by rw [E.out]; rfl, by rw [E.out]; exact hm2, hb2, hk2⟩

/-- The plan if it is one, otherwise the zero plan. -/
def mkR (p : Pl) : Pl := if good p then p else zeroP
theorem mkR_true {p : Pl} (h : good p = true) : mkR p = p := by unfold mkR; rw [if_pos h]
theorem mkR_false {p : Pl} (h : good p = false) : mkR p = zeroP := by unfold mkR; rw [if_neg (by rw [h]; decide)]
theorem mkR_len (p : Pl) (hs : p.s.length ≤ 1000) (ho : p.o.length ≤ 1000) : (mkR p).s.length ≤ 1000 ∧ (mkR p).o.length ≤ 1000 := by
  unfold mkR
  split
  · exact ⟨hs, ho⟩
  · exact ⟨by simp [zeroP], by simp [zeroP]⟩

set_option maxRecDepth 100000 in
set_option maxHeartbeats 2000000 in
theorem makerPlan_any (B g : Nat) (A2 : Option Addr) (c2 : Nat) (p : Pl) (w : World) (_hB : B ≤ g) (hm : MkS w B g p.n p.s) (hO : OwI w B (.slice A2 p.o.length c2) p.o) (hl : p.s.length ≤ 1000) (hlo : p.o.length ≤ 1000) :
    Calls Try.prog 83 #[.pointer (some ⟨g, 0, none⟩), .slice A2 p.o.length c2] w fun e w' =>
      ∃ R1 R2 v1 v2, e = .returned (.tuple #[.agg #[.int .i64 (mkR p).n, .slice R1 (mkR p).s.length v1, .slice R2 (mkR p).o.length v2], .bool (good p)]) ∧ OwP w' B R1 R2 v1 v2 (mkR p) ∧ Below w.heap.size w w' := by
  obtain ⟨gd, hgd⟩ : ∃ x, good p = x := ⟨_, rfl⟩
  obtain ⟨A1, c1, hblk, hown⟩ := hm
  have hgl : g < w.heap.size := (Array.getElem?_eq_some_iff.1 hblk).1
  have HBLK := Lib.hid hblk
  have HOW := Lib.hid hown
  have HO := Lib.hid hO
  have HGD := Lib.hid hgd
  have hIf := fun W E1 E2 e1 e2 hrW => planOrNone_any W.heap.size E1 E2 e1 e2 p W (Nat.le_refl _) (by omega) (by omega) hrW
  rw [hgd] at hIf
  have HIF := Lib.hid hIf
  clear hblk hown hO hgd hIf
  go_enter Try.func83, Try.ntmps83
  go_wp2
  generalize hw1 : World.alloc w _ = w1
  obtain ⟨_, _, _, xs, xb⟩ := box3 hw1
  have q0 : w1.heap[w.heap.size]? = some (.cells #[.int .i64 0, .slice none 0 0, .slice none 0 0] 31 (0, 0)) := by subst hw1; exact heap_alloc_new w _
  have hb := (xb.block g hgl).trans HBLK.out
  have x0 : w1.cell? ⟨g, 0, none⟩ = some (.int .i64 p.n) := by rw [cell_of_row w1 g 0 _ _ (0, 0) hb]; rfl
  have x1 : w1.cell? ⟨g, 1, none⟩ = some (.slice A1 p.s.length c1) := by rw [cell_of_row w1 g 1 _ _ (0, 0) hb]; rfl
  have XB := Lib.hid xb
  have XS := Lib.hid xs
  have Q0 := Lib.hid q0
  clear hw1 xb xs q0 hb
  refine wp_region_Tw [0, 1, 2, 3, 4, 5, 6, 7, 8, 9, 11, 12, 14] [3, 7] (.lp 0 (.lp 1 (.lp 2 (.lp 4 (.lp 5 (.lp 6 (.lp 8 (.ls 3 (.ls 7 (.lp 9 (.hv 10 (.lp 11 (.lp 12 (.hv 13 (.lp 14 (.done)))))))))))))))) (by kernel_rfl) (by kernel_rfl) ?_
  (repeat (first | (refine T_lp rfl (fun K hK => ?_); go_simp; refine hK _ ?_; clear hK K) | (refine T_ls rfl rfl (fun K hK => ?_); go_simp; refine hK _ ?_; clear hK K)))
  refine T_hv rfl (by kernel_rfl) (fun K hK => ?_)
  go_simp
  go_at_call 91
  have RD := Lib.hid (show RdP w1.drew w1.drew.heap.size A1 A2 p from ⟨(Rd.of_own (own_below HOW.out XB.out)).drew, (Rd.of_own (own_below HO.out XB.out)).drew⟩)
  refine (HIF.out w1.drew A1 A2 c1 c2 RD.out).mono ?_
  rintro e w5 ⟨rfl, hb5⟩
  have hb15 : Below w1.heap.size w1 w5 := ((Below.refl _ w1).drew).trans hb5
  have Q5 := Lib.hid ((hb15.block w.heap.size (by have := XS.out; omega)).trans Q0.out)
  obtain ⟨t0, t1, t2, g0, g1, g2⟩ := cells3 Q5.out
  have O5 := Lib.hid (own_below (own_below HOW.out XB.out) hb15)
  have I5 := Lib.hid (own_below (own_below HO.out XB.out) hb15)
  have B5 := Lib.hid (XB.out.trans (hb15.mono (by have := XS.out; omega)))
  clear hb15 hb5 x0 x1
  cases gd with
  | false =>
    have ER := Lib.hid (mkR_false HGD.out)
    simp only [selV, Bool.false_eq_true, if_false]
    (go_simp; refine hK _ _ ?_; clear hK K)
    (repeat (first | (refine T_lp rfl (fun K hK => ?_); go_simp; refine hK _ ?_; clear hK K) | (refine T_ls rfl rfl (fun K hK => ?_); go_simp; refine hK _ ?_; clear hK K)))
    (refine T_hv rfl (by kernel_rfl) (fun K hK => ?_); go_simp; refine hK _ _ ?_; clear hK K)
    (repeat (first | (refine T_lp rfl (fun K hK => ?_); go_simp; refine hK _ ?_; clear hK K) | (refine T_ls rfl rfl (fun K hK => ?_); go_simp; refine hK _ ?_; clear hK K)))
    refine T_done ?_
    go_wp2
    refine bodyPost_ret (v := .tuple #[.agg #[.int .i64 0, .slice none 0 0, .slice none 0 0], .bool false]) (by simp [results, Try.results83, go_sem, t0, t1, t2]) rfl ⟨none, none, 0, 0, by rw [ER.out, HGD.out]; rfl, by rw [ER.out]; exact OwP.zero _ _, ?_⟩
    exact ((B5.out.setCell (by simp) _).setCell (by simp) _).setCell (by simp) _
  | true =>
    have ER := Lib.hid (mkR_true HGD.out)
    simp only [selV, if_true]
    (go_simp; refine hK _ _ ?_; clear hK K)
    (repeat (first | (refine T_lp rfl (fun K hK => ?_); go_simp; refine hK _ ?_; clear hK K) | (refine T_ls rfl rfl (fun K hK => ?_); go_simp; refine hK _ ?_; clear hK K)))
    (refine T_hv rfl (by kernel_rfl) (fun K hK => ?_); go_simp; refine hK _ _ ?_; clear hK K)
    (repeat (first | (refine T_lp rfl (fun K hK => ?_); go_simp; refine hK _ ?_; clear hK K) | (refine T_ls rfl rfl (fun K hK => ?_); go_simp; refine hK _ ?_; clear hK K)))
    refine T_done ?_
    go_wp2
    refine bodyPost_ret (v := .tuple #[.agg #[.int .i64 p.n, .slice A1 p.s.length c1, .slice A2 p.o.length c2], .bool true]) (by simp [results, Try.results83, go_sem, t0, t1, t2]) rfl ⟨A1, A2, c1, c2, by rw [ER.out, HGD.out], ?_, ?_⟩
    · rw [ER.out]
      exact owP_of3 O5.out I5.out Q5.out (by decide) (by decide) rfl rfl _ _ _
    · exact ((B5.out.setCell (by simp) _).setCell (by simp) _).setCell (by simp) _
end Go.Proofs.Ytlkieebmfmiafaa
