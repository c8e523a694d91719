/- Used steps: the program's. -/
import Derived.Test.YtbbjgcagkmlngacUt
namespace Go.Proofs.Ytbbjgcagkmlngac
open Go.RowKit

theorem info_bool : (Try.prog.info? 4).map (fun i => (i.zero, i.size, i.bytes)) = some (some (.bool false), 1, 1) := by kernel_rfl
def bools (l : List Int) (R : Nat) : List Value := (List.range R).map fun v : Nat => Value.bool (hasI l (v : Int))
theorem bools_length (l : List Int) (R : Nat) : (bools l R).length = R := by simp [bools]
theorem bools_nil (R : Nat) : bools [] R = List.replicate R (.bool false) := by
  apply List.ext_getElem?
  intro j
  by_cases hj : j < R <;> simp [bools, hj, hasI]
theorem bools_set (l : List Int) {R a : Nat} (ha : a < R) : (bools l R).set a (.bool true) = bools (l ++ [(a : Int)]) R := by
  apply List.ext_getElem?
  intro j
  by_cases hj : j < R
  · by_cases hja : a = j
    · subst hja
      rw [List.getElem?_set_self (by rw [bools_length]; exact ha)]
      simp [bools, ha, hasI]
    · rw [List.getElem?_set_ne hja]
      have : ¬ (j : Int) = (a : Int) := by omega
      simp [bools, hj, hasI, this]
  · rw [List.getElem?_eq_none (by simp [bools]; omega), List.getElem?_eq_none (by simp [bools]; omega)]
theorem bools_at (l : List Int) {R a : Nat} (ha : a < R) : (bools l R)[a]? = some (.bool (hasI l (a : Int))) := by simp [bools, ha]
theorem box4 {w w1 : World} {a b c d : Value} {t : TypeId} (h : w.alloc (.cells #[a, b, c, d] t) = w1) :
    w1.cell? ⟨w.heap.size, 0, none⟩ = some a ∧ w1.cell? ⟨w.heap.size, 1, none⟩ = some b ∧ w1.cell? ⟨w.heap.size, 2, none⟩ = some c ∧ w1.cell? ⟨w.heap.size, 3, none⟩ = some d ∧ w1.heap.size = w.heap.size + 1 ∧ Below w.heap.size w w1 := by
  subst h
  refine ⟨?_, ?_, ?_, ?_, by simp, (Below.refl _ _).alloc (Nat.le_refl _) _⟩ <;> (rw [World.cell?_alloc_at _ _ _ _ rfl]; rfl)
theorem bools_own {w : World} {B : Nat} (n : Nat) (hn : n ≤ 1000) (hB : B ≤ w.heap.size) :
    (w.alloc (.cells (madeCells #[Value.bool false] n) 4)).ownsRow B 4 1 (.slice (some ⟨w.heap.size, 0, none⟩) n n) n (bools [] n) := by
  have h := World.ownsRow_lit (base := B) (e := 4) (size := 1) w (madeCells #[Value.bool false] n) n hB (by unfold maxLen; omega) (by simp [size_madeCells])
  rw [toList_madeCells_one] at h
  rw [bools_nil]
  exact h

/-- A store of true. -/
theorem own_set1 {w : World} {B g R a : Nat} {l : List Int} (h : w.ownsRow B 4 1 (.slice (some ⟨g, 0, none⟩) R R) R (bools l R)) (ha : a < R) :
    w.frozen? ⟨g, a, none⟩ = false ∧ (∃ u, w.cell? ⟨g, a, none⟩ = some (.bool u)) ∧ (w.setCell ⟨g, a, none⟩ (.bool true)).ownsRow B 4 1 (.slice (some ⟨g, 0, none⟩) R R) R (bools (l ++ [(a : Int)]) R) := by
  refine ⟨h.frozenAt _, ⟨_, by rw [h.cellAt _ (by omega)]; exact bools_at _ ha⟩, ?_⟩
  have h1 := (h.stored a (.bool true)).1
  rw [bools_set _ ha] at h1
  exact h1

set_option maxRecDepth 100000 in
set_option maxHeartbeats 2000000 in
theorem used_any (B N R : Nat) (A1 A2 A : Option Addr) (c1 c2 c : Nat) (p : Pl) (w : World) (hpn : p.n = N) (h6 : N ≤ 6) (hs40 : p.s.length ≤ 40) (ho6 : p.o.length ≤ 6) (hR : R = N + p.s.length) (hB : B ≤ w.heap.size) (hok : OkS N p.s)
    (hout : ∀ x ∈ p.o, 0 ≤ x ∧ x < (N : Int) + p.s.length) (hr : RdP w B A1 A2 p) :
    Calls Try.prog 97 #[.agg #[.int .i64 p.n, .slice A1 p.s.length c1, .slice A2 p.o.length c2, .slice A R c]] w fun e w' =>
      ∃ A' c', e = .returned (.slice A' R c') ∧ w'.ownsRow w.heap.size 4 1 (.slice A' R c') R (bools (needI N p.s p.o p.s.length) R) ∧ Below w.heap.size w w' := by
  have H := Lib.hid hr
  have HO := Lib.hid hok
  have HOUT := Lib.hid hout
  have HR := Lib.hid hR
  have hR46 : R ≤ 46 := by omega
  clear hr hok hout hR
  rw [hpn]
  clear hpn
  have hmk := run_make_row' (P := Try.prog) 95 4 (.bool false) 1 Try.underlying95 info_bool rfl .i64 .i64 R (by omega) (by omega)
  go_enter Try.func97, Try.ntmps97
  go_wp2
  clear hmk
  generalize hw1 : World.alloc w _ = w1
  obtain ⟨x0, x1, x2, x3, xs, xb⟩ := box4 hw1
  clear hw1
  rw [← xs]
  generalize hw2 : World.alloc w1 _ = w2
  have hmade : w2.ownsRow (w.heap.size + 1) 4 1 (.slice (some ⟨w1.heap.size, 0, none⟩) R R) R (bools [] R) := by rw [← hw2]; exact bools_own R (by omega) (by omega)
  have hb2 : Below (w.heap.size + 1) w1 w2 := by rw [← hw2]; exact (Below.refl _ _).alloc (by omega) _
  clear hw2
  have y0 := (hb2.cell (p := ⟨w.heap.size, 0, none⟩) (by simp)).trans x0
  have y1 := (hb2.cell (p := ⟨w.heap.size, 1, none⟩) (by simp)).trans x1
  have y2 := (hb2.cell (p := ⟨w.heap.size, 2, none⟩) (by simp)).trans x2
  have HB2 := Lib.hid (xb.trans (hb2.mono (show w.heap.size ≤ w.heap.size + 1 by omega)))
  have HM := Lib.hid hmade
  have hg : w.heap.size + 1 ≤ w1.heap.size := by omega
  clear x0 x1 x2 x3 xs xb hb2 hmade
  go_loopw [16] (fun i wr => ∃ k : Nat, k ≤ p.o.length ∧ i = .int .i64 k ∧ wr.ownsRow (w.heap.size + 1) 4 1 (.slice (some ⟨w1.heap.size, 0, none⟩) R R) R (bools (p.o.take k) R) ∧ Below (w.heap.size + 1) w2 wr) (fun i _ => p.o.length - (intOf i).toNat)
  case atStart => exact ⟨0, by omega, rfl, HM.out, Below.refl _ _⟩
  case round =>
    obtain ⟨k, hk, rfl, hown, hbel⟩ := hrel
    by_cases hlt : k < p.o.length
    · obtain ⟨ob, oo, rfl, hob, hoc⟩ := ((H.out.2.below' HB2.out hB).below' hbel (by omega)).int hlt
      obtain ⟨q1, q2⟩ := HOUT.out _ (List.getElem_mem hlt)
      obtain ⟨v, hv⟩ : ∃ v : Nat, p.o[k] = v := ⟨(p.o[k]).toNat, by omega⟩
      have hvR : v < R := by have := HR.out; omega
      have ivR : (v : Int) < (R : Int) := by omega
      rw [hv] at hoc
      have HV := Lib.hid hv
      have hc : wr.cell? ⟨w1.heap.size, v, none⟩ = some (.bool (hasI (p.o.take k) v)) := by rw [hown.cellAt _ (by omega)]; exact bools_at _ hvR
      have hf : wr.frozen? ⟨w1.heap.size, v, none⟩ = false := hown.frozenAt _
      have OWN := Lib.hid hown
      have BEL := Lib.hid hbel
      clear hown hbel hv q1 q2
      go_wp2
      go_roundw
      case rel =>
        refine ⟨k + 1, by omega, by go_num, ?_, BEL.out.setCell hg _⟩
        have h := (OWN.out.stored v (.bool true)).1
        rw [bools_set _ hvR, ← HV.out, ← List.take_succ_eq_append_getElem hlt] at h
        exact h
      case measure => simp [intOf]; omega
    · have hk' : k = p.o.length := by omega
      subst hk'
      rw [List.take_of_length_le (Nat.le_refl _)] at hown
      have hs := hbel.size
      have hsl : w.heap.size + 1 ≤ w2.heap.size := by have := (own_block HM.out) _ rfl; omega
      have z0 := (hbel.cell (p := ⟨w.heap.size, 0, none⟩) (by simp)).trans y0
      have z1 := (hbel.cell (p := ⟨w.heap.size, 1, none⟩) (by simp)).trans y1
      have OWN := Lib.hid hown
      have HB3 := Lib.hid (HB2.out.trans (hbel.mono (show w.heap.size ≤ w.heap.size + 1 by omega)))
      clear hown hbel hs y0 y1 y2
      go_wp2
      go_loopw [6] (fun iv wq => ∃ (j : Nat) (x : Int), j ≤ p.s.length ∧ iv = .int .i64 x ∧ x = (p.s.length : Int) - 1 - j ∧ wq.ownsRow (w.heap.size + 1) 4 1 (.slice (some ⟨w1.heap.size, 0, none⟩) R R) R (bools (needI N p.s p.o j) R) ∧ Below (w.heap.size + 1) wr wq) (fun i _ => (intOf i + 1).toNat)
      case atStart => exact ⟨0, _, by omega, rfl, by simp, OWN.out, Below.refl _ _⟩
      case round =>
        obtain ⟨j, x, hj, rfl, hx, hown, hbel⟩ := hrel
        have v0 := (hbel.cell (p := ⟨w.heap.size, 0, none⟩) (by simp)).trans z0
        have v1 := (hbel.cell (p := ⟨w.heap.size, 1, none⟩) (by simp)).trans z1
        by_cases hlt : j < p.s.length
        · obtain ⟨i, hi⟩ : ∃ i : Nat, p.s.length - 1 - j = i := ⟨_, rfl⟩
          have hxi : x = (i : Int) := by omega
          subst hxi
          have hil : i < p.s.length := by omega
          have iil : (i : Int) < (p.s.length : Int) := by omega
          have iR : (N : Int) + (i : Int) < (R : Int) := by have := HR.out; omega
          have hc : wr.cell? ⟨w1.heap.size, N + i, none⟩ = some (.bool (hasI (needI N p.s p.o j) ((N : Int) + (i : Int)))) := by
            rw [hown.cellAt _ (by omega), bools_at _ (by omega), Int.natCast_add]
          obtain ⟨o1, o2, o3⟩ := HO.out i hil
          obtain ⟨a, ha⟩ : ∃ a : Nat, (p.s[i]).1 = a := ⟨(p.s[i]).1.toNat, by omega⟩
          obtain ⟨b, hb⟩ : ∃ b : Nat, (p.s[i]).2 = b := ⟨(p.s[i]).2.toNat, by omega⟩
          obtain ⟨sb, off, rfl, hsb, hc1, hc2⟩ := ((H.out.1.below' HB3.out hB).below' hbel (by omega)).stp hil
          rw [ha] at hc1
          rw [hb] at hc2
          have haR : a < R := by omega
          have hbR : b < R := by omega
          have iaR : (a : Int) < (R : Int) := by omega
          have ibR : (b : Int) < (R : Int) := by omega
          have HI := Lib.hid hi
          have HA := Lib.hid ha
          have HBb := Lib.hid hb
          have OWN2 := Lib.hid hown
          have BEL := Lib.hid hbel
          have hm1 := own_set1 hown haR
          clear hx hi ha hb hown hbel o1 o2 o3
          cases hq : hasI (needI N p.s p.o j) ((N : Int) + (i : Int)) with
          | false =>
            rw [hq] at hc
            have HQ := Lib.hid hq
            clear hq hm1
            go_wp2
            go_roundw
            case rel => exact ⟨j + 1, _, by omega, rfl, by have := HI.out; omega, by rw [need_miss HI.out HQ.out]; exact OWN2.out, BEL.out⟩
            case measure => simp [intOf]
          | true =>
            rw [hq] at hc
            have HQ := Lib.hid hq
            clear hq
            obtain ⟨f1, ⟨u1, g1⟩, m1⟩ := hm1
            obtain ⟨f2, ⟨u2, g2⟩, m2⟩ := own_set1 m1 hbR
            have hbW : Below (w.heap.size + 1) wr (wr.setCell ⟨w1.heap.size, a, none⟩ (.bool true)) := (Below.refl _ _).setCell hg _
            have e1 := (hbW.cell (p := ⟨w.heap.size, 1, none⟩) (by simp)).trans v1
            have e2 := (hbW.cell (p := ⟨sb, off + i * 2 + 1, none⟩) (by simp only []; omega)).trans hc2
            have HW := Lib.hid hbW
            have M2 := Lib.hid m2
            clear hbW m1 m2
            go_wp2
            go_roundw
            case rel =>
              refine ⟨j + 1, _, by omega, rfl, by have := HI.out; omega, ?_, (BEL.out.trans HW.out).setCell hg _⟩
              rw [need_hit hil HI.out HQ.out, HA.out, HBb.out]
              have h := M2.out
              rw [List.append_assoc] at h
              exact h
            case measure => simp [intOf]
        · have hj' : j = p.s.length := by omega
          subst hj'
          have hx1 : x = -1 := by omega
          subst hx1
          have OWN2 := Lib.hid hown
          have HB4 := Lib.hid (HB3.out.trans (hbel.mono (show w.heap.size ≤ w.heap.size + 1 by omega)))
          clear hown hbel
          go_wp2
          go_ret
          exact ⟨_, _, rfl, own_base OWN2.out (by omega), HB4.out⟩

def usP (N : Nat) (s : List (Int × Int)) (o : List Int) (k : Nat) : List Int := ((List.range k).filter (finI N s o)).map fun i : Nat => (i : Int)
theorem usP_all (N : Nat) (s : List (Int × Int)) (o : List Int) : usP N s o s.length = usd N s o := by
  unfold usP usd usT
  rw [Nat.sub_self, List.range_eq_range']
theorem usP_len (N : Nat) (s : List (Int × Int)) (o : List Int) (k : Nat) : (usP N s o k).length ≤ k := by
  unfold usP
  rw [List.length_map]
  exact Nat.le_trans (List.length_filter_le _ _) (by simp)
theorem usP_hit {N : Nat} {s : List (Int × Int)} {o : List Int} {k : Nat} (h : finI N s o k = true) : usP N s o (k + 1) = usP N s o k ++ [(k : Int)] := by
  unfold usP
  rw [List.range_succ, List.filter_append, List.map_append]
  simp [h]
theorem usP_miss {N : Nat} {s : List (Int × Int)} {o : List Int} {k : Nat} (h : finI N s o k = false) : usP N s o (k + 1) = usP N s o k := by
  unfold usP
  rw [List.range_succ, List.filter_append, List.map_append]
  simp [h]

set_option maxRecDepth 100000 in
set_option maxHeartbeats 2000000 in
theorem usedSteps_any (B N R : Nat) (A1 A2 A : Option Addr) (c1 c2 c : Nat) (p : Pl) (w : World) (hpn : p.n = N) (h6 : N ≤ 6) (hs40 : p.s.length ≤ 40) (ho6 : p.o.length ≤ 6) (hR : R = N + p.s.length) (hB : B ≤ w.heap.size) (hok : OkS N p.s)
    (hout : ∀ x ∈ p.o, 0 ≤ x ∧ x < (N : Int) + p.s.length) (hr : RdP w B A1 A2 p) :
    Calls Try.prog 85 #[.agg #[.int .i64 p.n, .slice A1 p.s.length c1, .slice A2 p.o.length c2, .slice A R c]] w fun e w' =>
      ∃ A' c', e = .returned (.slice A' (usd N p.s p.o).length c') ∧ OwI w' w.heap.size (.slice A' (usd N p.s p.o).length c') (usd N p.s p.o) ∧ Below w.heap.size w w' := by
  have H := Lib.hid hr
  have HO := Lib.hid hok
  have HOUT := Lib.hid hout
  have HR := Lib.hid hR
  have hR46 : R ≤ 46 := by omega
  have HPN := Lib.hid hpn
  clear hr hok hout hR hpn
  go_enter Try.func85, Try.ntmps85
  go_wp2_with fail
  go_at_call 97
  generalize hw1 : World.alloc w _ = w1
  obtain ⟨x0, x1, x2, x3, xs, xb⟩ := box4 hw1
  clear hw1
  refine (used_any B N R A1 A2 A c1 c2 c p w1 HPN.out h6 hs40 ho6 HR.out (by omega) HO.out HOUT.out (H.out.below' xb hB)).mono ?_
  rintro e w2 ⟨A3, c3, rfl, hown2, hb2⟩
  rw [xs] at hown2 hb2
  have y0 := (hb2.cell (p := ⟨w.heap.size, 0, none⟩) (by simp)).trans x0
  have y1 := (hb2.cell (p := ⟨w.heap.size, 1, none⟩) (by simp)).trans x1
  rw [HPN.out] at y0
  have hs2 : w.heap.size + 1 ≤ w2.heap.size := by have := hb2.size; omega
  have HB2 := Lib.hid (xb.trans (hb2.mono (show w.heap.size ≤ w.heap.size + 1 by omega)))
  have HOWN := Lib.hid hown2
  clear x0 x1 x2 x3 xs xb hb2 hown2
  go_wp2
  go_loopw [4, 12] (fun ou iv wr => ∃ (k : Nat) (A : Option Addr) (c : Nat), k ≤ p.s.length ∧ iv = .int .i64 k ∧ ou = .slice A (usP N p.s p.o k).length c ∧ OwI wr (w.heap.size + 1) ou (usP N p.s p.o k) ∧
    wr.ownsRow (w.heap.size + 1) 4 1 (.slice A3 R c3) R (bools (needI N p.s p.o p.s.length) R) ∧ Below (w.heap.size + 1) w2 wr) (fun _ i _ => p.s.length - (intOf i).toNat)
  case atStart => exact ⟨0, none, 0, by omega, rfl, rfl, by simpa [usP] using OwI.nil w2 (w.heap.size + 1), HOWN.out, Below.refl _ _⟩
  case round =>
    obtain ⟨k, A4, c4, hk, rfl, rfl, hou, hus, hbel⟩ := hrel
    have hsz : w.heap.size + 1 ≤ wr.heap.size := by have := hbel.size; omega
    have z0 := (hbel.cell (p := ⟨w.heap.size, 0, none⟩) (by simp)).trans y0
    have hul := usP_len N p.s p.o k
    by_cases hlt : k < p.s.length
    · have iR : (N : Int) + (k : Int) < (R : Int) := by have := HR.out; omega
      obtain ⟨g, rfl, _, _, hcs, _⟩ := own_at hus (by have := HR.out; omega)
      have hc : wr.cell? ⟨g, N + k, none⟩ = some (.bool (finI N p.s p.o k)) := by
        rw [hcs _ (by omega), bools_at _ (by omega), Int.natCast_add]
        rfl
      have HOU := Lib.hid hou
      have HUS := Lib.hid hus
      have HBL := Lib.hid hbel
      clear hou hus hbel hcs
      cases hq : finI N p.s p.o k with
      | false =>
        rw [hq] at hc
        have HQ := Lib.hid hq
        clear hq
        go_wp2
        go_roundw
        case rel => exact ⟨k + 1, A4, c4, by omega, by go_num, by rw [usP_miss HQ.out], by rw [usP_miss HQ.out]; exact HOU.out, HUS.out, HBL.out⟩
        case measure => simp [intOf]; omega
      | true =>
        rw [hq] at hc
        have HQ := Lib.hid hq
        clear hq
        go_wp2_with (at_builtin; refine list_step (fun K hK => ?_); refine step_app_int rfl (.tmp 23) (.tmp 25) rfl (w.heap.size + 1) (usP N p.s p.o k).length _ (usP N p.s p.o k) rfl (HOU.out.alloc _) rfl wr.heap.size 1 (k : Int) rfl (by simp) (by omega) (by simp; omega) ?_; intro A5 c5 w5 hown5 hg5 hbel5; go_simp; refine hK _ _ ?_; clear hK K)
        go_roundw
        case rel =>
          refine ⟨k + 1, A5, c5, by omega, by go_num, by rw [usP_hit HQ.out]; simp, by rw [usP_hit HQ.out]; exact hown5, ?_, (HBL.out.alloc hsz _).trans hbel5⟩
          exact World.ownsRow.kept (World.ownsRow.alloc HUS.out _) hg5 (own_ne (World.ownsRow.alloc HUS.out (Obj.cells #[Value.int IntKind.i64 (k : Int)] 3)) (OwI.alloc HOU.out _) (by decide))
        case measure => simp [intOf]; omega
    · have hk' : k = p.s.length := by omega
      subst hk'
      have HOU := Lib.hid hou
      have HB3 := Lib.hid (HB2.out.trans (hbel.mono (show w.heap.size ≤ w.heap.size + 1 by omega)))
      clear hou hus hbel
      go_wp2
      go_ret
      have h := HOU.out
      rw [usP_all] at h
      exact ⟨A4, c4, by rw [usP_all]; rfl, h.base (by omega), HB3.out⟩
end Go.Proofs.Ytbbjgcagkmlngac
