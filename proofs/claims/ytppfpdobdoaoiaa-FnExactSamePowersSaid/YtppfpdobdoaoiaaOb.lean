/- The exponents of all outputs, of the model and of the program. -/
import Derived.Test.YtppfpdobdoaoiaaOa
import Derived.Test.YtppfpdobdoaoiaaVe
import Derived.Test.YtppfpdobdoaoiaaKd
namespace Go.Proofs.Ytppfpdobdoaoiaa
open Go.RowKit

/-- The exponents of output i. -/
def pw (p : Pl) (N : Nat) (i : Nat) : List Int := (exps N p.s).getD (p.o.getD i 0).toNat []
theorem pw_at {p : Pl} {N v : Nat} {i : Nat} (hi : i < p.o.length) (hv : p.o[i] = (v : Int)) (hlt : v < (exps N p.s).length) : pw p N i = (exps N p.s)[v] := by
  unfold pw
  have e : p.o.getD i 0 = (v : Int) := by simp [hi, hv]
  rw [e]
  simp [hlt]
theorem info_nilS : (Try.prog.info? 25).map (fun i => (i.zero, i.size, i.bytes)) = some (some (.slice none 0 0), 1, 24) := info_ints

set_option maxRecDepth 100000 in
set_option maxHeartbeats 2000000 in
theorem plPowers_any (B N : Nat) (A1 A2 : Option Addr) (c1 c2 : Nat) (p : Pl) (w : World) (hpn : p.n = N) (n1 : 1 ≤ N) (h6 : N ≤ 6) (hs40 : p.s.length ≤ 40) (ho6 : p.o.length ≤ 6) (hB : B ≤ w.heap.size) (hok : OkS N p.s) (hout : ∀ x ∈ p.o, 0 ≤ x ∧ x < (N : Int) + p.s.length) (hr : RdP w B A1 A2 p) :
    Calls Try.prog 76 #[.agg #[.int .i64 p.n, .slice A1 p.s.length c1, .slice A2 p.o.length c2]] w fun e w' =>
      ∃ A c f, e = .returned (.slice A p.o.length c) ∧ OwL w' w.heap.size A c f N p.o.length (pw p N) ∧ Below w.heap.size w w' := by
  have hel := exps_length N p.s
  have hokr : OkR N (exps N p.s) := by have := exps_ok hok p.s.length (Nat.le_refl _); rwa [List.take_of_length_le (Nat.le_refl _)] at this
  have hpe := fun W hBW hrW => plExponents_any w.heap.size N A1 A2 c1 c2 p W hpn n1 h6 (by omega) hBW hok hrW
  have hin : ∀ x ∈ p.o, 0 ≤ x ∧ x < ((exps N p.s).length : Int) := fun x hx => by have := hout x hx; omega
  obtain ⟨E, hE⟩ : ∃ E, exps N p.s = E := ⟨_, rfl⟩
  rw [hE] at hel hokr hpe hin
  have hpw : ∀ (i v : Nat) (hi : i < p.o.length) (_ : p.o[i] = (v : Int)) (hlt : v < E.length), pw p N i = E[v] := fun i v hi hv hlt => by subst hE; exact pw_at hi hv hlt
  have HPE := Lib.hid hpe
  have HOKR := Lib.hid hokr
  have HPW := Lib.hid hpw
  have HIN := Lib.hid hin
  have H := Lib.hid hr
  have hEl : E.length ≤ 46 := by omega
  clear hr hok hpe hokr hE hel hpn hpw hin hout
  go_enter Try.func76, Try.ntmps76
  go_wp2_with fail
  go_at_call 72
  generalize hw1 : World.alloc w _ = w1
  obtain ⟨x0, x1, x2, xs, xb⟩ := box3 hw1
  clear hw1
  refine (HPE.out w1 (by omega) ((H.out.below' xb hB).more hB)).mono ?_
  rintro e w2 ⟨A3, c3, rfl, hrows, hb2⟩
  have HR := Lib.hid hrows
  have HB2 := Lib.hid (xb.trans (hb2.mono (show w.heap.size ≤ w1.heap.size by omega)))
  have hs1 : w1.heap.size = w.heap.size + 1 := xs
  have hs2 : w.heap.size + 1 ≤ w2.heap.size := by have := hb2.size; omega
  have y2 := (hb2.cell (p := ⟨w.heap.size, 2, none⟩) (by simp only []; omega)).trans x2
  clear x0 x1 x2 xs xb hb2 hrows
  go_wp2
  go_loopw [4, 12] (fun ov iv wr => ∃ (k : Nat) (A4 : Option Addr) (c4 : Nat) (f : Nat → Option Addr × Nat), k ≤ p.o.length ∧ iv = .int .i64 k ∧ ov = .slice A4 k c4 ∧ OwL wr w2.heap.size A4 c4 f N k (pw p N) ∧ Below w2.heap.size w2 wr) (fun _ i _ => p.o.length - (intOf i).toNat)
  case atStart => exact ⟨0, none, 0, fun _ => (none, 0), by omega, rfl, rfl, ⟨World.ownsRow_nil _ _ _ _, fun i hi => absurd hi (by omega)⟩, Below.refl _ _⟩
  case round =>
    obtain ⟨k, A4, c4, f, hk, rfl, rfl, hown, hbel⟩ := hrel
    have hsz := hbel.size
    have OWN := Lib.hid hown
    have BEL := Lib.hid hbel
    have HRr := Lib.hid (HR.out.below hbel)
    have hbw : Below w.heap.size w wr := HB2.out.trans (hbel.mono (by omega))
    by_cases hlt : k < p.o.length
    · obtain ⟨o1, o2⟩ := HIN.out _ (List.getElem_mem hlt)
      obtain ⟨ob, oo, rfl, hob, hoc⟩ := (H.out.below' hbw hB).2.int hlt
      obtain ⟨v, hv⟩ : ∃ v : Nat, p.o[k] = v := ⟨(p.o[k]).toNat, by omega⟩
      have hvl : v < E.length := by omega
      have ivl : (v : Int) < (E.length : Int) := by omega
      have hpk := HPW.out k v hlt hv hvl
      rw [hv] at hoc
      obtain ⟨g, B1, d1, rfl, hg, hcv, hov⟩ := HRr.out.at_ hvl
      have hEN : (E[v]).length = N := (HOKR.out _ (List.getElem_mem hvl)).1
      have hown1 := fun W hBW hrW => l1Own_any wr.heap.size B1 d1 (E[v]'hvl) W (by omega) hBW hrW
      rw [hEN] at hown1 hcv
      have HOW := Lib.hid hown1
      have HOV := Lib.hid hov
      have HPK := Lib.hid hpk
      have HEN := Lib.hid hEN
      clear hown hbel hbw hv o1 o2 hpk hov hown1 hEN
      go_wp2_with fail
      go_at_call 95
      refine (HOW.out wr (Nat.le_refl _) (by have h := HOV.out.rd; rw [HEN.out] at h; exact h)).mono ?_
      rintro e w5 ⟨A5, c5, rfl, hown5, hb5⟩
      have hown5' : w5.ownsRow w2.heap.size 3 1 (.slice A5 N c5) N ((pw p N k).map I) := by
        have h' : w5.ownsRow _ _ _ _ _ _ := hown5
        rw [HEN.out] at h'
        rw [HPK.out]
        exact own_base h' hsz
      have OWN5 := Lib.hid (OWN.out.below hb5)
      have ROW5 := Lib.hid hown5'
      have HB5 := Lib.hid (BEL.out.trans (hb5.mono hsz))
      have hs5 : w2.heap.size ≤ w5.heap.size := by have := hb5.size; omega
      clear hown5 hown5' hb5
      go_wp2_with (at_builtin; refine list_step (fun K hK => ?_); refine step_app1 Try.underlying33 info_ints rfl (by omega) rfl (.tmp 16) (.tmp 22) rfl w2.heap.size k _ (TT f N k) rfl (World.ownsRow.alloc OWN5.out.1 _) w5.heap.size 1 (.slice A5 N c5) rfl (by simp) rfl (by omega) (by simp; omega) ?_; intro A6 c6 w6 hown6 hg6 hbel6; go_simp; refine hK _ _ ?_; clear hK K)
      go_roundw
      case rel =>
        refine ⟨k + 1, A6, c6, upd f k (A5, c5), by omega, by go_num, rfl, ⟨?_, ?_⟩, (HB5.out.alloc hs5 _).trans hbel6⟩
        · rw [TT_upd]; exact hown6
        · intro i hi
          by_cases hik : i = k
          · subst hik
            have e : upd f i (A5, c5) i = (A5, c5) := by simp [upd]
            rw [e]
            exact World.ownsRow.kept (World.ownsRow.alloc ROW5.out _) hg6 (own_ne ROW5.out OWN5.out.1 (by decide))
          · have e : upd f k (A5, c5) i = f i := by simp [upd, hik]
            rw [e]
            have hrow := OWN5.out.2 i (by omega)
            exact World.ownsRow.kept (World.ownsRow.alloc hrow _) hg6 (own_ne hrow OWN5.out.1 (by decide))
      case measure => simp [intOf]; omega
    · have hk' : k = p.o.length := by omega
      subst hk'
      clear hown hbel hbw
      go_wp2
      go_ret
      exact ⟨A4, c4, f, rfl, OWN.out.base (by omega), HB2.out.trans (BEL.out.mono (by omega))⟩

theorem madeN (z : Value) (n : Nat) : (madeCells #[z] n).toList = List.replicate n z := toList_madeCells_one z n
theorem fill_tt (f : Nat → Option Addr × Nat) (N R k : Nat) (A : Option Addr) (c : Nat) (hk : k < R) :
    (TT f N k ++ List.replicate (R - k) (Value.slice none 0 0)).set k (Value.slice A N c) = TT (upd f k (A, c)) N (k + 1) ++ List.replicate (R - (k + 1)) (Value.slice none 0 0) := by
  rw [List.set_append_right _ _ (by rw [TT_length]; omega), TT_length, Nat.sub_self, show R - k = (R - (k + 1)) + 1 from by omega, List.replicate_succ, List.set_cons_zero, TT_upd]
  simp

set_option maxRecDepth 100000 in
set_option maxHeartbeats 2000000 in
theorem rows_any (B N : Nat) (A1 A2 A : Option Addr) (c1 c2 c : Nat) (p : Pl) (w : World) (n1 : 1 ≤ N) (h6 : N ≤ 6) (ho6 : p.o.length ≤ 6) (hB : B ≤ w.heap.size) (hok : OkS N p.s) (hout : ∀ x ∈ p.o, 0 ≤ x ∧ x < (N : Int) + p.s.length) (hr : RdP w B A1 A2 p)
    (hre : Rd w B 6 A (exps N p.s).length (fl6 ((exps N p.s).map (pad N)))) :
    Calls Try.prog 65 #[.agg #[.int .i64 (N : Int), .slice A1 p.s.length c1, .slice A2 p.o.length c2, .slice A (exps N p.s).length c]] w fun e w' =>
      ∃ A' c' f, e = .returned (.slice A' p.o.length c') ∧ OwL w' w.heap.size A' c' f N p.o.length (pw p N) ∧ Far f N p.o.length ∧ Below w.heap.size w w' := by
  have hel := exps_length N p.s
  have hokr : OkR N (exps N p.s) := by have := exps_ok hok p.s.length (Nat.le_refl _); rwa [List.take_of_length_le (Nat.le_refl _)] at this
  have hin : ∀ x ∈ p.o, 0 ≤ x ∧ x < ((exps N p.s).length : Int) := fun x hx => by have := hout x hx; omega
  obtain ⟨E, hE⟩ : ∃ E, exps N p.s = E := ⟨_, rfl⟩
  rw [hE] at hel hokr hin hre ⊢
  have hpw : ∀ (i v : Nat) (hi : i < p.o.length) (_ : p.o[i] = (v : Int)) (hlt : v < E.length), pw p N i = E[v] := fun i v hi hv hlt => by subst hE; exact pw_at hi hv hlt
  have hrow := fun (v : Nat) (hv : v < E.length) W hBW hrW => row_any B N v (.slice A1 p.s.length c1) (.slice A2 p.o.length c2) A c E W n1 h6 hokr hv hBW hrW
  have HROW := Lib.hid hrow
  have HOKR := Lib.hid hokr
  have HPW := Lib.hid hpw
  have HIN := Lib.hid hin
  have H := Lib.hid hr
  have HRE := Lib.hid hre
  clear hr hok hokr hE hel hpw hin hout hre hrow
  have hmk := run_make_row' (P := Try.prog) 33 25 (.slice none 0 0) 24 Try.underlying33 info_ints rfl .i64 .i64 p.o.length (by omega) (by omega)
  go_enter Try.func65, Try.ntmps65
  go_wp2
  clear hmk
  generalize hw1 : World.alloc w _ = w1
  obtain ⟨x0, x1, x2, x3, xs, xb⟩ := box4b hw1
  clear hw1
  rw [← xs]
  generalize hw2 : World.alloc w1 _ = w2
  have hmade : w2.ownsRow (w.heap.size + 1) 25 1 (.slice (some ⟨w1.heap.size, 0, none⟩) p.o.length p.o.length) p.o.length (List.replicate p.o.length (Value.slice none 0 0)) := by
    rw [← hw2]
    have h := World.ownsRow_lit (base := w.heap.size + 1) (e := 25) (size := 1) w1 (madeCells #[Value.slice none 0 0] p.o.length) p.o.length (by omega) (by unfold maxLen; omega) (by simp [size_madeCells])
    rw [madeN] at h
    exact h
  have hb2 : Below (w.heap.size + 1) w1 w2 := by rw [← hw2]; exact (Below.refl _ _).alloc (by omega) _
  have hs12 : w2.heap.size = w1.heap.size + 1 := by rw [← hw2]; simp
  clear hw2
  have y0 := (hb2.cell (p := ⟨w.heap.size, 0, none⟩) (by simp)).trans x0
  have y1 := (hb2.cell (p := ⟨w.heap.size, 1, none⟩) (by simp)).trans x1
  have y2 := (hb2.cell (p := ⟨w.heap.size, 2, none⟩) (by simp)).trans x2
  have y3 := (hb2.cell (p := ⟨w.heap.size, 3, none⟩) (by simp)).trans x3
  have HM := Lib.hid hmade
  have HB2 := Lib.hid (xb.trans (hb2.mono (show w.heap.size ≤ w.heap.size + 1 by omega)))
  have hg : w.heap.size + 1 ≤ w1.heap.size := by omega
  clear x0 x1 x2 x3 xs xb hmade hb2
  go_loopw [15] (fun iv wr => ∃ (k : Nat) (f : Nat → Option Addr × Nat), k ≤ p.o.length ∧ iv = .int .i64 k ∧ wr.ownsRow (w.heap.size + 1) 25 1 (.slice (some ⟨w1.heap.size, 0, none⟩) p.o.length p.o.length) p.o.length (TT f N k ++ List.replicate (p.o.length - k) (Value.slice none 0 0)) ∧
    OwE wr (w.heap.size + 1) f N k (pw p N) ∧ Far f N k ∧ Below (w.heap.size + 1) w2 wr) (fun i _ => p.o.length - (intOf i).toNat)
  case atStart => exact ⟨0, fun _ => (none, 0), by omega, rfl, by simpa [TT] using HM.out, fun i hi => absurd hi (by omega), fun i j hi => absurd hi (by omega), Below.refl _ _⟩
  case round =>
    obtain ⟨k, f, hk, rfl, hown, howe, hfar, hbel⟩ := hrel
    have hsz : w.heap.size + 1 ≤ wr.heap.size := by have := hbel.size; omega
    have z0 := (hbel.cell (p := ⟨w.heap.size, 0, none⟩) (by simp)).trans y0
    have z1 := (hbel.cell (p := ⟨w.heap.size, 1, none⟩) (by simp)).trans y1
    have z2 := (hbel.cell (p := ⟨w.heap.size, 2, none⟩) (by simp)).trans y2
    have z3 := (hbel.cell (p := ⟨w.heap.size, 3, none⟩) (by simp)).trans y3
    have hbw : Below w.heap.size w wr := HB2.out.trans (hbel.mono (by omega))
    have OWN := Lib.hid hown
    have OWE := Lib.hid howe
    have FAR := Lib.hid hfar
    have BEL := Lib.hid hbel
    have HBW := Lib.hid hbw
    clear hown howe hfar hbel hbw
    by_cases hlt : k < p.o.length
    · obtain ⟨o1, o2⟩ := HIN.out _ (List.getElem_mem hlt)
      obtain ⟨ob, oo, rfl, hob, hoc⟩ := (H.out.below' HBW.out hB).2.int hlt
      obtain ⟨v, hv⟩ : ∃ v : Nat, p.o[k] = v := ⟨(p.o[k]).toNat, by omega⟩
      have hvl : v < E.length := by omega
      have hpk := HPW.out k v hlt hv hvl
      rw [hv] at hoc
      have hEN : (E[v]).length = N := (HOKR.out _ (List.getElem_mem hvl)).1
      have hrw := HROW.out v hvl
      rw [hEN, ← hpk] at hrw
      have HRW := Lib.hid hrw
      have HPK := Lib.hid hpk
      have HEN := Lib.hid (show (pw p N k).length = N by rw [hpk]; exact hEN)
      clear hv o1 o2 hpk hrw hEN
      go_wp2_with fail
      go_at_call 74
      refine (HRW.out wr (by have := HBW.out.size; omega) (HRE.out.below' HBW.out hB)).mono ?_
      rintro e w5 ⟨A5, c5, rfl, hown5, hb5⟩
      have hrow5 : w5.ownsRow wr.heap.size 3 1 (.slice A5 N c5) N ((pw p N k).map I) := by
        have h' : w5.ownsRow _ _ _ _ _ _ := hown5
        rw [HEN.out] at h'
        exact h'
      have hl5 := own_below OWN.out hb5
      have hcl : w5.cell? ⟨w1.heap.size, k, none⟩ = some (Value.slice none 0 0) := by
        rw [hl5.cellAt _ (by omega)]
        exact rep_at (by rw [TT_length]; omega) (by rw [TT_length]; omega)
      have hfl : w5.frozen? ⟨w1.heap.size, k, none⟩ = false := hl5.frozenAt _
      have ROW5 := Lib.hid hrow5
      have L5 := Lib.hid hl5
      have OWE5 := Lib.hid (OWE.out.below hb5)
      have HB5 := Lib.hid (BEL.out.trans (hb5.mono hsz))
      clear hown5 hrow5 hl5 hb5
      go_wp2
      go_roundw
      case rel =>
        refine ⟨k + 1, upd f k (A5, c5), by omega, by go_num, ?_, ?_, ?_, HB5.out.setCell hg _⟩
        · have h := (L5.out.stored k (Value.slice A5 N c5)).1
          rw [fill_tt f N p.o.length k A5 c5 hlt] at h
          exact h
        · intro i hi
          by_cases hik : i = k
          · subst hik
            have e : upd f i (A5, c5) i = (A5, c5) := by simp [upd]
            rw [e]
            exact own_store_other (own_base ROW5.out (by omega)) L5.out (by decide) _
          · have e : upd f k (A5, c5) i = f i := by simp [upd, hik]
            rw [e]
            exact own_store_other (OWE5.out i (by omega)) L5.out (by decide) _
        · intro i j hi hj hij
          have hnew : ∀ t, (Value.slice A5 N c5).ownBlock = some t → wr.heap.size ≤ t := fun t ht => (own_block ROW5.out t ht).1
          have hold : ∀ q, q < k → ∀ t, (Value.slice (f q).1 N (f q).2).ownBlock = some t → t < wr.heap.size := fun q hq t ht => (own_block (OWE.out q hq) t ht).2
          by_cases hik : i = k
          · subst hik
            have ei : upd f i (A5, c5) i = (A5, c5) := by simp [upd]
            have ej : upd f i (A5, c5) j = f j := by simp [upd]; intro h; omega
            rw [ei, ej]
            cases hb : (Value.slice A5 N c5).ownBlock with
            | none => exact .inl rfl
            | some t =>
              right
              intro he
              have h1 := hnew t hb
              have h2 := hold j (by omega) t he.symm
              omega
          · have ei : upd f k (A5, c5) i = f i := by simp [upd, hik]
            rw [ei]
            by_cases hjk : j = k
            · subst hjk
              have ej : upd f j (A5, c5) j = (A5, c5) := by simp [upd]
              rw [ej]
              cases hb : (Value.slice (f i).1 N (f i).2).ownBlock with
              | none => exact .inl rfl
              | some t =>
                right
                intro he
                have h1 := hnew t he.symm
                have h2 := hold i (by omega) t hb
                omega
            · have ej : upd f k (A5, c5) j = f j := by simp [upd, hjk]
              rw [ej]
              exact FAR.out i j (by omega) (by omega) hij
      case measure => simp [intOf]; omega
    · have hk' : k = p.o.length := by omega
      subst hk'
      go_wp2
      go_ret
      have h := OWN.out
      rw [Nat.sub_self, List.replicate_zero, List.append_nil] at h
      exact ⟨_, _, f, rfl, ⟨own_base h (by omega), OWE.out.base (by omega)⟩, FAR.out, HBW.out⟩
end Go.Proofs.Ytppfpdobdoaoiaa
