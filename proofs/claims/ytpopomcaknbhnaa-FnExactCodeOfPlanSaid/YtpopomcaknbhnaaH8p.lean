/- Sums, products and trims of polynomials by the model and by the program. -/
import Derived.Test.YtpopomcaknbhnaaH8a
import Derived.Test.YtpopomcaknbhnaaSa
import Derived.Test.YtpopomcaknbhnaaAp
import Derived.Test.YtpopomcaknbhnaaQl
namespace Go.Proofs.Ytpopomcaknbhnaa
open Go.RowKit

theorem T_lq1 {P : Program} {ops : Array Oper} {Q : Exit → Act → World → Prop} {S : World → Prop} {SL : List Nat} {i : Nat} {t : Tr} {o : Oper} {a : Act} {w : World} {v : Value} (ho : ops[i]? = some o) (hg : o.guard = none)
    (hv : ∀ x, (execOp a.eval o).run P x = .ok (.value v) x) (h : ∀ K : Act → Prop, (∀ a, wpT P ops Q S SL t a w → K a) → K (a.put o.dst v)) : wpT P ops Q S SL (.lp i t) a w :=
  ⟨o, ho, by rw [if_pos (by simp [Region.wanted, hg])]; exact ⟨v, fun x _ => hv x, h _ fun _ h => h⟩⟩

def tb (n : Nat) (F : Nat → Int) : List Int := (List.range n).map F
theorem tb_len (n : Nat) (F : Nat → Int) : (tb n F).length = n := by simp [tb]
theorem tb_at {n i : Nat} (F : Nat → Int) (h : i < n) : ((tb n F).map I)[i]? = some (I (F i)) := by simp [tb, h]
theorem tb_congr {n : Nat} {F G : Nat → Int} (h : ∀ i, i < n → F i = G i) : tb n F = tb n G := by
  unfold tb
  apply List.map_congr_left
  intro i hi
  exact h i (List.mem_range.1 hi)
theorem tb_set {n k : Nat} {F G : Nat → Int} {v : Int} (_hk : k < n) (h1 : G k = v) (h2 : ∀ i, i < n → i ≠ k → G i = F i) : ((tb n F).map I).set k (I v) = (tb n G).map I := by
  rw [← List.map_set]
  congr 1
  apply List.ext_getElem
  · simp [tb]
  · intro i hi hi'
    rw [tb_len] at hi'
    rw [List.getElem_set]
    by_cases e : k = i
    · subst e; simp [tb, h1]
    · rw [if_neg e]; simp only [tb, List.getElem_map, List.getElem_range]; exact (h2 i hi' (Ne.symm e)).symm
theorem tb_low {n k : Nat} {F : Nat → Int} {x : Int} (hk : k < n) (h : F k = x) : ((tb n (fun i => if i < k then F i else 0)).map I).set k (I x) = (tb n (fun i => if i < k + 1 then F i else 0)).map I :=
  tb_set hk (by rw [if_pos (by omega), h]) fun i _ hne => by
    by_cases h : i < k
    · rw [if_pos h, if_pos (by omega)]
    · rw [if_neg h, if_neg (by omega)]
theorem tb_add {n k : Nat} {F G : Nat → Int} {x y : Int} (hk : k < n) (h : F k = y) (h' : G k = x) : ((tb n (fun i => if i < k then F i + G i else F i)).map I).set k (I (y + x)) = (tb n (fun i => if i < k + 1 then F i + G i else F i)).map I :=
  tb_set hk (by rw [if_pos (by omega), h, h']) fun i _ hne => by
    by_cases h : i < k
    · rw [if_pos h, if_pos (by omega)]
    · rw [if_neg h, if_neg (by omega)]
theorem tb_zero (n : Nat) : List.replicate n (0 : Int) = tb n (fun _ => 0) := by
  apply List.ext_getElem
  · simp [tb]
  · intro i h1 h2; simp [tb]
theorem pt_tb (n : Nat) (F : Nat → Int) : pt (at0 (tb n F)) (tb n F).length = pt F n := pt_map F n
theorem zeros_own8 {w : World} {B : Nat} (n : Nat) (hn : n ≤ 1000) (hB : B ≤ w.heap.size) :
    (w.alloc (.cells (madeCells #[Value.int .i64 0] n) 3)).ownsRow B 3 1 (.slice (some ⟨w.heap.size, 0, none⟩) n n) n ((tb n (fun _ => 0)).map I) := by
  have h := World.ownsRow_lit (base := B) (e := 3) (size := 1) w (madeCells #[Value.int .i64 0] n) n hB (by unfold maxLen; omega) (by simp [size_madeCells])
  rw [toList_madeCells_one] at h
  rw [← tb_zero, List.map_replicate]
  exact h
theorem own_tb {w : World} {B n c : Nat} {A : Option Addr} {F : Nat → Int} (h : w.ownsRow B 3 1 (.slice A n c) n ((tb n F).map I)) : OwI w B (.slice A (tb n F).length c) (tb n F) := by
  unfold OwI
  rw [tb_len]
  exact h
theorem Rd.pre {w : World} {B k : Nat} {A : Option Addr} {l : List Int} (h : Rd w B 1 A l.length (l.map I)) (hk : k ≤ l.length) : Rd w B 1 A (l.take k).length ((l.take k).map I) := by
  have e : (l.take k).length = k := by simp; omega
  rw [e]
  refine ⟨by simp; omega, fun hn => ?_⟩
  obtain ⟨b, off, e, hb, hc⟩ := h.2 (by omega)
  refine ⟨b, off, e, hb, fun j hj => ?_⟩
  rw [hc j (by omega), List.map_take, List.getElem?_take_of_lt (by omega)]
/-- A beginning of an own slice. -/
theorem OwI.pre {w : World} {B k c : Nat} {A : Option Addr} {l : List Int} (h : OwI w B (.slice A l.length c) l) (hk : k ≤ l.length) : OwI w B (.slice A k c) (l.take k) := by
  unfold OwI at h ⊢
  have e : (l.take k).length = k := by simp; omega
  rw [e]
  refine ⟨by simp; omega, ?_⟩
  rcases h.2 with ⟨hv, h0⟩ | ⟨g, cap, cur, hv, hb, hg, hc, hm, hs, ht⟩
  · simp only [Value.slice.injEq] at hv
    obtain ⟨rfl, _, rfl⟩ := hv
    have : k = 0 := by omega
    subst this
    exact .inl ⟨rfl, rfl⟩
  · simp only [Value.slice.injEq] at hv
    obtain ⟨rfl, _, rfl⟩ := hv
    refine .inr ⟨g, c, cur, rfl, hb, hg, by omega, hm, hs, ?_⟩
    have h2 := congrArg (List.take k) ht
    rw [List.take_take, show min k (l.length * 1) = k * 1 by omega] at h2
    rw [h2, List.map_take]

set_option maxRecDepth 100000 in
set_option maxHeartbeats 1000000 in
theorem poTrim_any (B : Nat) (A : Option Addr) (c : Nat) (l : List Int) (w : World) (hm : l.length ≤ 1000) (hcap : l.length ≤ c) (hB : B ≤ w.heap.size) (hr : Rd w B 1 A l.length (l.map I)) :
    Calls Try.prog 142 #[.slice A l.length c] w fun e w' => ∃ A' c', e = .returned (.slice A' (pt (at0 l) l.length).length c') ∧ OwI w' w.heap.size (.slice A' (pt (at0 l) l.length).length c') (pt (at0 l) l.length) ∧ Below w.heap.size w w' := by
  have H := Lib.hid hr
  have HO := Lib.hid (fun k (hk : k ≤ l.length) => l1Own_any B A c (l.take k) w (by simp; omega) hB (hr.pre hk))
  obtain ⟨T, hT⟩ : ∃ T, pt (at0 l) l.length = T := ⟨_, rfl⟩
  have E := Lib.hid (hT.symm.trans (pt_take l))
  rw [hT]
  clear hr hT
  go_enter Try.func142, Try.ntmps142
  go_wp2
  go_loopw [3] (fun iv wr => ∃ k : Nat, k ≤ l.length ∧ iv = .int .i64 (k : Int) ∧ Hid (dg (at0 l) l.length = dg (at0 l) k) ∧ wr = w) (fun i _ => (intOf i).toNat)
  case atStart => exact ⟨l.length, Nat.le_refl _, rfl, Lib.hid rfl, rfl⟩
  case round =>
    obtain ⟨k, hk, rfl, hd, rfl⟩ := hrel
    have fin : dg (at0 l) k = k → T = l.take k ∧ T.length = k := fun h => by
      have e := E.out
      rw [hd.out, h] at e
      exact ⟨e, by rw [e]; simp; omega⟩
    have FIN := Lib.hid fin
    clear fin
    cases k with
    | zero =>
      obtain ⟨hT, hT3⟩ := FIN.out rfl
      have ho := HO.out 0 (Nat.zero_le _)
      rw [← hT, hT3] at ho
      have T3 := Lib.hid hT3
      have HO0 := Lib.hid ho
      clear ho hT hT3
      go_wp2_with (go_at_call 75; refine HO0.out.mono ?_; rintro e w' ⟨A2, c2, rfl, ho2, hb2⟩)
      go_ret
      exact ⟨A2, c2, by rw [T3.out]; rfl, by rw [T3.out]; exact ho2, hb2⟩
    | succ j =>
      have hlt : j < l.length := by omega
      obtain ⟨b, off, rfl, hb, hc⟩ := H.out.int hlt
      by_cases hz : l[j] = 0
      · have D := Lib.hid (show dg (at0 l) l.length = dg (at0 l) j by rw [hd.out]; simp only [dg]; rw [at0_lt hlt, if_pos hz])
        rw [hz] at hc
        clear hz
        have i1 : (0 : Int) < ((j + 1 : Nat) : Int) := by omega
        have i2 : ((j + 1 : Nat) : Int) - 1 = (j : Int) := by omega
        have i3 : (j : Int) < (l.length : Int) := by omega
        go_wp2
        go_roundw
        case rel => exact ⟨j, by omega, by go_num, D, trivial⟩
        case measure => simp [intOf]
      · have D := Lib.hid (show dg (at0 l) (j + 1) = j + 1 by simp only [dg]; rw [at0_lt hlt, if_neg hz])
        have hz2 : (l[j] == 0) = false := by simpa using hz
        obtain ⟨x, hx⟩ : ∃ x, l[j] = x := ⟨_, rfl⟩
        rw [hx] at hc hz2
        obtain ⟨hT, hT3⟩ := FIN.out D.out
        have ho := HO.out (j + 1) hk
        rw [← hT, hT3] at ho
        have T3 := Lib.hid hT3
        have HO1 := Lib.hid ho
        have i1 : (0 : Int) < ((j + 1 : Nat) : Int) := by omega
        have i2 : ((j + 1 : Nat) : Int) - 1 = (j : Int) := by omega
        have i3 : (j : Int) < (l.length : Int) := by omega
        have i4 : ((j + 1 : Nat) : Int) ≤ (c : Int) := by omega
        clear ho hT hT3 hz hx
        go_wp2_with (go_at_call 75; refine HO1.out.mono ?_; rintro e w' ⟨A2, c2, rfl, ho2, hb2⟩)
        go_ret
        exact ⟨A2, c2, by rw [T3.out]; rfl, by rw [T3.out]; exact ho2, hb2⟩

set_option maxRecDepth 100000 in
set_option maxHeartbeats 1000000 in
theorem trimZ_any (B : Nat) (A : Option Addr) (c : Nat) (l : List Int) (w : World) (hm : l.length ≤ 1000) (hown : OwI w B (.slice A l.length c) l) :
    Calls Try.prog 183 #[.slice A l.length c] w fun e w' => e = .returned (.slice A (pt (at0 l) l.length).length c) ∧ OwI w B (.slice A (pt (at0 l) l.length).length c) (pt (at0 l) l.length) ∧ w' = w := by
  have H := Lib.hid hown.rd
  have hcap := hown.cap
  have OW := Lib.hid hown
  obtain ⟨T, hT⟩ : ∃ T, pt (at0 l) l.length = T := ⟨_, rfl⟩
  have E := Lib.hid (hT.symm.trans (pt_take l))
  rw [hT]
  clear hown hT
  go_enter Try.func183, Try.ntmps183
  go_wp2
  go_loopw [0] (fun iv wr => ∃ k : Nat, k ≤ l.length ∧ iv = .slice A k c ∧ Hid (dg (at0 l) l.length = dg (at0 l) k) ∧ wr = w) (fun i _ => match i with | .slice _ n _ => n | _ => 0)
  case atStart => exact ⟨l.length, Nat.le_refl _, rfl, Lib.hid rfl, rfl⟩
  case round =>
    obtain ⟨k, hk, rfl, hd, rfl⟩ := hrel
    have fin : dg (at0 l) k = k → T.length = k ∧ OwI wr B (.slice A k c) T := fun h => by
      have e := E.out
      rw [hd.out, h] at e
      exact ⟨by rw [e]; simp; omega, by rw [e]; exact OW.out.pre hk⟩
    have FIN := Lib.hid fin
    clear fin
    cases k with
    | zero =>
      obtain ⟨hT3, hT4⟩ := FIN.out rfl
      have T3 := Lib.hid hT3
      have O4 := Lib.hid hT4
      clear hT3 hT4
      go_wp2
      go_ret
      exact ⟨by rw [T3.out]; rfl, by rw [T3.out]; exact O4.out, rfl⟩
    | succ j =>
      have hlt : j < l.length := by omega
      obtain ⟨b, off, rfl, hb, hc⟩ := H.out.int hlt
      have i1 : (0 : Int) < ((j + 1 : Nat) : Int) := by omega
      have i2 : ((j + 1 : Nat) : Int) - 1 = (j : Int) := by omega
      by_cases hz : l[j] = 0
      · have D := Lib.hid (show dg (at0 l) l.length = dg (at0 l) j by rw [hd.out]; simp only [dg]; rw [at0_lt hlt, if_pos hz])
        rw [hz] at hc
        have i4 : (j : Int) ≤ (c : Int) := by omega
        clear hz
        go_wp2
        go_roundw
        case rel => exact ⟨j, by omega, by go_num, D, trivial⟩
        case measure => simp
      · have D := Lib.hid (show dg (at0 l) (j + 1) = j + 1 by simp only [dg]; rw [at0_lt hlt, if_neg hz])
        have hz2 : (l[j] == 0) = false := by simpa using hz
        obtain ⟨x, hx⟩ : ∃ x, l[j] = x := ⟨_, rfl⟩
        rw [hx] at hc hz2
        obtain ⟨hT3, hT4⟩ := FIN.out D.out
        have T3 := Lib.hid hT3
        have O4 := Lib.hid hT4
        clear hT3 hT4 hz hx
        go_wp2
        go_ret
        exact ⟨by rw [T3.out]; rfl, by rw [T3.out]; exact O4.out, rfl⟩

theorem most_max (a b : Nat) : mostI (a : Int) (b : Int) = ((max a b : Nat) : Int) := by
  unfold mostI
  split <;> omega
end Go.Proofs.Ytpopomcaknbhnaa
