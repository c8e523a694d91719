/- The texts of numbers, one by one, by the program. -/
import Derived.Test.YtbbjgcagkmlngadDoorTz
import Derived.Test.YtbbjgcagkmlngadDoorQg
namespace Go.Proofs.YtbbjgcagkmlngadDoor
open Go.RowKit

/-- The row behind k rounds. -/
def ntx (l : List Int) (k : Nat) : List Value := (l.take k).map (fun x => sv (ddI x)) ++ List.replicate (l.length - k) (.string ⟨#[]⟩)
theorem ntx_len (l : List Int) {k : Nat} (hk : k ≤ l.length) : (ntx l k).length = l.length := by simp [ntx]; omega
theorem ntx_set {l : List Int} {k : Nat} (hk : k < l.length) : (ntx l k).set k (sv (ddI l[k])) = ntx l (k + 1) := by
  unfold ntx
  rw [List.set_append_right _ _ (by rw [List.length_map, List.length_take]; omega)]
  have e : l.length - k = (l.length - (k + 1)) + 1 := by omega
  rw [show k - ((l.take k).map fun x => sv (ddI x)).length = 0 by simp; omega, e, List.replicate_succ, List.set_cons_zero, List.take_succ_eq_append_getElem hk, List.map_append, List.append_assoc]
  rfl
theorem ntx_zero (l : List Int) : ntx l 0 = List.replicate l.length (.string ⟨#[]⟩) := by simp [ntx]
theorem ntx_end (l : List Int) : ntx l l.length = (l.map ddI).map sv := by simp [ntx, List.map_map]

set_option maxRecDepth 100000 in
set_option maxHeartbeats 2000000 in
theorem numberTexts_any (B : Nat) (A : Option Addr) (c : Nat) (l : List Int) (w : World) (hl : l.length ≤ 1000) (hrng : ∀ x ∈ l, 0 ≤ x ∧ x ≤ 1000000) (hB : B ≤ w.heap.size) (hr : Rd w B 1 A l.length (l.map I)) (hT : Tab w) :
    Calls Tryd.prog 29 #[.slice A l.length c] w fun e w' => ∃ A' c', e = .returned (.slice A' l.length c') ∧ OwT w' w.heap.size (.slice A' l.length c') (l.map ddI) ∧ Below w.heap.size w w' := by
  have hmk : ∀ W : World, (Instr.makeSlice 52 (.int .i64 (l.length : Int)) (.int .i64 (l.length : Int))).run Tryd.prog W = .ok (.slice (some ⟨W.heap.size, 0, none⟩) l.length l.length) (W.alloc (.cells (madeCells #[.string ⟨#[]⟩] l.length) 9)) := run_make_row' (P := Tryd.prog) 52 9 (.string ⟨#[]⟩) 16 Tryd.underlying52 info_str rfl .i64 .i64 l.length (by omega) (by omega)
  have H := Lib.hid hr
  have RNG := Lib.hid hrng
  have HT := Lib.hid hT
  have hz := World.ownsRow_lit (base := w.heap.size) (e := 9) (size := 1) w (madeCells #[Value.string ⟨#[]⟩] l.length) l.length (Nat.le_refl _) (by unfold maxLen; omega) (by simp [size_madeCells])
  rw [toList_madeCells_one, ← ntx_zero] at hz
  have HZ := Lib.hid hz
  clear hr hrng hT hz
  go_enter Tryd.func29, Tryd.ntmps29
  go_wp2
  clear hmk
  generalize hw1 : World.alloc w _ = w1
  have h1 := HZ.out
  rw [hw1] at h1
  have hb : Below w.heap.size w w1 := by rw [← hw1]; exact (Below.refl _ _).alloc (Nat.le_refl _) _
  have H1 := Lib.hid h1
  have HB := Lib.hid hb
  clear hw1 h1 hb HZ
  go_loopw [11] (fun iv wr => ∃ k : Nat, k ≤ l.length ∧ iv = .int .i64 (k : Int) ∧ wr.ownsRow w.heap.size 9 1 (.slice (some ⟨w.heap.size, 0, none⟩) l.length l.length) l.length (ntx l k) ∧ Below w.heap.size w wr) (fun iv _ => l.length - (intOf iv).toNat)
  case atStart => exact ⟨0, by omega, rfl, H1.out, HB.out⟩
  case round =>
    obtain ⟨k, hk, rfl, hown, hbel⟩ := hrel
    have OWN := Lib.hid hown
    have BEL := Lib.hid hbel
    clear hown hbel
    by_cases hlt : k < l.length
    · obtain ⟨b, off, rfl, hbB, hcell⟩ := H.out.int hlt
      obtain ⟨x, hx⟩ : ∃ x, l[k] = x := ⟨_, rfl⟩
      have hxr := RNG.out x (by rw [← hx]; exact List.getElem_mem hlt)
      obtain ⟨m, rfl⟩ : ∃ m : Nat, x = m := ⟨x.toNat, by omega⟩
      have hset := ntx_set hlt
      rw [hx] at hcell hset
      have hc := (BEL.out.cell (p := ⟨b, off + k, none⟩) (by simp only []; omega)).trans hcell
      have HN := Lib.hid (itoa_any m wr (by omega) (HT.out.on BEL.out))
      obtain ⟨D, hDD⟩ : ∃ D, Lib.decDigits m = D := ⟨_, rfl⟩
      rw [show sv (ddI (m : Int)) = .string ⟨D.toArray⟩ by rw [← hDD]; rfl] at hset
      rw [hDD] at HN
      have HS := Lib.hid hset
      have il : (k : Int) < (l.length : Int) := by omega
      have hlen := ntx_len l hk
      have HL := Lib.hid hlen
      clear hcell hx hset hDD hlen
      go_wp2_with (go_at_call 51; refine HN.out.mono ?_; rintro e w2 ⟨rfl, hb2⟩; have o2 := own_below OWN.out hb2; have f2 := o2.frozenAt k; have c2 : ∃ v, w2.cell? ⟨w.heap.size, k, none⟩ = some v := ⟨_, by rw [o2.cellAt k (by omega), List.getElem?_eq_getElem (by rw [HL.out]; omega)]⟩; obtain ⟨v2, c2⟩ := c2; have s2 := o2.stored k (.string ⟨D.toArray⟩); have S2 := Lib.hid s2; have B2 := Lib.hid hb2; clear o2 s2 hb2)
      go_roundw
      case rel => exact ⟨k + 1, by omega, by go_num, by rw [← HS.out]; exact S2.out.1, (BEL.out.trans (B2.out.mono BEL.out.size)).setCell (Nat.le_refl _) _⟩
      case measure => simp [intOf]; omega
    · have e : k = l.length := by omega
      have il : ¬ (k : Int) < (l.length : Int) := by omega
      have OW := Lib.hid (show wr.ownsRow w.heap.size 9 1 (.slice (some ⟨w.heap.size, 0, none⟩) l.length l.length) l.length ((l.map ddI).map sv) from by
        have h := OWN.out
        rw [show ntx l k = (l.map ddI).map sv by rw [e]; exact ntx_end l] at h
        exact h)
      clear e OWN
      go_wp2
      go_ret
      exact ⟨_, _, rfl, by unfold OwT; rw [List.length_map]; exact OW.out, BEL.out⟩

theorem rng_of_chG {l : List Int} (h : chG l = true) : l.length ≤ 41 ∧ ∀ x ∈ l, 0 ≤ x ∧ x ≤ 1000000 := by
  have hc := chG_chn h
  refine ⟨hc.most, fun x hx => ?_⟩
  obtain ⟨i, hi, rfl⟩ := List.mem_iff_getElem.1 hx
  have := hc.rng i hi
  rw [List.getD_eq_getElem?_getD, List.getElem?_eq_getElem hi] at this
  simp at this
  omega
/-- What both sides answer to ChainText. -/
def chT (l : List Int) : List UInt8 := if chG l then txt 32 l else []
theorem chT_true {l : List Int} (h : chG l = true) : chT l = txt 32 l := by unfold chT; rw [if_pos h]
theorem chT_false {l : List Int} (h : chG l = false) : chT l = [] := by unfold chT; rw [h]; rfl

set_option maxRecDepth 100000 in
set_option maxHeartbeats 1000000 in
theorem specChainText_any (B : Nat) (A : Option Addr) (c : Nat) (l : List Int) (w : World) (hB : B ≤ w.heap.size) (hl : l.length ≤ 1048576) (_hcap : l.length ≤ c) (hr : Rd w B 1 A l.length (l.map I)) :
    Calls Tryd.prog 7 #[.slice A l.length c] w fun e w' => e = .returned (.tuple #[.string ⟨(chT l).toArray⟩, .bool (chG l)]) ∧ Below w.heap.size w w' := by
  have hS := chGood_any B A c l w hl hB hr
  have H := Lib.hid hr
  clear hr
  cases hg : chG l with
  | false =>
    have E := Lib.hid (chT_false hg)
    rw [hg] at hS
    have HS := Lib.hid hS
    clear hS hg
    go_enter Tryd.func7, Tryd.ntmps7
    go_wp2_with (go_at_call 25; refine HS.out.mono ?_; rintro e w2 ⟨rfl, hb2⟩)
    go_ret2
    exact ⟨by rw [E.out]; rfl, hb2⟩
  | true =>
    have E := Lib.hid (chT_true hg)
    obtain ⟨r1, r2⟩ := rng_of_chG hg
    have HC := Lib.hid (fun W (h : Below w.heap.size w W) => chText_any B A c l W (by omega) r2 (by have := h.size; omega) (H.out.below' h hB))
    rw [hg] at hS
    have HS := Lib.hid hS
    clear hS hg r2
    go_enter Tryd.func7, Tryd.ntmps7
    go_wp2_with (first | (go_at_call 25; refine HS.out.mono ?_; rintro e w2 ⟨rfl, hb2⟩) | (go_at_call 26; refine (HC.out _ hb2).mono ?_; rintro e w3 ⟨rfl, hb3⟩))
    go_ret2
    exact ⟨by rw [E.out]; rfl, hb2.trans (hb3.mono hb2.size)⟩
set_option maxRecDepth 100000 in
set_option maxHeartbeats 1000000 in
theorem implChainText_any (B : Nat) (A : Option Addr) (c : Nat) (l : List Int) (w : World) (hB : B ≤ w.heap.size) (hl : l.length ≤ 1048576) (hcap : l.length ≤ c) (hr : Rd w B 1 A l.length (l.map I)) (hT : Tab w) :
    Calls Tryd.prog 9 #[.slice A l.length c] w fun e w' => e = .returned (.tuple #[.string ⟨(chT l).toArray⟩, .bool (chG l)]) ∧ Below w.heap.size w w' := by
  have hS := implIsChain_any B A c l w hB hl hcap hr
  have H := Lib.hid hr
  have HT := Lib.hid hT
  clear hr hT
  cases hg : chG l with
  | false =>
    have E := Lib.hid (chT_false hg)
    rw [hg] at hS
    have HS := Lib.hid hS
    clear hS hg
    go_enter Tryd.func9, Tryd.ntmps9
    go_wp2_with (go_at_call 27; refine HS.out.mono ?_; rintro e w2 ⟨rfl, hb2⟩)
    go_ret2
    exact ⟨by rw [E.out]; rfl, hb2⟩
  | true =>
    have E := Lib.hid (chT_true hg)
    obtain ⟨r1, r2⟩ := rng_of_chG hg
    have HC := Lib.hid (fun W (h : Below w.heap.size w W) => numberTexts_any B A c l W (by omega) r2 (by have := h.size; omega) (H.out.below' h hB) (HT.out.on h))
    have hlen := txt_len (c := 32) (fun x hx => (r2 x hx).2)
    have HJ := Lib.hid (fun (W : World) (B' : Nat) (A' : Option Addr) (c' : Nat) (h : OwT W B' (.slice A' l.length c') (l.map ddI)) => by
      have hj := join_any B' A' c' (l.map ddI) [32] W (by rw [List.length_map]; exact h) (by show (txt 32 l).length ≤ _; omega) (by rw [List.length_map]; omega)
      rw [List.length_map] at hj
      exact hj)
    rw [hg] at hS
    have HS := Lib.hid hS
    clear hS hg r2 hlen
    go_enter Tryd.func9, Tryd.ntmps9
    go_wp2_with (first | (go_at_call 27; refine HS.out.mono ?_; rintro e w2 ⟨rfl, hb2⟩) | (go_at_call 29; refine (HC.out _ hb2).mono ?_; rintro e w3 ⟨A3, c3, rfl, ho3, hb3⟩; have O3 := Lib.hid ho3; clear ho3) | (go_at_call 28; refine (HJ.out _ _ _ _ O3.out).mono ?_; rintro e w4 ⟨rfl, hb4⟩))
    go_ret2
    exact ⟨by rw [E.out]; rfl, (hb2.trans (hb3.mono hb2.size)).trans (hb4.mono (by have := hb2.size; have := hb3.size; omega))⟩
end Go.Proofs.YtbbjgcagkmlngadDoor
