/- A plan found valid by the program, together with its values. -/
import Derived.Test.YtpopomcaknbhnaaIc
namespace Go.Proofs.Ytpopomcaknbhnaa
open Go.RowKit

def runI (rows : List (List Int)) : List (Int × Int) → Option (List (List Int))
  | [] => some rows
  | s :: r => match mulI rows s.1 s.2 with
    | none => none
    | some v => runI (rows ++ [v]) r
def valsI (p : Pl) : Option (List (List Int)) :=
  if inB p.n 1 6 && (decide (p.s.length ≤ 40) && decide (p.o.length ≤ 6)) then
    match runI (units6 p.n.toNat) p.s with
    | none => none
    | some rows => if hasAllB p.o rows.length then some rows else none
  else none

def WvPost (p : Pl) (A1 A2 : Option Addr) (c1 c2 : Nat) (w : World) (e : Ending) (w' : World) : Prop :=
  Below w.heap.size w w' ∧ (match valsI p with
    | none => e = .returned (.tuple #[.agg #[.int .i64 0, .slice none 0 0, .slice none 0 0, .slice none 0 0], .bool false])
    | some rows => ∃ A c, e = .returned (.tuple #[.agg #[.int .i64 p.n, .slice A1 p.s.length c1, .slice A2 p.o.length c2, .slice A rows.length c], .bool true]) ∧
        w'.ownsRow w.heap.size 170 6 (.slice A rows.length c) rows.length (fl6 rows))
theorem wvPost_none {p : Pl} {A1 A2 : Option Addr} {c1 c2 : Nat} {w w' : World} (h : valsI p = none) (hb : Below w.heap.size w w') :
    WvPost p A1 A2 c1 c2 w (.returned (.tuple #[.agg #[.int .i64 0, .slice none 0 0, .slice none 0 0, .slice none 0 0], .bool false])) w' := by
  refine ⟨hb, ?_⟩
  rw [h]

theorem runI_len {rows rows' : List (List Int)} {s : List (Int × Int)} (h : runI rows s = some rows') : rows'.length = rows.length + s.length := by
  induction s generalizing rows with
  | nil => simp [runI] at h; subst h; rfl
  | cons st s ih =>
    simp only [runI] at h
    split at h
    · cases h
    · rename_i v hv
      have := ih h
      simp at this ⊢
      omega
theorem runI_append (rows : List (List Int)) (s t : List (Int × Int)) : runI rows (s ++ t) = (runI rows s).bind fun r => runI r t := by
  induction s generalizing rows with
  | nil => rfl
  | cons st s ih =>
    simp only [List.cons_append, runI]
    split
    · rfl
    · exact ih _
theorem runI_none {u rows : List (List Int)} {s : List (Int × Int)} {k : Nat} (hk : k < s.length) (h : runI u (s.take k) = some rows) (hm : mulI rows (s[k]).1 (s[k]).2 = none) : runI u s = none := by
  have e : s = s.take k ++ s[k] :: s.drop (k + 1) := by simp
  rw [e, runI_append, h]
  simp [runI, hm]
theorem runI_some {u rows : List (List Int)} {s : List (Int × Int)} {k : Nat} {v : List Int} (hk : k < s.length) (h : runI u (s.take k) = some rows) (hm : mulI rows (s[k]).1 (s[k]).2 = some v) : runI u (s.take (k + 1)) = some (rows ++ [v]) := by
  rw [List.take_succ_eq_append_getElem hk, runI_append, h]
  simp [runI, hm]
/-- All values have six exponents, none out of range. -/
def Rng6 (rows : List (List Int)) : Prop := ∀ r ∈ rows, r.length = 6 ∧ ∀ x ∈ r, 0 ≤ x ∧ x ≤ 1000000
theorem mulI_ok {rows : List (List Int)} {a b : Int} {v : List Int} (h : mulI rows a b = some v) (hr : Rng6 rows) : v.length = 6 ∧ ∀ x ∈ v, 0 ≤ x ∧ x ≤ 1000000 := by
  unfold mulI at h
  split at h
  · rename_i hc
    simp only [hasB, Bool.and_eq_true, decide_eq_true_eq] at hc
    obtain ⟨_, ⟨ha0, ha⟩, hb0, hb⟩ := hc
    have la : a.toNat < rows.length := by omega
    have lb : b.toNat < rows.length := by omega
    have h1 : rows.getD a.toNat [] = rows[a.toNat] := by simp [la]
    have h2 : rows.getD b.toNat [] = rows[b.toNat] := by simp [lb]
    rw [h1, h2] at h
    have r1 := hr _ (List.getElem_mem la)
    have r2 := hr _ (List.getElem_mem lb)
    simp only at h
    split at h
    · rename_i hall
      injection h with h
      subst h
      refine ⟨by simp [r1.1, r2.1], fun x hx => ?_⟩
      unfold allB at hall
      rw [List.all_eq_true] at hall
      have := hall x hx
      simpa [inB] using this
    · cases h
  · cases h
theorem rng6_app {rows : List (List Int)} {v : List Int} (hr : Rng6 rows) (hv : v.length = 6 ∧ ∀ x ∈ v, 0 ≤ x ∧ x ≤ 1000000) : Rng6 (rows ++ [v]) := by
  intro r h
  rcases List.mem_append.1 h with h | h
  · exact hr r h
  · rw [List.mem_singleton] at h; subst h; exact hv
theorem rng6_units (n : Nat) : Rng6 (units6 n) := by
  intro r hr
  simp only [units6, List.mem_map] at hr
  obtain ⟨i, _, rfl⟩ := hr
  refine ⟨by simp [unit6], fun x hx => ?_⟩
  unfold unit6 at hx
  rcases List.mem_or_eq_of_mem_set hx with h | h
  · have := List.eq_of_mem_replicate h; omega
  · omega
theorem Rng6.six {rows : List (List Int)} (h : Rng6 rows) : Six rows := fun r hr => (h r hr).1
theorem Rng6.rng {rows : List (List Int)} (h : Rng6 rows) : ∀ r ∈ rows, ∀ x ∈ r, 0 ≤ x ∧ x ≤ 1000000 := fun r hr => (h r hr).2

set_option maxRecDepth 100000 in
set_option maxHeartbeats 4000000 in
theorem withValues_any (B : Nat) (A1 A2 : Option Addr) (c1 c2 : Nat) (p : Pl) (w : World) (hB : B ≤ w.heap.size) (hls : p.s.length ≤ 2000000) (hlo : p.o.length ≤ 2000000)
    (hr : RdP w B A1 A2 p) :
    Calls Try.prog 134 #[.agg #[.int .i64 p.n, .slice A1 p.s.length c1, .slice A2 p.o.length c2]] w (WvPost p A1 A2 c1 c2 w) := by
  have H := Lib.hid hr
  clear hr
  obtain ⟨lls, hls1⟩ : ∃ x : Int, x = p.s.length := ⟨_, rfl⟩
  by_cases hg : p.n < 1 ∨ 6 < p.n ∨ 40 < p.s.length ∨ 6 < p.o.length
  · have e : valsI p = none := by
      unfold valsI
      rw [if_neg]
      simp only [inB, Bool.and_eq_true, decide_eq_true_eq]
      omega
    have E := Lib.hid e
    clear e hls1
    by_cases h1 : p.n < 1
    · clear hg
      go_enter Try.func134, Try.ntmps134
      go_wp2
      refine bodyPost_ret (v := .tuple #[.agg #[.int .i64 0, .slice none 0 0, .slice none 0 0, .slice none 0 0], .bool false]) (by simp [results, Try.results134, go_sem]) rfl (wvPost_none E.out ?_)
      exact ((Below.refl _ _).alloc (Nat.le_refl _) _).alloc (by simp) _
    by_cases h2 : 6 < p.n
    · clear hg
      go_enter Try.func134, Try.ntmps134
      go_wp2
      refine bodyPost_ret (v := .tuple #[.agg #[.int .i64 0, .slice none 0 0, .slice none 0 0, .slice none 0 0], .bool false]) (by simp [results, Try.results134, go_sem]) rfl (wvPost_none E.out ?_)
      exact ((Below.refl _ _).alloc (Nat.le_refl _) _).alloc (by simp) _
    by_cases h3 : 40 < p.s.length
    · have h3' : (40 : Int) < (p.s.length : Int) := by omega
      clear hg h3
      go_enter Try.func134, Try.ntmps134
      go_wp2
      refine bodyPost_ret (v := .tuple #[.agg #[.int .i64 0, .slice none 0 0, .slice none 0 0, .slice none 0 0], .bool false]) (by simp [results, Try.results134, go_sem]) rfl (wvPost_none E.out ?_)
      exact ((Below.refl _ _).alloc (Nat.le_refl _) _).alloc (by simp) _
    · have h4 : 6 < p.o.length := by omega
      have h3' : (p.s.length : Int) ≤ 40 := by omega
      have h4' : (6 : Int) < (p.o.length : Int) := by omega
      clear hg h3 h4
      go_enter Try.func134, Try.ntmps134
      go_wp2
      refine bodyPost_ret (v := .tuple #[.agg #[.int .i64 0, .slice none 0 0, .slice none 0 0, .slice none 0 0], .bool false]) (by simp [results, Try.results134, go_sem]) rfl (wvPost_none E.out ?_)
      exact ((Below.refl _ _).alloc (Nat.le_refl _) _).alloc (by simp) _
  · clear hls1
    obtain ⟨n1, n2, l1, l2⟩ : 1 ≤ p.n ∧ p.n ≤ 6 ∧ p.s.length ≤ 40 ∧ p.o.length ≤ 6 := by omega
    obtain ⟨N, hN⟩ : ∃ N : Nat, p.n = N := ⟨p.n.toNat, by omega⟩
    have ev : valsI p = (match runI (units6 N) p.s with
        | none => none
        | some rows => if hasAllB p.o rows.length then some rows else none) := by
      have : p.n.toNat = N := by omega
      unfold valsI
      rw [if_pos (by simp [inB]; omega), this]
    have EV := Lib.hid ev
    have i1 : (p.s.length : Int) ≤ 40 := by omega
    have i2 : (p.o.length : Int) ≤ 6 := by omega
    have HN := Lib.hid hN
    clear ev hg hN
    go_enter Try.func134, Try.ntmps134
    go_wp2
    generalize hw1 : World.alloc w _ = w1
    obtain ⟨x0, x1, x2, xs, xb⟩ := box3 hw1
    clear hw1
    generalize hw2 : World.alloc w1 _ = w2
    have hres : w2.heap[w1.heap.size]? = some (.cells #[.int .i64 0, .slice none 0 0, .slice none 0 0, .slice none 0 0] 143 (0, 0)) := by rw [← hw2]; exact heap_alloc_new w1 _
    have hb12 : Below w1.heap.size w1 w2 := by rw [← hw2]; exact (Below.refl _ _).alloc (Nat.le_refl _) _
    have hs2 : w2.heap.size = w1.heap.size + 1 := by rw [← hw2]; simp
    clear hw2
    rw [xs] at hres hb12 hs2
    have XB := Lib.hid (xb.trans (hb12.mono (by omega)))
    have y0 := (hb12.cell (p := ⟨w.heap.size, 0, none⟩) (by simp)).trans x0
    have y1 := (hb12.cell (p := ⟨w.heap.size, 1, none⟩) (by simp)).trans x1
    have y2 := (hb12.cell (p := ⟨w.heap.size, 2, none⟩) (by simp)).trans x2
    have HRES := Lib.hid hres
    have HS2 := Lib.hid hs2
    clear hres hs2 hb12 xs xb x0 x1 x2
    go_cut [4] (fun v wx => ∃ (g : Nat) (A : Option Addr) (c : Nat), v = .pointer (some ⟨g, 0, none⟩) ∧ w.heap.size + 2 ≤ g ∧ wx.heap[g]? = some (.cells #[.int .i64 p.n, .slice A1 p.s.length c1, .slice A2 p.o.length c2, .slice A N c] 143 (0, 0)) ∧
      wx.ownsRow (w.heap.size + 2) 170 6 (.slice A N c) N (fl6 (units6 N)) ∧ Below (w.heap.size + 2) w2 wx)
    case first =>
      have HS : (fun x : World => x.cell? ⟨w.heap.size, 0, none⟩ = some (.int .i64 p.n) ∧ x.cell? ⟨w.heap.size, 1, none⟩ = some (.slice A1 p.s.length c1) ∧ x.cell? ⟨w.heap.size, 2, none⟩ = some (.slice A2 p.o.length c2)) w2.drew := ⟨y0, y1, y2⟩
      have HSH := Lib.hid HS
      clear HS
      refine wp_region_T (fun x : World => x.cell? ⟨w.heap.size, 0, none⟩ = some (.int .i64 p.n) ∧ x.cell? ⟨w.heap.size, 1, none⟩ = some (.slice A1 p.s.length c1) ∧ x.cell? ⟨w.heap.size, 2, none⟩ = some (.slice A2 p.o.length c2)) [0, 1, 2, 4] [0, 2] (.lp 1 (.ls 0 (.ls 2 (.hv2 3 (.lp 4 (.hv 5 (.hv 6 (.done)))) 5 (.hv 3 (.lp 4 (.hv 6 (.done)))))))) (by kernel_rfl) (by kernel_rfl) ?_
      (repeat (refine T_lp rfl (fun K hK => ?_); go_simp; refine hK _ ?_; clear hK K))
      refine T_ls1 (v := .agg #[.int .i64 p.n, .slice A1 p.s.length c1, .slice A2 p.o.length c2]) rfl rfl HSH.out (fun x hx => (by obtain ⟨h1, h2, h3⟩ := hx; go_simp)) (fun K hK => ?_)
      (go_simp; refine hK _ ?_; clear hK K)
      refine T_ls1 (v := .int .i64 p.n) rfl rfl HSH.out (fun x hx => (by obtain ⟨h1, h2, h3⟩ := hx; go_simp)) (fun K hK => ?_)
      (go_simp; refine hK _ ?_; clear hK K)
      refine T_hv2 ?_ ?_
      · refine T_hvS rfl (fun K hK => ?_)
        go_simp
        go_at_call 151
        have hIV := inputValues_any N w2.drew (by have := HN.out; omega) (by have := HN.out; omega)
        rw [← HN.out] at hIV
        refine hIV.mono ?_
        rintro e w3 ⟨A3, c3, rfl, hown3, hbel3⟩
        clear hIV
        have hlt2 : w.heap.size < w2.drew.heap.size := by have := HS2.out; simp; omega
        have HS3 : (fun x : World => x.cell? ⟨w.heap.size, 0, none⟩ = some (.int .i64 p.n) ∧ x.cell? ⟨w.heap.size, 1, none⟩ = some (.slice A1 p.s.length c1) ∧ x.cell? ⟨w.heap.size, 2, none⟩ = some (.slice A2 p.o.length c2)) w3 :=
          ⟨(hbel3.cell (p := ⟨w.heap.size, 0, none⟩) hlt2).trans HSH.out.1, (hbel3.cell (p := ⟨w.heap.size, 1, none⟩) hlt2).trans HSH.out.2.1, (hbel3.cell (p := ⟨w.heap.size, 2, none⟩) hlt2).trans HSH.out.2.2⟩
        have HS3H := Lib.hid HS3
        clear HS3
        go_simp
        refine hK _ _ HS3H.out ?_
        clear hK K
        (repeat (refine T_lp rfl (fun K hK => ?_); go_simp; refine hK _ ?_; clear hK K))
        refine T_hvS rfl (fun K hK => ?_)
        go_simp
        refine hK _ _ ⟨cell_kept HS3H.out.1 _, cell_kept HS3H.out.2.1 _, cell_kept HS3H.out.2.2 _⟩ ?_
        clear hK K
        (refine T_hv rfl (by kernel_rfl) (fun K hK => ?_); go_simp; refine hK _ _ ?_; clear hK K)
        refine T_done ?_
        go_wp2
        go_meet
        case rel =>
          have hz : w2.drew.heap.size = w.heap.size + 2 := by have := HS2.out; simp; omega
          rw [hz] at hown3 hbel3
          exact ⟨w3.heap.size, A3, c3, rfl, by have := hbel3.size; rw [hz] at this; omega, heap_alloc_new w3 _, hown3.alloc _, ((Below.refl _ _).drew.trans hbel3).alloc (by have := hbel3.size; rw [hz] at this; omega) _⟩
      · refine T_hvS rfl (fun K hK => ?_)
        go_simp
        refine hK _ _ ⟨cell_kept HSH.out.1 _, cell_kept HSH.out.2.1 _, cell_kept HSH.out.2.2 _⟩ ?_
        clear hK K
        refine T_hvS rfl (fun K hK => ?_)
        go_simp
        go_at_call 151
        generalize hw3 : World.drew (World.alloc w2 _) = w3
        have hg3 : w3.heap[w2.heap.size]? = some (.cells #[.int .i64 0, .slice none 0 0, .slice none 0 0, .slice none 0 0] 143 (0, 0)) := by rw [← hw3]; exact heap_alloc_new w2 _
        have hb23 : Below w2.heap.size w2 w3 := by rw [← hw3]; exact ((Below.refl _ _).alloc (Nat.le_refl _) _).drew
        have hs3 : w3.heap.size = w2.heap.size + 1 := by rw [← hw3]; simp
        clear hw3
        have hIV := inputValues_any N w3 (by have := HN.out; omega) (by have := HN.out; omega)
        rw [← HN.out] at hIV
        refine hIV.mono ?_
        rintro e w4 ⟨A3, c3, rfl, hown3, hbel3⟩
        clear hIV
        have hlt2 : w.heap.size < w2.heap.size := by have := HS2.out; omega
        have hb24 : Below w2.heap.size w2 w4 := hb23.trans (hbel3.mono (by omega))
        have HS3 : (fun x : World => x.cell? ⟨w.heap.size, 0, none⟩ = some (.int .i64 p.n) ∧ x.cell? ⟨w.heap.size, 1, none⟩ = some (.slice A1 p.s.length c1) ∧ x.cell? ⟨w.heap.size, 2, none⟩ = some (.slice A2 p.o.length c2)) w4 :=
          ⟨(hb24.cell (p := ⟨w.heap.size, 0, none⟩) hlt2).trans HSH.out.1, (hb24.cell (p := ⟨w.heap.size, 1, none⟩) hlt2).trans HSH.out.2.1, (hb24.cell (p := ⟨w.heap.size, 2, none⟩) hlt2).trans HSH.out.2.2⟩
        have hg4 : w4.heap[w2.heap.size]? = some (.cells #[.int .i64 0, .slice none 0 0, .slice none 0 0, .slice none 0 0] 143 (0, 0)) := (hbel3.block _ (by omega)).trans hg3
        have HS3H := Lib.hid HS3
        have HG4 := Lib.hid hg4
        have HB24 := Lib.hid hb24
        have HS3S := Lib.hid hs3
        have HO3 := Lib.hid hown3
        have e0 : w4.cell? ⟨w2.heap.size, 0, none⟩ = some (.int .i64 0) := by rw [cell_of_row w4 _ 0 _ _ (0, 0) hg4]; rfl
        have e1 : w4.cell? ⟨w2.heap.size, 1, none⟩ = some (.slice none 0 0) := by rw [cell_of_row w4 _ 1 _ _ (0, 0) hg4]; rfl
        have e2 : w4.cell? ⟨w2.heap.size, 2, none⟩ = some (.slice none 0 0) := by rw [cell_of_row w4 _ 2 _ _ (0, 0) hg4]; rfl
        have e3 : w4.cell? ⟨w2.heap.size, 3, none⟩ = some (.slice none 0 0) := by rw [cell_of_row w4 _ 3 _ _ (0, 0) hg4]; rfl
        have z0 : w4.frozen? ⟨w2.heap.size, 0, none⟩ = false := frozen_of_row w4 _ 0 _ _ hg4
        have z1 : w4.frozen? ⟨w2.heap.size, 1, none⟩ = false := frozen_of_row w4 _ 1 _ _ hg4
        have z2 : w4.frozen? ⟨w2.heap.size, 2, none⟩ = false := frozen_of_row w4 _ 2 _ _ hg4
        have z3 : w4.frozen? ⟨w2.heap.size, 3, none⟩ = false := frozen_of_row w4 _ 3 _ _ hg4
        clear HS3 hg4 hb24 hs3 hg3 hb23 hown3 hbel3
        go_simp
        refine hK _ _ HS3H.out ?_
        clear hK K
        (repeat (refine T_lp rfl (fun K hK => ?_); go_simp; refine hK _ ?_; clear hK K))
        (refine T_hv rfl (by kernel_rfl) (fun K hK => ?_); go_simp; refine hK _ _ ?_; clear hK K)
        refine T_done ?_
        go_wp2
        go_meet
        case rel =>
          have hz : w2.heap.size = w.heap.size + 2 := HS2.out
          have ho := own_base HO3.out (show w.heap.size + 2 ≤ w3.heap.size by have := HS3S.out; omega)
          have h4 := set4 (a' := .int .i64 p.n) (b' := .slice A1 p.s.length c1) (c' := .slice A2 p.o.length c2) (d' := .slice A3 N c3) HG4.out ho (by decide) (HB24.out.mono (show w.heap.size + 2 ≤ w2.heap.size by omega)) (by omega)
          exact ⟨w2.heap.size, A3, c3, rfl, by omega, h4.1, h4.2.1, h4.2.2⟩
    case rest =>
      obtain ⟨g, A3, c3, rfl, hg2, hblk, hown, hbel⟩ := hcut
      have Y0 := Lib.hid y0
      have Y1 := Lib.hid y1
      have Y2 := Lib.hid y2
      have hl0 : w.heap.size < w.heap.size + 2 := by omega
      have v1 := (hbel.cell (p := ⟨w.heap.size, 1, none⟩) hl0).trans y1
      have BLK := Lib.hid hblk
      have OWN := Lib.hid hown
      have BEL := Lib.hid hbel
      clear hblk hown hbel y0 y1 y2
      go_wp2
      clear v1
      go_loopw [36] (fun i wr => ∃ (k : Nat) (rows : List (List Int)) (A : Option Addr) (c : Nat), k ≤ p.s.length ∧ i = .int .i64 k ∧ runI (units6 N) (p.s.take k) = some rows ∧ wr.heap[g]? = some (.cells #[.int .i64 p.n, .slice A1 p.s.length c1, .slice A2 p.o.length c2, .slice A rows.length c] 143 (0, 0)) ∧
        wr.ownsRow (w.heap.size + 2) 170 6 (.slice A rows.length c) rows.length (fl6 rows) ∧ Rng6 rows ∧ Below (w.heap.size + 2) w2 wr) (fun i _ => p.s.length - (intOf i).toNat)
      case atStart =>
        have hu : (units6 N).length = N := by simp [units6]
        exact ⟨0, units6 N, A3, c3, by omega, rfl, rfl, by rw [hu]; exact BLK.out, by rw [hu]; exact OWN.out, rng6_units N, BEL.out⟩
      case round =>
        obtain ⟨k, rows, A, c, hk, rfl, hrun, hblk, hown, hrng, hbel⟩ := hrel
        have hrl : rows.length = N + k := by
          have h := runI_len hrun
          simp [units6] at h
          omega
        have RUN := Lib.hid hrun
        have BLK := Lib.hid hblk
        have OWN := Lib.hid hown
        have RNG := Lib.hid hrng
        have BEL := Lib.hid hbel
        have HRL := Lib.hid hrl
        have hsz2 : w.heap.size + 2 ≤ wr.heap.size := by have := HS2.out; have := hbel.size; omega
        have hgl : g < wr.heap.size := (Array.getElem?_eq_some_iff.1 hblk).1
        have r0 : wr.heap[w.heap.size + 1]? = some (.cells #[.int .i64 0, .slice none 0 0, .slice none 0 0, .slice none 0 0] 143 (0, 0)) := (hbel.block _ (by omega)).trans HRES.out
        have RES0 := Lib.hid r0
        clear hrun hblk hown hrng hrl r0
        by_cases hlt : k < p.s.length
        · have hnlen : N ≤ 6 := by have := HN.out; omega
          obtain ⟨sb, off, rfl, hsb, hc1, hc2⟩ := (((H.out.1.below' (XB.out) hB)).below' hbel (by omega)).stp hlt
          clear hbel
          go_wp2_with fail
          go_at_call 152
          have hM := multiply_any (w.heap.size + 2) g 3 143 _ A c rows (p.s[k]).1 (p.s[k]).2 (wr.alloc (Obj.cells #[.int .i64 (p.s[k]).1, .int .i64 (p.s[k]).2] 108)) hg2
            ((Below.heap_alloc wr _ g hgl).trans BLK.out) (by decide) rfl (OWN.out.alloc _) RNG.out.six RNG.out.rng (by have := HRL.out; omega) (by simp; omega)
          refine hM.mono ?_
          rintro e w5 ⟨hb5, hpost⟩
          clear hM
          have hS1 : w.heap.size + 1 < w.heap.size + 2 := by omega
          have r5 : w5.heap[w.heap.size + 1]? = some (.cells #[.int .i64 0, .slice none 0 0, .slice none 0 0, .slice none 0 0] 143 (0, 0)) :=
            (hb5.block _ hS1).trans ((Below.heap_alloc wr _ _ (by omega)).trans RES0.out)
          cases hm : mulI rows (p.s[k]).1 (p.s[k]).2 with
          | none =>
            rw [hm] at hpost
            simp only at hpost
            subst hpost
            have ev : valsI p = none := by rw [EV.out, runI_none hlt RUN.out hm]
            have EV2 := Lib.hid ev
            have e0 : w5.cell? ⟨w.heap.size + 1, 0, none⟩ = some (.int .i64 0) := by rw [cell_of_row w5 _ 0 _ _ (0, 0) r5]; rfl
            have e1 : w5.cell? ⟨w.heap.size + 1, 1, none⟩ = some (.slice none 0 0) := by rw [cell_of_row w5 _ 1 _ _ (0, 0) r5]; rfl
            have e2 : w5.cell? ⟨w.heap.size + 1, 2, none⟩ = some (.slice none 0 0) := by rw [cell_of_row w5 _ 2 _ _ (0, 0) r5]; rfl
            have e3 : w5.cell? ⟨w.heap.size + 1, 3, none⟩ = some (.slice none 0 0) := by rw [cell_of_row w5 _ 3 _ _ (0, 0) r5]; rfl
            have z0 : w5.frozen? ⟨w.heap.size + 1, 0, none⟩ = false := frozen_of_row w5 _ 0 _ _ r5
            have z1 : w5.frozen? ⟨w.heap.size + 1, 1, none⟩ = false := frozen_of_row w5 _ 1 _ _ r5
            have z2 : w5.frozen? ⟨w.heap.size + 1, 2, none⟩ = false := frozen_of_row w5 _ 2 _ _ r5
            have z3 : w5.frozen? ⟨w.heap.size + 1, 3, none⟩ = false := frozen_of_row w5 _ 3 _ _ r5
            have HB5 := Lib.hid hb5
            clear ev hm r5 hb5
            go_wp2
            refine bodyPost_ret (v := .tuple #[.agg #[.int .i64 0, .slice none 0 0, .slice none 0 0, .slice none 0 0], .bool false]) (by simp [results, Try.results134, go_sem, e0, e1, e2, e3]) rfl (wvPost_none EV2.out ?_)
            have hb := XB.out.trans ((BEL.out.mono (show w.heap.size ≤ w.heap.size + 2 by omega)).trans (((Below.refl _ _).alloc (by omega) _).trans (HB5.out.mono (show w.heap.size ≤ w.heap.size + 2 by omega))))
            exact (((hb.setCell (by simp) _).setCell (by simp) _).setCell (by simp) _).setCell (by simp) _
          | some v =>
            rw [hm] at hpost
            simp only at hpost
            obtain ⟨rfl, A5, c5, hblk5, hown5⟩ := hpost
            have hv := mulI_ok hm RNG.out
            have HM := Lib.hid hm
            have HV := Lib.hid hv
            have HB5 := Lib.hid hb5
            have BLK5 := Lib.hid hblk5
            have OWN5 := Lib.hid hown5
            clear hm hv hb5 hblk5 hown5 r5
            go_wp2
            go_roundw
            case rel =>
              refine ⟨k + 1, rows ++ [v], A5, c5, by omega, by go_num, runI_some hlt RUN.out HM.out, ?_, ?_, rng6_app RNG.out HV.out, (BEL.out.alloc hsz2 _).trans HB5.out⟩
              · have := BLK5.out
                rw [this]
                simp
              · have := OWN5.out
                simpa using this
            case measure => simp [intOf]; omega
        · have hk' : k = p.s.length := by omega
          have hrun2 : runI (units6 N) p.s = some rows := by
            have := RUN.out
            rwa [List.take_of_length_le (by omega)] at this
          have RUN2 := Lib.hid hrun2
          have hcell3 : wr.cell? ⟨g, 3, none⟩ = some (.slice A rows.length c) := by rw [cell_of_row wr g 3 _ _ (0, 0) BLK.out]; rfl
          have v2 := (hbel.cell (p := ⟨w.heap.size, 2, none⟩) hl0).trans Y2.out
          have e0 : wr.cell? ⟨w.heap.size + 1, 0, none⟩ = some (.int .i64 0) := by rw [cell_of_row wr _ 0 _ _ (0, 0) RES0.out]; rfl
          have e1 : wr.cell? ⟨w.heap.size + 1, 1, none⟩ = some (.slice none 0 0) := by rw [cell_of_row wr _ 1 _ _ (0, 0) RES0.out]; rfl
          have e2 : wr.cell? ⟨w.heap.size + 1, 2, none⟩ = some (.slice none 0 0) := by rw [cell_of_row wr _ 2 _ _ (0, 0) RES0.out]; rfl
          have e3 : wr.cell? ⟨w.heap.size + 1, 3, none⟩ = some (.slice none 0 0) := by rw [cell_of_row wr _ 3 _ _ (0, 0) RES0.out]; rfl
          have z0 : wr.frozen? ⟨w.heap.size + 1, 0, none⟩ = false := frozen_of_row wr _ 0 _ _ RES0.out
          have z1 : wr.frozen? ⟨w.heap.size + 1, 1, none⟩ = false := frozen_of_row wr _ 1 _ _ RES0.out
          have z2 : wr.frozen? ⟨w.heap.size + 1, 2, none⟩ = false := frozen_of_row wr _ 2 _ _ RES0.out
          have z3 : wr.frozen? ⟨w.heap.size + 1, 3, none⟩ = false := frozen_of_row wr _ 3 _ _ RES0.out
          have hro := ((H.out.2.below' XB.out hB).below' hbel (show B ≤ w.heap.size + 2 by omega))
          have HRO := Lib.hid hro
          have hb := XB.out.trans (BEL.out.mono (show w.heap.size ≤ w.heap.size + 2 by omega))
          have HB := Lib.hid hb
          clear hrun2 hk' hbel hro hb
          obtain ⟨ha, hha⟩ : ∃ x, hasAllB p.o rows.length = x := ⟨_, rfl⟩
          cases ha with
          | false =>
            have ev : valsI p = none := by rw [EV.out, RUN2.out]; simp [hha]
            have EV2 := Lib.hid ev
            clear ev
            go_wp2_with (go_at_call 153; refine (hasAll_any B g 3 rows.length c A A2 c2 p.o _ hcell3 (by omega) HRO.out).mono ?_; rintro e w' ⟨rfl, rfl⟩)
            refine bodyPost_ret (v := .tuple #[.agg #[.int .i64 0, .slice none 0 0, .slice none 0 0, .slice none 0 0], .bool false]) (by simp [results, Try.results134, go_sem, e0, e1, e2, e3]) rfl (wvPost_none EV2.out ?_)
            exact (((HB.out.setCell (by simp) _).setCell (by simp) _).setCell (by simp) _).setCell (by simp) _
          | true =>
            have ev : valsI p = some rows := by rw [EV.out, RUN2.out]; simp [hha]
            have EV2 := Lib.hid ev
            have hg0 : wr.cell? ⟨g, 0, none⟩ = some (.int .i64 p.n) := by rw [cell_of_row wr g 0 _ _ (0, 0) BLK.out]; rfl
            have hg1 : wr.cell? ⟨g, 1, none⟩ = some (.slice A1 p.s.length c1) := by rw [cell_of_row wr g 1 _ _ (0, 0) BLK.out]; rfl
            have hg22 : wr.cell? ⟨g, 2, none⟩ = some (.slice A2 p.o.length c2) := by rw [cell_of_row wr g 2 _ _ (0, 0) BLK.out]; rfl
            clear ev
            go_wp2_with (go_at_call 153; refine (hasAll_any B g 3 rows.length c A A2 c2 p.o _ hcell3 (by omega) HRO.out).mono ?_; rintro e w' ⟨rfl, rfl⟩)
            have h4 := set4 (a' := .int .i64 p.n) (b' := .slice A1 p.s.length c1) (c' := .slice A2 p.o.length c2) (d' := .slice A rows.length c) RES0.out (own_base OWN.out (show w.heap.size ≤ w.heap.size + 2 by omega)) (by decide) HB.out (by omega)
            refine bodyPost_ret (v := .tuple #[.agg #[.int .i64 p.n, .slice A1 p.s.length c1, .slice A2 p.o.length c2, .slice A rows.length c], .bool true]) (by simp [results, Try.results134, go_sem, e0, e1, e2, e3]) rfl ⟨h4.2.2, ?_⟩
            rw [EV2.out]
            exact ⟨A, c, rfl, h4.2.1⟩
end Go.Proofs.Ytpopomcaknbhnaa
