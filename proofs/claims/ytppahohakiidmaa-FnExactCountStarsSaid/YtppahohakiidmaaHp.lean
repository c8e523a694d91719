/- Counts of live star chains, by the model. -/
import Derived.Test.YtppahohakiidmaaHn
namespace Go.Proofs.Ytppahohakiidmaa
open Go.RowKit

def stepL (s : List Int) (c : List Nat) : List Int := s.set (c.length - 1) (s.getD (c.length - 1) 0 + 1)
theorem stepL_len (s : List Int) (c : List Nat) : (stepL s c).length = s.length := by unfold stepL; rw [List.length_set]
def BD (K : Nat) (s : List Int) : Prop := ∀ j, 0 ≤ s.getD j 0 ∧ s.getD j 0 ≤ (K : Int)
theorem BD.step {K : Nat} {s : List Int} (h : BD K s) (c : List Nat) : BD (K + 1) (stepL s c) := by
  intro j
  have hj := h j
  have hc := h (c.length - 1)
  unfold stepL
  by_cases e : c.length - 1 = j
  · subst e
    by_cases hl : c.length - 1 < s.length
    · rw [List.getD_eq_getElem?_getD, List.getElem?_set_self hl]
      simp only [Option.getD_some]
      omega
    · rw [List.set_eq_of_length_le (by omega)]
      omega
  · rw [List.getD_eq_getElem?_getD, List.getElem?_set_ne e, ← List.getD_eq_getElem?_getD]
    omega
theorem BD.more {K K' : Nat} {s : List Int} (h : BD K s) (hK : K ≤ K') : BD K' s := fun j => by have := h j; omega
theorem BD.fold : ∀ (R : List (List Nat)) (K : Nat) (s : List Int), BD K s → BD (K + R.length) (R.foldl stepL s) := by
  intro R
  induction R with
  | nil => intro K s h; exact h
  | cons c R ih =>
    intro K s h
    rw [List.foldl_cons, List.length_cons]
    have := ih (K + 1) (stepL s c) (h.step c)
    exact this.more (by omega)
theorem foldL_len : ∀ (R : List (List Nat)) (s : List Int), (R.foldl stepL s).length = s.length := by
  intro R
  induction R with
  | nil => intro s; rfl
  | cons c R ih => intro s; rw [List.foldl_cons, ih, stepL_len]

def lvS (n L d : Nat) (c : List Nat) (s : List Int) : List Int := if fitN n L (lastN c) (c.length - 1) then (pre (fitN n L) d c).foldl stepL s else s
theorem lvS_len (n L d : Nat) (c : List Nat) (s : List Int) : (lvS n L d c s).length = s.length := by
  unfold lvS
  split
  · exact foldL_len _ _
  · rfl
theorem lvS_bd {n L d K : Nat} {c : List Nat} {s : List Int} (h : BD K s) : BD (K + preN d c.length) (lvS n L d c s) := by
  unfold lvS
  split
  · exact (BD.fold _ _ _ h).more (by have := pre_most (F := fitN n L) d c; omega)
  · exact h.more (by omega)
theorem foldl_flat {α β γ : Type} (g : β → α → β) (f : γ → List α) : ∀ (l : List γ) (s : β), (l.flatMap f).foldl g s = l.foldl (fun s a => (f a).foldl g s) s := by
  intro l
  induction l with
  | nil => intro s; rfl
  | cons a l ih => intro s; rw [List.flatMap_cons, List.foldl_append, ih, List.foldl_cons]
def lvJ (n L d : Nat) (c : List Nat) (s : List Int) (i : Nat) : List Int := (c.take i).foldl (fun s a => lvS n L d (c ++ [lastN c + a]) s) (stepL s c)
theorem lvJ_end {n L d : Nat} {c : List Nat} {s : List Int} (h : fitN n L (lastN c) (c.length - 1) = true) : lvJ n L d c s c.length = lvS n L (d + 1) c s := by
  unfold lvJ lvS
  rw [List.take_of_length_le (Nat.le_refl _), if_pos h]
  show _ = ((c :: c.flatMap _).foldl stepL s)
  rw [List.foldl_cons, foldl_flat]
  congr 1
  funext s a
  rw [lastN_snoc, List.length_append, List.length_singleton, Nat.add_sub_cancel]
  split <;> rfl
theorem lvJ_succ {n L d i : Nat} {c : List Nat} {s : List Int} (h : i < c.length) : lvJ n L d c s (i + 1) = lvS n L d (c ++ [lastN c + c.getD i 0]) (lvJ n L d c s i) := by
  unfold lvJ
  rw [List.take_succ_eq_append_getElem h, List.foldl_append, List.getD_eq_getElem?_getD, List.getElem?_eq_getElem h]
  rfl
theorem lvJ_len (n L d : Nat) (c : List Nat) (s : List Int) : ∀ i, (lvJ n L d c s i).length = s.length := by
  intro i
  unfold lvJ
  generalize c.take i = l
  have key : ∀ (l : List Nat) (t : List Int), t.length = s.length → (l.foldl (fun s a => lvS n L d (c ++ [lastN c + a]) s) t).length = s.length := by
    intro l
    induction l with
    | nil => intro t h; exact h
    | cons a l ih => intro t h; rw [List.foldl_cons]; exact ih _ (by rw [lvS_len]; exact h)
  exact key l _ (stepL_len s c)
theorem lvJ_bd {n L d K : Nat} {c : List Nat} {s : List Int} (h : BD K s) : ∀ i, i ≤ c.length → BD (K + 1 + i * preN d (c.length + 1)) (lvJ n L d c s i) := by
  intro i
  induction i with
  | zero => intro _; exact (h.step c).more (by omega)
  | succ i ih =>
    intro hi
    rw [lvJ_succ (by omega)]
    have := lvS_bd (n := n) (L := L) (d := d) (c := c ++ [lastN c + c.getD i 0]) (ih (by omega))
    rw [List.length_append, List.length_singleton] at this
    refine this.more ?_
    rw [Nat.succ_mul]
    omega
theorem preN_mono (m : Nat) : ∀ d, preN d (m + 1) ≥ 1
  | 0 => Nat.le_refl _
  | d + 1 => by unfold preN; omega

set_option maxRecDepth 100000 in
set_option maxHeartbeats 4000000 in
theorem shLive_any (n L gS cS BS : Nat) (hn : n ≤ 100) (hL : L ≤ 8) : ∀ (d m K : Nat) (c : List Nat) (s : List Int) (B : Nat) (A : Option Addr) (cc : Nat) (w : World), c.length = m → 1 ≤ m → m + d = L + 1 → (∀ i, i + 1 < m → c.getD i 0 ≤ 100) → lastN c ≤ 200 → s.length = L + 1 → BD K s → K + preN d m ≤ 1000000 →
    B ≤ w.heap.size → Rd w B 1 A m ((cs c).map I) → (∀ b off, A = some ⟨b, off, none⟩ → b ≠ gS) → OwI w BS (.slice (some ⟨gS, 0, none⟩) (L + 1) cS) s →
    Calls Try.prog 57 #[.slice A m cc, .int .i64 (n : Int), .int .i64 (L : Int), .slice (some ⟨gS, 0, none⟩) (L + 1) cS] w fun e w' => e = .returned (.tuple #[]) ∧ OwI w' BS (.slice (some ⟨gS, 0, none⟩) (L + 1) cS) (lvS n L d c s) ∧ Frm (fun b => b = gS) w w' ∧ Below BS w w' := by
  intro d
  induction d with
  | zero =>
    intro m K c s B A cc w hcm hm1 hmd hcb hlast hsl hbd hK hB hr hne hown
    obtain ⟨M, hM⟩ : ∃ M, m = M + 1 := ⟨m - 1, by omega⟩
    have hlen : (cs c).length = m := by rw [cs_len]; exact hcm
    rw [← hlen] at hr
    obtain ⟨b, off, rfl, hbB, hcells⟩ := hr.cells (by omega)
    rw [hlen] at hr
    have hbg : b ≠ gS := hne b off rfl
    have HCE := Lib.hid (show ∀ i, i < m → w.cell? ⟨b, off + i, none⟩ = some (.int .i64 ((c.getD i 0 : Nat) : Int)) from fun i hi => by
      have := hcells i (by omega)
      rwa [cs_getD] at this)
    have cl := HCE.out M (by omega)
    have hlN : lastN c = c.getD M 0 := by unfold lastN; rw [hcm, hM]; rfl
    obtain ⟨x, hx⟩ : ∃ x, c.getD M 0 = x := ⟨_, rfl⟩
    rw [hx] at cl hlN
    rw [hlN] at hlast
    have hw1 : IntKind.i64.wrap ((m : Int) - 1) = (M : Int) := by rw [IntWalk.i64_in _ (by omega)]; omega
    have iM : (M : Int) < (m : Int) := by omega
    obtain ⟨e, he⟩ : ∃ e, L - M = e := ⟨_, rfl⟩
    have hwe : IntKind.i64.wrap ((L : Int) - (M : Int)) = (e : Int) := by rw [IntWalk.i64_in _ (by omega)]; omega
    obtain ⟨P, hP⟩ : ∃ P, x * 2 ^ e = P := ⟨_, rfl⟩
    have hPI : (x : Int) * 2 ^ e = (P : Int) := by rw [← hP]; push_cast; rfl
    have hPb : P ≤ 51200 := by
      have h1 : 2 ^ e ≤ 256 := Nat.pow_le_pow_right (n := 2) (by decide) (show e ≤ 8 by omega)
      have := Nat.mul_le_mul hlast h1
      omega
    have hwP : IntKind.i64.wrap (P : Int) = (P : Int) := IntWalk.i64_in _ (by omega)
    have hfit : fitN n L (lastN c) (c.length - 1) = decide (x ≤ n ∧ n ≤ P) := by
      unfold fitN
      rw [hlN, hcm, hM, Nat.add_sub_cancel, he, hP, Bool.eq_iff_iff, decide_eq_true_eq, decide_eq_true_eq]
      exact ⟨fun h => ⟨h.2.1, h.2.2⟩, fun h => ⟨by omega, h.1, h.2⟩⟩
    have HFIT := Lib.hid hfit
    have HOWN := Lib.hid hown
    have HBD := Lib.hid hbd
    have HLN := Lib.hid hlN
    have HX := Lib.hid hx
    have HP := Lib.hid hP
    have HCM := Lib.hid hcm
    have HCB := Lib.hid hcb
    have HSL := Lib.hid hsl
    have HLEN := Lib.hid hlen
    have HE := Lib.hid he
    have HM := Lib.hid hM
    have hgS := own_lt hown
    have he8 : e ≤ 8 := by omega
    have hMm : M + 1 ≤ m := by omega
    have hMm' : m ≤ M + 1 := by omega
    clear hr hcells hfit hown hbd hlN hx hP hcm hcb hsl hlen he hne hM
    by_cases h1 : n < x
    · have G := Lib.hid (show lvS n L 0 c s = s by unfold lvS; rw [HFIT.out, decide_eq_false (by omega)]; rfl)
      have i1 : (n : Int) < (x : Int) := by omega
      clear h1
      go_enter Try.func57, Try.ntmps57
      go_wp2
      refine bodyPost_ret (v := .tuple #[]) (by simp [results, Try.results57, go_sem]) rfl ?_
      exact ⟨rfl, by rw [G.out]; exact HOWN.out, Frm.refl _ _, Below.refl _ _⟩
    have i1 : ¬ (n : Int) < (x : Int) := by omega
    by_cases h2 : P < n
    · have G := Lib.hid (show lvS n L 0 c s = s by unfold lvS; rw [HFIT.out, decide_eq_false (by omega)]; rfl)
      have i2 : (P : Int) < (n : Int) := by omega
      clear h2
      go_enter Try.func57, Try.ntmps57
      go_wp2
      refine bodyPost_ret (v := .tuple #[]) (by simp [results, Try.results57, go_sem]) rfl ?_
      exact ⟨rfl, by rw [G.out]; exact HOWN.out, Frm.refl _ _, Below.refl _ _⟩
    have i2 : ¬ (P : Int) < (n : Int) := by omega
    have hft : fitN n L (lastN c) (c.length - 1) = true := by rw [HFIT.out, decide_eq_true (by omega)]
    obtain ⟨y, hy⟩ : ∃ y, s.getD M 0 = y := ⟨_, rfl⟩
    have hyb := HBD.out M
    rw [hy] at hyb
    have hst : stepL s c = s.set M (y + 1) := by unfold stepL; rw [HCM.out, HM.out, Nat.add_sub_cancel, hy]
    have hcS : w.cell? ⟨gS, M, none⟩ = some (.int .i64 y) := by
      obtain ⟨g, hg, _, _, hc⟩ := own_cells HOWN.out HSL.out (by omega)
      injection hg with hg
      injection hg with hg
      subst hg
      rw [hc M (by omega), hy]
    have hwy : IntKind.i64.wrap (y + 1) = y + 1 := IntWalk.i64_in _ (by omega)
    obtain ⟨fz, hst1⟩ := own_store (x := y + 1) (i := M) HOWN.out HSL.out
    rw [← hst] at hst1
    have HST := Lib.hid hst1
    have iML : (M : Int) < (L : Int) + 1 := by omega
    have HFT := Lib.hid hft
    have F1 := Lib.hid (show Frm (fun b => b = gS) w (w.setCell ⟨gS, M, none⟩ (.int .i64 (y + 1))) from Frm.set rfl)
    have B1 := Lib.hid (show Below BS w (w.setCell ⟨gS, M, none⟩ (.int .i64 (y + 1))) from (Below.refl _ _).setCell hgS.1 _)
    clear hy hst hst1 hft h1 h2
    have eML : M = L := by omega
    subst eML
    have G := Lib.hid (show lvS n M 0 c s = stepL s c by unfold lvS; rw [HFT.out]; rfl)
    have ieq : ((M : Int) == (M : Int)) = true := by simp
    have e0 : e = 0 := by have := HE.out; omega
    have hxP : P = x := by
      have := HP.out
      rw [e0, Nat.pow_zero, Nat.mul_one] at this
      exact this.symm
    have i2x : ¬ (x : Int) < (n : Int) := by omega
    clear e0 hxP
    go_enter Try.func57, Try.ntmps57
    go_wp2
    refine bodyPost_ret (v := .tuple #[]) (by simp [results, Try.results57, go_sem]) rfl ?_
    exact ⟨rfl, by rw [G.out]; exact HST.out, F1.out, B1.out⟩
  | succ d ih =>
    intro m K c s B A cc w hcm hm1 hmd hcb hlast hsl hbd hK hB hr hne hown
    obtain ⟨M, hM⟩ : ∃ M, m = M + 1 := ⟨m - 1, by omega⟩
    have hlen : (cs c).length = m := by rw [cs_len]; exact hcm
    rw [← hlen] at hr
    obtain ⟨b, off, rfl, hbB, hcells⟩ := hr.cells (by omega)
    rw [hlen] at hr
    have hbg : b ≠ gS := hne b off rfl
    have HCE := Lib.hid (show ∀ i, i < m → w.cell? ⟨b, off + i, none⟩ = some (.int .i64 ((c.getD i 0 : Nat) : Int)) from fun i hi => by
      have := hcells i (by omega)
      rwa [cs_getD] at this)
    have cl := HCE.out M (by omega)
    have hlN : lastN c = c.getD M 0 := by unfold lastN; rw [hcm, hM]; rfl
    obtain ⟨x, hx⟩ : ∃ x, c.getD M 0 = x := ⟨_, rfl⟩
    rw [hx] at cl hlN
    rw [hlN] at hlast
    have hw1 : IntKind.i64.wrap ((m : Int) - 1) = (M : Int) := by rw [IntWalk.i64_in _ (by omega)]; omega
    have iM : (M : Int) < (m : Int) := by omega
    obtain ⟨e, he⟩ : ∃ e, L - M = e := ⟨_, rfl⟩
    have hwe : IntKind.i64.wrap ((L : Int) - (M : Int)) = (e : Int) := by rw [IntWalk.i64_in _ (by omega)]; omega
    obtain ⟨P, hP⟩ : ∃ P, x * 2 ^ e = P := ⟨_, rfl⟩
    have hPI : (x : Int) * 2 ^ e = (P : Int) := by rw [← hP]; push_cast; rfl
    have hPb : P ≤ 51200 := by
      have h1 : 2 ^ e ≤ 256 := Nat.pow_le_pow_right (n := 2) (by decide) (show e ≤ 8 by omega)
      have := Nat.mul_le_mul hlast h1
      omega
    have hwP : IntKind.i64.wrap (P : Int) = (P : Int) := IntWalk.i64_in _ (by omega)
    have hfit : fitN n L (lastN c) (c.length - 1) = decide (x ≤ n ∧ n ≤ P) := by
      unfold fitN
      rw [hlN, hcm, hM, Nat.add_sub_cancel, he, hP, Bool.eq_iff_iff, decide_eq_true_eq, decide_eq_true_eq]
      exact ⟨fun h => ⟨h.2.1, h.2.2⟩, fun h => ⟨by omega, h.1, h.2⟩⟩
    have HFIT := Lib.hid hfit
    have HOWN := Lib.hid hown
    have HBD := Lib.hid hbd
    have HLN := Lib.hid hlN
    have HX := Lib.hid hx
    have HP := Lib.hid hP
    have HCM := Lib.hid hcm
    have HCB := Lib.hid hcb
    have HSL := Lib.hid hsl
    have HLEN := Lib.hid hlen
    have HE := Lib.hid he
    have HM := Lib.hid hM
    have hgS := own_lt hown
    have he8 : e ≤ 8 := by omega
    have hMm : M + 1 ≤ m := by omega
    have hMm' : m ≤ M + 1 := by omega
    clear hr hcells hfit hown hbd hlN hx hP hcm hcb hsl hlen he hne hM
    by_cases h1 : n < x
    · have G := Lib.hid (show lvS n L (d + 1) c s = s by unfold lvS; rw [HFIT.out, decide_eq_false (by omega)]; rfl)
      have i1 : (n : Int) < (x : Int) := by omega
      clear h1
      go_enter Try.func57, Try.ntmps57
      go_wp2
      refine bodyPost_ret (v := .tuple #[]) (by simp [results, Try.results57, go_sem]) rfl ?_
      exact ⟨rfl, by rw [G.out]; exact HOWN.out, Frm.refl _ _, Below.refl _ _⟩
    have i1 : ¬ (n : Int) < (x : Int) := by omega
    by_cases h2 : P < n
    · have G := Lib.hid (show lvS n L (d + 1) c s = s by unfold lvS; rw [HFIT.out, decide_eq_false (by omega)]; rfl)
      have i2 : (P : Int) < (n : Int) := by omega
      clear h2
      go_enter Try.func57, Try.ntmps57
      go_wp2
      refine bodyPost_ret (v := .tuple #[]) (by simp [results, Try.results57, go_sem]) rfl ?_
      exact ⟨rfl, by rw [G.out]; exact HOWN.out, Frm.refl _ _, Below.refl _ _⟩
    have i2 : ¬ (P : Int) < (n : Int) := by omega
    have hft : fitN n L (lastN c) (c.length - 1) = true := by rw [HFIT.out, decide_eq_true (by omega)]
    obtain ⟨y, hy⟩ : ∃ y, s.getD M 0 = y := ⟨_, rfl⟩
    have hyb := HBD.out M
    rw [hy] at hyb
    have hst : stepL s c = s.set M (y + 1) := by unfold stepL; rw [HCM.out, HM.out, Nat.add_sub_cancel, hy]
    have hcS : w.cell? ⟨gS, M, none⟩ = some (.int .i64 y) := by
      obtain ⟨g, hg, _, _, hc⟩ := own_cells HOWN.out HSL.out (by omega)
      injection hg with hg
      injection hg with hg
      subst hg
      rw [hc M (by omega), hy]
    have hwy : IntKind.i64.wrap (y + 1) = y + 1 := IntWalk.i64_in _ (by omega)
    obtain ⟨fz, hst1⟩ := own_store (x := y + 1) (i := M) HOWN.out HSL.out
    rw [← hst] at hst1
    have HST := Lib.hid hst1
    have iML : (M : Int) < (L : Int) + 1 := by omega
    have HFT := Lib.hid hft
    have F1 := Lib.hid (show Frm (fun b => b = gS) w (w.setCell ⟨gS, M, none⟩ (.int .i64 (y + 1))) from Frm.set rfl)
    have B1 := Lib.hid (show Below BS w (w.setCell ⟨gS, M, none⟩ (.int .i64 (y + 1))) from (Below.refl _ _).setCell hgS.1 _)
    clear hy hst hst1 hft h1 h2
    have IH := Lib.hid ih
    have G := Lib.hid (lvJ_end (n := n) (L := L) (d := d) (c := c) (s := s) HFT.out)
    have ine : ((M : Int) == (L : Int)) = false := by rw [beq_eq_false_iff_ne]; omega
    have hpk : K + (1 + m * preN d (m + 1)) ≤ 1000000 := hK
    have HPK := Lib.hid hpk
    clear ih hpk hK
    go_enter Try.func57, Try.ntmps57
    go_wp2
    go_loopw [42] (fun iv wr => ∃ i : Nat, iv = .int .i64 (i : Int) ∧ i ≤ m ∧ Aside (OwI wr BS (.slice (some ⟨gS, 0, none⟩) (L + 1) cS) (lvJ n L d c s i) ∧ Frm (fun b => b = gS) w wr ∧ Below BS w wr)) (fun iv _ => m - (intOf iv).toNat)
    case atStart => exact ⟨0, rfl, by omega, HST.out, F1.out, B1.out⟩
    case round =>
      obtain ⟨i, rfl, hi, AS⟩ := hrel
      have OWN := Lib.hid AS.out.1
      have FR := Lib.hid AS.out.2.1
      have BEL := Lib.hid AS.out.2.2
      have hs := AS.out.2.1.size
      have hgr := own_lt AS.out.1
      clear AS
      by_cases hlt : i < m
      · have iim : (i : Int) < (m : Int) := by omega
        have hcw : ∀ j, j < m → wr.cell? ⟨b, off + j, none⟩ = some (.int .i64 ((c.getD j 0 : Nat) : Int)) := fun j hj => (cell_heap (p := ⟨b, off + j, none⟩) (FR.out.block b (by omega) hbg)).trans (HCE.out j hj)
        have hrw : Rd wr B 1 (some ⟨b, off, none⟩) m ((cs c).map I) := by
          refine ⟨by rw [List.length_map, HLEN.out, Nat.mul_one], fun _ => ⟨b, off, rfl, hbB, fun j hj => ?_⟩⟩
          rw [hcw j (by omega), List.getElem?_map]
          have hjl : j < (cs c).length := by rw [HLEN.out]; omega
          have := cs_getD c j
          rw [List.getD_eq_getElem?_getD, List.getElem?_eq_getElem hjl] at this
          rw [List.getElem?_eq_getElem hjl]
          simp only [Option.getD_some] at this
          simp [this, I]
        have ci := hcw i hlt
        have hsucc := lvJ_succ (n := n) (L := L) (d := d) (s := s) (i := i) (c := c) (by rw [HCM.out]; exact hlt)
        have ha200 : c.getD i 0 ≤ 100 := by
          rcases Nat.lt_or_ge (i + 1) m with h | h
          · exact HCB.out i h
          · rw [show i = M by have := HM.out; omega, HX.out]; omega
        have hx100 : x ≤ 100 := by omega
        obtain ⟨a, ha⟩ : ∃ a, c.getD i 0 = a := ⟨_, rfl⟩
        rw [ha] at ci hsucc ha200
        rw [HLN.out] at hsucc
        obtain ⟨z, hz⟩ : ∃ z, x + a = z := ⟨_, rfl⟩
        rw [hz] at hsucc
        have hwa : IntKind.i64.wrap ((x : Int) + (a : Int)) = (z : Int) := by rw [IntWalk.i64_in _ (by omega)]; omega
        have HOW := Lib.hid (show Calls _ _ _ _ _ from by
          have h := l1Own_any B (some ⟨b, off, none⟩) cc (cs c) wr (by rw [HLEN.out]; omega) (by omega) (by rw [HLEN.out]; exact hrw)
          rw [HLEN.out] at h
          exact h)
        have hbud : K + 1 + i * preN d (m + 1) + preN d (m + 1) ≤ 1000000 := by
          have h1 := Nat.mul_le_mul_right (preN d (m + 1)) (show i + 1 ≤ m by omega)
          rw [Nat.succ_mul] at h1
          have := HPK.out
          omega
        have hbdJ := lvJ_bd (n := n) (L := L) (d := d) (c := c) HBD.out i (by rw [HCM.out]; omega)
        rw [HCM.out] at hbdJ
        have IHC := Lib.hid (fun (B' : Nat) (A' : Option Addr) (cc' : Nat) (W : World) (h8 : B' ≤ W.heap.size) (h9 : Rd W B' 1 A' (m + 1) ((cs (c ++ [z])).map I)) (h10 : ∀ b off, A' = some ⟨b, off, none⟩ → b ≠ gS) (h11 : OwI W BS (.slice (some ⟨gS, 0, none⟩) (L + 1) cS) (lvJ n L d c s i)) =>
          IH.out (m + 1) (K + 1 + i * preN d (m + 1)) (c ++ [z]) (lvJ n L d c s i) B' A' cc' W (by rw [List.length_append, HCM.out]; rfl) (by omega) (by omega) (fun j hj => by
            rw [List.getD_eq_getElem?_getD, List.getElem?_append_left (by rw [HCM.out]; omega), ← List.getD_eq_getElem?_getD]
            rcases Nat.lt_or_ge (j + 1) m with h | h
            · exact HCB.out j h
            · rw [show j = M by have := HM.out; omega, HX.out]; omega) (by rw [lastN_snoc]; omega) (by rw [lvJ_len]; exact HSL.out) hbdJ hbud h8 h9 h10 h11)
        rw [← hsucc] at IHC
        have CSN := Lib.hid (show cs c ++ [(z : Int)] = cs (c ++ [z]) from (cs_snoc c z).symm)
        clear ha hz hsucc hcw hrw hbud hbdJ
        go_wp2_with (first
          | (go_at_call 78; refine HOW.out.mono ?_; rintro e w5 ⟨A5, c5, rfl, hown5, hb5⟩; have O5 := Lib.hid hown5; have B5 := Lib.hid hb5; have hs5 : wr.heap.size ≤ w5.heap.size := hb5.size; clear hown5 hb5)
          | (at_builtin; refine list_step (fun K hK => ?_); refine step_app_int rfl (.tmp 47) (.tmp 51) rfl wr.heap.size m _ (cs c) rfl (OwI.alloc O5.out _) HLEN.out w5.heap.size 1 (z : Int) rfl (by simp) (by omega) (by simp; omega) ?_; intro A6 c6 w6 hown6 hg6 hbel6; have O6 := Lib.hid hown6; have B6 := Lib.hid ((B5.out.alloc hs5 _).trans hbel6); have hs6 : wr.heap.size ≤ w6.heap.size := (by have := hbel6.size; simp at this; omega); clear hown6 hg6 hbel6; go_simp; refine hK _ _ ?_; clear hK K)
          | (go_at_call 57; refine (IHC.out w6.heap.size A6 c6 w6 (Nat.le_refl _) (by have h := O6.out; unfold OwI at h; rw [CSN.out, cs_len, List.length_append, HCM.out] at h; exact Rd.of_own h) (fun b' off' e' => by subst e'; have h := (own_block (show World.ownsRow _ _ _ _ _ _ _ from O6.out) b' rfl).1; omega) (OwI.below OWN.out B6.out)).mono ?_; rintro e w7 ⟨rfl, hown7, hfr7, hb7⟩; have O7 := Lib.hid hown7; have F7 := Lib.hid (FR.out.trans ((Frm.of_below B6.out).trans hfr7)); have B7 := Lib.hid (BEL.out.trans ((B6.out.mono (by omega)).trans hb7)); clear hown7 hfr7 hb7))
        go_roundw
        case rel => exact ⟨i + 1, by go_num, by omega, O7.out, F7.out, B7.out⟩
        case measure => simp [intOf]; omega
      · have e : i = m := by omega
        subst e
        have hE := G.out
        rw [HCM.out] at hE
        have HE2 := Lib.hid hE
        clear hE
        go_wp2
        go_end0
        exact ⟨rfl, by rw [← HE2.out]; exact OWN.out, FR.out, BEL.out⟩
end Go.Proofs.Ytppahohakiidmaa
