/- Reading texts of digits: as data; ParseSigned of the model. -/
import Derived.Test.YtbohakifjmdoiabDoorN9b
import Derived.Lib.Strings
namespace Go.Proofs.YtbohakifjmdoiabDoor
open Go.RowKit

/-- The letters of a text as numbers. -/
def lts (s : ByteArray) : List Int := s.data.toList.map fun b => (b.toNat : Int)
theorem lts_len (s : ByteArray) : (lts s).length = s.size := by simp [lts]
def okL (z : Int) : Bool := decide (z = 45 ∨ z = 48 ∨ z = 43)
def dgL (z : Int) : Int := if z = 45 then -1 else if z = 48 then 0 else 1
/-- The digits that have been read when k letters are over, the last letter first. -/
def pl (zs : List Int) (k : Nat) : List Int := (List.range k).map fun j => dgL (zs.getD (zs.length - 1 - j) 0)
theorem pl_len (zs : List Int) (k : Nat) : (pl zs k).length = k := by simp [pl]
theorem pl_succ (zs : List Int) (k : Nat) : pl zs (k + 1) = pl zs k ++ [dgL (zs.getD (zs.length - 1 - k) 0)] := by simp [pl, List.range_succ]
def psB (zs : List Int) : Bool := decide (zs = [61]) || (zs.all okL && decide (1 ≤ zs.length) && decide (zs.length ≤ 24))
def psR (zs : List Int) : List Int := if zs.all okL && decide (1 ≤ zs.length) && decide (zs.length ≤ 24) then pl zs zs.length else []
theorem lts_eq (s : ByteArray) : (s.toList == [61]) = decide (lts s = [61]) := by
  rw [ByteArray.toList_eq]
  unfold lts
  rcases hs : s.data.toList with _ | ⟨a, r⟩
  · rfl
  · rcases r with _ | ⟨b, r⟩
    · rw [Bool.eq_iff_iff]
      simp [← UInt8.toNat_inj]
      omega
    · simp
theorem lts_at {s : ByteArray} {p : Nat} (h : p < s.size) : ((s[p]'h).toNat : Int) = (lts s).getD p 0 := by
  have h2 : p < s.data.size := h
  rw [show s[p]'h = s.data[p]'h2 from rfl]
  unfold lts
  rw [List.getD_eq_getElem?_getD, List.getElem?_map, List.getElem?_eq_getElem (by simpa using h2)]
  simp
theorem all_of {zs : List Int} (h : ∀ j, j < zs.length → okL (zs.getD (zs.length - 1 - j) 0) = true) : zs.all okL = true := by
  rw [List.all_eq_true]
  intro x hx
  obtain ⟨i, hi, rfl⟩ := List.getElem_of_mem hx
  have := h (zs.length - 1 - i) (by omega)
  rw [show zs.length - 1 - (zs.length - 1 - i) = i by omega] at this
  simpa [hi] using this
theorem not_all {zs : List Int} {p : Nat} (hp : p < zs.length) (h : okL (zs.getD p 0) = false) : zs.all okL = false := by
  rw [Bool.eq_false_iff]
  intro ha
  have := List.all_eq_true.1 ha zs[p] (List.getElem_mem hp)
  rw [show zs.getD p 0 = zs[p] by simp [hp]] at h
  rw [this] at h
  cases h

set_option maxRecDepth 100000 in
set_option maxHeartbeats 4000000 in
theorem specParse_any (s : ByteArray) (w : World) (hl : s.size ≤ 1048576) :
    Calls Tryd.prog 9 #[.string s] w fun e w' => ∃ A c, e = .returned (.tuple #[.slice A (psR (lts s)).length c, .bool (psB (lts s))]) ∧ OwI w' w.heap.size (.slice A (psR (lts s)).length c) (psR (lts s)) ∧ Below w.heap.size w w' := by
  obtain ⟨zs, hz⟩ : ∃ zs, lts s = zs := ⟨_, rfl⟩
  have hsz : zs.length = s.size := by rw [← hz, lts_len]
  have hat := fun (p : Nat) (h : p < s.size) => lts_at h
  have heq := lts_eq s
  rw [hz] at hat heq ⊢
  have AT := Lib.hid hat
  clear hat hz
  by_cases h61 : zs = [61]
  · have EB := Lib.hid (show psB zs = true by rw [h61]; rfl)
    have ER := Lib.hid (show psR zs = [] by rw [h61]; rfl)
    rw [decide_eq_true h61] at heq
    clear AT hsz h61
    go_enter Tryd.func9, Tryd.ntmps9
    go_wp2
    go_ret2
    exact ⟨none, 0, by rw [ER.out, EB.out]; rfl, by rw [ER.out]; exact OwI.nil _ _, Below.refl _ _⟩
  have H61 := Lib.hid h61
  rw [decide_eq_false h61] at heq
  clear h61
  go_enter Tryd.func9, Tryd.ntmps9
  go_wp2
  go_loopw [4, 5] (fun ov iv wr => ∃ (k : Nat) (A1 : Option Addr) (c1 : Nat), k ≤ zs.length ∧ ov = .slice A1 k c1 ∧ OwI wr w.heap.size ov (pl zs k) ∧ iv = .int .i64 ((zs.length : Int) - 1 - k) ∧ (∀ j, j < k → okL (zs.getD (zs.length - 1 - j) 0) = true) ∧ Below w.heap.size w wr) (fun _ iv _ => (intOf iv + 1).toNat)
  case atStart => exact ⟨0, none, 0, Nat.zero_le _, rfl, OwI.nil _ _, by simp [hsz], fun j hj => absurd hj (by omega), Below.refl _ _⟩
  case round =>
    obtain ⟨k, A1, c1, hk, rfl, hown, rfl, hok, hbel⟩ := hrel
    have OWN := Lib.hid hown
    have BEL := Lib.hid hbel
    have OK := Lib.hid hok
    have hs := hbel.size
    clear hown hbel hok
    by_cases hlt : k < zs.length
    · obtain ⟨p, hp⟩ : ∃ p : Nat, zs.length - 1 - k = p := ⟨_, rfl⟩
      have ep : (zs.length : Int) - 1 - (k : Int) = (p : Int) := by omega
      have ip : (0 : Int) ≤ (p : Int) := by omega
      have ipl : (p : Int) < (s.size : Int) := by omega
      have hpl : p < s.size := by omega
      have hb := AT.out p hpl
      have EP := Lib.hid (pl_succ zs k)
      have PL := Lib.hid (pl_len zs k)
      obtain ⟨b, hbe⟩ : ∃ b, zs.getD p 0 = b := ⟨_, rfl⟩
      rw [hbe] at hb
      rw [ep]
      have hsl : k ≤ 1048575 := by omega
      have hr16 : (okL b = true → dgL (zs.getD (zs.length - 1 - k) 0) = dgL b) := fun _ => by rw [hp, hbe]
      by_cases hg : okL b = true
      · have hb3 : b = 45 ∨ b = 48 ∨ b = 43 := by simpa [okL] using hg
        have OK2 := Lib.hid (show ∀ j, j < k + 1 → okL (zs.getD (zs.length - 1 - j) 0) = true from fun j hj => by
          by_cases e : j = k
          · rw [e, hp, hbe]; exact hg
          · exact OK.out j (by omega))
        have hs2 : (pl zs k ++ [dgL b]) = pl zs (k + 1) := by rw [EP.out, hr16 hg]
        clear hr16 hg hbe hp
        rcases hb3 with rfl | rfl | rfl
        · have E2 := Lib.hid (show pl zs k ++ [-1] = pl zs (k + 1) from hs2)
          clear hs2
          go_wp2_with (at_builtin; refine list_step (fun K hK => ?_); refine step_app_int rfl (.tmp 20) (.tmp 21) rfl w.heap.size k _ (pl zs k) rfl (OWN.out.alloc _) PL.out wr.heap.size 1 (-1) rfl (by simp) (by omega) (by simp; omega) ?_; intro A3 c3 w3 hown3 hg3 hbel3; go_simp; refine hK _ _ ?_; clear hK K)
          go_roundw
          case rel => exact ⟨k + 1, A3, c3, by omega, rfl, by rw [← E2.out]; exact hown3, by rw [← ep]; go_num, OK2.out, (BEL.out.alloc hs _).trans hbel3⟩
          case measure => simp [intOf]
        · have E2 := Lib.hid (show pl zs k ++ [0] = pl zs (k + 1) from hs2)
          clear hs2
          go_wp2_with (at_builtin; refine list_step (fun K hK => ?_); refine step_app_int rfl (.tmp 25) (.tmp 26) rfl w.heap.size k _ (pl zs k) rfl (OWN.out.alloc _) PL.out wr.heap.size 1 (0) rfl (by simp) (by omega) (by simp; omega) ?_; intro A3 c3 w3 hown3 hg3 hbel3; go_simp; refine hK _ _ ?_; clear hK K)
          go_roundw
          case rel => exact ⟨k + 1, A3, c3, by omega, rfl, by rw [← E2.out]; exact hown3, by rw [← ep]; go_num, OK2.out, (BEL.out.alloc hs _).trans hbel3⟩
          case measure => simp [intOf]
        · have E2 := Lib.hid (show pl zs k ++ [1] = pl zs (k + 1) from hs2)
          clear hs2
          go_wp2_with (at_builtin; refine list_step (fun K hK => ?_); refine step_app_int rfl (.tmp 30) (.tmp 31) rfl w.heap.size k _ (pl zs k) rfl (OWN.out.alloc _) PL.out wr.heap.size 1 (1) rfl (by simp) (by omega) (by simp; omega) ?_; intro A3 c3 w3 hown3 hg3 hbel3; go_simp; refine hK _ _ ?_; clear hK K)
          go_roundw
          case rel => exact ⟨k + 1, A3, c3, by omega, rfl, by rw [← E2.out]; exact hown3, by rw [← ep]; go_num, OK2.out, (BEL.out.alloc hs _).trans hbel3⟩
          case measure => simp [intOf]
      · have hg' : okL b = false := by simpa using hg
        have hn := not_all (zs := zs) (p := p) (by omega) (by rw [hbe]; exact hg')
        have EB := Lib.hid (show psB zs = false by unfold psB; rw [hn, decide_eq_false H61.out]; rfl)
        have ER := Lib.hid (show psR zs = [] by unfold psR; rw [hn]; rfl)
        have hb3 : ¬ (b = 45 ∨ b = 48 ∨ b = 43) := by simpa [okL] using hg
        have ib1 : (b == 45) = false := by simp; omega
        have ib2 : (b == 48) = false := by simp; omega
        have ib3 : (b == 43) = false := by simp; omega
        clear hr16 hg hbe hp hg' hn hb3
        go_wp2
        go_ret2
        exact ⟨none, 0, by rw [ER.out, EB.out]; rfl, by rw [ER.out]; exact OwI.nil _ _, BEL.out⟩
    · obtain rfl : k = zs.length := by omega
      have ip : ¬ (0 : Int) ≤ (zs.length : Int) - 1 - (zs.length : Int) := by omega
      have ha := all_of OK.out
      have hLI : Calls Tryd.prog 16 #[.int .i64 (zs.length : Int), .int .i64 1, .int .i64 24] wr fun e w' => e = .returned (.bool (inB (zs.length : Int) 1 24)) ∧ wr = w' := l1In_any _ _ _ _
      by_cases hR : 1 ≤ zs.length ∧ zs.length ≤ 24
      · have EB := Lib.hid (show psB zs = true by unfold psB; rw [ha, decide_eq_true hR.1, decide_eq_true hR.2, decide_eq_false H61.out]; rfl)
        have ER := Lib.hid (show psR zs = pl zs zs.length by unfold psR; rw [ha, decide_eq_true hR.1, decide_eq_true hR.2]; rfl)
        have PL := Lib.hid (pl_len zs zs.length)
        rw [show inB (zs.length : Int) 1 24 = true by unfold inB; simp; omega] at hLI
        have HLI := Lib.hid hLI
        clear hLI ha hR hsz
        go_wp2_with (go_at_call 16; refine HLI.out.mono ?_; rintro e w' ⟨rfl, rfl⟩)
        go_ret2
        exact ⟨A1, c1, by rw [ER.out, EB.out, PL.out]; rfl, by rw [ER.out, PL.out]; exact OWN.out, BEL.out⟩
      · have hd : (decide (1 ≤ zs.length) && decide (zs.length ≤ 24)) = false := by simpa using hR
        have EB := Lib.hid (show psB zs = false by unfold psB; rw [Bool.and_assoc, hd, Bool.and_false, decide_eq_false H61.out]; rfl)
        have ER := Lib.hid (show psR zs = [] by unfold psR; rw [Bool.and_assoc, hd, Bool.and_false]; rfl)
        rw [show inB (zs.length : Int) 1 24 = false by unfold inB; simp; omega] at hLI
        have HLI := Lib.hid hLI
        clear hLI ha hR hd hsz
        go_wp2_with (go_at_call 16; refine HLI.out.mono ?_; rintro e w' ⟨rfl, rfl⟩)
        go_ret2
        exact ⟨none, 0, by rw [ER.out, EB.out]; rfl, by rw [ER.out]; exact OwI.nil _ _, BEL.out⟩
end Go.Proofs.YtbohakifjmdoiabDoor
