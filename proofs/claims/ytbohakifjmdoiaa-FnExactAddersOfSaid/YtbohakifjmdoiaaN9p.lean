/- AddersOf: of both programs. -/
import Derived.Test.YtbohakifjmdoiaaN9o
namespace Go.Proofs.Ytbohakifjmdoiaa
open Go.RowKit

def aoF (n : Int) : List Ad := if n = 0 then [(0, 0, 0, 0, true)] else if n < 0 then mkA (-n) ++ [(((mkA (-n)).length : Int), 0, ((mkA (-n)).length : Int), 1, true)] else mkA n
def aoR (n : Int) : List Ad := if isN9 n then aoF n else []
theorem mkA_len {n : Int} (h : n.natAbs ≤ 1000000) : (mkA n).length ≤ 29 := by
  have h1 := wnD_len28 (T := 4) (n := n) (.inl rfl) h
  have h2 := mkQ_len (wnD 4 n).dropLast
  rw [List.length_dropLast] at h2
  unfold mkA
  omega
theorem aoR_len (n : Int) : (aoR n).length ≤ 1000 := by
  unfold aoR
  split
  · rename_i h
    have h := isN9_rng h
    unfold aoF
    split
    · simp
    · split
      · have := mkA_len (n := -n) (by omega)
        rw [List.length_append]; simp; omega
      · have := mkA_len (n := n) (by omega)
        omega
  · simp
theorem aoR_false {n : Int} (h : isN9 n = false) : aoR n = [] := by unfold aoR; rw [h]; rfl
theorem aoR_zero {n : Int} (h : isN9 n = true) (h0 : n = 0) : aoR n = [(0, 0, 0, 0, true)] := by unfold aoR aoF; rw [if_pos h, if_pos h0]
theorem aoR_pos {n : Int} (h : isN9 n = true) (h0 : 0 < n) : aoR n = mkA n := by unfold aoR aoF; rw [if_pos h, if_neg (by omega), if_neg (by omega)]
theorem aoR_neg {n N : Int} (h : isN9 n = true) (h0 : n < 0) (e : -n = N) : aoR n = mkA N ++ [(((mkA N).length : Int), 0, ((mkA N).length : Int), 1, true)] := by unfold aoR aoF; rw [if_pos h, if_neg (by omega), if_pos h0, e]

set_option maxRecDepth 100000 in
set_option maxHeartbeats 4000000 in
theorem specAddersOf_any (B : Nat) (n : Int) (w : World) (_ : B ≤ w.heap.size) :
    Calls Try.prog 46 #[.int .i64 n] w fun e w' =>
      ∃ A' c', e = .returned (.tuple #[.slice A' (aoR n).length c', .bool (isN9 n)]) ∧ OwA w' w.heap.size A' c' (aoR n) ∧ Below w.heap.size w w' := by
  obtain ⟨g1, h1⟩ : ∃ g, isN9 n = g := ⟨_, rfl⟩
  have H1 := Lib.hid (fun W => siNumber_any n W)
  rw [h1] at H1
  have HG := Lib.hid h1
  rw [h1]
  cases g1 with
  | false =>
    have E := Lib.hid (aoR_false h1)
    clear h1
    go_enter Try.func46, Try.ntmps46
    go_wp2_with (go_at_call 49; refine (H1.out _).mono ?_; rintro e w' ⟨rfl, rfl⟩)
    go_ret2
    exact ⟨none, 0, by rw [E.out]; rfl, by rw [E.out]; exact OwA.nil _ _, Below.refl _ _⟩
  | true =>
    have hr := isN9_rng h1
    by_cases hz : n = 0
    · have E := Lib.hid (aoR_zero h1 hz)
      have i0 : (n == 0) = true := by simp [hz]
      have LIT := Lib.hid (own_lit5 w 0 0 0 0 true)
      have LB := Lib.hid ((Below.refl w.heap.size w).alloc (Nat.le_refl _) (.cells #[.int .i64 0, .int .i64 0, .int .i64 0, .int .i64 0, .bool true] 39))
      clear h1 hz
      go_enter Try.func46, Try.ntmps46
      go_wp2_with (go_at_call 49; refine (H1.out _).mono ?_; rintro e w' ⟨rfl, rfl⟩)
      go_ret2
      exact ⟨some ⟨w.heap.size, 0, none⟩, 1, by rw [E.out]; rfl, by rw [E.out]; exact LIT.out, LB.out⟩
    · have i0 : (n == 0) = false := by simpa using hz
      by_cases hp : 0 < n
      · have E := Lib.hid (aoR_pos h1 hp)
        have HM := Lib.hid (siMake_any n w (by omega) (by omega))
        have i1 : 0 < n := hp
        clear h1 hz
        go_enter Try.func46, Try.ntmps46
        go_wp2_with (first
          | (go_at_call 49; refine (H1.out _).mono ?_; rintro e w' ⟨rfl, rfl⟩)
          | (go_at_call 80; refine HM.out.mono ?_; rintro e w2 ⟨A, c, rfl, ho, hb⟩))
        go_ret2
        exact ⟨A, c, by rw [E.out]; rfl, by rw [E.out]; exact ho, hb⟩
      · have i1 : ¬ 0 < n := by omega
        obtain ⟨N, hN⟩ : ∃ N, -n = N := ⟨_, rfl⟩
        have E := Lib.hid (aoR_neg h1 (by omega) hN)
        have HM := siMake_any N w (by omega) (by omega)
        have hml := mkA_len (n := N) (by omega)
        have e1 : IntKind.i64.wrap N = N := IntWalk.i64_in _ (by omega)
        have e2 : wrap64 N = N := IntWalk.wrap64_in _ (by omega)
        obtain ⟨z, hzz⟩ : ∃ z, mkA N = z := ⟨_, rfl⟩
        rw [hzz] at E HM hml
        obtain ⟨L, hL⟩ : ∃ L, z.length = L := ⟨_, rfl⟩
        have EZ := Lib.hid hL
        rw [hL] at E HM hml
        have HM := Lib.hid HM
        clear h1 hz hp hzz hL
        go_enter Try.func46, Try.ntmps46
        go_wp2_with fail
        go_at_call 49
        refine (H1.out _).mono ?_
        rintro e w' ⟨rfl, rfl⟩
        go_wp2_with fail
        go_at_call 80
        refine HM.out.mono ?_
        rintro e w2 ⟨A, c, rfl, ho, hb⟩
        have OWN := Lib.hid (show w2.ownsRow w.heap.size 39 5 (.slice A L c) L (fl5 z) by have h := ho; unfold OwA at h; rwa [EZ.out] at h)
        have HB := Lib.hid hb
        have NF := Lib.hid (new5s w2 (.int .i64 (L : Int)) (.int .i64 0) (.int .i64 (L : Int)) (.int .i64 1) (.bool true) 39)
        have hs := hb.size
        clear ho hb
        go_wp2_with (at_builtin; refine list_step (fun K hK => ?_); refine step_appN Try.underlying46 info_ad99 rfl (by omega) (by omega) rfl (.tmp 22) (.tmp 28) rfl w.heap.size L _ (fl5 z) rfl (World.ownsRow.alloc OWN.out _) w2.heap.size 1 [.int .i64 (L : Int), .int .i64 0, .int .i64 (L : Int), .int .i64 1, .bool true] rfl rfl NF.out (by simp [Value.oneCell']) (by omega) (by simp; omega) ?_; intro A3 c3 w4 hown4 hg4 hbel4; go_simp; refine hK _ _ ?_; clear hK K)
        go_ret2
        exact ⟨A3, c3, by rw [E.out, List.length_append, EZ.out]; rfl, by rw [E.out]; exact own_snoc5 EZ.out hown4, (HB.out.alloc hs _).trans hbel4⟩

set_option maxRecDepth 100000 in
set_option maxHeartbeats 4000000 in
theorem implAddersOf_any (B : Nat) (n : Int) (w : World) (_ : B ≤ w.heap.size) :
    Calls Try.prog 47 #[.int .i64 n] w fun e w' =>
      ∃ A' c', e = .returned (.tuple #[.slice A' (aoR n).length c', .bool (isN9 n)]) ∧ OwA w' w.heap.size A' c' (aoR n) ∧ Below w.heap.size w w' := by
  obtain ⟨g1, h1⟩ : ∃ g, isN9 n = g := ⟨_, rfl⟩
  have H1 := Lib.hid (fun W => isSignedNumber_any n W)
  rw [h1] at H1
  have HG := Lib.hid h1
  rw [h1]
  cases g1 with
  | false =>
    have E := Lib.hid (aoR_false h1)
    clear h1
    go_enter Try.func47, Try.ntmps47
    go_wp2_with (go_at_call 52; refine (H1.out _).mono ?_; rintro e w' ⟨rfl, rfl⟩)
    go_ret2
    exact ⟨none, 0, by rw [E.out]; rfl, by rw [E.out]; exact OwA.nil _ _, Below.refl _ _⟩
  | true =>
    have hr := isN9_rng h1
    by_cases hz : n = 0
    · have E := Lib.hid (aoR_zero h1 hz)
      have i0 : (n == 0) = true := by simp [hz]
      have LIT := Lib.hid (own_lit5 w 0 0 0 0 true)
      have LB := Lib.hid ((Below.refl w.heap.size w).alloc (Nat.le_refl _) (.cells #[.int .i64 0, .int .i64 0, .int .i64 0, .int .i64 0, .bool true] 39))
      clear h1 hz
      go_enter Try.func47, Try.ntmps47
      go_wp2_with (go_at_call 52; refine (H1.out _).mono ?_; rintro e w' ⟨rfl, rfl⟩)
      go_ret2
      exact ⟨some ⟨w.heap.size, 0, none⟩, 1, by rw [E.out]; rfl, by rw [E.out]; exact LIT.out, LB.out⟩
    · have i0 : (n == 0) = false := by simpa using hz
      by_cases hp : 0 < n
      · have E := Lib.hid (aoR_pos h1 hp)
        have HM := Lib.hid (addersFor_any n w (by omega) (by omega))
        have i1 : ¬ n < 0 := by omega
        clear h1 hz
        go_enter Try.func47, Try.ntmps47
        go_wp2_with (first
          | (go_at_call 52; refine (H1.out _).mono ?_; rintro e w' ⟨rfl, rfl⟩)
          | (go_at_call 81; refine HM.out.mono ?_; rintro e w2 ⟨A, c, rfl, ho, hb⟩))
        go_ret2
        exact ⟨A, c, by rw [E.out]; rfl, by rw [E.out]; exact ho, hb⟩
      · have i1 : n < 0 := by omega
        obtain ⟨N, hN⟩ : ∃ N, -n = N := ⟨_, rfl⟩
        have E := Lib.hid (aoR_neg h1 (by omega) hN)
        have HM := addersFor_any N w (by omega) (by omega)
        have hml := mkA_len (n := N) (by omega)
        have e1 : IntKind.i64.wrap N = N := IntWalk.i64_in _ (by omega)
        have e2 : wrap64 N = N := IntWalk.wrap64_in _ (by omega)
        obtain ⟨z, hzz⟩ : ∃ z, mkA N = z := ⟨_, rfl⟩
        rw [hzz] at E HM hml
        obtain ⟨L, hL⟩ : ∃ L, z.length = L := ⟨_, rfl⟩
        have EZ := Lib.hid hL
        rw [hL] at E HM hml
        have HM := Lib.hid HM
        clear h1 hz hp hzz hL
        go_enter Try.func47, Try.ntmps47
        go_wp2_with fail
        go_at_call 52
        refine (H1.out _).mono ?_
        rintro e w' ⟨rfl, rfl⟩
        go_wp2_with fail
        go_at_call 81
        refine HM.out.mono ?_
        rintro e w2 ⟨A, c, rfl, ho, hb⟩
        have OWN := Lib.hid (show w2.ownsRow w.heap.size 39 5 (.slice A L c) L (fl5 z) by have h := ho; unfold OwA at h; rwa [EZ.out] at h)
        have HB := Lib.hid hb
        have NF := Lib.hid (new5s w2 (.int .i64 (L : Int)) (.int .i64 0) (.int .i64 (L : Int)) (.int .i64 1) (.bool true) 39)
        have hs := hb.size
        clear ho hb
        go_wp2_with (at_builtin; refine list_step (fun K hK => ?_); refine step_appN Try.underlying46 info_ad99 rfl (by omega) (by omega) rfl (.tmp 22) (.tmp 26) rfl w.heap.size L _ (fl5 z) rfl (World.ownsRow.alloc OWN.out _) w2.heap.size 1 [.int .i64 (L : Int), .int .i64 0, .int .i64 (L : Int), .int .i64 1, .bool true] rfl rfl NF.out (by simp [Value.oneCell']) (by omega) (by simp; omega) ?_; intro A3 c3 w4 hown4 hg4 hbel4; go_simp; refine hK _ _ ?_; clear hK K)
        go_ret2
        exact ⟨A3, c3, by rw [E.out, List.length_append, EZ.out]; rfl, by rw [E.out]; exact own_snoc5 EZ.out hown4, (HB.out.alloc hs _).trans hbel4⟩
end Go.Proofs.Ytbohakifjmdoiaa
