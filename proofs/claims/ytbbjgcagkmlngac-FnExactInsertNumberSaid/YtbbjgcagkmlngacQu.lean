/- A number put into a rising list, by the model. -/
import Derived.Test.YtbbjgcagkmlngacQt
import Derived.Test.YtbbjgcagkmlngacQp
namespace Go.Proofs.Ytbbjgcagkmlngac
open Go.RowKit

theorem Rd.drop {w : World} {B : Nat} {b off k : Nat} {l : List Int} (h : Rd w B 1 (some ⟨b, off, none⟩) l.length (l.map I)) (hk : k < l.length) : Rd w B 1 (some ⟨b, off + k, none⟩) (l.length - k) ((l.drop k).map I) := by
  refine ⟨by simp, fun _ => ?_⟩
  obtain ⟨b', off', e, hb, hc⟩ := h.2 (by omega)
  simp only [Option.some.injEq, Addr.mk.injEq, and_true] at e
  obtain ⟨rfl, rfl⟩ := e
  refine ⟨b, off + k, rfl, hb, fun j hj => ?_⟩
  rw [Nat.add_assoc, hc (k + j) (by omega), List.map_drop, List.getElem?_drop]
theorem put_below2 {B : Nat} {w : World} {o1 o2 : Obj} {w2 w3 : World} (hB : B ≤ w.heap.size) (h2 : Below B (w.alloc o1) w2) (h3 : Below B (w2.alloc o2) w3) : Below B w w3 := by
  have h1 : Below B w w2 := ((Below.refl _ _).alloc hB _).trans h2
  exact (h1.alloc (Nat.le_trans hB h1.size) _).trans h3

set_option maxRecDepth 100000 in
set_option maxHeartbeats 2000000 in
theorem l1PutN_any (B : Nat) (A : Option Addr) (c : Nat) (l : List Int) (x : Int) (w : World) (hm : l.length ≤ 1000) (ha : Asc l) (hx : ¬ x ∈ l) (hcap : l.length ≤ c) (hB : B ≤ w.heap.size) (hr : Rd w B 1 A l.length (l.map I)) :
    Calls Try.prog 65 #[.slice A l.length c, .int .i64 x] w fun e w' => ∃ A' c', e = .returned (.slice A' (putI l x).length c') ∧ OwI w' w.heap.size (.slice A' (putI l x).length c') (putI l x) ∧ Below w.heap.size w w' := by
  have H := Lib.hid hr
  obtain ⟨p1, p2⟩ := cnt_parts ha x
  have P1 := Lib.hid p1
  have P2 := Lib.hid p2
  have hcx := cnt_le l x
  have P := Lib.hid (putI_new hx)
  have hpl : (putI l x).length = l.length + 1 := by rw [P.out, insA_length l x hcx]
  have HPL := Lib.hid hpl
  have HX := Lib.hid hx
  obtain ⟨a, haa⟩ : ∃ a, cnt l x = a := ⟨_, rfl⟩
  rw [haa] at hcx
  have AA := Lib.hid haa
  have HAS := Lib.hid ha
  clear hr p1 p2 hpl hx haa ha
  have hbig : (l.length : Int) ≤ 1000 := by omega
  go_enter Try.func65, Try.ntmps65
  go_wp2
  go_loop [5] (fun i => ∃ k : Nat, k ≤ a ∧ i = .int .i64 k) (fun i => a - (intOf i).toNat)
  case atStart => exact ⟨0, by omega, rfl⟩
  case round =>
    obtain ⟨k, hk, rfl⟩ := hrel
    by_cases hka : k < a
    · obtain ⟨b, off, rfl, hb, hc⟩ := H.out.cells (by omega)
      have ck := hc k (by omega)
      have hlt : l.getD k 0 < x := P1.out k (by rw [AA.out]; exact hka)
      obtain ⟨y, hy⟩ : ∃ y, l.getD k 0 = y := ⟨_, rfl⟩
      rw [hy] at ck hlt
      have ik : (k : Int) < (l.length : Int) := by omega
      clear hc hy
      go_wp2
      go_round
      case rel => exact ⟨k + 1, by omega, by go_num⟩
      case measure => simp [intOf]; omega
    · have e : k = a := by omega
      subst e
      have ikc : (k : Int) ≤ (c : Int) := by omega
      have hins : (insA l k x).map I = (l.take k).map I ++ [I x] ++ (l.drop k).map I := by unfold insA; rw [List.map_append, List.map_cons]; simp
      have HINS := Lib.hid hins
      clear hins
      by_cases hl : k < l.length
      · obtain ⟨b, off, rfl, hb, hc⟩ := H.out.cells (by omega)
        have ck := hc k hl
        have hge := P2.out k (by rw [AA.out]; exact Nat.le_refl _) hl
        obtain ⟨y, hy⟩ : ∃ y, l.getD k 0 = y := ⟨_, rfl⟩
        have hne : ¬ y = x := fun h => HX.out (by rw [← h, ← hy]; exact mem_getD hl)
        rw [hy] at ck hge
        have h1 : ¬ y < x := by omega
        have hyx : (y == x) = false := by simpa using hne
        have ik : (k : Int) < (l.length : Int) := by omega
        have ikl : (k : Int) ≤ (l.length : Int) := by omega
        have hcn : ¬ (c = k) := by omega
        have T1 := Lib.hid (fun (W : World) (hb : Below w.heap.size w W) => (H.out.below' hb hB).take (n := k) (by omega))
        have T2 := Lib.hid (fun (W : World) (hb : Below w.heap.size w W) => (H.out.below' hb hB).drop hl)
        clear hc hy hge hne
        go_wp2_with (first
          | (at_builtin; refine list_step (fun K hK => ?_); refine step_appM Try.underlying22 info_int rfl (by omega) (by omega) rfl (.tmp 34) (.tmp 37) rfl w.heap.size 0 _ [] rfl (own_empty 1 (Nat.le_refl _)) _ k _ ((l.take k).map I) rfl (T1.out _ ((Below.refl _ _).alloc (Nat.le_refl _) _)) (ints_one _) (by omega) (by simp) ?_; intro A2 c2 w2 hown2 hg2 hbel2; simp only [Nat.zero_add, List.nil_append] at hown2; go_simp; refine hK _ _ ?_; clear hK K)
          | (at_builtin; refine list_step (fun K hK => ?_); refine step_app1 Try.underlying22 info_int rfl (by omega) rfl (.tmp 39) (.tmp 41) rfl w.heap.size _ _ _ rfl (World.ownsRow.alloc hown2 _) w2.heap.size 1 (I x) rfl (by simp) rfl (by omega) (by have := hbel2.size; simp at this; simp; omega) ?_; intro A3 c3 w3 hown3 hg3 hbel3; go_simp; refine hK _ _ ?_; clear hK K)
          | (at_builtin; refine list_step (fun K hK => ?_); have hb23 := put_below2 (Nat.le_refl _) hbel2 hbel3; refine step_appM Try.underlying22 info_int rfl (by omega) (by omega) rfl (.tmp 43) (.tmp 46) rfl w.heap.size _ _ _ rfl hown3 _ (l.length - k) _ ((l.drop k).map I) rfl (T2.out _ hb23) (ints_one _) (by omega) hb23.size ?_; intro A4 c4 w4 hown4 hg4 hbel4; go_simp; refine hK _ _ ?_; clear hK K))
        go_ret
        refine ⟨A4, c4, ret_slice (by have := HPL.out; omega), ?_, (put_below2 (Nat.le_refl _) hbel2 hbel3).trans hbel4⟩
        have h := hown4
        rw [show k + 1 + (l.length - k) = (putI l x).length by have := HPL.out; omega] at h
        unfold OwI
        rw [P.out, AA.out, HINS.out] at *
        simpa using h
      · have e : k = l.length := by omega
        have T1 := Lib.hid (fun (W : World) (hb : Below w.heap.size w W) => (H.out.below' hb hB).take (n := k) (by omega))
        have HE := Lib.hid e
        have hfin : ∀ (A4 : Option Addr) (c4 : Nat) (w4 : World), w4.ownsRow w.heap.size 3 1 (.slice A4 (k + 1 + 0) c4) (k + 1 + 0) ((l.take k).map I ++ [I x] ++ []) → OwI w4 w.heap.size (.slice A4 (putI l x).length c4) (putI l x) := fun A4 c4 w4 h => by
          rw [show k + 1 + 0 = (putI l x).length by have := HPL.out; have := HE.out; omega] at h
          unfold OwI
          have hd : l.drop k = [] := List.drop_of_length_le (by have := HE.out; omega)
          have hi := HINS.out
          rw [hd] at hi
          rw [P.out, AA.out, hi] at *
          simpa using h
        have FIN := Lib.hid hfin
        obtain ⟨N, hN⟩ : ∃ N, l.length = N := ⟨_, rfl⟩
        rw [hN] at e
        subst e
        rw [hN] at *
        have HN := Lib.hid hN
        clear hfin hN
        have hsl : ∀ n : Nat, n - n = 0 := fun n => Nat.sub_self n
        by_cases hck : c = k
        · subst hck
          go_wp2_with (first
            | (at_builtin; refine list_step (fun K hK => ?_); refine step_appM Try.underlying22 info_int rfl (by omega) (by omega) rfl (.tmp 34) (.tmp 37) rfl w.heap.size 0 _ [] rfl (own_empty 1 (Nat.le_refl _)) _ c _ ((l.take c).map I) rfl (T1.out _ ((Below.refl _ _).alloc (Nat.le_refl _) _)) (ints_one _) (by omega) (by simp) ?_; intro A2 c2 w2 hown2 hg2 hbel2; simp only [Nat.zero_add, List.nil_append] at hown2; go_simp; refine hK _ _ ?_; clear hK K)
            | (at_builtin; refine list_step (fun K hK => ?_); refine step_app1 Try.underlying22 info_int rfl (by omega) rfl (.tmp 39) (.tmp 41) rfl w.heap.size _ _ _ rfl (World.ownsRow.alloc hown2 _) w2.heap.size 1 (I x) rfl (by simp) rfl (by omega) (by have := hbel2.size; simp at this; simp; omega) ?_; intro A3 c3 w3 hown3 hg3 hbel3; go_simp; refine hK _ _ ?_; clear hK K)
            | (at_builtin; refine list_step (fun K hK => ?_); have hb23 := put_below2 (Nat.le_refl _) hbel2 hbel3; refine step_appM Try.underlying22 info_int rfl (by omega) (by omega) rfl (.tmp 43) (.tmp 46) rfl w.heap.size _ _ _ rfl hown3 _ 0 _ [] rfl (Rd.nil _ 0 _ _) (by simp) (by omega) hb23.size ?_; intro A4 c4 w4 hown4 hg4 hbel4; go_simp; refine hK _ _ ?_; clear hK K))
          all_goals
            go_ret
            exact ⟨A4, c4, ret_slice (by have := HPL.out; have := HE.out; omega), FIN.out A4 c4 w4 hown4, (put_below2 (Nat.le_refl _) hbel2 hbel3).trans hbel4⟩
        · have hck' : ¬ (k = c) := fun h => hck h.symm
          go_wp2_with (first
            | (at_builtin; refine list_step (fun K hK => ?_); refine step_appM Try.underlying22 info_int rfl (by omega) (by omega) rfl (.tmp 34) (.tmp 37) rfl w.heap.size 0 _ [] rfl (own_empty 1 (Nat.le_refl _)) _ k _ ((l.take k).map I) rfl (T1.out _ ((Below.refl _ _).alloc (Nat.le_refl _) _)) (ints_one _) (by omega) (by simp) ?_; intro A2 c2 w2 hown2 hg2 hbel2; simp only [Nat.zero_add, List.nil_append] at hown2; go_simp; refine hK _ _ ?_; clear hK K)
            | (at_builtin; refine list_step (fun K hK => ?_); refine step_app1 Try.underlying22 info_int rfl (by omega) rfl (.tmp 39) (.tmp 41) rfl w.heap.size _ _ _ rfl (World.ownsRow.alloc hown2 _) w2.heap.size 1 (I x) rfl (by simp) rfl (by omega) (by have := hbel2.size; simp at this; simp; omega) ?_; intro A3 c3 w3 hown3 hg3 hbel3; go_simp; refine hK _ _ ?_; clear hK K)
            | (at_builtin; refine list_step (fun K hK => ?_); have hb23 := put_below2 (Nat.le_refl _) hbel2 hbel3; refine step_appM Try.underlying22 info_int rfl (by omega) (by omega) rfl (.tmp 43) (.tmp 46) rfl w.heap.size _ _ _ rfl hown3 _ 0 _ [] rfl (Rd.nil _ 0 _ _) (by simp) (by omega) hb23.size ?_; intro A4 c4 w4 hown4 hg4 hbel4; go_simp; refine hK _ _ ?_; clear hK K))
          all_goals
            go_ret
            exact ⟨A4, c4, ret_slice (by have := HPL.out; have := HE.out; omega), FIN.out A4 c4 w4 hown4, (put_below2 (Nat.le_refl _) hbel2 hbel3).trans hbel4⟩
end Go.Proofs.Ytbbjgcagkmlngac
