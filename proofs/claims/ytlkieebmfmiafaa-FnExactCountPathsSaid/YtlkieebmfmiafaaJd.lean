/- The uses of one value, and of all values, by the program. -/
import Derived.Test.YtlkieebmfmiafaaJa
import Derived.Test.YtlkieebmfmiafaaUu
import Derived.WalkMore
namespace Go.Proofs.Ytlkieebmfmiafaa
open Go.RowKit

set_option maxRecDepth 100000 in
set_option maxHeartbeats 1000000 in
theorem sidesOf_any (a b v : Int) (w : World) :
    Calls Try.prog 129 #[.agg #[.int .i64 a, .int .i64 b], .int .i64 v] w fun e w' => e = .returned (.int .i64 (sid (a, b) v : Nat)) ∧ Below w.heap.size w w' := by
  have e0 : sid (a, b) v = (if a = v then 1 else 0) + (if b = v then 1 else 0) := rfl
  by_cases ha : a = v
  · by_cases hb : b = v
    · have q1 : (a == v) = true := by simpa using ha
      have q2 : (b == v) = true := by simpa using hb
      rw [if_pos ha, if_pos hb] at e0
      have E := Lib.hid e0
      clear e0 ha hb
      go_enter Try.func129, Try.ntmps129
      go_wp2
      go_ret
      exact ⟨by rw [E.out]; rfl, (Below.refl _ _).alloc (Nat.le_refl _) _⟩
    · have q1 : (a == v) = true := by simpa using ha
      have q2 : (b == v) = false := by simpa using hb
      rw [if_pos ha, if_neg hb] at e0
      have E := Lib.hid e0
      clear e0 ha hb
      go_enter Try.func129, Try.ntmps129
      go_wp2
      go_ret
      exact ⟨by rw [E.out]; rfl, (Below.refl _ _).alloc (Nat.le_refl _) _⟩
  · by_cases hb : b = v
    · have q1 : (a == v) = false := by simpa using ha
      have q2 : (b == v) = true := by simpa using hb
      rw [if_neg ha, if_pos hb] at e0
      have E := Lib.hid e0
      clear e0 ha hb
      go_enter Try.func129, Try.ntmps129
      go_wp2
      go_ret
      exact ⟨by rw [E.out]; rfl, (Below.refl _ _).alloc (Nat.le_refl _) _⟩
    · have q1 : (a == v) = false := by simpa using ha
      have q2 : (b == v) = false := by simpa using hb
      rw [if_neg ha, if_neg hb] at e0
      have E := Lib.hid e0
      clear e0 ha hb
      go_enter Try.func129, Try.ntmps129
      go_wp2
      go_ret
      exact ⟨by rw [E.out]; rfl, (Below.refl _ _).alloc (Nat.le_refl _) _⟩

theorem us_set0 {w : World} {g : Nat} {a b : Value} {t : TypeId} (h : w.heap[g]? = some (.cells #[a, b] t (0, 0))) (u : Value) : (w.setCell ⟨g, 0, none⟩ u).heap[g]? = some (.cells #[u, b] t (0, 0)) := by
  rw [heap_setCell_same w g 0 _ t u h]
  rfl
theorem us_set1 {w : World} {g : Nat} {a b : Value} {t : TypeId} (h : w.heap[g]? = some (.cells #[a, b] t (0, 0))) (u : Value) : (w.setCell ⟨g, 1, none⟩ u).heap[g]? = some (.cells #[a, u] t (0, 0)) := by
  rw [heap_setCell_same w g 1 _ t u h]
  rfl

theorem apart_lt {w : World} {v v' : Value} {m sz n : Nat} {e : TypeId} {xs : List Value} (h : ∀ k, v.ownBlock = some k → k < m) (h' : w.ownsRow m e sz v' n xs) : v.ownBlock = none ∨ v.ownBlock ≠ v'.ownBlock := by
  cases hv : v.ownBlock with
  | none => exact .inl rfl
  | some k =>
    right
    intro e
    have h1 := h k hv
    have h2 := (own_block h' k e.symm).1
    omega
theorem us_boxes {w w1 : World} {a b c d : Value} (h : ((w.alloc (.cells #[a, b, c, d] 72)).alloc (.cells #[.slice none 0 0, .slice none 0 0] 78)).alloc (.cells #[.slice none 0 0, .slice none 0 0] 78) = w1) :
    w1.cell? ⟨w.heap.size, 1, none⟩ = some b ∧ w1.cell? ⟨w.heap.size, 2, none⟩ = some c ∧ w1.heap[w.heap.size + 1]? = some (.cells #[.slice none 0 0, .slice none 0 0] 78 (0, 0)) ∧
      w1.heap[w.heap.size + 1 + 1]? = some (.cells #[.slice none 0 0, .slice none 0 0] 78 (0, 0)) ∧ w1.heap.size = w.heap.size + 3 ∧ Below w.heap.size w w1 := by
  generalize ha : w.alloc (.cells #[a, b, c, d] 72) = wa at h
  generalize hb : wa.alloc (.cells #[.slice none 0 0, .slice none 0 0] 78) = wb at h
  obtain ⟨x0, x1, x2, x3, xs, xb⟩ := box4 ha
  obtain ⟨_, _, ys, yb⟩ := box2 hb
  obtain ⟨_, _, zs, zb⟩ := box2 h
  have h2 := heap_alloc_new wa (.cells #[.slice none 0 0, .slice none 0 0] 78)
  have h3 := heap_alloc_new wb (.cells #[.slice none 0 0, .slice none 0 0] 78)
  rw [hb, xs] at h2
  rw [h, ys, xs] at h3
  have yz : Below (w.heap.size + 1) wa w1 := (yb.mono (by omega)).trans (zb.mono (by omega))
  refine ⟨(yz.cell (p := ⟨w.heap.size, 1, none⟩) (by simp)).trans x1, (yz.cell (p := ⟨w.heap.size, 2, none⟩) (by simp)).trans x2, (zb.block (w.heap.size + 1) (by omega)).trans h2, h3, by omega, xb.trans (yz.mono (by omega))⟩

set_option maxRecDepth 100000 in
set_option maxHeartbeats 4000000 in
theorem usesOf_any (B N R : Nat) (A1 A2 A : Option Addr) (c1 c2 c : Nat) (p : Pl) (v : Int) (w : World) (hs40 : p.s.length ≤ 40) (ho6 : p.o.length ≤ 6) (hB : B ≤ w.heap.size) (hr : RdP w B A1 A2 p) :
    Calls Try.prog 108 #[.agg #[.int .i64 N, .slice A1 p.s.length c1, .slice A2 p.o.length c2, .slice A R c], .int .i64 v] w fun e w' =>
      ∃ O co S cs, e = .returned (.agg #[.slice O (usO p.o v p.o.length).length co, .slice S (usS p.s v p.s.length).length cs]) ∧
        OwI w' w.heap.size (.slice O (usO p.o v p.o.length).length co) (usO p.o v p.o.length) ∧ OwI w' w.heap.size (.slice S (usS p.s v p.s.length).length cs) (usS p.s v p.s.length) ∧ Below w.heap.size w w' := by
  have H := Lib.hid hr
  clear hr
  go_enter Try.func108, Try.ntmps108
  go_wp2
  generalize hw1 : World.alloc (World.alloc (World.alloc w _) _) _ = w1
  obtain ⟨x1, x2, RES1, BLK1, xs, xb⟩ := us_boxes hw1
  clear hw1
  obtain ⟨g, hg⟩ : ∃ g, w.heap.size + 1 + 1 = g := ⟨_, rfl⟩
  rw [hg] at BLK1 ⊢
  obtain ⟨q, hq⟩ : ∃ q, w.heap.size + 1 = q := ⟨_, rfl⟩
  rw [hq] at RES1 ⊢
  have hgw : w.heap.size ≤ g := by omega
  have hqw : w.heap.size ≤ q := by omega
  have hqg : q < g := by omega
  have hw1s : w1.heap.size = g + 1 := by omega
  clear hg hq xs
  go_loopw [14] (fun iv wr => ∃ (k : Nat) (A4 : Option Addr) (c4 : Nat), k ≤ p.o.length ∧ iv = .int .i64 k ∧ wr.heap[g]? = some (.cells #[.slice A4 (usO p.o v k).length c4, .slice none 0 0] 78 (0, 0)) ∧
    OwI wr (g + 1) (.slice A4 (usO p.o v k).length c4) (usO p.o v k) ∧ Below g w1 wr) (fun i _ => p.o.length - (intOf i).toNat)
  case atStart => exact ⟨0, none, 0, by omega, rfl, by simpa [usO] using BLK1, by simpa [usO] using OwI.nil w1 (g + 1), Below.refl _ _⟩
  case round =>
    obtain ⟨k, A4, c4, hk, rfl, hblk, hown, hbel⟩ := hrel
    have hsz : g + 1 ≤ wr.heap.size := by have := hbel.size; omega
    have hul := usO_le p.o v k
    by_cases hlt : k < p.o.length
    · obtain ⟨ob, oo, rfl, hob, hoc⟩ := ((H.out.2.below' xb hB).below' hbel (by omega)).int hlt
      have iqk : (k : Int) < (p.o.length : Int) := by omega
      have hst : p.o.getD k 0 = p.o[k] := by simp [hlt]
      obtain ⟨d0, d1, g0, g1⟩ := us_cells hblk
      have BLK := Lib.hid hblk
      have OWN := Lib.hid hown
      have BEL := Lib.hid hbel
      have XB := Lib.hid xb
      clear hblk hown hbel xb BLK1 RES1
      by_cases he : p.o[k] = v
      · have q : (p.o[k] == v) = true := by simpa using he
        have HIT := Lib.hid (usO_hit (hst.trans he))
        clear hst he
        go_wp2_with (at_builtin; refine list_step (fun K hK => ?_); refine step_app_int rfl (.tmp 23) (.tmp 25) rfl (g + 1) (usO p.o v k).length _ (usO p.o v k) rfl (OWN.out.alloc _) rfl wr.heap.size 1 (k : Int) rfl (by simp) (by omega) (by simp; omega) ?_; intro A5 c5 w5 hown5 hg5 hbel5; have hb5 := us_kept BLK.out OWN.out hg5; obtain ⟨e0, e1, h0, h1⟩ := us_cells hb5; go_simp; refine hK _ _ ?_; clear hK K)
        go_roundw
        case rel =>
          have hl : (usO p.o v (k + 1)).length = (usO p.o v k).length + 1 := by rw [HIT.out]; simp
          refine ⟨k + 1, A5, c5, by omega, by go_num, by rw [hl]; exact us_set0 hb5 _, by rw [hl, HIT.out]; exact own_set (h := hown5) hb5 (by decide) _, ?_⟩
          exact (((BEL.out.alloc (by omega) _)).trans (hbel5.mono (by omega))).setCell (Nat.le_refl _) _
        case measure => simp [intOf]; omega
      · have q : (p.o[k] == v) = false := by simpa using he
        have MISS := Lib.hid (usO_miss (v := v) (o := p.o) (k := k) (by rw [hst]; exact he))
        clear hst he
        go_wp2
        go_roundw
        case rel => exact ⟨k + 1, A4, c4, by omega, by go_num, by rw [MISS.out]; exact BLK.out, by rw [MISS.out]; exact OWN.out, BEL.out⟩
        case measure => simp [intOf]; omega
    · have hk' : k = p.o.length := by omega
      subst hk'
      have z1 := (hbel.cell (p := ⟨w.heap.size, 1, none⟩) (by simp; omega)).trans x1
      have RESr := Lib.hid ((hbel.block q (by omega)).trans RES1)
      have HB2 := Lib.hid (xb.trans (hbel.mono hgw))
      have hOB := fun k hk => (own_block hown k hk).2
      have OWN := Lib.hid hown
      have BLK := Lib.hid hblk
      have OBL := Lib.hid hOB
      obtain ⟨lo, hlo⟩ : ∃ l, usO p.o v p.o.length = l := ⟨_, rfl⟩
      rw [hlo] at OWN BLK OBL
      have HLO := Lib.hid hlo
      clear hown hblk hbel hOB hlo xb x1 x2 RES1 BLK1
      obtain ⟨m, hm⟩ : ∃ m, wr.heap.size = m := ⟨_, rfl⟩
      rw [hm] at OBL hsz
      have HMm := Lib.hid hm
      clear hm
      go_wp2
      go_loopw [33] (fun iv wq => ∃ (k : Nat) (A5 : Option Addr) (c5 : Nat), k ≤ p.s.length ∧ iv = .int .i64 k ∧ wq.heap[g]? = some (.cells #[.slice A4 lo.length c4, .slice A5 (usS p.s v k).length c5] 78 (0, 0)) ∧
        OwI wq (g + 1) (.slice A4 lo.length c4) lo ∧ OwI wq m (.slice A5 (usS p.s v k).length c5) (usS p.s v k) ∧ Below g wr wq) (fun i _ => p.s.length - (intOf i).toNat)
      case atStart => exact ⟨0, none, 0, by omega, rfl, by simpa [usS] using BLK.out, OWN.out, by simpa [usS] using OwI.nil wr m, Below.refl _ _⟩
      case round =>
        obtain ⟨k, A5, c5, hk, rfl, hblk, hownO, hownS, hbel⟩ := hrel
        have hsr := hbel.size
        have hsq : g + 1 ≤ wr.heap.size := by have := HMm.out; omega
        have hmq : m ≤ wr.heap.size := by have := HMm.out; omega
        by_cases hlt : k < p.s.length
        · obtain ⟨sb, off, rfl, hsb, hc1, hc2⟩ := ((H.out.1.below' HB2.out hB).below' hbel (by omega)).stp hlt
          have iqk : (k : Int) < (p.s.length : Int) := by omega
          have hst : p.s.getD k (0, 0) = p.s[k] := by simp [hlt]
          have SUC := Lib.hid (show usS p.s v (k + 1) = usS p.s v k ++ List.replicate (sid p.s[k] v) (k : Int) by rw [← hst]; rfl)
          obtain ⟨a, ha⟩ : ∃ a, (p.s[k]).1 = a := ⟨_, rfl⟩
          obtain ⟨b, hb⟩ : ∃ b, (p.s[k]).2 = b := ⟨_, rfl⟩
          have hab : p.s[k] = (a, b) := by rw [← ha, ← hb]
          rw [hab] at SUC
          rw [ha] at hc1
          rw [hb] at hc2
          have hsd := sid_le (a, b) v
          have hsl := usS_le p.s v k
          have SD := fun W => sidesOf_any a b v W
          obtain ⟨n, hn⟩ : ∃ n, sid (a, b) v = n := ⟨_, rfl⟩
          rw [hn] at SUC hsd SD
          have SD := Lib.hid SD
          obtain ⟨l, hl⟩ : ∃ l, usS p.s v k = l := ⟨_, rfl⟩
          rw [hl] at SUC hsl hblk hownS
          have BLK2 := Lib.hid hblk
          have OWO := Lib.hid hownO
          have OWS := Lib.hid hownS
          have BEL := Lib.hid hbel
          clear hblk hownO hownS hbel hst ha hb hab hn hl
          go_wp2_with fail
          go_at_call 129
          generalize hw3 : World.alloc wr _ = w3
          obtain ⟨_, _, es, eb⟩ := box2 hw3
          clear hw3
          refine (SD.out w3).mono ?_
          rintro e w4 ⟨rfl, hb4⟩
          have hb14 : Below wr.heap.size wr w4 := eb.trans (hb4.mono (by omega))
          have BLK4 := Lib.hid ((hb14.block g (by omega)).trans BLK2.out)
          have OWO4 := Lib.hid (OWO.out.below hb14)
          have OWS4 := Lib.hid (OWS.out.below hb14)
          have BEL4 := Lib.hid (BEL.out.trans (hb14.mono (by omega)))
          have hs4 : wr.heap.size ≤ w4.heap.size := hb14.size
          clear eb es hb4 hb14
          go_wp2
          go_loopw [41] (fun iv wt => ∃ (t : Nat) (A6 : Option Addr) (c6 : Nat), t ≤ n ∧ iv = .int .i64 t ∧ wt.heap[g]? = some (.cells #[.slice A4 lo.length c4, .slice A6 (l.length + t) c6] 78 (0, 0)) ∧
            OwI wt (g + 1) (.slice A4 lo.length c4) lo ∧ wt.ownsRow m 3 1 (.slice A6 (l.length + t) c6) (l.length + t) ((l ++ List.replicate t (k : Int)).map I) ∧ Below g w4 wt) (fun i _ => n - (intOf i).toNat)
          case atStart => exact ⟨0, A5, c5, by omega, rfl, BLK4.out, OWO4.out, by simpa [OwI] using OWS4.out, Below.refl _ _⟩
          case round =>
            obtain ⟨t, A6, c6, ht, rfl, hblk, hownO, hownS, hbel⟩ := hrel
            have hst4 : w4.heap.size ≤ wr.heap.size := hbel.size
            obtain ⟨d0, d1, g0, g1⟩ := us_cells hblk
            have BLK5 := Lib.hid hblk
            have OWO5 := Lib.hid hownO
            have OWS5 := Lib.hid hownS
            have BEL5 := Lib.hid hbel
            clear hblk hownO hownS hbel
            by_cases htl : t < n
            · have iqt : (t : Int) < (n : Int) := by omega
              have hll : (l ++ List.replicate t (k : Int)).length = l.length + t := by simp
              have HLL := Lib.hid hll
              clear hll
              go_wp2_with (at_builtin; refine list_step (fun K hK => ?_); refine step_app1 Try.underlying23 info_int rfl (by omega) rfl (.tmp 44) (.tmp 46) rfl m (l.length + t) _ _ rfl (World.ownsRow.alloc OWS5.out _) wr.heap.size 1 (I (k : Int)) rfl (by simp) rfl (by omega) (by simp; omega) ?_; intro A7 c7 w5 hown5 hg5 hbel5; have hb5 := us_kept BLK5.out OWS5.out hg5; have hO5 := World.ownsRow.kept (World.ownsRow.alloc OWO5.out _) hg5 (apart_lt OBL.out OWS5.out); obtain ⟨e0, e1, h0, h1⟩ := us_cells hb5; go_simp; refine hK _ _ ?_; clear hK K)
              go_roundw
              case rel =>
                refine ⟨t + 1, A7, c7, by omega, by go_num, us_set1 hb5 _, own_set (h := hO5) hb5 (by decide) _, ?_, ?_⟩
                · have h := own_set (g := g) (o := 1) hown5 hb5 (by decide) (.slice A7 (l.length + t + 1) c7)
                  have e : (l ++ List.replicate t (k : Int)).map I ++ [I (k : Int)] = (l ++ List.replicate (t + 1) (k : Int)).map I := by
                    simp [List.replicate_succ']
                  rw [e] at h
                  exact h
                · exact (((BEL5.out.alloc (by omega) _)).trans (hbel5.mono (by omega))).setCell (Nat.le_refl _) _
              case measure => simp [intOf]; omega
            · have ht' : t = n := by omega
              subst ht'
              go_wp2
              go_roundw
              case rel =>
                have hll : (usS p.s v (k + 1)).length = l.length + t := by rw [SUC.out]; simp
                refine ⟨k + 1, A6, c6, by omega, by go_num, by rw [hll]; exact BLK5.out, OWO5.out, ?_, BEL4.out.trans BEL5.out⟩
                show World.ownsRow _ _ _ _ _ _ _
                rw [hll, SUC.out]
                exact OWS5.out
              case measure => simp [intOf]; omega
        · have hk' : k = p.s.length := by omega
          subst hk'
          obtain ⟨d0, d1, _, _⟩ := us_cells hblk
          have RESq := (hbel.block q hqg).trans RESr.out
          obtain ⟨_, _, f0, f1⟩ := us_cells RESq
          have BLK2 := Lib.hid hblk
          have OWO := Lib.hid hownO
          have OWS := Lib.hid hownS
          have HB3 := Lib.hid (HB2.out.trans (hbel.mono hgw))
          have RESQ := Lib.hid RESq
          obtain ⟨r0, r1, _, _⟩ := us_cells RESq
          clear hblk hownO hownS hbel RESq
          go_wp2
          have hq1 := us_set0 RESQ.out (.slice A4 lo.length c4)
          refine bodyPost_ret (v := .agg #[.slice A4 lo.length c4, .slice A5 (usS p.s v p.s.length).length c5]) (by simp [results, Try.results108, go_sem, r0, r1]) rfl ⟨A4, c4, A5, c5, by rw [HLO.out], ?_, ?_, ?_⟩
          · rw [HLO.out]
            exact own_base (own_set (own_set (h := OWO.out) RESQ.out (by decide) _) hq1 (by decide) _) (by omega)
          · exact own_base (own_set (own_set (h := OWS.out) RESQ.out (by decide) _) hq1 (by decide) _) (by omega)
          · exact (HB3.out.setCell hqw _).setCell hqw _
end Go.Proofs.Ytlkieebmfmiafaa
