/- Joined: Rqa Rqb Jd Je Rlv Rqc. -/
import Derived.Test.YtbbjgcagkmlngaaPR1
import Derived.Test.YtbbjgcagkmlngaaPR3
import Derived.Test.YtbbjgcagkmlngaaPT0
import Derived.Test.YtbbjgcagkmlngaaPS0
import Derived.WalkMore
/- Code of registers that is called otherwise, by the model. -/
namespace Go.Proofs.Ytbbjgcagkmlngaa
open Go.RowKit

theorem obj4' {w w1 : World} {o : Obj} (h : w.alloc o = w1) : w1.heap[w.heap.size]? = some o ∧ w1.heap.size = w.heap.size + 1 ∧ Below w.heap.size w w1 := by
  subst h
  exact ⟨heap_alloc_new w _, by simp, (Below.refl _ _).alloc (Nat.le_refl _) _⟩
theorem obj_set4' {w : World} {g : Nat} {a b c d a' b' c' d' : Value} {t : TypeId} (h : w.heap[g]? = some (.cells #[a, b, c, d] t (0, 0))) :
    ((((w.setCell ⟨g, 0, none⟩ a').setCell ⟨g, 1, none⟩ b').setCell ⟨g, 2, none⟩ c').setCell ⟨g, 3, none⟩ d').heap[g]? = some (.cells #[a', b', c', d'] t (0, 0)) := by
  have h1 := heap_setCell_same w g 0 _ t a' h
  have h2 := heap_setCell_same _ g 1 _ t b' h1
  have h3 := heap_setCell_same _ g 2 _ t c' h2
  have h4 := heap_setCell_same _ g 3 _ t d' h3
  rw [h4]
  rfl
theorem bel_set4' {w0 w : World} {g C : Nat} (hb : Below C w0 w) (hC : C ≤ g) (a b c d : Value) : Below C w0 ((((w.setCell ⟨g, 0, none⟩ a).setCell ⟨g, 1, none⟩ b).setCell ⟨g, 2, none⟩ c).setCell ⟨g, 3, none⟩ d) :=
  (((hb.setCell hC _).setCell hC _).setCell hC _).setCell hC _
def nmF (names : List Int) (x : Int) : Int := names.getD x.toNat 0
theorem ow2 {w : World} {B c : Nat} {A : Option Addr} {names o : List Int} (h : OwI w B (.slice A o.length c) (outs 0 names o)) : w.ownsRow B 3 1 (.slice A o.length c) o.length ((o.map (nmF names)).map I) := by
  have h' : w.ownsRow _ _ _ _ _ _ := h
  rw [outs_len] at h'
  exact h'

set_option maxRecDepth 100000 in
set_option maxHeartbeats 16000000 in
theorem reNamed_any (B : Nat) (A1 A2 A3 : Option Addr) (c1 c2 c3 : Nat) (c : Rc) (AN : Option Addr) (cn : Nat) (names : List Int) (m : Int) (w : World) (hl1 : c.i.length ≤ 1000) (hl2 : c.ops.length ≤ 1000) (hl3 : c.o.length ≤ 1000) (hn0 : 0 < names.length)
    (hin : ∀ x ∈ c.i, 0 ≤ x ∧ x < (names.length : Int)) (hop : ∀ x ∈ c.ops, opIn names.length x = true) (hou : ∀ x ∈ c.o, 0 ≤ x ∧ x < (names.length : Int)) (hB : B ≤ w.heap.size) (hr : RdC w B A1 A2 A3 c) (hrn : Rd w B 1 AN names.length (names.map I)) :
    Calls Try.prog 96 #[.agg #[.int .i64 c.r, .slice A1 c.i.length c1, .slice A2 c.ops.length c2, .slice A3 c.o.length c3], .slice AN names.length cn, .int .i64 m] w fun e w' =>
      ∃ E1 E2 E3 e1 e2 e3, e = .returned (.agg #[.int .i64 m, .slice E1 c.i.length e1, .slice E2 c.ops.length e2, .slice E3 c.o.length e3]) ∧ OwC w' w.heap.size E1 E2 E3 e1 e2 e3 (rnC (nmF names) m c) ∧ Below w.heap.size w w' := by
  have H := Lib.hid hr
  have HN := Lib.hid hrn
  have HOP := Lib.hid hop
  have HIN := Lib.hid hin
  have HOU := Lib.hid hou
  clear hr hrn hop hin hou
  go_enter Try.func96, Try.ntmps96
  go_wp2
  generalize hw1 : World.alloc w _ = w1
  obtain ⟨⟨x0, x1, x2, x3⟩, xs, xb⟩ := bx4r hw1
  clear hw1
  generalize hw2 : World.alloc w1 _ = w2
  have q0 : w2.heap[w1.heap.size]? = some (.cells #[.int .i64 0, .slice none 0 0, .slice none 0 0, .slice none 0 0] 30 (0, 0)) := by rw [← hw2]; exact heap_alloc_new w1 _
  obtain ⟨_, ys, yb⟩ := bx4r hw2
  clear hw2
  rw [xs] at q0
  have x1 := (yb.cell (p := ⟨w.heap.size, 1, none⟩) (by simp only []; omega)).trans x1
  have x2 := (yb.cell (p := ⟨w.heap.size, 2, none⟩) (by simp only []; omega)).trans x2
  have x3 := (yb.cell (p := ⟨w.heap.size, 3, none⟩) (by simp only []; omega)).trans x3
  have HB2 := Lib.hid (xb.trans (yb.mono (by omega)))
  have hs2 : w.heap.size + 2 = w2.heap.size := by omega
  have Q0 := Lib.hid q0
  have X2 := Lib.hid x2
  have FS := Lib.hid (show ∀ x, Below w2.heap.size w2 x → x.cell? ⟨w.heap.size, 1, none⟩ = some (.slice A1 c.i.length c1) ∧ x.cell? ⟨w.heap.size, 3, none⟩ = some (.slice A3 c.o.length c3) from fun x hx =>
    ⟨(hx.cell (p := ⟨w.heap.size, 1, none⟩) (by simp only []; omega)).trans x1, (hx.cell (p := ⟨w.heap.size, 3, none⟩) (by simp only []; omega)).trans x3⟩)
  have PI := Lib.hid (fun W (hW : Below w2.heap.size w2 W) => moPick_any w2.heap.size AN A1 cn c1 names c.i W hl1 hW.size HIN.out (((HN.out.below' HB2.out hB).more (by omega)).below hW) ((((H.out.below' HB2.out hB).1).more (by omega)).below hW))
  have PO := Lib.hid (fun W (hW : Below w2.heap.size w2 W) => moPick_any w2.heap.size AN A3 cn c3 names c.o W hl3 hW.size HOU.out (((HN.out.below' HB2.out hB).more (by omega)).below hW) ((((H.out.below' HB2.out hB).2.2).more (by omega)).below hW))
  clear x0 x1 x2 x3 xs ys xb yb q0
  go_cut [7] (fun v wx => ∃ (g : Nat) (E1 E3 : Option Addr) (e1 e3 : Nat), v = .pointer (some ⟨g, 0, none⟩) ∧ w2.heap.size ≤ g ∧ wx.heap[g]? = some (.cells #[.int .i64 m, .slice E1 c.i.length e1, .slice none 0 0, .slice E3 c.o.length e3] 30 (0, 0)) ∧
    wx.ownsRow w2.heap.size 3 1 (.slice E1 c.i.length e1) c.i.length ((c.i.map (nmF names)).map I) ∧ wx.ownsRow w2.heap.size 3 1 (.slice E3 c.o.length e3) c.o.length ((c.o.map (nmF names)).map I) ∧
    (∀ k, (Value.slice E1 c.i.length e1).ownBlock = some k → (Value.slice E3 c.o.length e3).ownBlock = some k → False) ∧ Below w2.heap.size w2 wx)
  case first =>
    refine wp_region_T (fun x : World => Below w2.heap.size w2 x) [0, 1, 2, 3, 5, 6, 7, 9] [3, 7] (.lp 0 (.lp 1 (.lp 2 (.lp 5 (.lp 6 (.ls 3 (.ls 7 (.hv2 4 (.hv2 8 (.lp 9 (.hv 10 (.hv 11 (.done)))) 10 (.hv 8 (.lp 9 (.hv 11 (.done))))) 10 (.hv 4 (.hv 8 (.lp 9 (.hv 11 (.done))))))))))))) (by kernel_rfl) (by kernel_rfl) ?_
    have HW := Lib.hid (show Below w2.heap.size w2 w2.drew from (Below.refl _ _).drew)
    (repeat (refine T_lp rfl (fun K hK => ?_); go_simp; refine hK _ ?_; clear hK K))
    refine T_ls1 (v := .slice A1 c.i.length c1) rfl rfl HW.out (fun x hx => (by obtain ⟨h0, h1⟩ := FS.out x hx; go_simp)) (fun K hK => ?_)
    (go_simp; refine hK _ ?_; clear hK K)
    refine T_ls1 (v := .slice A3 c.o.length c3) rfl rfl HW.out (fun x hx => (by obtain ⟨h0, h1⟩ := FS.out x hx; go_simp)) (fun K hK => ?_)
    (go_simp; refine hK _ ?_; clear hK K)
    generalize hwd : World.drew w2 = wd at HW ⊢
    clear hwd
    refine T_hv2 ?_ ?_
    · refine T_hvS rfl (fun K hK => ?_)
      go_simp
      go_at_call 71
      refine (PI.out wd HW.out).mono ?_
      rintro e wdi ⟨E1, e1, rfl, hO, hst⟩
      have OI := Lib.hid (own_base (ow2 hO) (show w2.heap.size ≤ wd.heap.size from HW.out.size))
      have HW := Lib.hid (HW.out.trans (hst.mono HW.out.size))
      clear hO hst
      go_simp
      refine hK _ _ HW.out ?_
      clear hK K
      refine T_hv2 ?_ ?_
      · refine T_hvS rfl (fun K hK => ?_)
        go_simp
        go_at_call 71
        refine (PO.out wdi HW.out).mono ?_
        rintro e wdio ⟨E3, e3, rfl, hO, hst⟩
        have APT := Lib.hid (show ∀ k, (Value.slice E1 c.i.length e1).ownBlock = some k → (Value.slice E3 c.o.length e3).ownBlock = some k → False from fun k h1 h2 => by have a1 := (own_block OI.out k h1).2; have a2 := (own_block (ow2 hO) k h2).1; omega)
        have OI := Lib.hid (own_below OI.out hst)
        have OU := Lib.hid (own_base (ow2 hO) (show w2.heap.size ≤ wdi.heap.size from HW.out.size))
        have HW := Lib.hid (HW.out.trans (hst.mono HW.out.size))
        clear hO hst
        go_simp
        refine hK _ _ HW.out ?_
        clear hK K
        (repeat (refine T_lp rfl (fun K hK => ?_); go_simp; refine hK _ ?_; clear hK K))
        refine T_hvS rfl (fun K hK => ?_)
        go_simp
        refine hK _ _ (HW.out.alloc HW.out.size _) ?_
        clear hK K
        generalize hwa : World.alloc wdio _ = wdioa
        obtain ⟨hbx, hsx, hst⟩ := obj4' hwa
        clear hwa
        have HGB := Lib.hid (show w2.heap.size ≤ wdio.heap.size from HW.out.size)
        have HW := Lib.hid (HW.out.trans (hst.mono HW.out.size))
        have BX := Lib.hid hbx
        have OI := Lib.hid (own_below OI.out hst)
        have OU := Lib.hid (own_below OU.out hst)
        clear hbx hst
        (repeat (refine T_lp rfl (fun K hK => ?_); go_simp; refine hK _ ?_; clear hK K))
        obtain ⟨b0, b1, b2, b3, q0, q1, q2, q3⟩ := cells4n BX.out
        (refine T_hv rfl (by kernel_rfl) (fun K hK => ?_); go_simp; refine hK _ _ ?_; clear hK K)
        refine T_done ?_
        go_wp2
        go_meet
        case rel => exact ⟨wdio.heap.size, E1, E3, e1, e3, rfl, HGB.out, obj_set4' BX.out, own_set4 OI.out BX.out (by decide) _ _ _ _, own_set4 OU.out BX.out (by decide) _ _ _ _, APT.out, bel_set4' HW.out HGB.out _ _ _ _⟩
      · refine T_hvS rfl (fun K hK => ?_)
        go_simp
        refine hK _ _ (HW.out.alloc HW.out.size _) ?_
        clear hK K
        generalize hwa : World.alloc wdi _ = wdia
        obtain ⟨hbx, hsx, hst⟩ := obj4' hwa
        clear hwa
        have HGB := Lib.hid (show w2.heap.size ≤ wdi.heap.size from HW.out.size)
        have HW := Lib.hid (HW.out.trans (hst.mono HW.out.size))
        have BX := Lib.hid hbx
        have OI := Lib.hid (own_below OI.out hst)
        clear hbx hst
        refine T_hvS rfl (fun K hK => ?_)
        go_simp
        go_at_call 71
        refine (PO.out wdia HW.out).mono ?_
        rintro e wdiao ⟨E3, e3, rfl, hO, hst⟩
        have BX := Lib.hid ((hst.block _ (by have := (Array.getElem?_eq_some_iff.1 BX.out).1; omega)).trans BX.out)
        have APT := Lib.hid (show ∀ k, (Value.slice E1 c.i.length e1).ownBlock = some k → (Value.slice E3 c.o.length e3).ownBlock = some k → False from fun k h1 h2 => by have a1 := (own_block OI.out k h1).2; have a2 := (own_block (ow2 hO) k h2).1; omega)
        have OI := Lib.hid (own_below OI.out hst)
        have OU := Lib.hid (own_base (ow2 hO) (show w2.heap.size ≤ wdia.heap.size from HW.out.size))
        have HW := Lib.hid (HW.out.trans (hst.mono HW.out.size))
        clear hO hst
        go_simp
        refine hK _ _ HW.out ?_
        clear hK K
        (repeat (refine T_lp rfl (fun K hK => ?_); go_simp; refine hK _ ?_; clear hK K))
        obtain ⟨b0, b1, b2, b3, q0, q1, q2, q3⟩ := cells4n BX.out
        (refine T_hv rfl (by kernel_rfl) (fun K hK => ?_); go_simp; refine hK _ _ ?_; clear hK K)
        refine T_done ?_
        go_wp2
        go_meet
        case rel => exact ⟨wdi.heap.size, E1, E3, e1, e3, rfl, HGB.out, obj_set4' BX.out, own_set4 OI.out BX.out (by decide) _ _ _ _, own_set4 OU.out BX.out (by decide) _ _ _ _, APT.out, bel_set4' HW.out HGB.out _ _ _ _⟩
    · refine T_hvS rfl (fun K hK => ?_)
      go_simp
      refine hK _ _ (HW.out.alloc HW.out.size _) ?_
      clear hK K
      generalize hwa : World.alloc wd _ = wda
      obtain ⟨hbx, hsx, hst⟩ := obj4' hwa
      clear hwa
      have HGB := Lib.hid (show w2.heap.size ≤ wd.heap.size from HW.out.size)
      have HW := Lib.hid (HW.out.trans (hst.mono HW.out.size))
      have BX := Lib.hid hbx
      clear hbx hst
      refine T_hvS rfl (fun K hK => ?_)
      go_simp
      go_at_call 71
      refine (PI.out wda HW.out).mono ?_
      rintro e wdai ⟨E1, e1, rfl, hO, hst⟩
      have BX := Lib.hid ((hst.block _ (by have := (Array.getElem?_eq_some_iff.1 BX.out).1; omega)).trans BX.out)
      have OI := Lib.hid (own_base (ow2 hO) (show w2.heap.size ≤ wda.heap.size from HW.out.size))
      have HW := Lib.hid (HW.out.trans (hst.mono HW.out.size))
      clear hO hst
      go_simp
      refine hK _ _ HW.out ?_
      clear hK K
      refine T_hvS rfl (fun K hK => ?_)
      go_simp
      go_at_call 71
      refine (PO.out wdai HW.out).mono ?_
      rintro e wdaio ⟨E3, e3, rfl, hO, hst⟩
      have BX := Lib.hid ((hst.block _ (by have := (Array.getElem?_eq_some_iff.1 BX.out).1; omega)).trans BX.out)
      have APT := Lib.hid (show ∀ k, (Value.slice E1 c.i.length e1).ownBlock = some k → (Value.slice E3 c.o.length e3).ownBlock = some k → False from fun k h1 h2 => by have a1 := (own_block OI.out k h1).2; have a2 := (own_block (ow2 hO) k h2).1; omega)
      have OI := Lib.hid (own_below OI.out hst)
      have OU := Lib.hid (own_base (ow2 hO) (show w2.heap.size ≤ wdai.heap.size from HW.out.size))
      have HW := Lib.hid (HW.out.trans (hst.mono HW.out.size))
      clear hO hst
      go_simp
      refine hK _ _ HW.out ?_
      clear hK K
      (repeat (refine T_lp rfl (fun K hK => ?_); go_simp; refine hK _ ?_; clear hK K))
      obtain ⟨b0, b1, b2, b3, q0, q1, q2, q3⟩ := cells4n BX.out
      (refine T_hv rfl (by kernel_rfl) (fun K hK => ?_); go_simp; refine hK _ _ ?_; clear hK K)
      refine T_done ?_
      go_wp2
      go_meet
      case rel => exact ⟨wd.heap.size, E1, E3, e1, e3, rfl, HGB.out, obj_set4' BX.out, own_set4 OI.out BX.out (by decide) _ _ _ _, own_set4 OU.out BX.out (by decide) _ _ _ _, APT.out, bel_set4' HW.out HGB.out _ _ _ _⟩
  case rest =>
    obtain ⟨g, E1, E3, e1, e3, rfl, hg, hbox, hoi, hou, hapt, hbel⟩ := hcut
    obtain ⟨w3, hw3⟩ : ∃ x, wc = x := ⟨_, rfl⟩
    rw [hw3] at hbox hoi hou hbel ⊢
    clear hw3
    have hgs : g < w3.heap.size := (Array.getElem?_eq_some_iff.1 hbox).1
    have BX0 := Lib.hid hbox
    have OI0 := Lib.hid hoi
    have OU0 := Lib.hid hou
    have APT := Lib.hid hapt
    have HB3 := Lib.hid (HB2.out.trans (hbel.mono HB2.out.size))
    have BL3 := Lib.hid hbel
    have UI := Lib.hid (fun k (h : (Value.slice E1 c.i.length e1).ownBlock = some k) => (own_block hoi k h).2)
    have UU := Lib.hid (fun k (h : (Value.slice E3 c.o.length e3).ownBlock = some k) => (own_block hou k h).2)
    have z2 := (hbel.cell (p := ⟨w.heap.size, 2, none⟩) (by simp only []; omega)).trans X2.out
    obtain ⟨nb, no, rfl, hnb, _⟩ := (HN.out.below' HB3.out hB).int hn0
    have hs3 : w2.heap.size ≤ w3.heap.size := hbel.size
    clear hbox hoi hou hapt hbel
    go_wp2
    go_loopw [23] (fun iv wr => ∃ (k : Nat) (F : Option Addr) (f : Nat), k ≤ c.ops.length ∧ iv = .int .i64 k ∧ wr.heap[g]? = some (.cells #[.int .i64 m, .slice E1 c.i.length e1, .slice F k f, .slice E3 c.o.length e3] 30 (0, 0)) ∧
      wr.ownsRow w2.heap.size 3 1 (.slice E1 c.i.length e1) c.i.length ((c.i.map (nmF names)).map I) ∧ wr.ownsRow w2.heap.size 3 1 (.slice E3 c.o.length e3) c.o.length ((c.o.map (nmF names)).map I) ∧
      wr.ownsRow w3.heap.size 78 3 (.slice F k f) k (fl3 ((c.ops.take k).map fun x => (nmF names x.1, nmF names x.2.1, nmF names x.2.2))) ∧ Below w2.heap.size w2 wr ∧ w3.heap.size ≤ wr.heap.size) (fun i _ => c.ops.length - (intOf i).toNat)
    case atStart => exact ⟨0, none, 0, by omega, rfl, BX0.out, OI0.out, OU0.out, World.ownsRow_nil _ _ _ _, BL3.out, Nat.le_refl _⟩
    case round =>
      obtain ⟨k, F, f, hk, rfl, hbox, hoi, hou, hown, hbel, hsz3⟩ := hrel
      have HBWr := Lib.hid (HB2.out.trans (hbel.mono HB2.out.size))
      have BX := Lib.hid hbox
      have OI := Lib.hid hoi
      have OU := Lib.hid hou
      have OWN := Lib.hid hown
      have BL := Lib.hid hbel
      clear hbox hown hbel hoi hou
      by_cases hlt : k < c.ops.length
      · have iqk : (k : Int) < (c.ops.length : Int) := by omega
        obtain ⟨b, off, rfl, hb, hc1, hc2, hc3⟩ := (H.out.below' HBWr.out hB).2.1.op hlt
        have SUC := Lib.hid (map_take_succ (f := fun x : Int × Int × Int => (nmF names x.1, nmF names x.2.1, nmF names x.2.2)) hlt)
        obtain ⟨t, a, d, hx, ht, ha, hd⟩ := opIn_nat (HOP.out _ (List.getElem_mem hlt))
        rw [hx] at hc1 hc2 hc3 SUC
        simp only at hc1 hc2 hc3 SUC
        obtain ⟨b1, o1, hA1, hb1, d1⟩ := (HN.out.below' HBWr.out hB).int ht
        obtain ⟨b2, o2, hA2, hb2', d2⟩ := (HN.out.below' HBWr.out hB).int ha
        obtain ⟨b3, o3, hA3, hb3', d3⟩ := (HN.out.below' HBWr.out hB).int hd
        simp only [Option.some.injEq, Addr.mk.injEq] at hA1 hA2 hA3
        obtain ⟨rfl, rfl, _⟩ := hA1
        obtain ⟨rfl, rfl, _⟩ := hA2
        obtain ⟨rfl, rfl, _⟩ := hA3
        have n1 : nmF names (t : Int) = names[t] := by unfold nmF; simp [ht]
        have n2 : nmF names (a : Int) = names[a] := by unfold nmF; simp [ha]
        have n3 : nmF names (d : Int) = names[d] := by unfold nmF; simp [hd]
        obtain ⟨y1, hy1⟩ : ∃ y, names[t] = y := ⟨_, rfl⟩
        obtain ⟨y2, hy2⟩ : ∃ y, names[a] = y := ⟨_, rfl⟩
        obtain ⟨y3, hy3⟩ : ∃ y, names[d] = y := ⟨_, rfl⟩
        rw [n1, n2, n3, hy1, hy2, hy3] at SUC
        rw [hy1] at d1
        rw [hy2] at d2
        rw [hy3] at d3
        have it : (t : Int) < (names.length : Int) := by omega
        have ia : (a : Int) < (names.length : Int) := by omega
        have id' : (d : Int) < (names.length : Int) := by omega
        clear hx n1 n2 n3 hy1 hy2 hy3
        go_wp2
        generalize hw5 : World.alloc wr _ = w5
        obtain ⟨⟨e0, e1', e2⟩, es, eb⟩ := box3' hw5
        clear hw5
        have bx5 := (eb.block g (by omega)).trans BX.out
        obtain ⟨_, _, q2, _, _, _, _, _⟩ := cells4n bx5
        have hnw : nb < wr.heap.size := by have := HBWr.out.size; omega
        have g1 := (eb.cell (p := ⟨nb, no + t, none⟩) hnw).trans d1
        have g2 := (eb.cell (p := ⟨nb, no + a, none⟩) hnw).trans d2
        have g3 := (eb.cell (p := ⟨nb, no + d, none⟩) hnw).trans d3
        have FS := Lib.hid (show ∀ x, Below w5.heap.size w5 x → x.cell? ⟨g, 2, none⟩ = some (.slice F k f) ∧ x.cell? ⟨wr.heap.size, 0, none⟩ = some (.int .i64 t) ∧ x.cell? ⟨wr.heap.size, 1, none⟩ = some (.int .i64 a) ∧ x.cell? ⟨wr.heap.size, 2, none⟩ = some (.int .i64 d) ∧ x.cell? ⟨nb, no + t, none⟩ = some (.int .i64 y1) ∧ x.cell? ⟨nb, no + a, none⟩ = some (.int .i64 y2) ∧ x.cell? ⟨nb, no + d, none⟩ = some (.int .i64 y3) from fun x hx =>
          ⟨(hx.cell (p := ⟨g, 2, none⟩) (by simp only []; omega)).trans q2, (hx.cell (p := ⟨wr.heap.size, 0, none⟩) (by simp only []; omega)).trans e0, (hx.cell (p := ⟨wr.heap.size, 1, none⟩) (by simp only []; omega)).trans e1', (hx.cell (p := ⟨wr.heap.size, 2, none⟩) (by simp only []; omega)).trans e2,
          (hx.cell (p := ⟨nb, no + t, none⟩) (by simp only []; omega)).trans g1, (hx.cell (p := ⟨nb, no + a, none⟩) (by simp only []; omega)).trans g2, (hx.cell (p := ⟨nb, no + d, none⟩) (by simp only []; omega)).trans g3⟩)
        have S0 := Lib.hid (show Below w5.heap.size w5 w5.drew from (Below.refl _ _).drew)
        have BX5 := Lib.hid bx5
        have OI5 := Lib.hid (own_below OI.out eb)
        have OU5 := Lib.hid (own_below OU.out eb)
        have OW5 := Lib.hid (own_below OWN.out eb)
        have BL5 := Lib.hid (BL.out.trans (eb.mono (show w2.heap.size ≤ wr.heap.size by omega)))
        have hs45 : w3.heap.size ≤ w5.heap.size := by omega
        clear e0 e1' e2 q2 bx5 hc1 hc2 hc3 eb d1 d2 d3 g1 g2 g3
        refine wp_region_T (fun x : World => Below w5.heap.size w5 x) [0, 1, 2, 3, 4, 5, 6, 7, 8, 9, 10, 11, 12, 13, 14, 15, 16, 17, 20] [1, 4, 6, 9, 11, 14, 16] (.lp 0 (.lp 2 (.lp 3 (.lp 7 (.lp 8 (.lp 12 (.lp 13 (.ls 1 (.ls 4 (.lp 5 (.ls 6 (.ls 9 (.lp 10 (.ls 11 (.ls 14 (.lp 15 (.ls 16 (.lp 17 (.hv 18 (.hv 19 (.lp 20 (.hv 21 (.done))))))))))))))))))))))) (by kernel_rfl) (by kernel_rfl) ?_
        generalize hwd : World.drew w5 = wd at S0 ⊢
        clear hwd
        have hswd : w5.heap.size ≤ wd.heap.size := S0.out.size
        have OId := Lib.hid (own_below OI5.out S0.out)
        have OUd := Lib.hid (own_below OU5.out S0.out)
        have OWd := Lib.hid (own_below OW5.out S0.out)
        have BXd := Lib.hid ((S0.out.block g (by omega)).trans BX5.out)
        (repeat (refine T_lp rfl (fun K hK => ?_); go_simp; refine hK _ ?_; clear hK K))
        refine T_ls1 (v := .slice F k f) rfl rfl S0.out (fun x hx => (by obtain ⟨h0, h1, h2, h3, h4, h5, h6⟩ := FS.out x hx; go_simp)) (fun K hK => ?_)
        (go_simp; refine hK _ ?_; clear hK K)
        refine T_ls1 (v := .int .i64 t) rfl rfl S0.out (fun x hx => (by obtain ⟨h0, h1, h2, h3, h4, h5, h6⟩ := FS.out x hx; go_simp)) (fun K hK => ?_)
        (go_simp; refine hK _ ?_; clear hK K)
        (repeat (refine T_lp rfl (fun K hK => ?_); go_simp; refine hK _ ?_; clear hK K))
        refine T_ls1 (v := .int .i64 y1) rfl rfl S0.out (fun x hx => (by obtain ⟨h0, h1, h2, h3, h4, h5, h6⟩ := FS.out x hx; go_simp)) (fun K hK => ?_)
        (go_simp; refine hK _ ?_; clear hK K)
        refine T_ls1 (v := .int .i64 a) rfl rfl S0.out (fun x hx => (by obtain ⟨h0, h1, h2, h3, h4, h5, h6⟩ := FS.out x hx; go_simp)) (fun K hK => ?_)
        (go_simp; refine hK _ ?_; clear hK K)
        (repeat (refine T_lp rfl (fun K hK => ?_); go_simp; refine hK _ ?_; clear hK K))
        refine T_ls1 (v := .int .i64 y2) rfl rfl S0.out (fun x hx => (by obtain ⟨h0, h1, h2, h3, h4, h5, h6⟩ := FS.out x hx; go_simp)) (fun K hK => ?_)
        (go_simp; refine hK _ ?_; clear hK K)
        refine T_ls1 (v := .int .i64 d) rfl rfl S0.out (fun x hx => (by obtain ⟨h0, h1, h2, h3, h4, h5, h6⟩ := FS.out x hx; go_simp)) (fun K hK => ?_)
        (go_simp; refine hK _ ?_; clear hK K)
        (repeat (refine T_lp rfl (fun K hK => ?_); go_simp; refine hK _ ?_; clear hK K))
        refine T_ls1 (v := .int .i64 y3) rfl rfl S0.out (fun x hx => (by obtain ⟨h0, h1, h2, h3, h4, h5, h6⟩ := FS.out x hx; go_simp)) (fun K hK => ?_)
        (go_simp; refine hK _ ?_; clear hK K)
        (repeat (refine T_lp rfl (fun K hK => ?_); go_simp; refine hK _ ?_; clear hK K))
        refine T_hvS rfl (fun K hK => ?_)
        go_simp
        refine hK _ _ (S0.out.alloc hswd _) ?_
        clear hK K
        refine T_hv rfl (by kernel_rfl) (fun K hK => ?_)
        refine step_appN Try.underlying28 info_regop rfl (by omega) (by omega) rfl (.tmp 28) (.tmp 45) rfl w3.heap.size k _ (fl3 ((c.ops.take k).map fun x => (nmF names x.1, nmF names x.2.1, nmF names x.2.2))) rfl (World.ownsRow.alloc OWd.out _) wd.heap.size 1 [I y1, I y2, I y3] rfl rfl (fun j hj => ?_) (by simp; exact ⟨rfl, rfl, rfl⟩) (by omega) (by simp; omega) ?_
        · match j, hj with
          | 0, _ => simp
          | 1, _ => simp
          | 2, _ => simp
        intro F9 f9 w9 hown9 hg9 hbel9
        have bx9 : w9.heap[g]? = _ := (hbel9.block g (by omega)).trans ((Below.heap_alloc wd _ g (by omega)).trans BXd.out)
        obtain ⟨_, _, k2, _, _, _, f2, _⟩ := cells4n bx9
        have BX9 := Lib.hid bx9
        have OW9 := Lib.hid hown9
        have OI9 := Lib.hid (own_lowC (World.ownsRow.alloc OId.out _) UI.out hbel9)
        have OU9 := Lib.hid (own_lowC (World.ownsRow.alloc OUd.out _) UU.out hbel9)
        have B9 := Lib.hid (((BL5.out.trans (S0.out.mono (show w2.heap.size ≤ w5.heap.size by omega))).alloc (show w2.heap.size ≤ wd.heap.size by omega) (.cells #[.int .i64 y1, .int .i64 y2, .int .i64 y3] 78)).trans (hbel9.mono hs3))
        have hs9 : w3.heap.size ≤ w9.heap.size := by have := hbel9.size; simp at this; omega
        clear bx9 hown9 hbel9 hg9
        (go_simp; refine hK _ _ ?_; clear hK K)
        (repeat (first | (refine T_lp rfl (fun K hK => ?_); go_simp; refine hK _ ?_; clear hK K) | (refine T_ls rfl rfl (fun K hK => ?_); go_simp; refine hK _ ?_; clear hK K)))
        (refine T_hv rfl (by kernel_rfl) (fun K hK => ?_); go_simp; refine hK _ _ ?_; clear hK K)
        refine T_done ?_
        go_wp2
        go_roundw
        case rel =>
          refine ⟨k + 1, F9, f9, by omega, by go_num, ?_, own_set (o := 2) OI9.out BX9.out (by decide) _, own_set (o := 2) OU9.out BX9.out (by decide) _, ?_, B9.out.setCell hg _, by simpa [World.setCell] using hs9⟩
          · rw [heap_setCell_same w9 _ 2 _ _ _ BX9.out]; rfl
          · rw [SUC.out, fl3_snoc]
            exact own_set (o := 2) OW9.out BX9.out (by decide) _
        case measure => simp [intOf]; omega
      · have hk' : k = c.ops.length := by omega
        have OO := Lib.hid (show wr.ownsRow w3.heap.size 78 3 (.slice F c.ops.length f) c.ops.length (fl3 (c.ops.map fun x => (nmF names x.1, nmF names x.2.1, nmF names x.2.2))) by
          have h := OWN.out
          rw [hk', List.take_length] at h
          exact h)
        subst hk'
        obtain ⟨a0, a1, a2, a3, _, _, _, _⟩ := cells4n BX.out
        have q1 := (BL.out.block (w.heap.size + 1) (by omega)).trans Q0.out
        obtain ⟨t0, t1, t2, t3, g0, g1, g2, g3⟩ := cells4n q1
        have Q1r := Lib.hid q1
        clear q1
        go_wp2
        refine bodyPost_ret (v := .agg #[.int .i64 m, .slice E1 c.i.length e1, .slice F c.ops.length f, .slice E3 c.o.length e3]) (by simp [results, Try.results96, go_sem, t0, t1, t2, t3]) rfl ⟨E1, F, E3, e1, f, e3, rfl, ⟨?_, ?_, ?_, ?_⟩, ?_⟩
        · show World.ownsRow _ _ _ _ _ _ _
          simp only [rnC, List.length_map]
          exact own_set4 (own_base OI.out (by omega)) Q1r.out (by decide) _ _ _ _
        · show World.ownsRow _ _ _ _ _ _ _
          simp only [rnC, List.length_map]
          exact own_set4 (own_base OO.out (by omega)) Q1r.out (by decide) _ _ _ _
        · show World.ownsRow _ _ _ _ _ _ _
          simp only [rnC, List.length_map]
          exact own_set4 (own_base OU.out (by omega)) Q1r.out (by decide) _ _ _ _
        · simp only [rnC, List.length_map]
          exact APT.out
        · exact (((HBWr.out.setCell (by simp) _).setCell (by simp) _).setCell (by simp) _).setCell (by simp) _
end Go.Proofs.Ytbbjgcagkmlngaa
/- RenameRegisters, of the model and of the program. -/
namespace Go.Proofs.Ytbbjgcagkmlngaa
open Go.RowKit

theorem prm_mk {m : Nat} {l : List Int} (h1 : l.length = m) (h2 : ∀ x ∈ l, 0 ≤ x ∧ x < (m : Int)) (h3 : l.Nodup) : prmB m l = true := by
  unfold prmB prmK
  rw [decide_eq_true h1, Bool.true_and, List.all_eq_true]
  intro i hi
  have hi' : i < l.length := by simpa using hi
  have e : l.getD i 0 = l[i] := by simp [hi']
  unfold prmAt
  rw [e]
  have ha : hasB l[i] m = true := by
    have := h2 _ (List.getElem_mem hi')
    simp [hasB, this]
  have hb : hasI (l.take i) l[i] = false := by
    cases hc : hasI (l.take i) l[i] with
    | false => rfl
    | true =>
      have := nod_hit hi' hc
      unfold nodI at this
      rw [decide_eq_false_iff_not] at this
      exact absurd h3 this
  rw [ha, hb]
  rfl
def rnB (c : Rc) (l : List Int) : Bool := rcB c && prmB c.r.toNat l
def rnR (c : Rc) (l : List Int) : Rc := if rnB c l then rnC (nmF l) c.r c else zeroRc
theorem rnR_true {c : Rc} {l : List Int} (h : rnB c l = true) : rnR c l = rnC (nmF l) c.r c := by unfold rnR; rw [if_pos h]
theorem rnR_false {c : Rc} {l : List Int} (h : rnB c l = false) : rnR c l = zeroRc := by unfold rnR; rw [if_neg (by rw [h]; decide)]
theorem rnR_len (c : Rc) (l : List Int) : (rnR c l).i.length ≤ 1000 ∧ (rnR c l).ops.length ≤ 1000 ∧ (rnR c l).o.length ≤ 1000 := by
  cases h : rnB c l with
  | false => rw [rnR_false h]; simp [zeroRc]
  | true =>
    rw [rnR_true h]
    unfold rnB at h
    rw [Bool.and_eq_true] at h
    obtain ⟨R', e0, h1, h2, h3, h4, h5, h6, _⟩ := rcB_facts h.1
    obtain ⟨a, b, d⟩ := rnC_lens (nmF l) c.r c
    omega
theorem op_rng {R : Nat} {x : Int × Int × Int} (h : opIn R x = true) : (0 ≤ x.1 ∧ x.1 < (R : Int)) ∧ (0 ≤ x.2.1 ∧ x.2.1 < (R : Int)) ∧ (0 ≤ x.2.2 ∧ x.2.2 < (R : Int)) := by
  unfold opIn inB at h
  simp only [Bool.and_eq_true, decide_eq_true_eq] at h
  omega

set_option maxRecDepth 100000 in
set_option maxHeartbeats 8000000 in
theorem specRename_any (B : Nat) (A1 A2 A3 : Option Addr) (c1 c2 c3 : Nat) (c : Rc) (AL : Option Addr) (cl : Nat) (l : List Int) (w : World) (hB : B ≤ w.heap.size) (hl1 : c.i.length ≤ 1048576) (hl2 : c.ops.length ≤ 1048576) (hl3 : c.o.length ≤ 1048576) (hll : l.length ≤ 1048576) (hcap : c.i.length ≤ c1 ∧ c.ops.length ≤ c2 ∧ c.o.length ≤ c3) (hcl : l.length ≤ cl) (hr : RdC w B A1 A2 A3 c) (hrl : Rd w B 1 AL l.length (l.map I)) :
    Calls Try.prog 51 #[.agg #[.int .i64 c.r, .slice A1 c.i.length c1, .slice A2 c.ops.length c2, .slice A3 c.o.length c3], .slice AL l.length cl] w fun e w' =>
      ∃ E1 E2 E3 e1 e2 e3, e = .returned (.tuple #[.agg #[.int .i64 (rnR c l).r, .slice E1 (rnR c l).i.length e1, .slice E2 (rnR c l).ops.length e2, .slice E3 (rnR c l).o.length e3], .bool (rnB c l)]) ∧ OwC w' w.heap.size E1 E2 E3 e1 e2 e3 (rnR c l) ∧ Below w.heap.size w w' := by
  have H := Lib.hid hr
  have HL := Lib.hid hrl
  have RC := fun W hW hrW => reCode_any B A1 A2 A3 c1 c2 c3 c W hW hl1 hl2 hl3 hcap hrW
  clear hr hrl hcap
  obtain ⟨rb, hrb⟩ : ∃ t, rcB c = t := ⟨_, rfl⟩
  rw [hrb] at RC
  have RC := Lib.hid RC
  have HRB := Lib.hid hrb
  clear hrb
  go_enter Try.func51, Try.ntmps51
  go_wp2_with fail
  go_at_call 55
  generalize hw1 : World.alloc w _ = w1
  obtain ⟨⟨x0, x1, x2, x3⟩, xs, xb⟩ := bx4r hw1
  clear hw1
  generalize hw2 : World.alloc w1 _ = w2
  have q0 : w2.heap[w1.heap.size]? = some (.cells #[.int .i64 0, .slice none 0 0, .slice none 0 0, .slice none 0 0] 30 (0, 0)) := by rw [← hw2]; exact heap_alloc_new w1 _
  obtain ⟨_, ys, yb⟩ := bx4r hw2
  clear hw2
  rw [xs] at q0
  have x0 := (yb.cell (p := ⟨w.heap.size, 0, none⟩) (by simp only []; omega)).trans x0
  have x1 := (yb.cell (p := ⟨w.heap.size, 1, none⟩) (by simp only []; omega)).trans x1
  have x2 := (yb.cell (p := ⟨w.heap.size, 2, none⟩) (by simp only []; omega)).trans x2
  have x3 := (yb.cell (p := ⟨w.heap.size, 3, none⟩) (by simp only []; omega)).trans x3
  have HB2 := Lib.hid (xb.trans (yb.mono (by omega)))
  have hs2 : w.heap.size + 2 = w2.heap.size := by omega
  clear xs ys xb yb
  refine (RC.out w2 (by omega) (H.out.below' HB2.out hB)).mono ?_
  rintro e w3 ⟨rfl, hb3⟩
  have x0 := (hb3.cell (p := ⟨w.heap.size, 0, none⟩) (by simp only []; omega)).trans x0
  have x1 := (hb3.cell (p := ⟨w.heap.size, 1, none⟩) (by simp only []; omega)).trans x1
  have x2 := (hb3.cell (p := ⟨w.heap.size, 2, none⟩) (by simp only []; omega)).trans x2
  have x3 := (hb3.cell (p := ⟨w.heap.size, 3, none⟩) (by simp only []; omega)).trans x3
  have Q3 := Lib.hid ((hb3.block (w.heap.size + 1) (by omega)).trans q0)
  have HB3 := Lib.hid (HB2.out.trans (hb3.mono (by omega)))
  have hs3 : w.heap.size + 2 ≤ w3.heap.size := by have := hb3.size; omega
  obtain ⟨t0, t1, t2, t3, g0, g1, g2, g3⟩ := cells4n Q3.out
  clear q0 hb3 hs2
  have BADR := Lib.hid (show rnB c l = false → ∃ E1 E2 E3 e1 e2 e3, Ending.returned (.tuple #[.agg #[.int .i64 0, .slice none 0 0, .slice none 0 0, .slice none 0 0], .bool false]) = .returned (.tuple #[.agg #[.int .i64 (rnR c l).r, .slice E1 (rnR c l).i.length e1, .slice E2 (rnR c l).ops.length e2, .slice E3 (rnR c l).o.length e3], .bool (rnB c l)]) ∧ ∀ W, OwC W w.heap.size E1 E2 E3 e1 e2 e3 (rnR c l) from fun h => by
    rw [rnR_false h, h]
    exact ⟨none, none, none, 0, 0, 0, rfl, fun W => OwC.zero _ _⟩)
  cases rb with
  | false =>
    obtain ⟨E1, E2, E3, e1, e2, e3, hE, hO⟩ := BADR.out (by unfold rnB; rw [HRB.out]; rfl)
    go_wp2
    refine bodyPost_ret (v := .tuple #[.agg #[.int .i64 0, .slice none 0 0, .slice none 0 0, .slice none 0 0], .bool false]) (by simp [results, Try.results51, go_sem, t0, t1, t2, t3]) rfl ⟨E1, E2, E3, e1, e2, e3, hE, hO _, ?_⟩
    exact (((HB3.out.setCell (by simp) _).setCell (by simp) _).setCell (by simp) _).setCell (by simp) _
  | true =>
  obtain ⟨R, hR, r1, r46, i1, i6, p40, o6, hnd, hin, hop, hou, hgd⟩ := rcB_facts HRB.out
  have HIN := Lib.hid hin
  have HOP := Lib.hid hop
  have HOU := Lib.hid hou
  have HR := Lib.hid hR
  have EQB := Lib.hid (show rnB c l = prmB R l by unfold rnB; rw [HRB.out, hR, Int.toNat_natCast]; rfl)
  rw [hR] at x0
  clear hin hop hou hgd hnd hR
  by_cases hlen : l.length = R
  case neg =>
    obtain ⟨E1, E2, E3, e1, e2, e3, hE, hO⟩ := BADR.out (by rw [EQB.out]; unfold prmB; rw [decide_eq_false hlen]; rfl)
    have hne : ((l.length : Int) != (R : Int)) = true := by rw [bne_iff_ne]; omega
    clear hlen
    go_wp2
    refine bodyPost_ret (v := .tuple #[.agg #[.int .i64 0, .slice none 0 0, .slice none 0 0, .slice none 0 0], .bool false]) (by simp [results, Try.results51, go_sem, t0, t1, t2, t3]) rfl ⟨E1, E2, E3, e1, e2, e3, hE, hO _, ?_⟩
    exact (((HB3.out.setCell (by simp) _).setCell (by simp) _).setCell (by simp) _).setCell (by simp) _
  case pos =>
  have hne : ((l.length : Int) != (R : Int)) = false := by simp [hlen]
  have hw1 : IntKind.i64.wrap ((R : Int) - 1) = (R : Int) - 1 := IntWalk.i64_in _ (by omega)
  have LA := l1All_any B AL cl l 0 ((R : Int) - 1) w3 (by omega) (HL.out.below' HB3.out hB)
  obtain ⟨ab, hab⟩ : ∃ t, allB l 0 ((R : Int) - 1) = t := ⟨_, rfl⟩
  rw [hab] at LA
  have LA := Lib.hid LA
  have HAB := Lib.hid hab
  have HLEN := Lib.hid hlen
  have hl46 : l.length ≤ 46 := by omega
  have hl0 : 0 < l.length := by omega
  clear hab hlen
  go_wp2_with fail
  go_at_call 70
  refine LA.out.mono ?_
  rintro e w4 ⟨rfl, rfl⟩
  cases ab with
  | false =>
    obtain ⟨E1, E2, E3, e1, e2, e3, hE, hO⟩ := BADR.out (by
      rw [EQB.out]
      cases h : prmB R l with
      | false => rfl
      | true =>
        obtain ⟨_, _, h3⟩ := prm_facts h
        have : allB l 0 ((R : Int) - 1) = true := by
          unfold allB
          rw [List.all_eq_true]
          intro x hx
          have := h3 x hx
          unfold inB
          simp only [Bool.and_eq_true, decide_eq_true_eq]
          omega
        rw [HAB.out] at this
        cases this)
    go_wp2
    refine bodyPost_ret (v := .tuple #[.agg #[.int .i64 0, .slice none 0 0, .slice none 0 0, .slice none 0 0], .bool false]) (by simp [results, Try.results51, go_sem, t0, t1, t2, t3]) rfl ⟨E1, E2, E3, e1, e2, e3, hE, hO _, ?_⟩
    exact (((HB3.out.setCell (by simp) _).setCell (by simp) _).setCell (by simp) _).setCell (by simp) _
  | true =>
  have hrng : ∀ x ∈ l, 0 ≤ x ∧ x < (R : Int) := by
    have h := HAB.out
    intro x hx
    have := List.all_eq_true.1 h x hx
    unfold inB at this
    simp only [Bool.and_eq_true, decide_eq_true_eq] at this
    omega
  have RNG := Lib.hid hrng
  clear hrng
  go_wp2
  go_loopw [29] (fun iv wr => ∃ k : Nat, k ≤ l.length ∧ iv = .int .i64 k ∧ (l.take k).Nodup ∧ w3 = wr) (fun i _ => l.length - (intOf i).toNat)
  case atStart => exact ⟨0, by omega, rfl, by simp, rfl⟩
  case round =>
    obtain ⟨k, hk, rfl, hnd, rfl⟩ := hrel
    have ND := Lib.hid hnd
    clear hnd
    by_cases hlt : k < l.length
    · have iqk : (k : Int) < (l.length : Int) := by omega
      have ikc : (k : Int) ≤ (cl : Int) := by omega
      obtain ⟨b, off, rfl, hb, hc⟩ := (HL.out.below' HB3.out hB).int hlt
      have hlk : (l.take k).length = k := by simp; omega
      have LH := l1Has_any B (some ⟨b, off, none⟩) cl (l.take k) l[k] w3 (by omega) (by rw [hlk]; exact (HL.out.below' HB3.out hB).take (Nat.le_of_lt hlt))
      rw [hlk] at LH
      obtain ⟨x, hx⟩ : ∃ x, l[k] = x := ⟨_, rfl⟩
      obtain ⟨t, ht⟩ : ∃ t, hasI (l.take k) l[k] = t := ⟨_, rfl⟩
      rw [ht, hx] at LH
      rw [hx] at hc
      have LH := Lib.hid LH
      have HT := Lib.hid ht
      clear ht hx
      go_wp2_with fail
      go_at_call 84
      refine LH.out.mono ?_
      rintro e w4 ⟨rfl, rfl⟩
      cases t with
      | true =>
        obtain ⟨E1, E2, E3, e1, e2, e3, hE, hO⟩ := BADR.out (by
          rw [EQB.out]
          cases h : prmB R l with
          | false => rfl
          | true =>
            obtain ⟨_, h2, _⟩ := prm_facts h
            have := nod_hit hlt HT.out
            unfold nodI at this
            rw [decide_eq_false_iff_not] at this
            exact absurd h2 this)
        go_wp2
        refine bodyPost_ret (v := .tuple #[.agg #[.int .i64 0, .slice none 0 0, .slice none 0 0, .slice none 0 0], .bool false]) (by simp [results, Try.results51, go_sem, t0, t1, t2, t3]) rfl ⟨E1, E2, E3, e1, e2, e3, hE, hO _, ?_⟩
        exact (((HB3.out.setCell (by simp) _).setCell (by simp) _).setCell (by simp) _).setCell (by simp) _
      | false =>
        have N2 := Lib.hid (nod_take hlt ND.out HT.out)
        go_wp2
        go_roundw
        case rel => exact ⟨k + 1, by omega, by go_num, N2.out, trivial⟩
        case measure => simp [intOf]; omega
    · have hk' : k = l.length := by omega
      have EB := Lib.hid (show rnB c l = true by
        rw [EQB.out]
        refine prm_mk HLEN.out RNG.out ?_
        have h := ND.out
        rw [hk', List.take_length] at h
        exact h)
      have ER := Lib.hid (rnR_true EB.out)
      have hrn := reNamed_any B A1 A2 A3 c1 c2 c3 c AL cl l c.r w3 (by omega) (by omega) (by omega) hl0 (by rw [HLEN.out]; exact HIN.out) (by rw [HLEN.out]; exact HOP.out) (by rw [HLEN.out]; exact HOU.out) (by omega) (H.out.below' HB3.out hB) (HL.out.below' HB3.out hB)
      rw [HR.out] at hrn
      have RN := Lib.hid hrn
      subst hk'
      clear hrn
      go_wp2_with fail
      go_at_call 96
      rw [HR.out]
      refine RN.out.mono ?_
      rintro e w4 ⟨E1, E2, E3, e1, e2, e3, rfl, hown, hb4⟩
      have Q4 := Lib.hid ((hb4.block (w.heap.size + 1) (by omega)).trans Q3.out)
      have HB4 := Lib.hid (HB3.out.trans (hb4.mono HB3.out.size))
      have OWN := Lib.hid hown
      clear t0 t1 t2 t3 g0 g1 g2 g3 hown hb4
      obtain ⟨t0, t1, t2, t3, g0, g1, g2, g3⟩ := cells4n Q4.out
      go_wp2
      refine bodyPost_ret (v := .tuple #[.agg #[.int .i64 (R : Int), .slice E1 c.i.length e1, .slice E2 c.ops.length e2, .slice E3 c.o.length e3], .bool true]) (by simp [results, Try.results51, go_sem, t0, t1, t2, t3]) rfl ⟨E1, E2, E3, e1, e2, e3, ?_, ?_, ?_⟩
      · rw [ER.out, EB.out, HR.out]
        simp only [rnC, List.length_map]
      · rw [ER.out, HR.out]
        obtain ⟨o1, o2, o3, o4⟩ := OwC.base OWN.out (show w.heap.size ≤ w3.heap.size by omega)
        exact ⟨own_set4 o1 Q4.out (by decide) _ _ _ _, own_set4 o2 Q4.out (by decide) _ _ _ _, own_set4 o3 Q4.out (by decide) _ _ _ _, o4⟩
      · exact (((HB4.out.setCell (by simp) _).setCell (by simp) _).setCell (by simp) _).setCell (by simp) _
end Go.Proofs.Ytbbjgcagkmlngaa
/- The uses of one value, and of all values, by the program. -/
namespace Go.Proofs.Ytbbjgcagkmlngaa
open Go.RowKit

set_option maxRecDepth 100000 in
set_option maxHeartbeats 1000000 in
theorem sidesOf_any (a b v : Int) (w : World) :
    Calls Try.prog 155 #[.agg #[.int .i64 a, .int .i64 b], .int .i64 v] w fun e w' => e = .returned (.int .i64 (sid (a, b) v : Nat)) ∧ Below w.heap.size w w' := by
  have e0 : sid (a, b) v = (if a = v then 1 else 0) + (if b = v then 1 else 0) := rfl
  by_cases ha : a = v
  · by_cases hb : b = v
    · have q1 : (a == v) = true := by simpa using ha
      have q2 : (b == v) = true := by simpa using hb
      rw [if_pos ha, if_pos hb] at e0
      have E := Lib.hid e0
      clear e0 ha hb
      go_enter Try.func155, Try.ntmps155
      go_wp2
      go_ret
      exact ⟨by rw [E.out]; rfl, (Below.refl _ _).alloc (Nat.le_refl _) _⟩
    · have q1 : (a == v) = true := by simpa using ha
      have q2 : (b == v) = false := by simpa using hb
      rw [if_pos ha, if_neg hb] at e0
      have E := Lib.hid e0
      clear e0 ha hb
      go_enter Try.func155, Try.ntmps155
      go_wp2
      go_ret
      exact ⟨by rw [E.out]; rfl, (Below.refl _ _).alloc (Nat.le_refl _) _⟩
  · by_cases hb : b = v
    · have q1 : (a == v) = false := by simpa using ha
      have q2 : (b == v) = true := by simpa using hb
      rw [if_neg ha, if_pos hb] at e0
      have E := Lib.hid e0
      clear e0 ha hb
      go_enter Try.func155, Try.ntmps155
      go_wp2
      go_ret
      exact ⟨by rw [E.out]; rfl, (Below.refl _ _).alloc (Nat.le_refl _) _⟩
    · have q1 : (a == v) = false := by simpa using ha
      have q2 : (b == v) = false := by simpa using hb
      rw [if_neg ha, if_neg hb] at e0
      have E := Lib.hid e0
      clear e0 ha hb
      go_enter Try.func155, Try.ntmps155
      go_wp2
      go_ret
      exact ⟨by rw [E.out]; rfl, (Below.refl _ _).alloc (Nat.le_refl _) _⟩

theorem us_set0 {w : World} {g : Nat} {a b : Value} {t : TypeId} (h : w.heap[g]? = some (.cells #[a, b] t (0, 0))) (u : Value) : (w.setCell ⟨g, 0, none⟩ u).heap[g]? = some (.cells #[u, b] t (0, 0)) := by
  rw [heap_setCell_same w g 0 _ t u h]
  rfl
theorem us_set1 {w : World} {g : Nat} {a b : Value} {t : TypeId} (h : w.heap[g]? = some (.cells #[a, b] t (0, 0))) (u : Value) : (w.setCell ⟨g, 1, none⟩ u).heap[g]? = some (.cells #[a, u] t (0, 0)) := by
  rw [heap_setCell_same w g 1 _ t u h]
  rfl

theorem apart_lt {w : World} {v v' : Value} {m sz n : Nat} {e : TypeId} {xs : List Value} (h : ∀ k, v.ownBlock = some k → k < m) (h' : w.ownsRow m e sz v' n xs) : v.ownBlock = none ∨ v.ownBlock ≠ v'.ownBlock := by
  cases hv : v.ownBlock with
  | none => exact .inl rfl
  | some k =>
    right
    intro e
    have h1 := h k hv
    have h2 := (own_block h' k e.symm).1
    omega
theorem us_boxes {w w1 : World} {a b c d : Value} (h : ((w.alloc (.cells #[a, b, c, d] 98)).alloc (.cells #[.slice none 0 0, .slice none 0 0] 162)).alloc (.cells #[.slice none 0 0, .slice none 0 0] 162) = w1) :
    w1.cell? ⟨w.heap.size, 1, none⟩ = some b ∧ w1.cell? ⟨w.heap.size, 2, none⟩ = some c ∧ w1.heap[w.heap.size + 1]? = some (.cells #[.slice none 0 0, .slice none 0 0] 162 (0, 0)) ∧
      w1.heap[w.heap.size + 1 + 1]? = some (.cells #[.slice none 0 0, .slice none 0 0] 162 (0, 0)) ∧ w1.heap.size = w.heap.size + 3 ∧ Below w.heap.size w w1 := by
  generalize ha : w.alloc (.cells #[a, b, c, d] 98) = wa at h
  generalize hb : wa.alloc (.cells #[.slice none 0 0, .slice none 0 0] 162) = wb at h
  obtain ⟨x0, x1, x2, x3, xs, xb⟩ := box4 ha
  obtain ⟨_, _, ys, yb⟩ := box2 hb
  obtain ⟨_, _, zs, zb⟩ := box2 h
  have h2 := heap_alloc_new wa (.cells #[.slice none 0 0, .slice none 0 0] 162)
  have h3 := heap_alloc_new wb (.cells #[.slice none 0 0, .slice none 0 0] 162)
  rw [hb, xs] at h2
  rw [h, ys, xs] at h3
  have yz : Below (w.heap.size + 1) wa w1 := (yb.mono (by omega)).trans (zb.mono (by omega))
  refine ⟨(yz.cell (p := ⟨w.heap.size, 1, none⟩) (by simp)).trans x1, (yz.cell (p := ⟨w.heap.size, 2, none⟩) (by simp)).trans x2, (zb.block (w.heap.size + 1) (by omega)).trans h2, h3, by omega, xb.trans (yz.mono (by omega))⟩

set_option maxRecDepth 100000 in
set_option maxHeartbeats 4000000 in
theorem usesOf_any (B N R : Nat) (A1 A2 A : Option Addr) (c1 c2 c : Nat) (p : Pl) (v : Int) (w : World) (hs40 : p.s.length ≤ 40) (ho6 : p.o.length ≤ 6) (hB : B ≤ w.heap.size) (hr : RdP w B A1 A2 p) :
    Calls Try.prog 151 #[.agg #[.int .i64 N, .slice A1 p.s.length c1, .slice A2 p.o.length c2, .slice A R c], .int .i64 v] w fun e w' =>
      ∃ O co S cs, e = .returned (.agg #[.slice O (usO p.o v p.o.length).length co, .slice S (usS p.s v p.s.length).length cs]) ∧
        OwI w' w.heap.size (.slice O (usO p.o v p.o.length).length co) (usO p.o v p.o.length) ∧ OwI w' w.heap.size (.slice S (usS p.s v p.s.length).length cs) (usS p.s v p.s.length) ∧ Below w.heap.size w w' := by
  have H := Lib.hid hr
  clear hr
  go_enter Try.func151, Try.ntmps151
  go_wp2
  generalize hw1 : World.alloc (World.alloc (World.alloc w _) _) _ = w1
  obtain ⟨x1, x2, RES1, BLK1, xs, xb⟩ := us_boxes hw1
  clear hw1
  obtain ⟨g, hg⟩ : ∃ g, w.heap.size + 1 + 1 = g := ⟨_, rfl⟩
  rw [hg] at BLK1 ⊢
  obtain ⟨q, hq⟩ : ∃ q, w.heap.size + 1 = q := ⟨_, rfl⟩
  rw [hq] at RES1 ⊢
  have hgw : w.heap.size ≤ g := by omega
  have hqw : w.heap.size ≤ q := by omega
  have hqg : q < g := by omega
  have hw1s : w1.heap.size = g + 1 := by omega
  clear hg hq xs
  go_loopw [14] (fun iv wr => ∃ (k : Nat) (A4 : Option Addr) (c4 : Nat), k ≤ p.o.length ∧ iv = .int .i64 k ∧ wr.heap[g]? = some (.cells #[.slice A4 (usO p.o v k).length c4, .slice none 0 0] 162 (0, 0)) ∧
    OwI wr (g + 1) (.slice A4 (usO p.o v k).length c4) (usO p.o v k) ∧ Below g w1 wr) (fun i _ => p.o.length - (intOf i).toNat)
  case atStart => exact ⟨0, none, 0, by omega, rfl, by simpa [usO] using BLK1, by simpa [usO] using OwI.nil w1 (g + 1), Below.refl _ _⟩
  case round =>
    obtain ⟨k, A4, c4, hk, rfl, hblk, hown, hbel⟩ := hrel
    have hsz : g + 1 ≤ wr.heap.size := by have := hbel.size; omega
    have hul := usO_le p.o v k
    by_cases hlt : k < p.o.length
    · obtain ⟨ob, oo, rfl, hob, hoc⟩ := ((H.out.2.below' xb hB).below' hbel (by omega)).int hlt
      have iqk : (k : Int) < (p.o.length : Int) := by omega
      have hst : p.o.getD k 0 = p.o[k] := by simp [hlt]
      obtain ⟨d0, d1, g0, g1⟩ := us_cells hblk
      have BLK := Lib.hid hblk
      have OWN := Lib.hid hown
      have BEL := Lib.hid hbel
      have XB := Lib.hid xb
      clear hblk hown hbel xb BLK1 RES1
      by_cases he : p.o[k] = v
      · have q : (p.o[k] == v) = true := by simpa using he
        have HIT := Lib.hid (usO_hit (hst.trans he))
        clear hst he
        go_wp2_with (at_builtin; refine list_step (fun K hK => ?_); refine step_app_int rfl (.tmp 23) (.tmp 25) rfl (g + 1) (usO p.o v k).length _ (usO p.o v k) rfl (OWN.out.alloc _) rfl wr.heap.size 1 (k : Int) rfl (by simp) (by omega) (by simp; omega) ?_; intro A5 c5 w5 hown5 hg5 hbel5; have hb5 := us_kept BLK.out OWN.out hg5; obtain ⟨e0, e1, h0, h1⟩ := us_cells hb5; go_simp; refine hK _ _ ?_; clear hK K)
        go_roundw
        case rel =>
          have hl : (usO p.o v (k + 1)).length = (usO p.o v k).length + 1 := by rw [HIT.out]; simp
          refine ⟨k + 1, A5, c5, by omega, by go_num, by rw [hl]; exact us_set0 hb5 _, by rw [hl, HIT.out]; exact own_set (h := hown5) hb5 (by decide) _, ?_⟩
          exact (((BEL.out.alloc (by omega) _)).trans (hbel5.mono (by omega))).setCell (Nat.le_refl _) _
        case measure => simp [intOf]; omega
      · have q : (p.o[k] == v) = false := by simpa using he
        have MISS := Lib.hid (usO_miss (v := v) (o := p.o) (k := k) (by rw [hst]; exact he))
        clear hst he
        go_wp2
        go_roundw
        case rel => exact ⟨k + 1, A4, c4, by omega, by go_num, by rw [MISS.out]; exact BLK.out, by rw [MISS.out]; exact OWN.out, BEL.out⟩
        case measure => simp [intOf]; omega
    · have hk' : k = p.o.length := by omega
      subst hk'
      have z1 := (hbel.cell (p := ⟨w.heap.size, 1, none⟩) (by simp; omega)).trans x1
      have RESr := Lib.hid ((hbel.block q (by omega)).trans RES1)
      have HB2 := Lib.hid (xb.trans (hbel.mono hgw))
      have hOB := fun k hk => (own_block hown k hk).2
      have OWN := Lib.hid hown
      have BLK := Lib.hid hblk
      have OBL := Lib.hid hOB
      obtain ⟨lo, hlo⟩ : ∃ l, usO p.o v p.o.length = l := ⟨_, rfl⟩
      rw [hlo] at OWN BLK OBL
      have HLO := Lib.hid hlo
      clear hown hblk hbel hOB hlo xb x1 x2 RES1 BLK1
      obtain ⟨m, hm⟩ : ∃ m, wr.heap.size = m := ⟨_, rfl⟩
      rw [hm] at OBL hsz
      have HMm := Lib.hid hm
      clear hm
      go_wp2
      go_loopw [33] (fun iv wq => ∃ (k : Nat) (A5 : Option Addr) (c5 : Nat), k ≤ p.s.length ∧ iv = .int .i64 k ∧ wq.heap[g]? = some (.cells #[.slice A4 lo.length c4, .slice A5 (usS p.s v k).length c5] 162 (0, 0)) ∧
        OwI wq (g + 1) (.slice A4 lo.length c4) lo ∧ OwI wq m (.slice A5 (usS p.s v k).length c5) (usS p.s v k) ∧ Below g wr wq) (fun i _ => p.s.length - (intOf i).toNat)
      case atStart => exact ⟨0, none, 0, by omega, rfl, by simpa [usS] using BLK.out, OWN.out, by simpa [usS] using OwI.nil wr m, Below.refl _ _⟩
      case round =>
        obtain ⟨k, A5, c5, hk, rfl, hblk, hownO, hownS, hbel⟩ := hrel
        have hsr := hbel.size
        have hsq : g + 1 ≤ wr.heap.size := by have := HMm.out; omega
        have hmq : m ≤ wr.heap.size := by have := HMm.out; omega
        by_cases hlt : k < p.s.length
        · obtain ⟨sb, off, rfl, hsb, hc1, hc2⟩ := ((H.out.1.below' HB2.out hB).below' hbel (by omega)).stp hlt
          have iqk : (k : Int) < (p.s.length : Int) := by omega
          have hst : p.s.getD k (0, 0) = p.s[k] := by simp [hlt]
          have SUC := Lib.hid (show usS p.s v (k + 1) = usS p.s v k ++ List.replicate (sid p.s[k] v) (k : Int) by rw [← hst]; rfl)
          obtain ⟨a, ha⟩ : ∃ a, (p.s[k]).1 = a := ⟨_, rfl⟩
          obtain ⟨b, hb⟩ : ∃ b, (p.s[k]).2 = b := ⟨_, rfl⟩
          have hab : p.s[k] = (a, b) := by rw [← ha, ← hb]
          rw [hab] at SUC
          rw [ha] at hc1
          rw [hb] at hc2
          have hsd := sid_le (a, b) v
          have hsl := usS_le p.s v k
          have SD := fun W => sidesOf_any a b v W
          obtain ⟨n, hn⟩ : ∃ n, sid (a, b) v = n := ⟨_, rfl⟩
          rw [hn] at SUC hsd SD
          have SD := Lib.hid SD
          obtain ⟨l, hl⟩ : ∃ l, usS p.s v k = l := ⟨_, rfl⟩
          rw [hl] at SUC hsl hblk hownS
          have BLK2 := Lib.hid hblk
          have OWO := Lib.hid hownO
          have OWS := Lib.hid hownS
          have BEL := Lib.hid hbel
          clear hblk hownO hownS hbel hst ha hb hab hn hl
          go_wp2_with fail
          go_at_call 155
          generalize hw3 : World.alloc wr _ = w3
          obtain ⟨_, _, es, eb⟩ := box2 hw3
          clear hw3
          refine (SD.out w3).mono ?_
          rintro e w4 ⟨rfl, hb4⟩
          have hb14 : Below wr.heap.size wr w4 := eb.trans (hb4.mono (by omega))
          have BLK4 := Lib.hid ((hb14.block g (by omega)).trans BLK2.out)
          have OWO4 := Lib.hid (OWO.out.below hb14)
          have OWS4 := Lib.hid (OWS.out.below hb14)
          have BEL4 := Lib.hid (BEL.out.trans (hb14.mono (by omega)))
          have hs4 : wr.heap.size ≤ w4.heap.size := hb14.size
          clear eb es hb4 hb14
          go_wp2
          go_loopw [41] (fun iv wt => ∃ (t : Nat) (A6 : Option Addr) (c6 : Nat), t ≤ n ∧ iv = .int .i64 t ∧ wt.heap[g]? = some (.cells #[.slice A4 lo.length c4, .slice A6 (l.length + t) c6] 162 (0, 0)) ∧
            OwI wt (g + 1) (.slice A4 lo.length c4) lo ∧ wt.ownsRow m 3 1 (.slice A6 (l.length + t) c6) (l.length + t) ((l ++ List.replicate t (k : Int)).map I) ∧ Below g w4 wt) (fun i _ => n - (intOf i).toNat)
          case atStart => exact ⟨0, A5, c5, by omega, rfl, BLK4.out, OWO4.out, by simpa [OwI] using OWS4.out, Below.refl _ _⟩
          case round =>
            obtain ⟨t, A6, c6, ht, rfl, hblk, hownO, hownS, hbel⟩ := hrel
            have hst4 : w4.heap.size ≤ wr.heap.size := hbel.size
            obtain ⟨d0, d1, g0, g1⟩ := us_cells hblk
            have BLK5 := Lib.hid hblk
            have OWO5 := Lib.hid hownO
            have OWS5 := Lib.hid hownS
            have BEL5 := Lib.hid hbel
            clear hblk hownO hownS hbel
            by_cases htl : t < n
            · have iqt : (t : Int) < (n : Int) := by omega
              have hll : (l ++ List.replicate t (k : Int)).length = l.length + t := by simp
              have HLL := Lib.hid hll
              clear hll
              go_wp2_with (at_builtin; refine list_step (fun K hK => ?_); refine step_app1 Try.underlying22 info_int rfl (by omega) rfl (.tmp 44) (.tmp 46) rfl m (l.length + t) _ _ rfl (World.ownsRow.alloc OWS5.out _) wr.heap.size 1 (I (k : Int)) rfl (by simp) rfl (by omega) (by simp; omega) ?_; intro A7 c7 w5 hown5 hg5 hbel5; have hb5 := us_kept BLK5.out OWS5.out hg5; have hO5 := World.ownsRow.kept (World.ownsRow.alloc OWO5.out _) hg5 (apart_lt OBL.out OWS5.out); obtain ⟨e0, e1, h0, h1⟩ := us_cells hb5; go_simp; refine hK _ _ ?_; clear hK K)
              go_roundw
              case rel =>
                refine ⟨t + 1, A7, c7, by omega, by go_num, us_set1 hb5 _, own_set (h := hO5) hb5 (by decide) _, ?_, ?_⟩
                · have h := own_set (g := g) (o := 1) hown5 hb5 (by decide) (.slice A7 (l.length + t + 1) c7)
                  have e : (l ++ List.replicate t (k : Int)).map I ++ [I (k : Int)] = (l ++ List.replicate (t + 1) (k : Int)).map I := by
                    simp [List.replicate_succ']
                  rw [e] at h
                  exact h
                · exact (((BEL5.out.alloc (by omega) _)).trans (hbel5.mono (by omega))).setCell (Nat.le_refl _) _
              case measure => simp [intOf]; omega
            · have ht' : t = n := by omega
              subst ht'
              go_wp2
              go_roundw
              case rel =>
                have hll : (usS p.s v (k + 1)).length = l.length + t := by rw [SUC.out]; simp
                refine ⟨k + 1, A6, c6, by omega, by go_num, by rw [hll]; exact BLK5.out, OWO5.out, ?_, BEL4.out.trans BEL5.out⟩
                show World.ownsRow _ _ _ _ _ _ _
                rw [hll, SUC.out]
                exact OWS5.out
              case measure => simp [intOf]; omega
        · have hk' : k = p.s.length := by omega
          subst hk'
          obtain ⟨d0, d1, _, _⟩ := us_cells hblk
          have RESq := (hbel.block q hqg).trans RESr.out
          obtain ⟨_, _, f0, f1⟩ := us_cells RESq
          have BLK2 := Lib.hid hblk
          have OWO := Lib.hid hownO
          have OWS := Lib.hid hownS
          have HB3 := Lib.hid (HB2.out.trans (hbel.mono hgw))
          have RESQ := Lib.hid RESq
          obtain ⟨r0, r1, _, _⟩ := us_cells RESq
          clear hblk hownO hownS hbel RESq
          go_wp2
          have hq1 := us_set0 RESQ.out (.slice A4 lo.length c4)
          refine bodyPost_ret (v := .agg #[.slice A4 lo.length c4, .slice A5 (usS p.s v p.s.length).length c5]) (by simp [results, Try.results151, go_sem, r0, r1]) rfl ⟨A4, c4, A5, c5, by rw [HLO.out], ?_, ?_, ?_⟩
          · rw [HLO.out]
            exact own_base (own_set (own_set (h := OWO.out) RESQ.out (by decide) _) hq1 (by decide) _) (by omega)
          · exact own_base (own_set (own_set (h := OWS.out) RESQ.out (by decide) _) hq1 (by decide) _) (by omega)
          · exact (HB3.out.setCell hqw _).setCell hqw _
end Go.Proofs.Ytbbjgcagkmlngaa
/- The uses of all values, by the program. -/
namespace Go.Proofs.Ytbbjgcagkmlngaa
open Go.RowKit

theorem fill2 (l : List Value) (z a b : Value) {n k : Nat} (hl : l.length = k * 2) (hk : k < n) :
    ((l ++ List.replicate ((n - k) * 2) z).set (k * 2) a).set (k * 2 + 1) b = l ++ [a, b] ++ List.replicate ((n - (k + 1)) * 2) z := by
  rw [show (n - k) * 2 = (n - (k + 1)) * 2 + 1 + 1 by omega, List.replicate_succ, List.replicate_succ, List.set_append_right _ _ (by omega), List.set_append_right _ _ (by omega), hl, Nat.sub_self, show k * 2 + 1 - k * 2 = 1 by omega]
  simp
theorem info_uses : (Try.prog.info? 162).map (fun i => (i.zero, i.size, i.bytes)) = some (some (.agg #[.slice none 0 0, .slice none 0 0]), 2, 48) := by kernel_rfl

def uuV (fo fs : Nat → Option Addr × Nat) (s : List (Int × Int)) (o : List Int) (i : Nat) : List Value :=
  [.slice (fo i).1 (usO o (i : Int) o.length).length (fo i).2, .slice (fs i).1 (usS s (i : Int) s.length).length (fs i).2]
def UU (fo fs : Nat → Option Addr × Nat) (s : List (Int × Int)) (o : List Int) (k : Nat) : List Value := (List.range k).flatMap (uuV fo fs s o)
def updU (f : Nat → Option Addr × Nat) (k : Nat) (a : Option Addr × Nat) : Nat → Option Addr × Nat := fun i => if i = k then a else f i
theorem UU_succ (fo fs : Nat → Option Addr × Nat) (s : List (Int × Int)) (o : List Int) (k : Nat) : UU fo fs s o (k + 1) = UU fo fs s o k ++ uuV fo fs s o k := by
  unfold UU
  rw [List.range_succ, List.flatMap_append]
  simp
theorem UU_len (fo fs : Nat → Option Addr × Nat) (s : List (Int × Int)) (o : List Int) (k : Nat) : (UU fo fs s o k).length = k * 2 := by
  induction k with
  | zero => rfl
  | succ k ih => rw [UU_succ, List.length_append, ih]; simp [uuV]; omega
theorem UU_at (fo fs : Nat → Option Addr × Nat) (s : List (Int × Int)) (o : List Int) {i k : Nat} (h : i < k) :
    (UU fo fs s o k)[i * 2]? = some (.slice (fo i).1 (usO o (i : Int) o.length).length (fo i).2) ∧ (UU fo fs s o k)[i * 2 + 1]? = some (.slice (fs i).1 (usS s (i : Int) s.length).length (fs i).2) := by
  induction k with
  | zero => omega
  | succ k ih =>
    rw [UU_succ]
    rcases Nat.lt_or_ge i k with h1 | h1
    · obtain ⟨e1, e2⟩ := ih h1
      have hl := UU_len fo fs s o k
      exact ⟨by rw [List.getElem?_append_left (by omega), e1], by rw [List.getElem?_append_left (by omega), e2]⟩
    · have e : i = k := by omega
      subst e
      have hl := UU_len fo fs s o i
      exact ⟨by rw [List.getElem?_append_right (by omega), hl, Nat.sub_self]; rfl, by rw [List.getElem?_append_right (by omega), hl, show i * 2 + 1 - i * 2 = 1 by omega]; rfl⟩
theorem UU_upd (fo fs : Nat → Option Addr × Nat) (s : List (Int × Int)) (o : List Int) (k : Nat) (a b : Option Addr × Nat) :
    UU (updU fo k a) (updU fs k b) s o (k + 1) = UU fo fs s o k ++ [.slice a.1 (usO o (k : Int) o.length).length a.2, .slice b.1 (usS s (k : Int) s.length).length b.2] := by
  have key : ∀ j, j ≤ k → UU (updU fo k a) (updU fs k b) s o j = UU fo fs s o j := by
    intro j
    induction j with
    | zero => intro _; rfl
    | succ j ih =>
      intro hj
      rw [UU_succ, UU_succ, ih (by omega)]
      have : ¬ j = k := by omega
      simp [uuV, updU, this]
  rw [UU_succ, key k (Nat.le_refl _)]
  simp [uuV, updU]
/-- Rows of outputs and of steps, of the first k values. -/
def OwX (w : World) (B : Nat) (fo fs : Nat → Option Addr × Nat) (s : List (Int × Int)) (o : List Int) (k : Nat) : Prop :=
  ∀ i : Nat, i < k → OwI w B (.slice (fo i).1 (usO o (i : Int) o.length).length (fo i).2) (usO o (i : Int) o.length) ∧ OwI w B (.slice (fs i).1 (usS s (i : Int) s.length).length (fs i).2) (usS s (i : Int) s.length)
/-- A list of the uses of R values, all of it own. -/
def OwU (w : World) (B : Nat) (A : Option Addr) (c : Nat) (fo fs : Nat → Option Addr × Nat) (s : List (Int × Int)) (o : List Int) (R : Nat) : Prop :=
  w.ownsRow B 162 2 (.slice A R c) R (UU fo fs s o R) ∧ OwX w B fo fs s o R
section
variable {w w' : World} {B B' c k R : Nat} {A : Option Addr} {fo fs : Nat → Option Addr × Nat} {s : List (Int × Int)} {o : List Int}
theorem OwX.below (h : OwX w B fo fs s o k) (hb : Below w.heap.size w w') : OwX w' B fo fs s o k := fun i hi => ⟨(h i hi).1.below hb, (h i hi).2.below hb⟩
theorem OwX.base (h : OwX w B fo fs s o k) (hB : B' ≤ B) : OwX w B' fo fs s o k := fun i hi => ⟨(h i hi).1.base hB, (h i hi).2.base hB⟩
theorem OwX.set {g j : Nat} {cs : Array Value} {t : TypeId} (h : OwX w B fo fs s o k) (hg : w.heap[g]? = some (.cells cs t (0, 0))) (ht : t ≠ 3) (u : Value) : OwX (w.setCell ⟨g, j, none⟩ u) B fo fs s o k :=
  fun i hi => ⟨own_set (h := (h i hi).1) hg ht u, own_set (h := (h i hi).2) hg ht u⟩
theorem OwX.upd {a b : Option Addr × Nat} (h : OwX w B fo fs s o k) (ha : OwI w B (.slice a.1 (usO o (k : Int) o.length).length a.2) (usO o (k : Int) o.length)) (hb : OwI w B (.slice b.1 (usS s (k : Int) s.length).length b.2) (usS s (k : Int) s.length)) :
    OwX w B (updU fo k a) (updU fs k b) s o (k + 1) := by
  intro i hi
  by_cases e : i = k
  · subst e
    simp only [updU, if_true]
    exact ⟨ha, hb⟩
  · have := h i (by omega)
    simp only [updU, if_neg e]
    exact this
theorem OwU.below (h : OwU w B A c fo fs s o R) (hb : Below w.heap.size w w') : OwU w' B A c fo fs s o R := ⟨own_below h.1 hb, h.2.below hb⟩
theorem OwU.base (h : OwU w B A c fo fs s o R) (hB : B' ≤ B) : OwU w B' A c fo fs s o R := ⟨own_base h.1 hB, h.2.base hB⟩
/-- The two cells of value i, and its rows. -/
theorem OwU.at_ (h : OwU w B A c fo fs s o R) {i : Nat} (hi : i < R) : ∃ g, A = some ⟨g, 0, none⟩ ∧ B ≤ g ∧ g < w.heap.size ∧
    w.cell? ⟨g, i * 2, none⟩ = some (.slice (fo i).1 (usO o (i : Int) o.length).length (fo i).2) ∧ w.cell? ⟨g, i * 2 + 1, none⟩ = some (.slice (fs i).1 (usS s (i : Int) s.length).length (fs i).2) := by
  obtain ⟨g, rfl, hB, hg, hc, _⟩ := own_at h.1 (by omega)
  obtain ⟨e1, e2⟩ := UU_at fo fs s o hi
  exact ⟨g, rfl, hB, hg, (hc _ (by omega)).trans e1, (hc _ (by omega)).trans e2⟩
end

set_option maxRecDepth 100000 in
set_option maxHeartbeats 4000000 in
theorem allUses_any (B N R : Nat) (A1 A2 A : Option Addr) (c1 c2 c : Nat) (p : Pl) (w : World) (hs40 : p.s.length ≤ 40) (ho6 : p.o.length ≤ 6) (hR : R ≤ 46) (hB : B ≤ w.heap.size) (hr : RdP w B A1 A2 p) :
    Calls Try.prog 146 #[.agg #[.int .i64 N, .slice A1 p.s.length c1, .slice A2 p.o.length c2, .slice A R c]] w fun e w' =>
      ∃ A' c' fo fs, e = .returned (.slice A' R c') ∧ OwU w' w.heap.size A' c' fo fs p.s p.o R ∧ Below w.heap.size w w' := by
  have H := Lib.hid hr
  clear hr
  obtain ⟨i0, hi, hz0, hz1, hz2⟩ := info_parts info_uses
  have hmk : ∀ W : World, (Instr.makeSlice 159 (.int .i64 (R : Int)) (.int .i64 (R : Int))).run Try.prog W = .ok (.slice (some ⟨W.heap.size, 0, none⟩) R R) (W.alloc (.cells (madeCells #[.slice none 0 0, .slice none 0 0] (R * 2)) 162)) := fun W => by
    have hr := run_make (P := Try.prog) W 159 162 i0 _ Try.underlying159 hi hz0 .i64 .i64 R R (by omega) (Int.le_refl _) (by rw [hz2]; omega) (by omega)
    simp only [Int.toNat_natCast] at hr
    rw [hz1] at hr
    exact hr
  go_enter Try.func146, Try.ntmps146
  go_wp2
  clear hmk hi hz0 hz1 hz2
  generalize hw1 : World.alloc w _ = w1
  obtain ⟨x0, x1, x2, x3, xs, xb⟩ := box4 hw1
  clear hw1
  rw [← xs]
  generalize hw2 : World.alloc w1 _ = w2
  have hmade : w2.ownsRow (w.heap.size + 1) 162 2 (.slice (some ⟨w1.heap.size, 0, none⟩) R R) R (UU (fun _ => (none, 0)) (fun _ => (none, 0)) p.s p.o 0 ++ List.replicate ((R - 0) * 2) (.slice none 0 0)) := by
    have h := World.ownsRow_lit (base := w.heap.size + 1) (e := 162) (size := 2) w1 (madeCells #[Value.slice none 0 0, Value.slice none 0 0] (R * 2)) R (by omega) (by unfold maxLen; omega) (by simp [size_madeCells])
    rw [made2, hw2] at h
    simpa [UU] using h
  have hb2 : Below (w.heap.size + 1) w1 w2 := by rw [← hw2]; exact (Below.refl _ _).alloc (by omega) _
  clear hw2
  have y0 := (hb2.cell (p := ⟨w.heap.size, 0, none⟩) (by simp)).trans x0
  have y1 := (hb2.cell (p := ⟨w.heap.size, 1, none⟩) (by simp)).trans x1
  have y2 := (hb2.cell (p := ⟨w.heap.size, 2, none⟩) (by simp)).trans x2
  have y3 := (hb2.cell (p := ⟨w.heap.size, 3, none⟩) (by simp)).trans x3
  have HB2 := Lib.hid (xb.trans (hb2.mono (show w.heap.size ≤ w.heap.size + 1 by omega)))
  have HM := Lib.hid hmade
  have hg : w.heap.size + 1 ≤ w1.heap.size := by omega
  have hw12 : w.heap.size + 1 < w2.heap.size := by have := ((own_block hmade) _ rfl).2; have e : w1.heap.size < w2.heap.size := this; omega
  clear x0 x1 x2 x3 xs xb hb2 hmade
  go_loopw [12] (fun iv wr => ∃ (k : Nat) (fo fs : Nat → Option Addr × Nat), k ≤ R ∧ iv = .int .i64 k ∧ wr.ownsRow (w.heap.size + 1) 162 2 (.slice (some ⟨w1.heap.size, 0, none⟩) R R) R (UU fo fs p.s p.o k ++ List.replicate ((R - k) * 2) (.slice none 0 0)) ∧
    OwX wr (w.heap.size + 1) fo fs p.s p.o k ∧ Below (w.heap.size + 1) w2 wr) (fun i _ => R - (intOf i).toNat)
  case atStart => exact ⟨0, _, _, by omega, rfl, HM.out, fun i hi => absurd hi (by omega), Below.refl _ _⟩
  case round =>
    obtain ⟨k, fo, fs, hk, rfl, hown, hX, hbel⟩ := hrel
    have hsz : w.heap.size + 1 < wr.heap.size := by have := hbel.size; omega
    have OWN := Lib.hid hown
    have OWX := Lib.hid hX
    by_cases hlt : k < R
    · have iqk : (k : Int) < (R : Int) := by omega
      have hbw := HB2.out.trans (hbel.mono (show w.heap.size ≤ w.heap.size + 1 by omega))
      have FS := Lib.hid (show ∀ x, Below wr.heap.size wr x → x.cell? ⟨w.heap.size, 0, none⟩ = some (.int .i64 N) ∧ x.cell? ⟨w.heap.size, 1, none⟩ = some (.slice A1 p.s.length c1) ∧ x.cell? ⟨w.heap.size, 2, none⟩ = some (.slice A2 p.o.length c2) ∧ x.cell? ⟨w.heap.size, 3, none⟩ = some (.slice A R c) from fun x hx =>
        ⟨((hx.cell (p := ⟨w.heap.size, 0, none⟩) (by simp only []; omega)).trans (hbel.cell (p := ⟨w.heap.size, 0, none⟩) (by simp))).trans y0, ((hx.cell (p := ⟨w.heap.size, 1, none⟩) (by simp only []; omega)).trans (hbel.cell (p := ⟨w.heap.size, 1, none⟩) (by simp))).trans y1,
        ((hx.cell (p := ⟨w.heap.size, 2, none⟩) (by simp only []; omega)).trans (hbel.cell (p := ⟨w.heap.size, 2, none⟩) (by simp))).trans y2, ((hx.cell (p := ⟨w.heap.size, 3, none⟩) (by simp only []; omega)).trans (hbel.cell (p := ⟨w.heap.size, 3, none⟩) (by simp))).trans y3⟩)
      have US := Lib.hid (show ∀ W, Below wr.heap.size wr W → _ from fun W hW => usesOf_any B N R A1 A2 A c1 c2 c p (k : Int) W hs40 ho6 (by have := hW.size; omega) ((H.out.below' hbw hB).below' hW (by omega)))
      have BEL := Lib.hid hbel
      clear hown hX hbel hbw
      obtain ⟨v0, v1, v2, v3⟩ := FS.out wr (Below.refl _ _)
      go_wp2_with fail
      go_at_call 151
      refine (US.out wr (Below.refl _ _)).mono ?_
      rintro e w5 ⟨O, co, S, cs, rfl, hO5, hS5, hb5⟩
      have hown5 := own_below OWN.out hb5
      have hX5 := OWX.out.below hb5
      have hl := UU_len fo fs p.s p.o k
      have d0 : w5.cell? ⟨w1.heap.size, k * 2, none⟩ = some (.slice none 0 0) := by
        rw [hown5.cellAt _ (by omega), List.getElem?_append_right (by omega), List.getElem?_replicate, if_pos (by omega)]
      have d1 : w5.cell? ⟨w1.heap.size, k * 2 + 1, none⟩ = some (.slice none 0 0) := by
        rw [hown5.cellAt _ (by omega), List.getElem?_append_right (by omega), List.getElem?_replicate, if_pos (by omega)]
      have f0 : w5.frozen? ⟨w1.heap.size, k * 2, none⟩ = false := hown5.frozenAt _
      have f1 : w5.frozen? ⟨w1.heap.size, k * 2 + 1, none⟩ = false := hown5.frozenAt _
      have OWN5 := Lib.hid hown5
      have OWX5 := Lib.hid hX5
      have HO5 := Lib.hid hO5
      have HS5 := Lib.hid hS5
      have BEL5 := Lib.hid (BEL.out.trans (hb5.mono (show w.heap.size + 1 ≤ wr.heap.size by omega)))
      clear hown5 hX5 hO5 hS5 hb5 hl v0 v1 v2 v3
      go_wp2
      go_roundw
      case rel =>
        refine ⟨k + 1, updU fo k (O, co), updU fs k (S, cs), by omega, by go_num, ?_, ?_, (BEL5.out.setCell hg _).setCell hg _⟩
        · have h := ((OWN5.out.stored (k * 2) (.slice O (usO p.o (k : Int) p.o.length).length co)).1.stored (k * 2 + 1) (.slice S (usS p.s (k : Int) p.s.length).length cs)).1
          rw [fill2 _ _ _ _ (UU_len fo fs p.s p.o k) hlt] at h
          rw [UU_upd]
          exact h
        · obtain ⟨ws, hws⟩ := own_heap OWN5.out
          have h2 := (OWN5.out.stored (k * 2) (.slice O (usO p.o (k : Int) p.o.length).length co)).1
          obtain ⟨ws2, hws2⟩ := own_heap h2
          refine OwX.upd ((OWX5.out.set hws (by decide) _).set hws2 (by decide) _) ?_ ?_
          · exact own_base (own_set (own_set (h := HO5.out) hws (by decide) _) hws2 (by decide) _) (by omega)
          · exact own_base (own_set (own_set (h := HS5.out) hws (by decide) _) hws2 (by decide) _) (by omega)
      case measure => simp [intOf]; omega
    · have hk' : k = R := by omega
      subst hk'
      have HB3 := Lib.hid (HB2.out.trans (hbel.mono (show w.heap.size ≤ w.heap.size + 1 by omega)))
      clear hown hX hbel
      go_wp2
      go_ret
      refine ⟨_, _, rfl, ⟨fo, fs, ?_, OWX.out.base (by omega)⟩, HB3.out⟩
      have h := own_base OWN.out (show w.heap.size ≤ w.heap.size + 1 by omega)
      simpa using h
end Go.Proofs.Ytbbjgcagkmlngaa
/- Values that are there and needed, by the program, whatever tells which values are there. -/
namespace Go.Proofs.Ytbbjgcagkmlngaa
open Go.RowKit

/-- What is asked of the function that tells which values are there. -/
def Here (gf : Nat) (lf : Array Value) (f : Nat → Bool) (R : Nat) (w : World) : Prop :=
  ∀ (W : World) (n : Nat), Below w.heap.size w W → n < R → Calls Try.prog gf (#[.int .i64 (n : Int)] ++ lf) W fun e w' => e = .returned (.bool (f n)) ∧ Below W.heap.size W w'
theorem Here.below {gf : Nat} {lf : Array Value} {f : Nat → Bool} {R : Nat} {w w' : World} (h : Here gf lf f R w) (hb : Below w.heap.size w w') : Here gf lf f R w' :=
  fun W n hW hn => h W n (hb.trans (hW.mono hb.size)) hn

/-- One of the first j uses is a step whose value is not there. -/
def wtK (N : Nat) (f : Nat → Bool) (l : List Int) (j : Nat) : Bool := (l.take j).any fun i => !f (N + i.toNat)
theorem wtK_succ {N : Nat} {f : Nat → Bool} {l : List Int} {j : Nat} (h : j < l.length) : wtK N f l (j + 1) = (wtK N f l j || !f (N + l[j].toNat)) := by
  unfold wtK
  rw [List.take_succ_eq_append_getElem h, List.any_append]
  simp
theorem wtK_mono {N : Nat} {f : Nat → Bool} {l : List Int} {j : Nat} (h : wtK N f l j = true) : wtK N f l l.length = true := by
  unfold wtK at h ⊢
  rw [List.any_eq_true] at h ⊢
  obtain ⟨x, hx, h2⟩ := h
  exact ⟨x, by rw [List.take_length]; exact List.mem_of_mem_take hx, h2⟩

set_option maxRecDepth 100000 in
set_option maxHeartbeats 1000000 in
theorem waits_any (gf : Nat) (lf : Array Value) (ef : ∀ args w, (callFunc gf args).run Try.prog w = .ok (.enter gf args) w) (f : Nat → Bool) (R N g1 g2 x : Nat) (w : World) (hN : N ≤ 1000) (hx : N + x < R) (hR : R ≤ 1000) (h1 : w.cell? ⟨g1, 0, none⟩ = some (.func (.func gf) #[] lf)) (h2 : w.cell? ⟨g2, 0, none⟩ = some (.int .i64 N)) (H : Here gf lf f R w) :
    Calls Try.prog 145 #[.int .i64 (x : Int), .pointer (some ⟨g1, 0, none⟩), .pointer (some ⟨g2, 0, none⟩)] w fun e w' => e = .returned (.bool (!f (N + x))) ∧ Below w.heap.size w w' := by
  have HC := H w (N + x) (Below.refl _ _) hx
  have hw1 : IntKind.i64.wrap ((N : Int) + (x : Int)) = ((N + x : Nat) : Int) := by rw [IntWalk.i64_in _ (by omega)]; omega
  obtain ⟨t, ht⟩ : ∃ t, f (N + x) = t := ⟨_, rfl⟩
  rw [ht] at HC
  rw [ht]
  obtain ⟨M, hM⟩ : ∃ M, N + x = M := ⟨_, rfl⟩
  rw [hM] at hw1 HC
  have HC := Lib.hid HC
  clear H ht hx hM
  go_enter Try.func145, Try.ntmps145
  go_wp2_with fail
  go_at_fn gf
  refine HC.out.mono ?_
  rintro e w2 ⟨rfl, hb⟩
  have HB := Lib.hid hb
  clear hb h1 h2
  go_wp2
  go_ret
  exact ⟨by cases t <;> rfl, HB.out⟩

set_option maxRecDepth 100000 in
set_option maxHeartbeats 2000000 in
theorem indexWaits_any (B gf : Nat) (lf : Array Value) (ef : ∀ args w, (callFunc gf args).run Try.prog w = .ok (.enter gf args) w) (f : Nat → Bool) (R N g1 g2 : Nat) (A : Option Addr) (c : Nat) (l : List Int) (w : World) (hN : N ≤ 1000) (hR : R ≤ 1000) (hB : B ≤ w.heap.size) (hin : ∀ x ∈ l, 0 ≤ x ∧ (N : Int) + x < R) (hl : l.length ≤ 1000)
    (h1 : w.cell? ⟨g1, 0, none⟩ = some (.func (.func gf) #[] lf)) (h2 : w.cell? ⟨g2, 0, none⟩ = some (.int .i64 N)) (h1s : g1 < w.heap.size) (h2s : g2 < w.heap.size) (HH : Here gf lf f R w) (hr : Rd w B 1 A l.length (l.map I)) :
    Calls Try.prog 150 #[.slice A l.length c, .func (.func 145) #[] #[.pointer (some ⟨g1, 0, none⟩), .pointer (some ⟨g2, 0, none⟩)]] w fun e w' => (∃ i : Int, e = .returned (.int .i64 i) ∧ decide (0 ≤ i) = wtK N f l l.length) ∧ Below w.heap.size w w' := by
  have H := Lib.hid hr
  have HIN := Lib.hid hin
  have W0 := Lib.hid (fun (x : Nat) (W : World) (hW : Below w.heap.size w W) (hx : N + x < R) => waits_any gf lf ef f R N g1 g2 x W hN hx hR ((hW.cell (p := ⟨g1, 0, none⟩) h1s).trans h1) ((hW.cell (p := ⟨g2, 0, none⟩) h2s).trans h2) (HH.below hW))
  clear hr h1 h2 HH hin
  go_enter Try.func150, Try.ntmps150
  go_wp2
  go_loopw [8] (fun iv wr => ∃ j : Nat, j ≤ l.length ∧ iv = .int .i64 j ∧ wtK N f l j = false ∧ Below w.heap.size w wr) (fun i _ => l.length - (intOf i).toNat)
  case atStart => exact ⟨0, by omega, rfl, rfl, Below.refl _ _⟩
  case round =>
    obtain ⟨j, hj, rfl, hno, hbel⟩ := hrel
    by_cases hlt : j < l.length
    · have iqk : (j : Int) < (l.length : Int) := by omega
      obtain ⟨b, off, rfl, hb, hc⟩ := (H.out.below' hbel hB).int hlt
      have hno2 := wtK_succ (N := N) (f := f) hlt
      rw [hno, Bool.false_or] at hno2
      obtain ⟨hx0, hxR⟩ := HIN.out _ (List.getElem_mem hlt)
      obtain ⟨x, hx⟩ : ∃ x : Nat, l[j] = (x : Int) := ⟨l[j].toNat, by omega⟩
      rw [hx] at hc hno2
      rw [Int.toNat_natCast] at hno2
      have HB := W0.out x wr hbel (by omega)
      obtain ⟨t, ht⟩ : ∃ t, (!f (N + x)) = t := ⟨_, rfl⟩
      rw [ht] at hno2 HB
      have HB := Lib.hid HB
      have NO2 := Lib.hid hno2
      have BEL := Lib.hid hbel
      have hsz := hbel.size
      clear hno hno2 hx ht hbel hx0 hxR
      go_wp2_with fail
      refine HB.out.mono ?_
      rintro e w5 ⟨rfl, hb5⟩
      have BEL5 := Lib.hid (BEL.out.trans (hb5.mono hsz))
      clear hb5
      cases t with
      | true =>
        go_wp2
        go_ret
        refine ⟨⟨_, rfl, ?_⟩, BEL5.out⟩
        rw [wtK_mono NO2.out]
        exact decide_eq_true (by omega)
      | false =>
        go_wp2
        go_roundw
        case rel => exact ⟨j + 1, by omega, by go_num, NO2.out, BEL5.out⟩
        case measure => simp [intOf]; omega
    · have hj' : j = l.length := by omega
      subst hj'
      go_wp2
      go_ret
      exact ⟨⟨_, rfl, by rw [hno]; rfl⟩, hbel⟩

set_option maxRecDepth 100000 in
set_option maxHeartbeats 1000000 in
theorem containsWaits_any (B gf : Nat) (lf : Array Value) (ef : ∀ args w, (callFunc gf args).run Try.prog w = .ok (.enter gf args) w) (f : Nat → Bool) (R N g1 g2 : Nat) (A : Option Addr) (c : Nat) (l : List Int) (w : World) (hN : N ≤ 1000) (hR : R ≤ 1000) (hB : B ≤ w.heap.size) (hin : ∀ x ∈ l, 0 ≤ x ∧ (N : Int) + x < R) (hl : l.length ≤ 1000)
    (h1 : w.cell? ⟨g1, 0, none⟩ = some (.func (.func gf) #[] lf)) (h2 : w.cell? ⟨g2, 0, none⟩ = some (.int .i64 N)) (h1s : g1 < w.heap.size) (h2s : g2 < w.heap.size) (HH : Here gf lf f R w) (hr : Rd w B 1 A l.length (l.map I)) :
    Calls Try.prog 143 #[.slice A l.length c, .func (.func 145) #[] #[.pointer (some ⟨g1, 0, none⟩), .pointer (some ⟨g2, 0, none⟩)]] w fun e w' => e = .returned (.bool (wtK N f l l.length)) ∧ Below w.heap.size w w' := by
  have HI := Lib.hid (indexWaits_any B gf lf ef f R N g1 g2 A c l w hN hR hB hin hl h1 h2 h1s h2s HH hr)
  clear hr h1 h2 HH hin
  go_enter Try.func143, Try.ntmps143
  go_wp2_with fail
  go_at_call 150
  refine HI.out.mono ?_
  rintro e w2 ⟨⟨i, rfl, hi⟩, hb⟩
  have HII := Lib.hid hi
  have HB := Lib.hid hb
  clear hi hb
  go_wp2
  go_ret
  exact ⟨by rw [← HII.out]; rfl, HB.out⟩

theorem lgB_any (N : Nat) (s : List (Int × Int)) (o : List Int) (f : Nat → Bool) (v : Int) : lgB N s o f v = (decide (0 < (usO o v o.length).length) || wtK N f (usS s v s.length) (usS s v s.length).length) := by
  unfold lgB wtK
  rw [List.take_length]
theorem box4w {w w1 : World} {a b c d : Value} {t : TypeId} (h : w.alloc (.cells #[a, b, c, d] t) = w1) :
    (w1.cell? ⟨w.heap.size, 0, none⟩ = some a ∧ w1.cell? ⟨w.heap.size, 1, none⟩ = some b ∧ w1.cell? ⟨w.heap.size, 2, none⟩ = some c ∧ w1.cell? ⟨w.heap.size, 3, none⟩ = some d) ∧ w1.heap.size = w.heap.size + 1 ∧ Below w.heap.size w w1 :=
  let ⟨h0, h1, h2, h3, hs, hb⟩ := box4 h
  ⟨⟨h0, h1, h2, h3⟩, hs, hb⟩
theorem box1w {w w1 : World} {a : Value} {t : TypeId} (h : w.alloc (.cells #[a] t) = w1) :
    w1.cell? ⟨w.heap.size, 0, none⟩ = some a ∧ w1.heap.size = w.heap.size + 1 ∧ Below w.heap.size w w1 := by
  subst h
  refine ⟨?_, by simp, (Below.refl _ _).alloc (Nat.le_refl _) _⟩
  rw [World.cell?_alloc_at _ _ _ _ rfl]; rfl
theorem usS_inI (s : List (Int × Int)) (v : Int) : ∀ x ∈ usS s v s.length, 0 ≤ x ∧ x < s.length := by
  intro x hx
  obtain ⟨i, h1, rfl, _⟩ := mem_usS.1 hx
  omega

set_option maxRecDepth 100000 in
set_option maxHeartbeats 8000000 in
theorem live_any (B N R gf : Nat) (lf : Array Value) (ef : ∀ args w, (callFunc gf args).run Try.prog w = .ok (.enter gf args) w) (f : Nat → Bool) (A1 A2 A : Option Addr) (c1 c2 c : Nat) (p : Pl) (w : World) (hs40 : p.s.length ≤ 40) (ho6 : p.o.length ≤ 6) (hN : N ≤ 6) (hR : R = N + p.s.length) (hB : B ≤ w.heap.size) (hr : RdP w B A1 A2 p) (HH : Here gf lf f R w) :
    Calls Try.prog 134 #[.agg #[.int .i64 N, .slice A1 p.s.length c1, .slice A2 p.o.length c2, .slice A R c], .func (.func gf) #[] lf] w fun e w' =>
      ∃ A' c', e = .returned (.slice A' (lg N p.s p.o f).length c') ∧ OwI w' w.heap.size (.slice A' (lg N p.s p.o f).length c') (lg N p.s p.o f) ∧ (lg N p.s p.o f = [] → A' = none ∧ c' = 0) ∧ Below w.heap.size w w' := by
  have US := Lib.hid (fun W hW hr => allUses_any B N R A1 A2 A c1 c2 c p W hs40 ho6 (by omega) hW hr)
  have H := Lib.hid hr
  have EL := Lib.hid (show lg N p.s p.o f = lgK N p.s p.o f R by unfold lg; rw [hR])
  have hR46 : R ≤ 46 := by omega
  have HUI := Lib.hid (fun v => (fun x hx => ⟨(usS_inI p.s v x hx).1, by have := (usS_inI p.s v x hx).2; omega⟩ : ∀ x ∈ usS p.s v p.s.length, 0 ≤ x ∧ (N : Int) + x < R))
  have HH0 := Lib.hid HH
  clear hr hR HH
  go_enter Try.func134, Try.ntmps134
  go_wp2_with fail
  go_at_call 146
  generalize hw1 : World.alloc w _ = w1
  obtain ⟨⟨x0, x1, x2, x3⟩, xs, xb⟩ := box4w hw1
  clear hw1
  generalize hw2 : World.alloc w1 _ = w2
  obtain ⟨y0, ys, yb⟩ := box1w hw2
  clear hw2
  rw [xs] at y0
  have x0 := (yb.cell (p := ⟨w.heap.size, 0, none⟩) (by simp only []; omega)).trans x0
  have HB2 := Lib.hid (xb.trans (yb.mono (by omega)))
  have hs2 : w.heap.size + 2 = w2.heap.size := by omega
  clear x1 x2 x3 xs xb ys yb
  refine (US.out w2 (by omega) (H.out.below' HB2.out hB)).mono ?_
  rintro e w3 ⟨A3, c3, fo, fs, rfl, hU, hb3⟩
  have HU := Lib.hid hU
  have HB3 := Lib.hid (HB2.out.trans (hb3.mono (by omega)))
  have x0 := (hb3.cell (p := ⟨w.heap.size, 0, none⟩) (by simp only []; omega)).trans x0
  have y0 := (hb3.cell (p := ⟨w.heap.size + 1, 0, none⟩) (by simp only []; omega)).trans y0
  have hs3 : w.heap.size + 2 ≤ w3.heap.size := by have := hb3.size; omega
  have icap : (R : Int) ≤ (c3 : Int) := by have := own_cap hU.1; omega
  clear hU hb3 hs2
  go_wp2
  go_loopw [6, 13] (fun ov iv wr => ∃ (j : Nat) (A4 : Option Addr) (c4 : Nat), j ≤ R ∧ iv = .int .i64 j ∧ ov = .slice A4 (lgK N p.s p.o f j).length c4 ∧ wr.ownsRow w3.heap.size 3 1 (.slice A4 (lgK N p.s p.o f j).length c4) (lgK N p.s p.o f j).length ((lgK N p.s p.o f j).map I) ∧ (lgK N p.s p.o f j = [] → A4 = none ∧ c4 = 0) ∧ Below w3.heap.size w3 wr) (fun _ i _ => R - (intOf i).toNat)
  case atStart => exact ⟨0, none, 0, by omega, rfl, rfl, by simpa [lgK] using World.ownsRow_nil _ _ _ _, fun _ => ⟨rfl, rfl⟩, Below.refl _ _⟩
  case round =>
    obtain ⟨j, A4, c4, hj, rfl, rfl, hown, hnil, hbel⟩ := hrel
    have hsz : w3.heap.size ≤ wr.heap.size := hbel.size
    have hle := lgK_le N p.s p.o f j
    by_cases hlt : j < R
    · have iqj : (j : Int) < (R : Int) := by omega
      have hUr := HU.out.below hbel
      obtain ⟨g, rfl, _, hg4, d0, d1⟩ := hUr.at_ hlt
      have hS := (hUr.2 j hlt).2.rd
      have l1 := usS_le p.s (j : Int) p.s.length
      have hlv := lgB_any N p.s p.o f (j : Int)
      have z0 := (hbel.cell (p := ⟨w.heap.size, 0, none⟩) (by simp only []; omega)).trans x0
      have z1 := (hbel.cell (p := ⟨w.heap.size + 1, 0, none⟩) (by simp only []; omega)).trans y0
      obtain ⟨a1, ha1⟩ : ∃ a, fo j = a := ⟨_, rfl⟩
      obtain ⟨a2, ha2⟩ : ∃ a, fs j = a := ⟨_, rfl⟩
      rw [ha1] at d0
      rw [ha2] at d1 hS
      have HBW := Lib.hid (HB3.out.trans (hbel.mono (show w.heap.size ≤ w3.heap.size by omega)))
      have CW := Lib.hid (fun W (hW : Below wr.heap.size wr W) => containsWaits_any wr.heap.size gf lf ef f R N (w.heap.size + 1) w.heap.size a2.1 a2.2 (usS p.s (j : Int) p.s.length) W (by omega) (by omega) hW.size (HUI.out _) (by omega) ((hW.cell (p := ⟨w.heap.size + 1, 0, none⟩) (by simp only []; omega)).trans z1) ((hW.cell (p := ⟨w.heap.size, 0, none⟩) (by simp only []; omega)).trans z0) (by have := hW.size; omega) (by have := hW.size; omega) (HH0.out.below (HBW.out.trans (hW.mono (by omega)))) (hS.below hW))
      have HF := Lib.hid (fun W (hW : Below wr.heap.size wr W) => HH0.out W j (HBW.out.trans (hW.mono (show w.heap.size ≤ wr.heap.size by omega))) hlt)
      obtain ⟨q, hq⟩ : ∃ q, (usO p.o (j : Int) p.o.length).length = q := ⟨_, rfl⟩
      obtain ⟨s1, hs1⟩ : ∃ q, (usS p.s (j : Int) p.s.length).length = q := ⟨_, rfl⟩
      obtain ⟨t, ht⟩ : ∃ t, f j = t := ⟨_, rfl⟩
      obtain ⟨u, hu⟩ : ∃ t, wtK N f (usS p.s (j : Int) p.s.length) (usS p.s (j : Int) p.s.length).length = t := ⟨_, rfl⟩
      have hcw := CW.out
      have hff := HF.out
      rw [hu] at hcw hlv
      rw [hs1] at hcw d1 l1
      rw [ht] at hff
      rw [hq] at d0 hlv
      have HCW := Lib.hid hcw
      have HFF := Lib.hid hff
      have LV := Lib.hid hlv
      have HT := Lib.hid ht
      have OWN := Lib.hid hown
      have NIL := Lib.hid hnil
      have BEL := Lib.hid hbel
      clear hUr hS hlv ht hu hs1 hq ha1 ha2 hown hnil hbel hcw hff CW HF
      have Z1 := cell_kept z1
      go_wp2_with fail
      go_at_fn gf
      clear Z1
      generalize hw5 : World.alloc wr _ = w5
      obtain ⟨e0, e1, es, eb⟩ := box2 hw5
      clear hw5
      refine (HFF.out w5 eb).mono ?_
      rintro e w6 ⟨rfl, hb6⟩
      have hb56 : Below wr.heap.size wr w6 := eb.trans (hb6.mono (by omega))
      have OWN6 := Lib.hid (own_below OWN.out hb56)
      have BEL6 := Lib.hid (BEL.out.trans (hb56.mono hsz))
      have B56 := Lib.hid hb56
      have hs6 : w3.heap.size ≤ w6.heap.size := BEL6.out.size
      have e0 := (hb6.cell (p := ⟨wr.heap.size, 0, none⟩) (by simp only []; omega)).trans e0
      have e1 := (hb6.cell (p := ⟨wr.heap.size, 1, none⟩) (by simp only []; omega)).trans e1
      clear es eb hb6 hb56 d0 d1 z0 z1
      cases t with
      | false =>
        have MISS := Lib.hid (lgK_miss (N := N) (s := p.s) (o := p.o) (f := f) (m := j) (by rw [HT.out]; rfl))
        clear e0 e1
        go_wp2
        go_roundw
        case rel => exact ⟨j + 1, A4, c4, by omega, by go_num, by rw [MISS.out], by rw [MISS.out]; exact OWN6.out, by rw [MISS.out]; exact NIL.out, BEL6.out⟩
        case measure => simp [intOf]; omega
      | true =>
        by_cases hq0 : 0 < q
        · have iq : (0 : Int) < (q : Int) := by omega
          have HIT := Lib.hid (lgK_hit (N := N) (s := p.s) (o := p.o) (f := f) (m := j) (by rw [HT.out, LV.out, decide_eq_true hq0]; rfl))
          clear hq0
          go_wp2_with (at_builtin; refine list_step (fun K hK => ?_); refine step_app1 Try.underlying22 info_int rfl (by omega) rfl (.tmp 33) (.tmp 35) rfl w3.heap.size (lgK N p.s p.o f j).length _ _ rfl (World.ownsRow.alloc OWN6.out _) w6.heap.size 1 (I (j : Int)) rfl (by simp) rfl (by omega) (by simp; omega) ?_; intro A7 c7 w7 hown7 hg7 hbel7; go_simp; refine hK _ _ ?_; clear hK K)
          go_roundw
          case rel =>
            have hl : (lgK N p.s p.o f (j + 1)).length = (lgK N p.s p.o f j).length + 1 := by rw [HIT.out]; simp
            have hm : (lgK N p.s p.o f (j + 1)).map I = (lgK N p.s p.o f j).map I ++ [I (j : Int)] := by rw [HIT.out]; simp
            exact ⟨j + 1, A7, c7, by omega, by go_num, by rw [hl], by rw [hl, hm]; exact hown7, fun h => by rw [HIT.out] at h; simp at h, (BEL6.out.alloc hs6 _).trans hbel7⟩
          case measure => simp [intOf]; omega
        · have iq : ¬ (0 : Int) < (q : Int) := by omega
          have L2 := Lib.hid (show lgB N p.s p.o f (j : Int) = u by rw [LV.out, decide_eq_false hq0]; rfl)
          clear hq0
          go_wp2_with fail
          go_at_call 143
          refine (HCW.out w6 B56.out).mono ?_
          rintro e w8 ⟨rfl, hb8⟩
          have OWN8 := Lib.hid (own_below' OWN6.out hb8 (by omega))
          have BEL8 := Lib.hid (BEL6.out.trans (hb8.mono hs6))
          have hs8 : w3.heap.size ≤ w8.heap.size := BEL8.out.size
          clear hb8 e0 e1
          cases u with
          | false =>
            have MISS := Lib.hid (lgK_miss (N := N) (s := p.s) (o := p.o) (f := f) (m := j) (by rw [L2.out]; simp))
            go_wp2
            go_roundw
            case rel => exact ⟨j + 1, A4, c4, by omega, by go_num, by rw [MISS.out], by rw [MISS.out]; exact OWN8.out, by rw [MISS.out]; exact NIL.out, BEL8.out⟩
            case measure => simp [intOf]; omega
          | true =>
            have HIT := Lib.hid (lgK_hit (N := N) (s := p.s) (o := p.o) (f := f) (m := j) (by rw [HT.out, L2.out]; rfl))
            go_wp2_with (at_builtin; refine list_step (fun K hK => ?_); refine step_app1 Try.underlying22 info_int rfl (by omega) rfl (.tmp 33) (.tmp 35) rfl w3.heap.size (lgK N p.s p.o f j).length _ _ rfl (World.ownsRow.alloc OWN8.out _) w8.heap.size 1 (I (j : Int)) rfl (by simp) rfl (by omega) (by simp; omega) ?_; intro A7 c7 w7 hown7 hg7 hbel7; go_simp; refine hK _ _ ?_; clear hK K)
            go_roundw
            case rel =>
              have hl : (lgK N p.s p.o f (j + 1)).length = (lgK N p.s p.o f j).length + 1 := by rw [HIT.out]; simp
              have hm : (lgK N p.s p.o f (j + 1)).map I = (lgK N p.s p.o f j).map I ++ [I (j : Int)] := by rw [HIT.out]; simp
              exact ⟨j + 1, A7, c7, by omega, by go_num, by rw [hl], by rw [hl, hm]; exact hown7, fun h => by rw [HIT.out] at h; simp at h, (BEL8.out.alloc hs8 _).trans hbel7⟩
            case measure => simp [intOf]; omega
    · have hj' : j = R := by omega
      subst hj'
      have OWN := Lib.hid (own_base hown (show w.heap.size ≤ w3.heap.size by omega))
      have NIL := Lib.hid hnil
      have HB4 := Lib.hid (HB3.out.trans (hbel.mono (by omega)))
      clear hown hbel hnil
      go_wp2
      go_ret
      refine ⟨A4, c4, by rw [EL.out]; rfl, ?_, fun h => NIL.out (by rw [← EL.out]; exact h), HB4.out⟩
      show World.ownsRow _ _ _ _ _ _ _
      rw [EL.out]
      exact OWN.out
end Go.Proofs.Ytbbjgcagkmlngaa
/- RenameRegisters, of the program. -/
namespace Go.Proofs.Ytbbjgcagkmlngaa
open Go.RowKit

set_option maxRecDepth 100000 in
set_option maxHeartbeats 1000000 in
theorem nameOf_any (g : Nat) (B : Nat) (AL : Option Addr) (cl : Nat) (l : List Int) (x : Int) (w : World) (hx0 : 0 ≤ x) (hx1 : x < (l.length : Int)) (hg : w.cell? ⟨g, 0, none⟩ = some (.slice AL l.length cl)) (hrl : Rd w B 1 AL l.length (l.map I)) :
    Calls Try.prog 99 #[.int .i64 x, .pointer (some ⟨g, 0, none⟩)] w fun e w' => e = .returned (.int .i64 (nmF l x)) ∧ Below w.heap.size w w' := by
  obtain ⟨v, rfl⟩ : ∃ v : Nat, x = (v : Int) := ⟨x.toNat, by omega⟩
  have hv : v < l.length := by omega
  obtain ⟨b, off, rfl, hb, hc⟩ := hrl.int hv
  have E := Lib.hid (show nmF l (v : Int) = l[v] by unfold nmF; simp [hv])
  obtain ⟨y, hy⟩ : ∃ y, l[v] = y := ⟨_, rfl⟩
  rw [hy] at hc
  have E := Lib.hid (E.out.trans hy)
  have ivl : (v : Int) < (l.length : Int) := by omega
  clear hy hrl
  go_enter Try.func99, Try.ntmps99
  go_wp2
  go_ret
  exact ⟨by rw [E.out]; rfl, Below.refl _ _⟩

set_option maxRecDepth 100000 in
set_option maxHeartbeats 8000000 in
theorem implRename_any (B : Nat) (A1 A2 A3 : Option Addr) (c1 c2 c3 : Nat) (c : Rc) (AL : Option Addr) (cl : Nat) (l : List Int) (w : World) (hB : B ≤ w.heap.size) (hl1 : c.i.length ≤ 1048576) (hl2 : c.ops.length ≤ 1048576) (hl3 : c.o.length ≤ 1048576) (hll : l.length ≤ 1048576) (hcap : c.i.length ≤ c1 ∧ c.ops.length ≤ c2 ∧ c.o.length ≤ c3) (_hcl : l.length ≤ cl) (hr : RdC w B A1 A2 A3 c) (hrl : Rd w B 1 AL l.length (l.map I)) :
    Calls Try.prog 52 #[.agg #[.int .i64 c.r, .slice A1 c.i.length c1, .slice A2 c.ops.length c2, .slice A3 c.o.length c3], .slice AL l.length cl] w fun e w' =>
      ∃ E1 E2 E3 e1 e2 e3, e = .returned (.tuple #[.agg #[.int .i64 (rnR c l).r, .slice E1 (rnR c l).i.length e1, .slice E2 (rnR c l).ops.length e2, .slice E3 (rnR c l).o.length e3], .bool (rnB c l)]) ∧ OwC w' w.heap.size E1 E2 E3 e1 e2 e3 (rnR c l) ∧ Below w.heap.size w w' := by
  have H := Lib.hid hr
  have HL := Lib.hid hrl
  have RC := fun W hW hrW => implIsRc_any B A1 A2 A3 c1 c2 c3 c W hW hl1 hl2 hl3 hcap hrW
  clear hr hrl hcap
  obtain ⟨rb, hrb⟩ : ∃ t, rcB c = t := ⟨_, rfl⟩
  rw [hrb] at RC
  have RC := Lib.hid RC
  have HRB := Lib.hid hrb
  clear hrb
  go_enter Try.func52, Try.ntmps52
  go_wp2_with fail
  go_at_call 18
  generalize hw1 : World.alloc w _ = w1
  obtain ⟨⟨x0, x1, x2, x3⟩, xs, xb⟩ := bx4r hw1
  clear hw1
  generalize hw2 : World.alloc w1 _ = w2
  obtain ⟨y0, ys, yb⟩ := box1w hw2
  clear hw2
  generalize hw3 : World.alloc w2 _ = w3
  have q0 : w3.heap[w2.heap.size]? = some (.cells #[.int .i64 0, .slice none 0 0, .slice none 0 0, .slice none 0 0] 30 (0, 0)) := by rw [← hw3]; exact heap_alloc_new w2 _
  obtain ⟨_, zs, zb⟩ := bx4r hw3
  clear hw3
  have e1 : w1.heap.size = w.heap.size + 1 := xs
  have e2 : w2.heap.size = w.heap.size + 2 := by omega
  rw [e1] at y0
  rw [e2] at q0
  have x0 := (zb.cell (p := ⟨w.heap.size, 0, none⟩) (by simp only []; omega)).trans ((yb.cell (p := ⟨w.heap.size, 0, none⟩) (by simp only []; omega)).trans x0)
  have x1 := (zb.cell (p := ⟨w.heap.size, 1, none⟩) (by simp only []; omega)).trans ((yb.cell (p := ⟨w.heap.size, 1, none⟩) (by simp only []; omega)).trans x1)
  have x2 := (zb.cell (p := ⟨w.heap.size, 2, none⟩) (by simp only []; omega)).trans ((yb.cell (p := ⟨w.heap.size, 2, none⟩) (by simp only []; omega)).trans x2)
  have x3 := (zb.cell (p := ⟨w.heap.size, 3, none⟩) (by simp only []; omega)).trans ((yb.cell (p := ⟨w.heap.size, 3, none⟩) (by simp only []; omega)).trans x3)
  have y0 := (zb.cell (p := ⟨w.heap.size + 1, 0, none⟩) (by simp only []; omega)).trans y0
  have HB3 := Lib.hid ((xb.trans (yb.mono (by omega))).trans (zb.mono (by omega)))
  have hs3 : w.heap.size + 3 = w3.heap.size := by omega
  clear xs ys xb yb zs zb e1 e2
  refine (RC.out w3 (by omega) (H.out.below' HB3.out hB)).mono ?_
  rintro e w4 ⟨rfl, hb4⟩
  have x0 := (hb4.cell (p := ⟨w.heap.size, 0, none⟩) (by simp only []; omega)).trans x0
  have x1 := (hb4.cell (p := ⟨w.heap.size, 1, none⟩) (by simp only []; omega)).trans x1
  have x2 := (hb4.cell (p := ⟨w.heap.size, 2, none⟩) (by simp only []; omega)).trans x2
  have x3 := (hb4.cell (p := ⟨w.heap.size, 3, none⟩) (by simp only []; omega)).trans x3
  have y0 := (hb4.cell (p := ⟨w.heap.size + 1, 0, none⟩) (by simp only []; omega)).trans y0
  have Q4 := Lib.hid ((hb4.block (w.heap.size + 2) (by omega)).trans q0)
  have HB4 := Lib.hid (HB3.out.trans (hb4.mono (by omega)))
  have hs4 : w.heap.size + 3 ≤ w4.heap.size := by have := hb4.size; omega
  obtain ⟨t0, t1, t2, t3, g0, g1, g2, g3⟩ := cells4n Q4.out
  clear q0 hb4 hs3
  have BADR := Lib.hid (show rnB c l = false → ∃ E1 E2 E3 e1 e2 e3, Ending.returned (.tuple #[.agg #[.int .i64 0, .slice none 0 0, .slice none 0 0, .slice none 0 0], .bool false]) = .returned (.tuple #[.agg #[.int .i64 (rnR c l).r, .slice E1 (rnR c l).i.length e1, .slice E2 (rnR c l).ops.length e2, .slice E3 (rnR c l).o.length e3], .bool (rnB c l)]) ∧ ∀ W, OwC W w.heap.size E1 E2 E3 e1 e2 e3 (rnR c l) from fun h => by
    rw [rnR_false h, h]
    exact ⟨none, none, none, 0, 0, 0, rfl, fun W => OwC.zero _ _⟩)
  cases rb with
  | false =>
    obtain ⟨E1, E2, E3, e1, e2, e3, hE, hO⟩ := BADR.out (by unfold rnB; rw [HRB.out]; rfl)
    go_wp2
    refine bodyPost_ret (v := .tuple #[.agg #[.int .i64 0, .slice none 0 0, .slice none 0 0, .slice none 0 0], .bool false]) (by simp [results, Try.results52, go_sem, t0, t1, t2, t3]) rfl ⟨E1, E2, E3, e1, e2, e3, hE, hO _, ?_⟩
    exact (((HB4.out.setCell (by simp only []; omega) _).setCell (by simp only []; omega) _).setCell (by simp only []; omega) _).setCell (by simp only []; omega) _
  | true =>
  obtain ⟨R, hR, r1, r46, i1, i6, p40, o6, hnd, hin, hop, hou, hgd⟩ := rcB_facts HRB.out
  have HIN := Lib.hid hin
  have HOP := Lib.hid hop
  have HOU := Lib.hid hou
  have HR := Lib.hid hR
  have EQB := Lib.hid (show rnB c l = prmB R l by unfold rnB; rw [HRB.out, hR, Int.toNat_natCast]; rfl)
  have IO := fun W hW hrW => isOrderOf_any B R AL cl l W (by omega) hll hW hrW
  obtain ⟨pb, hpb⟩ : ∃ t, prmB R l = t := ⟨_, rfl⟩
  rw [hpb] at IO
  have IO := Lib.hid IO
  have HPB := Lib.hid hpb
  rw [hR] at x0
  clear hin hop hou hgd hnd hR hpb
  go_wp2_with fail
  go_at_call 97
  refine (IO.out w4 (by omega) (HL.out.below' HB4.out hB)).mono ?_
  rintro e w5 ⟨rfl, hb5⟩
  have x0 := (hb5.cell (p := ⟨w.heap.size, 0, none⟩) (by simp only []; omega)).trans x0
  have x1 := (hb5.cell (p := ⟨w.heap.size, 1, none⟩) (by simp only []; omega)).trans x1
  have x2 := (hb5.cell (p := ⟨w.heap.size, 2, none⟩) (by simp only []; omega)).trans x2
  have x3 := (hb5.cell (p := ⟨w.heap.size, 3, none⟩) (by simp only []; omega)).trans x3
  have y0 := (hb5.cell (p := ⟨w.heap.size + 1, 0, none⟩) (by simp only []; omega)).trans y0
  have Q5 := Lib.hid ((hb5.block (w.heap.size + 2) (by omega)).trans Q4.out)
  have HB5 := Lib.hid (HB4.out.trans (hb5.mono HB4.out.size))
  have hs5 : w.heap.size + 3 ≤ w5.heap.size := by have := hb5.size; omega
  clear t0 t1 t2 t3 g0 g1 g2 g3 hb5
  obtain ⟨t0, t1, t2, t3, g0, g1, g2, g3⟩ := cells4n Q5.out
  cases pb with
  | false =>
    obtain ⟨E1, E2, E3, e1, e2, e3, hE, hO⟩ := BADR.out (by rw [EQB.out, HPB.out])
    go_wp2
    refine bodyPost_ret (v := .tuple #[.agg #[.int .i64 0, .slice none 0 0, .slice none 0 0, .slice none 0 0], .bool false]) (by simp [results, Try.results52, go_sem, t0, t1, t2, t3]) rfl ⟨E1, E2, E3, e1, e2, e3, hE, hO _, ?_⟩
    exact (((HB5.out.setCell (by simp only []; omega) _).setCell (by simp only []; omega) _).setCell (by simp only []; omega) _).setCell (by simp only []; omega) _
  | true =>
  have EB := Lib.hid (EQB.out.trans HPB.out)
  have ER := Lib.hid (rnR_true EB.out)
  obtain ⟨hlen, _, _⟩ := prm_facts HPB.out
  have HLEN := Lib.hid hlen
  have cl0 := called_any B 99 #[.pointer (some ⟨w.heap.size + 1, 0, none⟩)] (enters_of Try.func99 (by kernel_rfl) rfl) (nmF l) (fun x => 0 ≤ x ∧ x < (l.length : Int)) A1 A2 A3 c1 c2 c3 c w5 hl1 hl2 hl3 (by rw [hlen]; exact HIN.out) (by rw [hlen]; exact fun x hx => op_rng (HOP.out x hx)) (by rw [hlen]; exact HOU.out) (by omega) (H.out.below' HB5.out hB)
    (by
      intro W x hW hx
      have e : (#[Value.int .i64 x] ++ #[.pointer (some ⟨w.heap.size + 1, 0, none⟩)] : Array Value) = #[.int .i64 x, .pointer (some ⟨w.heap.size + 1, 0, none⟩)] := rfl
      rw [e]
      exact nameOf_any (w.heap.size + 1) B AL cl l x W hx.1 hx.2 ((hW.cell (p := ⟨w.heap.size + 1, 0, none⟩) (by simp only []; omega)).trans y0) ((HL.out.below' HB5.out hB).below' hW (by omega)))
  rw [HR.out] at cl0
  have CL := Lib.hid cl0
  clear cl0 hlen
  go_wp2_with fail
  go_at_call 98
  refine CL.out.mono ?_
  rintro e w6 ⟨E1, E2, E3, e1, e2, e3, rfl, hown, hb6⟩
  have Q6 := Lib.hid ((hb6.block (w.heap.size + 2) (by omega)).trans Q5.out)
  have HB6 := Lib.hid (HB5.out.trans (hb6.mono HB5.out.size))
  have OWN := Lib.hid hown
  clear t0 t1 t2 t3 g0 g1 g2 g3 hown hb6
  obtain ⟨t0, t1, t2, t3, g0, g1, g2, g3⟩ := cells4n Q6.out
  go_wp2
  refine bodyPost_ret (v := .tuple #[.agg #[.int .i64 (R : Int), .slice E1 c.i.length e1, .slice E2 c.ops.length e2, .slice E3 c.o.length e3], .bool true]) (by simp [results, Try.results52, go_sem, t0, t1, t2, t3]) rfl ⟨E1, E2, E3, e1, e2, e3, ?_, ?_, ?_⟩
  · rw [ER.out, EB.out, HR.out]
    simp only [rnC, List.length_map]
  · rw [ER.out, HR.out]
    obtain ⟨o1, o2, o3, o4⟩ := OwC.base OWN.out (show w.heap.size ≤ w5.heap.size by omega)
    exact ⟨own_set4 o1 Q6.out (by decide) _ _ _ _, own_set4 o2 Q6.out (by decide) _ _ _ _, own_set4 o3 Q6.out (by decide) _ _ _ _, o4⟩
  · exact (((HB6.out.setCell (by simp only []; omega) _).setCell (by simp only []; omega) _).setCell (by simp only []; omega) _).setCell (by simp only []; omega) _
end Go.Proofs.Ytbbjgcagkmlngaa
