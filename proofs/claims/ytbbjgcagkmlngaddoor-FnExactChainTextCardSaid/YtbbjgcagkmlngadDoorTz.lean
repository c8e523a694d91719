/- Texts of lists of numbers, by the program. -/
import Derived.Test.YtbbjgcagkmlngadDoorTy
import Derived.Test.YtbbjgcagkmlngadDoorZa
import Derived.Test.YtbbjgcagkmlngadDoorZb
import Derived.Test.YtbbjgcagkmlngadDoorFa
import Derived.Lib.AppendIntMem
namespace Go.Proofs.YtbbjgcagkmlngadDoor
open Go.RowKit

/-- A text as a value. -/
def sv (l : List UInt8) : Value := .string ⟨l.toArray⟩
/-- An own slice of texts. -/
def OwT (w : World) (B : Nat) (v : Value) (ts : List (List UInt8)) : Prop := w.ownsRow B 9 1 v ts.length (ts.map sv)
/-- What the library's numerals read. -/
def Tab (w : World) : Prop := Lib.TabIs Tryd.prog w "internal/strconv.uint64pow10" .u64 Lib.pow10Tab
theorem Tab.on {w w' : World} (h : Tab w) (hb : Below w.heap.size w w') : Tab w' := Lib.tabBelow_of_tabIs h w' hb
theorem info_str : (Tryd.prog.info? 9).map (fun i => (i.zero, i.size, i.bytes)) = some (some (.string ⟨#[]⟩), 1, 16) := by kernel_rfl

theorem itoa_any (n : Nat) (w : World) (hn : n ≤ 1000000) (hT : Tab w) : Calls Tryd.prog 51 #[.int .i64 (n : Int)] w fun e w' => e = .returned (.string ⟨(Lib.decDigits n).toArray⟩) ∧ Below w.heap.size w w' := by
  refine (sh_strconv_Itoa (n : Int) (by omega) (by omega) w hT).mono ?_
  rintro e w' ⟨rfl, k, os, rfl⟩
  exact ⟨by rw [Lib.itoa_nonneg], Lib.below_grow _ _ (Nat.le_refl _) _ _⟩
theorem join_any (B : Nat) (A : Option Addr) (c : Nat) (ts : List (List UInt8)) (sep : List UInt8) (w : World) (h : OwT w B (.slice A ts.length c) ts) (hlen : (Lib.join ts sep).length ≤ 140737488355328) (hts : ts.length ≤ 1000000) :
    Calls Tryd.prog 28 #[.slice A ts.length c, .string ⟨sep.toArray⟩] w fun e w' => e = .returned (.string ⟨(Lib.join ts sep).toArray⟩) ∧ Below w.heap.size w w' := by
  by_cases h0 : ts = []
  · subst h0
    refine (sh_strings_Join_none A c ⟨sep.toArray⟩ w).mono ?_
    rintro e w' ⟨rfl, rfl⟩
    exact ⟨rfl, Below.refl _ _⟩
  · have hpos : 0 < ts.length := List.length_pos_iff.2 h0
    obtain ⟨A', c', e0, hc⟩ := own_form h
    injection e0 with e1 _ e2
    subst e2
    obtain ⟨g, rfl, _, hg, hcell, _⟩ := own_at h hpos
    have hx : ∀ (j : Nat) x, (ts.map fun l => (⟨l.toArray⟩ : ByteArray))[j]? = some x → w.cell? ⟨g, 0 + j, none⟩ = some (.string x) := by
      intro j x hj
      have hjl : j < ts.length := by have := (List.getElem?_eq_some_iff.1 hj).1; simpa using this
      rw [Nat.zero_add, hcell j (by omega)]
      rw [List.getElem?_map, List.getElem?_eq_getElem hjl] at hj ⊢
      simp only [Option.map_some, Option.some.injEq] at hj ⊢
      rw [← hj]
      rfl
    have hmap : ((ts.map fun l => (⟨l.toArray⟩ : ByteArray)).map (·.data.toList)) = ts := by
      rw [List.map_map]
      exact List.map_id'' (fun _ => rfl) ts
    have hJ := sh_strings_Join g 0 c (ts.map fun l => (⟨l.toArray⟩ : ByteArray)) ⟨sep.toArray⟩ w hx hg (by simp; omega) (by simpa using hc) (by rw [hmap]; exact hlen)
    rw [hmap, List.length_map] at hJ
    exact hJ
end Go.Proofs.YtbbjgcagkmlngadDoor
