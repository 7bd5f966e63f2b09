/-
  The walk of SpansNil; what every walk of this stage begins with.
-/
import Derived.Test.YtjdkbcecnlfhjaaSpWorks
import Derived.Test.YtjdkbcecnlfhjaaFrame
namespace Go.Proofs.Ytjdkbcecnlfhjaa
open Go.RowKit
set_option linter.unusedVariables false

theorem IsRow.u32s {w : World} {a : Option Addr} {len cap : Nat} {zs : List Int} (h : IsRow .u32 w a len cap zs) : U32s w a len (zs.take len) ∧ len ≤ cap := by
  rcases h with ⟨rfl, rfl, rfl, rfl⟩ | ⟨x, rfl, hl, hm, hz, hc, hw⟩
  · exact ⟨⟨rfl, by omega, by intro z hz; simp at hz, by intro i z hz; simp at hz⟩, Nat.le_refl _⟩
  · refine ⟨⟨by simp; omega, by unfold maxLen at hm; omega, ?_, ?_⟩, hl⟩
    · intro z hz'
      exact wf_u32_in (hw z (List.mem_of_mem_take hz'))
    · intro i z hi
      have hi1 : i < (zs.take len).length := (List.getElem?_eq_some_iff.1 hi).1
      have hi2 : i < zs.length := by simp at hi1; omega
      have h1 := hc i hi2
      rw [List.getElem?_take] at hi
      split at hi
      · have hv : zs.getD i 0 = z := by simp [hi]
        rw [hv] at h1
        obtain ⟨b, off, spot⟩ := x
        have hspot : spot = none := by simpa [Addr.add] using World.cell?_spot (hc 0 (by omega))
        subst hspot
        have hadd : (⟨b, off, none⟩ : Addr).add i = ⟨b, off + i, none⟩ := by unfold Addr.add; split <;> simp_all
        rw [hadd] at h1
        exact ⟨b, off, rfl, World.block_lt_of_cell? w _ h1, h1⟩
      · cases hi

set_option maxHeartbeats 800000 in
theorem spansNil_walk (x n : Int) (w : World) (wx : (Lit.int .u32 x).wf = true) (wn : (Lit.int .i64 n).wf = true) :
    Calls Try.prog 9 #[.int .u32 x, .int .i64 n] w fun e w' => e = .returned (.bool true) ∧ Below w.heap.size w w' := by
  clear wx wn
  go_enter Try.func9, Try.ntmps9
  go_wp2_with fail
  refine (base_nil w).mono ?_
  rintro e w' ⟨rfl, rfl⟩
  go_wp2_with fail
  refine (add_nil w x).mono ?_
  rintro e w' ⟨rfl, rfl⟩
  go_wp2_with fail
  refine (has_nil w x).mono ?_
  rintro e w' ⟨rfl, rfl⟩
  go_wp2_with fail
  refine (count_nil w).mono ?_
  rintro e w' ⟨rfl, rfl⟩
  go_wp2_with fail
  refine (last_nil w).mono ?_
  rintro e w' ⟨rfl, rfl⟩
  go_wp2_with fail
  refine (settle_nil w).mono ?_
  rintro e w' ⟨rfl, rfl⟩
  go_wp2_with fail
  refine (move_nil w x).mono ?_
  rintro e w' ⟨rfl, rfl⟩
  go_wp2_with fail
  refine (gaps_nil w n).mono ?_
  rintro e w' ⟨rfl, rfl⟩
  go_wp2_with fail
  refine (works_any w).mono ?_
  rintro e w1 ⟨rfl, ht⟩
  have HT := Lib.hid ht
  clear ht
  go_wp2
  go_ret
  exact ⟨rfl, HT.out.below (Nat.le_refl _) (by simp)⟩
end Go.Proofs.Ytjdkbcecnlfhjaa
