/-
  The walk of SerialThrough.
-/
import Derived.Test.YtogcejgljpbpdaaSerWorks
namespace Go.Proofs.Ytogcejgljpbpdaa
open Go.RowKit
set_option linter.unusedVariables false

theorem serialThrough_walk (a p q : Int) (w : World) (ha0 : (Lit.int .u32 a).wf = true) (hp0 : (Lit.int .u32 p).wf = true) (hq0 : (Lit.int .u32 q).wf = true) :
    Calls Try.prog 9 #[.int .u32 a, .int .u32 p, .int .u32 q] w fun e w' => e = .returned (.bool true) ∧ w = w' := by
  have ha : 0 ≤ a ∧ a ≤ 4294967295 := by simp [Lit.wf, IntKind.min, IntKind.max, IntKind.signed, IntKind.bits] at ha0; omega
  have hp : 0 ≤ p ∧ p ≤ 4294967295 := by simp [Lit.wf, IntKind.min, IntKind.max, IntKind.signed, IntKind.bits] at hp0; omega
  have hq : 0 ≤ q ∧ q ≤ 4294967295 := by simp [Lit.wf, IntKind.min, IntKind.max, IntKind.signed, IntKind.bits] at hq0; omega
  clear ha0 hp0 hq0
  have hb : 0 ≤ (a + p) % 4294967296 ∧ (a + p) % 4294967296 ≤ 4294967295 := by omega
  have hc : 0 ≤ (a + p + q) % 4294967296 ∧ (a + p + q) % 4294967296 ≤ 4294967295 := by omega
  have c1 := fun W => ahead_32 a ((a + p) % 4294967296) W ha hb
  have c2 := fun W => ahead_32 ((a + p) % 4294967296) ((a + p + q) % 4294967296) W hb hc
  have c3 := fun W => ahead_32 a ((a + p + q) % 4294967296) W ha hc
  rw [show ahd 4294967296 a ((a + p) % 4294967296) = p from by unfold ahd; omega] at c1
  rw [show ahd 4294967296 ((a + p) % 4294967296) ((a + p + q) % 4294967296) = q from by unfold ahd; omega] at c2
  rw [show ahd 4294967296 a ((a + p + q) % 4294967296) = (p + q) % 4294967296 from by unfold ahd; omega] at c3
  have w1 := works_any
  go_enter Try.func9, Try.ntmps9
  go_wp2_with fail
  refine (c1 _).mono ?_
  rintro e w' ⟨rfl, rfl⟩
  go_wp2_with fail
  refine (c2 _).mono ?_
  rintro e w' ⟨rfl, rfl⟩
  go_wp2_with fail
  refine (c3 _).mono ?_
  rintro e w' ⟨rfl, rfl⟩
  clear c1 c2 c3
  by_cases h1 : p = 0 ∨ q = 0 ∨ 2147483648 ≤ p + q
  · go_wp2_with fail
    all_goals
      refine (w1 _).mono ?_
      rintro e w' ⟨rfl, rfl⟩
      go_wp2
      go_ret
      exact ⟨rfl, rfl⟩
  · have h2 : 0 < p := by omega
    have h3 : 0 < q := by omega
    have h4 : p + q < 2147483648 := by omega
    have h5 : (p == 0) = false := by simp; omega
    have h6 : (q == 0) = false := by simp; omega
    have l1 : les 4294967296 2147483648 a ((a + p) % 4294967296) = true := by rw [les_iff]; omega
    have l2 : les 4294967296 2147483648 ((a + p) % 4294967296) ((a + p + q) % 4294967296) = true := by rw [les_iff]; omega
    have l3 : les 4294967296 2147483648 a ((a + p + q) % 4294967296) = true := by rw [les_iff]; omega
    have d1 := fun W => less_32 a ((a + p) % 4294967296) W ha hb
    have d2 := fun W => less_32 ((a + p) % 4294967296) ((a + p + q) % 4294967296) W hb hc
    have d3 := fun W => less_32 a ((a + p + q) % 4294967296) W ha hc
    have e1 := fun W => max_32 a ((a + p) % 4294967296) W ha hb
    have e2 := fun W => max_32 ((a + p) % 4294967296) ((a + p + q) % 4294967296) W hb hc
    rw [show mx 4294967296 2147483648 a ((a + p) % 4294967296) = ((a + p) % 4294967296) from if_pos l1] at e1
    rw [show mx 4294967296 2147483648 ((a + p) % 4294967296) ((a + p + q) % 4294967296) = ((a + p + q) % 4294967296) from if_pos l2] at e2
    rw [l1] at d1
    rw [l2] at d2
    rw [l3] at d3
    clear l1 l2 l3 h1
    go_wp2_with fail
    refine (d1 _).mono ?_
    rintro e w' ⟨rfl, rfl⟩
    go_wp2_with fail
    refine (d2 _).mono ?_
    rintro e w' ⟨rfl, rfl⟩
    go_wp2_with fail
    refine (d3 _).mono ?_
    rintro e w' ⟨rfl, rfl⟩
    go_wp2_with fail
    refine (e1 _).mono ?_
    rintro e w' ⟨rfl, rfl⟩
    go_wp2_with fail
    refine (e2 _).mono ?_
    rintro e w' ⟨rfl, rfl⟩
    go_wp2_with fail
    refine (w1 _).mono ?_
    rintro e w' ⟨rfl, rfl⟩
    go_wp2
    go_ret
    exact ⟨rfl, rfl⟩
end Go.Proofs.Ytogcejgljpbpdaa
