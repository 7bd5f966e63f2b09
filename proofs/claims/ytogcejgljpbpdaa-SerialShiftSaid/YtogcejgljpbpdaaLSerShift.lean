/-
  The walk of SerialShift.
-/
import Derived.Test.YtogcejgljpbpdaaSerWorks
import Derived.Test.YtogcejgljpbpdaaBase
namespace Go.Proofs.Ytogcejgljpbpdaa
open Go.RowKit
set_option linter.unusedVariables false

theorem shift_sub (m a b k : Int) : ((b + k) % m - (a + k) % m) % m = (b - a) % m := by
  rw [Int.emod_sub_emod, Int.sub_emod_emod]
  congr 1
  omega
theorem les_shift (m h a b k : Int) : les m h ((a + k) % m) ((b + k) % m) = les m h a b := by unfold les; rw [shift_sub]
theorem ahd_shift (m a b k : Int) : ahd m ((a + k) % m) ((b + k) % m) = ahd m a b := by unfold ahd; rw [shift_sub]
theorem inn_shift (m a b k wd : Int) : inn m ((a + k) % m) ((b + k) % m) wd = inn m a b wd := by unfold inn; rw [shift_sub]
theorem mx_shift (m h a b k : Int) : mx m h ((a + k) % m) ((b + k) % m) = (mx m h a b + k) % m := by
  unfold mx
  rw [les_shift]
  split <;> rfl

set_option maxHeartbeats 1600000 in
theorem serialShift_walk (a b k wd : Int) (w : World) (ha0 : (Lit.int .u32 a).wf = true) (hb0 : (Lit.int .u32 b).wf = true) (hk0 : (Lit.int .u32 k).wf = true) (hw0 : (Lit.int .i64 wd).wf = true) :
    Calls Try.prog 8 #[.agg #[.int .u32 a, .int .u32 b, .int .u32 k, .int .i64 wd]] w fun e w' => e = .returned (.bool true) ∧ Below w.heap.size w w' := by
  have ha : 0 ≤ a ∧ a ≤ 4294967295 := by simp [Lit.wf, IntKind.min, IntKind.max, IntKind.signed, IntKind.bits] at ha0; omega
  have hb : 0 ≤ b ∧ b ≤ 4294967295 := by simp [Lit.wf, IntKind.min, IntKind.max, IntKind.signed, IntKind.bits] at hb0; omega
  have hk : 0 ≤ k ∧ k ≤ 4294967295 := by simp [Lit.wf, IntKind.min, IntKind.max, IntKind.signed, IntKind.bits] at hk0; omega
  have hw : -9223372036854775808 ≤ wd ∧ wd ≤ 9223372036854775807 := by simp [Lit.wf, IntKind.min, IntKind.max, IntKind.signed, IntKind.bits] at hw0; omega
  clear ha0 hb0 hk0 hw0
  have hA : 0 ≤ ((a + k) % 4294967296) ∧ ((a + k) % 4294967296) ≤ 4294967295 := by omega
  have hB : 0 ≤ ((b + k) % 4294967296) ∧ ((b + k) % 4294967296) ≤ 4294967295 := by omega
  have hc : 0 ≤ (a % 65536) ∧ (a % 65536) ≤ 65535 := by omega
  have hd : 0 ≤ (b % 65536) ∧ (b % 65536) ≤ 65535 := by omega
  have hC : 0 ≤ (IntKind.u16.wrap (a % 65536 + k % 65536)) ∧ (IntKind.u16.wrap (a % 65536 + k % 65536)) ≤ 65535 := by rw [wrap16]; omega
  have hD : 0 ≤ (IntKind.u16.wrap (b % 65536 + k % 65536)) ∧ (IntKind.u16.wrap (b % 65536 + k % 65536)) ≤ 65535 := by rw [wrap16]; omega
  have c1 := fun W => less_32 ((a + k) % 4294967296) ((b + k) % 4294967296) W hA hB
  have c2 := fun W => less_32 a b W ha hb
  have c3 := fun W => ahead_32 ((a + k) % 4294967296) ((b + k) % 4294967296) W hA hB
  have c4 := fun W => ahead_32 a b W ha hb
  have c5 := fun W => in_32 ((a + k) % 4294967296) ((b + k) % 4294967296) wd W hA hB hw
  have c6 := fun W => in_32 a b wd W ha hb hw
  have c7 := fun W => max_32 ((a + k) % 4294967296) ((b + k) % 4294967296) W hA hB
  have c8 := fun W => max_32 a b W ha hb
  rw [les_shift] at c1
  rw [ahd_shift] at c3
  rw [inn_shift] at c5
  rw [mx_shift] at c7
  have d1 := fun W => less_16 (IntKind.u16.wrap (a % 65536 + k % 65536)) (IntKind.u16.wrap (b % 65536 + k % 65536)) W hC hD
  have d2 := fun W => less_16 (a % 65536) (b % 65536) W hc hd
  have d3 := fun W => ahead_16 (IntKind.u16.wrap (a % 65536 + k % 65536)) (IntKind.u16.wrap (b % 65536 + k % 65536)) W hC hD
  have d4 := fun W => ahead_16 (a % 65536) (b % 65536) W hc hd
  have d5 := fun W => in_16 (IntKind.u16.wrap (a % 65536 + k % 65536)) (IntKind.u16.wrap (b % 65536 + k % 65536)) wd W hC hD hw
  have d6 := fun W => in_16 (a % 65536) (b % 65536) wd W hc hd hw
  rw [show les 65536 32768 (IntKind.u16.wrap (a % 65536 + k % 65536)) (IntKind.u16.wrap (b % 65536 + k % 65536)) = les 65536 32768 (a % 65536) (b % 65536) from les_shift _ _ _ _ _] at d1
  rw [show ahd 65536 (IntKind.u16.wrap (a % 65536 + k % 65536)) (IntKind.u16.wrap (b % 65536 + k % 65536)) = ahd 65536 (a % 65536) (b % 65536) from ahd_shift _ _ _ _] at d3
  rw [show inn 65536 (IntKind.u16.wrap (a % 65536 + k % 65536)) (IntKind.u16.wrap (b % 65536 + k % 65536)) wd = inn 65536 (a % 65536) (b % 65536) wd from inn_shift _ _ _ _ _] at d5
  have hm : 0 ≤ mx 4294967296 2147483648 a b ∧ mx 4294967296 2147483648 a b ≤ 4294967295 := by unfold mx; split <;> assumption
  generalize mx 4294967296 2147483648 a b = M at *
  generalize les 4294967296 2147483648 a b = l1 at *
  generalize les 65536 32768 (a % 65536) (b % 65536) = l2 at *
  generalize ahd 4294967296 a b = x1 at *
  generalize ahd 65536 (a % 65536) (b % 65536) = x2 at *
  generalize inn 4294967296 a b wd = y1 at *
  generalize inn 65536 (a % 65536) (b % 65536) wd = y2 at *
  have wk := works_any
  go_enter Try.func8, Try.ntmps8
  go_wp2_with fail
  refine (c1 _).mono ?_
  rintro e w' ⟨rfl, rfl⟩
  go_wp2_with fail
  refine (c2 _).mono ?_
  rintro e w' ⟨rfl, rfl⟩
  go_wp2_with fail
  refine (c3 _).mono ?_
  rintro e w' ⟨rfl, rfl⟩
  go_wp2_with fail
  refine (c4 _).mono ?_
  rintro e w' ⟨rfl, rfl⟩
  go_wp2_with fail
  refine (c5 _).mono ?_
  rintro e w' ⟨rfl, rfl⟩
  go_wp2_with fail
  refine (c6 _).mono ?_
  rintro e w' ⟨rfl, rfl⟩
  go_wp2_with fail
  refine (c7 _).mono ?_
  rintro e w' ⟨rfl, rfl⟩
  go_wp2_with fail
  refine (c8 _).mono ?_
  rintro e w' ⟨rfl, rfl⟩
  go_wp2_with fail
  refine (d1 _).mono ?_
  rintro e w' ⟨rfl, rfl⟩
  go_wp2_with fail
  refine (d2 _).mono ?_
  rintro e w' ⟨rfl, rfl⟩
  go_wp2_with fail
  refine (d3 _).mono ?_
  rintro e w' ⟨rfl, rfl⟩
  go_wp2_with fail
  refine (d4 _).mono ?_
  rintro e w' ⟨rfl, rfl⟩
  go_wp2_with fail
  refine (d5 _).mono ?_
  rintro e w' ⟨rfl, rfl⟩
  go_wp2_with fail
  refine (d6 _).mono ?_
  rintro e w' ⟨rfl, rfl⟩
  go_wp2_with fail
  refine (wk _).mono ?_
  rintro e w' ⟨rfl, rfl⟩
  go_wp2_with fail
  go_ret
  exact ⟨rfl, (Below.refl _ _).alloc (Nat.le_refl _) _⟩
end Go.Proofs.Ytogcejgljpbpdaa
