/-
  Contracts of package serial's functions and of the document's own answers, as functions on integers.
-/
import Derived.Test.YtogcejgljpbpdaaChecked
import Derived.WalkKit
import Derived.WalkSpells
import Derived.WalkSmall
import Derived.Handy
import Derived.BigQuiet
import Derived.Deep.QuietTactic
import Derived.Outline
import Derived.Lib.Hide
namespace Go.Proofs.Ytogcejgljpbpdaa
set_option linter.unusedVariables false
open Go.RowKit

/-- How far b is ahead of a, where numbers begin again at m. -/
def ahd (m a b : Int) : Int := (b - a) % m
/-- Is b ahead of a by less than the half h? -/
def les (m h a b : Int) : Bool := decide (1 ≤ (b - a) % m) && decide ((b - a) % m < h)
/-- The later one of both. -/
def mx (m h a b : Int) : Int := if les m h a b = true then b else a
/-- Is x behind base by at most the width? -/
def inn (m x base width : Int) : Bool := decide (1 ≤ (x - base) % m) && decide ((x - base) % m ≤ width)

theorem les_iff (m h a b : Int) : les m h a b = true ↔ (1 ≤ (b - a) % m ∧ (b - a) % m < h) := by unfold les; simp
theorem ret_bool {x y : Bool} (h : x = true ↔ y = true) : Ending.returned (Value.bool x) = Ending.returned (Value.bool y) := by rw [Bool.eq_iff_iff.2 h]
theorem xor32 : bits .xor .u32 IntKind.u32.max 0 = 4294967295 := by decide +kernel
theorem xor16 : bits .xor .u16 IntKind.u16.max 0 = 65535 := by decide +kernel
theorem wrap16 (n : Int) : IntKind.u16.wrap n = n % 65536 := rfl
theorem wrap64 (n : Int) (h0 : 0 ≤ n) (h1 : n ≤ 18446744073709551615) : IntKind.u64.wrap n = n := by
  show n % 18446744073709551616 = n
  omega
theorem inn_iff (m x b wd : Int) : inn m x b wd = true ↔ (1 ≤ (x - b) % m ∧ (x - b) % m ≤ wd) := by unfold inn; simp

theorem rahead_32 (a : Int) (b : Int) (w : World) (ha : 0 ≤ a ∧ a ≤ 4294967295) (hb : 0 ≤ b ∧ b ≤ 4294967295) :
    Calls Try.prog 11 #[.int .u32 a, .int .u32 b] w fun e w' => e = .returned (.int .u32 (ahd 4294967296 a b)) ∧ w = w' := by
  go_enter Try.func11, Try.ntmps11
  go_wp2
  go_ret
  exact ⟨rfl, rfl⟩

theorem rless_32 (a : Int) (b : Int) (w : World) (ha : 0 ≤ a ∧ a ≤ 4294967295) (hb : 0 ≤ b ∧ b ≤ 4294967295) :
    Calls Try.prog 18 #[.int .u32 a, .int .u32 b] w fun e w' => e = .returned (.bool (les 4294967296 2147483648 a b)) ∧ w = w' := by
  go_enter Try.func18, Try.ntmps18
  go_wp2
  all_goals
    go_ret
    refine ⟨ret_bool ?_, rfl⟩
    simp [les]
    skip
    try omega

theorem rmax_32 (a : Int) (b : Int) (w : World) (ha : 0 ≤ a ∧ a ≤ 4294967295) (hb : 0 ≤ b ∧ b ≤ 4294967295) :
    Calls Try.prog 24 #[.int .u32 a, .int .u32 b] w fun e w' => e = .returned (.int .u32 (mx 4294967296 2147483648 a b)) ∧ w = w' := by
  have hl := rless_32 a b w ha hb
  by_cases h1 : les 4294967296 2147483648 a b = true
  · have hm : mx 4294967296 2147483648 a b = a ∨ mx 4294967296 2147483648 a b = b := by unfold mx; split <;> simp
    have e1 : mx 4294967296 2147483648 a b = b := by unfold mx; rw [if_pos h1]
    rw [e1]
    clear e1 hm
    go_enter Try.func24, Try.ntmps24
    go_wp2_with fail
    refine hl.mono ?_
    rintro e w' ⟨rfl, rfl⟩
    rw [h1]
    go_wp2
    go_ret
    exact ⟨rfl, rfl⟩
  · have e1 : mx 4294967296 2147483648 a b = a := by unfold mx; rw [if_neg h1]
    rw [e1]
    clear e1
    go_enter Try.func24, Try.ntmps24
    go_wp2_with fail
    refine hl.mono ?_
    rintro e w' ⟨rfl, rfl⟩
    rw [Bool.eq_false_iff.2 h1]
    go_wp2
    go_ret
    exact ⟨rfl, rfl⟩

theorem rin_32 (x : Int) (base : Int) (wd : Int) (w : World) (hx : 0 ≤ x ∧ x ≤ 4294967295) (hbase : 0 ≤ base ∧ base ≤ 4294967295) (hwd : -9223372036854775808 ≤ wd ∧ wd ≤ 9223372036854775807) :
    Calls Try.prog 30 #[.int .u32 x, .int .u32 base, .int .i64 wd] w fun e w' => e = .returned (.bool (inn 4294967296 x base wd)) ∧ w = w' := by
  by_cases h1 : x = base
  · have e1 : inn 4294967296 x base wd = false := by unfold inn; subst h1; simp
    rw [e1]
    clear e1
    go_enter Try.func30, Try.ntmps30
    go_wp2
    go_ret
    exact ⟨rfl, rfl⟩
  · by_cases h2 : 0 < wd
    · have e1 : inn 4294967296 x base wd = decide ((x - base) % 4294967296 ≤ wd) := by
        unfold inn
        have : 1 ≤ (x - base) % 4294967296 := by omega
        simp [this]
      rw [e1]
      clear e1
      have hn : (x != base) = true := by simpa using h1
      have hr : 0 ≤ (x - base) % 4294967296 ∧ (x - base) % 4294967296 ≤ 4294967295 := by omega
      go_enter Try.func30, Try.ntmps30
      go_wp2
      go_ret
      refine ⟨?_, rfl⟩
      skip
      have hw := wrap64 _ hr.1 (Int.le_trans hr.2 (by decide))
      simp 
    · have e1 : inn 4294967296 x base wd = false := by
        unfold inn
        have : ¬ ((x - base) % 4294967296 ≤ wd ∧ 1 ≤ (x - base) % 4294967296) := by omega
        simp
        omega
      rw [e1]
      clear e1
      go_enter Try.func30, Try.ntmps30
      go_wp2
      go_ret
      exact ⟨rfl, rfl⟩

theorem ahead_32 (a : Int) (b : Int) (w : World) (ha : 0 ≤ a ∧ a ≤ 4294967295) (hb : 0 ≤ b ∧ b ≤ 4294967295) :
    Calls Try.prog 10 #[.int .u32 a, .int .u32 b] w fun e w' => e = .returned (.int .u32 (ahd 4294967296 a b)) ∧ w = w' := by
  go_enter Try.func10, Try.ntmps10
  go_wp2
  go_ret
  exact ⟨rfl, rfl⟩

theorem less_32 (a : Int) (b : Int) (w : World) (ha : 0 ≤ a ∧ a ≤ 4294967295) (hb : 0 ≤ b ∧ b ≤ 4294967295) :
    Calls Try.prog 17 #[.int .u32 a, .int .u32 b] w fun e w' => e = .returned (.bool (les 4294967296 2147483648 a b)) ∧ w = w' := by
  have ha0 := ahead_32 a b w ha hb
  have hr : 0 ≤ ahd 4294967296 a b ∧ ahd 4294967296 a b ≤ 4294967295 := by unfold ahd; omega
  have el : les 4294967296 2147483648 a b = (decide (1 ≤ ahd 4294967296 a b) && decide (ahd 4294967296 a b ≤ 2147483647)) := by
    unfold les ahd
    rw [Bool.eq_iff_iff]; simp; omega
  rw [el]
  clear el
  generalize ahd 4294967296 a b = d at *
  have hsg : IntKind.u32.signed = false := rfl
  go_enter Try.func17, Try.ntmps17
  go_wp2_with fail
  refine ha0.mono ?_
  rintro e w' ⟨rfl, rfl⟩
  go_wp2
  all_goals
    go_ret
    refine ⟨?_, rfl⟩
    try rw [xor32]
    simp
    try omega

theorem max_32 (a : Int) (b : Int) (w : World) (ha : 0 ≤ a ∧ a ≤ 4294967295) (hb : 0 ≤ b ∧ b ≤ 4294967295) :
    Calls Try.prog 23 #[.int .u32 a, .int .u32 b] w fun e w' => e = .returned (.int .u32 (mx 4294967296 2147483648 a b)) ∧ w = w' := by
  have hl := less_32 a b w ha hb
  by_cases h1 : les 4294967296 2147483648 a b = true
  · have e1 : mx 4294967296 2147483648 a b = b := by unfold mx; rw [if_pos h1]
    rw [e1]
    clear e1
    go_enter Try.func23, Try.ntmps23
    go_wp2_with fail
    refine hl.mono ?_
    rintro e w' ⟨rfl, rfl⟩
    rw [h1]
    go_wp2
    go_ret
    exact ⟨rfl, rfl⟩
  · have e1 : mx 4294967296 2147483648 a b = a := by unfold mx; rw [if_neg h1]
    rw [e1]
    clear e1
    go_enter Try.func23, Try.ntmps23
    go_wp2_with fail
    refine hl.mono ?_
    rintro e w' ⟨rfl, rfl⟩
    rw [Bool.eq_false_iff.2 h1]
    go_wp2
    go_ret
    exact ⟨rfl, rfl⟩

theorem in_32 (x : Int) (base : Int) (wd : Int) (w : World) (hx : 0 ≤ x ∧ x ≤ 4294967295) (hbase : 0 ≤ base ∧ base ≤ 4294967295) (hwd : -9223372036854775808 ≤ wd ∧ wd ≤ 9223372036854775807) :
    Calls Try.prog 29 #[.int .u32 x, .int .u32 base, .int .i64 wd] w fun e w' => e = .returned (.bool (inn 4294967296 x base wd)) ∧ w = w' := by
  have ha0 := ahead_32 base x w hbase hx
  have hr : 0 ≤ ahd 4294967296 base x ∧ ahd 4294967296 base x ≤ 4294967295 := by unfold ahd; omega
  have el : inn 4294967296 x base wd = (decide (1 ≤ ahd 4294967296 base x) && decide (ahd 4294967296 base x ≤ wd)) := rfl
  rw [el]
  clear el
  generalize ahd 4294967296 base x = d at *
  go_enter Try.func29, Try.ntmps29
  go_wp2_with fail
  refine ha0.mono ?_
  rintro e w' ⟨rfl, rfl⟩
  go_wp2
  all_goals
    go_ret
    refine ⟨?_, rfl⟩
    simp
    try omega

theorem ahead_T (a : Int) (b : Int) (w : World) (ha : 0 ≤ a ∧ a ≤ 4294967295) (hb : 0 ≤ b ∧ b ≤ 4294967295) :
    Calls Try.prog 12 #[.int .u32 a, .int .u32 b] w fun e w' => e = .returned (.int .u32 (ahd 4294967296 a b)) ∧ w = w' := by
  go_enter Try.func12, Try.ntmps12
  go_wp2
  go_ret
  exact ⟨rfl, rfl⟩

theorem less_T (a : Int) (b : Int) (w : World) (ha : 0 ≤ a ∧ a ≤ 4294967295) (hb : 0 ≤ b ∧ b ≤ 4294967295) :
    Calls Try.prog 19 #[.int .u32 a, .int .u32 b] w fun e w' => e = .returned (.bool (les 4294967296 2147483648 a b)) ∧ w = w' := by
  have ha0 := ahead_T a b w ha hb
  have hr : 0 ≤ ahd 4294967296 a b ∧ ahd 4294967296 a b ≤ 4294967295 := by unfold ahd; omega
  have el : les 4294967296 2147483648 a b = (decide (1 ≤ ahd 4294967296 a b) && decide (ahd 4294967296 a b ≤ 2147483647)) := by
    unfold les ahd
    rw [Bool.eq_iff_iff]; simp; omega
  rw [el]
  clear el
  generalize ahd 4294967296 a b = d at *
  have hsg : IntKind.u32.signed = false := rfl
  go_enter Try.func19, Try.ntmps19
  go_wp2_with fail
  refine ha0.mono ?_
  rintro e w' ⟨rfl, rfl⟩
  go_wp2
  all_goals
    go_ret
    refine ⟨?_, rfl⟩
    try rw [xor32]
    simp
    try omega

theorem max_T (a : Int) (b : Int) (w : World) (ha : 0 ≤ a ∧ a ≤ 4294967295) (hb : 0 ≤ b ∧ b ≤ 4294967295) :
    Calls Try.prog 25 #[.int .u32 a, .int .u32 b] w fun e w' => e = .returned (.int .u32 (mx 4294967296 2147483648 a b)) ∧ w = w' := by
  have hl := less_T a b w ha hb
  by_cases h1 : les 4294967296 2147483648 a b = true
  · have e1 : mx 4294967296 2147483648 a b = b := by unfold mx; rw [if_pos h1]
    rw [e1]
    clear e1
    go_enter Try.func25, Try.ntmps25
    go_wp2_with fail
    refine hl.mono ?_
    rintro e w' ⟨rfl, rfl⟩
    rw [h1]
    go_wp2
    go_ret
    exact ⟨rfl, rfl⟩
  · have e1 : mx 4294967296 2147483648 a b = a := by unfold mx; rw [if_neg h1]
    rw [e1]
    clear e1
    go_enter Try.func25, Try.ntmps25
    go_wp2_with fail
    refine hl.mono ?_
    rintro e w' ⟨rfl, rfl⟩
    rw [Bool.eq_false_iff.2 h1]
    go_wp2
    go_ret
    exact ⟨rfl, rfl⟩

theorem in_T (x : Int) (base : Int) (wd : Int) (w : World) (hx : 0 ≤ x ∧ x ≤ 4294967295) (hbase : 0 ≤ base ∧ base ≤ 4294967295) (hwd : -9223372036854775808 ≤ wd ∧ wd ≤ 9223372036854775807) :
    Calls Try.prog 31 #[.int .u32 x, .int .u32 base, .int .i64 wd] w fun e w' => e = .returned (.bool (inn 4294967296 x base wd)) ∧ w = w' := by
  have ha0 := ahead_T base x w hbase hx
  have hr : 0 ≤ ahd 4294967296 base x ∧ ahd 4294967296 base x ≤ 4294967295 := by unfold ahd; omega
  have el : inn 4294967296 x base wd = (decide (1 ≤ ahd 4294967296 base x) && decide (ahd 4294967296 base x ≤ wd)) := rfl
  rw [el]
  clear el
  generalize ahd 4294967296 base x = d at *
  go_enter Try.func31, Try.ntmps31
  go_wp2_with fail
  refine ha0.mono ?_
  rintro e w' ⟨rfl, rfl⟩
  go_wp2
  all_goals
    go_ret
    refine ⟨?_, rfl⟩
    simp
    try omega

theorem rahead_16 (a : Int) (b : Int) (w : World) (ha : 0 ≤ a ∧ a ≤ 65535) (hb : 0 ≤ b ∧ b ≤ 65535) :
    Calls Try.prog 14 #[.int .u16 a, .int .u16 b] w fun e w' => e = .returned (.int .u16 (ahd 65536 a b)) ∧ w = w' := by
  go_enter Try.func14, Try.ntmps14
  go_wp2
  go_ret
  exact ⟨rfl, rfl⟩

theorem rless_16 (a : Int) (b : Int) (w : World) (ha : 0 ≤ a ∧ a ≤ 65535) (hb : 0 ≤ b ∧ b ≤ 65535) :
    Calls Try.prog 21 #[.int .u16 a, .int .u16 b] w fun e w' => e = .returned (.bool (les 65536 32768 a b)) ∧ w = w' := by
  go_enter Try.func21, Try.ntmps21
  go_wp2
  all_goals
    go_ret
    refine ⟨ret_bool ?_, rfl⟩
    simp [les]
    try simp only [wrap16] at *
    try omega

theorem rmax_16 (a : Int) (b : Int) (w : World) (ha : 0 ≤ a ∧ a ≤ 65535) (hb : 0 ≤ b ∧ b ≤ 65535) :
    Calls Try.prog 27 #[.int .u16 a, .int .u16 b] w fun e w' => e = .returned (.int .u16 (mx 65536 32768 a b)) ∧ w = w' := by
  have hl := rless_16 a b w ha hb
  by_cases h1 : les 65536 32768 a b = true
  · have hm : mx 65536 32768 a b = a ∨ mx 65536 32768 a b = b := by unfold mx; split <;> simp
    have e1 : mx 65536 32768 a b = b := by unfold mx; rw [if_pos h1]
    rw [e1]
    clear e1 hm
    go_enter Try.func27, Try.ntmps27
    go_wp2_with fail
    refine hl.mono ?_
    rintro e w' ⟨rfl, rfl⟩
    rw [h1]
    go_wp2
    go_ret
    exact ⟨rfl, rfl⟩
  · have e1 : mx 65536 32768 a b = a := by unfold mx; rw [if_neg h1]
    rw [e1]
    clear e1
    go_enter Try.func27, Try.ntmps27
    go_wp2_with fail
    refine hl.mono ?_
    rintro e w' ⟨rfl, rfl⟩
    rw [Bool.eq_false_iff.2 h1]
    go_wp2
    go_ret
    exact ⟨rfl, rfl⟩

theorem rin_16 (x : Int) (base : Int) (wd : Int) (w : World) (hx : 0 ≤ x ∧ x ≤ 65535) (hbase : 0 ≤ base ∧ base ≤ 65535) (hwd : -9223372036854775808 ≤ wd ∧ wd ≤ 9223372036854775807) :
    Calls Try.prog 33 #[.int .u16 x, .int .u16 base, .int .i64 wd] w fun e w' => e = .returned (.bool (inn 65536 x base wd)) ∧ w = w' := by
  by_cases h1 : x = base
  · have e1 : inn 65536 x base wd = false := by unfold inn; subst h1; simp
    rw [e1]
    clear e1
    go_enter Try.func33, Try.ntmps33
    go_wp2
    go_ret
    exact ⟨rfl, rfl⟩
  · by_cases h2 : 0 < wd
    · have e1 : inn 65536 x base wd = decide ((x - base) % 65536 ≤ wd) := by
        unfold inn
        have : 1 ≤ (x - base) % 65536 := by omega
        simp [this]
      rw [e1]
      clear e1
      have hn : (x != base) = true := by simpa using h1
      have hr : 0 ≤ (x - base) % 65536 ∧ (x - base) % 65536 ≤ 65535 := by omega
      go_enter Try.func33, Try.ntmps33
      go_wp2
      go_ret
      refine ⟨?_, rfl⟩
      simp only [wrap16]
      have hw := wrap64 _ hr.1 (Int.le_trans hr.2 (by decide))
      simp [hw]
    · have e1 : inn 65536 x base wd = false := by
        unfold inn
        have : ¬ ((x - base) % 65536 ≤ wd ∧ 1 ≤ (x - base) % 65536) := by omega
        simp
        omega
      rw [e1]
      clear e1
      go_enter Try.func33, Try.ntmps33
      go_wp2
      go_ret
      exact ⟨rfl, rfl⟩

theorem ahead_16 (a : Int) (b : Int) (w : World) (ha : 0 ≤ a ∧ a ≤ 65535) (hb : 0 ≤ b ∧ b ≤ 65535) :
    Calls Try.prog 13 #[.int .u16 a, .int .u16 b] w fun e w' => e = .returned (.int .u16 (ahd 65536 a b)) ∧ w = w' := by
  go_enter Try.func13, Try.ntmps13
  go_wp2
  go_ret
  exact ⟨rfl, rfl⟩

theorem less_16 (a : Int) (b : Int) (w : World) (ha : 0 ≤ a ∧ a ≤ 65535) (hb : 0 ≤ b ∧ b ≤ 65535) :
    Calls Try.prog 20 #[.int .u16 a, .int .u16 b] w fun e w' => e = .returned (.bool (les 65536 32768 a b)) ∧ w = w' := by
  have ha0 := ahead_16 a b w ha hb
  have hr : 0 ≤ ahd 65536 a b ∧ ahd 65536 a b ≤ 65535 := by unfold ahd; omega
  have el : les 65536 32768 a b = (decide (1 ≤ ahd 65536 a b) && decide (ahd 65536 a b ≤ 32767)) := by
    unfold les ahd
    rw [Bool.eq_iff_iff]; simp; omega
  rw [el]
  clear el
  generalize ahd 65536 a b = d at *
  have hsg : IntKind.u16.signed = false := rfl
  go_enter Try.func20, Try.ntmps20
  go_wp2_with fail
  refine ha0.mono ?_
  rintro e w' ⟨rfl, rfl⟩
  go_wp2
  all_goals
    go_ret
    refine ⟨?_, rfl⟩
    try rw [xor16]
    simp
    try omega

theorem max_16 (a : Int) (b : Int) (w : World) (ha : 0 ≤ a ∧ a ≤ 65535) (hb : 0 ≤ b ∧ b ≤ 65535) :
    Calls Try.prog 26 #[.int .u16 a, .int .u16 b] w fun e w' => e = .returned (.int .u16 (mx 65536 32768 a b)) ∧ w = w' := by
  have hl := less_16 a b w ha hb
  by_cases h1 : les 65536 32768 a b = true
  · have e1 : mx 65536 32768 a b = b := by unfold mx; rw [if_pos h1]
    rw [e1]
    clear e1
    go_enter Try.func26, Try.ntmps26
    go_wp2_with fail
    refine hl.mono ?_
    rintro e w' ⟨rfl, rfl⟩
    rw [h1]
    go_wp2
    go_ret
    exact ⟨rfl, rfl⟩
  · have e1 : mx 65536 32768 a b = a := by unfold mx; rw [if_neg h1]
    rw [e1]
    clear e1
    go_enter Try.func26, Try.ntmps26
    go_wp2_with fail
    refine hl.mono ?_
    rintro e w' ⟨rfl, rfl⟩
    rw [Bool.eq_false_iff.2 h1]
    go_wp2
    go_ret
    exact ⟨rfl, rfl⟩

theorem in_16 (x : Int) (base : Int) (wd : Int) (w : World) (hx : 0 ≤ x ∧ x ≤ 65535) (hbase : 0 ≤ base ∧ base ≤ 65535) (hwd : -9223372036854775808 ≤ wd ∧ wd ≤ 9223372036854775807) :
    Calls Try.prog 32 #[.int .u16 x, .int .u16 base, .int .i64 wd] w fun e w' => e = .returned (.bool (inn 65536 x base wd)) ∧ w = w' := by
  have ha0 := ahead_16 base x w hbase hx
  have hr : 0 ≤ ahd 65536 base x ∧ ahd 65536 base x ≤ 65535 := by unfold ahd; omega
  have el : inn 65536 x base wd = (decide (1 ≤ ahd 65536 base x) && decide (ahd 65536 base x ≤ wd)) := rfl
  rw [el]
  clear el
  generalize ahd 65536 base x = d at *
  go_enter Try.func32, Try.ntmps32
  go_wp2_with fail
  refine ha0.mono ?_
  rintro e w' ⟨rfl, rfl⟩
  go_wp2
  all_goals
    go_ret
    refine ⟨?_, rfl⟩
    simp
    try omega

theorem ahead_S (a : Int) (b : Int) (w : World) (ha : 0 ≤ a ∧ a ≤ 65535) (hb : 0 ≤ b ∧ b ≤ 65535) :
    Calls Try.prog 15 #[.int .u16 a, .int .u16 b] w fun e w' => e = .returned (.int .u16 (ahd 65536 a b)) ∧ w = w' := by
  go_enter Try.func15, Try.ntmps15
  go_wp2
  go_ret
  exact ⟨rfl, rfl⟩

theorem less_S (a : Int) (b : Int) (w : World) (ha : 0 ≤ a ∧ a ≤ 65535) (hb : 0 ≤ b ∧ b ≤ 65535) :
    Calls Try.prog 22 #[.int .u16 a, .int .u16 b] w fun e w' => e = .returned (.bool (les 65536 32768 a b)) ∧ w = w' := by
  have ha0 := ahead_S a b w ha hb
  have hr : 0 ≤ ahd 65536 a b ∧ ahd 65536 a b ≤ 65535 := by unfold ahd; omega
  have el : les 65536 32768 a b = (decide (1 ≤ ahd 65536 a b) && decide (ahd 65536 a b ≤ 32767)) := by
    unfold les ahd
    rw [Bool.eq_iff_iff]; simp; omega
  rw [el]
  clear el
  generalize ahd 65536 a b = d at *
  have hsg : IntKind.u16.signed = false := rfl
  go_enter Try.func22, Try.ntmps22
  go_wp2_with fail
  refine ha0.mono ?_
  rintro e w' ⟨rfl, rfl⟩
  go_wp2
  all_goals
    go_ret
    refine ⟨?_, rfl⟩
    try rw [xor16]
    simp
    try omega

theorem max_S (a : Int) (b : Int) (w : World) (ha : 0 ≤ a ∧ a ≤ 65535) (hb : 0 ≤ b ∧ b ≤ 65535) :
    Calls Try.prog 28 #[.int .u16 a, .int .u16 b] w fun e w' => e = .returned (.int .u16 (mx 65536 32768 a b)) ∧ w = w' := by
  have hl := less_S a b w ha hb
  by_cases h1 : les 65536 32768 a b = true
  · have e1 : mx 65536 32768 a b = b := by unfold mx; rw [if_pos h1]
    rw [e1]
    clear e1
    go_enter Try.func28, Try.ntmps28
    go_wp2_with fail
    refine hl.mono ?_
    rintro e w' ⟨rfl, rfl⟩
    rw [h1]
    go_wp2
    go_ret
    exact ⟨rfl, rfl⟩
  · have e1 : mx 65536 32768 a b = a := by unfold mx; rw [if_neg h1]
    rw [e1]
    clear e1
    go_enter Try.func28, Try.ntmps28
    go_wp2_with fail
    refine hl.mono ?_
    rintro e w' ⟨rfl, rfl⟩
    rw [Bool.eq_false_iff.2 h1]
    go_wp2
    go_ret
    exact ⟨rfl, rfl⟩

theorem in_S (x : Int) (base : Int) (wd : Int) (w : World) (hx : 0 ≤ x ∧ x ≤ 65535) (hbase : 0 ≤ base ∧ base ≤ 65535) (hwd : -9223372036854775808 ≤ wd ∧ wd ≤ 9223372036854775807) :
    Calls Try.prog 34 #[.int .u16 x, .int .u16 base, .int .i64 wd] w fun e w' => e = .returned (.bool (inn 65536 x base wd)) ∧ w = w' := by
  have ha0 := ahead_S base x w hbase hx
  have hr : 0 ≤ ahd 65536 base x ∧ ahd 65536 base x ≤ 65535 := by unfold ahd; omega
  have el : inn 65536 x base wd = (decide (1 ≤ ahd 65536 base x) && decide (ahd 65536 base x ≤ wd)) := rfl
  rw [el]
  clear el
  generalize ahd 65536 base x = d at *
  go_enter Try.func34, Try.ntmps34
  go_wp2_with fail
  refine ha0.mono ?_
  rintro e w' ⟨rfl, rfl⟩
  go_wp2
  all_goals
    go_ret
    refine ⟨?_, rfl⟩
    simp
    try omega

end Go.Proofs.Ytogcejgljpbpdaa
