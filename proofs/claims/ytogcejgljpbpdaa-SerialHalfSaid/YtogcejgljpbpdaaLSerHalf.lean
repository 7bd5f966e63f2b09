/-
  The walk of SerialHalf.
-/
import Derived.Test.YtogcejgljpbpdaaSerWorks
namespace Go.Proofs.Ytogcejgljpbpdaa
open Go.RowKit
set_option linter.unusedVariables false

theorem les_self (m h a : Int) : les m h a a = false := by
  rw [Bool.eq_false_iff, ne_eq, les_iff, Int.sub_self, Int.zero_emod]; omega
theorem parted_32 (a b : Int) (ha : 0 ≤ a ∧ a ≤ 4294967295) (hb : 0 ≤ b ∧ b ≤ 4294967295) : ((les 4294967296 2147483648 a b = true ∧ les 4294967296 2147483648 b a = false ∧ ((a - b) % 4294967296 == 2147483648) = false ∧ mx 4294967296 2147483648 a b = b ∧ mx 4294967296 2147483648 b a = b) ∨ (les 4294967296 2147483648 a b = false ∧ les 4294967296 2147483648 b a = true ∧ ((a - b) % 4294967296 == 2147483648) = false) ∨ (les 4294967296 2147483648 a b = false ∧ les 4294967296 2147483648 b a = false ∧ (a != b) = false ∧ ((a - b) % 4294967296 == 2147483648) = false) ∨ (les 4294967296 2147483648 a b = false ∧ les 4294967296 2147483648 b a = false ∧ (a != b) = true ∧ (a - b) % 4294967296 = 2147483648)) := by
  have f (x y : Int) (hn : ¬ (1 ≤ (y - x) % 4294967296 ∧ (y - x) % 4294967296 < 2147483648)) : les 4294967296 2147483648 x y = false := by
    rw [Bool.eq_false_iff, ne_eq, les_iff]; exact hn
  by_cases h1 : a = b
  · subst h1
    exact .inr (.inr (.inl ⟨f _ _ (by omega), f _ _ (by omega), by simp, by simp⟩))
  · by_cases h2 : (a - b) % 4294967296 = 2147483648
    · exact .inr (.inr (.inr ⟨f _ _ (by omega), f _ _ (by omega), by simpa using h1, h2⟩))
    · by_cases h3 : 1 ≤ (b - a) % 4294967296 ∧ (b - a) % 4294967296 < 2147483648
      · have l1 : les 4294967296 2147483648 a b = true := by rw [les_iff]; exact h3
        have l2 : les 4294967296 2147483648 b a = false := f _ _ (by omega)
        exact .inl ⟨l1, l2, by simpa using h2, if_pos l1, if_neg (by rw [l2]; decide)⟩
      · have l2 : les 4294967296 2147483648 b a = true := by rw [les_iff]; omega
        exact .inr (.inl ⟨f _ _ h3, l2, by simpa using h2⟩)

theorem parted_16' (a b : Int) (ha : 0 ≤ a ∧ a ≤ 65535) (hb : 0 ≤ b ∧ b ≤ 65535) : ((les 65536 32768 a b = true ∧ les 65536 32768 b a = false ∧ ((a - b) % 65536 == 32768) = false ∧ mx 65536 32768 a b = b ∧ mx 65536 32768 b a = b) ∨ (les 65536 32768 a b = false ∧ les 65536 32768 b a = true ∧ ((a - b) % 65536 == 32768) = false) ∨ (les 65536 32768 a b = false ∧ les 65536 32768 b a = false ∧ (a != b) = false ∧ ((a - b) % 65536 == 32768) = false) ∨ (les 65536 32768 a b = false ∧ les 65536 32768 b a = false ∧ (a != b) = true ∧ (a - b) % 65536 = 32768)) := by
  have f (x y : Int) (hn : ¬ (1 ≤ (y - x) % 65536 ∧ (y - x) % 65536 < 32768)) : les 65536 32768 x y = false := by
    rw [Bool.eq_false_iff, ne_eq, les_iff]; exact hn
  by_cases h1 : a = b
  · subst h1
    exact .inr (.inr (.inl ⟨f _ _ (by omega), f _ _ (by omega), by simp, by simp⟩))
  · by_cases h2 : (a - b) % 65536 = 32768
    · exact .inr (.inr (.inr ⟨f _ _ (by omega), f _ _ (by omega), by simpa using h1, h2⟩))
    · by_cases h3 : 1 ≤ (b - a) % 65536 ∧ (b - a) % 65536 < 32768
      · have l1 : les 65536 32768 a b = true := by rw [les_iff]; exact h3
        have l2 : les 65536 32768 b a = false := f _ _ (by omega)
        exact .inl ⟨l1, l2, by simpa using h2, if_pos l1, if_neg (by rw [l2]; decide)⟩
      · have l2 : les 65536 32768 b a = true := by rw [les_iff]; omega
        exact .inr (.inl ⟨f _ _ h3, l2, by simpa using h2⟩)

theorem parted_16 (a b : Int) (ha : 0 ≤ a ∧ a ≤ 65535) (hb : 0 ≤ b ∧ b ≤ 65535) : ((les 65536 32768 a b = true ∧ les 65536 32768 b a = false ∧ (IntKind.u16.wrap (a - b) == 32768) = false ∧ mx 65536 32768 a b = b ∧ mx 65536 32768 b a = b) ∨ (les 65536 32768 a b = false ∧ les 65536 32768 b a = true ∧ (IntKind.u16.wrap (a - b) == 32768) = false) ∨ (les 65536 32768 a b = false ∧ les 65536 32768 b a = false ∧ (a != b) = false ∧ (IntKind.u16.wrap (a - b) == 32768) = false) ∨ (les 65536 32768 a b = false ∧ les 65536 32768 b a = false ∧ (a != b) = true ∧ IntKind.u16.wrap (a - b) = 32768)) := parted_16' a b ha hb

set_option maxHeartbeats 40000000 in
theorem serialHalf_walk (a b : Int) (w : World) (ha0 : (Lit.int .u32 a).wf = true) (hb0 : (Lit.int .u32 b).wf = true) :
    Calls Try.prog 7 #[.int .u32 a, .int .u32 b] w fun e w' => e = .returned (.bool true) ∧ w = w' := by
  have ha : 0 ≤ a ∧ a ≤ 4294967295 := by simp [Lit.wf, IntKind.min, IntKind.max, IntKind.signed, IntKind.bits] at ha0; omega
  have hb : 0 ≤ b ∧ b ≤ 4294967295 := by simp [Lit.wf, IntKind.min, IntKind.max, IntKind.signed, IntKind.bits] at hb0; omega
  clear ha0 hb0
  have hc : 0 ≤ a % 65536 ∧ a % 65536 ≤ 65535 := by omega
  have hd : 0 ≤ b % 65536 ∧ b % 65536 ≤ 65535 := by omega
  have P := parted_32 a b ha hb
  have R := parted_16 (a % 65536) (b % 65536) hc hd
  have c1 := fun W => less_32 a b W ha hb
  have c2 := fun W => less_32 b a W hb ha
  have c3 := fun W => less_16 (a % 65536) (b % 65536) W hc hd
  have c4 := fun W => less_16 (b % 65536) (a % 65536) W hd hc
  have c5 := fun W => less_32 a a W ha ha
  have c6 := fun W => less_16 (a % 65536) (a % 65536) W hc hc
  have c7 := fun W => max_32 a b W ha hb
  have c8 := fun W => max_32 b a W hb ha
  have c9 := fun W => max_16 (a % 65536) (b % 65536) W hc hd
  have c10 := fun W => max_16 (b % 65536) (a % 65536) W hd hc
  have c11 := works_any
  rw [les_self] at c5 c6
  generalize les 4294967296 2147483648 a b = A at *
  generalize les 4294967296 2147483648 b a = B at *
  generalize les 65536 32768 (a % 65536) (b % 65536) = C at *
  generalize les 65536 32768 (b % 65536) (a % 65536) = D at *
  generalize mx 4294967296 2147483648 a b = E at *
  generalize mx 4294967296 2147483648 b a = F at *
  generalize mx 65536 32768 (a % 65536) (b % 65536) = G at *
  generalize mx 65536 32768 (b % 65536) (a % 65536) = H at *
  have P' := Lib.hid P
  have R' := Lib.hid R
  clear P R
  go_enter Try.func7, Try.ntmps7
  go_wp2_with fail
  refine (c1 _).mono ?_
  rintro e w' ⟨rfl, rfl⟩
  go_wp2_with fail
  refine (c2 _).mono ?_
  rintro e w' ⟨rfl, rfl⟩
  go_wp2_with fail
  refine (c3 _).mono ?_
  rintro e w' ⟨rfl, rfl⟩
  go_wp2_with fail
  refine (c4 _).mono ?_
  rintro e w' ⟨rfl, rfl⟩
  clear c1 c2 c3 c4
  have P := P'.out
  have R := R'.out
  clear P' R'
  rcases P with ⟨rfl, rfl, p1, rfl, rfl⟩ | ⟨rfl, rfl, p1⟩ | ⟨rfl, rfl, p1, p2⟩ | ⟨rfl, rfl, p1, p2⟩ <;>
  rcases R with ⟨rfl, rfl, r1, rfl, rfl⟩ | ⟨rfl, rfl, r1⟩ | ⟨rfl, rfl, r1, r2⟩ | ⟨rfl, rfl, r1, r2⟩
  all_goals
    go_wp2_with (first
      | (go_at_call 17; refine (c5 _).mono ?_; rintro e w' ⟨rfl, rfl⟩)
      | (go_at_call 20; refine (c6 _).mono ?_; rintro e w' ⟨rfl, rfl⟩)
      | (go_at_call 23; refine (c7 _).mono ?_; rintro e w' ⟨rfl, rfl⟩)
      | (go_at_call 23; refine (c8 _).mono ?_; rintro e w' ⟨rfl, rfl⟩)
      | (go_at_call 26; refine (c9 _).mono ?_; rintro e w' ⟨rfl, rfl⟩)
      | (go_at_call 26; refine (c10 _).mono ?_; rintro e w' ⟨rfl, rfl⟩)
      | (go_at_call 16; refine (c11 _).mono ?_; rintro e w' ⟨rfl, rfl⟩))
    go_ret
    exact ⟨rfl, rfl⟩
end Go.Proofs.Ytogcejgljpbpdaa
