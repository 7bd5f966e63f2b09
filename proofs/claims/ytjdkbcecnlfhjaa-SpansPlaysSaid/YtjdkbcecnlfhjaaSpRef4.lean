/-
  The document's own answers for layer 4: Settle, Move.
-/
import Derived.Test.YtjdkbcecnlfhjaaSpRef3
namespace Go.Proofs.Ytjdkbcecnlfhjaa
open Go.RowKit
set_option linter.unusedVariables false

set_option maxRecDepth 100000 in
theorem rsettle_any (w : World) (rb : Nat) (base : Int) (f : Nat → Bool) (h : IsRef w rb base f) (n : Nat) (hn : Run f n) :
    Calls Try.prog 17 #[.pointer (some ⟨rb, 0, none⟩)] w fun e w' => e = .returned (.int .i64 n) ∧ IsRef w' rb ((base + n) % 4294967296) (shf n f) ∧ Turn [rb] w w' := by
  have hle := hn.le h.sup
  have HH := Lib.hid h
  have HR := Lib.hid hn
  clear h hn
  go_enter Try.func17, Try.ntmps17
  go_wp2
  go_loop [3] (fun c => ∃ k : Nat, k ≤ n ∧ c = .int .i64 k) (fun c => n - (intOf c).toNat)
  case atStart => exact ⟨0, by omega, rfl⟩
  case round =>
    obtain ⟨k, hk, rfl⟩ := hrel
    have hsh := shift_any w rb base f HH.out n hle
    have HSH := Lib.hid hsh
    clear hsh
    by_cases hk4 : k < 4096
    · obtain ⟨t, ht⟩ : ∃ t, k + 1 = t := ⟨_, rfl⟩
      have htI : (k : Int) + 1 = (t : Int) := by omega
      have d1 := HH.out.cell t (by omega)
      have hb0 : (0 : Int) ≤ (t : Int) := by omega
      have hb1 : (t : Int) < 4097 := by omega
      have e1 : decide ((k : Int) < 4096) = true := by simp; omega
      by_cases hlt : k < n
      · have hf : f t = true := HR.out.1 t (by omega) (by omega)
        rw [hf] at d1
        clear hf ht
        go_wp2
        go_round
        case rel => exact ⟨t, by omega, by first | rfl | (congr 1)⟩
        case measure => simp [intOf]; omega
      · obtain rfl : k = n := by omega
        have hf : f t = false := by rw [← ht]; exact HR.out.2
        rw [hf] at d1
        clear hf ht
        go_wp2_with fail
        refine HSH.out.mono ?_
        rintro e w2 ⟨rfl, h2, h3⟩
        have H2 := Lib.hid h2
        have H3 := Lib.hid h3
        clear h2 h3
        go_wp2
        go_ret
        exact ⟨rfl, H2.out, H3.out⟩
    · obtain rfl : k = n := by omega
      have e1 : decide ((k : Int) < 4096) = false := by simp; omega
      go_wp2_with fail
      refine HSH.out.mono ?_
      rintro e w2 ⟨rfl, h2, h3⟩
      have H2 := Lib.hid h2
      have H3 := Lib.hid h3
      clear h2 h3
      go_wp2
      go_ret
      exact ⟨rfl, H2.out, H3.out⟩

theorem rmove_no (w : World) (rb : Nat) (base x : Int) (f : Nat → Bool) (h : IsRef w rb base f) (hx : 0 ≤ x ∧ x ≤ 4294967295) (hn : near (dist base x) = false) :
    Calls Try.prog 19 #[.pointer (some ⟨rb, 0, none⟩), .int .u32 x] w fun e w' => e = .returned (.int .i64 0) ∧ w = w' := by
  have c0 := h.c0
  have hi := rin_any x base w hx h.in
  rw [hn] at hi
  have HH := Lib.hid h
  clear h hn
  go_enter Try.func19, Try.ntmps19
  go_wp2_with fail
  refine hi.mono ?_
  rintro e w' ⟨rfl, rfl⟩
  go_wp2
  go_ret
  exact ⟨rfl, rfl⟩

theorem rmove_yes (w : World) (rb : Nat) (base x : Int) (f : Nat → Bool) (h : IsRef w rb base f) (hx : 0 ≤ x ∧ x ≤ 4294967295) (d : Nat) (hd : dist base x = d) (hn : near d = true) (n : Nat) (hr : Run (shf d f) n) :
    Calls Try.prog 19 #[.pointer (some ⟨rb, 0, none⟩), .int .u32 x] w fun e w' => e = .returned (.int .i64 ((d + n : Nat) : Int)) ∧ IsRef w' rb ((base + ((d + n : Nat) : Int)) % 4294967296) (shf (d + n) f) ∧ Turn [rb] w w' := by
  have c0 := h.c0
  have hi := rin_any x base w hx h.in
  rw [hd, hn] at hi
  have hd2 := (near_iff _).1 hn
  have hn2 := hr.le (h.sup.shf d)
  have hlo := h.in
  have hx2 : (x - base) % 4294967296 = (d : Int) := by unfold dist at hd; omega
  have hsh := shift_any w rb base f h d hd2.2
  have HH := Lib.hid h
  have HR := Lib.hid hr
  have HSH := Lib.hid hsh
  clear h hr hd hn hsh
  go_enter Try.func19, Try.ntmps19
  go_wp2_with fail
  refine hi.mono ?_
  rintro e w' ⟨rfl, rfl⟩
  go_wp2_with fail
  refine HSH.out.mono ?_
  rintro e w2 ⟨rfl, h2, h3⟩
  have hse := rsettle_any w2 rb _ _ h2 n HR.out
  have e1 : ((base + (d : Int)) % 4294967296 + (n : Int)) % 4294967296 = (base + ((d + n : Nat) : Int)) % 4294967296 := by omega
  rw [shf_add, e1] at hse
  have H3 := Lib.hid h3
  clear h2 h3 e1
  go_wp2_with fail
  refine hse.mono ?_
  rintro e w4 ⟨rfl, h4, h5⟩
  have H4 := Lib.hid h4
  have H5 := Lib.hid h5
  clear h4 h5 hse
  go_wp2
  go_ret
  exact ⟨by first | rfl | simp, H4.out, H3.out.trans H5.out⟩
end Go.Proofs.Ytjdkbcecnlfhjaa
