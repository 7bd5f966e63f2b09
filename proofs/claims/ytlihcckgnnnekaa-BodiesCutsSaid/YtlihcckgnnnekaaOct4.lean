/-
  The contracts of package octet's Cut and Pad.
-/
import Derived.Test.YtlihcckgnnnekaaOct3
namespace Go.Proofs.Ytlihcckgnnnekaa
open Go.RowKit
set_option linter.unusedVariables false

set_option maxHeartbeats 400000 in
theorem cut_no (a : Option Addr) (len cap : Nat) (at_ n : Int) (w : World) (hl : len ≤ 140737488355328) (h2 : n ≤ 9223372036854775807) (hh : hasB len at_ n = false) :
    Calls Try.prog 51 #[.slice a len cap, .int .i64 at_, .int .i64 n] w fun e w' => e = .returned (.tuple #[.slice none 0 0, .bool false]) ∧ w = w' := by
  have hs := fun W => has_any a len cap at_ n W (by omega) h2
  rw [hh] at hs
  have hs' := Lib.hid hs
  clear hh hs
  go_enter Try.func51, Try.ntmps51
  go_wp2_with (go_at_call 73; refine (hs'.out _).mono ?_; rintro e w' ⟨rfl, rfl⟩)
  go_ret2
  exact ⟨rfl, rfl⟩

set_option maxHeartbeats 400000 in
theorem cut_yes (a : Option Addr) (len cap i m : Nat) (zs : List Int) (w : World) (hr : Reads w a len zs) (hcap : len ≤ cap) (hl : len ≤ 140737488355328) (hi : i + m ≤ len) :
    Calls Try.prog 51 #[.slice a len cap, .int .i64 (i : Int), .int .i64 (m : Int)] w fun e w' =>
      e = .returned (.tuple #[.slice (some ⟨w.heap.size, 0, none⟩) m m, .bool true]) ∧ Below w.heap.size w w' ∧ Blk w' w.heap.size ((zs.drop i).take m) := by
  have hs := fun W => has_any a len cap i m W (by omega) (by omega)
  rw [(hasB_iff len i m).2 (by omega)] at hs
  have hs' := Lib.hid hs
  clear hs
  have hz := hr.1
  by_cases hm : m = 0
  · subst hm
    cases a with
    | none =>
      have h0 := hr.2
      have h00 : len = 0 := by
        rcases h0 with h | ⟨_, _, h, _⟩
        · exact h
        · cases h
      obtain rfl : i = 0 := by omega
      subst h00
      clear h0 hi
      go_enter Try.func51, Try.ntmps51
      go_wp2_with (first
        | (go_at_call 73; refine (hs'.out _).mono ?_; rintro e w' ⟨rfl, rfl⟩))
      refine (extend_any _ 0 _ 0 [] w (Reads.zero _ _) (by omega)).mono ?_
      rintro e w1 ⟨rfl, hb1, hk1⟩
      go_wp2
      go_ret2
      exact ⟨rfl, hb1, by simpa using hk1⟩
    | some ad =>
      obtain ⟨bk, off, spot⟩ := ad
      have H := Lib.hid hz
      clear hz
      go_enter Try.func51, Try.ntmps51
      go_wp2_with (first
        | (go_at_call 73; refine (hs'.out _).mono ?_; rintro e w' ⟨rfl, rfl⟩))
      all_goals
        refine (extend_any _ 0 _ 0 [] w (Reads.zero _ _) (by omega)).mono ?_
        rintro e w1 ⟨rfl, hb1, hk1⟩
        go_wp2
        go_ret2
        exact ⟨rfl, hb1, by simpa using hk1⟩
  · obtain ⟨bk, off, rfl⟩ := hr.some_of (by omega)
    have hp := hr.part i m hi
    have hic : i < cap := by omega
    have H := Lib.hid hz
    clear hz
    go_enter Try.func51, Try.ntmps51
    go_wp2_with (first
      | (go_at_call 73; refine (hs'.out _).mono ?_; rintro e w' ⟨rfl, rfl⟩))
    refine (extend_any _ m _ 0 _ w hp (by omega)).mono ?_
    rintro e w1 ⟨rfl, hb1, hk1⟩
    go_wp2
    go_ret2
    exact ⟨rfl, hb1, by simpa using hk1⟩

/-- A length, rounded up. -/
def up4 (n : Nat) : Nat := (n + 3) / 4 * 4
theorem up4_ge (n : Nat) : n ≤ up4 n := by unfold up4; omega
theorem up4_le (n : Nat) : up4 n ≤ n + 3 := by unfold up4; omega
theorem round_nat (n : Nat) (w : World) (h : n ≤ 4611686018427387904) :
    Calls Try.prog 78 #[.int .i64 (n : Int)] w fun e w' => e = .returned (.int .i64 ((up4 n : Nat) : Int)) ∧ w = w' := by
  have e : rnd (n : Int) = ((up4 n : Nat) : Int) := by rw [rnd_in _ (by omega) (by omega)]; unfold up4; omega
  rw [← e]
  exact round_any n w

set_option maxHeartbeats 400000 in
theorem pad_any (a : Option Addr) (len cap : Nat) (zs : List Int) (w : World) (hr : Reads w a len zs) (hl : len ≤ 140737488355328) :
    Calls Try.prog 58 #[.slice a len cap] w fun e w' =>
      e = .returned (.slice (some ⟨w.heap.size, 0, none⟩) (up4 len) (up4 len)) ∧ Below w.heap.size w w' ∧ Blk w' w.heap.size (zs ++ List.replicate (up4 len - len) 0) := by
  have g1 := up4_ge len
  have g2 := up4_le len
  have E := Lib.hid (show len + (up4 len - len) = up4 len from by omega)
  go_enter Try.func58, Try.ntmps58
  go_wp2_with (first
    | (go_at_call 78; refine (round_nat len _ (by omega)).mono ?_; rintro e w' ⟨rfl, rfl⟩))
  rw [show ((up4 len : Nat) : Int) - (len : Int) = ((up4 len - len : Nat) : Int) from by omega]
  refine (extend_any a len cap (up4 len - len) zs w hr (by omega)).mono ?_
  rintro e w1 ⟨rfl, hb1, hk1⟩
  rw [E.out]
  go_wp2
  go_ret
  exact ⟨rfl, hb1, hk1⟩
end Go.Proofs.Ytlihcckgnnnekaa
