/-
  Contracts of the reference package 01: Put, Round, Pad.
-/
import Derived.Test.YtlihcckgnnnekaaRef01
import Derived.Test.YtlihcckgnnnekaaWin
namespace Go.Proofs.Ytlihcckgnnnekaa
open Go.RowKit
set_option linter.unusedVariables false

theorem putR_no (a : Option Addr) (len cap : Nat) (n x : Int) (zs : List Int) (w : World) (hr : Reads w a len zs) (hl : len ≤ 140737488355328) (hn : sizB n = false) :
    Calls Try.prog 56 #[.slice a len cap, .int .u64 x, .int .i64 n] w fun e w' =>
      ∃ a' c', e = .returned (.slice a' len c') ∧ Below w.heap.size w w' ∧ Row8 w.heap.size w' a' len c' zs := by
  have hs := fun W => sizeR_any n W
  rw [hn] at hs
  have hs' := Lib.hid hs
  clear hn hs
  go_enter Try.func56, Try.ntmps56
  go_wp2_with (first
    | (go_at_call 77; refine (hs'.out _).mono ?_; rintro e w' ⟨rfl, rfl⟩)
    | (go_at_call 54; refine (copyBytes_any a len cap zs w hr hl).mono ?_; rintro e w1 ⟨a', rfl, hb1, hk1⟩))
  go_ret
  exact ⟨_, _, rfl, hb1, hk1⟩

set_option maxRecDepth 4000 in
set_option maxHeartbeats 400000 in
theorem putR_yes (a : Option Addr) (len cap n : Nat) (x : Int) (zs : List Int) (w : World) (hr : Reads w a len zs) (hl : len ≤ 70368744177664) (hx0 : 0 ≤ x) (hn : sizB (n : Int) = true) :
    Calls Try.prog 56 #[.slice a len cap, .int .u64 x, .int .i64 (n : Int)] w fun e w' =>
      ∃ a' c', e = .returned (.slice a' (len + n) c') ∧ Below w.heap.size w w' ∧ Row8 w.heap.size w' a' (len + n) c' (zs ++ enc x n) := by
  have hn8 : 1 ≤ n ∧ n ≤ 8 := by have := (sizB_iff n).1 hn; omega
  obtain ⟨hn1, hn8⟩ := hn8
  have hs := fun W => sizeR_any (n : Int) W
  rw [hn] at hs
  have hs' := Lib.hid hs
  clear hn hs
  obtain ⟨i0, hi0, hz0, hz1, hz2⟩ := info_parts Try.infoB
  go_enter Try.func56, Try.ntmps56
  go_wp2_with (first
    | (go_at_call 77; refine (hs'.out _).mono ?_; rintro e w' ⟨rfl, rfl⟩)
    | (go_at_call 54; refine (copyBytes_any a len cap zs w hr (by omega)).mono ?_; rintro e w1 ⟨a', rfl, hb1, hk1⟩))
  go_loopw [7, 8] (fun v i wr => ∃ (j : Nat) (a2 : Option Addr) (c2 : Nat), j ≤ n ∧ i = .int .i64 ((n : Int) - 1 - (j : Int)) ∧ v = .slice a2 (len + j) c2 ∧ Row8 w.heap.size wr a2 (len + j) c2 (zs ++ (enc x n).take j) ∧ Below w.heap.size w wr) (fun _ i _ => (intOf i + 1).toNat)
  case atStart => exact ⟨0, a', len, Nat.zero_le _, by simp, rfl, by simpa using hk1, hb1⟩
  case round =>
    obtain ⟨j, a2, c2, hj, rfl, rfl, hrow, hb⟩ := hrel
    by_cases hjn : j < n
    · have HB := Lib.hid hb
      have HO := Lib.hid hrow
      have HE := Lib.hid (show (enc x n).take (j + 1) = (enc x n).take j ++ [x / 256 ^ (n - 1 - j) % 256] from by
        have h1 := enc_at x n (n - 1 - j) (by omega)
        rw [show n - 1 - (n - 1 - j) = j from by omega] at h1
        rw [List.take_succ_eq_append_getElem (by simp; omega)]
        rw [List.getElem?_eq_getElem (by simp; omega)] at h1
        simp only [Option.some.injEq] at h1
        rw [h1])
      clear hrow hb hb1 hk1
      have hal : Below wr.heap.size wr (wr.alloc (.cells #[.int .u8 (x / 2 ^ (8 * (n - 1 - j)) % 256)] 5)) := (Below.refl _ _).alloc (Nat.le_refl _) _
      obtain ⟨a3, c3, W3, hrun, h3, hg3⟩ := (HO.out.keep hal).grow (Nat.le_trans HB.out.size hal.size) ⟨wr.heap.size, 0, none⟩ 1 1 [x / 2 ^ (8 * (n - 1 - j)) % 256] rfl (cell_one_new _ _ _) (by omega) (by omega)
      have HRUN := Lib.hid hrun
      have H3 := Lib.hid (And.intro h3 ((HB.out.alloc HB.out.size (.cells #[.int .u8 (x / 2 ^ (8 * (n - 1 - j)) % 256)] 5)).grown hg3 (Nat.le_trans HB.out.size hal.size) (fun g hg => ((HO.out.keep hal).lt g hg).1)))
      clear hal hrun h3 hg3
      go_wp2_with (at_builtin; refine wpList_append_run rfl (.tmp 21) (.tmp 28) 24 rfl _ _ _ _ rfl rfl HRUN.out ?_)
      refine ⟨⟨j + 1, a3, c3, by omega, congrArg (Value.int .i64) (by omega), rfl, ?_, H3.out.2⟩, by simp [intOf]; omega⟩
      rw [HE.out, ← List.append_assoc, ← pow_8, ← Nat.add_assoc]
      exact H3.out.1
    · have HB := Lib.hid hb
      have HR := Lib.hid hrow
      clear hrow hb
      go_wp2
      go_ret
      obtain rfl : j = n := by omega
      refine ⟨_, _, rfl, HB.out, ?_⟩
      have h := HR.out
      rw [List.take_of_length_le (by simp)] at h
      exact h

set_option maxRecDepth 4000 in
set_option maxHeartbeats 400000 in
theorem roundR_nat (n : Nat) (w : World) (hn : n ≤ 4611686018427387904) :
    Calls Try.prog 79 #[.int .i64 (n : Int)] w fun e w' => e = .returned (.int .i64 ((up4 n : Nat) : Int)) ∧ w = w' := by
  have g1 := up4_ge n
  have g2 := up4_le n
  have hn' : (n : Int) ≤ 4611686018427387904 := by omega
  go_enter Try.func79, Try.ntmps79
  go_wp2
  go_loop [0] (fun v => ∃ m : Nat, n ≤ m ∧ m ≤ up4 n ∧ v = .int .i64 (m : Int)) (fun v => (up4 n - (intOf v).toNat))
  case atStart => exact ⟨n, Nat.le_refl _, g1, rfl⟩
  case round =>
    obtain ⟨m, h1, h2, rfl⟩ := hrel
    by_cases hm : (m : Int) % 4 = 0
    · have e : m = up4 n := by unfold up4 at h2 ⊢; omega
      have e0 : ((m : Int) % 4 == 0) = true := by simpa using hm
      have e1 : ((m : Int) % 4 != 0) = false := by simpa using hm
      have E := Lib.hid e
      clear hm e
      go_wp2
      go_ret
      exact ⟨by rw [← E.out]; rfl, rfl⟩
    · have h3 : m < up4 n := by
        rcases Nat.lt_or_ge m (up4 n) with h | h
        · exact h
        · exfalso; apply hm; have : m = up4 n := by omega
          rw [this]; unfold up4; omega
      have e0 : ((m : Int) % 4 == 0) = false := by simpa using hm
      have e1 : ((m : Int) % 4 != 0) = true := by simpa using hm
      have h4 : m ≤ 4611686018427387907 := by omega
      clear hm
      go_wp2
      refine ⟨⟨m + 1, by omega, by omega, by go_num⟩, by simp [intOf]; omega⟩

set_option maxRecDepth 4000 in
set_option maxHeartbeats 400000 in
theorem padR_any (a : Option Addr) (len cap : Nat) (zs : List Int) (w : World) (hr : Reads w a len zs) (hl : len ≤ 70368744177664) :
    Calls Try.prog 63 #[.slice a len cap] w fun e w' =>
      ∃ a' c', e = .returned (.slice a' (up4 len) c') ∧ Below w.heap.size w w' ∧ Row8 w.heap.size w' a' (up4 len) c' (zs ++ List.replicate (up4 len - len) 0) := by
  have g1 := up4_ge len
  have g2 := up4_le len
  obtain ⟨i0, hi0, hz0, hz1, hz2⟩ := info_parts Try.infoB
  go_enter Try.func63, Try.ntmps63
  go_wp2_with (first
    | (go_at_call 54; refine (copyBytes_any a len cap zs w hr (by omega)).mono ?_; rintro e w1 ⟨a', rfl, hb1, hk1⟩))
  go_loopw [3] (fun v wr => ∃ (j : Nat) (a2 : Option Addr) (c2 : Nat), len + j ≤ up4 len ∧ v = .slice a2 (len + j) c2 ∧ Row8 w.heap.size wr a2 (len + j) c2 (zs ++ List.replicate j 0) ∧ Below w.heap.size w wr) (fun v _ => up4 len - (match v with | .slice _ n _ => n | _ => 0))
  case atStart => exact ⟨0, a', len, by omega, rfl, by simpa using hk1, hb1⟩
  case round =>
    obtain ⟨j, a2, c2, hj, rfl, hrow, hb⟩ := hrel
    have HB := Lib.hid hb
    clear hb1 hk1 hb
    by_cases hjn : len + j < up4 len
    · have HO := Lib.hid hrow
      clear hrow
      have hal : Below wr.heap.size wr (wr.alloc (.cells #[.int .u8 0] 5)) := (Below.refl _ _).alloc (Nat.le_refl _) _
      obtain ⟨a3, c3, W3, hrun, h3, hg3⟩ := (HO.out.keep hal).grow (Nat.le_trans HB.out.size hal.size) ⟨wr.heap.size, 0, none⟩ 1 1 [0] rfl (cell_one_new _ _ _) (by omega) (by omega)
      have HRUN := Lib.hid hrun
      have H3 := Lib.hid (And.intro h3 ((HB.out.alloc HB.out.size (.cells #[.int .u8 0] 5)).grown hg3 (Nat.le_trans HB.out.size hal.size) (fun g hg => ((HO.out.keep hal).lt g hg).1)))
      clear hal hrun h3 hg3
      go_wp2_with (first
        | (go_at_call 79; refine (roundR_nat len _ (by omega)).mono ?_; rintro e w' ⟨rfl, rfl⟩)
        | (at_builtin; refine wpList_append_run rfl (.tmp 12) (.tmp 13) 24 rfl _ _ _ _ rfl rfl HRUN.out ?_))
      refine ⟨⟨j + 1, a3, c3, by omega, rfl, ?_, H3.out.2⟩, ?_⟩
      · rw [List.replicate_succ', ← List.append_assoc, ← Nat.add_assoc]
        exact H3.out.1
      · show up4 len - (len + j + 1) < up4 len - (len + j)
        omega
    · have HR := Lib.hid hrow
      clear hrow
      go_wp2_with (first
        | (go_at_call 79; refine (roundR_nat len _ (by omega)).mono ?_; rintro e w' ⟨rfl, rfl⟩))
      go_ret
      have e : len + j = up4 len := by omega
      refine ⟨a2, c2, ?_, HB.out, ?_⟩
      · rw [← e]; rfl
      · have h := HR.out
        rw [show up4 len - len = j from by omega, ← e]
        exact h
end Go.Proofs.Ytlihcckgnnnekaa
