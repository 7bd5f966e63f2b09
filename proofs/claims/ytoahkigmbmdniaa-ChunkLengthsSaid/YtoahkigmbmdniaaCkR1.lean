/-
  Contracts of package chunk's isZero and of Read's closure.
-/
import Derived.Test.YtoahkigmbmdniaaCkMath
import Derived.Test.YtoahkigmbmdniaaArr
import Derived.Test.YtoahkigmbmdniaaTurn
namespace Go.Proofs.Ytoahkigmbmdniaa
open Go.RowKit
set_option linter.unusedVariables false

set_option maxHeartbeats 800000 in
theorem isZero_any (a : Option Addr) (n c : Nat) (zs : List Int) (w : World) (hr : Reads w a n zs) (hb : Byt zs) (hn : n ≤ 140737488355328) :
    Calls Try.prog 30 #[.slice a n c] w fun e w' => e = .returned (.bool (zeroB zs)) ∧ w = w' := by
  have hl := hr.1
  have HR := Lib.hid hr
  have HL := Lib.hid hl
  clear hr hl
  go_enter Try.func30, Try.ntmps30
  go_wp2
  go_loop [7] (fun i => ∃ k : Nat, k ≤ n ∧ i = .int .i64 k ∧ zeroB (zs.take k) = true) (fun i => n - (intOf i).toNat)
  case atStart => exact ⟨0, Nat.zero_le _, rfl, rfl⟩
  case round =>
    obtain ⟨k, hk, rfl, hz⟩ := hrel
    by_cases hlt : k < n
    · obtain ⟨b, off, rfl⟩ := HR.out.some_of (by omega)
      have hc : w.cell? ⟨b, off + k, none⟩ = some (.int .u8 (zs[k]?.getD 0)) := by
        rcases HR.out.2 with h | ⟨b', off', e, _, h⟩
        · omega
        · cases e; exact h k hlt
      by_cases h0 : zs[k]?.getD 0 = 0
      · have HZ := Lib.hid (zeroB_take (by rw [HL.out]; exact hlt) hz h0)
        rw [h0] at hc
        clear hz h0
        go_wp2
        go_round
        case rel => exact ⟨k + 1, by omega, by go_num, HZ.out⟩
        case measure => simp [intOf]; omega
      · have HZ := Lib.hid (zeroB_not (by rw [HL.out]; exact hlt) h0)
        have hne : (zs[k]?.getD 0 == 0) = false := by simpa using h0
        generalize zs[k]?.getD 0 = x at *
        clear hz
        go_wp2
        go_ret
        exact ⟨by rw [HZ.out]; rfl, rfl⟩
    · have HZ := Lib.hid hz
      clear hz
      go_wp2
      go_ret
      refine ⟨?_, rfl⟩
      obtain rfl : k = n := by omega
      have h := HZ.out
      rw [List.take_of_length_le (by rw [HL.out]; exact Nat.le_refl _)] at h
      rw [h]; rfl

/-- The closure, where there are as many bytes. -/
theorem take_yes (gb ga : Nat) (a : Option Addr) (n c i m : Nat) (zs : List Int) (w : World) (hb : Arr w gb 22 [.slice a n c]) (ha : Arr w ga 3 [.int .i64 i]) (hr : Reads w a n zs) (hc : n ≤ c) (hn : n ≤ 140737488355328) (hi : i + m ≤ n) :
    Calls Try.prog 27 #[.int .i64 (m : Int), .pointer (some ⟨gb, 0, none⟩), .pointer (some ⟨ga, 0, none⟩)] w fun e w' =>
      e = .returned (.tuple #[.slice (some ⟨w.heap.size, 0, none⟩) m m, .bool true]) ∧ Blk w' w.heap.size ((zs.drop i).take m) ∧ Arr w' ga 3 [.int .i64 ((i + m : Nat) : Int)] ∧ Turn [ga] w w' := by
  have cb := hb.cell (i := 0) rfl
  have ca := ha.cell (i := 0) rfl
  have hcut := cut_yes a n c i m zs w hr hc hn hi
  have hal := ha.lt
  have HC := Lib.hid hcut
  have HA := Lib.hid ha
  clear hb ha hr hcut
  go_enter Try.func27, Try.ntmps27
  go_wp2_with fail
  refine HC.out.mono ?_
  rintro e w1 ⟨rfl, hb1, hk1⟩
  have ha1 := HA.out.keep hb1
  have ca1 := ha1.cell (i := 0) rfl
  have fa1 := ha1.free 0
  have ha2 := ha1.set 0 (.int .i64 ((i + m : Nat) : Int))
  have hne : w.heap.size ≠ ga := by omega
  have hk2 : Blk (w1.setCell ⟨ga, 0, none⟩ (.int .i64 ((i + m : Nat) : Int))) w.heap.size ((zs.drop i).take m) := (Below.heap_setCell _ _ _ _ (by simpa using hne)).trans hk1
  have ht2 : Turn [ga] w (w1.setCell ⟨ga, 0, none⟩ (.int .i64 ((i + m : Nat) : Int))) := ((Turn.of_below hb1).mono (fun _ h => by cases h)).setCell (by simp) _
  have e2 : ((i + m : Nat) : Int) = (i : Int) + (m : Int) := by omega
  rw [e2] at ha2 hk2 ht2
  have HE := Lib.hid (And.intro hk2 (And.intro ha2 ht2))
  have E2 := Lib.hid e2
  clear hb1 hk1 ha1 ha2 hk2 ht2 e2 HC HA cb ca
  go_wp2
  go_ret2
  rw [E2.out]
  exact ⟨rfl, HE.out⟩

/-- .. where there are not. -/
theorem take_no (gb ga : Nat) (a : Option Addr) (n c i : Nat) (m : Int) (w : World) (hb : Arr w gb 22 [.slice a n c]) (ha : Arr w ga 3 [.int .i64 i]) (hn : n ≤ 140737488355328) (hin : i ≤ 9223372036854775807) (hm : m ≤ 9223372036854775807) (h : hasB n i m = false) :
    Calls Try.prog 27 #[.int .i64 m, .pointer (some ⟨gb, 0, none⟩), .pointer (some ⟨ga, 0, none⟩)] w fun e w' =>
      e = .returned (.tuple #[.slice none 0 0, .bool false]) ∧ Arr w' ga 3 [.int .i64 i] ∧ Turn [ga] w w' := by
  have cb := hb.cell (i := 0) rfl
  have ca := ha.cell (i := 0) rfl
  have hcut := cut_no a n c i m w hn hm h
  have fa := ha.free 0
  have ha2 := ha.set 0 (.int .i64 i)
  have ht2 : Turn [ga] w (w.setCell ⟨ga, 0, none⟩ (.int .i64 i)) := (Turn.refl _ _).setCell (by simp) _
  have HC := Lib.hid hcut
  have HE := Lib.hid (And.intro ha2 ht2)
  clear hb ha hcut h ha2 ht2
  go_enter Try.func27, Try.ntmps27
  go_wp2_with fail
  refine HC.out.mono ?_
  rintro e w1 ⟨rfl, rfl⟩
  go_wp2
  go_ret2
  exact ⟨rfl, HE.out⟩

/-- The piece that was taken, if there was one. -/
def cutV (b : Bool) (g m : Nat) : Value := if b then .slice (some ⟨g, 0, none⟩) m m else .slice none 0 0
def stepTo (b : Bool) (i m : Nat) : Nat := if b then i + m else i
theorem take_any (gb ga : Nat) (a : Option Addr) (n c i m : Nat) (zs : List Int) (w : World) (hb : Arr w gb 22 [.slice a n c]) (ha : Arr w ga 3 [.int .i64 i]) (hr : Reads w a n zs) (hc : n ≤ c) (hn : n ≤ 140737488355328) (hin : i ≤ n) (hm : m ≤ 140737488355328) (b : Bool) (hbb : b = decide (i + m ≤ n)) :
    Calls Try.prog 27 #[.int .i64 (m : Int), .pointer (some ⟨gb, 0, none⟩), .pointer (some ⟨ga, 0, none⟩)] w fun e w' =>
      e = .returned (.tuple #[cutV b w.heap.size m, .bool b]) ∧ (b = true → Blk w' w.heap.size ((zs.drop i).take m)) ∧ Arr w' ga 3 [.int .i64 (stepTo b i m : Nat)] ∧ Turn [ga] w w' := by
  cases b with
  | true =>
    have hi : i + m ≤ n := by simpa using hbb.symm
    exact (take_yes gb ga a n c i m zs w hb ha hr hc hn hi).mono fun e w' ⟨h1, h2, h3, h4⟩ => ⟨h1, fun _ => h2, h3, h4⟩
  | false =>
    have hi : ¬ i + m ≤ n := by simpa using hbb.symm
    exact (take_no gb ga a n c i m w hb ha hn (by omega) (by omega) (by simp [hasB]; omega)).mono fun e w' ⟨h1, h2, h3⟩ => ⟨h1, fun h => (by cases h), h2, h3⟩
end Go.Proofs.Ytoahkigmbmdniaa
