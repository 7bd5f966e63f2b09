/-
  The walk of RingFull.
-/
import Derived.Test.YtdlcmmodhicieaaRingWorks
import Derived.Test.YtdlcmmodhicieaaRingU32
import Derived.Test.YtdlcmmodhicieaaFrame
namespace Go.Proofs.Ytdlcmmodhicieaa
open Go.RowKit
set_option linter.unusedVariables false

def vals (x : Int) (k : Nat) : List Value := (List.range k).map (fun (j : Nat) => Value.int .u32 ((x + (j : Int)) % 4294967296))
theorem vals_succ (x : Int) (k : Nat) : vals x (k + 1) = vals x k ++ [.int .u32 ((x + (k : Int)) % 4294967296)] := by
  unfold vals
  rw [List.range_succ, List.map_append]
  rfl
theorem vals_head {x : Int} (h0 : 0 ≤ x) (h1 : x < 4294967296) (k : Nat) : ∃ vs, vals x (k + 1) = .int .u32 x :: vs := by
  unfold vals
  rw [List.range_succ_eq_map, List.map_cons]
  have e : (x + ((0 : Nat) : Int)) % 4294967296 = x := by omega
  rw [e]
  exact ⟨_, rfl⟩

theorem vals_cons {x : Int} (h0 : 0 ≤ x) (h1 : x < 4294967296) (k : Nat) (hk : 1 ≤ k) : ∃ vs, vals x k = .int .u32 x :: vs := by
  obtain ⟨j, rfl⟩ : ∃ j, k = j + 1 := ⟨k - 1, by omega⟩
  exact vals_head h0 h1 j

set_option maxRecDepth 100000 in
set_option maxHeartbeats 1600000 in
theorem ringFull_walk (room x : Int) (w : World) (wr : (Lit.int .u16 room).wf = true) (wx : (Lit.int .u32 x).wf = true) :
    Calls Try.prog 6 #[.int .u16 room, .int .u32 x] w fun e w' => e = .returned (.bool true) ∧ Below w.heap.size w w' := by
  have hr := wf_u16_in wr
  have hx := wf_u32_in wx
  clear wr wx
  go_enter Try.func6, Try.ntmps6
  obtain ⟨n, hn, hn1, hn2⟩ : ∃ n : Nat, 1 + room % 3000 = (n : Int) ∧ 1 ≤ n ∧ n ≤ 3000 := ⟨(1 + room % 3000).toNat, by omega, by omega, by omega⟩

  go_wp2_with fail
  clear hn hr
  refine (new_my_u32 w.heap.size w (Nat.le_refl _) n (by omega) (by omega)).mono ?_
  rintro e w1 ⟨rb, cb, rfl, hr1, hb1⟩
  have HR1 := Lib.hid hr1
  have HB1 := Lib.hid hb1
  clear hr1 hb1
  go_wp2
  go_loopw [8] (fun t wr => ∃ k : Nat, k ≤ 2 ∧ t = .int .i64 k ∧ MyRing 81 1 w.heap.size wr rb cb n 0 [] ∧ Below w.heap.size w wr) (fun t _ => 2 - (intOf t).toNat)
  case atStart => exact ⟨0, by omega, rfl, HR1.out, HB1.out⟩
  case round =>
    obtain ⟨k, hk, rfl, hr, hb⟩ := hrel
    have HB := Lib.hid hb
    have HR := Lib.hid hr
    clear hr hb
    by_cases hk2 : k < 2
    · have gk : (k : Int) < 2 := by omega
      go_wp2
      go_loopw [9] (fun t wi => ∃ i : Nat, i ≤ n ∧ t = .int .i64 i ∧ MyRing 81 1 w.heap.size wi rb cb n i (vals x i) ∧ Below w.heap.size w wi) (fun t _ => n - (intOf t).toNat)
      case atStart => exact ⟨0, by omega, rfl, HR.out, HB.out⟩
      case round =>
        obtain ⟨i, hi, rfl, hr, hb⟩ := hrel
        by_cases hlt : i < n
        · have gi : (i : Int) < (n : Int) := by omega
          have HBI := Lib.hid hb
          have hroom := room_my_u32 _ _ _ _ _ _ _ hr
          have hsub : ((n - i : Nat) : Int) = (n : Int) - (i : Int) := by omega
          rw [hsub] at hroom
          clear hb hr hsub
          go_wp2_with fail
          refine hroom.mono ?_
          rintro e w2 ⟨rfl, hr2, hb2⟩
          clear hroom
          have HB2 := Lib.hid hb2
          clear hb2
          go_wp2_with fail
          refine (push_my_u32 _ w2 rb cb n i _ hr2 _ hlt).mono ?_
          rintro e w3 ⟨rfl, hr3, hb3⟩
          have HR3 := Lib.hid hr3
          have HB3 := Lib.hid hb3
          clear hr2 hr3 hb3
          go_wp2
          go_roundw
          case rel =>
            refine ⟨i + 1, by omega, by go_num, ?_, HBI.out.trans (HB2.out.trans HB3.out)⟩
            rw [vals_succ]
            exact HR3.out
          case measure => simp [intOf]; omega
        · obtain rfl : n = i := by omega
          obtain ⟨vs, hvs⟩ := vals_cons hx.1 (show x < 4294967296 by omega) n hn1
          obtain ⟨j, hj⟩ : ∃ j, n = j + 1 := ⟨n - 1, by omega⟩
          have h1 := hr.recast hj hvs
          have HJ := Lib.hid hj
          have HBI := Lib.hid hb
          clear hr hb hvs hj
          go_wp2_with fail
          refine (pop_my_u32 _ _ rb cb n j _ vs h1).mono ?_
          rintro e w2 ⟨rfl, hr2, hb2⟩
          clear h1
          have HB2 := Lib.hid hb2
          clear hb2
          go_wp2_with fail
          refine (push_my_u32 _ w2 rb cb n j _ hr2 x (by have := HJ.out; omega)).mono ?_
          rintro e w3 ⟨rfl, hr3, hb3⟩
          clear hr2
          have HB3 := Lib.hid hb3
          clear hb3
          go_wp2_with fail
          refine (push_myno_u32 _ w3 rb cb n (j + 1) _ hr3 x (by have := HJ.out; omega)).mono ?_
          rintro e w' ⟨rfl, rfl⟩
          have hl := len_my_u32 _ _ _ _ _ _ _ hr3
          have hroom := room_my_u32 _ _ _ _ _ _ _ hr3
          rw [← HJ.out] at hl hroom
          rw [Nat.sub_self] at hroom
          go_wp2_with fail
          refine hl.mono ?_
          rintro e w' ⟨rfl, rfl⟩
          go_wp2_with fail
          refine hroom.mono ?_
          rintro e w4 ⟨rfl, hr4, hb4⟩
          clear hr3 hl hroom
          have HB4 := Lib.hid hb4
          clear hb4
          go_wp2_with fail
          refine (clear_my_u32 _ w4 rb cb n _ _ hr4).mono ?_
          rintro e w5 ⟨rfl, hr5, hb5⟩
          clear hr4
          have HB5 := Lib.hid hb5
          clear hb5
          go_wp2_with fail
          refine (pop_myno_u32 _ w5 rb cb n _ hr5).mono ?_
          rintro e w' ⟨rfl, rfl⟩
          have hl := len_my_u32 _ _ _ _ _ _ _ hr5
          have hroom := room_my_u32 _ _ _ _ _ _ _ hr5
          rw [Nat.sub_zero] at hroom
          go_wp2_with fail
          refine hl.mono ?_
          rintro e w' ⟨rfl, rfl⟩
          go_wp2_with fail
          refine hroom.mono ?_
          rintro e w6 ⟨rfl, hr6, hb6⟩
          have HR6 := Lib.hid hr6
          have HB6 := Lib.hid hb6
          clear hr5 hl hroom hr6 hb6
          go_wp2
          go_roundw
          case rel => exact ⟨k + 1, by omega, by go_num, HR6.out, HBI.out.trans (HB2.out.trans (HB3.out.trans (HB4.out.trans (HB5.out.trans HB6.out))))⟩
          case measure => simp [intOf]; omega
    · obtain rfl : k = 2 := by omega
      go_wp2_with fail
      refine (works_any _).mono ?_
      rintro e w2 ⟨rfl, hb2⟩
      go_wp2
      go_ret
      refine ⟨rfl, HB.out.trans (hb2.mono (by have := HR.out.size; omega))⟩
end Go.Proofs.Ytdlcmmodhicieaa
