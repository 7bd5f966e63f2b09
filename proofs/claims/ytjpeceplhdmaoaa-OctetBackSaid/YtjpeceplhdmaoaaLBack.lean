/-
  The walk of OctetBack.
-/
import Derived.Test.YtjpeceplhdmaoaaWorks
import Derived.Test.YtjpeceplhdmaoaaFrame
import Derived.Test.YtjpeceplhdmaoaaRef00b
namespace Go.Proofs.Ytjpeceplhdmaoaa
open Go.RowKit
set_option linter.unusedVariables false

theorem octetBack_long (a : Option Addr) (len cap : Nat) (x : Int) (w : World) (h : 4096 < len) (hm : len ≤ 9223372036854775807) :
    Calls Try.prog 8 #[.slice a len cap, .int .u64 x] w fun e w' => e = .returned (.bool true) ∧ Below w.heap.size w w' := by
  go_enter Try.func8, Try.ntmps8
  go_wp2_with (go_at_call 11; refine (works_any _).mono ?_; rintro e w' ⟨rfl, hb⟩)
  go_ret
  exact ⟨rfl, hb⟩

set_option maxHeartbeats 1600000 in
set_option maxRecDepth 100000 in
theorem octetBack_walk (a0 : Option Addr) (len0 cap0 : Nat) (z0 : List Int) (a1 : Int) (w : World) (w0 : IsRow .u8 w a0 len0 cap0 z0) (w1 : (Lit.int .u64 a1).wf = true) :
    Calls Try.prog 8 #[.slice a0 len0 cap0, .int .u64 a1] w fun e w' => e = .returned (.bool true) ∧ Below w.heap.size w w' := by
  obtain ⟨hr, hbyt, hcap, hmax⟩ := w0.reads
  obtain ⟨x0, x1⟩ := wf_u64_in w1
  unfold maxLen at hmax
  clear w0 w1
  by_cases hlong : 4096 < len0
  · exact octetBack_long a0 len0 cap0 a1 w hlong (by omega)
  have hshort : (len0 : Int) ≤ 4096 := by omega
  generalize z0.take len0 = zs at hr hbyt
  have HR := Lib.hid hr
  have HB := Lib.hid hbyt
  clear hr hbyt
  go_enter Try.func8, Try.ntmps8
  go_wp2_with fail
  go_loopw [6] (fun i wr => ∃ k : Nat, k ≤ 4 ∧ i = .int .i64 k ∧ Below (w.heap.size + 1) (w.alloc (.cells #[.int .i64 1, .int .i64 2, .int .i64 4, .int .i64 8] 3)) wr) (fun i _ => 4 - (intOf i).toNat)
  case atStart => exact ⟨0, by omega, rfl, Below.refl _ _⟩
  case round =>
    obtain ⟨k, hk, rfl, hb⟩ := hrel
    have HBl := Lib.hid (show Below w.heap.size w wr from ((Below.refl _ _).alloc (Nat.le_refl _) _).trans (hb.mono (by omega)))
    by_cases hlt : k < 4
    · obtain ⟨n, hn, hc⟩ : ∃ n : Nat, sizB (n : Int) = true ∧ wr.cell? ⟨w.heap.size, k, none⟩ = some (.int .i64 (n : Int)) := by
        have hc := fun j (hj : j < 4) => hb.cell (p := ⟨w.heap.size, j, none⟩) (by simp)
        match k, hlt with
        | 0, _ => exact ⟨1, by decide, by rw [hc 0 (by omega)]; simp⟩
        | 1, _ => exact ⟨2, by decide, by rw [hc 1 (by omega)]; simp⟩
        | 2, _ => exact ⟨4, by decide, by rw [hc 2 (by omega)]; simp⟩
        | 3, _ => exact ⟨8, by decide, by rw [hc 3 (by omega)]; simp⟩
      have hn8 : 1 ≤ n ∧ n ≤ 8 := by have := (sizB_iff n).1 hn; omega
      obtain ⟨hn1, hn8⟩ := hn8
      have HN := Lib.hid hn
      have HB0 := Lib.hid hb
      clear hn hb
      go_wp2_with fail
      refine (put_yes a0 len0 cap0 n a1 zs wr (HR.out.below HBl.out) (by omega) x0 x1 HN.out).mono ?_
      rintro e w2 ⟨rfl, hb2, hk2⟩
      have HB2 := Lib.hid hb2
      have HK2 := Lib.hid hk2
      have HL := Lib.hid (show (zs ++ enc a1 n).length = len0 + n by simp [HR.out.1])
      clear hb2 hk2
      go_wp2_with fail
      refine (get_yes _ (len0 + n) _ len0 n (zs ++ enc a1 n) w2 (HK2.out.readsAll _ HL.out.symm) (HB.out.append (enc_byt _ _)) (by omega) HN.out (by omega)).mono ?_
      rintro e w3 ⟨rfl, rfl⟩
      have en : num (((zs ++ enc a1 n).drop len0).take n) = a1 % 256 ^ n := by
        have h1 : (zs ++ enc a1 n).drop len0 = enc a1 n := by rw [← HR.out.1]; simp
        rw [h1, List.take_of_length_le (by simp), num_enc a1 x0]
      obtain ⟨y, hy⟩ : ∃ y, y = num (((zs ++ enc a1 n).drop len0).take n) := ⟨_, rfl⟩
      rw [← hy]
      rw [en] at hy
      have HY := Lib.hid hy
      clear en hy
      go_wp2_with fail
      refine (eqBytes_yes _ a0 len0 _ cap0 len0 zs zs w2 (by have := HK2.out.reads 0 len0 (by rw [HL.out]; omega); simpa [HR.out.1] using this) ((HR.out.below HBl.out).below HB2.out) HB.out (by omega) rfl).mono ?_
      rintro e w3 ⟨rfl, hb3, _⟩
      have HB3 := Lib.hid hb3
      have HK3 := Lib.hid (HK2.out.below hb3)
      have HE := Lib.hid (show Below (w.heap.size + 1) (w.alloc (.cells #[.int .i64 1, .int .i64 2, .int .i64 4, .int .i64 8] 3)) w3 from by
        have s1 := HB0.out.size
        have s2 := HB2.out.size
        simp at s1
        exact (HB0.out.trans (HB2.out.mono (by omega))).trans (hb3.mono (by omega)))
      clear hb3
      go_wp2_with fail
      go_loop [11, 12] (fun l i => ∃ j : Nat, j ≤ n ∧ l = .int .u64 (a1 / 256 ^ j) ∧ i = .int .i64 ((len0 : Int) + (n : Int) - 1 - (j : Int))) (fun _ i => (intOf i - len0 + 1).toNat)
      case atStart => exact ⟨0, Nat.zero_le _, by simp, by simp⟩
      case round =>
        obtain ⟨j, hj, rfl, rfl⟩ := hrel
        by_cases hjn : j < n
        · have hc : w3.cell? ⟨wr.heap.size, len0 + n - 1 - j, none⟩ = some (.int .u8 (a1 / 256 ^ j % 256)) := by
            rw [HK3.out.cell (by rw [HL.out]; omega)]
            have h1 := HR.out.1
            rw [List.getElem?_append_right (by omega), show len0 + n - 1 - j - zs.length = n - 1 - j from by omega, enc_at a1 n j hjn]
            rfl
          have hd0 : 0 ≤ a1 / 256 ^ j := Int.ediv_nonneg x0 (Int.le_of_lt (Int.pow_pos (by omega)))
          have hd1 : a1 / 256 ^ j ≤ 18446744073709551615 := Int.le_trans (Int.ediv_le_self _ x0) x1
          have HD := Lib.hid (div_pow_succ a1 j)
          go_wp2
          go_round
          case rel => exact ⟨j + 1, by omega, by rw [HD.out], congrArg (Value.int .i64) (by omega)⟩
          case measure => simp [intOf]; omega
        · by_cases h8 : n = 8
          · subst h8
            have f : (y != a1) = false := by
              have h1 : a1 % 256 ^ 8 = a1 := Int.emod_eq_of_lt x0 (by omega)
              rw [HY.out, h1]; simp
            have f' : (y == a1) = true := by simpa using f
            go_wp2
            go_roundw
            case rel => exact ⟨k + 1, by omega, by go_num, HE.out⟩
            case measure => simp [intOf]; omega
          · have h124 : n = 1 ∨ n = 2 ∨ n = 4 := by have := (sizB_iff n).1 HN.out; omega
            rcases h124 with rfl | rfl | rfl
            · have f : (y != a1 % 256) = false := by rw [HY.out, show (256 : Int) ^ 1 = 256 from rfl]; simp
              have f' : (y == a1 % 256) = true := by simpa using f
              go_wp2
              go_roundw
              case rel => exact ⟨k + 1, by omega, by go_num, HE.out⟩
              case measure => simp [intOf]; omega
            · have f : (y != a1 % 65536) = false := by rw [HY.out, show (256 : Int) ^ 2 = 65536 from rfl]; simp
              have f' : (y == a1 % 65536) = true := by simpa using f
              go_wp2
              go_roundw
              case rel => exact ⟨k + 1, by omega, by go_num, HE.out⟩
              case measure => simp [intOf]; omega
            · have f : (y != a1 % 4294967296) = false := by rw [HY.out, show (256 : Int) ^ 4 = 4294967296 from rfl]; simp
              have f' : (y == a1 % 4294967296) = true := by simpa using f
              go_wp2
              go_roundw
              case rel => exact ⟨k + 1, by omega, by go_num, HE.out⟩
              case measure => simp [intOf]; omega
    · go_wp2_with (go_at_call 11; refine (works_any _).mono ?_; rintro e w' ⟨rfl, hb4⟩)
      go_ret
      exact ⟨rfl, HBl.out.trans (hb4.mono HBl.out.size)⟩
end Go.Proofs.Ytjpeceplhdmaoaa
