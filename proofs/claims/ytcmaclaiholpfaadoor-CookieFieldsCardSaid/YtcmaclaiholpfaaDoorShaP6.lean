/-
  The program's sha: the padding.
-/
import Derived.Test.YtcmaclaiholpfaaDoorShaWhole
import Derived.Test.YtcmaclaiholpfaaDoorShaSum
namespace Go.Proofs.YtcmaclaiholpfaaDoor
open Go.RowKit
set_option linter.unusedVariables false

/-- What stands behind so many bytes. -/
def padOf (n : Nat) : List Int := (128 :: List.replicate (noughts n) 0) ++ lenBytes n
theorem padded_padOf (zs : List Int) : padded zs = zs ++ padOf zs.length := by simp [padded, padOf]
theorem padOf_len (n : Nat) : (padOf n).length = noughts n + 9 := by simp [padOf, lenBytes]
theorem byt_padOf (n : Nat) : Byt (padOf n) := by
  have h := Byt.padded (zs := List.replicate n 0) (Byt.rep (by omega) (by omega) _)
  rw [padded_padOf, List.length_replicate] at h
  intro z hz
  exact h z (List.mem_append_right _ hz)
theorem pow8 (j : Nat) : 56 - 8 * j = 8 * (7 - j) := by omega

theorem blk_first (w : World) (k : Nat) (x : Int) : Blk (w.alloc (.cells ((madeCells #[Value.int .u8 0] (1 + k)).setIfInBounds 0 (.int .u8 x)) 5)) w.heap.size (x :: List.replicate k 0) := by
  unfold Blk
  rw [heap_alloc_new]
  congr 2
  apply Array.toList_inj.1
  rw [Array.toList_setIfInBounds, toList_madeCells_one, Nat.add_comm, List.replicate_succ]
  simp

set_option maxRecDepth 100000 in
set_option maxHeartbeats 1600000 in
theorem ppad_any (w : World) (n : Nat) (hn : n ≤ 1099511627776) :
    Calls Tryd.prog 55 #[.int .u64 n] w fun e w' => ∃ a c, e = .returned (.slice a (padOf n).length c) ∧ Row8 w.heap.size w' a (padOf n).length c (padOf n) ∧ Below w.heap.size w w' := by
  have infoW : (Tryd.prog.info? 5).map (fun i => (i.zero, i.size, i.bytes)) = some (some (.int .u8 0), 1, 1) := by kernel_rfl
  have hz64 := noughts_lt n
  have hmk := fun W => run_make_row' (P := Tryd.prog) 22 5 (.int .u8 0) 1 Tryd.underlying22 infoW rfl .u64 .u64 (1 + noughts n) (by omega) (by omega) W
  rw [show ((1 + noughts n : Nat) : Int) = 1 + (noughts n : Int) by push_cast; rfl] at hmk
  have hb1 := blk_made w (1 + noughts n)
  have hb2 := blk_first w (noughts n) 128
  have c0 := hb1.cell (i := 0) (by simp; omega)
  have f0 := hb1.free 0
  have H2 := Lib.hid hb2
  have q1 : (119 - (n : Int) % 64) % 64 = (noughts n : Int) := by unfold noughts; omega
  have q2 : IntKind.u64.wrap (119 - (n : Int) % 64) = 119 - (n : Int) % 64 := by rw [IntKind.wrap_u64]; omega
  have q3 : IntKind.u64.wrap (1 + (noughts n : Int)) = 1 + (noughts n : Int) := by rw [IntKind.wrap_u64]; omega
  have q4 : IntKind.u64.wrap (8 * (n : Int)) = 8 * (n : Int) := by rw [IntKind.wrap_u64]; omega
  have q5 : (1 + (noughts n : Int)).toNat = 1 + noughts n := by omega
  have q6 : (0 : Int) < 1 + (noughts n : Int) := by omega
  have Q := Lib.hid q1
  clear infoW hb1 hb2
  go_enter Tryd.func55, Tryd.ntmps55
  go_wp2
  clear q1 q2 q3 q5 q6 hmk c0 f0
  rw [Q.out]
  go_loopw [4, 18] (fun t i wr => ∃ (j : Nat) (a' : Option Addr) (c' : Nat), j ≤ 8 ∧ t = .slice a' (1 + noughts n + j) c' ∧ i = .int .i64 (j : Int) ∧ Row8 w.heap.size wr a' (1 + noughts n + j) c' (128 :: List.replicate (noughts n) 0 ++ (lenBytes n).take j) ∧ Below w.heap.size w wr) (fun t _ _ => 1 + noughts n + 8 - lenV t)
  case atStart => exact ⟨0, _, _, by omega, rfl, rfl, by simpa using Row8.of_blk H2.out (Nat.le_refl _) (by simp; omega) (by unfold maxLen; omega), (Below.refl _ _).alloc (Nat.le_refl _) _⟩
  case round =>
    obtain ⟨j, a', c', hj, rfl, rfl, hrow, hb⟩ := hrel
    by_cases hlt : j < 8
    · obtain ⟨a3, c3, w3, happ, H3⟩ := hrow.append hb.size (by omega) (8 * (n : Int) / 2 ^ (56 - 8 * j) % 256)
      have hx : (8 * (n : Int) / 2 ^ (56 - 8 * j) % 256) = ((8 * n / 2 ^ (8 * (7 - j)) % 256 : Nat) : Int) := by rw [pow8]; push_cast; rfl
      have HX := Lib.hid hx
      have HB := Lib.hid hb
      have gj : (j : Int) < 8 := by omega
      have p1 : IntKind.i64.wrap (8 * (j : Int)) = 8 * (j : Int) := by rw [IntKind.wrap_i64]; omega
      have p2 : IntKind.i64.wrap (56 - 8 * (j : Int)) = 56 - 8 * (j : Int) := by rw [IntKind.wrap_i64]; omega
      have p3 : (0 : Int) ≤ 56 - 8 * (j : Int) := by omega
      have p4 : (56 - 8 * (j : Int)).toNat = 56 - 8 * j := by omega
      have p5 : 8 * (j : Int) ≤ 56 := by omega
      clear hrow hb hx
      go_wp2_with (at_builtin; refine wpList_append_run rfl _ _ _ rfl _ _ _ _ rfl rfl happ ?_)
      go_roundw
      case rel =>
        refine ⟨j + 1, a3, c3, by omega, rfl, by go_num, ?_, HB.out.trans H3.out.2⟩
        have h1 := H3.out.1
        rw [HX.out, List.append_assoc, ← lenBytes_snoc n j hlt] at h1
        exact h1
      case measure => simp [lenV]; omega
    · obtain rfl : j = 8 := by omega
      have HR := Lib.hid hrow
      have HB := Lib.hid hb
      clear hrow hb
      go_wp2
      go_ret
      have hlen : (padOf n).length = 1 + noughts n + 8 := by rw [padOf_len]; omega
      have hz : 128 :: List.replicate (noughts n) 0 ++ (lenBytes n).take 8 = padOf n := by
        unfold padOf
        rw [List.take_of_length_le (by simp [lenBytes])]
      rw [hlen, ← hz]
      exact ⟨a', c', rfl, HR.out, HB.out⟩
end Go.Proofs.YtcmaclaiholpfaaDoor
