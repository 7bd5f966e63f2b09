/-
  The contract of package octet's extend.
-/
import Derived.Test.YtlihcckgnnnekaaOct1
namespace Go.Proofs.Ytlihcckgnnnekaa
set_option linter.unusedVariables false
open Go.RowKit

theorem Try.infoB : (Try.prog.info? 5).map (fun i => (i.zero, i.size, i.bytes)) = some (some (.int .u8 0), 1, 1) := by kernel_rfl
theorem Try.sizeB : (Try.prog.info? 5).map (·.size) = some 1 := by kernel_rfl

set_option maxHeartbeats 400000 in
theorem extend_any (a : Option Addr) (len cap k : Nat) (zs : List Int) (w : World) (hr : Reads w a len zs) (hl : len + k ≤ 281474976710656) :
    Calls Try.prog 74 #[.slice a len cap, .int .i64 (k : Int)] w fun e w' =>
      e = .returned (.slice (some ⟨w.heap.size, 0, none⟩) (len + k) (len + k)) ∧ Below w.heap.size w w' ∧ Blk w' w.heap.size (zs ++ List.replicate k 0) := by
  have hmk := fun W => run_make_row' (P := Try.prog) 24 5 (.int .u8 0) 1 Try.underlying24 Try.infoB rfl .i64 .i64 (len + k) (by omega) (by omega) W
  have ec : ((len + k : Nat) : Int) = (len : Int) + (k : Int) := by omega
  rw [ec] at hmk
  clear ec
  have H0 := Lib.hid (made_zero w 5 (len + k))
  go_enter Try.func74, Try.ntmps74
  go_wp2_with (with_reducible refine wpList_copy_splice rfl (.tmp 11) (.tmp 12) 24 24 rfl 5 Try.underlying24 Try.sizeB _ _ _ _ _ _ rfl rfl w.heap.size 0 (List.replicate (len + k) (.int .u8 0)) 5 H0.out (zs.map (Value.int .u8)) ?hn ?hpos ?hfit (oneByte zs) w.heap.size w ?hb (Nat.le_refl _) ?_)
  case hn => simp [hr.1]
  case hpos =>
    intro hp
    obtain ⟨b, off, rfl⟩ := hr.some_of (by have := hr.1; omega)
    refine ⟨_, rfl, fun j v hv => ?_⟩
    have hc := hr.copied j (.int .u8 v) (by simp [hv])
    exact (World.cell?_alloc_lt w _ _ (World.block_lt_of_cell? w _ hc)).trans hc
  case hfit => simp [hr.1]
  case hb => exact (Below.refl _ _).alloc (Nat.le_refl _) _
  intro w' hg hb
  go_wp2
  go_ret
  refine ⟨rfl, hb, ?_⟩
  have e := hg.out
  unfold Blk
  rw [e]
  simp [splice, hr.1]
end Go.Proofs.Ytlihcckgnnnekaa
