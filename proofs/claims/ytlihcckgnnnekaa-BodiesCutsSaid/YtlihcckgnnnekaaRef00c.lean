/-
  Contracts of the reference package 00: Kept, where it is true.
-/
import Derived.Test.YtlihcckgnnnekaaRef00b
namespace Go.Proofs.Ytlihcckgnnnekaa
open Go.RowKit
set_option linter.unusedVariables false

set_option maxHeartbeats 400000 in
theorem kept_yes (b : Option Addr) (g n cb : Nat) (zs : List Int) (w : World) (hk : Blk w g (zs ++ List.replicate 16 90)) (hb : Reads w b n zs) (za : Byt zs) (hn : n ≤ 140737488355328) :
    Calls Try.prog 20 #[.slice (some ⟨g, 0, none⟩) n (n + 16), .slice b n cb] w fun e w' => e = .returned (.bool true) ∧ Below w.heap.size w w' := by
  have hl := hb.1
  have hr : Reads w (some ⟨g, 0, none⟩) n zs := by
    have := hk.reads 0 n (by simp; omega)
    simpa [hl] using this
  have HC := Lib.hid (fun W => fun h1 h2 => eqBytes_yes (some ⟨g, 0, none⟩) b n (n + 16) cb n zs zs W h1 h2 za (by omega) rfl)
  have HR := Lib.hid hr
  have HB := Lib.hid hb
  have HK := Lib.hid hk
  have HL := Lib.hid hl
  clear hl hr hb hk
  go_enter Try.func20, Try.ntmps20
  go_wp2_with fail
  refine (HC.out w HR.out HB.out).mono ?_
  rintro e w1 ⟨rfl, hb1, _⟩
  have HK1 := Lib.hid (HK.out.below hb1)
  go_wp2
  go_loop [6] (fun i => ∃ k : Nat, k ≤ 16 ∧ i = .int .i64 k) (fun i => 16 - (intOf i).toNat)
  case atStart => exact ⟨0, Nat.zero_le _, rfl⟩
  case round =>
    obtain ⟨k, hk, rfl⟩ := hrel
    by_cases hlt : k < 16
    · have hc : w1.cell? ⟨g, n + k, none⟩ = some (.int .u8 90) := by
        have h := HK1.out.cell (i := n + k) (by have := HL.out; simp; omega)
        rw [h]
        have := HL.out
        rw [List.getElem?_append_right (by omega), List.getElem?_replicate, if_pos (by omega)]
        rfl
      go_wp2
      go_round
      case rel => exact ⟨k + 1, by omega, by go_num⟩
      case measure => simp [intOf]; omega
    · go_wp2
      go_ret
      exact ⟨rfl, hb1⟩
theorem roomy_in {w : World} {g n : Nat} {zs : List Int} (h : Blk w g (zs ++ List.replicate 16 90)) (hl : zs.length = n) : Reads w (some ⟨g, 0, none⟩) n zs := by
  subst hl
  have := h.reads 0 zs.length (by simp)
  simpa using this
end Go.Proofs.Ytlihcckgnnnekaa
