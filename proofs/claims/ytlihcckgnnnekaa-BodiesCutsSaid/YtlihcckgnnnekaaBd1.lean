/-
  Package bodies: number, put; package bytes: Equal; bodies' same, the reference's number and Same.
-/
import Derived.Test.YtlihcckgnnnekaaBdMath
import Derived.Test.YtlihcckgnnnekaaOct5
import Derived.Test.YtlihcckgnnnekaaRef01b
import Derived.Test.YtlihcckgnnnekaaArr
import Derived.Test.YtlihcckgnnnekaaCkBox
import Derived.Test.YtlihcckgnnnekaaApt
import Derived.Test.YtlihcckgnnnekaaAppends
namespace Go.Proofs.Ytlihcckgnnnekaa
open Go.RowKit
set_option linter.unusedVariables false

set_option maxRecDepth 4000 in
set_option maxHeartbeats 400000 in
theorem num_any (a : Option Addr) (len cap i n : Nat) (zs : List Int) (w : World) (hr : Reads w a len zs) (hbyt : Byt zs) (hl : len ≤ 140737488355328) (hi : i ≤ 140737488355328) (hn : sizB (n : Int) = true) :
    Calls Try.prog 50 #[.slice a len cap, .int .i64 (i : Int), .int .i64 (n : Int)] w fun e w' => e = .returned (.int .u64 (natAt zs i n)) ∧ w = w' := by
  have hn8 : 1 ≤ n ∧ n ≤ 8 := by have := (sizB_iff n).1 hn; omega
  have hz := hr.1
  have hg : Calls Try.prog 72 #[.slice a len cap, .int .i64 (i : Int), .int .i64 (n : Int)] w fun e w' => ∃ x, e = .returned (.tuple #[.int .u64 (natAt zs i n), x]) ∧ w = w' := by
    by_cases h : i + n ≤ len
    · refine (get_yes a len cap i n zs w hr hbyt hl hn h).mono ?_
      rintro e w' ⟨rfl, rfl⟩
      exact ⟨_, by unfold natAt; rw [if_pos (by omega)], rfl⟩
    · refine (get_no a len cap i n w hl (by omega) ?_).mono ?_
      · cases hh : hasB len i n with
        | false => simp
        | true => have := (hasB_iff len i n).1 hh; omega
      · rintro e w' ⟨rfl, rfl⟩
        exact ⟨_, by unfold natAt; rw [if_neg (by omega)], rfl⟩
  generalize natAt zs i n = x at hg ⊢
  have HG := Lib.hid hg
  clear hg hz hr hbyt hn
  go_enter Try.func50, Try.ntmps50
  go_wp2_with fail
  refine HG.out.mono ?_
  rintro e w' ⟨y, rfl, rfl⟩
  go_wp2
  go_ret
  exact ⟨rfl, rfl⟩

set_option maxRecDepth 4000 in
set_option maxHeartbeats 400000 in
theorem numR_any (a : Option Addr) (len cap i n : Nat) (zs : List Int) (w : World) (hr : Reads w a len zs) (hbyt : Byt zs) (hcap : len ≤ cap) (hl : len ≤ 140737488355328) (hi : i ≤ 140737488355328) (hn : sizB (n : Int) = true) :
    Calls Try.prog 53 #[.slice a len cap, .int .i64 (i : Int), .int .i64 (n : Int)] w fun e w' => e = .returned (.int .u64 (natAt zs i n)) ∧ Below w.heap.size w w' := by
  have hn8 : 1 ≤ n ∧ n ≤ 8 := by have := (sizB_iff n).1 hn; omega
  have hz := hr.1
  have hg : Calls Try.prog 76 #[.slice a len cap, .int .i64 (i : Int), .int .i64 (n : Int)] w fun e w' => ∃ x, e = .returned (.tuple #[.int .u64 (natAt zs i n), x]) ∧ Below w.heap.size w w' := by
    by_cases h : i + n ≤ len
    · refine (getR_yes a len cap i n zs w hr hbyt hcap hl hn h).mono ?_
      rintro e w' ⟨rfl, hb⟩
      exact ⟨_, by unfold natAt; rw [if_pos (by omega)], hb⟩
    · refine (getR_no a len cap i n zs w hr hcap hl (by omega) (by omega) ?_).mono ?_
      · cases hh : hasB len i n with
        | false => simp
        | true => have := (hasB_iff len i n).1 hh; omega
      · rintro e w' ⟨rfl, hb⟩
        exact ⟨_, by unfold natAt; rw [if_neg (by omega)], hb⟩
  generalize natAt zs i n = x at hg ⊢
  have HG := Lib.hid hg
  clear hg hz hr hbyt hn
  go_enter Try.func53, Try.ntmps53
  go_wp2_with fail
  refine HG.out.mono ?_
  rintro e w' ⟨y, rfl, hb⟩
  go_wp2
  go_ret
  exact ⟨rfl, hb⟩

theorem conv_reads {W : World} {a : Option Addr} {n c : Nat} {zs : List Int} (h : Reads W a n zs) : (convert 24 9 (.slice a n c)).run Try.prog W = .ok (.string (strOfNums zs)) W := by
  cases a with
  | none =>
    have h0 : zs = [] := by
      rcases h.2 with h2 | ⟨_, _, h2, _⟩
      · exact List.eq_nil_of_length_eq_zero (by rw [h.1, h2])
      · cases h2
    subst h0
    exact run_convert_bytes_nil W _ _ Try.underlying24 Try.underlying5 n c _ Try.underlying9
  | some p =>
    obtain ⟨b, off, spot⟩ := p
    by_cases h0 : n = 0
    · subst h0
      have hz : zs = [] := List.eq_nil_of_length_eq_zero h.1
      subst hz
      have := run_convert_bytes_arg (P := Try.prog) W 24 5 Try.underlying24 Try.underlying5 b off 0 c [] rfl (fun i hi => by omega) 9 Try.underlying9
      rw [run_convert_bytes_string W _ _ _ _ _ _ Try.underlying24 Try.underlying5 Try.underlying9] at this ⊢
      simpa [Conv.bytesToString, loadCells, loadCellsFrom] using this
    · obtain ⟨b', off', e⟩ := h.some_of (by omega)
      cases e
      refine run_convert_bytes_arg W _ _ Try.underlying24 Try.underlying5 b off n c zs h.1 (fun i hi => ?_) _ Try.underlying9
      rcases h.2 with h2 | ⟨b', off', ha, _, hc⟩
      · omega
      · cases ha
        rw [hc i hi]
        simp [List.getD_eq_getElem?_getD]

set_option maxHeartbeats 400000 in
theorem beq_any (a b : Option Addr) (n ca cb m : Nat) (zs ys : List Int) (w : World) (ha : Reads w a n zs) (hb : Reads w b m ys) (za : Byt zs) (zb : Byt ys) :
    Calls Try.prog 81 #[.slice a n ca, .slice b m cb] w fun e w' => e = .returned (.bool (decide (zs = ys))) ∧ w = w' := by
  have h1 := conv_reads (c := ca) ha
  have h2 := conv_reads (c := cb) hb
  rw [← strOfNums_beq za zb]
  go_enter Try.func81, Try.ntmps81
  go_wp2
  go_ret
  exact ⟨rfl, rfl⟩
end Go.Proofs.Ytlihcckgnnnekaa
