/-
  Package bodies: put.
-/
import Derived.Test.YtlihcckgnnnekaaBdSame
namespace Go.Proofs.Ytlihcckgnnnekaa
open Go.RowKit
set_option linter.unusedVariables false

theorem grown_refl (w : World) (r : Option Nat) : w.grownBy w r := ⟨rfl, rfl, rfl, Nat.le_refl _, fun _ _ _ => rfl⟩
/-- What lies in a block of another type stays while a row of bytes grows. -/
theorem Row8.arr {base : Nat} {w w' : World} {a : Option Addr} {n c : Nat} {zs : List Int} (h : Row8 base w a n c zs) (hg : w.grownBy w' (Value.slice a n c).ownBlock) {g : Nat} {T : TypeId} {cs : List Value} (hA : Arr w g T cs) (hT : T ≠ 5) : Arr w' g T cs := by
  refine (hg.block g hA.lt (fun e => ?_)).trans hA
  cases a with
  | none => simp [Value.ownBlock] at e
  | some p =>
    simp [Value.ownBlock] at e
    subst e
    obtain ⟨_, _, cs', hk⟩ := h.far p rfl
    unfold Arr at hA
    rw [hA] at hk
    simp at hk
    exact hT hk.2
theorem Row8.grown_below {base : Nat} {w w' : World} {a : Option Addr} {n c : Nat} {zs : List Int} (h : Row8 base w a n c zs) (hb : base ≤ w.heap.size) (hg : w.grownBy w' (Value.slice a n c).ownBlock) : Below base w w' := by
  refine ⟨hg.os, hg.tape, hg.output, hg.size, fun k hk => hg.block k (by omega) (fun e => ?_)⟩
  have := (h.lt k e.symm).1
  omega
/-- 'append' of bytes that came in, or of none, with what it turns. -/
theorem Row8.appendsG {base : Nat} {w : World} {a : Option Addr} {n c : Nat} {zs : List Int} (h : Row8 base w a n c zs) (hb : base ≤ w.heap.size) (b : Option Addr) (m c2 : Nat) (ys : List Int) (hr : Reads w b m ys) (hn : n + m ≤ 2199023255552) :
    ∃ a' c' W3, (Builtin.append_ #[24, 24] 24 #[.slice a n c, .slice b m c2]).run Try.prog w = .ok (.slice a' (n + m) c') W3 ∧
      RowKit.Hid (Row8 base W3 a' (n + m) c' (zs ++ ys) ∧ w.grownBy W3 (Value.slice a n c).ownBlock) := by
  obtain ⟨i0, hi0, hz⟩ := Option.map_eq_some_iff.1 Try.infoR
  simp only [Prod.mk.injEq] at hz
  obtain ⟨hz0, hz1, hz2⟩ := hz
  have hlen : ys.length = m := hr.1
  by_cases hm : m = 0
  · subst hm
    have hy : ys = [] := List.eq_nil_of_length_eq_zero hlen
    subst hy
    exact ⟨a, c, w, run_append_zero w _ _ i0 Try.underlying24 hi0 a b n c c2 h.le, Lib.hid ⟨by simpa using h, grown_refl _ _⟩⟩
  · rcases hr.2 with h0 | ⟨bk, off, rfl, hlt, hc⟩
    · omega
    · obtain ⟨a', c', W3, hrun, hrow, hg⟩ := h.grow hb ⟨bk, off, none⟩ m c2 ys hlen (fun j u hu => by
          rw [List.getElem?_map] at hu
          obtain ⟨y, hy, rfl⟩ := Option.map_eq_some_iff.1 hu
          have hj : j < m := by have := (List.getElem?_eq_some_iff.1 hy).1; omega
          rw [show (⟨bk, off, none⟩ : Addr).add j = ⟨bk, off + j, none⟩ from Addr.add_mid _ _ _, hc j hj, hy, Option.getD_some]) (by omega) (by omega)
      exact ⟨a', c', W3, hrun, Lib.hid ⟨hrow, hg⟩⟩

set_option maxRecDepth 4000 in
set_option maxHeartbeats 800000 in
theorem put_any (base : Nat) (a : Option Addr) (len cap n : Nat) (zs : List Int) (xs : List Int) (g : Nat) (w : World) (hr : Row8 base w a len cap zs) (hb : base ≤ w.heap.size) (hl : len ≤ 1099511627776) (hk : xs.length ≤ 1048576)
    (hg : Arr w g 86 (xs.map (Value.int .u64))) (hx : ∀ x ∈ xs, 0 ≤ x ∧ x ≤ 18446744073709551615) (hn : sizB (n : Int) = true) :
    Calls Try.prog 48 #[.slice a len cap, .int .i64 (n : Int), .slice (some ⟨g, 0, none⟩) xs.length xs.length] w fun e w' =>
      ∃ a' c', e = .returned (.slice a' (len + n * xs.length) c') ∧ Below base w w' ∧ Row8 base w' a' (len + n * xs.length) c' (zs ++ encs xs n) := by
  have hn8 : 1 ≤ n ∧ n ≤ 8 := by have := (sizB_iff n).1 hn; omega
  have HN := Lib.hid hn
  have HX := Lib.hid hx
  clear hn hx
  go_enter Try.func48, Try.ntmps48
  go_wp2
  go_loopw [0, 11] (fun v i wr => ∃ (j : Nat) (a2 : Option Addr) (c2 : Nat), j ≤ xs.length ∧ i = .int .i64 (j : Int) ∧ v = .slice a2 (len + n * j) c2 ∧ Row8 base wr a2 (len + n * j) c2 (zs ++ encs (xs.take j) n) ∧ Below base w wr ∧ Arr wr g 86 (xs.map (Value.int .u64))) (fun _ i _ => xs.length - (intOf i).toNat)
  case atStart => exact ⟨0, a, cap, Nat.zero_le _, rfl, rfl, by simpa [encs] using hr, Below.refl _ _, hg⟩
  case round =>
    obtain ⟨j, a2, c2, hj, rfl, rfl, hrow, hbl, harr⟩ := hrel
    have hnj : n * j ≤ 8 * 1048576 := Nat.mul_le_mul hn8.2 (by omega)
    by_cases hjn : j < xs.length
    · obtain ⟨x, hx⟩ : ∃ x, xs[j]? = some x := ⟨xs[j], by simp [hjn]⟩
      have hx2 := HX.out x (List.mem_of_getElem? hx)
      have hc := harr.cell (i := j) (v := .int .u64 x) (by simp [hx])
      have hput := put_yes none 0 0 n x [] wr (Reads.zero _ _) (by omega) hx2.1 hx2.2 HN.out
      simp only [Nat.zero_add, List.nil_append] at hput
      have HP := Lib.hid hput
      have HR := Lib.hid (And.intro hrow (And.intro hbl harr))
      clear hput hrow hbl harr hr hg
      have hsz0 : base ≤ wr.heap.size := Nat.le_trans hb HR.out.2.1.size
      have HM := Lib.hid (show ∀ w1, Below wr.heap.size wr w1 → Blk w1 wr.heap.size (enc x n) → ∃ a' c' W3, (Builtin.append_ #[24, 24] 24 #[.slice a2 (len + n * j) c2, .slice (some ⟨wr.heap.size, 0, none⟩) n n]).run Try.prog w1 = .ok (.slice a' (len + n * (j + 1)) c') W3 ∧
          RowKit.Hid (Row8 base W3 a' (len + n * (j + 1)) c' (zs ++ encs (xs.take (j + 1)) n) ∧ Below base w W3 ∧ Arr W3 g 86 (xs.map (Value.int .u64))) from by
        intro w1 hb1 hk1
        have hrow1 := HR.out.1.keep hb1
        have hsz : base ≤ w1.heap.size := Nat.le_trans hsz0 hb1.size
        obtain ⟨a3, c3, W3, hrun, H3⟩ := hrow1.appendsG hsz (some ⟨wr.heap.size, 0, none⟩) n n (enc x n) (hk1.readsAll n (by simp)) (by omega)
        have hb3 := hrow1.grown_below hsz H3.out.2
        have hA3 := hrow1.arr H3.out.2 (HR.out.2.2.keep hb1) (by decide)
        have e : len + n * j + n = len + n * (j + 1) := by rw [Nat.mul_add]; omega
        have h := H3.out.1
        rw [e] at h hrun
        refine ⟨a3, c3, W3, hrun, Lib.hid ⟨?_, HR.out.2.1.trans ((hb1.mono hsz0).trans hb3), hA3⟩⟩
        rw [encs_next hx, ← List.append_assoc]
        exact h)
      go_wp2_with (first
        | (go_at_call 71; refine HP.out.mono ?_; rintro e w1 ⟨rfl, hb1, hk1⟩; obtain ⟨a3, c3, W3, hrun, H3⟩ := HM.out w1 hb1 hk1; have HRUN := Lib.hid hrun; clear hb1 hk1 hrun)
        | (at_builtin; refine wpList_append_run rfl (.tmp 15) (.tmp 18) 24 rfl _ _ _ _ rfl rfl HRUN.out ?_))
      exact ⟨⟨j + 1, a3, c3, by omega, congrArg (Value.int .i64) (by omega), rfl, H3.out⟩, by simp [intOf]; omega⟩
    · obtain rfl : j = xs.length := by omega
      have HR := Lib.hid (And.intro hrow hbl)
      clear hrow hbl harr hr hg
      go_wp2
      go_ret
      exact ⟨_, _, rfl, HR.out.2, by simpa using HR.out.1⟩
end Go.Proofs.Ytlihcckgnnnekaa
