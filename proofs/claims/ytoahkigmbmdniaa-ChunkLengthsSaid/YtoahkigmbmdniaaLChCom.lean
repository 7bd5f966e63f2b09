/-
  What the walks of stage 8's laws share: Write whatever the body is, 'large', rows.
-/
import Derived.Test.YtoahkigmbmdniaaCkWorks
import Derived.Test.YtoahkigmbmdniaaRef00c
import Derived.Test.YtoahkigmbmdniaaApart
import Derived.Test.YtoahkigmbmdniaaFrame
namespace Go.Proofs.Ytoahkigmbmdniaa
open Go.RowKit
set_option linter.unusedVariables false

theorem chunkBox (W : World) (k f : Int) (v : Value) : Arr (W.alloc (.cells #[.int .u8 k, .int .u8 f, v] 24)) W.heap.size 24 [.int .u8 k, .int .u8 f, v] := arr_new _ _ _
theorem chunkBelow (W : World) (k f : Int) (v : Value) : Below W.heap.size W (W.alloc (.cells #[.int .u8 k, .int .u8 f, v] 24)) := (Below.refl _ _).alloc (Nat.le_refl _) _

/-- What Write answers. -/
def encOf (k f : Int) (zs : List Int) : List Int := if zs.length ≤ 65531 then encC k f zs else []
theorem encOf_yes {k f : Int} {zs : List Int} (h : zs.length ≤ 65531) : encOf k f zs = encC k f zs := by unfold encOf; rw [if_pos h]
theorem encOf_no {k f : Int} {zs : List Int} (h : ¬ zs.length ≤ 65531) : encOf k f zs = [] := by unfold encOf; rw [if_neg h]
theorem encOf_byt {k f : Int} {zs : List Int} (k0 : 0 ≤ k) (k1 : k < 256) (f0 : 0 ≤ f) (f1 : f < 256) (hz : Byt zs) : Byt (encOf k f zs) := by
  by_cases h : zs.length ≤ 65531
  · rw [encOf_yes h]; exact encC_byt k0 k1 f0 f1 hz
  · rw [encOf_no h]; exact Byt.nil
theorem encOf_len (k f : Int) (zs : List Int) : (encOf k f zs).length ≤ 65538 := by
  by_cases h : zs.length ≤ 65531
  · rw [encOf_yes h, encC_len]; have := up4_le (4 + zs.length); omega
  · rw [encOf_no h]; simp

/-- A row that holds just these bytes, made behind 'base'. -/
structure Made (base : Nat) (w : World) (r : ARow) (bs : List Int) : Prop where
  ok : r.ok w
  val : r.val = .slice r.addr bs.length bs.length
  far : ∀ b, r.blk = some b → base ≤ b
  reads : Reads w r.addr bs.length bs
theorem Made.keep {base : Nat} {w w' : World} {r : ARow} {bs : List Int} (h : Made base w r bs) (hb : Below w.heap.size w w') : Made base w' r bs :=
  ⟨ARow.ok_of h.ok (fun g hg hl => hb.block g hl), h.val, h.far, h.reads.below hb⟩
theorem Made.lower {base base' : Nat} {w : World} {r : ARow} {bs : List Int} (h : Made base w r bs) (hb : base' ≤ base) : Made base' w r bs := ⟨h.ok, h.val, fun b e => by have := h.far b e; omega, h.reads⟩
theorem Made.lt {base : Nat} {w : World} {r : ARow} {bs : List Int} (h : Made base w r bs) (b : Nat) (e : r.blk = some b) : b < w.heap.size := by
  have h0 := h.ok
  match r, h0, e with
  | some (g, _, _), h0, e => cases e; exact h0.1.lt

theorem write_any (k f : Int) (a : Option Addr) (n c : Nat) (zs : List Int) (w : World) (hr : Reads w a n zs) (hz : Byt zs) (k0 : 0 ≤ k) (k1 : k < 256) (f0 : 0 ≤ f) (f1 : f < 256) :
    Calls Try.prog 13 #[.agg #[.int .u8 k, .int .u8 f, .slice a n c]] w fun e w' =>
      ∃ r : ARow, e = .returned (.slice r.addr (encOf k f zs).length (encOf k f zs).length) ∧ Made w.heap.size w' r (encOf k f zs) ∧ Below w.heap.size w w' := by
  have hl := hr.1
  by_cases hn : n ≤ 65531
  · refine (write_yes k f a n c zs w hr hn).mono ?_
    rintro e w' ⟨g, rfl, hg, hk, hb⟩
    rw [encOf_yes (by omega)]
    have hlen : (encC k f zs).length = up4 (4 + n) := by rw [encC_len, hl]
    have := up4_le (4 + n)
    refine ⟨some (g, (encC k f zs).length, encC k f zs), by rw [hlen]; rfl, ⟨⟨hk, encC_byt k0 k1 f0 f1 hz, Nat.le_refl _, by omega⟩, rfl, ?_, hk.readsAll _ rfl⟩, hb⟩
    intro b e
    cases e
    exact hg
  · refine (write_no k f a n c w (by omega)).mono ?_
    rintro e w' ⟨rfl, hb⟩
    rw [encOf_no (by omega)]
    exact ⟨none, rfl, ⟨trivial, rfl, fun b e => (by cases e), Reads.zero _ _⟩, hb⟩
theorem rwrite_any (k f : Int) (a : Option Addr) (n c : Nat) (zs : List Int) (w : World) (hr : Reads w a n zs) :
    Calls Try.prog 15 #[.agg #[.int .u8 k, .int .u8 f, .slice a n c]] w fun e w' =>
      ∃ a' c', e = .returned (.slice a' (encOf k f zs).length c') ∧ Reads w' a' (encOf k f zs).length (encOf k f zs) ∧ Below w.heap.size w w' := by
  have hl := hr.1
  by_cases hn : n ≤ 65531
  · refine (rwrite_yes k f a n c zs w hr hn).mono ?_
    rintro e w' ⟨a', c', rfl, hrow, hb⟩
    rw [encOf_yes (by omega)]
    have hlen : (encC k f zs).length = up4 (4 + n) := by rw [encC_len, hl]
    rw [hlen]
    exact ⟨a', c', rfl, hrow.reads, hb⟩
  · refine (rwrite_no k f a n c w (by omega)).mono ?_
    rintro e w' ⟨rfl, hb⟩
    rw [encOf_no (by omega)]
    exact ⟨none, 0, rfl, Reads.zero _ _, hb⟩

set_option maxHeartbeats 800000 in
theorem large_any (k f : Int) (a : Option Addr) (n c : Nat) (w : World) (b : Bool) (hb : b = decide (131072 < n)) :
    Calls Try.prog 10 #[.agg #[.int .u8 k, .int .u8 f, .slice a n c]] w fun e w' => e = .returned (.bool b) ∧ Below w.heap.size w w' := by
  have hbb := chunkBelow w k f (.slice a n c)
  have ha := chunkBox w k f (.slice a n c)
  have c2 := ha.cell (i := 2) rfl
  have HB := Lib.hid hbb
  clear hbb ha
  by_cases h : 131072 < n
  · have hg : (131072 : Int) < n := by omega
    rw [show b = true by rw [hb]; simpa using h]
    clear hb h
    go_enter Try.func10, Try.ntmps10
    go_wp2
    go_ret
    exact ⟨rfl, HB.out⟩
  · have hg : ¬ (131072 : Int) < n := by omega
    rw [show b = false by rw [hb]; simpa using h]
    clear hb h
    go_enter Try.func10, Try.ntmps10
    go_wp2
    go_ret
    exact ⟨rfl, HB.out⟩
end Go.Proofs.Ytoahkigmbmdniaa
