/-
  Package path, what is reckoned: what a path is, and what is done with it. Program apart.
-/
import Derived.Test.YtkgfogepbclhkaaRtMath
import Derived.Test.YtkgfogepbclhkaaWnMath
namespace Go.Proofs.Ytkgfogepbclhkaa

/-- A path: its estimator's numbers, its window's, its own. -/
structure PS where
  x : Int
  lo : Int
  hi : Int
  any : Bool
  S : Int
  V : Int
  mtu : Int
  most : Int
  size : Int
  thr : Int
  part : Int
  may : Int
  bad : Int
  every : Int
  due : Int
  opn : Bool

namespace PS
def answered (p : PS) : PS := { p with bad := 0, opn := false }
def sample (p : PS) (t : Int) : PS := if t < 0 then p else { p with x := nX (nS p.any p.S (min t 1048576)) (nV p.any p.S p.V (min t 1048576)) p.lo p.hi, any := true, S := nS p.any p.S (min t 1048576), V := nV p.any p.S p.V (min t 1048576) }
def acked (p : PS) (n : Int) (full : Bool) : PS := { p with size := akS p.mtu p.most p.size p.thr p.part n full, part := akP p.most p.size p.thr p.part n full }
def fast (p : PS) : PS := { p with size := min p.size (wT p.mtu p.size), thr := wT p.mtu p.size, part := 0 }
def lost (p : PS) : PS := { p with size := p.mtu, thr := wT p.mtu p.size, part := 0 }
def fail (p : PS) : PS := { p with bad := min p.bad p.may + 1, x := min (2 * p.x) p.hi }
def active (p : PS) : Bool := decide (p.bad ≤ p.may)
def timeout (p : PS) : PS := p.lost.fail
def tells (p : PS) : Bool := p.active && !p.timeout.active
def late (p : PS) : PS := if p.opn then p.fail else p
def sent (p : PS) (now : Int) : PS := { p with opn := true, due := min now 2305843009213693952 + p.x + p.every }
def isDue (p : PS) (now : Int) : Bool := decide (p.due ≤ now)
def beat (p : PS) (now : Int) : PS := if p.isDue now then p.late.sent now else p
def canBe (p : PS) (s n : Int) : Bool := p.opn && decide (0 ≤ s) && decide (s ≤ n)
def beaten (p : PS) (s n : Int) : PS := if p.canBe s n then p.answered.sample (n - s) else p

/-- What is done with a path. -/
def next (p : PS) (kind n : Int) (full : Bool) (t u : Int) : PS :=
  if kind = 0 then p.answered else if kind = 1 then p.sample t else if kind = 2 then p.acked n full else if kind = 3 then p.fast else if kind = 4 then p.timeout else if kind = 5 then p.beat t else if kind = 6 then p.beaten t u else p
/-- What that answers. -/
def out (p : PS) (kind t u : Int) : Bool := if kind = 4 then p.tells else if kind = 5 then p.isDue t else if kind = 6 then p.canBe t u else false
/-- A new path. -/
def start (first lo hi mtu most may every now : Int) : PS := ⟨first, lo, hi, false, 0, 0, mtu, most, 2 * mtu, most, 0, may, 0, every, now + every, false⟩
end PS

/-- What is so of each path behind at most c things done. -/
structure PGood (p : PS) (c : Nat) : Prop where
  est : Good p.x p.lo p.hi p.any p.S p.V
  win : WGood p.mtu p.most p.size p.thr p.part c
  may0 : 0 ≤ p.may
  may1 : p.may ≤ 20
  bad0 : 0 ≤ p.bad
  bad1 : p.bad ≤ p.may + 1
  every0 : 1 ≤ p.every
  every1 : p.every ≤ 1048576
  due0 : 0 ≤ p.due
  due1 : p.due ≤ 2305843009215791104

section
variable {p : PS} {c : Nat}
theorem PGood.more (h : PGood p c) {c' : Nat} (hc : c ≤ c') : PGood p c' := { h with win := h.win.more hc }
theorem PGood.answered (h : PGood p c) : PGood p.answered c := { h with bad0 := Int.le_refl _, bad1 := by have := h.may0; show (0 : Int) ≤ p.may + 1; omega }
theorem PGood.sample (h : PGood p c) (t : Int) : PGood (p.sample t) c := by
  unfold PS.sample
  by_cases ht : t < 0
  · rw [if_pos ht]; exact h
  · rw [if_neg ht]
    exact { h with est := h.est.sample (t := min t 1048576) (by omega) (by omega) }
theorem PGood.acked (h : PGood p c) (n : Int) (full : Bool) : PGood (p.acked n full) (c + 1) := { h with win := (h.win.acked n full).1 }
theorem PGood.fast (h : PGood p c) : PGood p.fast c := { h with win := h.win.fast c }
theorem PGood.lost (h : PGood p c) : PGood p.lost c := { h with win := h.win.timeout c }
theorem PGood.fail (h : PGood p c) : PGood p.fail c := by
  have h1 := h.bad0
  have h2 := h.may0
  refine { h with est := h.est.back, bad0 := ?_, bad1 := ?_ }
  · show (0 : Int) ≤ min p.bad p.may + 1; omega
  · show min p.bad p.may + 1 ≤ p.may + 1; omega
theorem PGood.timeout (h : PGood p c) : PGood p.timeout c := h.lost.fail
theorem PGood.late (h : PGood p c) : PGood p.late c := by
  unfold PS.late
  split
  · exact h.fail
  · exact h
theorem PGood.sent (h : PGood p c) {now : Int} (hn : 0 ≤ now) : PGood (p.sent now) c := by
  obtain ⟨a1, a2, a3, a4, _⟩ := h.est
  have h1 := h.every0
  have h2 := h.every1
  refine { h with due0 := ?_, due1 := ?_ }
  · show (0 : Int) ≤ min now 2305843009213693952 + p.x + p.every; omega
  · show min now 2305843009213693952 + p.x + p.every ≤ 2305843009215791104; omega
theorem PGood.beat (h : PGood p c) (now : Int) : PGood (p.beat now) c := by
  unfold PS.beat
  by_cases hd : p.isDue now = true
  · rw [if_pos hd]
    have := h.due0
    exact h.late.sent (by have := of_decide_eq_true hd; omega)
  · rw [if_neg hd]; exact h
theorem PGood.beaten (h : PGood p c) (s n : Int) : PGood (p.beaten s n) c := by
  unfold PS.beaten
  split
  · exact h.answered.sample _
  · exact h
theorem PGood.next (h : PGood p c) (kind n : Int) (full : Bool) (t u : Int) : PGood (p.next kind n full t u) (c + 1) := by
  unfold PS.next
  have hc : c ≤ c + 1 := by omega
  repeat' split
  · exact h.answered.more hc
  · exact (h.sample t).more hc
  · exact h.acked n full
  · exact h.fast.more hc
  · exact h.timeout.more hc
  · exact (h.beat t).more hc
  · exact (h.beaten t u).more hc
  · exact h.more hc
end

/-- The configs that New takes. -/
def ptakes (first lo hi mtu most may every now : Int) : Bool :=
  takes first lo hi && (wtakes mtu most && (decide (0 ≤ may) && decide (may ≤ 20) && decide (1 ≤ every) && decide (every ≤ 1048576) && decide (0 ≤ now) && decide (now ≤ 2305843009213693952)))
theorem ptakes_iff {first lo hi mtu most may every now : Int} : ptakes first lo hi mtu most may every now = true ↔
    takes first lo hi = true ∧ wtakes mtu most = true ∧ 0 ≤ may ∧ may ≤ 20 ∧ 1 ≤ every ∧ every ≤ 1048576 ∧ 0 ≤ now ∧ now ≤ 2305843009213693952 := by
  unfold ptakes
  simp [and_assoc]
theorem ptakes_good {first lo hi mtu most may every now : Int} (h : ptakes first lo hi mtu most may every now = true) (c : Nat) : PGood (PS.start first lo hi mtu most may every now) c := by
  obtain ⟨h1, h2, h3, h4, h5, h6, h7, h8⟩ := ptakes_iff.1 h
  refine ⟨takes_good h1, wtakes_good h2 c, h3, h4, Int.le_refl _, ?_, h5, h6, ?_, ?_⟩
  · show (0 : Int) ≤ may + 1; omega
  · show (0 : Int) ≤ now + every; omega
  · show now + every ≤ 2305843009215791104; omega
end Go.Proofs.Ytkgfogepbclhkaa
