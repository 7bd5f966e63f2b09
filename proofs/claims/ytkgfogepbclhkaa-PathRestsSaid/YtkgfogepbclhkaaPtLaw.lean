/-
  What the walks of the path statements share: a path of the plain config; what no step turns.
-/
import Derived.Test.YtkgfogepbclhkaaPtWk
import Derived.Test.YtkgfogepbclhkaaPtOps
import Derived.Test.YtkgfogepbclhkaaFrame
namespace Go.Proofs.Ytkgfogepbclhkaa
open Go.RowKit
set_option linter.unusedVariables false

/-- A path of the plain config, at the time 0. -/
def pl (k : Int) : PS := PS.start 3 1 60 128 1000 k 10 0
theorem pl_new (w : World) (k : Int) (h0 : 0 ≤ k) (h1 : k ≤ 20) (c : Nat) :
    Calls Try.prog 10 #[.agg #[.int .i64 0, .int .i64 128, .int .i64 0, .int .i64 0, .int .i64 0, .int .i64 1000, .int .i64 3, .int .i64 1, .int .i64 60, .int .i64 0, .int .i64 0, .int .i64 10, .int .i64 k, .int .i64 0], .int .i64 0] w fun e w' => ∃ g gr gw, e = .returned (.tuple #[.pointer (some ⟨g, 0, none⟩), .int .i64 0]) ∧ PP w' g gr gw (pl k) c ∧ Turn [] w w' ∧ w.heap.size ≤ g ∧ w.heap.size ≤ gr ∧ w.heap.size ≤ gw :=
  pnew_yes w 0 128 0 0 0 1000 3 1 60 0 0 10 k 0 0 c (ptakes_iff.2 ⟨by decide, by decide, h0, h1, by omega, by omega, by omega, by omega⟩)

/-- What no step turns. -/
structure Fix (p q : PS) : Prop where
  lo : q.lo = p.lo
  hi : q.hi = p.hi
  mtu : q.mtu = p.mtu
  may : q.may = p.may
  every : q.every = p.every
theorem Fix.refl (p : PS) : Fix p p := ⟨rfl, rfl, rfl, rfl, rfl⟩
theorem Fix.trans {p q r : PS} (h : Fix p q) (k : Fix q r) : Fix p r := ⟨k.lo.trans h.lo, k.hi.trans h.hi, k.mtu.trans h.mtu, k.may.trans h.may, k.every.trans h.every⟩
theorem fix_sample (p : PS) (t : Int) : Fix p (p.sample t) := by unfold PS.sample; split <;> exact ⟨rfl, rfl, rfl, rfl, rfl⟩
theorem fix_fail (p : PS) : Fix p p.fail := ⟨rfl, rfl, rfl, rfl, rfl⟩
theorem fix_answered (p : PS) : Fix p p.answered := ⟨rfl, rfl, rfl, rfl, rfl⟩
theorem fix_timeout (p : PS) : Fix p p.timeout := ⟨rfl, rfl, rfl, rfl, rfl⟩
theorem fix_late (p : PS) : Fix p p.late := by unfold PS.late; split; exact fix_fail p; exact Fix.refl p
theorem fix_beat (p : PS) (now : Int) : Fix p (p.beat now) := by
  unfold PS.beat
  split
  · exact (fix_late p).trans ⟨rfl, rfl, rfl, rfl, rfl⟩
  · exact Fix.refl p
theorem fix_beaten (p : PS) (s n : Int) : Fix p (p.beaten s n) := by
  unfold PS.beaten
  split
  · exact (fix_answered p).trans (fix_sample _ _)
  · exact Fix.refl p
theorem fix_next (p : PS) (kind n : Int) (full : Bool) (t u : Int) : Fix p (p.next kind n full t u) := by
  unfold PS.next
  repeat' split
  · exact fix_answered p
  · exact fix_sample p t
  · exact ⟨rfl, rfl, rfl, rfl, rfl⟩
  · exact ⟨rfl, rfl, rfl, rfl, rfl⟩
  · exact fix_timeout p
  · exact fix_beat p t
  · exact fix_beaten p t u
  · exact Fix.refl p
theorem sample_size (p : PS) (t : Int) : (p.sample t).size = p.size := by unfold PS.sample; split <;> rfl
theorem late_size (p : PS) : p.late.size = p.size := by unfold PS.late; split <;> rfl
theorem beat_size (p : PS) (t : Int) : (p.beat t).size = p.size := by
  unfold PS.beat
  split
  · exact late_size p
  · rfl
theorem beaten_size (p : PS) (s n : Int) : (p.beaten s n).size = p.size := by
  unfold PS.beaten
  split
  · exact sample_size _ _
  · rfl
theorem sample_bad (p : PS) (t : Int) : (p.sample t).bad = p.bad := by unfold PS.sample; split <;> rfl
theorem sample_opn (p : PS) (t : Int) : (p.sample t).opn = p.opn := by unfold PS.sample; split <;> rfl
/-- A path tells that it fails just where one failure more is one too many. -/
theorem tells_iff {p : PS} {c : Nat} (h : PGood p c) : p.tells = decide (p.bad = p.may) := by
  have := h.bad1
  unfold PS.tells PS.active
  rw [show p.timeout.bad = min p.bad p.may + 1 from rfl, show p.timeout.may = p.may from rfl]
  by_cases hb : p.bad = p.may
  · simp [hb]
    omega
  · simp [hb]
    omega

theorem pt_quiet {P : Program} {f : FuncId} {args : Array Value} {w : World} {n : Nat} {v : Value}
    (h : Calls P f args (w.drewN n) fun e w' => e = .returned v ∧ w.drewN n = w') : Calls P f args (w.drewN n) fun e w'' => e = .returned v ∧ ∃ m, w'' = w.drewN m :=
  h.mono fun _ _ ⟨he, hm⟩ => ⟨he, n, hm.symm⟩
theorem pt_quiet2 {P : Program} {f : FuncId} {args : Array Value} {w : World} {n : Nat} {v : Value}
    (h : Calls P f args (w.drewN n) fun e w' => e = .returned v ∧ ∃ m, w' = (w.drewN n).drewN m) : Calls P f args (w.drewN n) fun e w'' => e = .returned v ∧ ∃ m, w'' = w.drewN m :=
  h.mono fun _ _ ⟨he, m, hm⟩ => ⟨he, n + m, by rw [hm]; unfold World.drewN; simp [Nat.add_assoc]⟩
end Go.Proofs.Ytkgfogepbclhkaa
