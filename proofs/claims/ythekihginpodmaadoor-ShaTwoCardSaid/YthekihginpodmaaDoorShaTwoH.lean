/-
  Two states, each with a row beside it, apart from one another.
-/
import Derived.Test.YthekihginpodmaaDoorShaHeld
namespace Go.Proofs.YthekihginpodmaaDoor
open Go.RowKit
set_option linter.unusedVariables false

/-- What a state and its row hold: the state's place, the row's slice, the bytes. -/
structure Pr where
  p : Addr
  a : Option Addr
  c : Nat
  zs : List Int
/-- The pair lies in W, in these blocks. -/
def PrIn (St : World → Addr → List Nat → List Int → Prop) (x : Pr) (fs : List Nat) (W : World) : Prop := Held St x.p x.zs x.a x.zs.length x.c x.zs fs W
/-- Two pairs, apart, made since w0. -/
def Two (St : World → Addr → List Nat → List Int → Prop) (w0 : World) (x y : Pr) (W : World) : Prop :=
  ∃ fs gs, PrIn St x fs W ∧ PrIn St y gs W ∧ (∀ b ∈ fs, b ∉ gs) ∧ (∀ b ∈ fs, w0.heap.size ≤ b) ∧ (∀ b ∈ gs, w0.heap.size ≤ b) ∧ Below w0.heap.size w0 W
section
variable {St : World → Addr → List Nat → List Int → Prop} {w0 W W' : World} {x y : Pr}
theorem Two.swap (h : Two St w0 x y W) : Two St w0 y x W := by
  obtain ⟨fs, gs, h1, h2, h3, h4, h5, h6⟩ := h
  exact ⟨gs, fs, h2, h1, fun b hb hn => h3 b hn hb, h5, h4, h6⟩
theorem Two.below (h : Two St w0 x y W) : Below w0.heap.size w0 W := by obtain ⟨fs, gs, _, _, _, _, _, h6⟩ := h; exact h6
theorem Two.reads (h : Two St w0 x y W) : Reads W x.a x.zs.length x.zs := by obtain ⟨fs, gs, h1, _⟩ := h; exact Held.reads h1
theorem Two.le (h : Two St w0 x y W) : x.zs.length ≤ x.c := by obtain ⟨fs, gs, h1, _⟩ := h; exact Held.le h1
theorem Two.keep (K : StOk St) (h : Two St w0 x y W) (hb : Below W.heap.size W W') : Two St w0 x y W' := by
  obtain ⟨fs, gs, h1, h2, h3, h4, h5, h6⟩ := h
  exact ⟨fs, gs, Held.keep K h1 hb, Held.keep K h2 hb, h3, h4, h5, h6.trans (hb.mono h6.size)⟩
theorem two_of (K : StOk St) {fs gs fs' : List Nat} {x' : Pr} (h2 : PrIn St y gs W) (h3 : ∀ b ∈ fs, b ∉ gs) (h4 : ∀ b ∈ fs, w0.heap.size ≤ b) (h5 : ∀ b ∈ gs, w0.heap.size ≤ b) (h6 : Below w0.heap.size w0 W)
    (h7 : PrIn St x' fs' W') (h8 : ∀ b ∈ fs', b ∈ fs ∨ W.heap.size ≤ b) (h9 : Turn fs W W') : Two St w0 x' y W' := by
  have hlt := Held.lt K h2
  refine ⟨fs', gs, h7, Held.turn K h2 h9 (fun b hb hn => h3 b hn hb), fun b hb hn => ?_, fun b hb => ?_, h5, h6.trans (h9.below h6.size h4)⟩
  · rcases h8 b hb with h | h
    · exact h3 b h hn
    · have := hlt b hn; omega
  · rcases h8 b hb with h | h
    · exact h4 b h
    · exact Nat.le_trans h6.size h
/-- A piece is written into the first state and appended to its row. -/
theorem two_write (K : StOk St) (h : Two St w0 x y W) (bz : Byt x.zs) (a2 : Option Addr) (m c2 : Nat) (ys : List Int) (hr : Reads w0 a2 m ys) (hy : Byt ys) (hc : m ≤ c2) (hm : c2 ≤ maxLen) (hl : x.zs.length + m ≤ 1099511627776) (ht : Tab w0) :
    Calls Tryd.prog 17 #[.pointer (some x.p), .slice a2 m c2] W fun e W' => e = .returned (.tuple #[]) ∧ Below w0.heap.size w0 W' ∧
      ∃ a' c' W3, (Builtin.append_ #[22, 22] 22 #[.slice x.a x.zs.length x.c, .slice a2 m c2]).run Tryd.prog W' = .ok (.slice a' (x.zs.length + m) c') W3 ∧ RowKit.Hid (Two St w0 ⟨x.p, a', c', x.zs ++ ys⟩ y W3) := by
  obtain ⟨fs, gs, h1, h2, h3, h4, h5, h6⟩ := h
  refine (held_write K h1 bz a2 m c2 ys (hr.below h6) hy hc hm hl (ht.below h6 ht.lt) (fun g hg hn => ?_) (fun h0 q hq hn => ?_)).mono ?_
  · have := h4 _ hn; have := ht.lt g hg; omega
  · rcases hr.2 with h7 | ⟨b, off, ha, hlt, _⟩
    · omega
    · rw [ha] at hq
      cases hq
      have := h4 _ hn
      simp at this
      omega
  rintro e W' ⟨rfl, fs', h7, h8, h9⟩
  have hb1 : Below w0.heap.size w0 W' := h6.trans (h9.below h6.size h4)
  have hlt := Held.lt K h2
  have h2' : PrIn St y gs W' := Held.turn K h2 h9 (fun b hb hn => h3 b hn hb)
  have h3' : ∀ b ∈ fs', b ∉ gs := fun b hb hn => by
    rcases h8 b hb with h | h
    · exact h3 b h hn
    · have := hlt b hn; omega
  have h4' : ∀ b ∈ fs', w0.heap.size ≤ b := fun b hb => by
    rcases h8 b hb with h | h
    · exact h4 b h
    · exact Nat.le_trans h6.size h
  obtain ⟨a', c', W3, hrun, h10⟩ := held_append K h7 a2 m c2 ys (hr.below hb1) hl
  obtain ⟨fs3, h10, h11, h12⟩ := h10.out
  refine ⟨rfl, hb1, a', c', W3, hrun, Lib.hid (two_of K h2' h3' h4' h5 hb1 (x' := ⟨x.p, a', c', x.zs ++ ys⟩) ?_ h11 h12)⟩
  unfold PrIn
  simp only [List.length_append, hr.1]
  exact h10
theorem two_sum (K : StOk St) (h : Two St w0 x y W) (bz : Byt x.zs) (hl : x.zs.length ≤ 1099511627776) (ht : Tab w0) :
    Calls Tryd.prog 18 #[.pointer (some x.p)] W fun e W' => e = .returned (dv (sha x.zs)) ∧ Two St w0 x y W' := by
  obtain ⟨fs, gs, h1, h2, h3, h4, h5, h6⟩ := h
  refine (held_sum K h1 bz hl (ht.below h6 ht.lt) (fun g hg hn => ?_)).mono ?_
  · have := h4 _ hn; have := ht.lt g hg; omega
  · rintro e W' ⟨rfl, fs', h7, h8, h9⟩
    exact ⟨rfl, two_of K h2 h3 h4 h5 h6 h7 h8 h9⟩
/-- A second state beside the first. -/
theorem two_new (K : StOk St) {p : Addr} (h : Own St w0 p [] W) (ht : Tab w0) : Calls Tryd.prog 16 #[] W fun e W' => ∃ q, e = .returned (.pointer (some q)) ∧ Two St w0 ⟨p, none, 0, []⟩ ⟨q, none, 0, []⟩ W' := by
  obtain ⟨bs, h1, h2, h3⟩ := h
  have hlt := K.lt _ _ _ _ h1
  refine (K.new W (ht.below h3 ht.lt)).mono ?_
  rintro e W' ⟨q, cs, rfl, h4, h5, h6⟩
  exact ⟨q, rfl, bs, cs, held_new (K.turn _ _ _ _ _ _ h1 (Turn.of_below h6) (fun b _ hn => by cases hn)), held_new h4, fun b hb hn => by have := hlt b hb; have := h5 b hn; omega, h2, fun b hb => Nat.le_trans h3.size (h5 b hb), h3.trans (h6.mono h3.size)⟩
end
end Go.Proofs.YthekihginpodmaaDoor
