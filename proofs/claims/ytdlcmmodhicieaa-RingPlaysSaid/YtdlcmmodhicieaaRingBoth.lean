/-
  A ring of texts and a reference's ring beside it, apart from one another.
-/
import Derived.Test.YtdlcmmodhicieaaRingRef
namespace Go.Proofs.Ytdlcmmodhicieaa
open Go.RowKit
set_option linter.unusedVariables false

def BothR (B : Nat) (w : World) (rb cb n m1 : Nat) (f1 : List Value) (qb m2 : Nat) (f2 : List Value) : Prop :=
  ∃ g gq, IsRing 78 1 w rb cb g n m1 f1 ∧ IsRR w qb gq n m2 f2 ∧ (∀ k ∈ blocks rb cb g, B ≤ k) ∧ ∀ k ∈ rblocks qb gq, B ≤ k ∧ k ∉ blocks rb cb g
section
variable {B : Nat} {w w' : World} {rb cb n m1 : Nat} {f1 : List Value} {qb m2 : Nat} {f2 : List Value}
theorem BothR.size (h : BothR B w rb cb n m1 f1 qb m2 f2) : B < w.heap.size := by
  obtain ⟨g, gq, h1, h2, h3, h4⟩ := h
  have := h1.lt rb (mem_blocks.2 (.inl rfl))
  have := h3 rb (mem_blocks.2 (.inl rfl))
  omega
theorem BothR.turn (h : BothR B w rb cb n m1 f1 qb m2 f2) (ht : Turn [] w w') : BothR B w' rb cb n m1 f1 qb m2 f2 := by
  obtain ⟨g, gq, h1, h2, h3, h4⟩ := h
  exact ⟨g, gq, h1.turn ht (fun _ _ => by simp), h2.turn ht (fun _ _ => by simp), h3, h4⟩
theorem BothR.recast {m1' m2' : Nat} {f1' f2' : List Value} (h : BothR B w rb cb n m1 f1 qb m2 f2) (e1 : m1 = m1') (e2 : f1 = f1') (e3 : m2 = m2') (e4 : f2 = f2') : BothR B w rb cb n m1' f1' qb m2' f2' := by
  subst e1 e2 e3 e4; exact h
theorem BothR.left (h : BothR B w rb cb n m1 f1 qb m2 f2) : MyRing 78 1 B w rb cb n m1 f1 := by
  obtain ⟨g, gq, h1, h2, h3, h4⟩ := h
  exact ⟨g, h1, h3⟩
theorem BothR.len2 (h : BothR B w rb cb n m1 f1 qb m2 f2) : f2.length = m2 := by
  obtain ⟨g, gq, h1, h2, h3, h4⟩ := h
  exact h2.len
theorem BothR.open (h : BothR B w rb cb n m1 f1 qb m2 f2) : ∃ a c, w.cell? ⟨qb, 0, none⟩ = some (.int .i64 n) ∧ w.cell? ⟨qb, 1, none⟩ = some (.slice a m2 c) ∧ w.frozen? ⟨qb, 1, none⟩ = false ∧ qb < w.heap.size := by
  obtain ⟨g, gq, h1, h2, h3, h4⟩ := h
  obtain ⟨a, c, c0, c1, f1, _, hl⟩ := h2.open
  exact ⟨a, c, c0, c1, f1, hl⟩
theorem both_left {g gq : Option Nat} {m' : Nat} {f' : List Value} (h1 : IsRing 78 1 w rb cb g n m1 f1) (h2 : IsRR w qb gq n m2 f2) (h3 : ∀ k ∈ blocks rb cb g, B ≤ k) (h4 : ∀ k ∈ rblocks qb gq, B ≤ k ∧ k ∉ blocks rb cb g)
    (h : (∃ g', IsRing 78 1 w' rb cb g' n m' f' ∧ ∀ k, g' = some k → g = some k ∨ w.heap.size ≤ k) ∧ Turn (blocks rb cb g) w w') : BothR B w' rb cb n m' f' qb m2 f2 ∧ Below B w w' := by
  have hh := my_after h1 h3 h
  obtain ⟨⟨g', h6, h7⟩, ht⟩ := h
  have hs := h1.lt rb (mem_blocks.2 (.inl rfl))
  have hs2 := h3 rb (mem_blocks.2 (.inl rfl))
  refine ⟨⟨g', gq, h6, h2.turn ht (fun k hk => (h4 k hk).2), fun k hk => ?_, fun k hk => ⟨(h4 k hk).1, fun hk2 => ?_⟩⟩, hh.2⟩
  · rcases mem_blocks.1 hk with h | h | h
    · exact h3 k (mem_blocks.2 (.inl h))
    · exact h3 k (mem_blocks.2 (.inr (.inl h)))
    · rcases h7 k h with h | h
      · exact h3 k (mem_blocks.2 (.inr (.inr h)))
      · omega
  · have hlt := h2.lt k hk
    rcases mem_blocks.1 hk2 with h | h | h
    · exact (h4 k hk).2 (mem_blocks.2 (.inl h))
    · exact (h4 k hk).2 (mem_blocks.2 (.inr (.inl h)))
    · rcases h7 k h with h | h
      · exact (h4 k hk).2 (mem_blocks.2 (.inr (.inr h)))
      · omega
theorem both_right {g gq : Option Nat} {m' : Nat} {f' : List Value} (h1 : IsRing 78 1 w rb cb g n m1 f1) (h2 : IsRR w qb gq n m2 f2) (h3 : ∀ k ∈ blocks rb cb g, B ≤ k) (h4 : ∀ k ∈ rblocks qb gq, B ≤ k ∧ k ∉ blocks rb cb g)
    (h : (∃ g', IsRR w' qb g' n m' f' ∧ ∀ k, g' = some k → gq = some k ∨ w.heap.size ≤ k) ∧ Turn (rblocks qb gq) w w') : BothR B w' rb cb n m1 f1 qb m' f' ∧ Below B w w' := by
  obtain ⟨⟨g', h6, h7⟩, ht⟩ := h
  have hs := h1.lt rb (mem_blocks.2 (.inl rfl))
  have hs2 := h3 rb (mem_blocks.2 (.inl rfl))
  refine ⟨⟨g, g', h1.turn ht (fun k hk hk2 => (h4 k hk2).2 hk), h6, h3, fun k hk => ?_⟩, ht.below (by omega) (fun k hk => (h4 k hk).1)⟩
  rcases mem_rblocks.1 hk with h | h
  · exact h4 k (mem_rblocks.2 (.inl h))
  · rcases h7 k h with h | h
    · exact h4 k (mem_rblocks.2 (.inr h))
    · refine ⟨by omega, fun hk2 => ?_⟩
      have := h1.lt k hk2
      omega
end
section
variable {B : Nat} {w : World} {rb cb n m1 : Nat} {f1 : List Value} {qb m2 : Nat} {f2 : List Value}
theorem both_new (B : Nat) (w : World) (hB : B ≤ w.heap.size) (rb cb : Nat) (h : MyRing 78 1 B w rb cb n 0 []) (h1 : 1 ≤ n) (h2 : n ≤ 1048576) :
    Calls Try.prog 12 #[.int .i64 n] w fun e w' => ∃ qb, e = .returned (.tuple #[.pointer (some ⟨qb, 0, none⟩), .int .i64 0]) ∧ BothR B w' rb cb n 0 [] qb 0 [] ∧ Below B w w' := by
  have hs := h.size
  obtain ⟨g, h3, h4⟩ := h
  refine (rnew_yes w n h1 h2).mono fun e w' ⟨he, h5, ht⟩ => ⟨_, he, ⟨g, none, h3.turn ht (fun _ _ => by simp), h5, h4, fun k hk => ?_⟩, ht.below (by omega) (fun k hk => by cases hk)⟩
  rcases mem_rblocks.1 hk with h | h
  · refine ⟨by omega, fun hk2 => ?_⟩
    have := h3.lt k hk2
    omega
  · cases h
theorem bpush_yes (h : BothR B w rb cb n m1 f1 qb m2 f2) (x : ByteArray) (hm : m1 < n) :
    Calls Try.prog 13 #[.pointer (some ⟨rb, 0, none⟩), .string x] w fun e w' => e = .returned (.bool true) ∧ BothR B w' rb cb n (m1 + 1) (f1 ++ [.string x]) qb m2 f2 ∧ Below B w w' := by
  obtain ⟨g, gq, h1, h2, h3, h4⟩ := h
  exact (push_yes_str w rb cb g n m1 f1 h1 x hm).mono fun e w' ⟨he, hr⟩ => ⟨he, both_left h1 h2 h3 h4 hr⟩
theorem bpush_no (h : BothR B w rb cb n m1 f1 qb m2 f2) (x : ByteArray) (hm : n ≤ m1) :
    Calls Try.prog 13 #[.pointer (some ⟨rb, 0, none⟩), .string x] w fun e w' => e = .returned (.bool false) ∧ BothR B w' rb cb n m1 f1 qb m2 f2 ∧ Below B w w' := by
  have hh := h
  obtain ⟨g, gq, h1, h2, h3, h4⟩ := h
  exact (push_no_str w rb cb g n m1 f1 h1 x hm).mono fun e w' ⟨he, hw⟩ => by subst hw; exact ⟨he, hh, Below.refl _ _⟩
theorem bpop_yes {v : Value} {vs : List Value} (h : BothR B w rb cb n (m1 + 1) (v :: vs) qb m2 f2) :
    Calls Try.prog 15 #[.pointer (some ⟨rb, 0, none⟩)] w fun e w' => e = .returned (.tuple #[v, .bool true]) ∧ BothR B w' rb cb n m1 vs qb m2 f2 ∧ Below B w w' := by
  obtain ⟨g, gq, h1, h2, h3, h4⟩ := h
  exact (pop_yes_str w rb cb g n m1 v vs h1).mono fun e w' ⟨he, ⟨g', h6, h7⟩, ht⟩ => ⟨he, both_left h1 h2 h3 h4 ⟨⟨g', h6, fun k hk => .inl (h7 k hk)⟩, ht⟩⟩
theorem bclear (h : BothR B w rb cb n m1 f1 qb m2 f2) :
    Calls Try.prog 19 #[.pointer (some ⟨rb, 0, none⟩)] w fun e w' => e = .returned (.tuple #[]) ∧ BothR B w' rb cb n 0 [] qb m2 f2 ∧ Below B w w' := by
  obtain ⟨g, gq, h1, h2, h3, h4⟩ := h
  exact (clear_str w rb cb g n m1 f1 h1).mono fun e w' ⟨he, ⟨g', h6, h7⟩, ht⟩ => ⟨he, both_left h1 h2 h3 h4 ⟨⟨g', h6, fun k hk => .inl (h7 k hk)⟩, ht⟩⟩
theorem bat_yes (h : BothR B w rb cb n m1 f1 qb m2 f2) (x : Value) (i : Nat) (hx : f1[i]? = some x) (hi : i < m1) :
    Calls Try.prog 17 #[.pointer (some ⟨rb, 0, none⟩), .int .i64 i] w fun e w' => e = .returned (.tuple #[x, .bool true]) ∧ w = w' := by
  obtain ⟨g, gq, h1, h2, h3, h4⟩ := h
  exact at_yes_str w rb cb g n m1 f1 h1 x i hx hi
theorem bat_no (h : BothR B w rb cb n m1 f1 qb m2 f2) (i : Int) (hi : i < 0 ∨ (m1 : Int) ≤ i) :
    Calls Try.prog 17 #[.pointer (some ⟨rb, 0, none⟩), .int .i64 i] w fun e w' => e = .returned (.tuple #[.string ⟨#[]⟩, .bool false]) ∧ w = w' := by
  obtain ⟨g, gq, h1, h2, h3, h4⟩ := h
  exact at_no_str w rb cb g n m1 f1 h1 i hi
theorem bpop_no (h : BothR B w rb cb n 0 f1 qb m2 f2) :
    Calls Try.prog 15 #[.pointer (some ⟨rb, 0, none⟩)] w fun e w' => e = .returned (.tuple #[.string ⟨#[]⟩, .bool false]) ∧ w = w' := by
  obtain ⟨g, gq, h1, h2, h3, h4⟩ := h
  exact pop_no_str w rb cb g n f1 h1
theorem blen (h : BothR B w rb cb n m1 f1 qb m2 f2) : Calls Try.prog 20 #[.pointer (some ⟨rb, 0, none⟩)] w fun e w' => e = .returned (.int .i64 m1) ∧ w = w' := by
  obtain ⟨g, gq, h1, h2, h3, h4⟩ := h
  exact len_str w rb cb g n m1 f1 h1
theorem broom (h : BothR B w rb cb n m1 f1 qb m2 f2) : Calls Try.prog 21 #[.pointer (some ⟨rb, 0, none⟩)] w fun e w' => e = .returned (.int .i64 ((n : Int) - (m1 : Int))) ∧ w.drew = w' := by
  obtain ⟨g, gq, h1, h2, h3, h4⟩ := h
  exact room_draw w rb cb g n m1 f1 h1
theorem qpush_yes (h : BothR B w rb cb n m1 f1 qb m2 f2) (x : ByteArray) (hm : m2 < n) :
    Calls Try.prog 14 #[.pointer (some ⟨qb, 0, none⟩), .string x] w fun e w' => e = .returned (.bool true) ∧ BothR B w' rb cb n m1 f1 qb (m2 + 1) (f2 ++ [.string x]) ∧ Below B w w' := by
  obtain ⟨g, gq, h1, h2, h3, h4⟩ := h
  exact (rpush_yes w qb gq n m2 f2 h2 x hm).mono fun e w' ⟨he, hr⟩ => ⟨he, both_right h1 h2 h3 h4 hr⟩
theorem qpush_no (h : BothR B w rb cb n m1 f1 qb m2 f2) (x : ByteArray) (hm : n ≤ m2) :
    Calls Try.prog 14 #[.pointer (some ⟨qb, 0, none⟩), .string x] w fun e w' => e = .returned (.bool false) ∧ BothR B w' rb cb n m1 f1 qb m2 f2 ∧ Below B w w' := by
  have hs := h.size
  have hh := h
  obtain ⟨g, gq, h1, h2, h3, h4⟩ := h
  exact (rpush_no w qb gq n m2 f2 h2 x hm).mono fun e w' ⟨he, ht⟩ => ⟨he, hh.turn ht, ht.below (by omega) (fun _ hk => by cases hk)⟩
theorem qpop_yes {v : Value} {vs : List Value} (h : BothR B w rb cb n m1 f1 qb (m2 + 1) (v :: vs)) :
    Calls Try.prog 16 #[.pointer (some ⟨qb, 0, none⟩)] w fun e w' => e = .returned (.tuple #[v, .bool true]) ∧ BothR B w' rb cb n m1 f1 qb m2 vs ∧ Below B w w' := by
  obtain ⟨g, gq, h1, h2, h3, h4⟩ := h
  exact (rpop_yes w qb gq n m2 v vs h2).mono fun e w' ⟨he, ⟨g', h6, h7⟩, ht⟩ => ⟨he, both_right h1 h2 h3 h4 ⟨⟨g', h6, fun k hk => .inl (h7 k hk)⟩, ht⟩⟩
theorem qpop_no (h : BothR B w rb cb n m1 f1 qb 0 f2) :
    Calls Try.prog 16 #[.pointer (some ⟨qb, 0, none⟩)] w fun e w' => e = .returned (.tuple #[.string ⟨#[]⟩, .bool false]) ∧ w = w' := by
  obtain ⟨g, gq, h1, h2, h3, h4⟩ := h
  exact rpop_no w qb gq n f2 h2
theorem qat_yes (h : BothR B w rb cb n m1 f1 qb m2 f2) (x : Value) (i : Nat) (hx : f2[i]? = some x) (hi : i < m2) :
    Calls Try.prog 18 #[.pointer (some ⟨qb, 0, none⟩), .int .i64 i] w fun e w' => e = .returned (.tuple #[x, .bool true]) ∧ w = w' := by
  obtain ⟨g, gq, h1, h2, h3, h4⟩ := h
  exact rat_yes w qb gq n m2 f2 h2 x i hx hi
theorem qat_no (h : BothR B w rb cb n m1 f1 qb m2 f2) (i : Int) (hi : i < 0 ∨ (m2 : Int) ≤ i) :
    Calls Try.prog 18 #[.pointer (some ⟨qb, 0, none⟩), .int .i64 i] w fun e w' => e = .returned (.tuple #[.string ⟨#[]⟩, .bool false]) ∧ w = w' := by
  obtain ⟨g, gq, h1, h2, h3, h4⟩ := h
  exact rat_no w qb gq n m2 f2 h2 i hi
/-- The reference's list is set to nil. -/
theorem BothR.wipe (h : BothR B w rb cb n m1 f1 qb m2 f2) : BothR B (w.setCell ⟨qb, 1, none⟩ (.slice none 0 0)) rb cb n m1 f1 qb 0 [] ∧ Below B w (w.setCell ⟨qb, 1, none⟩ (.slice none 0 0)) := by
  obtain ⟨g, gq, h1, h2, h3, h4⟩ := h
  obtain ⟨hr, ht⟩ := h2.put (Win.nil w 1 none) (fun k hk => by cases hk) (Nat.zero_le _)
  exact both_right h1 h2 h3 h4 ⟨⟨none, hr, fun k hk => by cases hk⟩, ht.mono (fun k hk => mem_rblocks.2 (.inl (by simpa using hk)))⟩
end
end Go.Proofs.Ytdlcmmodhicieaa
