/-
  Two rings of numbers, apart from one another.
-/
import Derived.Test.YtdlcmmodhicieaaRingU32
namespace Go.Proofs.Ytdlcmmodhicieaa
open Go.RowKit
set_option linter.unusedVariables false

/-- Two rings whose blocks are all of the call's own, from B on, and no block is of both. -/
def TwoRings (T : TypeId) (B : Nat) (w : World) (ra ca na ma : Nat) (fa : List Value) (rb cb nb mb : Nat) (fb : List Value) : Prop :=
  ∃ ga gb, IsRing T 1 w ra ca ga na ma fa ∧ IsRing T 1 w rb cb gb nb mb fb ∧ (∀ k ∈ blocks ra ca ga, B ≤ k) ∧ (∀ k ∈ blocks rb cb gb, B ≤ k) ∧ ∀ k ∈ blocks ra ca ga, k ∉ blocks rb cb gb
section
variable {T B : Nat} {w w' : World} {ra ca na ma rb cb nb mb : Nat} {fa fb : List Value}
theorem TwoRings.symm (h : TwoRings T B w ra ca na ma fa rb cb nb mb fb) : TwoRings T B w rb cb nb mb fb ra ca na ma fa := by
  obtain ⟨ga, gb, h1, h2, h3, h4, h5⟩ := h
  exact ⟨gb, ga, h2, h1, h4, h3, fun k hk hk2 => h5 k hk2 hk⟩
theorem TwoRings.recast {ma' mb' : Nat} {fa' fb' : List Value} (h : TwoRings T B w ra ca na ma fa rb cb nb mb fb) (h1 : ma = ma') (h2 : fa = fa') (h3 : mb = mb') (h4 : fb = fb') : TwoRings T B w ra ca na ma' fa' rb cb nb mb' fb' := by
  subst h1 h2 h3 h4; exact h
theorem TwoRings.left (h : TwoRings T B w ra ca na ma fa rb cb nb mb fb) : MyRing T 1 B w ra ca na ma fa := by
  obtain ⟨ga, gb, h1, h2, h3, h4, h5⟩ := h
  exact ⟨ga, h1, h3⟩
theorem TwoRings.right (h : TwoRings T B w ra ca na ma fa rb cb nb mb fb) : MyRing T 1 B w rb cb nb mb fb := h.symm.left
theorem TwoRings.made (hm : MyRing T 1 B w ra ca na ma fa) (h : IsRing T 1 w' (w.heap.size + 1) w.heap.size none nb 0 []) (ht : Turn [] w w') : TwoRings T B w' ra ca na ma fa (w.heap.size + 1) w.heap.size nb 0 [] ∧ Below B w w' := by
  have hs := hm.size
  obtain ⟨g, h1, h2⟩ := hm
  refine ⟨⟨g, none, h1.turn ht (fun _ _ => by simp), h, h2, fun k hk => ?_, fun k hk hk2 => ?_⟩, ht.below (by omega) (fun k hk => by cases hk)⟩
  · rcases mem_blocks.1 hk with h | h | h
    · omega
    · omega
    · cases h
  · have := h1.lt k hk
    rcases mem_blocks.1 hk2 with h | h | h
    · omega
    · omega
    · cases h
theorem two_after {ga gb : Option Nat} {ma' : Nat} {fa' : List Value} (h1 : IsRing T 1 w ra ca ga na ma fa) (h2 : IsRing T 1 w rb cb gb nb mb fb) (h3 : ∀ k ∈ blocks ra ca ga, B ≤ k) (h4 : ∀ k ∈ blocks rb cb gb, B ≤ k) (h5 : ∀ k ∈ blocks ra ca ga, k ∉ blocks rb cb gb)
    (h : (∃ g', IsRing T 1 w' ra ca g' na ma' fa' ∧ ∀ k, g' = some k → ga = some k ∨ w.heap.size ≤ k) ∧ Turn (blocks ra ca ga) w w') : TwoRings T B w' ra ca na ma' fa' rb cb nb mb fb ∧ Below B w w' := by
  obtain ⟨⟨g', h6, h7⟩, ht⟩ := h
  have hlt : B ≤ w.heap.size := by
    have := h1.lt ra (mem_blocks.2 (.inl rfl))
    have := h3 ra (mem_blocks.2 (.inl rfl))
    omega
  have hin : ∀ k ∈ blocks ra ca g', k ∈ blocks ra ca ga ∨ w.heap.size ≤ k := by
    intro k hk
    rcases mem_blocks.1 hk with h | h | h
    · exact .inl (mem_blocks.2 (.inl h))
    · exact .inl (mem_blocks.2 (.inr (.inl h)))
    · rcases h7 k h with h | h
      · exact .inl (mem_blocks.2 (.inr (.inr h)))
      · exact .inr h
  refine ⟨⟨g', gb, h6, h2.turn ht (fun k hk hk2 => h5 k hk2 hk), fun k hk => ?_, h4, fun k hk hk2 => ?_⟩, ht.below hlt h3⟩
  · rcases hin k hk with h | h
    · exact h3 k h
    · omega
  · rcases hin k hk with h | h
    · exact h5 k h hk2
    · have := h2.lt k hk2; omega
end
section
variable (B : Nat) (w : World) (ra ca na ma : Nat) (fa : List Value) (rb cb nb mb : Nat) (fb : List Value)
theorem push_two (h : TwoRings 81 B w ra ca na ma fa rb cb nb mb fb) (x : Int) (hm : ma < na) :
    Calls Try.prog 23 #[.pointer (some ⟨ra, 0, none⟩), .int .u32 x] w fun e w' => e = .returned (.bool true) ∧ TwoRings 81 B w' ra ca na (ma + 1) (fa ++ [.int .u32 x]) rb cb nb mb fb ∧ Below B w w' := by
  obtain ⟨ga, gb, h1, h2, h3, h4, h5⟩ := h
  exact (push_yes_u32 w ra ca ga na ma fa h1 x hm).mono fun e w' ⟨he, hr⟩ => ⟨he, two_after h1 h2 h3 h4 h5 hr⟩
theorem pop_two (v : Value) (vs : List Value) (h : TwoRings 81 B w ra ca na (ma + 1) (v :: vs) rb cb nb mb fb) :
    Calls Try.prog 24 #[.pointer (some ⟨ra, 0, none⟩)] w fun e w' => e = .returned (.tuple #[v, .bool true]) ∧ TwoRings 81 B w' ra ca na ma vs rb cb nb mb fb ∧ Below B w w' := by
  obtain ⟨ga, gb, h1, h2, h3, h4, h5⟩ := h
  exact (pop_yes_u32 w ra ca ga na ma v vs h1).mono fun e w' ⟨he, ⟨g', h6, h7⟩, ht⟩ => ⟨he, two_after h1 h2 h3 h4 h5 ⟨⟨g', h6, fun k hk => .inl (h7 k hk)⟩, ht⟩⟩
theorem new_two (hm : MyRing 81 1 B w ra ca na ma fa) (n : Nat) (h1 : 1 ≤ n) (h2 : n ≤ 1048576) :
    Calls Try.prog 22 #[.int .i64 n] w fun e w' => ∃ rb cb, e = .returned (.tuple #[.pointer (some ⟨rb, 0, none⟩), .int .i64 0]) ∧ TwoRings 81 B w' ra ca na ma fa rb cb n 0 [] ∧ Below B w w' :=
  (new_yes_u32 w n h1 h2).mono fun e w' ⟨he, h, ht⟩ => ⟨_, _, he, TwoRings.made hm h ht⟩
end
end Go.Proofs.Ytdlcmmodhicieaa
