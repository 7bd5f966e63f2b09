/-
  A ring of numbers, and beside it a slice of the call's own that is appended to, apart from one another.
-/
import Derived.Test.YtdlcmmodhicieaaRingU32
namespace Go.Proofs.Ytdlcmmodhicieaa
open Go.RowKit
set_option linter.unusedVariables false

def RingWin (B : Nat) (w : World) (rb cb n m : Nat) (flat : List Value) (a : Option Addr) (len c : Nat) (wl : List Value) : Prop :=
  ∃ g gw, IsRing 81 1 w rb cb g n m flat ∧ Win w 1 gw a len c wl ∧ (∀ k ∈ blocks rb cb g, B ≤ k) ∧ ∀ k, gw = some k → B ≤ k ∧ k ∉ blocks rb cb g
section
variable {B : Nat} {w w' : World} {rb cb n m : Nat} {flat : List Value} {a : Option Addr} {len c : Nat} {wl : List Value}
theorem RingWin.ring (h : RingWin B w rb cb n m flat a len c wl) : MyRing 81 1 B w rb cb n m flat := by
  obtain ⟨g, gw, h1, h2, h3, h4⟩ := h
  exact ⟨g, h1, h3⟩
theorem RingWin.recast {m' len' : Nat} {flat' wl' : List Value} (h : RingWin B w rb cb n m flat a len c wl) (h1 : m = m') (h2 : flat = flat') (h3 : len = len') (h4 : wl = wl') : RingWin B w rb cb n m' flat' a len' c wl' := by
  subst h1 h2 h3 h4; exact h
theorem RingWin.start (h : MyRing 81 1 B w rb cb n m flat) : RingWin B w rb cb n m flat none 0 0 [] := by
  obtain ⟨g, h1, h2⟩ := h
  exact ⟨g, none, h1, Win.nil _ _ _, h2, fun k hk => by cases hk⟩
theorem RingWin.at (h : RingWin B w rb cb n m flat a len c wl) {i : Nat} {v : Value} (hv : wl[i]? = some v) : ∃ gb off, a = some ⟨gb, off, none⟩ ∧ w.cell? ⟨gb, off + i, none⟩ = some v ∧ i < len := by
  obtain ⟨g, gw, h1, h2, h3, h4⟩ := h
  have hi := (List.getElem?_eq_some_iff.1 hv).1
  have hl := h2.1
  obtain ⟨gb, off, _, ha, _, _, hf, _⟩ := h2.some_of (by omega)
  exact ⟨gb, off, ha, hf i v hv, by omega⟩
theorem rwin_after {g gw : Option Nat} {m' : Nat} {flat' : List Value} (h1 : IsRing 81 1 w rb cb g n m flat) (h2 : Win w 1 gw a len c wl) (h3 : ∀ k ∈ blocks rb cb g, B ≤ k) (h4 : ∀ k, gw = some k → B ≤ k ∧ k ∉ blocks rb cb g)
    (h : (∃ g', IsRing 81 1 w' rb cb g' n m' flat' ∧ ∀ k, g' = some k → g = some k ∨ w.heap.size ≤ k) ∧ Turn (blocks rb cb g) w w') : RingWin B w' rb cb n m' flat' a len c wl ∧ Below B w w' := by
  have hh := my_after h1 h3 h
  obtain ⟨⟨g', h6, h7⟩, ht⟩ := h
  refine ⟨⟨g', gw, h6, h2.turn ht (fun k hk => (h4 k hk).2), fun k hk => ?_, fun k hk => ⟨(h4 k hk).1, fun hk2 => ?_⟩⟩, hh.2⟩
  · have hs := h1.lt rb (mem_blocks.2 (.inl rfl))
    have hs2 := h3 rb (mem_blocks.2 (.inl rfl))
    rcases mem_blocks.1 hk with h | h | h
    · exact h3 k (mem_blocks.2 (.inl h))
    · exact h3 k (mem_blocks.2 (.inr (.inl h)))
    · rcases h7 k h with h | h
      · exact h3 k (mem_blocks.2 (.inr (.inr h)))
      · omega
  · have hlt := h2.lt k hk
    rcases mem_blocks.1 hk2 with h | h | h
    · exact (h4 k hk).2 (mem_blocks.2 (.inl h))
    · exact (h4 k hk).2 (mem_blocks.2 (.inr (.inl h)))
    · rcases h7 k h with h | h
      · exact (h4 k hk).2 (mem_blocks.2 (.inr (.inr h)))
      · omega
theorem push_rwin (h : RingWin B w rb cb n m flat a len c wl) (x : Int) (hm : m < n) :
    Calls Try.prog 23 #[.pointer (some ⟨rb, 0, none⟩), .int .u32 x] w fun e w' => e = .returned (.bool true) ∧ RingWin B w' rb cb n (m + 1) (flat ++ [.int .u32 x]) a len c wl ∧ Below B w w' := by
  obtain ⟨g, gw, h1, h2, h3, h4⟩ := h
  exact (push_yes_u32 w rb cb g n m flat h1 x hm).mono fun e w' ⟨he, hr⟩ => ⟨he, rwin_after h1 h2 h3 h4 hr⟩
theorem pop_rwin {v : Value} {vs : List Value} (h : RingWin B w rb cb n (m + 1) (v :: vs) a len c wl) :
    Calls Try.prog 24 #[.pointer (some ⟨rb, 0, none⟩)] w fun e w' => e = .returned (.tuple #[v, .bool true]) ∧ RingWin B w' rb cb n m vs a len c wl ∧ Below B w w' := by
  obtain ⟨g, gw, h1, h2, h3, h4⟩ := h
  exact (pop_yes_u32 w rb cb g n m v vs h1).mono fun e w' ⟨he, ⟨g', h6, h7⟩, ht⟩ => ⟨he, rwin_after h1 h2 h3 h4 ⟨⟨g', h6, fun k hk => .inl (h7 k hk)⟩, ht⟩⟩
/-- The slice is appended to. -/
theorem RingWin.append (h : RingWin B w rb cb n m flat a len c wl) (hl : len ≤ 1048576) (x : Int) :
    ∃ a' c' W3, (Builtin.append_ #[42, 42] 42 #[.slice a len c, .slice (some ⟨w.heap.size, 0, none⟩) 1 1]).run Try.prog (w.alloc (.cells #[.int .u32 x] 47)) = .ok (.slice a' (len + 1) c') W3 ∧
      RowKit.Hid (RingWin B W3 rb cb n m flat a' (len + 1) c' (wl ++ [.int .u32 x]) ∧ Below B w W3) := by
  have hs := h.ring.size
  obtain ⟨g, gw, h1, h2, h3, h4⟩ := h
  obtain ⟨i, z, hi, hz, hs1, hby, hzs, hs0⟩ := infoB_at (P := Try.prog) (e := 47) (sz := 1) (by kernel_rfl)
  have hTa : Turn [] w (w.alloc (.cells #[.int .u32 x] 47)) := (Turn.refl _ _).alloc _
  obtain ⟨a', c', W3, gw', happ, hw3, hT3, hg'⟩ := (h2.turn hTa (fun k _ => by simp)).append 42 47 i z i.bytes Try.underlying42 hi hz hs1 rfl hby hzs hs0 ⟨w.heap.size, 0, none⟩ 1 [.int .u32 x] rfl (cell_one_new _ _ _) (by simp [Value.oneCell']) hl (fun _ _ => trivial)
  have hring := (h1.turn hTa (fun k _ => by simp)).turn hT3 (fun k hk hk2 => by
    have := h4 k (by simpa using hk2)
    exact this.2 hk)
  refine ⟨a', c', W3, happ, Lib.hid ⟨⟨g, gw', hring, hw3, h3, fun k hk => ?_⟩, ?_⟩⟩
  · rcases hg' k hk with h | h
    · exact h4 k h
    · have hk2 : w.heap.size ≤ k := Nat.le_trans hTa.size h
      refine ⟨by omega, fun hk3 => ?_⟩
      have := h1.lt k hk3
      omega
  · refine (hTa.below (B := B) (by omega) (fun k hk => by cases hk)).trans (hT3.below (by have := hTa.size; omega) (fun k hk => (h4 k (by simpa using hk)).1))
end
end Go.Proofs.Ytdlcmmodhicieaa
