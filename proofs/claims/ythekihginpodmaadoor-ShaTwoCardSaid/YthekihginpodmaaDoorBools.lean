/-
  A slice of booleans that came in. Program apart.
-/
import Derived.Test.YthekihginpodmaaDoorStructs
namespace Go.Proofs.YthekihginpodmaaDoor
open Go.ChangeShapes Go.WideShapes Go.Deep Go.RowKit
set_option linter.unusedVariables false

/-- A slice of booleans, these its elements. -/
structure IsBools (w : World) (a : Option Addr) (len cap : Nat) (bs : List Bool) : Prop where
  hlen : bs.length = len
  hle : len ≤ cap
  hcap : cap ≤ maxLen
  at' : len = 0 ∨ ∃ b off, a = some ⟨b, off, none⟩ ∧ b < w.heap.size ∧ ∀ (i : Nat) x, bs[i]? = some x → w.cell? ⟨b, off + i, none⟩ = some (.bool x)
theorem IsBools.below {w w' : World} {a : Option Addr} {len cap : Nat} {bs : List Bool} (h : IsBools w a len cap bs) (hb : Below w.heap.size w w') : IsBools w' a len cap bs := by
  refine ⟨h.hlen, h.hle, h.hcap, ?_⟩
  rcases h.at' with h0 | ⟨b, off, ha, hlt, hc⟩
  · exact .inl h0
  · exact .inr ⟨b, off, ha, Nat.lt_of_lt_of_le hlt hb.size, fun i x hx => by rw [hb.cell hlt]; exact hc i x hx⟩
theorem IsBools.get {w : World} {a : Option Addr} {len cap : Nat} {bs : List Bool} (h : IsBools w a len cap bs) {i : Nat} (hi : i < len) : ∃ b off x, a = some ⟨b, off, none⟩ ∧ b < w.heap.size ∧ bs[i]? = some x ∧ w.cell? ⟨b, off + i, none⟩ = some (.bool x) := by
  have hl : i < bs.length := by rw [h.hlen]; exact hi
  rcases h.at' with h0 | ⟨b, off, ha, hlt, hc⟩
  · omega
  · exact ⟨b, off, bs[i], ha, hlt, by simp [hl], hc i _ (by simp [hl])⟩
section
variable {H : Type} {enc : TypeId × Value → H} {P : Program} {w : World} {base : Nat} {spare : Nat → Bool} {held : Bool}
theorem bools_in {t e : TypeId} {fuel : Nat} {a : Option Addr} {len cap : Nat} {x : DataW H × List MemPlace} (ht : P.underlying t = some (.slice e)) (he : P.underlying e = some .bool)
    (ce : P.cellsOf e = 1) (h : DataW.trod enc P w base spare held fuel t [.slice a len cap] = some x) : ∃ bs, IsBools w a len cap bs := by
  rcases open_slice1 ht ce h with ⟨hcs, _⟩ | ⟨x, l, c, m, n, V, D, Pl, hcs, _, hl, hm, hmm, _, hi⟩
  · simp only [List.cons.injEq, and_true, Value.slice.injEq] at hcs
    obtain ⟨rfl, rfl, rfl⟩ := hcs
    exact ⟨[], rfl, Nat.le_refl _, Nat.zero_le _, .inl rfl⟩
  · simp only [List.cons.injEq, and_true, Value.slice.injEq] at hcs
    obtain ⟨rfl, rfl, rfl⟩ := hcs
    have each : ∀ i, i < len → ∃ b : Bool, w.cell? (x.add i) = some (.bool b) := by
      intro i hil
      obtain ⟨hc, hd⟩ := hi i (by rw [hmm]; split <;> omega)
      obtain ⟨b, hb, _⟩ := DataW.trod_bool he hd
      simp only [List.cons.injEq, and_true] at hb
      exact ⟨b, by rw [hc, hb]⟩
    obtain ⟨L, hL, hp⟩ := choose_below len each
    refine ⟨L, hL, hl, hm, ?_⟩
    by_cases h0 : len = 0
    · exact .inl h0
    · have h1 := (hi 0 (by rw [hmm]; split <;> omega)).1
      obtain ⟨b, off, spot⟩ := x
      have hspot : spot = none := by simpa [Addr.add] using World.cell?_spot h1
      subst hspot
      have hadd : ∀ i, (⟨b, off, none⟩ : Addr).add i = ⟨b, off + i, none⟩ := by intro i; unfold Addr.add; split <;> simp_all
      refine .inr ⟨b, off, rfl, World.block_lt_of_cell? w _ h1, fun i r hr => ?_⟩
      rw [← hadd]
      exact hp i r hr
end
end Go.Proofs.YthekihginpodmaaDoor
