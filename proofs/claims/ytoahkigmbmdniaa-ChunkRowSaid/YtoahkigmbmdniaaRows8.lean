/-
  A slice of slices of bytes that came in: its elements, each of them a row of bytes. Program apart.
-/
import Derived.Test.YtoahkigmbmdniaaStructs
namespace Go.Proofs.Ytoahkigmbmdniaa
open Go.ChangeShapes Go.WideShapes Go.Deep Go.RowKit
set_option linter.unusedVariables false

/-- One element: the slice as it lies, and its bytes. -/
structure Sl where
  a : Option Addr
  n : Nat
  c : Nat
  zs : List Int
deriving Inhabited
/-- A slice of slices of bytes, these its elements. -/
structure Rows8 (w : World) (a : Option Addr) (len cap : Nat) (L : List Sl) : Prop where
  hlen : L.length = len
  hle : len ≤ cap
  hcap : cap ≤ maxLen
  at' : len = 0 ∨ ∃ b off, a = some ⟨b, off, none⟩ ∧ b < w.heap.size ∧ ∀ (i : Nat) r, L[i]? = some r → w.cell? ⟨b, off + i, none⟩ = some (.slice r.a r.n r.c)
  row : ∀ r ∈ L, Reads w r.a r.n r.zs ∧ Byt r.zs ∧ r.n ≤ r.c ∧ r.c ≤ maxLen

theorem Rows8.below {w w' : World} {a : Option Addr} {len cap : Nat} {L : List Sl} (h : Rows8 w a len cap L) (hb : Below w.heap.size w w') : Rows8 w' a len cap L := by
  refine ⟨h.hlen, h.hle, h.hcap, ?_, fun r hr => ⟨(h.row r hr).1.below hb, (h.row r hr).2⟩⟩
  rcases h.at' with h0 | ⟨b, off, ha, hlt, hc⟩
  · exact .inl h0
  · exact .inr ⟨b, off, ha, Nat.lt_of_lt_of_le hlt hb.size, fun i r hr => by rw [hb.cell hlt]; exact hc i r hr⟩
/-- The element at a place within. -/
theorem Rows8.get {w : World} {a : Option Addr} {len cap : Nat} {L : List Sl} (h : Rows8 w a len cap L) {i : Nat} (hi : i < len) : ∃ b off r, a = some ⟨b, off, none⟩ ∧ b < w.heap.size ∧ L[i]? = some r ∧ w.cell? ⟨b, off + i, none⟩ = some (.slice r.a r.n r.c) ∧
    Reads w r.a r.n r.zs ∧ Byt r.zs ∧ r.n ≤ r.c ∧ r.c ≤ maxLen := by
  have hl : i < L.length := by rw [h.hlen]; exact hi
  rcases h.at' with h0 | ⟨b, off, ha, hlt, hc⟩
  · omega
  · obtain ⟨h1, h2, h3, h4⟩ := h.row _ (List.getElem_mem hl)
    exact ⟨b, off, L[i], ha, hlt, by simp [hl], hc i _ (by simp [hl]), h1, h2, h3, h4⟩

theorem reads_of_cells {w : World} {y : Addr} {l : Nat} {zs : List Int} (hzl : l ≤ zs.length) (hc : ∀ i, i < zs.length → w.cell? (y.add i) = some (.int .u8 (zs.getD i 0))) : Reads w (some y) l (zs.take l) := by
  refine ⟨by simp; omega, ?_⟩
  by_cases h0 : l = 0
  · exact .inl h0
  · have h1 := hc 0 (by omega)
    obtain ⟨b, off, spot⟩ := y
    have hspot : spot = none := by simpa [Addr.add] using World.cell?_spot h1
    subst hspot
    refine .inr ⟨b, off, rfl, World.block_lt_of_cell? w _ h1, fun i hi => ?_⟩
    have h2 := hc i (by omega)
    have hadd : (⟨b, off, none⟩ : Addr).add i = ⟨b, off + i, none⟩ := by unfold Addr.add; split <;> simp_all
    rw [hadd] at h2
    rw [h2]
    simp [List.getD_eq_getElem?_getD, hi]
theorem byt_of_wf {zs : List Int} (hw : ∀ n ∈ zs, (Lit.int .u8 n).wf = true) (l : Nat) : Byt (zs.take l) := by
  intro z hz
  have h1 := hw z (List.mem_of_mem_take hz)
  simp [Lit.wf, IntKind.min, IntKind.max, IntKind.signed, IntKind.bits] at h1
  omega

section
variable {H : Type} {enc : TypeId × Value → H} {P : Program} {w : World} {base : Nat} {spare : Nat → Bool} {held : Bool}
theorem rows8_in {t e u : TypeId} {fuel : Nat} {a : Option Addr} {len cap : Nat} {x : DataW H × List MemPlace} (ht : P.underlying t = some (.slice e)) (he : P.underlying e = some (.slice u)) (hu : P.underlying u = some (.int .u8))
    (ce : P.cellsOf e = 1) (cu : P.cellsOf u = 1) (h : DataW.trod enc P w base spare held fuel t [.slice a len cap] = some x) : ∃ L, Rows8 w a len cap L := by
  rcases open_slice1 ht ce h with ⟨hcs, _⟩ | ⟨x, l, c, m, n, V, D, Pl, hcs, _, hl, hm, hmm, _, hi⟩
  · simp only [List.cons.injEq, and_true, Value.slice.injEq] at hcs
    obtain ⟨rfl, rfl, rfl⟩ := hcs
    exact ⟨[], rfl, Nat.le_refl _, Nat.zero_le _, .inl rfl, fun r hr => by cases hr⟩
  · simp only [List.cons.injEq, and_true, Value.slice.injEq] at hcs
    obtain ⟨rfl, rfl, rfl⟩ := hcs
    have each : ∀ i, i < len → ∃ r : Sl, w.cell? (x.add i) = some (.slice r.a r.n r.c) ∧ Reads w r.a r.n r.zs ∧ Byt r.zs ∧ r.n ≤ r.c ∧ r.c ≤ maxLen := by
      intro i hil
      obtain ⟨hc, hd⟩ := hi i (by rw [hmm]; split <;> omega)
      rcases open_ints he hu cu hd with ⟨hv, _⟩ | ⟨y, l', c', zs, hv, _, hl', hm', hz, _, hcell, hwz⟩
      · simp only [List.cons.injEq, and_true] at hv
        exact ⟨⟨none, 0, 0, []⟩, by rw [hc, hv], ⟨rfl, .inl rfl⟩, Byt.nil, Nat.le_refl _, Nat.zero_le _⟩
      · simp only [List.cons.injEq, and_true] at hv
        have hzl : l' ≤ zs.length := by rw [hz]; split <;> omega
        exact ⟨⟨some y, l', c', zs.take l'⟩, by rw [hc, hv], reads_of_cells hzl hcell, byt_of_wf hwz l', hl', hm'⟩
    obtain ⟨L, hL, hp⟩ := choose_below len each
    refine ⟨L, hL, hl, hm, ?_, fun r hr => ?_⟩
    · by_cases h0 : len = 0
      · exact .inl h0
      · have h1 := (hi 0 (by rw [hmm]; split <;> omega)).1
        obtain ⟨b, off, spot⟩ := x
        have hspot : spot = none := by simpa [Addr.add] using World.cell?_spot h1
        subst hspot
        have hadd : ∀ i, (⟨b, off, none⟩ : Addr).add i = ⟨b, off + i, none⟩ := by intro i; unfold Addr.add; split <;> simp_all
        refine .inr ⟨b, off, rfl, World.block_lt_of_cell? w _ h1, fun i r hr => ?_⟩
        rw [← hadd]
        exact (hp i r hr).1
    · obtain ⟨i, hi'⟩ := List.mem_iff_getElem?.1 hr
      exact (hp i r hi').2
end
end Go.Proofs.Ytoahkigmbmdniaa
