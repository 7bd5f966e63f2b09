/-
  Stage 9: what BodiesData and BodiesInit share: what a Get leaves, whatever it is; four rows that lie apart.
-/
import Derived.Test.YtlihcckgnnnekaaBdOne
namespace Go.Proofs.Ytlihcckgnnnekaa
open Go.RowKit
set_option linter.unusedVariables false
set_option linter.unusedSimpArgs false

theorem gotD_fix (k f : Int) (zs : List Int) : ∃ (X0 X1 X2 : Int) (X3 X4 X5 : Bool) (bs : List Int) (m : Nat) (er : Int), bs.length = m ∧ (Byt zs → Byt bs) ∧ m ≤ zs.length ∧ ∀ (w : World) (e : Ending) (w' : World), GotD w k f zs e w' →
    ∃ a1 c1, e = .returned (.tuple #[.agg #[.int .u32 X0, .int .u16 X1, .int .u16 X2, .bool X3, .bool X4, .bool X5, .slice a1 m c1], .int .i64 er]) ∧ Below w.heap.size w w' ∧ Row8 w.heap.size w' a1 m c1 bs := by
  cases hb : okData k f zs with
  | true =>
    refine ⟨natAt zs 0 4, natAt zs 4 2, natAt zs 6 2, bitB f 4, bitB f 2, bitB f 1, zs.drop 12, zs.length - 12, 0, by simp, fun h => h.drop _, by omega, ?_⟩
    rintro w e w' ⟨a1, c1, h1, h2, h3⟩
    rw [hb] at h1
    rcases h1 with ⟨_, rfl⟩ | ⟨h, _⟩
    · exact ⟨a1, c1, rfl, h2, h3⟩
    · cases h
  | false =>
    refine ⟨0, 0, 0, false, false, false, [], 0, 7, rfl, fun _ => Byt.nil, by omega, ?_⟩
    rintro w e w' ⟨a1, c1, h1, h2, h3⟩
    rw [hb] at h1
    rcases h1 with ⟨h, _⟩ | ⟨_, rfl⟩
    · cases h
    · exact ⟨none, 0, rfl, h2, Row8.nil _ _⟩

theorem ckK_byt (k : Int) {zs : List Int} (h : Byt zs) : Byt (ckK k zs) := by
  unfold ckK; split
  · exact ckOf_byt h _
  · exact Byt.nil

theorem gotI_fix (k f : Int) (zs : List Int) : ∃ (X0 X1 X2 X3 X4 : Int) (bs : List Int) (m : Nat) (er : Int), bs.length = m ∧ (Byt zs → Byt bs) ∧ m ≤ zs.length ∧ ∀ (w : World) (e : Ending) (w' : World), GotI w k f zs e w' →
    ∃ a1 c1, e = .returned (.tuple #[.agg #[.int .u32 X0, .int .u32 X1, .int .u16 X2, .int .u16 X3, .int .u32 X4, .slice a1 m c1], .int .i64 er]) ∧ Below w.heap.size w w' ∧ Row8 w.heap.size w' a1 m c1 bs := by
  cases hb : okInit k f zs with
  | true =>
    refine ⟨natAt zs 0 4, natAt zs 4 4, natAt zs 8 2, natAt zs 10 2, natAt zs 12 4, ckK k zs, (ckK k zs).length, 0, rfl, fun h => ckK_byt k h, ckK_len k zs, ?_⟩
    rintro w e w' ⟨a1, c1, h1, h2, h3⟩
    rw [hb] at h1
    rcases h1 with ⟨_, rfl⟩ | ⟨h, _⟩
    · exact ⟨a1, c1, rfl, h2, h3⟩
    · cases h
  | false =>
    refine ⟨0, 0, 0, 0, 0, [], 0, 7, rfl, fun _ => Byt.nil, by omega, ?_⟩
    rintro w e w' ⟨a1, c1, h1, h2, h3⟩
    rw [hb] at h1
    rcases h1 with ⟨h, _⟩ | ⟨_, rfl⟩
    · cases h
    · exact ⟨none, 0, rfl, h2, Row8.nil _ _⟩

theorem blk_dist {r s : ARow} {K : Nat} (h1 : ∀ b, r.blk = some b → b < K) (h2 : ∀ b, s.blk = some b → K ≤ b) : r.blk = none ∨ r.blk ≠ s.blk := by
  cases hr : r.blk with
  | none => exact .inl rfl
  | some b => exact .inr (fun e => by have := h1 b hr; have := h2 b e.symm; omega)
/-- Four rows, made one behind the other, in a slice of them. -/
theorem apart4_of {W1 W2 W3 W4 W : World} {B1 g : Nat} {a1 a2 a3 a4 : Option Addr} {n1 n2 n3 n4 c1 c2 c3 c4 : Nat} {z1 z2 z3 z4 : List Int}
    (h1 : Row8 B1 W1 a1 n1 c1 z1) (h2 : Row8 W1.heap.size W2 a2 n2 c2 z2) (h3 : Row8 W2.heap.size W3 a3 n3 c3 z3) (h4 : Row8 W3.heap.size W4 a4 n4 c4 z4)
    (y1 : Byt z1) (y2 : Byt z2) (y3 : Byt z3) (y4 : Byt z4) (l1 : n1 ≤ 1073741824) (l2 : n2 ≤ 1073741824) (l3 : n3 ≤ 1073741824) (l4 : n4 ≤ 1073741824)
    (b1 : Below W1.heap.size W1 W2) (b2 : Below W2.heap.size W2 W3) (b3 : Below W3.heap.size W3 W4) (b4 : Below W4.heap.size W4 W)
    (hA : Arr W g 24 [.slice a2 n2 c2, .slice a1 n1 c1, .slice a4 n4 c4, .slice a3 n3 c3]) :
    Calls Try.prog 22 #[.slice (some ⟨g, 0, none⟩) 4 4] W fun e w' => e = .returned (.bool true) ∧ Below W.heap.size W w' := by
  obtain ⟨r1, v1, o1, f1, _⟩ := h1.arow y1 l1
  obtain ⟨r2, v2, o2, f2, _⟩ := h2.arow y2 l2
  obtain ⟨r3, v3, o3, f3, _⟩ := h3.arow y3 l3
  obtain ⟨r4, v4, o4, f4, _⟩ := h4.arow y4 l4
  have b34 := b3.trans (b4.mono b3.size)
  have b24 := b2.trans (b34.mono b2.size)
  have b14 := b1.trans (b24.mono b1.size)
  have p1 : r1.ok W := ARow.ok_of o1 (fun g _ hg => b14.block g hg)
  have p2 : r2.ok W := ARow.ok_of o2 (fun g _ hg => b24.block g hg)
  have p3 : r3.ok W := ARow.ok_of o3 (fun g _ hg => b34.block g hg)
  have p4 : r4.ok W := ARow.ok_of o4 (fun g _ hg => b4.block g hg)
  have s1 := b1.size
  have s2 := b2.size
  have s3 := b3.size
  have d12 : r1.blk = none ∨ r1.blk ≠ r2.blk := blk_dist (K := W1.heap.size) (fun b e => (f1 b e).2) (fun b e => (f2 b e).1)
  have d13 : r1.blk = none ∨ r1.blk ≠ r3.blk := blk_dist (K := W2.heap.size) (fun b e => by have := (f1 b e).2; omega) (fun b e => (f3 b e).1)
  have d14 : r1.blk = none ∨ r1.blk ≠ r4.blk := blk_dist (K := W3.heap.size) (fun b e => by have := (f1 b e).2; omega) (fun b e => (f4 b e).1)
  have d23 : r2.blk = none ∨ r2.blk ≠ r3.blk := blk_dist (K := W2.heap.size) (fun b e => (f2 b e).2) (fun b e => (f3 b e).1)
  have d24 : r2.blk = none ∨ r2.blk ≠ r4.blk := blk_dist (K := W3.heap.size) (fun b e => by have := (f2 b e).2; omega) (fun b e => (f4 b e).1)
  have d34 : r3.blk = none ∨ r3.blk ≠ r4.blk := blk_dist (K := W3.heap.size) (fun b e => (f3 b e).2) (fun b e => (f4 b e).1)
  have lt : ∀ r : ARow, r.ok W → r.blk ≠ some g := by
    intro r h e
    match r, h, e with
    | some (g', _, _), h, e =>
      have eg : g' = g := by simpa [ARow.blk] using e
      subst eg
      have hk := h.1
      unfold Blk at hk
      unfold Arr at hA
      rw [hA] at hk
      simp at hk
  rw [← v1, ← v2, ← v3, ← v4] at hA
  refine (apart_yes g 0 4 [r2, r1, r4, r3] W (by simp) hA.lt ?_ ?_ ?_ ?_)
  · intro k r h
    rw [Nat.zero_add]
    match k, h with
    | 0, h => simp at h; subst h; exact hA.cell (i := 0) rfl
    | 1, h => simp at h; subst h; exact hA.cell (i := 1) rfl
    | 2, h => simp at h; subst h; exact hA.cell (i := 2) rfl
    | 3, h => simp at h; subst h; exact hA.cell (i := 3) rfl
  · intro k r h
    match k, h with
    | 0, h => simp at h; subst h; exact p2
    | 1, h => simp at h; subst h; exact p1
    | 2, h => simp at h; subst h; exact p4
    | 3, h => simp at h; subst h; exact p3
  · intro k r h
    match k, h with
    | 0, h => simp at h; subst h; exact lt _ p2
    | 1, h => simp at h; subst h; exact lt _ p1
    | 2, h => simp at h; subst h; exact lt _ p4
    | 3, h => simp at h; subst h; exact lt _ p3
  · intro j k r s hr hs hjk
    match j, k, hr, hs with
    | 0, 0, _, _ => exact absurd rfl hjk
    | 1, 1, _, _ => exact absurd rfl hjk
    | 2, 2, _, _ => exact absurd rfl hjk
    | 3, 3, _, _ => exact absurd rfl hjk
    | 0, 1, hr, hs => simp at hr hs; subst hr hs; exact ARow.ne_symm d12
    | 0, 2, hr, hs => simp at hr hs; subst hr hs; exact d24
    | 0, 3, hr, hs => simp at hr hs; subst hr hs; exact d23
    | 1, 2, hr, hs => simp at hr hs; subst hr hs; exact d14
    | 1, 3, hr, hs => simp at hr hs; subst hr hs; exact d13
    | 2, 3, hr, hs => simp at hr hs; subst hr hs; exact ARow.ne_symm d34
    | 1, 0, hr, hs => simp at hr hs; subst hr hs; exact d12
    | 2, 0, hr, hs => simp at hr hs; subst hr hs; exact ARow.ne_symm d24
    | 3, 0, hr, hs => simp at hr hs; subst hr hs; exact ARow.ne_symm d23
    | 2, 1, hr, hs => simp at hr hs; subst hr hs; exact ARow.ne_symm d14
    | 3, 1, hr, hs => simp at hr hs; subst hr hs; exact ARow.ne_symm d13
    | 3, 2, hr, hs => simp at hr hs; subst hr hs; exact d34
end Go.Proofs.Ytlihcckgnnnekaa
