/-
  A slice of chunks that came in: its elements, each of them two bytes and a row of bytes.
-/
import Derived.Test.YtoahkigmbmdniaaRows8
import Derived.Test.YtoahkigmbmdniaaChecked
namespace Go.Proofs.Ytoahkigmbmdniaa
open Go.ChangeShapes Go.WideShapes Go.Deep Go.RowKit
set_option linter.unusedVariables false

section
variable {H : Type} {enc : TypeId × Value → H} {P : Program} {w : World} {base : Nat} {spare : Nat → Bool} {held : Bool}
/-- A slice of structs whose fields are one cell each: its cells, and what each of them leads to. -/
theorem open_cell_structs {t e : TypeId} {fs : Array Field} {fuel : Nat} {cs : List Value} {x : DataW H × List MemPlace} (ht : P.underlying t = some (.slice e)) (he : P.underlying e = some (.struct fs))
    (hone : oneCellFields P fs = true) (hC : P.cellsOf e = fs.size) (h : DataW.trod enc P w base spare held fuel t cs = some x) :
    cs = [.slice none 0 0] ∨ ∃ (a : Addr) (len cap m : Nat), cs = [.slice (some a) len cap] ∧ len ≤ cap ∧ cap ≤ maxLen ∧ len ≤ m ∧
      ∀ i, i < m → ∃ cs' : List Value, cs'.length = fs.size ∧ ∀ (j : Nat) f v, fs[j]? = some f → cs'[j]? = some v → w.cell? (a.add (i * fs.size + j)) = some v ∧ ∃ n y, DataW.trod enc P w base spare held n f.type [v] = some y := by
  rcases open_slice ht h with h0 | ⟨a, len, cap, m, n, D, Pl, hcs, hb, hl, hm, hmm, hx, hi⟩
  · exact .inl h0.1
  refine .inr ⟨a, len, cap, m, hcs, hl, hm, by rw [hmm]; split <;> omega, fun i him => ?_⟩
  obtain ⟨cs', hc, ht'⟩ := hi i him
  rw [hC] at hc
  obtain ⟨_, hlen, hcell⟩ := World.cells?_some hc
  refine ⟨cs', hlen, fun j f v hf hv => ?_⟩
  obtain ⟨hjc, rfl⟩ := List.getElem?_eq_some_iff.1 hv
  obtain ⟨ys, n', _, _, _, _, hfld⟩ := DataW.trod_struct he ht'
  obtain ⟨ho, h1⟩ := hone_of hone j f hf
  have h2 := hfld j f hf
  rw [ho, h1] at h2
  have h3 : (cs'.drop j).take 1 = [cs'[j]] := by
    rw [List.drop_eq_getElem_cons hjc]; rfl
  rw [h3] at h2
  refine ⟨by rw [← add_add, hcell j (by omega)]; simp [hjc], n', ?_⟩
  cases hy : DataW.trod enc P w base spare held n' f.type [cs'[j]] with
  | none =>
    rw [hy] at h2
    have : j < ys.length := by have := (Array.getElem?_eq_some_iff.1 hf).1; omega
    simp [this] at h2
  | some y => exact ⟨y, rfl⟩
end

/-- A chunk as it lies in a slice. -/
structure Ck where
  k : Int
  f : Int
  a : Option Addr
  n : Nat
  c : Nat
  zs : List Int
deriving Inhabited
structure CkOk (w : World) (r : Ck) : Prop where
  k : 0 ≤ r.k ∧ r.k < 256
  f : 0 ≤ r.f ∧ r.f < 256
  reads : Reads w r.a r.n r.zs
  byt : Byt r.zs
  le : r.n ≤ r.c
  cap : r.c ≤ maxLen
theorem CkOk.below {w w' : World} {r : Ck} (h : CkOk w r) (hb : Below w.heap.size w w') : CkOk w' r := ⟨h.k, h.f, h.reads.below hb, h.byt, h.le, h.cap⟩
structure RowsCk (w : World) (a : Option Addr) (len cap : Nat) (L : List Ck) : Prop where
  hlen : L.length = len
  hle : len ≤ cap
  hcap : cap ≤ maxLen
  at' : len = 0 ∨ ∃ b off, a = some ⟨b, off, none⟩ ∧ b < w.heap.size ∧ ∀ (i : Nat) r, L[i]? = some r → w.cell? ⟨b, off + i * 3, none⟩ = some (.int .u8 r.k) ∧ w.cell? ⟨b, off + i * 3 + 1, none⟩ = some (.int .u8 r.f) ∧ w.cell? ⟨b, off + i * 3 + 2, none⟩ = some (.slice r.a r.n r.c)
  row : ∀ r ∈ L, CkOk w r
theorem RowsCk.below {w w' : World} {a : Option Addr} {len cap : Nat} {L : List Ck} (h : RowsCk w a len cap L) (hb : Below w.heap.size w w') : RowsCk w' a len cap L := by
  refine ⟨h.hlen, h.hle, h.hcap, ?_, fun r hr => (h.row r hr).below hb⟩
  rcases h.at' with h0 | ⟨b, off, ha, hlt, hc⟩
  · exact .inl h0
  · refine .inr ⟨b, off, ha, Nat.lt_of_lt_of_le hlt hb.size, fun i r hr => ?_⟩
    obtain ⟨h1, h2, h3⟩ := hc i r hr
    exact ⟨(hb.cell (p := ⟨b, off + i * 3, none⟩) hlt).trans h1, (hb.cell (p := ⟨b, off + i * 3 + 1, none⟩) hlt).trans h2, (hb.cell (p := ⟨b, off + i * 3 + 2, none⟩) hlt).trans h3⟩
theorem RowsCk.get {w : World} {a : Option Addr} {len cap : Nat} {L : List Ck} (h : RowsCk w a len cap L) {i : Nat} (hi : i < len) : ∃ b off r, a = some ⟨b, off, none⟩ ∧ L[i]? = some r ∧ CkOk w r ∧
    w.cell? ⟨b, off + i * 3, none⟩ = some (.int .u8 r.k) ∧ w.cell? ⟨b, off + i * 3 + 1, none⟩ = some (.int .u8 r.f) ∧ w.cell? ⟨b, off + i * 3 + 2, none⟩ = some (.slice r.a r.n r.c) := by
  have hl : i < L.length := by rw [h.hlen]; exact hi
  rcases h.at' with h0 | ⟨b, off, ha, hlt, hc⟩
  · omega
  · exact ⟨b, off, L[i], ha, by simp [hl], h.row _ (List.getElem_mem hl), hc i _ (by simp [hl])⟩

theorem chunkFields : ∃ f0 f1 f2 : Field, Try.prog.underlying 24 = some (.struct #[f0, f1, f2]) ∧ f0.type = 5 ∧ f1.type = 5 ∧ f2.type = 22 :=
  ⟨_, _, _, Try.underlying24, rfl, rfl, rfl⟩

theorem rowsck_in {H : Type} {enc : TypeId × Value → H} {w : World} {base : Nat} {spare : Nat → Bool} {held : Bool} {fuel : Nat} {a : Option Addr} {len cap : Nat} {x : DataW H × List MemPlace}
    (h : DataW.trod enc Try.prog w base spare held fuel 38 [.slice a len cap] = some x) : ∃ L, RowsCk w a len cap L := by
  obtain ⟨f0, f1, f2, hu, t0, t1, t2⟩ := chunkFields
  have hone : oneCellFields Try.prog #[f0, f1, f2] = true := by
    have h1 : (match Try.prog.underlying 24 with | some (.struct fs) => oneCellFields Try.prog fs | _ => false) = true := by kernel_rfl
    rw [hu] at h1
    exact h1
  rcases open_cell_structs Try.underlying38 hu hone (by kernel_rfl) h with h0 | ⟨y, l, c, m, h0, hl, hm, hlm, hall⟩
  · simp only [List.cons.injEq, and_true, Value.slice.injEq] at h0
    obtain ⟨rfl, rfl, rfl⟩ := h0
    exact ⟨[], rfl, Nat.le_refl _, Nat.zero_le _, .inl rfl, fun r hr => by cases hr⟩
  · simp only [List.cons.injEq, and_true, Value.slice.injEq] at h0
    obtain ⟨rfl, rfl, rfl⟩ := h0
    have each : ∀ i, i < len → ∃ r : Ck, w.cell? (y.add (i * 3 + 0)) = some (.int .u8 r.k) ∧ w.cell? (y.add (i * 3 + 1)) = some (.int .u8 r.f) ∧ w.cell? (y.add (i * 3 + 2)) = some (.slice r.a r.n r.c) ∧ CkOk w r := by
      intro i hi
      obtain ⟨cs', hlen, hc⟩ := hall i (by omega)
      obtain ⟨v0, v1, v2, rfl⟩ : ∃ v0 v1 v2, cs' = [v0, v1, v2] := by
        match cs', hlen with
        | [v0, v1, v2], _ => exact ⟨v0, v1, v2, rfl⟩
      obtain ⟨d0, n0, y0, q0⟩ := hc 0 f0 v0 rfl rfl
      obtain ⟨d1, n1, y1, q1⟩ := hc 1 f1 v1 rfl rfl
      obtain ⟨d2, n2, y2, q2⟩ := hc 2 f2 v2 rfl rfl
      rw [t0] at q0
      rw [t1] at q1
      rw [t2] at q2
      obtain ⟨k, hk, _, hkw⟩ := DataW.trod_int Try.underlying5 q0
      obtain ⟨f, hf, _, hfw⟩ := DataW.trod_int Try.underlying5 q1
      simp only [List.cons.injEq, and_true] at hk hf
      subst hk hf
      have hk2 := wf_u8_in hkw
      have hf2 := wf_u8_in hfw
      rcases open_ints Try.underlying22 Try.underlying5 (by kernel_rfl) q2 with ⟨hv, _⟩ | ⟨x2, l', c', zs, hv, _, hl', hm', hz, _, hcell, hwz⟩
      · simp only [List.cons.injEq, and_true] at hv
        subst hv
        exact ⟨⟨k, f, none, 0, 0, []⟩, d0, d1, d2, ⟨hk2.1, Int.lt_of_le_of_lt hk2.2 (by decide)⟩, ⟨hf2.1, Int.lt_of_le_of_lt hf2.2 (by decide)⟩, ⟨rfl, .inl rfl⟩, Byt.nil, Nat.le_refl _, Nat.zero_le _⟩
      · simp only [List.cons.injEq, and_true] at hv
        subst hv
        have hzl : l' ≤ zs.length := by rw [hz]; split <;> omega
        exact ⟨⟨k, f, some x2, l', c', zs.take l'⟩, d0, d1, d2, ⟨hk2.1, Int.lt_of_le_of_lt hk2.2 (by decide)⟩, ⟨hf2.1, Int.lt_of_le_of_lt hf2.2 (by decide)⟩, reads_of_cells hzl hcell, byt_of_wf hwz l', hl', hm'⟩
    obtain ⟨L, hL, hp⟩ := choose_below len each
    refine ⟨L, hL, hl, hm, ?_, fun r hr => ?_⟩
    · by_cases h0 : len = 0
      · exact .inl h0
      · obtain ⟨r0, hr0⟩ : ∃ r, L[0]? = some r := ⟨L[0]'(by omega), by simp [show 0 < L.length by omega]⟩
        have h1 := (hp 0 r0 hr0).1
        obtain ⟨b, off, spot⟩ := y
        have hspot : spot = none := by simpa [Addr.add] using World.cell?_spot h1
        subst hspot
        have hadd : ∀ i, (⟨b, off, none⟩ : Addr).add i = ⟨b, off + i, none⟩ := by intro i; unfold Addr.add; split <;> simp_all
        rw [hadd] at h1
        refine .inr ⟨b, off, rfl, World.block_lt_of_cell? w _ h1, fun i r hr => ?_⟩
        obtain ⟨p0, p1, p2, _⟩ := hp i r hr
        rw [hadd] at p0 p1 p2
        exact ⟨p0, by rw [Nat.add_assoc]; exact p1, by rw [Nat.add_assoc]; exact p2⟩
    · obtain ⟨i, hi'⟩ := List.mem_iff_getElem?.1 hr
      exact (hp i r hi').2.2.2
end Go.Proofs.Ytoahkigmbmdniaa
