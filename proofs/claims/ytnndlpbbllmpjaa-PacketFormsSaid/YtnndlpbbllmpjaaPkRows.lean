/-
  Stage 10: rows of chunks that a call makes itself.
-/
import Derived.Test.YtnndlpbbllmpjaaMgB
import Derived.Test.YtnndlpbbllmpjaaMgA
namespace Go.Proofs.Ytnndlpbbllmpjaa
open Go.RowKit
set_option linter.unusedVariables false

theorem Try.infoCk : (Try.prog.info? 41).map (fun i => (i.zero, i.size, i.bytes)) = some (some (.agg #[.int .u8 0, .int .u8 0, .slice none 0 0]), 3, 32) := by kernel_rfl
/-- The cells of chunks. -/
def Ck.cells (r : Ck) : List Value := [.int .u8 r.k, .int .u8 r.f, .slice r.a r.n r.c]
def ckC (L : List Ck) : List Value := (L.map Ck.cells).flatten
theorem ckC_snoc (L : List Ck) (r : Ck) : ckC (L ++ [r]) = ckC L ++ r.cells := by simp [ckC]
theorem ckC_len (L : List Ck) : (ckC L).length = L.length * 3 := by
  induction L with
  | nil => rfl
  | cons r L ih => unfold ckC at ih ⊢; simp [Ck.cells] at ih ⊢; omega
theorem ckC_at {L : List Ck} {i : Nat} {r : Ck} (h : L[i]? = some r) : (ckC L)[i * 3]? = some (.int .u8 r.k) ∧ (ckC L)[i * 3 + 1]? = some (.int .u8 r.f) ∧ (ckC L)[i * 3 + 2]? = some (.slice r.a r.n r.c) := by
  induction L generalizing i with
  | nil => simp at h
  | cons q L ih =>
    have e : ckC (q :: L) = .int .u8 q.k :: .int .u8 q.f :: .slice q.a q.n q.c :: ckC L := by simp [ckC, Ck.cells]
    cases i with
    | zero => simp at h; subst h; rw [e]; exact ⟨rfl, rfl, rfl⟩
    | succ i =>
      simp at h
      have h2 := ih h
      rw [e, show (i + 1) * 3 = i * 3 + 1 + 1 + 1 by omega]
      exact h2
theorem ckC_one (L : List Ck) : ∀ u ∈ ckC L, u.oneCell' = true := by
  intro u hu
  unfold ckC at hu
  simp only [List.mem_flatten, List.mem_map] at hu
  obtain ⟨l, ⟨r, _, rfl⟩, hu⟩ := hu
  simp [Ck.cells] at hu
  rcases hu with rfl | rfl | rfl <;> rfl
/-- The chunk's body lies in a block that was there, or in a row of bytes. -/
def OffC (B : Nat) (w : World) (r : Ck) : Prop := 0 < r.n → ∀ p, r.a = some p → p.block < B ∨ ∃ cs, w.heap[p.block]? = some (.cells cs 5 (0, 0))
theorem OffC.of {B : Nat} {w w' : World} {r : Ck} (h : OffC B w r) (hb : ∀ (k : Nat) cs, w.heap[k]? = some (.cells cs 5 (0, 0)) → w'.heap[k]? = w.heap[k]?) : OffC B w' r := by
  intro hn p hp
  rcases h hn p hp with h | ⟨cs, h⟩
  · exact .inl h
  · exact .inr ⟨cs, (hb _ _ h).trans h⟩
theorem Reads.of_block {w w' : World} {a : Option Addr} {n : Nat} {zs : List Int} (h : Reads w a n zs) (hs : w.heap.size ≤ w'.heap.size) (hb : 0 < n → ∀ p, a = some p → w'.heap[p.block]? = w.heap[p.block]?) : Reads w' a n zs := by
  refine ⟨h.1, ?_⟩
  rcases h.2 with h2 | ⟨b, off, ha, hlt, hc⟩
  · exact .inl h2
  · refine .inr ⟨b, off, ha, by omega, fun i hi => ?_⟩
    exact (World.cell?_of_block (a := ⟨b, off + i, none⟩) (hb (by omega) ⟨b, off, none⟩ ha)).trans (hc i hi)
theorem CkOk.of_block {w w' : World} {r : Ck} (h : CkOk w r) (hs : w.heap.size ≤ w'.heap.size) (hb : 0 < r.n → ∀ p, r.a = some p → w'.heap[p.block]? = w.heap[p.block]?) : CkOk w' r := ⟨h.k, h.f, h.reads.of_block hs hb, h.byt, h.le, h.cap⟩
/-- The slice is a row of the call's own that holds these chunks. -/
structure RowC (B base : Nat) (w : World) (a : Option Addr) (n c : Nat) (L : List Ck) : Prop where
  own : w.ownsRow base 41 3 (.slice a n c) n (ckC L)
  row : ∀ r ∈ L, CkOk w r
  off : ∀ r ∈ L, OffC B w r
  le : B ≤ base
theorem RowC.len {B base : Nat} {w : World} {a : Option Addr} {n c : Nat} {L : List Ck} (h : RowC B base w a n c L) : L.length = n := by
  have := h.own.1
  rw [ckC_len] at this
  omega
theorem RowC.nil (B base : Nat) (hB : B ≤ base) (w : World) : RowC B base w none 0 0 [] := ⟨World.ownsRow_nil _ _ _ _, (fun r hr => by cases hr), (fun r hr => by cases hr), hB⟩
theorem RowC.keep {B base : Nat} {w w' : World} {a : Option Addr} {n c : Nat} {L : List Ck} (h : RowC B base w a n c L) (hb : Below w.heap.size w w') : RowC B base w' a n c L :=
  ⟨owns_keep h.own hb, fun r hr => (h.row r hr).below hb, fun r hr => (h.off r hr).of (fun k cs hk => hb.block k (Array.getElem?_eq_some_iff.1 hk).1), h.le⟩
theorem RowC.rows {B base : Nat} {w : World} {a : Option Addr} {n c : Nat} {L : List Ck} (h : RowC B base w a n c L) : RowsCk w a n c L := by
  rcases id h.own.2 with ⟨hv, h0⟩ | ⟨g, cap, cur, hv, hb, hg, hnc, hm, _⟩
  · cases hv
    exact ⟨by rw [h.len], Nat.le_refl _, by decide, .inl rfl, h.row⟩
  · cases hv
    have hc := h.own.cells (g := g) rfl
    refine ⟨h.len, hnc, hm, .inr ⟨g, 0, rfl, (Array.getElem?_eq_some_iff.1 hg).1, fun i r hr => ?_⟩, h.row⟩
    obtain ⟨e0, e1, e2⟩ := ckC_at hr
    have f0 := hc _ _ e0
    have f1 := hc _ _ e1
    have f2 := hc _ _ e2
    rw [show ∀ j, (⟨g, 0, none⟩ : Addr).add j = ⟨g, 0 + j, none⟩ from fun j => Addr.add_mid _ _ _] at f0 f1 f2
    exact ⟨f0, f1, f2⟩
/-- No body of the row's chunks lies in the row itself. -/
theorem RowC.apart {B base : Nat} {w : World} {a : Option Addr} {n c : Nat} {L : List Ck} (h : RowC B base w a n c L) {r : Ck} (hr : OffC B w r) (hn : 0 < r.n) {p : Addr} (hp : r.a = some p) : some p.block ≠ (Value.slice a n c).ownBlock := by
  intro e
  rcases hr hn p hp with h1 | ⟨cs, h1⟩
  · have := (World.ownsRow.lt h.own _ e.symm).1
    have := h.le
    omega
  · rcases h.own.2 with ⟨hv, _⟩ | ⟨g, cap, cur, hv, hb, hg, _⟩
    · cases hv; simp [Value.ownBlock] at e
    · cases hv
      simp [Value.ownBlock] at e
      rw [e, hg] at h1
      simp at h1
/-- The row, once a chunk was appended. -/
theorem RowC.added {B base : Nat} {w w' : World} {a a' : Option Addr} {n c c' : Nat} {L : List Ck} {r : Ck} (h : RowC B base w a n c L) (hr : CkOk w r) (ho : OffC B w r) (hown : w'.ownsRow base 41 3 (.slice a' (n + 1) c') (n + 1) (ckC (L ++ [r]))) (hg : w.grownBy w' (Value.slice a n c).ownBlock) : RowC B base w' a' (n + 1) c' (L ++ [r]) := by
  have hrow : ∀ q ∈ L ++ [r], CkOk w q := fun q hq => by
    rcases List.mem_append.1 hq with h1 | h1
    · exact h.row q h1
    · simp at h1; subst h1; exact hr
  have hoff : ∀ q ∈ L ++ [r], OffC B w q := fun q hq => by
    rcases List.mem_append.1 hq with h1 | h1
    · exact h.off q h1
    · simp at h1; subst h1; exact ho
  have hlt : ∀ q ∈ L ++ [r], 0 < q.n → ∀ p, q.a = some p → p.block < w.heap.size := fun q hq hn p hp => by
    rcases (hrow q hq).reads.2 with h1 | ⟨b, off, ha, hlt, _⟩
    · omega
    · rw [ha] at hp; cases hp; exact hlt
  refine ⟨hown, fun q hq => (hrow q hq).of_block hg.size (fun hn p hp => hg.block _ (hlt q hq hn p hp) (h.apart (hoff q hq) hn hp)), fun q hq hn p hp => ?_, h.le⟩
  rcases hoff q hq hn p hp with h1 | ⟨cs, h1⟩
  · exact .inl h1
  · exact .inr ⟨cs, (hg.block _ (hlt q hq hn p hp) (h.apart (hoff q hq) hn hp)).trans h1⟩
/-- The row stays while a box of another type, behind the elder blocks, is stored into. -/
theorem RowC.setAt {B base : Nat} {w : World} {a : Option Addr} {n c : Nat} {L : List Ck} (h : RowC B base w a n c L) {g : Nat} {T : TypeId} {cs : List Value} (hA : Arr w g T cs) (hT : T ≠ 5) (hT2 : T ≠ 41) (hg : B ≤ g) (i : Nat) (v : Value) : RowC B base (w.setCell ⟨g, i, none⟩ v) a n c L := by
  have hne : ∀ (k : Nat) (cs' : Array Value) (T' : TypeId), w.heap[k]? = some (.cells cs' T' (0, 0)) → T ≠ T' → k ≠ g := by
    intro k cs' T' hk hTT e
    subst e
    unfold Arr at hA
    rw [hA] at hk
    simp at hk
    exact hTT hk.2
  have hu : ∀ (k : Nat) (cs' : Array Value), w.heap[k]? = some (.cells cs' 5 (0, 0)) → (w.setCell ⟨g, i, none⟩ v).heap[k]? = w.heap[k]? := fun k cs' hk => Below.heap_setCell _ _ _ _ (hne k cs' _ hk hT)
  refine ⟨⟨h.own.1, ?_⟩, fun r hr => (h.row r hr).of_block (by simp [World.setCell]) (fun hn p hp => ?_), fun r hr => (h.off r hr).of hu, h.le⟩
  · rcases h.own.2 with h2 | ⟨g', cap, cur, hv, hb, hk, r⟩
    · exact .inl h2
    · exact .inr ⟨g', cap, cur, hv, hb, (Below.heap_setCell _ _ _ _ (hne g' _ _ hk hT2)).trans hk, r⟩
  · rcases h.off r hr hn p hp with h1 | ⟨cs', h1⟩
    · exact Below.heap_setCell _ _ _ _ (by show p.block ≠ g; omega)
    · exact hu _ _ h1
theorem RowsCk.cellsAt {w : World} {a : Option Addr} {n c : Nat} {L : List Ck} (h : RowsCk w a n c L) {b off : Nat} (ha : a = some ⟨b, off, none⟩) (j : Nat) (u : Value) (hu : (ckC L)[j]? = some u) : w.cell? ((⟨b, off, none⟩ : Addr).add j) = some u := by
  have hj : j < (ckC L).length := (List.getElem?_eq_some_iff.1 hu).1
  rw [ckC_len] at hj
  obtain ⟨r, hr⟩ : ∃ r, L[j / 3]? = some r := ⟨L[j / 3]'(by omega), by simp [show j / 3 < L.length by omega]⟩
  have hl := h.hlen
  obtain ⟨b', off', r', hq, hr', _, h0, h1, h2⟩ := h.get (i := j / 3) (by omega)
  rw [ha] at hq
  cases hq
  rw [hr] at hr'
  cases hr'
  have e := ckC_at hr
  rw [show (⟨b, off, none⟩ : Addr).add j = ⟨b, off + j, none⟩ from Addr.add_mid _ _ _]
  have hm : j % 3 = 0 ∨ j % 3 = 1 ∨ j % 3 = 2 := by omega
  rcases hm with hm | hm | hm
  · have ej : j = j / 3 * 3 := by omega
    rw [ej] at hu ⊢
    rw [e.1] at hu
    rw [h0, Option.some.inj hu]
  · have ej : j = j / 3 * 3 + 1 := by omega
    rw [ej] at hu ⊢
    rw [e.2.1] at hu
    rw [← Nat.add_assoc, h1, Option.some.inj hu]
  · have ej : j = j / 3 * 3 + 2 := by omega
    rw [ej] at hu ⊢
    rw [e.2.2] at hu
    rw [← Nat.add_assoc, h2, Option.some.inj hu]
/-- 'append' of a chunk onto a row of the call's own. -/
theorem RowC.add1 {B base : Nat} {w : World} {a : Option Addr} {n c : Nat} {L : List Ck} (h : RowC B base w a n c L) (hb : base ≤ w.heap.size) (hn : n ≤ 1048576) (g : Nat) (r : Ck) (hA : Arr w g 41 r.cells) (hr : CkOk w r) :
    ∃ a' c' W3, (Builtin.append_ #[23, 23] 23 #[.slice a n c, .slice (some ⟨g, 0, none⟩) 1 1]).run Try.prog w = .ok (.slice a' (n + 1) c') W3 ∧
      RowKit.Hid (W3.ownsRow base 41 3 (.slice a' (n + 1) c') (n + 1) (ckC (L ++ [r])) ∧ w.grownBy W3 (Value.slice a n c).ownBlock) := by
  obtain ⟨a', c', W3, hrun, H⟩ := owns_append1 Try.infoCk Try.underlying23 rfl (by decide) (by decide) h.own hb hn g r.cells rfl hA (by have := ckC_one [r]; simpa [ckC] using this)
  exact ⟨a', c', W3, hrun, Lib.hid ⟨by rw [ckC_snoc]; exact H.out.1, H.out.2⟩⟩
/-- 'append' of chunks onto nothing. -/
theorem RowsCk.appends {w : World} {base : Nat} (hb : base = w.heap.size) (q : Option Addr) (n c : Nat) (L : List Ck) (h : RowsCk w q n c L) (hn : n ≤ 1048576) :
    ∃ a' c' W3, (Builtin.append_ #[23, 23] 23 #[.slice none 0 0, .slice q n c]).run Try.prog w = .ok (.slice a' n c') W3 ∧ RowKit.Hid (RowC base base W3 a' n c' L ∧ Below w.heap.size w W3) := by
  obtain ⟨i0, hi0, hz⟩ := Option.map_eq_some_iff.1 Try.infoCk
  simp only [Prod.mk.injEq] at hz
  obtain ⟨hz0, hz1, hz2⟩ := hz
  by_cases h0 : n = 0
  · subst h0
    have hp : L = [] := List.eq_nil_of_length_eq_zero h.hlen
    subst hp
    exact ⟨none, 0, w, run_append_zero w _ _ i0 Try.underlying23 hi0 none q 0 0 c (Nat.le_refl _), Lib.hid ⟨RowC.nil _ _ (Nat.le_refl _) _, Below.refl _ _⟩⟩
  · obtain ⟨b, off, r, hq, _⟩ := h.get (i := 0) (by omega)
    subst hq
    obtain ⟨v', W3, hrun, ho, hg, _⟩ := run_append_own (P := Try.prog) w base 23 23 41 i0 (.agg #[.int .u8 0, .int .u8 0, .slice none 0 0]) 3 32 Try.underlying23 hi0 hz0 hz1 hz2 rfl (by decide) (.slice none 0 0) 0 [] (World.ownsRow_nil _ _ _ _) ⟨b, off, none⟩ n c (ckC L) (by rw [ckC_len, h.hlen])
      (fun j u hu => h.cellsAt rfl j u hu) (ckC_one L) (by unfold maxLen; omega) (by omega) (by omega)
    rw [Nat.zero_add] at ho
    rw [List.nil_append] at ho
    obtain ⟨a', c', rfl⟩ := slice_of_owns ho
    have hbl : Below w.heap.size w W3 := ⟨hg.os, hg.tape, hg.output, hg.size, fun k hk => hg.block k hk (by simp [Value.ownBlock])⟩
    exact ⟨a', c', W3, hrun, Lib.hid ⟨⟨ho, fun r hr => (h.row r hr).below hbl, fun r hr hn p hp => .inl (by
      rcases (h.row r hr).reads.2 with h1 | ⟨b, off, ha, hlt, _⟩
      · omega
      · rw [ha] at hp; cases hp; rw [hb]; exact hlt), Nat.le_refl _⟩, hbl⟩⟩
end Go.Proofs.Ytnndlpbbllmpjaa
