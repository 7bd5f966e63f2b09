/-
  Package ring: what a ring is in memory.
-/
import Derived.Test.YtdlcmmodhicieaaChecked
import Derived.Test.YtdlcmmodhicieaaComm
import Derived.Test.YtdlcmmodhicieaaWin
import Derived.Handy
import Derived.Outline
import Derived.StillTailTactics
import Derived.RegionTactic
import Derived.Lib.Hide
namespace Go.Proofs.Ytdlcmmodhicieaa
open Go.RowKit Go.Conc
set_option linter.unusedVariables false

/-- The pointer to block rb leads to a ring (of struct type T, its elements of sz cells each) for at most n elements that holds m, these cells; its tokens in channel cb, its row in block g. -/
structure IsRing (T : TypeId) (sz : Nat) (w : World) (rb cb : Nat) (g : Option Nat) (n m : Nat) (flat : List Value) : Prop where
  ne : rb ≠ cb
  g1 : ∀ k, g = some k → k ≠ rb ∧ k ≠ cb
  small : n ≤ 1048576
  le : m ≤ n
  body : ∃ a c buf s r, w.heap[rb]? = some (.cells #[.chan (some cb), .slice a m c] T (0, 0)) ∧ w.heap[cb]? = some (.chan n buf false s r false) ∧ buf.size = m ∧ Win w sz g a m c flat

/-- The blocks of a ring. -/
def blocks (rb cb : Nat) (g : Option Nat) : List Nat := rb :: cb :: g.toList
theorem mem_blocks {rb cb k : Nat} {g : Option Nat} : k ∈ blocks rb cb g ↔ k = rb ∨ k = cb ∨ g = some k := by
  unfold blocks
  cases g <;> simp [eq_comm]

section
variable {T : TypeId} {sz : Nat} {w : World} {rb cb : Nat} {g : Option Nat} {n m : Nat} {flat : List Value}
theorem IsRing.turn (h : IsRing T sz w rb cb g n m flat) {w' : World} {bs : List Nat} (ht : Turn bs w w') (hn : ∀ k ∈ blocks rb cb g, k ∉ bs) : IsRing T sz w' rb cb g n m flat := by
  obtain ⟨h1, h2, h3, h4, a, c, buf, s, r, hb, hc, hs, hw⟩ := h
  refine ⟨h1, h2, h3, h4, a, c, buf, s, r, ?_, ?_, hs, hw.turn ht (fun k hk => hn k (mem_blocks.2 (.inr (.inr hk))))⟩
  · rw [ht.block rb (Array.getElem?_eq_some_iff.1 hb).1 (hn rb (mem_blocks.2 (.inl rfl)))]; exact hb
  · rw [ht.block cb (Array.getElem?_eq_some_iff.1 hc).1 (hn cb (mem_blocks.2 (.inr (.inl rfl))))]; exact hc
theorem IsRing.lt (h : IsRing T sz w rb cb g n m flat) : ∀ k ∈ blocks rb cb g, k < w.heap.size := by
  obtain ⟨h1, h2, h3, h4, a, c, buf, s, r, hb, hc, hs, hw⟩ := h
  intro k hk
  rcases mem_blocks.1 hk with rfl | rfl | hk
  · exact (Array.getElem?_eq_some_iff.1 hb).1
  · exact (Array.getElem?_eq_some_iff.1 hc).1
  · exact hw.lt k hk
theorem IsRing.len (h : IsRing T sz w rb cb g n m flat) : flat.length = m * sz := by
  obtain ⟨h1, h2, h3, h4, a, c, buf, s, r, hb, hc, hs, hw⟩ := h
  exact hw.1
end

theorem Turn.setChan {bs : List Nat} {a w : World} (h : Turn bs a w) {c : Nat} (hc : c ∈ bs) (cap : Nat) (buf : Array Value) (cl : Bool) (s r : Nat) (tm : Bool) : Turn bs a (w.setChan c cap buf cl s r tm) :=
  h.trans ⟨rfl, rfl, rfl, by simp [World.setChan], fun k hk hn => by
    have e : c ≠ k := fun e => hn (e ▸ hc)
    simp only [World.setChan]; rw [Array.getElem?_setIfInBounds_ne e]⟩

theorem chan_len {P : Program} {w : World} {c cap s r : Nat} {buf : Array Value} {closed : Bool} {dir : ChanDir} {e : TypeId} (t ty : TypeId) (ht : P.underlying t = some (.chan dir e)) (hc : w.heap[c]? = some (.chan cap buf closed s r false)) :
    (Builtin.len_ #[t] ty #[.chan (some c)]).run P w = .ok (.int .i64 buf.size) w := by
  simp [Builtin.len_, run_underlying ht, run_getObj_chan _ _ hc, goInt]
theorem chan_cap {P : Program} {w : World} {c cap s r : Nat} {buf : Array Value} {closed : Bool} {dir : ChanDir} {e : TypeId} (t ty : TypeId) (ht : P.underlying t = some (.chan dir e)) (hc : w.heap[c]? = some (.chan cap buf closed s r false)) :
    (Builtin.cap_ #[t] ty #[.chan (some c)]).run P w = .ok (.int .i64 cap) w := by
  simp [Builtin.cap_, run_underlying ht, run_getObj_chan _ _ hc, goInt]

theorem info_tok : ∃ i, Try.prog.info? 79 = some i ∧ i.bytes = 0 := by
  have h : (Try.prog.info? 79).map (·.bytes) = some 0 := by kernel_rfl
  obtain ⟨i, hi, hb⟩ := Option.map_eq_some_iff.1 h
  exact ⟨i, hi, hb⟩
theorem make_chan (w : World) (n : Nat) (hn : n ≤ 1048576) : (Instr.makeChan 76 (.int .i64 n)).run Try.prog w = .ok (.chan (some w.heap.size)) (w.alloc (.chan n #[] false 0 0 false)) := by
  obtain ⟨i, hi, hb⟩ := info_tok
  exact run_makeChan (P := Try.prog) (w := w) Try.underlying76 hi .i64 n (by omega) (by rw [hb]; omega)

/-- What is known of an element type, for 'append'. -/
def infoB (P : Program) (e : TypeId) (sz : Nat) : Bool := match P.info? e with
  | some i => match i.zero with
    | some z => decide (i.size = sz) && decide (i.bytes ≤ 64) && decide (z.cells.size = sz) && decide (0 < sz)
    | none => false
  | none => false
theorem infoB_at {P : Program} {e : TypeId} {sz : Nat} (h : infoB P e sz = true) : ∃ i z, P.info? e = some i ∧ i.zero = some z ∧ i.size = sz ∧ i.bytes ≤ 64 ∧ z.cells.size = sz ∧ 0 < sz := by
  unfold infoB at h
  split at h
  · rename_i i hi
    split at h
    · rename_i z hz
      simp only [Bool.and_eq_true, decide_eq_true_eq] at h
      exact ⟨i, z, hi, hz, h.1.1.1, h.1.1.2, h.1.2, h.2⟩
    · cases h
  · cases h

/-- How many tokens lie in a channel. -/
def toks (w : World) (cb : Nat) : Nat := match w.heap[cb]? with
  | some (.chan _ buf _ _ _ _) => buf.size
  | _ => 0
theorem IsRing.toks {T : TypeId} {sz : Nat} {w : World} {rb cb : Nat} {g : Option Nat} {n m : Nat} {flat : List Value} (h : IsRing T sz w rb cb g n m flat) : toks w cb = m := by
  obtain ⟨h1, h2, h3, h4, a, c, buf, s, r, hb, hc, hs, hw⟩ := h
  unfold Ytdlcmmodhicieaa.toks
  rw [hc]
  exact hs

/-- What Push finds and leaves. -/
theorem IsRing.push_by {P : Program} {T : TypeId} {sz : Nat} {w : World} {rb cb : Nat} {g : Option Nat} {n m : Nat} {flat : List Value} (h : IsRing T sz w rb cb g n m flat) (hm : m < n) (t e : TypeId) (ht : P.underlying t = some (.slice e)) (hi : infoB P e sz = true)
    (D : World → World) (hD : ∀ w, Turn [] w (D w) ∧ (D w).heap.size = w.heap.size) (news : List Value) (hl : news.length = sz) (h1 : ∀ u ∈ news, u.oneCell' = true) :
    ∃ buf s r W a c a' c' W3, w.heap[cb]? = some (.chan n buf false s r false) ∧ buf.size < n ∧ w.cell? ⟨rb, 0, none⟩ = some (.chan (some cb)) ∧ w.setChan cb n (buf.push (.agg #[])) false (s + 1) r false = W ∧
      W.cell? ⟨rb, 1, none⟩ = some (.slice a m c) ∧ W.frozen? ⟨rb, 1, none⟩ = false ∧ rb < W.heap.size ∧
      (Builtin.append_ #[t, t] t #[.slice a m c, .slice (some ⟨W.heap.size, 0, none⟩) 1 1]).run P (D (W.alloc (.cells news.toArray e))) = .ok (.slice a' (m + 1) c') W3 ∧
      W3.cell? ⟨rb, 1, none⟩ = some (.slice a m c) ∧ W3.frozen? ⟨rb, 1, none⟩ = false ∧
      Hid ((∃ g', IsRing T sz (W3.setCell ⟨rb, 1, none⟩ (.slice a' (m + 1) c')) rb cb g' n (m + 1) (flat ++ news) ∧ ∀ k, g' = some k → g = some k ∨ w.heap.size ≤ k) ∧ Turn (blocks rb cb g) w (W3.setCell ⟨rb, 1, none⟩ (.slice a' (m + 1) c'))) := by
  obtain ⟨hne, h2, h3, h4, a, c, buf, s, r, hb, hc, hsz, hw⟩ := h
  have c0 : w.cell? ⟨rb, 0, none⟩ = some (.chan (some cb)) := by rw [cell_of_row w rb 0 _ _ (0, 0) hb]; rfl
  have hT1 : Turn [cb] w (w.setChan cb n (buf.push (.agg #[])) false (s + 1) r false) := (Turn.refl _ _).setChan (by simp) _ _ _ _ _ _
  have hc1 : (w.setChan cb n (buf.push (.agg #[])) false (s + 1) r false).heap[cb]? = some (.chan n (buf.push (.agg #[])) false (s + 1) r false) := by
    have := (Array.getElem?_eq_some_iff.1 hc).1
    simp [World.setChan, this]
  obtain ⟨W, hW⟩ : ∃ W, w.setChan cb n (buf.push (.agg #[])) false (s + 1) r false = W := ⟨_, rfl⟩
  rw [hW] at hT1 hc1
  have hb1 : W.heap[rb]? = some (.cells #[.chan (some cb), .slice a m c] T (0, 0)) := (hT1.block rb (Array.getElem?_eq_some_iff.1 hb).1 (by simpa using hne)).trans hb
  have hw1 := hw.turn hT1 (fun k hk => by have := (h2 k hk).2; simpa using this)
  have hlt : rb < W.heap.size := (Array.getElem?_eq_some_iff.1 hb1).1
  have hltc : cb < W.heap.size := (Array.getElem?_eq_some_iff.1 hc1).1
  obtain ⟨i, z, hi, hz, hs1, hby, hzs, hs0⟩ := infoB_at hi
  have hTa : Turn [] W (D (W.alloc (.cells news.toArray e))) := ((Turn.refl _ _).alloc _).trans (hD _).1
  have hTsz : (D (W.alloc (.cells news.toArray e))).heap.size = W.heap.size + 1 := by rw [(hD _).2]; simp
  have hcell : ∀ j u, news[j]? = some u → (D (W.alloc (.cells news.toArray e))).cell? ((⟨W.heap.size, 0, none⟩ : Addr).add j) = some u := by
    intro j u hu
    rw [Addr.add_lit, Nat.zero_add, (hD _).1.cell (by simp) (by simp), World.cell?_alloc_at _ _ _ _ rfl]
    simpa using hu
  obtain ⟨a', c', W3, g', happ, hw3, hT3, hg'⟩ := (hw1.turn hTa (fun k _ => by simp)).append t e i z i.bytes ht hi hz hs1 rfl hby hzs hs0 ⟨W.heap.size, 0, none⟩ 1 news hl hcell h1 (by omega) (fun _ _ => trivial)
  have hbo : W3.heap[rb]? = some (.cells #[.chan (some cb), .slice a m c] T (0, 0)) := by
    rw [hT3.block rb (by omega) (fun h => (h2 rb (by simpa using h)).1 rfl), hTa.block rb hlt (by simp)]; exact hb1
  have hco : W3.heap[cb]? = some (.chan n (buf.push (.agg #[])) false (s + 1) r false) := by
    rw [hT3.block cb (by omega) (fun h => (h2 cb (by simpa using h)).2 rfl), hTa.block cb hltc (by simp)]; exact hc1
  refine ⟨buf, s, r, W, a, c, a', c', W3, hc, by omega, c0, hW, by rw [cell_of_row W rb 1 _ _ (0, 0) hb1]; rfl, by simp [World.frozen?, hb1], hlt, happ, by rw [cell_of_row W3 rb 1 _ _ (0, 0) hbo]; rfl, by simp [World.frozen?, hbo], Lib.hid ?_⟩
  have hsw := hT1.size
  have hTs : Turn [rb] W3 (W3.setCell ⟨rb, 1, none⟩ (.slice a' (m + 1) c')) := (Turn.refl _ _).setCell (p := ⟨rb, 1, none⟩) (by simp) _
  have hg2 : ∀ k, g' = some k → k ≠ rb ∧ k ≠ cb := by
    intro k hk
    rcases hg' k hk with h | h
    · exact h2 k h
    · omega
  refine ⟨⟨g', ⟨hne, hg2, h3, by omega, a', c', buf.push (.agg #[]), s + 1, r, ?_, ?_, by simp [hsz], hw3.turn hTs (fun k hk => by have := (hg2 k hk).1; simpa using this)⟩, fun k hk => ?_⟩, ?_⟩
  · simp [World.setCell, Array.getElem?_modify, hbo]
  · rw [hTs.block cb (Array.getElem?_eq_some_iff.1 hco).1 (by simpa using hne.symm)]; exact hco
  · rcases hg' k hk with h | h
    · exact .inl h
    · exact .inr (by omega)
  · refine (((hT1.mono ?_).trans (hTa.mono ?_)).trans (hT3.mono ?_)).trans (hTs.mono ?_)
    all_goals intro k hk; unfold blocks; simp at hk ⊢
    · exact .inr (.inl hk)
    · exact .inr (.inr (by simpa using hk))
    · exact .inl hk
theorem IsRing.push {P : Program} {T : TypeId} {sz : Nat} {w : World} {rb cb : Nat} {g : Option Nat} {n m : Nat} {flat : List Value} (h : IsRing T sz w rb cb g n m flat) (hm : m < n) (t e : TypeId) (ht : P.underlying t = some (.slice e)) (hi : infoB P e sz = true)
    (news : List Value) (hl : news.length = sz) (h1 : ∀ u ∈ news, u.oneCell' = true) :
    ∃ buf s r W a c a' c' W3, w.heap[cb]? = some (.chan n buf false s r false) ∧ buf.size < n ∧ w.cell? ⟨rb, 0, none⟩ = some (.chan (some cb)) ∧ w.setChan cb n (buf.push (.agg #[])) false (s + 1) r false = W ∧
      W.cell? ⟨rb, 1, none⟩ = some (.slice a m c) ∧ W.frozen? ⟨rb, 1, none⟩ = false ∧ rb < W.heap.size ∧
      (Builtin.append_ #[t, t] t #[.slice a m c, .slice (some ⟨W.heap.size, 0, none⟩) 1 1]).run P (W.alloc (.cells news.toArray e)) = .ok (.slice a' (m + 1) c') W3 ∧
      W3.cell? ⟨rb, 1, none⟩ = some (.slice a m c) ∧ W3.frozen? ⟨rb, 1, none⟩ = false ∧
      Hid ((∃ g', IsRing T sz (W3.setCell ⟨rb, 1, none⟩ (.slice a' (m + 1) c')) rb cb g' n (m + 1) (flat ++ news) ∧ ∀ k, g' = some k → g = some k ∨ w.heap.size ≤ k) ∧ Turn (blocks rb cb g) w (W3.setCell ⟨rb, 1, none⟩ (.slice a' (m + 1) c'))) :=
  h.push_by hm t e ht hi (fun w => w) (fun w => ⟨Turn.refl _ _, rfl⟩) news hl h1
theorem IsRing.push_drawn {P : Program} {T : TypeId} {sz : Nat} {w : World} {rb cb : Nat} {g : Option Nat} {n m : Nat} {flat : List Value} (h : IsRing T sz w rb cb g n m flat) (hm : m < n) (t e : TypeId) (ht : P.underlying t = some (.slice e)) (hi : infoB P e sz = true)
    (news : List Value) (hl : news.length = sz) (h1 : ∀ u ∈ news, u.oneCell' = true) :
    ∃ buf s r W a c a' c' W3, w.heap[cb]? = some (.chan n buf false s r false) ∧ buf.size < n ∧ w.cell? ⟨rb, 0, none⟩ = some (.chan (some cb)) ∧ w.setChan cb n (buf.push (.agg #[])) false (s + 1) r false = W ∧
      W.cell? ⟨rb, 1, none⟩ = some (.slice a m c) ∧ W.frozen? ⟨rb, 1, none⟩ = false ∧ rb < W.heap.size ∧
      (Builtin.append_ #[t, t] t #[.slice a m c, .slice (some ⟨W.heap.size, 0, none⟩) 1 1]).run P (W.alloc (.cells news.toArray e)).drew = .ok (.slice a' (m + 1) c') W3 ∧
      W3.cell? ⟨rb, 1, none⟩ = some (.slice a m c) ∧ W3.frozen? ⟨rb, 1, none⟩ = false ∧
      Hid ((∃ g', IsRing T sz (W3.setCell ⟨rb, 1, none⟩ (.slice a' (m + 1) c')) rb cb g' n (m + 1) (flat ++ news) ∧ ∀ k, g' = some k → g = some k ∨ w.heap.size ≤ k) ∧ Turn (blocks rb cb g) w (W3.setCell ⟨rb, 1, none⟩ (.slice a' (m + 1) c'))) :=
  h.push_by hm t e ht hi World.drew (fun w => ⟨(Turn.refl _ _).drew, rfl⟩) news hl h1

/-- What Pop finds and leaves. -/
theorem IsRing.pop {T : TypeId} {w : World} {rb cb : Nat} {g : Option Nat} {n m : Nat} {v : Value} {vs : List Value} (h : IsRing T 1 w rb cb g n (m + 1) (v :: vs)) (z : Value) :
    ∃ buf s r W gb off c W2, w.heap[cb]? = some (.chan n buf false s r false) ∧ 0 < buf.size ∧ w.cell? ⟨rb, 0, none⟩ = some (.chan (some cb)) ∧ w.setChan cb n (buf.extract 1 buf.size) false s (r + 1) false = W ∧
      W.cell? ⟨rb, 1, none⟩ = some (.slice (some ⟨gb, off, none⟩) (m + 1) c) ∧ m + 1 ≤ c ∧ W.cell? ⟨gb, off, none⟩ = some v ∧ W.frozen? ⟨gb, off, none⟩ = false ∧ W.setCell ⟨gb, off, none⟩ z = W2 ∧
      W2.cell? ⟨rb, 1, none⟩ = some (.slice (some ⟨gb, off, none⟩) (m + 1) c) ∧ W2.frozen? ⟨rb, 1, none⟩ = false ∧
      Hid ((∃ g', IsRing T 1 (W2.setCell ⟨rb, 1, none⟩ (.slice (if c = 1 then some ⟨gb, off, none⟩ else some ⟨gb, off + 1, none⟩) m (c - 1))) rb cb g' n m vs ∧ ∀ k, g' = some k → g = some k) ∧
        Turn (blocks rb cb g) w (W2.setCell ⟨rb, 1, none⟩ (.slice (if c = 1 then some ⟨gb, off, none⟩ else some ⟨gb, off + 1, none⟩) m (c - 1)))) := by
  obtain ⟨hne, h2, h3, h4, a, c, buf, s, r, hb, hc, hsz, hw⟩ := h
  have c0 : w.cell? ⟨rb, 0, none⟩ = some (.chan (some cb)) := by rw [cell_of_row w rb 0 _ _ (0, 0) hb]; rfl
  have hT1 : Turn [cb] w (w.setChan cb n (buf.extract 1 buf.size) false s (r + 1) false) := (Turn.refl _ _).setChan (by simp) _ _ _ _ _ _
  have hc1 : (w.setChan cb n (buf.extract 1 buf.size) false s (r + 1) false).heap[cb]? = some (.chan n (buf.extract 1 buf.size) false s (r + 1) false) := by
    have := (Array.getElem?_eq_some_iff.1 hc).1
    simp [World.setChan, this]
  obtain ⟨gb, off, rfl, rfl, hgl, hcs, hfl, hfz⟩ := hw.some_of (by omega)
  obtain ⟨W, hW⟩ : ∃ W, w.setChan cb n (buf.extract 1 buf.size) false s (r + 1) false = W := ⟨_, rfl⟩
  rw [hW] at hT1 hc1
  have hgr := h2 gb rfl
  have hb1 : W.heap[rb]? = some (.cells #[.chan (some cb), .slice (some ⟨gb, off, none⟩) (m + 1) c] T (0, 0)) := (hT1.block rb (Array.getElem?_eq_some_iff.1 hb).1 (by simpa using hne)).trans hb
  have hw1 := hw.turn hT1 (fun k hk => by cases hk; simpa using hgr.2)
  obtain ⟨gb', off', e1, e2, hgl1, hcs1, hfl1, hfz1⟩ := hw1.some_of (by omega)
  cases e1
  cases e2
  have hTg : Turn [gb] W (W.setCell ⟨gb, off, none⟩ z) := (Turn.refl _ _).setCell (p := ⟨gb, off, none⟩) (by simp) _
  have hw2 := hw1.setHead (x := z)
  obtain ⟨W2, hW2⟩ : ∃ W2, W.setCell ⟨gb, off, none⟩ z = W2 := ⟨_, rfl⟩
  rw [hW2] at hTg hw2
  have hb2 : W2.heap[rb]? = some (.cells #[.chan (some cb), .slice (some ⟨gb, off, none⟩) (m + 1) c] T (0, 0)) := (hTg.block rb (Array.getElem?_eq_some_iff.1 hb1).1 (by have := hgr.1; simp; omega)).trans hb1
  have hc2 : W2.heap[cb]? = some (.chan n (buf.extract 1 buf.size) false s (r + 1) false) := (hTg.block cb (Array.getElem?_eq_some_iff.1 hc1).1 (by have := hgr.2; simp; omega)).trans hc1
  refine ⟨buf, s, r, W, gb, off, c, W2, hc, by omega, c0, hW, by rw [cell_of_row W rb 1 _ _ (0, 0) hb1]; rfl, hw.2.1, by simpa using hfl1 0 v rfl, hfz1 _, hW2, by rw [cell_of_row W2 rb 1 _ _ (0, 0) hb2]; rfl, by simp [World.frozen?, hb2], Lib.hid ?_⟩
  obtain ⟨g', hw3, hg'⟩ := hw2.tail
  generalize (if c = 1 then some (⟨gb, off, none⟩ : Addr) else some ⟨gb, off + 1, none⟩) = a' at *
  have hTs : Turn [rb] W2 (W2.setCell ⟨rb, 1, none⟩ (.slice a' m (c - 1))) := (Turn.refl _ _).setCell (p := ⟨rb, 1, none⟩) (by simp) _
  have hg2 : ∀ k, g' = some k → k ≠ rb ∧ k ≠ cb := fun k hk => h2 k (hg' k hk)
  refine ⟨⟨g', ⟨hne, hg2, h3, by omega, a', c - 1, buf.extract 1 buf.size, s, r + 1, ?_, ?_, by simp; omega, hw3.turn hTs (fun k hk => by have := (hg2 k hk).1; simpa using this)⟩, hg'⟩, ?_⟩
  · simp [World.setCell, Array.getElem?_modify, hb2]
  · rw [hTs.block cb (Array.getElem?_eq_some_iff.1 hc2).1 (by simpa using hne.symm)]; exact hc2
  · refine ((hT1.mono ?_).trans (hTg.mono ?_)).trans (hTs.mono ?_)
    all_goals intro k hk; unfold blocks; simp at hk ⊢
    · exact .inr (.inl hk)
    · exact .inr (.inr hk)
    · exact .inl hk

/-- A ring whose blocks are all of the call's own: from B on. -/
def MyRing (T : TypeId) (sz B : Nat) (w : World) (rb cb n m : Nat) (flat : List Value) : Prop := ∃ g, IsRing T sz w rb cb g n m flat ∧ ∀ k ∈ blocks rb cb g, B ≤ k
section
variable {T : TypeId} {sz B : Nat} {w w' : World} {rb cb n m : Nat} {flat : List Value} {g : Option Nat}
theorem MyRing.turn (h : MyRing T sz B w rb cb n m flat) (ht : Turn [] w w') : MyRing T sz B w' rb cb n m flat := by
  obtain ⟨g, h1, h2⟩ := h
  exact ⟨g, h1.turn ht (fun _ _ => by simp), h2⟩
theorem MyRing.recast {m' : Nat} {flat' : List Value} (h : MyRing T sz B w rb cb n m flat) (hm : m = m') (hf : flat = flat') : MyRing T sz B w rb cb n m' flat' := by
  subst hm hf; exact h
theorem MyRing.len (h : MyRing T sz B w rb cb n m flat) : flat.length = m * sz := by
  obtain ⟨g, h1, h2⟩ := h
  exact h1.len
theorem MyRing.size (h : MyRing T sz B w rb cb n m flat) : B < w.heap.size := by
  obtain ⟨g, h1, h2⟩ := h
  have := h1.lt rb (mem_blocks.2 (.inl rfl))
  have := h2 rb (mem_blocks.2 (.inl rfl))
  omega
theorem MyRing.le (h : MyRing T sz B w rb cb n m flat) : m ≤ n := by
  obtain ⟨g, h1, h2⟩ := h
  exact h1.le
theorem MyRing.toks (h : MyRing T sz B w rb cb n m flat) : Ytdlcmmodhicieaa.toks w cb = m := by
  obtain ⟨g, h1, h2⟩ := h
  exact h1.toks
theorem my_after (h : IsRing T sz w rb cb g n m flat) (hB : ∀ k ∈ blocks rb cb g, B ≤ k) {m' : Nat} {flat' : List Value}
    (h2 : (∃ g', IsRing T sz w' rb cb g' n m' flat' ∧ ∀ k, g' = some k → g = some k ∨ w.heap.size ≤ k) ∧ Turn (blocks rb cb g) w w') : MyRing T sz B w' rb cb n m' flat' ∧ Below B w w' := by
  obtain ⟨⟨g', h3, h4⟩, ht⟩ := h2
  have hlt : B ≤ w.heap.size := by
    have := h.lt rb (mem_blocks.2 (.inl rfl))
    have := hB rb (mem_blocks.2 (.inl rfl))
    omega
  refine ⟨⟨g', h3, fun k hk => ?_⟩, ht.below hlt (fun k hk => hB k hk)⟩
  rcases mem_blocks.1 hk with h | h | h
  · exact hB k (mem_blocks.2 (.inl h))
  · exact hB k (mem_blocks.2 (.inr (.inl h)))
  · rcases h4 k h with h | h
    · exact hB k (mem_blocks.2 (.inr (.inr h)))
    · omega
theorem my_new (hB : B ≤ w.heap.size) (h : IsRing T sz w' (w.heap.size + 1) w.heap.size none n 0 []) (ht : Turn [] w w') : MyRing T sz B w' (w.heap.size + 1) w.heap.size n 0 [] ∧ Below B w w' :=
  ⟨⟨none, h, fun k hk => by
    rcases mem_blocks.1 hk with h | h | h
    · omega
    · omega
    · cases h⟩, ht.below hB (fun k hk => by cases hk)⟩
end
end Go.Proofs.Ytdlcmmodhicieaa
