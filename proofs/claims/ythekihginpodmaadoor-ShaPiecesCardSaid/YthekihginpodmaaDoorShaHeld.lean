/-
  A state and a row of the law's own beside it: their blocks, what turns when one of them is written. From the contracts.
-/
import Derived.Test.YthekihginpodmaaDoorShaSt
import Derived.Test.YthekihginpodmaaDoorWins
namespace Go.Proofs.YthekihginpodmaaDoor
open Go.RowKit
set_option linter.unusedVariables false

theorem Reads.turn {w w' : World} {a : Option Addr} {n : Nat} {zs : List Int} (h : Reads w a n zs) {bs : List Nat} (ht : Turn bs w w') (hn : 0 < n → ∀ q, a = some q → q.block ∉ bs) : Reads w' a n zs := by
  refine ⟨h.1, ?_⟩
  rcases h.2 with h0 | ⟨b, off, ha, hlt, hc⟩
  · exact .inl h0
  · by_cases h0 : n = 0
    · exact .inl h0
    · exact .inr ⟨b, off, ha, Nat.lt_of_lt_of_le hlt ht.size, fun i hi => by rw [ht.cell (p := ⟨b, off + i, none⟩) hlt (by have := hn (by omega) _ ha; exact this)]; exact hc i hi⟩
theorem Tab.turn {w w' : World} (h : Tab w) {bs : List Nat} (ht : Turn bs w w') (hn : ∀ g ∈ tabs, g ∉ bs) : Tab w' :=
  ⟨fun i x hx => by rw [ht.cell (p := ⟨_, i, none⟩) (h.lt _ (by simp [tabs])) (hn _ (by simp [tabs]))]; exact h.1 i x hx, fun i x hx => by rw [ht.cell (p := ⟨_, i, none⟩) (h.lt _ (by simp [tabs])) (hn _ (by simp [tabs]))]; exact h.2 i x hx⟩
theorem Win.reads8 {w : World} {g : Option Nat} {a : Option Addr} {n c : Nat} {zs : List Int} (h : Win w 1 g a n c (zs.map (Value.int .u8))) : Reads w a n zs := by
  have hl : zs.length = n := by have := h.1; simpa using this
  refine ⟨hl, ?_⟩
  by_cases h0 : n = 0
  · exact .inl h0
  · obtain ⟨gb, off, _, ha, hlt, _, hc, _⟩ := h.some_of (by omega)
    exact .inr ⟨gb, off, ha, hlt, fun i hi => hc i _ (by rw [List.getElem?_map]; simp [show i < zs.length by omega])⟩

/-- In W the state at p has absorbed zs, and the slice of this address, length and capacity holds the bytes xs; all their memory are the blocks fs. -/
def Held (St : World → Addr → List Nat → List Int → Prop) (p : Addr) (zs : List Int) (a : Option Addr) (n c : Nat) (xs : List Int) (fs : List Nat) (W : World) : Prop :=
  ∃ bs g, St W p bs zs ∧ Win W 1 g a n c (xs.map (Value.int .u8)) ∧ (∀ x, g = some x → x ∉ bs) ∧ fs = bs ++ g.toList
section
variable {St : World → Addr → List Nat → List Int → Prop} {p : Addr} {zs xs : List Int} {a : Option Addr} {n c : Nat} {fs : List Nat} {W W' : World}
theorem mem_foot {bs : List Nat} {g : Option Nat} {b : Nat} : b ∈ bs ++ g.toList ↔ b ∈ bs ∨ g = some b := by
  rw [List.mem_append]
  cases g <;> simp [eq_comm]
theorem Held.lt (K : StOk St) (h : Held St p zs a n c xs fs W) : ∀ b ∈ fs, b < W.heap.size := by
  obtain ⟨bs, g, h1, h2, h3, rfl⟩ := h
  intro b hb
  rcases mem_foot.1 hb with h4 | h4
  · exact K.lt _ _ _ _ h1 b h4
  · exact h2.lt b h4
theorem Held.turn (K : StOk St) (h : Held St p zs a n c xs fs W) {cs : List Nat} (ht : Turn cs W W') (hd : ∀ b ∈ fs, b ∉ cs) : Held St p zs a n c xs fs W' := by
  obtain ⟨bs, g, h1, h2, h3, rfl⟩ := h
  exact ⟨bs, g, K.turn _ _ _ _ _ _ h1 ht (fun b hb => hd b (mem_foot.2 (.inl hb))), h2.turn ht (fun k hk => hd k (mem_foot.2 (.inr hk))), h3, rfl⟩
theorem Held.keep (K : StOk St) (h : Held St p zs a n c xs fs W) (hb : Below W.heap.size W W') : Held St p zs a n c xs fs W' := h.turn K (Turn.of_below hb) (fun b _ hn => by cases hn)
theorem Held.reads (h : Held St p zs a n c xs fs W) : Reads W a n xs := by obtain ⟨bs, g, _, h2, _⟩ := h; exact h2.reads8
theorem Held.le (h : Held St p zs a n c xs fs W) : n ≤ c := by obtain ⟨bs, g, _, h2, _⟩ := h; exact h2.2.1
theorem held_new {bs : List Nat} (h : St W p bs zs) : Held St p zs none 0 0 [] bs W := ⟨bs, none, h, Win.nil _ _ _, fun x hx => (by cases hx), by simp⟩
theorem held_write (K : StOk St) (h : Held St p zs a n c xs fs W) (bz : Byt zs) (a2 : Option Addr) (m c2 : Nat) (ys : List Int) (hr : Reads W a2 m ys) (hy : Byt ys) (hc : m ≤ c2) (hm : c2 ≤ maxLen) (hl : zs.length + m ≤ 1099511627776)
    (ht : Tab W) (hT : ∀ g ∈ tabs, g ∉ fs) (hfar : 0 < m → ∀ q, a2 = some q → q.block ∉ fs) :
    Calls Tryd.prog 17 #[.pointer (some p), .slice a2 m c2] W fun e W' => e = .returned (.tuple #[]) ∧ ∃ fs', Held St p (zs ++ ys) a n c xs fs' W' ∧ (∀ b ∈ fs', b ∈ fs ∨ W.heap.size ≤ b) ∧ Turn fs W W' := by
  have hlt := h.lt K
  obtain ⟨bs, g, h1, h2, h3, rfl⟩ := h
  refine (K.write W p bs zs a2 m c2 ys h1 bz hr hy hc hm hl ht (fun g hg hn => hT g hg (mem_foot.2 (.inl hn))) (fun h0 q hq hn => hfar h0 q hq (mem_foot.2 (.inl hn)))).mono ?_
  rintro e W' ⟨rfl, bs', h4, h5, h6⟩
  refine ⟨rfl, bs' ++ g.toList, ⟨bs', g, h4, h2.turn h6 h3, fun x hx hn => ?_, rfl⟩, fun b hb => ?_, h6.mono fun k hk => mem_foot.2 (.inl hk)⟩
  · rcases h5 x hn with h7 | h7
    · exact h3 x hx h7
    · have := hlt x (mem_foot.2 (.inr hx)); omega
  · rcases mem_foot.1 hb with h7 | h7
    · exact (h5 b h7).imp (fun h8 => mem_foot.2 (.inl h8)) id
    · exact .inl (mem_foot.2 (.inr h7))
/-- The row itself is written into the state. -/
theorem held_write_own (K : StOk St) (h : Held St p zs a n c xs fs W) (bz : Byt zs) (bx : Byt xs) (hm : c ≤ maxLen) (hl : zs.length + n ≤ 1099511627776) (ht : Tab W) (hT : ∀ g ∈ tabs, g ∉ fs) :
    Calls Tryd.prog 17 #[.pointer (some p), .slice a n c] W fun e W' => e = .returned (.tuple #[]) ∧ ∃ fs', Held St p (zs ++ xs) a n c xs fs' W' ∧ (∀ b ∈ fs', b ∈ fs ∨ W.heap.size ≤ b) ∧ Turn fs W W' := by
  have hlt := h.lt K
  have hrd := h.reads
  have hle := h.le
  obtain ⟨bs, g, h1, h2, h3, rfl⟩ := h
  refine (K.write W p bs zs a n c xs h1 bz hrd bx hle hm hl ht (fun g hg hn => hT g hg (mem_foot.2 (.inl hn))) (fun h0 q hq hn => ?_)).mono ?_
  · obtain ⟨gb, off, hg, ha, _⟩ := h2.some_of h0
    rw [ha] at hq
    cases hq
    exact h3 gb hg hn
  rintro e W' ⟨rfl, bs', h4, h5, h6⟩
  refine ⟨rfl, bs' ++ g.toList, ⟨bs', g, h4, h2.turn h6 h3, fun x hx hn => ?_, rfl⟩, fun b hb => ?_, h6.mono fun k hk => mem_foot.2 (.inl hk)⟩
  · rcases h5 x hn with h7 | h7
    · exact h3 x hx h7
    · have := hlt x (mem_foot.2 (.inr hx)); omega
  · rcases mem_foot.1 hb with h7 | h7
    · exact (h5 b h7).imp (fun h8 => mem_foot.2 (.inl h8)) id
    · exact .inl (mem_foot.2 (.inr h7))
theorem held_sum (K : StOk St) (h : Held St p zs a n c xs fs W) (bz : Byt zs) (hl : zs.length ≤ 1099511627776) (ht : Tab W) (hT : ∀ g ∈ tabs, g ∉ fs) :
    Calls Tryd.prog 18 #[.pointer (some p)] W fun e W' => e = .returned (dv (sha zs)) ∧ ∃ fs', Held St p zs a n c xs fs' W' ∧ (∀ b ∈ fs', b ∈ fs ∨ W.heap.size ≤ b) ∧ Turn fs W W' := by
  have hlt := h.lt K
  obtain ⟨bs, g, h1, h2, h3, rfl⟩ := h
  refine (K.sum W p bs zs h1 bz hl ht (fun g hg hn => hT g hg (mem_foot.2 (.inl hn)))).mono ?_
  rintro e W' ⟨rfl, bs', h4, h5, h6⟩
  refine ⟨rfl, bs' ++ g.toList, ⟨bs', g, h4, h2.turn h6 h3, fun x hx hn => ?_, rfl⟩, fun b hb => ?_, h6.mono fun k hk => mem_foot.2 (.inl hk)⟩
  · rcases h5 x hn with h7 | h7
    · exact h3 x hx h7
    · have := hlt x (mem_foot.2 (.inr hx)); omega
  · rcases mem_foot.1 hb with h7 | h7
    · exact (h5 b h7).imp (fun h8 => mem_foot.2 (.inl h8)) id
    · exact .inl (mem_foot.2 (.inr h7))
theorem held_append (K : StOk St) (h : Held St p zs a n c xs fs W) (a2 : Option Addr) (m c2 : Nat) (ys : List Int) (hr : Reads W a2 m ys) (hl : n + m ≤ 1099511627776) :
    ∃ a' c' W', (Builtin.append_ #[22, 22] 22 #[.slice a n c, .slice a2 m c2]).run Tryd.prog W = .ok (.slice a' (n + m) c') W' ∧
      RowKit.Hid (∃ fs', Held St p zs a' (n + m) c' (xs ++ ys) fs' W' ∧ (∀ b ∈ fs', b ∈ fs ∨ W.heap.size ≤ b) ∧ Turn fs W W') := by
  have hlt := h.lt K
  obtain ⟨bs, g, h1, h2, h3, rfl⟩ := h
  obtain ⟨i0, hi0, hz⟩ := Option.map_eq_some_iff.1 Tryd.infoR
  simp only [Prod.mk.injEq] at hz
  obtain ⟨hz0, hz1, hz2⟩ := hz
  have hlen : ys.length = m := hr.1
  rcases hr.2 with h0 | ⟨b, off, rfl, _, hc⟩
  · subst h0
    have hy : ys = [] := List.eq_nil_of_length_eq_zero hlen
    subst hy
    exact ⟨a, c, W, run_append_zero W _ _ i0 Tryd.underlying22 hi0 a a2 n c c2 h2.2.1, Lib.hid ⟨_, ⟨bs, g, h1, by simpa using h2, h3, rfl⟩, fun b hb => .inl hb, Turn.refl _ _⟩⟩
  · by_cases hm : m = 0
    · subst hm
      have hy : ys = [] := List.eq_nil_of_length_eq_zero hlen
      subst hy
      exact ⟨a, c, W, run_append_zero W _ _ i0 Tryd.underlying22 hi0 a _ n c c2 h2.2.1, Lib.hid ⟨_, ⟨bs, g, h1, by simpa using h2, h3, rfl⟩, fun b hb => .inl hb, Turn.refl _ _⟩⟩
    · obtain ⟨a', c', W', g', hrun, hw, ht, hg⟩ := h2.appends (P := Tryd.prog) 22 5 i0 (.int .u8 0) 1 Tryd.underlying22 hi0 hz0 hz1 hz2 (by omega) rfl (by omega) ⟨b, off, none⟩ c2 m (by omega) (ys.map (Value.int .u8)) (by simp [hlen])
        (fun j u hu => by
          rw [List.getElem?_map] at hu
          obtain ⟨y, hy, rfl⟩ := Option.map_eq_some_iff.1 hu
          have hj : j < m := by have := (List.getElem?_eq_some_iff.1 hy).1; omega
          rw [show (⟨b, off, none⟩ : Addr).add j = ⟨b, off + j, none⟩ from Addr.add_mid _ _ _, hc j hj, hy, Option.getD_some])
        (by intro u hu; obtain ⟨y, _, rfl⟩ := List.mem_map.1 hu; rfl) hl
      refine ⟨a', c', W', hrun, Lib.hid ⟨bs ++ g'.toList, ⟨bs, g', K.turn _ _ _ _ _ _ h1 ht (fun b hb hn => ?_), by rw [List.map_append]; exact hw, fun x hx hn => ?_, rfl⟩, fun b hb => ?_, ht.mono fun k hk => mem_foot.2 (.inr (by simpa [eq_comm] using hk))⟩⟩
      · exact h3 b (by simpa [eq_comm] using hn) hb
      · rcases hg x hx with h7 | h7
        · exact h3 x h7 hn
        · have := hlt x (mem_foot.2 (.inl hn)); omega
      · rcases mem_foot.1 hb with h7 | h7
        · exact .inl (mem_foot.2 (.inl h7))
        · exact (hg b h7).imp (fun h8 => mem_foot.2 (.inr h8)) id
/-- A byte of the row, and the row when it has been written over. -/
theorem held_set (K : StOk St) (h : Held St p zs a n c xs fs W) {k : Nat} (hk : k < n) (x : Int) : ∃ gb off y, a = some ⟨gb, off, none⟩ ∧ xs[k]? = some y ∧ W.cell? ⟨gb, off + k, none⟩ = some (.int .u8 y) ∧ W.frozen? ⟨gb, off + k, none⟩ = false ∧
    Held St p zs a n c (xs.set k x) fs (W.setCell ⟨gb, off + k, none⟩ (.int .u8 x)) ∧ Turn fs W (W.setCell ⟨gb, off + k, none⟩ (.int .u8 x)) := by
  have hrd := h.reads
  obtain ⟨bs, g, h1, h2, h3, rfl⟩ := h
  obtain ⟨gb, off, rfl, rfl, hlt, hc, hf, hz⟩ := h2.some_of (by omega)
  have hl : k < xs.length := by rw [hrd.1]; exact hk
  have hy : xs[k]? = some xs[k] := by simp [hl]
  have hcell := hf k (.int .u8 xs[k]) (by rw [List.getElem?_map, hy]; rfl)
  have ht : Turn [gb] W (W.setCell ⟨gb, off + k, none⟩ (.int .u8 x)) := (Turn.refl _ _).setCell (by simp) _
  refine ⟨gb, off, xs[k], rfl, hy, hcell, hz _, ⟨bs, some gb, K.turn _ _ _ _ _ _ h1 ht (fun b hb hn => h3 gb rfl (by simpa using (List.mem_singleton.1 hn) ▸ hb)), ?_, h3, rfl⟩, ht.mono fun j hj => mem_foot.2 (.inr (by rw [List.mem_singleton.1 hj]))⟩
  obtain ⟨w1, w2, w3⟩ := h2
  refine ⟨by simpa using w1, w2, .inr ⟨gb, off, rfl, rfl, by simpa [World.setCell] using hlt, fun j hj => ?_, fun j v hv => ?_, fun i => by rw [World.frozen?_setCell]; exact hz i⟩⟩
  · by_cases e : j = k
    · subst e
      rw [World.cell?_setCell_same _ _ _ hcell]; rfl
    · rw [World.cell?_setCell_other _ _ _ _ (by simp <;> omega)]
      exact hc j hj
  · by_cases e : j = k
    · subst e
      rw [List.map_set, List.getElem?_set] at hv
      simp [hl] at hv
      subst hv
      exact World.cell?_setCell_same _ _ _ hcell
    · rw [List.map_set, List.getElem?_set_ne (by omega)] at hv
      rw [World.cell?_setCell_other _ _ _ _ (by simp <;> omega)]
      exact hf j v hv

/-- The same, all of it made since w0. -/
def HeldB (St : World → Addr → List Nat → List Int → Prop) (w0 : World) (p : Addr) (zs : List Int) (a : Option Addr) (n c : Nat) (xs : List Int) (W : World) : Prop :=
  ∃ fs, Held St p zs a n c xs fs W ∧ (∀ b ∈ fs, w0.heap.size ≤ b) ∧ Below w0.heap.size w0 W
variable {w0 : World}
theorem HeldB.below (h : HeldB St w0 p zs a n c xs W) : Below w0.heap.size w0 W := by obtain ⟨fs, _, _, hb⟩ := h; exact hb
theorem HeldB.reads (h : HeldB St w0 p zs a n c xs W) : Reads W a n xs := by obtain ⟨fs, h1, _⟩ := h; exact h1.reads
theorem HeldB.le (h : HeldB St w0 p zs a n c xs W) : n ≤ c := by obtain ⟨fs, h1, _⟩ := h; exact h1.le
theorem HeldB.keep (K : StOk St) (h : HeldB St w0 p zs a n c xs W) (hb : Below W.heap.size W W') : HeldB St w0 p zs a n c xs W' := by
  obtain ⟨fs, h1, h2, h3⟩ := h
  exact ⟨fs, h1.keep K hb, h2, h3.trans (hb.mono h3.size)⟩
theorem heldB_of {fs fs' : List Nat} {W' : World} (h2 : ∀ b ∈ fs, w0.heap.size ≤ b) (h3 : Below w0.heap.size w0 W) {zs' : List Int} {a' : Option Addr} {n' c' : Nat} {xs' : List Int} (h4 : Held St p zs' a' n' c' xs' fs' W')
    (h5 : ∀ b ∈ fs', b ∈ fs ∨ W.heap.size ≤ b) (h6 : Turn fs W W') : HeldB St w0 p zs' a' n' c' xs' W' := by
  refine ⟨fs', h4, fun b hb => ?_, h3.trans (h6.below h3.size h2)⟩
  rcases h5 b hb with h7 | h7
  · exact h2 b h7
  · exact Nat.le_trans h3.size h7
theorem heldB_write (K : StOk St) (h : HeldB St w0 p zs a n c xs W) (bz : Byt zs) (a2 : Option Addr) (m c2 : Nat) (ys : List Int) (hr : Reads w0 a2 m ys) (hy : Byt ys) (hc : m ≤ c2) (hm : c2 ≤ maxLen) (hl : zs.length + m ≤ 1099511627776) (ht : Tab w0) :
    Calls Tryd.prog 17 #[.pointer (some p), .slice a2 m c2] W fun e W' => e = .returned (.tuple #[]) ∧ HeldB St w0 p (zs ++ ys) a n c xs W' := by
  obtain ⟨fs, h1, h2, h3⟩ := h
  refine (held_write K h1 bz a2 m c2 ys (hr.below h3) hy hc hm hl (ht.below h3 ht.lt) (fun g hg hn => ?_) (fun h0 q hq hn => ?_)).mono ?_
  · have := h2 _ hn; have := ht.lt g hg; omega
  · rcases hr.2 with h4 | ⟨b, off, ha, hlt, _⟩
    · omega
    · rw [ha] at hq
      cases hq
      have := h2 _ hn
      simp at this
      omega
  · rintro e W' ⟨rfl, fs', h4, h5, h6⟩
    exact ⟨rfl, heldB_of h2 h3 h4 h5 h6⟩
theorem heldB_sum (K : StOk St) (h : HeldB St w0 p zs a n c xs W) (bz : Byt zs) (hl : zs.length ≤ 1099511627776) (ht : Tab w0) :
    Calls Tryd.prog 18 #[.pointer (some p)] W fun e W' => e = .returned (dv (sha zs)) ∧ HeldB St w0 p zs a n c xs W' := by
  obtain ⟨fs, h1, h2, h3⟩ := h
  refine (held_sum K h1 bz hl (ht.below h3 ht.lt) (fun g hg hn => ?_)).mono ?_
  · have := h2 _ hn; have := ht.lt g hg; omega
  · rintro e W' ⟨rfl, fs', h4, h5, h6⟩
    exact ⟨rfl, heldB_of h2 h3 h4 h5 h6⟩
theorem heldB_append (K : StOk St) (h : HeldB St w0 p zs a n c xs W) (a2 : Option Addr) (m c2 : Nat) (ys : List Int) (hr : Reads w0 a2 m ys) (hl : n + m ≤ 1099511627776) :
    ∃ a' c' W', (Builtin.append_ #[22, 22] 22 #[.slice a n c, .slice a2 m c2]).run Tryd.prog W = .ok (.slice a' (n + m) c') W' ∧ RowKit.Hid (HeldB St w0 p zs a' (n + m) c' (xs ++ ys) W') := by
  obtain ⟨fs, h1, h2, h3⟩ := h
  obtain ⟨a', c', W', hrun, h4⟩ := held_append K h1 a2 m c2 ys (hr.below h3) hl
  obtain ⟨fs', h4, h5, h6⟩ := h4.out
  exact ⟨a', c', W', hrun, Lib.hid (heldB_of h2 h3 h4 h5 h6)⟩
theorem heldB_new (K : StOk St) (w0 : World) (ht : Tab w0) : Calls Tryd.prog 16 #[] w0 fun e W' => ∃ p, e = .returned (.pointer (some p)) ∧ HeldB St w0 p [] none 0 0 [] W' := by
  refine (K.new w0 ht).mono ?_
  rintro e W' ⟨p, bs, rfl, h1, h2, h3⟩
  exact ⟨p, rfl, bs, held_new h1, h2, h3⟩
end
end Go.Proofs.YthekihginpodmaaDoor
