/-
  Stage 9: rows of pairs and of numbers that a call makes itself.
-/
import Derived.Test.YtlihcckgnnnekaaBdGaps
import Derived.Test.YtlihcckgnnnekaaBdSet
import Derived.Test.YtlihcckgnnnekaaBdPuts3
import Derived.Test.YtlihcckgnnnekaaTurn
namespace Go.Proofs.Ytlihcckgnnnekaa
open Go.RowKit
set_option linter.unusedVariables false

theorem Try.infoGap : (Try.prog.info? 79).map (fun i => (i.zero, i.size, i.bytes)) = some (some (.agg #[.int .u16 0, .int .u16 0]), 2, 4) := by kernel_rfl
theorem Try.infoSkip : (Try.prog.info? 100).map (fun i => (i.zero, i.size, i.bytes)) = some (some (.agg #[.int .u16 0, .int .u16 0]), 2, 4) := by kernel_rfl
theorem Try.infoU32 : (Try.prog.info? 22).map (fun i => (i.zero, i.size, i.bytes)) = some (some (.int .u32 0), 1, 4) := by kernel_rfl

/-- A slice of pairs that has its cells in blocks of pairs stays while a box of another kind is stored into. -/
def PrsT (T : TypeId) (w : World) (a : Option Addr) (n : Nat) (ps : List (Int × Int)) : Prop := Prs w a n ps ∧ ∀ g, (∃ off, a = some ⟨g, off, none⟩) → 0 < n → ∃ cs : Array Value, w.heap[g]? = some (.cells cs T (0, 0))
theorem setAt_cell {w : World} {g g' : Nat} (hne : g' ≠ g) (i k : Nat) (v : Value) : (w.setCell ⟨g, i, none⟩ v).cell? ⟨g', k, none⟩ = w.cell? ⟨g', k, none⟩ := World.cell?_of_block (w := w) (a := ⟨g', k, none⟩) (Below.heap_setCell _ _ _ _ hne)

def pairC (ps : List (Int × Int)) : List Value := (ps.map fun p => [Value.int .u16 p.1, Value.int .u16 p.2]).flatten
theorem pairC_snoc (ps : List (Int × Int)) (p : Int × Int) : pairC (ps ++ [p]) = pairC ps ++ [.int .u16 p.1, .int .u16 p.2] := by simp [pairC]
theorem pairC_len (ps : List (Int × Int)) : (pairC ps).length = ps.length * 2 := by
  induction ps with
  | nil => rfl
  | cons p ps ih => unfold pairC at ih ⊢; simp at ih ⊢; omega
theorem pairC_at {ps : List (Int × Int)} {i : Nat} {p : Int × Int} (h : ps[i]? = some p) : (pairC ps)[i * 2]? = some (.int .u16 p.1) ∧ (pairC ps)[i * 2 + 1]? = some (.int .u16 p.2) := by
  induction ps generalizing i with
  | nil => simp at h
  | cons q ps ih =>
    cases i with
    | zero => simp at h; subst h; exact ⟨rfl, rfl⟩
    | succ i =>
      simp at h
      have h2 := ih h
      have e : pairC (q :: ps) = .int .u16 q.1 :: .int .u16 q.2 :: pairC ps := by simp [pairC]
      rw [e, show (i + 1) * 2 = i * 2 + 1 + 1 by omega]
      exact ⟨h2.1, h2.2⟩

/-- The slice is a row of the call's own that holds these pairs. -/
def RowP (T : TypeId) (base : Nat) (w : World) (a : Option Addr) (n c : Nat) (ps : List (Int × Int)) : Prop := w.ownsRow base T 2 (.slice a n c) n (pairC ps)
def Row32 (base : Nat) (w : World) (a : Option Addr) (n c : Nat) (zs : List Int) : Prop := w.ownsRow base 22 1 (.slice a n c) n (zs.map (Value.int .u32))
theorem RowP.len {T : TypeId} {base : Nat} {w : World} {a : Option Addr} {n c : Nat} {ps : List (Int × Int)} (h : RowP T base w a n c ps) : ps.length = n := by
  have := h.1
  rw [pairC_len] at this
  omega
theorem RowP.prs {T : TypeId} {base : Nat} {w : World} {a : Option Addr} {n c : Nat} {ps : List (Int × Int)} (h : RowP T base w a n c ps) (hin : ∀ p ∈ ps, InP p) : Prs w a n ps := by
  refine ⟨h.len, hin, fun i p hp => ?_⟩
  have hi : i < ps.length := (List.getElem?_eq_some_iff.1 hp).1
  have hl := h.len
  have h2 := pairC_at hp
  rcases h.2 with ⟨hv, h0⟩ | ⟨g, cap, cur, hv, hb, hg, hnc, hm, hs, ht⟩
  · omega
  · cases hv
    have hlt : g < w.heap.size := (Array.getElem?_eq_some_iff.1 hg).1
    have hc : ∀ k v, k < n * 2 → (pairC ps)[k]? = some v → w.cell? ⟨g, 0 + k, none⟩ = some v := by
      intro k v hk hv
      rw [← ht, List.getElem?_take, if_pos hk] at hv
      rw [Nat.zero_add, show cur = cur.toList.toArray by simp] at *
      rw [cell_of_row w g k _ _ (0, 0) hg]
      simpa using hv
    refine ⟨g, 0, rfl, hlt, hc _ _ (by omega) h2.1, ?_⟩
    have := hc _ _ (by omega) h2.2
    rw [← Nat.add_assoc] at this
    exact this
theorem Row32.nums {base : Nat} {w : World} {a : Option Addr} {n c : Nat} {zs : List Int} (h : Row32 base w a n c zs) (hin : ∀ z ∈ zs, (Lit.int .u32 z).wf = true) (hn : n ≤ 1048576) : Nums .u32 w a n zs := by
  have hl : zs.length = n := by have := h.1; simpa using this
  refine ⟨hl, by omega, hin, fun i z hz => ?_⟩
  have hi : i < zs.length := (List.getElem?_eq_some_iff.1 hz).1
  rcases h.2 with ⟨hv, h0⟩ | ⟨g, cap, cur, hv, hb, hg, hnc, hm, hs, ht⟩
  · omega
  · cases hv
    refine ⟨g, 0, rfl, (Array.getElem?_eq_some_iff.1 hg).1, ?_⟩
    have hv : (zs.map (Value.int .u32))[i]? = some (.int .u32 z) := by simp [hz]
    rw [← ht, List.getElem?_take, if_pos (by omega)] at hv
    rw [Nat.zero_add, show cur = cur.toList.toArray by simp] at *
    rw [cell_of_row w g i _ _ (0, 0) hg]
    simpa using hv
theorem RowP.setAt {T : TypeId} {base : Nat} {w : World} {a : Option Addr} {n c : Nat} {ps : List (Int × Int)} (h : RowP T base w a n c ps) {g : Nat} (hg : g < base) (i : Nat) (v : Value) : RowP T base (w.setCell ⟨g, i, none⟩ v) a n c ps :=
  ownsRow_turn h ((Turn.refl [g] w).setCell (p := ⟨g, i, none⟩) (by simp) v) (by simpa using hg)
theorem Row32.setAt {base : Nat} {w : World} {a : Option Addr} {n c : Nat} {zs : List Int} (h : Row32 base w a n c zs) {g : Nat} (hg : g < base) (i : Nat) (v : Value) : Row32 base (w.setCell ⟨g, i, none⟩ v) a n c zs :=
  ownsRow_turn h ((Turn.refl [g] w).setCell (p := ⟨g, i, none⟩) (by simp) v) (by simpa using hg)
theorem owns_keep {base : Nat} {T : TypeId} {sz : Nat} {w w' : World} {v : Value} {n : Nat} {xs : List Value} (h : w.ownsRow base T sz v n xs) (hb : Below w.heap.size w w') : w'.ownsRow base T sz v n xs := by
  refine ⟨h.1, ?_⟩
  rcases h.2 with h2 | ⟨g, cap, cur, hv, hbg, hg, r⟩
  · exact .inl h2
  · exact .inr ⟨g, cap, cur, hv, hbg, (hb.block g (Array.getElem?_eq_some_iff.1 hg).1).trans hg, r⟩
theorem owns_lower {base base' : Nat} {T : TypeId} {sz : Nat} {w : World} {v : Value} {n : Nat} {xs : List Value} (h : w.ownsRow base T sz v n xs) (hb : base' ≤ base) : w.ownsRow base' T sz v n xs := by
  refine ⟨h.1, ?_⟩
  rcases h.2 with h2 | ⟨g, cap, cur, hv, hbg, r⟩
  · exact .inl h2
  · exact .inr ⟨g, cap, cur, hv, by omega, r⟩
theorem slice_of_owns {base : Nat} {T : TypeId} {sz : Nat} {w : World} {v : Value} {n : Nat} {xs : List Value} (h : w.ownsRow base T sz v n xs) : ∃ a c, v = .slice a n c := by
  rcases h.2 with ⟨hv, h0⟩ | ⟨g, cap, cur, hv, _⟩
  · exact ⟨none, 0, by rw [hv, h0]⟩
  · exact ⟨_, _, hv⟩

/-- 'append' of one element of sz cells onto a row of the call's own: the run, ahead. -/
theorem owns_append1 {base : Nat} {T : TypeId} {sz bytes : Nat} {ST : TypeId} {z : Value} (hinfo : (Try.prog.info? T).map (fun i => (i.zero, i.size, i.bytes)) = some (some z, sz, bytes)) (hST : Try.prog.underlying ST = some (.slice T)) (hzs : z.cells.size = sz) (hsz : 0 < sz) (hby : bytes ≤ 64)
    {w : World} {a : Option Addr} {n c : Nat} {xs : List Value} (h : w.ownsRow base T sz (.slice a n c) n xs) (hb : base ≤ w.heap.size) (hn : n ≤ 1048576) (g : Nat) (news : List Value) (hl : news.length = sz) (hA : Arr w g T news) (h1 : ∀ u ∈ news, u.oneCell' = true) :
    ∃ a' c' W3, (Builtin.append_ #[ST, ST] ST #[.slice a n c, .slice (some ⟨g, 0, none⟩) 1 1]).run Try.prog w = .ok (.slice a' (n + 1) c') W3 ∧
      RowKit.Hid (W3.ownsRow base T sz (.slice a' (n + 1) c') (n + 1) (xs ++ news) ∧ w.grownBy W3 (Value.slice a n c).ownBlock) := by
  obtain ⟨i0, hi0, hz⟩ := Option.map_eq_some_iff.1 hinfo
  simp only [Prod.mk.injEq] at hz
  obtain ⟨hz0, hz1, hz2⟩ := hz
  obtain ⟨v', W3, hrun, ho, hg, _⟩ := run_append_own (P := Try.prog) w base ST ST T i0 z sz bytes hST hi0 hz0 hz1 hz2 hzs hsz (.slice a n c) n _ h ⟨g, 0, none⟩ 1 1 news (by rw [hl]; omega)
    (fun j u hu => by rw [show (⟨g, 0, none⟩ : Addr).add j = ⟨g, 0 + j, none⟩ from Addr.add_mid _ _ _, Nat.zero_add]; exact hA.cell hu) h1 (by unfold maxLen; omega)
    (by have : (n + 1) * bytes ≤ 1048577 * 64 := Nat.mul_le_mul (by omega) hby
        omega) hb
  obtain ⟨a', c', rfl⟩ := slice_of_owns ho
  exact ⟨a', c', W3, hrun, Lib.hid ⟨ho, hg⟩⟩
/-- What the append turns is the row's own block alone. -/
theorem grown_turn {w w' : World} {base : Nat} {T : TypeId} {sz : Nat} {a : Option Addr} {n c : Nat} {xs : List Value} (h : w.ownsRow base T sz (.slice a n c) n xs) (hg : w.grownBy w' (Value.slice a n c).ownBlock) {v0 : World} {bs : List Nat} (ht : Turn bs v0 w) (hb : v0.heap.size ≤ base) : Turn bs v0 w' :=
  ht.grown hg (fun k hk => .inr (Nat.le_trans hb (World.ownsRow.lt h k hk).1))
theorem grown_arr {w w' : World} {base : Nat} {T : TypeId} {sz : Nat} {a : Option Addr} {n c : Nat} {xs : List Value} (h : w.ownsRow base T sz (.slice a n c) n xs) (hg : w.grownBy w' (Value.slice a n c).ownBlock) {g : Nat} {T' : TypeId} {cs : List Value} (hA : Arr w g T' cs) (hgb : g < base) : Arr w' g T' cs := by
  refine (hg.block g hA.lt (fun e => ?_)).trans hA
  have := (World.ownsRow.lt h g e.symm).1
  omega

/-- A row of one type stays while a row of another grows. -/
theorem owns_other {w w' : World} {base base' : Nat} {T T' : TypeId} {sz sz' : Nat} {v : Value} {a : Option Addr} {n m c : Nat} {xs ys : List Value} (h : w.ownsRow base T sz v n xs) (h' : w.ownsRow base' T' sz' (.slice a m c) m ys) (hT : T ≠ T') (hg : w.grownBy w' (Value.slice a m c).ownBlock) : w'.ownsRow base T sz v n xs := by
  refine ⟨h.1, ?_⟩
  rcases h.2 with h2 | ⟨g, cap, cur, hv, hbg, hg1, r⟩
  · exact .inl h2
  · refine .inr ⟨g, cap, cur, hv, hbg, (hg.block g (Array.getElem?_eq_some_iff.1 hg1).1 (fun e => ?_)).trans hg1, r⟩
    rcases h'.2 with ⟨hv', _⟩ | ⟨g', cap', cur', hv', hb', hk, _⟩
    · cases hv'; simp [Value.ownBlock] at e
    · cases hv'
      simp [Value.ownBlock] at e
      subst e
      rw [hg1] at hk
      simp at hk
      exact hT hk.2

/-- The pairs that lie at s, s + 4, .. -/
def pairsAt (zs : List Int) (s m : Nat) : List (Int × Int) := (List.range m).map fun i => (natAt zs (s + 4 * i) 2, natAt zs (s + 4 * i + 2) 2)
def numsAt (zs : List Int) (s m : Nat) : List Int := (List.range m).map fun i => natAt zs (s + 4 * i) 4
theorem pairsAt_len (zs : List Int) (s m : Nat) : (pairsAt zs s m).length = m := by simp [pairsAt]
theorem numsAt_len (zs : List Int) (s m : Nat) : (numsAt zs s m).length = m := by simp [numsAt]
theorem pairsAt_succ (zs : List Int) (s m : Nat) : pairsAt zs s (m + 1) = pairsAt zs s m ++ [(natAt zs (s + 4 * m) 2, natAt zs (s + 4 * m + 2) 2)] := by simp [pairsAt, List.range_succ]
theorem numsAt_succ (zs : List Int) (s m : Nat) : numsAt zs s (m + 1) = numsAt zs s m ++ [natAt zs (s + 4 * m) 4] := by simp [numsAt, List.range_succ]
theorem pairsAt_in {zs : List Int} (h : Byt zs) (s m : Nat) : ∀ p ∈ pairsAt zs s m, InP p := by
  intro p hp
  obtain ⟨i, _, rfl⟩ := List.mem_map.1 hp
  exact ⟨(natAt2 h _).1, (natAt2 h _).2, (natAt2 h _).1, (natAt2 h _).2⟩
theorem numsAt_in {zs : List Int} (h : Byt zs) (s m : Nat) : ∀ z ∈ numsAt zs s m, (Lit.int .u32 z).wf = true := by
  intro z hz
  obtain ⟨i, _, rfl⟩ := List.mem_map.1 hz
  have := natAt4 h (s + 4 * i)
  exact WalkArith.wf_u32 (by omega)
end Go.Proofs.Ytlihcckgnnnekaa
