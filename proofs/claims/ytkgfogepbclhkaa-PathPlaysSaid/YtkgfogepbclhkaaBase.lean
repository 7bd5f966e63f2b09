/-
  Bytes in memory, program apart: what a slice of bytes reads as; a whole block of bytes; how both stay while other memory is made.
-/
import Derived.WalkKit
import Derived.WalkSpells
import Derived.WalkSmall
import Derived.Laws.CopyOwn
import Derived.Deep.OwnRows
import Derived.Lib.Hide
namespace Go.Proofs.Ytkgfogepbclhkaa
set_option linter.unusedVariables false
open Go.RowKit

/-- Numbers that are bytes. -/
def Byt (zs : List Int) : Prop := ∀ z ∈ zs, 0 ≤ z ∧ z < 256

/-- The slice with this address and length reads as these numbers. -/
def Reads (w : World) (a : Option Addr) (n : Nat) (zs : List Int) : Prop :=
  zs.length = n ∧ (n = 0 ∨ ∃ b off, a = some ⟨b, off, none⟩ ∧ b < w.heap.size ∧ ∀ i, i < n → w.cell? ⟨b, off + i, none⟩ = some (.int .u8 (zs[i]?.getD 0)))

/-- Block g is a row of just these bytes. -/
def Blk (w : World) (g : Nat) (zs : List Int) : Prop := w.heap[g]? = some (.cells (zs.map (Value.int .u8)).toArray 5 (0, 0))

theorem Byt.nil : Byt [] := by intro z h; cases h
theorem Byt.append {a b : List Int} (ha : Byt a) (hb : Byt b) : Byt (a ++ b) := by
  intro z h; rcases List.mem_append.1 h with h | h
  · exact ha z h
  · exact hb z h
theorem Byt.take {a : List Int} (ha : Byt a) (k : Nat) : Byt (a.take k) := fun z h => ha z (List.mem_of_mem_take h)
theorem Byt.drop {a : List Int} (ha : Byt a) (k : Nat) : Byt (a.drop k) := fun z h => ha z (List.mem_of_mem_drop h)
theorem Byt.rep {x : Int} (h0 : 0 ≤ x) (h1 : x < 256) (k : Nat) : Byt (List.replicate k x) := by
  intro z h; have := List.eq_of_mem_replicate h; subst this; exact ⟨h0, h1⟩
theorem Byt.set {a : List Int} (ha : Byt a) (k : Nat) {x : Int} (h0 : 0 ≤ x) (h1 : x < 256) : Byt (a.set k x) := by
  intro z h; rcases List.mem_or_eq_of_mem_set h with h | h
  · exact ha z h
  · subst h; exact ⟨h0, h1⟩
theorem Byt.one {x : Int} (h0 : 0 ≤ x) (h1 : x < 256) : Byt [x] := by intro z h; simp at h; subst h; exact ⟨h0, h1⟩
theorem Byt.getD {a : List Int} (ha : Byt a) (i : Nat) : 0 ≤ a[i]?.getD 0 ∧ a[i]?.getD 0 < 256 := by
  by_cases h : i < a.length
  · have e : a[i]?.getD 0 = a[i] := by simp [h]
    rw [e]; exact ha _ (List.getElem_mem h)
  · have e : a[i]?.getD 0 = 0 := by simp [List.getElem?_eq_none (Nat.le_of_not_lt h)]
    rw [e]; omega

theorem Blk.lt {w : World} {g : Nat} {zs : List Int} (h : Blk w g zs) : g < w.heap.size := (Array.getElem?_eq_some_iff.1 h).1

theorem Blk.cell {w : World} {g : Nat} {zs : List Int} (h : Blk w g zs) {i : Nat} (hi : i < zs.length) : w.cell? ⟨g, i, none⟩ = some (.int .u8 (zs[i]?.getD 0)) := by
  rw [cell_of_row w g i _ _ (0, 0) h]
  simp [hi]

theorem Blk.free {w : World} {g : Nat} {zs : List Int} (h : Blk w g zs) (i : Nat) : w.frozen? ⟨g, i, none⟩ = false := by
  unfold Blk at h; simp [World.frozen?, h]

/-- A part of a block reads as that part of its bytes. -/
theorem Blk.reads {w : World} {g : Nat} {zs : List Int} (h : Blk w g zs) (off n : Nat) (hn : off + n ≤ zs.length) : Reads w (some ⟨g, off, none⟩) n ((zs.drop off).take n) := by
  refine ⟨by simp; omega, .inr ⟨g, off, rfl, h.lt, fun i hi => ?_⟩⟩
  rw [h.cell (by omega)]
  simp [hi]
theorem Blk.readsAll {w : World} {g : Nat} {zs : List Int} (h : Blk w g zs) (n : Nat) (hn : n = zs.length) : Reads w (some ⟨g, 0, none⟩) n zs := by
  have := h.reads 0 n (by omega)
  simpa [List.take_of_length_le (Nat.le_of_eq hn.symm)] using this

theorem Reads.zero (w : World) (a : Option Addr) : Reads w a 0 [] := ⟨rfl, .inl rfl⟩

theorem Reads.below {w w' : World} {a : Option Addr} {n : Nat} {zs : List Int} (h : Reads w a n zs) (hb : Below w.heap.size w w') : Reads w' a n zs := by
  obtain ⟨h1, h2⟩ := h
  refine ⟨h1, ?_⟩
  rcases h2 with h2 | ⟨b, off, ha, hlt, hc⟩
  · exact .inl h2
  · exact .inr ⟨b, off, ha, by have := hb.size; omega, fun i hi => (hb.cell (p := ⟨b, off + i, none⟩) hlt).trans (hc i hi)⟩

theorem Blk.below {w w' : World} {g : Nat} {zs : List Int} (h : Blk w g zs) (hb : Below w.heap.size w w') : Blk w' g zs := (hb.block g h.lt).trans h

/-- The part from lo to hi of what a slice reads as. -/
theorem Reads.part {w : World} {b off : Nat} {n : Nat} {zs : List Int} (h : Reads w (some ⟨b, off, none⟩) n zs) (lo m : Nat) (hm : lo + m ≤ n) : Reads w (some ⟨b, off + lo, none⟩) m ((zs.drop lo).take m) := by
  obtain ⟨h1, h2⟩ := h
  refine ⟨by simp; omega, ?_⟩
  rcases h2 with h2 | ⟨b', off', ha, hlt, hc⟩
  · exact .inl (by omega)
  · cases ha
    refine .inr ⟨b, off + lo, rfl, hlt, fun i hi => ?_⟩
    rw [Nat.add_assoc, hc _ (by omega)]
    simp [hi]

theorem oneByte (zs : List Int) : ∀ v ∈ zs.map (Value.int .u8), v.oneCell' = true := by
  intro v h; obtain ⟨z, _, rfl⟩ := List.mem_map.1 h; rfl

theorem Reads.copied {w : World} {b off n : Nat} {zs : List Int} (h : Reads w (some ⟨b, off, none⟩) n zs) :
    ∀ (j : Nat) v, (zs.map (Value.int .u8))[j]? = some v → w.cell? ((⟨b, off, none⟩ : Addr).add j) = some v := by
  intro j v hv
  obtain ⟨h1, h2⟩ := h
  simp only [List.getElem?_map, Option.map_eq_some_iff] at hv
  obtain ⟨z, hz, rfl⟩ := hv
  have hj : j < zs.length := (List.getElem?_eq_some_iff.1 hz).1
  rcases h2 with h2 | ⟨b', off', ha, _, hc⟩
  · omega
  · cases ha
    have hadd : (⟨b, off, none⟩ : Addr).add j = ⟨b, off + j, none⟩ := by unfold Addr.add; split <;> simp_all
    rw [hadd, hc j (by omega)]
    simp [hz]

theorem Reads.some_of {w : World} {a : Option Addr} {n : Nat} {zs : List Int} (h : Reads w a n zs) (hn : 0 < n) : ∃ b off, a = some ⟨b, off, none⟩ := by
  rcases h.2 with h2 | ⟨b, off, ha, _⟩
  · omega
  · exact ⟨b, off, ha⟩

/-- A store into a block of bytes. -/
theorem Blk.set {w : World} {g : Nat} {zs : List Int} (h : Blk w g zs) (i : Nat) (x : Int) : Blk (w.setCell ⟨g, i, none⟩ (.int .u8 x)) g (zs.set i x) := by
  unfold Blk at h ⊢
  simp [World.setCell, Array.getElem?_modify, h, List.map_set]

theorem set_mid (A B : List Int) (x y : Int) (i : Nat) (hi : i = A.length) : (A ++ y :: B).set i x = A ++ x :: B := by
  subst hi; rw [List.set_append, if_neg (by simp)]; simp
theorem fill_step (A B : List Int) (x y : Int) (k m i : Nat) (hi : i = A.length + k) : (A ++ List.replicate k x ++ (List.replicate (m + 1) y ++ B)).set i x = A ++ List.replicate (k + 1) x ++ (List.replicate m y ++ B) := by
  rw [List.replicate_succ, List.cons_append, set_mid _ _ _ _ _ (by simp; omega), List.replicate_succ' (n := k)]
  simp
theorem copy_step (zs B : List Int) (y : Int) (k m i : Nat) (hi : i = k) (hk : k < zs.length) : (zs.take k ++ (List.replicate (m + 1) y ++ B)).set i (zs[k]?.getD 0) = zs.take (k + 1) ++ (List.replicate m y ++ B) := by
  rw [List.replicate_succ, List.cons_append, set_mid _ _ _ _ _ (by simp; omega), List.take_succ_eq_append_getElem hk, List.append_assoc]
  simp [hk]

/-- A row of the call's own that holds these bytes, and bytes to its block's end; nil where there are none. -/
def Row8 (base : Nat) (w : World) (a : Option Addr) (n c : Nat) (zs : List Int) : Prop :=
  zs.length = n ∧ ((a = none ∧ n = 0 ∧ c = 0) ∨ ∃ g sp, a = some ⟨g, 0, none⟩ ∧ base ≤ g ∧ Blk w g (zs ++ sp) ∧ Byt sp ∧ zs.length + sp.length = c ∧ c ≤ maxLen)

theorem Row8.len {base : Nat} {w : World} {a : Option Addr} {n c : Nat} {zs : List Int} (h : Row8 base w a n c zs) : zs.length = n := h.1
theorem Row8.le {base : Nat} {w : World} {a : Option Addr} {n c : Nat} {zs : List Int} (h : Row8 base w a n c zs) : n ≤ c := by
  obtain ⟨hl, ⟨_, h1, h2⟩ | ⟨g, sp, _, _, _, _, hc, _⟩⟩ := h <;> omega
theorem Row8.owns {base : Nat} {w : World} {a : Option Addr} {n c : Nat} {zs : List Int} (h : Row8 base w a n c zs) : w.ownsRow base 5 1 (.slice a n c) n (zs.map (Value.int .u8)) := by
  obtain ⟨rfl, h⟩ := h
  refine ⟨by simp, ?_⟩
  rcases h with ⟨rfl, hn, rfl⟩ | ⟨g, sp, rfl, hb, hk, hs, hc, hm⟩
  · exact .inl ⟨by rw [hn], hn⟩
  · exact .inr ⟨g, c, _, rfl, hb, hk, by omega, hm, by simp; omega, by simp⟩
theorem Row8.of_blk {base : Nat} {w : World} {g n : Nat} {zs : List Int} (h : Blk w g zs) (hb : base ≤ g) (hn : n = zs.length) (hm : n ≤ maxLen) : Row8 base w (some ⟨g, 0, none⟩) n n zs := by
  subst hn
  exact ⟨rfl, .inr ⟨g, [], rfl, hb, by simpa using h, Byt.nil, rfl, hm⟩⟩
theorem Row8.of_part {base : Nat} {w : World} {g n c : Nat} {zs sp : List Int} (h : Blk w g (zs ++ sp)) (hb : base ≤ g) (hn : zs.length = n) (hs : Byt sp) (hc : zs.length + sp.length = c) (hm : c ≤ maxLen) : Row8 base w (some ⟨g, 0, none⟩) n c zs :=
  ⟨hn, .inr ⟨g, sp, rfl, hb, h, hs, hc, hm⟩⟩
theorem Row8.nil (base : Nat) (w : World) : Row8 base w none 0 0 [] := ⟨rfl, .inl ⟨rfl, rfl, rfl⟩⟩
theorem Row8.reads {base : Nat} {w : World} {a : Option Addr} {n c : Nat} {zs : List Int} (h : Row8 base w a n c zs) : Reads w a n zs := by
  obtain ⟨rfl, h⟩ := h
  refine ⟨rfl, ?_⟩
  rcases h with ⟨_, hn, _⟩ | ⟨g, sp, rfl, hb, hk, _, _, _⟩
  · exact .inl hn
  · refine .inr ⟨g, 0, rfl, hk.lt, fun i hi => ?_⟩
    rw [Nat.zero_add, hk.cell (by rw [List.length_append]; omega), List.getElem?_append_left hi]
theorem Row8.keep_of {base : Nat} {w w' : World} {a : Option Addr} {n c : Nat} {zs : List Int} (h : Row8 base w a n c zs) (hb : ∀ g, a = some ⟨g, 0, none⟩ → base ≤ g → ∀ cs, w.heap[g]? = some (.cells cs 5 (0, 0)) → w'.heap[g]? = w.heap[g]?) : Row8 base w' a n c zs := by
  refine ⟨h.1, ?_⟩
  rcases h.2 with h2 | ⟨g, sp, ha, hbg, hk, r⟩
  · exact .inl h2
  · exact .inr ⟨g, sp, ha, hbg, (hb g ha hbg _ hk).trans hk, r⟩
theorem Row8.keep {base : Nat} {w w' : World} {a : Option Addr} {n c : Nat} {zs : List Int} (h : Row8 base w a n c zs) (hb : Below w.heap.size w w') : Row8 base w' a n c zs :=
  h.keep_of (fun g _ _ cs hk => hb.block g (Array.getElem?_eq_some_iff.1 hk).1)
theorem Row8.lower {base base' : Nat} {w : World} {a : Option Addr} {n c : Nat} {zs : List Int} (h : Row8 base w a n c zs) (hb : base' ≤ base) : Row8 base' w a n c zs := by
  refine ⟨h.1, ?_⟩
  rcases h.2 with h2 | ⟨g, sp, ha, hbg, r⟩
  · exact .inl h2
  · exact .inr ⟨g, sp, ha, by omega, r⟩
theorem Row8.lt {base : Nat} {w : World} {a : Option Addr} {n c : Nat} {zs : List Int} (h : Row8 base w a n c zs) : ∀ k, (Value.slice a n c).ownBlock = some k → base ≤ k ∧ k < w.heap.size := h.owns.lt
theorem Row8.far {base : Nat} {w : World} {a : Option Addr} {n c : Nat} {zs : List Int} (h : Row8 base w a n c zs) (p : Addr) (hp : a = some p) : base ≤ p.block ∧ p.block < w.heap.size ∧ ∃ cs, w.heap[p.block]? = some (.cells cs 5 (0, 0)) := by
  rcases h.2 with ⟨h2, _⟩ | ⟨g, sp, ha, hbg, hk, r⟩
  · rw [h2] at hp; cases hp
  · rw [ha] at hp; cases hp; exact ⟨hbg, hk.lt, _, hk⟩

theorem made_zero (w : World) (e : TypeId) (n : Nat) : (w.alloc (.cells (madeCells #[Value.int .u8 0] n) e)).heap[w.heap.size]? = some (.cells (List.replicate n (Value.int .u8 0)).toArray e (0, 0)) := by
  rw [heap_alloc_new]
  congr 2
  apply Array.toList_inj.1
  rw [toList_madeCells_one]

theorem blk_made (w : World) (n : Nat) : Blk (w.alloc (.cells (madeCells #[Value.int .u8 0] n) 5)) w.heap.size (List.replicate n 0) := by
  have := made_zero w 5 n
  unfold Blk; rw [this]; simp

theorem Below.of_drewN (w : World) (n : Nat) : Below w.heap.size w (w.drewN n) := below_drewN (Below.refl _ _) n

end Go.Proofs.Ytkgfogepbclhkaa
