import Derived.WalkKit
import Derived.WalkSpells
import Derived.WalkSmall
import Derived.Laws.CopyOwn
import Derived.Deep.OwnRows
import Derived.Lib.Hide
import Derived.Test.YtcmaclaiholpfaaDoorChecked
import Derived.Handy
import Derived.BigQuiet
import Derived.Deep.QuietTactic
import Derived.Outline
import Derived.Laws.BitsAllLaws
import Derived.Maps.OwnSet
import Derived.ArgAppend
import Derived.Laws.AppendOwn
import Derived.Laws.IdiomCopy
import Derived.Deep.MidRow
import Derived.ProofKit
import Derived.Orders
import Derived.RegionTactic
import Derived.Lib.Bytes
import Derived.Laws.IdiomStrings
/-
  Bytes in memory, program apart: what a slice of bytes reads as; a whole block of bytes; how both stay while other memory is made.
-/
namespace Go.Proofs.YtcmaclaiholpfaaDoor
set_option linter.unusedVariables false
open Go.RowKit

/-- Numbers that are bytes. -/
def Byt (zs : List Int) : Prop := ∀ z ∈ zs, 0 ≤ z ∧ z < 256

/-- The slice with this address and length reads as these numbers. -/
def Reads (w : World) (a : Option Addr) (n : Nat) (zs : List Int) : Prop :=
  zs.length = n ∧ (n = 0 ∨ ∃ b off, a = some ⟨b, off, none⟩ ∧ b < w.heap.size ∧ ∀ i, i < n → w.cell? ⟨b, off + i, none⟩ = some (.int .u8 (zs[i]?.getD 0)))

/-- Block g is a row of just these bytes. -/
def Blk (w : World) (g : Nat) (zs : List Int) : Prop := w.heap[g]? = some (.cells (zs.map (Value.int .u8)).toArray 5 (0, 0))

theorem Byt.nil : Byt [] := by intro z h; cases h
theorem Byt.append {a b : List Int} (ha : Byt a) (hb : Byt b) : Byt (a ++ b) := by
  intro z h; rcases List.mem_append.1 h with h | h
  · exact ha z h
  · exact hb z h
theorem Byt.take {a : List Int} (ha : Byt a) (k : Nat) : Byt (a.take k) := fun z h => ha z (List.mem_of_mem_take h)
theorem Byt.drop {a : List Int} (ha : Byt a) (k : Nat) : Byt (a.drop k) := fun z h => ha z (List.mem_of_mem_drop h)
theorem Byt.rep {x : Int} (h0 : 0 ≤ x) (h1 : x < 256) (k : Nat) : Byt (List.replicate k x) := by
  intro z h; have := List.eq_of_mem_replicate h; subst this; exact ⟨h0, h1⟩
theorem Byt.set {a : List Int} (ha : Byt a) (k : Nat) {x : Int} (h0 : 0 ≤ x) (h1 : x < 256) : Byt (a.set k x) := by
  intro z h; rcases List.mem_or_eq_of_mem_set h with h | h
  · exact ha z h
  · subst h; exact ⟨h0, h1⟩
theorem Byt.one {x : Int} (h0 : 0 ≤ x) (h1 : x < 256) : Byt [x] := by intro z h; simp at h; subst h; exact ⟨h0, h1⟩
theorem Byt.getD {a : List Int} (ha : Byt a) (i : Nat) : 0 ≤ a[i]?.getD 0 ∧ a[i]?.getD 0 < 256 := by
  by_cases h : i < a.length
  · have e : a[i]?.getD 0 = a[i] := by simp [h]
    rw [e]; exact ha _ (List.getElem_mem h)
  · have e : a[i]?.getD 0 = 0 := by simp [List.getElem?_eq_none (Nat.le_of_not_lt h)]
    rw [e]; omega

theorem Blk.lt {w : World} {g : Nat} {zs : List Int} (h : Blk w g zs) : g < w.heap.size := (Array.getElem?_eq_some_iff.1 h).1

theorem Blk.cell {w : World} {g : Nat} {zs : List Int} (h : Blk w g zs) {i : Nat} (hi : i < zs.length) : w.cell? ⟨g, i, none⟩ = some (.int .u8 (zs[i]?.getD 0)) := by
  rw [cell_of_row w g i _ _ (0, 0) h]
  simp [hi]

theorem Blk.free {w : World} {g : Nat} {zs : List Int} (h : Blk w g zs) (i : Nat) : w.frozen? ⟨g, i, none⟩ = false := by
  unfold Blk at h; simp [World.frozen?, h]

/-- A part of a block reads as that part of its bytes. -/
theorem Blk.reads {w : World} {g : Nat} {zs : List Int} (h : Blk w g zs) (off n : Nat) (hn : off + n ≤ zs.length) : Reads w (some ⟨g, off, none⟩) n ((zs.drop off).take n) := by
  refine ⟨by simp; omega, .inr ⟨g, off, rfl, h.lt, fun i hi => ?_⟩⟩
  rw [h.cell (by omega)]
  simp [hi]
theorem Blk.readsAll {w : World} {g : Nat} {zs : List Int} (h : Blk w g zs) (n : Nat) (hn : n = zs.length) : Reads w (some ⟨g, 0, none⟩) n zs := by
  have := h.reads 0 n (by omega)
  simpa [List.take_of_length_le (Nat.le_of_eq hn.symm)] using this

theorem Reads.zero (w : World) (a : Option Addr) : Reads w a 0 [] := ⟨rfl, .inl rfl⟩

theorem Reads.below {w w' : World} {a : Option Addr} {n : Nat} {zs : List Int} (h : Reads w a n zs) (hb : Below w.heap.size w w') : Reads w' a n zs := by
  obtain ⟨h1, h2⟩ := h
  refine ⟨h1, ?_⟩
  rcases h2 with h2 | ⟨b, off, ha, hlt, hc⟩
  · exact .inl h2
  · exact .inr ⟨b, off, ha, by have := hb.size; omega, fun i hi => (hb.cell (p := ⟨b, off + i, none⟩) hlt).trans (hc i hi)⟩

theorem Blk.below {w w' : World} {g : Nat} {zs : List Int} (h : Blk w g zs) (hb : Below w.heap.size w w') : Blk w' g zs := (hb.block g h.lt).trans h

/-- The part from lo to hi of what a slice reads as. -/
theorem Reads.part {w : World} {b off : Nat} {n : Nat} {zs : List Int} (h : Reads w (some ⟨b, off, none⟩) n zs) (lo m : Nat) (hm : lo + m ≤ n) : Reads w (some ⟨b, off + lo, none⟩) m ((zs.drop lo).take m) := by
  obtain ⟨h1, h2⟩ := h
  refine ⟨by simp; omega, ?_⟩
  rcases h2 with h2 | ⟨b', off', ha, hlt, hc⟩
  · exact .inl (by omega)
  · cases ha
    refine .inr ⟨b, off + lo, rfl, hlt, fun i hi => ?_⟩
    rw [Nat.add_assoc, hc _ (by omega)]
    simp [hi]

theorem oneByte (zs : List Int) : ∀ v ∈ zs.map (Value.int .u8), v.oneCell' = true := by
  intro v h; obtain ⟨z, _, rfl⟩ := List.mem_map.1 h; rfl

theorem Reads.copied {w : World} {b off n : Nat} {zs : List Int} (h : Reads w (some ⟨b, off, none⟩) n zs) :
    ∀ (j : Nat) v, (zs.map (Value.int .u8))[j]? = some v → w.cell? ((⟨b, off, none⟩ : Addr).add j) = some v := by
  intro j v hv
  obtain ⟨h1, h2⟩ := h
  simp only [List.getElem?_map, Option.map_eq_some_iff] at hv
  obtain ⟨z, hz, rfl⟩ := hv
  have hj : j < zs.length := (List.getElem?_eq_some_iff.1 hz).1
  rcases h2 with h2 | ⟨b', off', ha, _, hc⟩
  · omega
  · cases ha
    have hadd : (⟨b, off, none⟩ : Addr).add j = ⟨b, off + j, none⟩ := by unfold Addr.add; split <;> simp_all
    rw [hadd, hc j (by omega)]
    simp [hz]

theorem Reads.some_of {w : World} {a : Option Addr} {n : Nat} {zs : List Int} (h : Reads w a n zs) (hn : 0 < n) : ∃ b off, a = some ⟨b, off, none⟩ := by
  rcases h.2 with h2 | ⟨b, off, ha, _⟩
  · omega
  · exact ⟨b, off, ha⟩

/-- A store into a block of bytes. -/
theorem Blk.set {w : World} {g : Nat} {zs : List Int} (h : Blk w g zs) (i : Nat) (x : Int) : Blk (w.setCell ⟨g, i, none⟩ (.int .u8 x)) g (zs.set i x) := by
  unfold Blk at h ⊢
  simp [World.setCell, Array.getElem?_modify, h, List.map_set]

theorem set_mid (A B : List Int) (x y : Int) (i : Nat) (hi : i = A.length) : (A ++ y :: B).set i x = A ++ x :: B := by
  subst hi; rw [List.set_append, if_neg (by simp)]; simp
theorem fill_step (A B : List Int) (x y : Int) (k m i : Nat) (hi : i = A.length + k) : (A ++ List.replicate k x ++ (List.replicate (m + 1) y ++ B)).set i x = A ++ List.replicate (k + 1) x ++ (List.replicate m y ++ B) := by
  rw [List.replicate_succ, List.cons_append, set_mid _ _ _ _ _ (by simp; omega), List.replicate_succ' (n := k)]
  simp
theorem copy_step (zs B : List Int) (y : Int) (k m i : Nat) (hi : i = k) (hk : k < zs.length) : (zs.take k ++ (List.replicate (m + 1) y ++ B)).set i (zs[k]?.getD 0) = zs.take (k + 1) ++ (List.replicate m y ++ B) := by
  rw [List.replicate_succ, List.cons_append, set_mid _ _ _ _ _ (by simp; omega), List.take_succ_eq_append_getElem hk, List.append_assoc]
  simp [hk]

/-- A row of the call's own that holds these bytes, and bytes to its block's end; nil where there are none. -/
def Row8 (base : Nat) (w : World) (a : Option Addr) (n c : Nat) (zs : List Int) : Prop :=
  zs.length = n ∧ ((a = none ∧ n = 0 ∧ c = 0) ∨ ∃ g sp, a = some ⟨g, 0, none⟩ ∧ base ≤ g ∧ Blk w g (zs ++ sp) ∧ Byt sp ∧ zs.length + sp.length = c ∧ c ≤ maxLen)

theorem Row8.len {base : Nat} {w : World} {a : Option Addr} {n c : Nat} {zs : List Int} (h : Row8 base w a n c zs) : zs.length = n := h.1
theorem Row8.le {base : Nat} {w : World} {a : Option Addr} {n c : Nat} {zs : List Int} (h : Row8 base w a n c zs) : n ≤ c := by
  obtain ⟨hl, ⟨_, h1, h2⟩ | ⟨g, sp, _, _, _, _, hc, _⟩⟩ := h <;> omega
theorem Row8.owns {base : Nat} {w : World} {a : Option Addr} {n c : Nat} {zs : List Int} (h : Row8 base w a n c zs) : w.ownsRow base 5 1 (.slice a n c) n (zs.map (Value.int .u8)) := by
  obtain ⟨rfl, h⟩ := h
  refine ⟨by simp, ?_⟩
  rcases h with ⟨rfl, hn, rfl⟩ | ⟨g, sp, rfl, hb, hk, hs, hc, hm⟩
  · exact .inl ⟨by rw [hn], hn⟩
  · exact .inr ⟨g, c, _, rfl, hb, hk, by omega, hm, by simp; omega, by simp⟩
theorem Row8.of_blk {base : Nat} {w : World} {g n : Nat} {zs : List Int} (h : Blk w g zs) (hb : base ≤ g) (hn : n = zs.length) (hm : n ≤ maxLen) : Row8 base w (some ⟨g, 0, none⟩) n n zs := by
  subst hn
  exact ⟨rfl, .inr ⟨g, [], rfl, hb, by simpa using h, Byt.nil, rfl, hm⟩⟩
theorem Row8.of_part {base : Nat} {w : World} {g n c : Nat} {zs sp : List Int} (h : Blk w g (zs ++ sp)) (hb : base ≤ g) (hn : zs.length = n) (hs : Byt sp) (hc : zs.length + sp.length = c) (hm : c ≤ maxLen) : Row8 base w (some ⟨g, 0, none⟩) n c zs :=
  ⟨hn, .inr ⟨g, sp, rfl, hb, h, hs, hc, hm⟩⟩
theorem Row8.nil (base : Nat) (w : World) : Row8 base w none 0 0 [] := ⟨rfl, .inl ⟨rfl, rfl, rfl⟩⟩
theorem Row8.reads {base : Nat} {w : World} {a : Option Addr} {n c : Nat} {zs : List Int} (h : Row8 base w a n c zs) : Reads w a n zs := by
  obtain ⟨rfl, h⟩ := h
  refine ⟨rfl, ?_⟩
  rcases h with ⟨_, hn, _⟩ | ⟨g, sp, rfl, hb, hk, _, _, _⟩
  · exact .inl hn
  · refine .inr ⟨g, 0, rfl, hk.lt, fun i hi => ?_⟩
    rw [Nat.zero_add, hk.cell (by rw [List.length_append]; omega), List.getElem?_append_left hi]
theorem Row8.keep_of {base : Nat} {w w' : World} {a : Option Addr} {n c : Nat} {zs : List Int} (h : Row8 base w a n c zs) (hb : ∀ g, a = some ⟨g, 0, none⟩ → base ≤ g → ∀ cs, w.heap[g]? = some (.cells cs 5 (0, 0)) → w'.heap[g]? = w.heap[g]?) : Row8 base w' a n c zs := by
  refine ⟨h.1, ?_⟩
  rcases h.2 with h2 | ⟨g, sp, ha, hbg, hk, r⟩
  · exact .inl h2
  · exact .inr ⟨g, sp, ha, hbg, (hb g ha hbg _ hk).trans hk, r⟩
theorem Row8.keep {base : Nat} {w w' : World} {a : Option Addr} {n c : Nat} {zs : List Int} (h : Row8 base w a n c zs) (hb : Below w.heap.size w w') : Row8 base w' a n c zs :=
  h.keep_of (fun g _ _ cs hk => hb.block g (Array.getElem?_eq_some_iff.1 hk).1)
theorem Row8.lower {base base' : Nat} {w : World} {a : Option Addr} {n c : Nat} {zs : List Int} (h : Row8 base w a n c zs) (hb : base' ≤ base) : Row8 base' w a n c zs := by
  refine ⟨h.1, ?_⟩
  rcases h.2 with h2 | ⟨g, sp, ha, hbg, r⟩
  · exact .inl h2
  · exact .inr ⟨g, sp, ha, by omega, r⟩
theorem Row8.lt {base : Nat} {w : World} {a : Option Addr} {n c : Nat} {zs : List Int} (h : Row8 base w a n c zs) : ∀ k, (Value.slice a n c).ownBlock = some k → base ≤ k ∧ k < w.heap.size := h.owns.lt
theorem Row8.far {base : Nat} {w : World} {a : Option Addr} {n c : Nat} {zs : List Int} (h : Row8 base w a n c zs) (p : Addr) (hp : a = some p) : base ≤ p.block ∧ p.block < w.heap.size ∧ ∃ cs, w.heap[p.block]? = some (.cells cs 5 (0, 0)) := by
  rcases h.2 with ⟨h2, _⟩ | ⟨g, sp, ha, hbg, hk, r⟩
  · rw [h2] at hp; cases hp
  · rw [ha] at hp; cases hp; exact ⟨hbg, hk.lt, _, hk⟩

theorem made_zero (w : World) (e : TypeId) (n : Nat) : (w.alloc (.cells (madeCells #[Value.int .u8 0] n) e)).heap[w.heap.size]? = some (.cells (List.replicate n (Value.int .u8 0)).toArray e (0, 0)) := by
  rw [heap_alloc_new]
  congr 2
  apply Array.toList_inj.1
  rw [toList_madeCells_one]

theorem blk_made (w : World) (n : Nat) : Blk (w.alloc (.cells (madeCells #[Value.int .u8 0] n) 5)) w.heap.size (List.replicate n 0) := by
  have := made_zero w 5 n
  unfold Blk; rw [this]; simp

theorem Below.of_drewN (w : World) (n : Nat) : Below w.heap.size w (w.drewN n) := below_drewN (Below.refl _ _) n

end Go.Proofs.YtcmaclaiholpfaaDoor

/-
  Contracts of package octet's small functions: isSize, has, Round.
-/
namespace Go.Proofs.YtcmaclaiholpfaaDoor
set_option linter.unusedVariables false
open Go.RowKit

/-- A number of bytes that an encoding may have. -/
def sizB (n : Int) : Bool := n == 1 || n == 2 || n == 4 || n == 8
theorem sizB_iff (n : Int) : sizB n = true ↔ (n = 1 ∨ n = 2 ∨ n = 4 ∨ n = 8) := by unfold sizB; simp; omega

theorem isSize_any (n : Int) (w : World) : Calls Tryd.prog 31 #[.int .i64 n] w fun e w' => e = .returned (.bool (sizB n)) ∧ w = w' := by
  by_cases h1 : n = 1
  · subst h1; go_enter Tryd.func31, Tryd.ntmps31; go_wp2; go_ret; exact ⟨rfl, rfl⟩
  by_cases h2 : n = 2
  · subst h2; go_enter Tryd.func31, Tryd.ntmps31; go_wp2; go_ret; exact ⟨rfl, rfl⟩
  by_cases h4 : n = 4
  · subst h4; go_enter Tryd.func31, Tryd.ntmps31; go_wp2; go_ret; exact ⟨rfl, rfl⟩
  have e1 : (n == 1) = false := by simpa using h1
  have e2 : (n == 2) = false := by simpa using h2
  have e4 : (n == 4) = false := by simpa using h4
  go_enter Tryd.func31, Tryd.ntmps31; go_wp2; go_ret; exact ⟨by simp [sizB, e1, e2, e4], rfl⟩

/-- Are there n bytes from at on, of len? -/
def hasB (len : Nat) (at_ n : Int) : Bool := decide (0 ≤ at_) && decide (0 ≤ n) && decide (at_ ≤ (len : Int) - n)
theorem hasB_iff (len : Nat) (at_ n : Int) : hasB len at_ n = true ↔ (0 ≤ at_ ∧ 0 ≤ n ∧ at_ ≤ (len : Int) - n) := by unfold hasB; simp; omega

theorem has_any (a : Option Addr) (len cap : Nat) (at_ n : Int) (w : World) (hl : len ≤ 9223372036854775807) (h2 : n ≤ 9223372036854775807) :
    Calls Tryd.prog 52 #[.slice a len cap, .int .i64 at_, .int .i64 n] w fun e w' => e = .returned (.bool (hasB len at_ n)) ∧ w = w' := by
  by_cases ha : 0 ≤ at_
  · by_cases hn : 0 ≤ n
    · by_cases hc : at_ ≤ (len : Int) - n
      all_goals
        go_enter Tryd.func52, Tryd.ntmps52
        go_wp2
        go_ret
        exact ⟨by simp [hasB, ha, hn, hc], rfl⟩
    · go_enter Tryd.func52, Tryd.ntmps52
      go_wp2
      go_ret
      exact ⟨by simp [hasB]; omega, rfl⟩
  · go_enter Tryd.func52, Tryd.ntmps52
    go_wp2
    go_ret
    exact ⟨by simp [hasB]; omega, rfl⟩

/-- A length, rounded up to a multiple of 4. -/
def rnd (n : Int) : Int := if n < 0 ∨ 4611686018427387904 < n then 0 else (n + 3) / 4 * 4

theorem rnd_in (n : Int) (h0 : 0 ≤ n) (h1 : n ≤ 4611686018427387904) : rnd n = (n + 3) / 4 * 4 := by unfold rnd; rw [if_neg (by omega)]
theorem rnd_out (n : Int) (h : n < 0 ∨ 4611686018427387904 < n) : rnd n = 0 := by unfold rnd; rw [if_pos h]

end Go.Proofs.YtcmaclaiholpfaaDoor

/-
  The contract of package octet's extend.
-/
namespace Go.Proofs.YtcmaclaiholpfaaDoor
set_option linter.unusedVariables false
open Go.RowKit

theorem Tryd.infoB : (Tryd.prog.info? 5).map (fun i => (i.zero, i.size, i.bytes)) = some (some (.int .u8 0), 1, 1) := by kernel_rfl
theorem Tryd.sizeB : (Tryd.prog.info? 5).map (·.size) = some 1 := by kernel_rfl

set_option maxHeartbeats 400000 in
theorem extend_any (a : Option Addr) (len cap k : Nat) (zs : List Int) (w : World) (hr : Reads w a len zs) (hl : len + k ≤ 281474976710656) :
    Calls Tryd.prog 32 #[.slice a len cap, .int .i64 (k : Int)] w fun e w' =>
      e = .returned (.slice (some ⟨w.heap.size, 0, none⟩) (len + k) (len + k)) ∧ Below w.heap.size w w' ∧ Blk w' w.heap.size (zs ++ List.replicate k 0) := by
  have hmk := fun W => run_make_row' (P := Tryd.prog) 22 5 (.int .u8 0) 1 Tryd.underlying22 Tryd.infoB rfl .i64 .i64 (len + k) (by omega) (by omega) W
  have ec : ((len + k : Nat) : Int) = (len : Int) + (k : Int) := by omega
  rw [ec] at hmk
  clear ec
  have H0 := Lib.hid (made_zero w 5 (len + k))
  go_enter Tryd.func32, Tryd.ntmps32
  go_wp2_with (with_reducible refine wpList_copy_splice rfl (.tmp 11) (.tmp 12) 22 22 rfl 5 Tryd.underlying22 Tryd.sizeB _ _ _ _ _ _ rfl rfl w.heap.size 0 (List.replicate (len + k) (.int .u8 0)) 5 H0.out (zs.map (Value.int .u8)) ?hn ?hpos ?hfit (oneByte zs) w.heap.size w ?hb (Nat.le_refl _) ?_)
  case hn => simp [hr.1]
  case hpos =>
    intro hp
    obtain ⟨b, off, rfl⟩ := hr.some_of (by have := hr.1; omega)
    refine ⟨_, rfl, fun j v hv => ?_⟩
    have hc := hr.copied j (.int .u8 v) (by simp [hv])
    exact (World.cell?_alloc_lt w _ _ (World.block_lt_of_cell? w _ hc)).trans hc
  case hfit => simp [hr.1]
  case hb => exact (Below.refl _ _).alloc (Nat.le_refl _) _
  intro w' hg hb
  go_wp2
  go_ret
  refine ⟨rfl, hb, ?_⟩
  have e := hg.out
  unfold Blk
  rw [e]
  simp [splice, hr.1]
end Go.Proofs.YtcmaclaiholpfaaDoor

/-
  Big-endian bytes of a number: plain mathematics.
-/
namespace Go.Proofs.YtcmaclaiholpfaaDoor
set_option linter.unusedVariables false

/-- The k low bytes of x, the high one first. -/
def enc (x : Int) : Nat → List Int
  | 0 => []
  | k + 1 => (x / 256 ^ k % 256) :: enc x k

/-- What bytes say as a number, the high one first. -/
def num (zs : List Int) : Int := zs.foldl (fun r z => 256 * r + z) 0

@[simp] theorem enc_length (x : Int) (k : Nat) : (enc x k).length = k := by induction k with | zero => rfl | succ k ih => simp [enc, ih]
theorem enc_byt (x : Int) (k : Nat) : Byt (enc x k) := by
  induction k with
  | zero => exact Byt.nil
  | succ k ih => intro z h; simp [enc] at h; rcases h with h | h
                 · subst h; omega
                 · exact ih z h

theorem pow_8 (k : Nat) : (2 : Int) ^ (8 * k) = 256 ^ k := by rw [Int.pow_mul]; rfl

theorem num_snoc (zs : List Int) (z : Int) : num (zs ++ [z]) = 256 * num zs + z := by simp [num]

theorem num_lo (zs : List Int) (h : Byt zs) : 0 ≤ num zs := by
  have H : ∀ (zs : List Int) (r : Int), Byt zs → 0 ≤ r → 0 ≤ zs.foldl (fun r z => 256 * r + z) r := by
    intro zs
    induction zs with
    | nil => intro r _ h; exact h
    | cons z zs ih => intro r hb hr; have := hb z (by simp); exact ih _ (fun y hy => hb y (by simp [hy])) (show 0 ≤ 256 * r + z by omega)
  exact H zs 0 h (Int.le_refl _)
theorem num_hi (zs : List Int) (h : Byt zs) : num zs < 256 ^ zs.length := by
  have H : ∀ (zs : List Int) (r : Int), Byt zs → zs.foldl (fun r z => 256 * r + z) r < (r + 1) * 256 ^ zs.length := by
    intro zs
    induction zs with
    | nil => intro r _; simp; omega
    | cons z zs ih =>
      intro r hb
      have hz := hb z (by simp)
      have h1 := ih (256 * r + z) (fun y hy => hb y (by simp [hy]))
      have hp : (0 : Int) < 256 ^ zs.length := Int.pow_pos (by omega)
      have h2 : (256 * r + z + 1) * 256 ^ zs.length ≤ (256 * (r + 1)) * 256 ^ zs.length := Int.mul_le_mul_of_nonneg_right (by omega) (Int.le_of_lt hp)
      simp only [List.foldl_cons, List.length_cons]
      have h3 : (r + 1) * 256 ^ (zs.length + 1) = (256 * (r + 1)) * 256 ^ zs.length := by rw [Int.pow_succ]; simp [Int.mul_comm, Int.mul_assoc]
      rw [h3]
      omega
  simpa [num] using H zs 0 h

theorem pow_256_le {k : Nat} (h : k ≤ 7) : (256 : Int) ^ k ≤ 72057594037927936 := by
  match k, h with
  | 0, _ | 1, _ | 2, _ | 3, _ | 4, _ | 5, _ | 6, _ | 7, _ => decide

theorem or_256 (y z : Int) (h0 : 0 ≤ y) (h1 : y < 72057594037927936) (h2 : 0 ≤ z) (h3 : z < 256) : bits .or .u64 (y * 256) z = y * 256 + z := by
  rw [u64_or _ _ (by omega) (by omega) h2 (by omega)]
  obtain ⟨a, rfl⟩ := Int.eq_ofNat_of_zero_le h0
  obtain ⟨b, rfl⟩ := Int.eq_ofNat_of_zero_le h2
  have e := Nat.shiftLeft_add_eq_or_of_lt (i := 8) (b := b) (by omega) a
  rw [Nat.shiftLeft_eq] at e
  have e1 : ((a : Int) * 256).toNat = a * 2 ^ 8 := by omega
  rw [e1, Int.toNat_natCast, ← e]
  omega

theorem take_snoc_getD (zs : List Int) (k : Nat) (h : k < zs.length) : zs.take (k + 1) = zs.take k ++ [zs[k]?.getD 0] := by
  rw [List.take_succ_eq_append_getElem h]; simp [h]

theorem num_cons (z : Int) (zs : List Int) : num (z :: zs) = z * 256 ^ zs.length + num zs := by
  have H : ∀ (zs : List Int) (r : Int), zs.foldl (fun r z => 256 * r + z) r = r * 256 ^ zs.length + num zs := by
    intro zs
    induction zs with
    | nil => intro r; simp [num]
    | cons y ys ih =>
      intro r
      have h1 := ih (256 * r + y)
      have h2 := ih (256 * 0 + y)
      simp only [List.foldl_cons, List.length_cons, num] at *
      rw [h1, h2, Int.pow_succ]
      simp only [Int.add_mul, Int.mul_zero, Int.zero_add]
      have : 256 * r * 256 ^ ys.length = r * (256 ^ ys.length * 256) := by rw [Int.mul_comm 256 r, Int.mul_assoc, Int.mul_comm 256 (256 ^ ys.length)]
      omega
  have := H zs (256 * 0 + z)
  simpa [num] using this

theorem num_enc (x : Int) (hx : 0 ≤ x) (n : Nat) : num (enc x n) = x % 256 ^ n := by
  obtain ⟨a, rfl⟩ := Int.eq_ofNat_of_zero_le hx
  induction n with
  | zero => simp [enc, num]
  | succ k ih =>
    rw [enc, num_cons, ih, enc_length]
    have e := Nat.mod_mul (x := a) (a := 256 ^ k) (b := 256)
    rw [← Nat.pow_succ] at e
    have e' := congrArg (fun m : Nat => (m : Int)) e
    simp only [Int.natCast_add, Int.natCast_mul, Int.natCast_emod, Int.natCast_ediv, Int.natCast_pow] at e'
    have e' : (a : Int) % 256 ^ (k + 1) = (a : Int) % 256 ^ k + 256 ^ k * ((a : Int) / 256 ^ k % 256) := e'
    rw [e', Int.mul_comm, Int.add_comm]

theorem enc_at (x : Int) (n j : Nat) (hj : j < n) : (enc x n)[n - 1 - j]? = some (x / 256 ^ j % 256) := by
  induction n with
  | zero => omega
  | succ k ih =>
    rw [enc]
    by_cases h : j = k
    · subst h; simp
    · rw [show k + 1 - 1 - j = (k - 1 - j) + 1 from by omega, List.getElem?_cons_succ]
      exact ih (by omega)

theorem div_pow_succ (x : Int) (j : Nat) : x / 256 ^ j / 256 = x / 256 ^ (j + 1) := by
  rw [Int.ediv_ediv_of_nonneg (Int.le_of_lt (Int.pow_pos (by omega))), Int.pow_succ]

theorem put_step (zs : List Int) (m : Nat) (b : Int) (r : List Int) (i : Nat) (hi : i = zs.length + m) :
    (zs ++ List.replicate (m + 1) 0 ++ r).set i b = zs ++ List.replicate m 0 ++ (b :: r) := by
  subst hi
  have e : zs ++ List.replicate (m + 1) (0 : Int) ++ r = (zs ++ List.replicate m 0) ++ (0 :: r) := by
    rw [List.replicate_succ']; simp
  rw [e, List.set_append, if_neg (by simp)]
  simp
end Go.Proofs.YtcmaclaiholpfaaDoor

/-
  The contract of package octet's Put.
-/
namespace Go.Proofs.YtcmaclaiholpfaaDoor
set_option linter.unusedVariables false
open Go.RowKit

set_option maxHeartbeats 400000 in
theorem put_yes (a : Option Addr) (len cap n : Nat) (x : Int) (zs : List Int) (w : World) (hr : Reads w a len zs) (hl : len ≤ 140737488355328) (hx0 : 0 ≤ x) (hx1 : x ≤ 18446744073709551615) (hn : sizB (n : Int) = true) :
    Calls Tryd.prog 20 #[.slice a len cap, .int .u64 x, .int .i64 (n : Int)] w fun e w' =>
      e = .returned (.slice (some ⟨w.heap.size, 0, none⟩) (len + n) (len + n)) ∧ Below w.heap.size w w' ∧ Blk w' w.heap.size (zs ++ enc x n) := by
  have hn8 : n ≤ 8 := by have := (sizB_iff n).1 hn; omega
  have hs := fun W => isSize_any (n : Int) W
  rw [hn] at hs
  have hs := Lib.hid hs
  clear hn
  go_enter Tryd.func20, Tryd.ntmps20
  go_wp2_with (first
    | (go_at_call 31; refine (hs.out _).mono ?_; rintro e w' ⟨rfl, rfl⟩)
    | (go_at_call 32; refine (extend_any a len cap n zs w hr (by omega)).mono ?_; rintro e w1 ⟨rfl, hb1, hk1⟩))
  go_loopw [18] (fun i wr => ∃ k : Nat, k ≤ n ∧ i = .int .i64 k ∧ Below w.heap.size w wr ∧ Blk wr w.heap.size (zs ++ List.replicate (n - k) 0 ++ enc x k)) (fun i _ => n - (intOf i).toNat)
  case atStart => exact ⟨0, Nat.zero_le _, rfl, hb1, by simpa [enc] using hk1⟩
  case round =>
    obtain ⟨k, hk, rfl, hb, hblk⟩ := hrel
    have hz := hr.1
    by_cases hlt : k < n
    · have hc : wr.cell? ⟨w.heap.size, len + n - 1 - k, none⟩ = some (.int .u8 ((zs ++ List.replicate (n - k) 0 ++ enc x k)[len + n - 1 - k]?.getD 0)) := hblk.cell (by simp; omega)
      have hf := hblk.free (len + n - 1 - k)
      have HB := Lib.hid hblk
      have HZ := Lib.hid hz
      clear hblk hz
      go_wp2
      go_roundw
      case rel =>
        refine ⟨k + 1, by omega, by go_num, hb.setCell (Nat.le_refl _) _, ?_⟩
        have h := HB.out.set (len + n - 1 - k) (x / 2 ^ (8 * k) % 256)
        have hz := HZ.out
        rw [show n - k = (n - (k + 1)) + 1 from by omega, put_step zs (n - (k + 1)) _ _ _ (by omega), pow_8] at h
        simpa [enc, pow_8] using h
      case measure => simp [intOf]; omega
    · go_wp2
      go_ret
      obtain rfl : k = n := by omega
      exact ⟨rfl, hb, by simpa using hblk⟩

set_option maxHeartbeats 400000 in
theorem put_no (a : Option Addr) (len cap : Nat) (n x : Int) (zs : List Int) (w : World) (hr : Reads w a len zs) (hl : len ≤ 140737488355328) (hn : sizB n = false) :
    Calls Tryd.prog 20 #[.slice a len cap, .int .u64 x, .int .i64 n] w fun e w' =>
      e = .returned (.slice (some ⟨w.heap.size, 0, none⟩) len len) ∧ Below w.heap.size w w' ∧ Blk w' w.heap.size zs := by
  have hs := fun W => isSize_any n W
  rw [hn] at hs
  have hs' := Lib.hid hs
  clear hn hs
  go_enter Tryd.func20, Tryd.ntmps20
  go_wp2_with (first
    | (go_at_call 31; refine (hs'.out _).mono ?_; rintro e w' ⟨rfl, rfl⟩)
    | (go_at_call 32; refine (extend_any a len cap 0 zs w hr (by omega)).mono ?_; rintro e w1 ⟨rfl, hb1, hk1⟩))
  go_ret
  exact ⟨rfl, hb1, by simpa using hk1⟩
end Go.Proofs.YtcmaclaiholpfaaDoor

/-
  The contracts of package octet's Cut and Pad.
-/
namespace Go.Proofs.YtcmaclaiholpfaaDoor
open Go.RowKit
set_option linter.unusedVariables false

/-- A length, rounded up. -/
def up4 (n : Nat) : Nat := (n + 3) / 4 * 4
theorem up4_ge (n : Nat) : n ≤ up4 n := by unfold up4; omega
theorem up4_le (n : Nat) : up4 n ≤ n + 3 := by unfold up4; omega
end Go.Proofs.YtcmaclaiholpfaaDoor

/-
  The contract of package octet's Get.
-/
namespace Go.Proofs.YtcmaclaiholpfaaDoor
open Go.RowKit
set_option linter.unusedVariables false

set_option maxHeartbeats 400000 in
theorem get_no (a : Option Addr) (len cap : Nat) (at_ n : Int) (w : World) (hl : len ≤ 140737488355328) (h2 : n ≤ 9223372036854775807) (hh : (sizB n && hasB len at_ n) = false) :
    Calls Tryd.prog 39 #[.slice a len cap, .int .i64 at_, .int .i64 n] w fun e w' => e = .returned (.tuple #[.int .u64 0, .int .i64 1]) ∧ w = w' := by
  have hs := fun W => has_any a len cap at_ n W (by omega) h2
  have ht := fun W => isSize_any n W
  cases hsz : sizB n with
  | false =>
    rw [hsz] at ht
    have hs' := Lib.hid hs
    have ht' := Lib.hid ht
    clear hh hs ht hsz
    go_enter Tryd.func39, Tryd.ntmps39
    go_wp2_with (first
      | (go_at_call 31; refine (ht'.out _).mono ?_; rintro e w' ⟨rfl, rfl⟩))
    go_ret2
    exact ⟨rfl, rfl⟩
  | true =>
    rw [hsz] at hh ht
    simp only [Bool.true_and] at hh
    rw [hh] at hs
    have hs' := Lib.hid hs
    have ht' := Lib.hid ht
    clear hh hs ht hsz
    go_enter Tryd.func39, Tryd.ntmps39
    go_wp2_with (first
      | (go_at_call 31; refine (ht'.out _).mono ?_; rintro e w' ⟨rfl, rfl⟩)
      | (go_at_call 52; refine (hs'.out _).mono ?_; rintro e w' ⟨rfl, rfl⟩))
    go_ret2
    exact ⟨rfl, rfl⟩

set_option maxHeartbeats 400000 in
theorem get_yes (a : Option Addr) (len cap i n : Nat) (zs : List Int) (w : World) (hr : Reads w a len zs) (hbyt : Byt zs) (hl : len ≤ 140737488355328) (hn : sizB (n : Int) = true) (hi : i + n ≤ len) :
    Calls Tryd.prog 39 #[.slice a len cap, .int .i64 (i : Int), .int .i64 (n : Int)] w fun e w' =>
      e = .returned (.tuple #[.int .u64 (num ((zs.drop i).take n)), .int .i64 0]) ∧ w = w' := by
  have hn8 : 1 ≤ n ∧ n ≤ 8 := by have := (sizB_iff n).1 hn; omega
  obtain ⟨hn1, hn8⟩ := hn8
  have hs := fun W => has_any a len cap i n W (by omega) (by omega)
  rw [(hasB_iff len i n).2 (by omega)] at hs
  have ht := fun W => isSize_any (n : Int) W
  rw [hn] at ht
  have hs' := Lib.hid hs
  have ht' := Lib.hid ht
  clear hs ht hn
  obtain ⟨b, off, rfl⟩ := hr.some_of (by omega)
  have HR := hr
  obtain ⟨hz, hcell⟩ := hr
  have hcell : ∀ j, j < len → w.cell? ⟨b, off + j, none⟩ = some (.int .u8 (zs[j]?.getD 0)) := by
    rcases hcell with h | ⟨b', off', e, _, h⟩
    · omega
    · cases e; exact h
  have HC := Lib.hid hcell
  have HZ := Lib.hid hz
  clear hcell hz
  go_enter Tryd.func39, Tryd.ntmps39
  go_wp2_with (first
      | (go_at_call 31; refine (ht'.out _).mono ?_; rintro e w' ⟨rfl, rfl⟩)
      | (go_at_call 52; refine (hs'.out _).mono ?_; rintro e w' ⟨rfl, rfl⟩))
  go_loop [8, 21] (fun x j => ∃ k : Nat, k ≤ n ∧ j = .int .i64 k ∧ x = .int .u64 (num ((zs.drop i).take k))) (fun _ j => n - (intOf j).toNat)
  case atStart => exact ⟨0, Nat.zero_le _, rfl, rfl⟩
  case round =>
    obtain ⟨k, hk, rfl, rfl⟩ := hrel
    by_cases hlt : k < n
    · have hc := HC.out (i + k) (by omega)
      have hzb := hbyt.getD (i + k)
      have hlo := num_lo _ ((hbyt.drop i).take k)
      have hhi : num ((zs.drop i).take k) < 72057594037927936 := by
        have h1 := num_hi _ ((hbyt.drop i).take k)
        have h2 : (256 : Int) ^ ((zs.drop i).take k).length ≤ 72057594037927936 := pow_256_le (by simp; omega)
        omega
      have HO := Lib.hid (or_256 _ _ hlo hhi hzb.1 hzb.2)
      have HS := Lib.hid (show (zs.drop i).take (k + 1) = (zs.drop i).take k ++ [zs[i + k]?.getD 0] from by
        rw [take_snoc_getD _ _ (by have := HZ.out; simp; omega)]; simp)
      obtain ⟨hz0, hz1⟩ := hzb
      go_wp2
      go_round
      case rel =>
        refine ⟨k + 1, by omega, by go_num, ?_⟩
        rw [HS.out, num_snoc, HO.out, Int.mul_comm]
      case measure => simp [intOf]; omega
    · go_wp2
      go_ret2
      obtain rfl : k = n := by omega
      exact ⟨rfl, rfl⟩
end Go.Proofs.YtcmaclaiholpfaaDoor

/-
  Contracts of the reference package 00: EqBytes.
-/
namespace Go.Proofs.YtcmaclaiholpfaaDoor
open Go.RowKit
set_option linter.unusedVariables false

theorem u8_or_xor (u x y : Int) (hu0 : 0 ≤ u) (hu1 : u < 256) (hx0 : 0 ≤ x) (hx1 : x < 256) (hy0 : 0 ≤ y) (hy1 : y < 256) :
    0 ≤ bits .or .u8 u (bits .xor .u8 x y) ∧ bits .or .u8 u (bits .xor .u8 x y) < 256 ∧ (bits .or .u8 u (bits .xor .u8 x y) = 0 ↔ u = 0 ∧ x = y) := by
  rw [u8_xor x y hx0 hx1 hy0 hy1]
  have hlt : x.toNat ^^^ y.toNat < 256 := Nat.xor_lt_two_pow (n := 8) (by omega) (by omega)
  rw [u8_or u _ hu0 hu1 (by omega) (by omega)]
  have hor : u.toNat ||| (((x.toNat ^^^ y.toNat : Nat) : Int)).toNat < 256 := Nat.or_lt_two_pow (n := 8) (by omega) (by omega)
  refine ⟨by omega, by omega, ?_⟩
  rw [Int.toNat_natCast]
  constructor
  · intro h
    have h' : u.toNat ||| (x.toNat ^^^ y.toNat) = 0 := by omega
    rw [Nat.or_eq_zero_iff] at h'
    have h2 : x.toNat = y.toNat := by
      have e : x.toNat = (x.toNat ^^^ y.toNat) ^^^ y.toNat := by rw [Nat.xor_assoc, Nat.xor_self, Nat.xor_zero]
      rw [h'.2, Nat.zero_xor] at e
      exact e
    omega
  · rintro ⟨rfl, rfl⟩
    simp

/-- Are the first k numbers the same? -/
def same (zs ys : List Int) (k : Nat) : Prop := zs.take k = ys.take k

theorem same_succ {zs ys : List Int} {k : Nat} (h1 : k < zs.length) (h2 : k < ys.length) : same zs ys (k + 1) ↔ same zs ys k ∧ zs[k]?.getD 0 = ys[k]?.getD 0 := by
  unfold same
  rw [List.take_succ_eq_append_getElem h1, List.take_succ_eq_append_getElem h2]
  constructor
  · intro h
    have := List.append_inj' h rfl
    exact ⟨this.1, by simp at this; simp [h1, h2, this.2]⟩
  · rintro ⟨e1, e2⟩
    simp [h1, h2] at e2
    rw [e1, e2]

end Go.Proofs.YtcmaclaiholpfaaDoor

/-
  Contracts of the reference package 00: CopyBytes, Roomy, Kept.
-/
namespace Go.Proofs.YtcmaclaiholpfaaDoor
open Go.RowKit
set_option linter.unusedVariables false

theorem Tryd.infoR : (Tryd.prog.info? 5).map (fun i => (i.zero, i.size, i.bytes)) = some (some (.int .u8 0), 1, 1) := by kernel_rfl
/-- 'append' of bytes that are there onto a row of the call's own: it is one again. -/
theorem Row8.grow {base : Nat} {w : World} {a : Option Addr} {n c : Nat} {zs : List Int} (h : Row8 base w a n c zs) (hb : base ≤ w.heap.size) (ad : Addr) (m c2 : Nat) (ys : List Int) (hl : ys.length = m) (hy : ∀ j u, (ys.map (Value.int .u8))[j]? = some u → w.cell? (ad.add j) = some u) (h0 : 0 < m) (hn : n + m ≤ 140737488355328) :
    ∃ a' c' W3, (Builtin.append_ #[22, 22] 22 #[.slice a n c, .slice (some ad) m c2]).run Tryd.prog w = .ok (.slice a' (n + m) c') W3 ∧ Row8 base W3 a' (n + m) c' (zs ++ ys) ∧ w.grownBy W3 (Value.slice a n c).ownBlock := by
  obtain ⟨i0, hi0, hz⟩ := Option.map_eq_some_iff.1 Tryd.infoR
  simp only [Prod.mk.injEq] at hz
  obtain ⟨hz0, hz1, hz2⟩ := hz
  have hsmall : n + m ≤ maxLen := by unfold maxLen; omega
  have hyl : (ys.map (Value.int .u8)).length = m * i0.size := by rw [hz1, List.length_map]; omega
  have hone : ∀ u ∈ ys.map (Value.int .u8), u.oneCell' = true := by intro u hu; obtain ⟨y, _, rfl⟩ := List.mem_map.1 hu; rfl
  have hzc : ∀ k, (Builtin.zeroCells (Value.int .u8 0).cells k) = ((List.replicate k (0 : Int)).map (Value.int .u8)).toArray := by
    intro k
    apply Array.toList_inj.1
    rw [List.map_replicate]
    simp [Builtin.zeroCells, Value.cells]
    exact List.ext_getElem (by simp) (by intro i h1 h2; simp [Nat.mod_one])
  obtain ⟨hz, h2⟩ := id h
  rcases h2 with ⟨rfl, rfl, rfl⟩ | ⟨g, sp, rfl, hbg, hk, hs, hc, hcm⟩
  · have e0 : zs = [] := List.eq_nil_of_length_eq_zero hz
    subst e0
    have hge := grownCap_ge w m 0 5
    have hcm := grownCap_le_maxLen w m 0 5 (by omega)
    have hr := run_append_nil (P := Tryd.prog) w 22 22 5 i0 (.int .u8 0) Tryd.underlying22 hi0 hz0 ad m c2 (ys.map (Value.int .u8)) hyl hy h0 (by omega) (by rw [hz2]; omega)
    rw [hzc, List.append_toArray, ← List.map_append] at hr
    rw [Nat.zero_add]
    refine ⟨_, _, _, hr, ⟨by simpa using hl, .inr ⟨w.heap.size, List.replicate (grownCap w m 0 5 - m) 0, rfl, hb, heap_alloc_new w.drew _, Byt.rep (by omega) (by omega) _, by simp; omega, hcm⟩⟩, ⟨rfl, rfl, rfl, by simp, fun k hk _ => (World.grownBy_alloc w.drew _ none).block k hk (by simp)⟩⟩
  · by_cases hroom : n + m ≤ c
    · have hsz : (zs ++ sp).length = c := by rw [List.length_append]; exact hc
      have hr := run_append_room (P := Tryd.prog) w 22 22 5 i0 Tryd.underlying22 hi0 g n c _ hk ad m c2 (ys.map (Value.int .u8)) hyl hy hone hroom (by rw [hz1]; simp; omega)
      refine ⟨some ⟨g, 0, none⟩, c, _, hr, ⟨by rw [List.length_append]; omega, .inr ⟨g, sp.drop m, rfl, hbg, ?_, hs.drop m, by simp; omega, hcm⟩⟩, ⟨rfl, rfl, rfl, by simp [World.setRow], fun k _ hk => setRow_other w g k _ (fun e => hk (by simp [Value.ownBlock, e]))⟩⟩
      have ea : ((List.map (Value.int .u8) (zs ++ sp)).toArray.toList.take (n * i0.size) ++ ys.map (Value.int .u8) ++ (List.map (Value.int .u8) (zs ++ sp)).toArray.toList.drop (n * i0.size + (ys.map (Value.int .u8)).length)) = (zs ++ ys ++ sp.drop m).map (Value.int .u8) := by
        rw [hz1, Nat.mul_one, List.length_map, hl, ← hz]
        simp [List.drop_append, List.drop_of_length_le]
      exact ea ▸ setRow_heap w g _ _ _ _ hk
    · have holds : ∀ j u, (zs.map (Value.int .u8))[j]? = some u → w.cell? ((⟨g, 0, none⟩ : Addr).add j) = some u := h.owns.cells (g := g) rfl
      have hge := grownCap_ge w (n + m) c 5
      have hcm2 := grownCap_le_maxLen w (n + m) c 5 hsmall
      have hr := run_append_grow (P := Tryd.prog) w 22 22 5 i0 (.int .u8 0) Tryd.underlying22 hi0 hz0 ⟨g, 0, none⟩ n c (zs.map (Value.int .u8)) (by rw [hz1, List.length_map]; omega) holds ad m c2 (ys.map (Value.int .u8)) hyl hy (by omega) (by omega) (growslice_fits (by omega) (by rw [hz2]; omega))
      rw [hzc, List.append_toArray, List.append_toArray, ← List.map_append, ← List.map_append] at hr
      exact ⟨_, _, _, hr, ⟨by rw [List.length_append]; omega, .inr ⟨w.heap.size, List.replicate (grownCap w (n + m) c 5 - (n + m)) 0, rfl, hb, heap_alloc_new w.drew _, Byt.rep (by omega) (by omega) _, by simp; omega, hcm2⟩⟩, ⟨rfl, rfl, rfl, by simp, fun k hk _ => (World.grownBy_alloc w.drew _ none).block k hk (by simp)⟩⟩

set_option maxHeartbeats 400000 in
theorem copyBytes_pos (a : Option Addr) (len cap : Nat) (zs : List Int) (w : World) (hr : Reads w a len zs) (h0 : 0 < len) (hl : len ≤ 140737488355328) :
    Calls Tryd.prog 45 #[.slice a len cap] w fun e w' =>
      e = .returned (.slice (some ⟨w.heap.size, 0, none⟩) len len) ∧ Below w.heap.size w w' ∧ Blk w' w.heap.size zs := by
  have hmk := fun W => run_make_row' (P := Tryd.prog) 22 5 (.int .u8 0) 1 Tryd.underlying22 Tryd.infoR rfl .i64 .i64 len (by omega) (by omega) W
  have H0 := Lib.hid (blk_made w len)
  obtain ⟨b, off, rfl⟩ := hr.some_of h0
  have HR := Lib.hid hr
  have HL := Lib.hid hr.1
  have hne : ((len : Int) == 0) = false := by simp; omega
  clear hr
  go_enter Tryd.func45, Tryd.ntmps45
  go_wp2
  go_loopw [4] (fun i wr => ∃ k : Nat, k ≤ len ∧ i = .int .i64 k ∧ Below w.heap.size w wr ∧ Blk wr w.heap.size (zs.take k ++ (List.replicate (len - k) 0 ++ []))) (fun i _ => len - (intOf i).toNat)
  case atStart => exact ⟨0, Nat.zero_le _, rfl, (Below.refl _ _).alloc (Nat.le_refl _) _, by simpa using H0.out⟩
  case round =>
    obtain ⟨k, hk, rfl, hb, hblk⟩ := hrel
    by_cases hlt : k < len
    · have hc : wr.cell? ⟨w.heap.size, k, none⟩ = some (.int .u8 ((zs.take k ++ (List.replicate (len - k) 0 ++ []))[k]?.getD 0)) := hblk.cell (by have := HL.out; simp; omega)
      have hf := hblk.free k
      have hs : wr.cell? ⟨b, off + k, none⟩ = some (.int .u8 (zs[k]?.getD 0)) := by
        rcases HR.out.2 with h | ⟨b', off', e, hlt', h⟩
        · omega
        · cases e; exact (hb.cell (p := ⟨b, off + k, none⟩) hlt').trans (h k hlt)
      have HBl := Lib.hid hblk
      clear hblk
      go_wp2
      go_roundw
      case rel =>
        refine ⟨k + 1, by omega, by go_num, hb.setCell (Nat.le_refl _) _, ?_⟩
        have h := HBl.out.set k (zs[k]?.getD 0)
        rw [show len - k = (len - (k + 1)) + 1 from by omega, copy_step zs [] 0 k _ k rfl (by rw [HL.out]; exact hlt)] at h
        exact h
      case measure => simp [intOf]; omega
    · go_wp2
      go_ret
      obtain rfl : k = len := by omega
      refine ⟨rfl, hb, ?_⟩
      have e : zs.take k = zs := List.take_of_length_le (Nat.le_of_eq HL.out)
      rw [e] at hblk
      simpa using hblk

theorem copyBytes_zero (a : Option Addr) (cap : Nat) (w : World) :
    Calls Tryd.prog 45 #[.slice a 0 cap] w fun e w' => e = .returned (.slice none 0 0) ∧ w = w' := by
  go_enter Tryd.func45, Tryd.ntmps45
  go_wp2
  go_ret
  exact ⟨rfl, rfl⟩

theorem copyBytes_any (a : Option Addr) (len cap : Nat) (zs : List Int) (w : World) (hr : Reads w a len zs) (hl : len ≤ 140737488355328) :
    Calls Tryd.prog 45 #[.slice a len cap] w fun e w' => ∃ a', e = .returned (.slice a' len len) ∧ Below w.heap.size w w' ∧ Row8 w.heap.size w' a' len len zs := by
  by_cases h0 : len = 0
  · subst h0
    obtain rfl : zs = [] := List.eq_nil_of_length_eq_zero hr.1
    exact (copyBytes_zero a cap w).mono fun e w' ⟨h1, h2⟩ => ⟨none, h1, h2 ▸ Below.refl _ _, Row8.nil _ _⟩
  · exact (copyBytes_pos a len cap zs w hr (by omega) hl).mono fun e w' ⟨h1, h2, h3⟩ => ⟨_, h1, h2, Row8.of_blk h3 (Nat.le_refl _) hr.1.symm (by unfold maxLen; omega)⟩

end Go.Proofs.YtcmaclaiholpfaaDoor

/-
  Contracts of the reference package 01: Size, Cut, Get.
-/
namespace Go.Proofs.YtcmaclaiholpfaaDoor
open Go.RowKit
set_option linter.unusedVariables false

theorem sizeR_any (n : Int) (w : World) : Calls Tryd.prog 46 #[.int .i64 n] w fun e w' => e = .returned (.bool (sizB n)) ∧ w = w' := by
  by_cases h1 : n = 1
  · subst h1; go_enter Tryd.func46, Tryd.ntmps46; go_wp2; go_ret; exact ⟨rfl, rfl⟩
  by_cases h2 : n = 2
  · subst h2; go_enter Tryd.func46, Tryd.ntmps46; go_wp2; go_ret; exact ⟨rfl, rfl⟩
  by_cases h4 : n = 4
  · subst h4; go_enter Tryd.func46, Tryd.ntmps46; go_wp2; go_ret; exact ⟨rfl, rfl⟩
  have e1 : (n == 1) = false := by simpa using h1
  have e2 : (n == 2) = false := by simpa using h2
  have e4 : (n == 4) = false := by simpa using h4
  go_enter Tryd.func46, Tryd.ntmps46; go_wp2; go_ret; exact ⟨by simp [sizB, e1, e2, e4], rfl⟩

set_option maxHeartbeats 400000 in
theorem cutR_no (a : Option Addr) (len cap : Nat) (at_ n : Int) (w : World) (hl : len ≤ 140737488355328) (h2 : n ≤ 9223372036854775807) (h3 : at_ ≤ 9223372036854775807) (hh : hasB len at_ n = false) :
    Calls Tryd.prog 51 #[.slice a len cap, .int .i64 at_, .int .i64 n] w fun e w' => e = .returned (.tuple #[.slice none 0 0, .bool false]) ∧ w = w' := by
  have hc : at_ < 0 ∨ n < 0 ∨ (len : Int) - n < at_ := by
    have := mt (hasB_iff len at_ n).2 (by simp [hh]); omega
  clear hh
  by_cases g1 : at_ < 0
  · go_enter Tryd.func51, Tryd.ntmps51
    go_wp2
    go_ret2
    exact ⟨rfl, rfl⟩
  by_cases g2 : n < 0
  · go_enter Tryd.func51, Tryd.ntmps51
    go_wp2
    go_ret2
    exact ⟨rfl, rfl⟩
  have g3 : (len : Int) - n < at_ := by omega
  clear hc
  by_cases g4 : (len : Int) < at_
  · go_enter Tryd.func51, Tryd.ntmps51
    go_wp2
    go_ret2
    exact ⟨rfl, rfl⟩
  have g5 : (len : Int) - at_ < n := by omega
  go_enter Tryd.func51, Tryd.ntmps51
  go_wp2
  go_ret2
  exact ⟨rfl, rfl⟩

set_option maxHeartbeats 400000 in
theorem cutR_yes (a : Option Addr) (len cap i m : Nat) (zs : List Int) (w : World) (hr : Reads w a len zs) (hcap : len ≤ cap) (hl : len ≤ 140737488355328) (hi : i + m ≤ len) :
    Calls Tryd.prog 51 #[.slice a len cap, .int .i64 (i : Int), .int .i64 (m : Int)] w fun e w' =>
      ∃ a', e = .returned (.tuple #[.slice a' m m, .bool true]) ∧ Below w.heap.size w w' ∧ Row8 w.heap.size w' a' m m ((zs.drop i).take m) := by
  have hz := hr.1
  have g1 : (i : Int) ≤ (len : Int) := by omega
  have g2 : (m : Int) ≤ (len : Int) - (i : Int) := by omega
  by_cases hm : m = 0
  · subst hm
    cases a with
    | none =>
      have h0 := hr.2
      have h00 : len = 0 := by
        rcases h0 with h | ⟨_, _, h, _⟩
        · exact h
        · cases h
      obtain rfl : i = 0 := by omega
      subst h00
      clear h0 hi g1 g2
      go_enter Tryd.func51, Tryd.ntmps51
      go_wp2_with fail
      refine (copyBytes_any _ 0 _ [] w (Reads.zero _ _) (by omega)).mono ?_
      rintro e w1 ⟨a', rfl, hb1, hk1⟩
      go_wp2
      go_ret2
      exact ⟨_, rfl, hb1, by simpa using hk1⟩
    | some ad =>
      obtain ⟨bk, off, spot⟩ := ad
      have H := Lib.hid hz
      clear hz
      go_enter Tryd.func51, Tryd.ntmps51
      go_wp2_with fail
      all_goals
        refine (copyBytes_any _ 0 _ [] w (Reads.zero _ _) (by omega)).mono ?_
        rintro e w1 ⟨a', rfl, hb1, hk1⟩
        go_wp2
        go_ret2
        exact ⟨_, rfl, hb1, by simpa using hk1⟩
  · obtain ⟨bk, off, rfl⟩ := hr.some_of (by omega)
    have hp := hr.part i m hi
    have hic : i < cap := by omega
    have H := Lib.hid hz
    clear hz
    go_enter Tryd.func51, Tryd.ntmps51
    go_wp2_with fail
    refine (copyBytes_any _ m _ _ w hp (by omega)).mono ?_
    rintro e w1 ⟨a', rfl, hb1, hk1⟩
    go_wp2
    go_ret2
    exact ⟨_, rfl, hb1, hk1⟩

set_option maxHeartbeats 400000 in
theorem getR_no (a : Option Addr) (len cap : Nat) (at_ n : Int) (zs : List Int) (w : World) (hr : Reads w a len zs) (hcap : len ≤ cap) (hl : len ≤ 140737488355328) (h2 : n ≤ 9223372036854775807) (h3 : at_ ≤ 9223372036854775807) (hh : (sizB n && hasB len at_ n) = false) :
    Calls Tryd.prog 38 #[.slice a len cap, .int .i64 at_, .int .i64 n] w fun e w' => e = .returned (.tuple #[.int .u64 0, .int .i64 1]) ∧ Below w.heap.size w w' := by
  have ht := fun W => sizeR_any n W
  by_cases hb : hasB len at_ n = true
  · have hsz : sizB n = false := by simpa [hb] using hh
    rw [hsz] at ht
    have ht' := Lib.hid ht
    clear ht hh hsz
    have := (hasB_iff len at_ n).1 hb
    obtain ⟨i, rfl⟩ := Int.eq_ofNat_of_zero_le this.1
    obtain ⟨m, rfl⟩ := Int.eq_ofNat_of_zero_le this.2.1
    have hi : i + m ≤ len := by omega
    clear hb this
    go_enter Tryd.func38, Tryd.ntmps38
    go_wp2_with fail
    refine (cutR_yes a len cap i m zs w hr hcap hl hi).mono ?_
    rintro e w1 ⟨a', rfl, hb1, hk1⟩
    go_wp2_with (go_at_call 46; refine (ht'.out _).mono ?_; rintro e w' ⟨rfl, rfl⟩)
    go_ret2
    exact ⟨rfl, hb1⟩
  · have hbf : hasB len at_ n = false := by simpa using hb
    have hc := Lib.hid (cutR_no a len cap at_ n w hl h2 h3 hbf)
    clear hh hb hbf
    cases hsz : sizB n
    all_goals
      rw [hsz] at ht
      have ht' := Lib.hid ht
      clear ht hsz
      go_enter Tryd.func38, Tryd.ntmps38
      go_wp2_with (first
        | (go_at_call 51; refine hc.out.mono ?_; rintro e w' ⟨rfl, rfl⟩)
        | (go_at_call 46; refine (ht'.out _).mono ?_; rintro e w' ⟨rfl, rfl⟩))
      go_ret2
      exact ⟨rfl, Below.refl _ _⟩

set_option maxHeartbeats 800000 in
theorem getR_yes (a : Option Addr) (len cap i n : Nat) (zs : List Int) (w : World) (hr : Reads w a len zs) (hbyt : Byt zs) (hcap : len ≤ cap) (hl : len ≤ 140737488355328) (hn : sizB (n : Int) = true) (hi : i + n ≤ len) :
    Calls Tryd.prog 38 #[.slice a len cap, .int .i64 (i : Int), .int .i64 (n : Int)] w fun e w' =>
      e = .returned (.tuple #[.int .u64 (num ((zs.drop i).take n)), .int .i64 0]) ∧ Below w.heap.size w w' := by
  have hn8 : 1 ≤ n ∧ n ≤ 8 := by have := (sizB_iff n).1 hn; omega
  obtain ⟨hn1, hn8⟩ := hn8
  have ht := fun W => sizeR_any (n : Int) W
  rw [hn] at ht
  have ht' := Lib.hid ht
  have HL := Lib.hid hr.1
  clear ht hn
  go_enter Tryd.func38, Tryd.ntmps38
  go_wp2_with fail
  refine (cutR_yes a len cap i n zs w hr hcap hl hi).mono ?_
  rintro e w1 ⟨a', rfl, hb1, hk1⟩
  have hr1 := hk1.reads
  obtain ⟨b, off, rfl⟩ := hr1.some_of (by omega)
  have HR := Lib.hid hr1
  have HX := Lib.hid (hbyt.drop i |>.take n)
  have HT := Lib.hid (show ((zs.drop i).take n).length = n from hr1.1)
  clear hr1 hk1
  go_wp2_with (go_at_call 46; refine (ht'.out _).mono ?_; rintro e w' ⟨rfl, rfl⟩)
  generalize hxs : (zs.drop i).take n = xs at *
  have HXS := Lib.hid hxs
  clear hxs
  go_loop [10, 11] (fun x j => ∃ k : Nat, k ≤ n ∧ j = .int .i64 k ∧ x = .int .u64 (num (xs.take k))) (fun _ j => n - (intOf j).toNat)
  case atStart => exact ⟨0, Nat.zero_le _, rfl, rfl⟩
  case round =>
    obtain ⟨k, hk, rfl, rfl⟩ := hrel
    by_cases hlt : k < n
    · have hc : w1.cell? ⟨b, off + k, none⟩ = some (.int .u8 (xs[k]?.getD 0)) := by
        rcases HR.out.2 with h | ⟨b', off', e, _, h⟩
        · omega
        · cases e; exact h k hlt
      obtain ⟨hz0, hz1⟩ := HX.out.getD k
      have hlo := num_lo _ (HX.out.take k)
      have hhi : num (xs.take k) < 72057594037927936 := by
        have h1 := num_hi _ (HX.out.take k)
        have h2 : (256 : Int) ^ (xs.take k).length ≤ 72057594037927936 := pow_256_le (by simp; omega)
        omega
      have HS := Lib.hid (take_snoc_getD xs k (by rw [HT.out]; exact hlt))
      go_wp2
      go_round
      case rel =>
        refine ⟨k + 1, by omega, by go_num, ?_⟩
        rw [HS.out, num_snoc]
      case measure => simp [intOf]; omega
    · go_wp2
      go_ret2
      obtain rfl : k = n := by omega
      refine ⟨?_, hb1⟩
      rw [show xs.take k = xs from List.take_of_length_le (Nat.le_of_eq HT.out), HXS.out]
      rfl
end Go.Proofs.YtcmaclaiholpfaaDoor

/-
  What a call may turn: the blocks on a list, and nothing else that was there. Program apart.
-/
namespace Go.Proofs.YtcmaclaiholpfaaDoor
open Go.RowKit
set_option linter.unusedVariables false

/-- Of what was in w nothing has turned in w' but the blocks on the list. -/
structure Turn (bs : List Nat) (w w' : World) : Prop where
  os : w'.os = w.os
  tape : w'.tape = w.tape
  output : w'.output = w.output
  size : w.heap.size ≤ w'.heap.size
  block : ∀ k, k < w.heap.size → k ∉ bs → w'.heap[k]? = w.heap[k]?

theorem Turn.refl (bs : List Nat) (w : World) : Turn bs w w := ⟨rfl, rfl, rfl, Nat.le_refl _, fun _ _ _ => rfl⟩
theorem Turn.trans {bs : List Nat} {a b c : World} (h : Turn bs a b) (k : Turn bs b c) : Turn bs a c :=
  ⟨k.os.trans h.os, k.tape.trans h.tape, k.output.trans h.output, Nat.le_trans h.size k.size, fun i hi hn => (k.block i (Nat.lt_of_lt_of_le hi h.size) hn).trans (h.block i hi hn)⟩
theorem Turn.mono {bs cs : List Nat} {w w' : World} (h : Turn bs w w') (hs : ∀ k ∈ bs, k ∈ cs) : Turn cs w w' := ⟨h.os, h.tape, h.output, h.size, fun k hk hn => h.block k hk (fun e => hn (hs k e))⟩
/-- A step that may turn more, where what more it turns is new. -/
theorem Turn.over {bs cs : List Nat} {a b c : World} (h : Turn bs a b) (k : Turn cs b c) (hs : ∀ j ∈ cs, j ∈ bs ∨ a.heap.size ≤ j) : Turn bs a c :=
  ⟨k.os.trans h.os, k.tape.trans h.tape, k.output.trans h.output, Nat.le_trans h.size k.size, fun i hi hn => (k.block i (Nat.lt_of_lt_of_le hi h.size) (fun e => by
    rcases hs i e with h1 | h1
    · exact hn h1
    · omega)).trans (h.block i hi hn)⟩
theorem Turn.drew {bs : List Nat} {a w : World} (h : Turn bs a w) : Turn bs a w.drew := ⟨h.os, h.tape, h.output, h.size, h.block⟩
theorem Turn.drewN {bs : List Nat} {a w : World} (h : Turn bs a w) (n : Nat) : Turn bs a (w.drewN n) := ⟨h.os, h.tape, h.output, h.size, h.block⟩
theorem Turn.alloc {bs : List Nat} {a w : World} (h : Turn bs a w) (o : Obj) : Turn bs a (w.alloc o) :=
  h.trans ⟨rfl, rfl, rfl, by simp, fun k hk _ => Below.heap_alloc _ _ _ hk⟩
theorem Turn.setCell {bs : List Nat} {a w : World} (h : Turn bs a w) {p : Addr} (hp : p.block ∈ bs) (u : Value) : Turn bs a (w.setCell p u) :=
  h.trans ⟨rfl, rfl, rfl, by simp [World.setCell], fun k hk hn => Below.heap_setCell _ _ _ _ (fun e => hn (e ▸ hp))⟩
theorem Turn.grown {bs : List Nat} {a w w' : World} {row : Option Nat} (h : Turn bs a w) (hg : w.grownBy w' row) (hr : ∀ k, row = some k → k ∈ bs ∨ a.heap.size ≤ k) : Turn bs a w' :=
  ⟨hg.os.trans h.os, hg.tape.trans h.tape, hg.output.trans h.output, Nat.le_trans h.size hg.size, fun i hi hn => (hg.block i (Nat.lt_of_lt_of_le hi h.size) (fun e => by
    rcases hr i e.symm with h1 | h1
    · exact hn h1
    · omega)).trans (h.block i hi hn)⟩
theorem Turn.of_below {w w' : World} (h : Below w.heap.size w w') : Turn [] w w' := ⟨h.os, h.tape, h.output, h.size, fun k hk _ => h.block k hk⟩
theorem Turn.below {bs : List Nat} {w w' : World} (h : Turn bs w w') {B : Nat} (hB : B ≤ w.heap.size) (hs : ∀ k ∈ bs, B ≤ k) : Below B w w' :=
  ⟨h.os, h.tape, h.output, h.size, fun k hk => h.block k (by omega) (fun e => by have := hs k e; omega)⟩
theorem Turn.at {bs : List Nat} {w w' : World} (h : Turn bs w w') {k : Nat} (hk : k < w.heap.size) (hn : k ∉ bs) : w'.heap[k]? = w.heap[k]? := h.block k hk hn
theorem Turn.cell {bs : List Nat} {w w' : World} (h : Turn bs w w') {p : Addr} (hk : p.block < w.heap.size) (hn : p.block ∉ bs) : w'.cell? p = w.cell? p := World.cell?_of_block (w := w) (h.block p.block hk hn)
theorem Turn.frozen {bs : List Nat} {w w' : World} (h : Turn bs w w') {p : Addr} (hk : p.block < w.heap.size) (hn : p.block ∉ bs) : w'.frozen? p = w.frozen? p := World.frozen?_of_block (w := w) (h.block p.block hk hn)

section
variable {H : Type} {P : Program} {k : TypeId} {R : Value → Option (DataW H × List MemPlace)} {w : World} {b n : Nat} {D : DataW H}
theorem ownsMap_turn {bs : List Nat} {w' : World} (h : w.ownsMap P k R b n D) (ht : Turn bs w w') (hn : b ∉ bs) : w'.ownsMap P k R b n D := by
  have hlt := h.lt
  obtain ⟨es, clock, hb, r⟩ := h
  exact ⟨es, clock, (ht.block b hlt hn).trans hb, r⟩
theorem ownsMap_tight (h : w.ownsMap P k R b n D) {m : Nat} (hm : Maps.size D ≤ m) : w.ownsMap P k R b m D := by
  obtain ⟨es, clock, hb, F, hs, rfl⟩ := h
  exact ⟨es, clock, hb, F, by simpa [Maps.size, length_sorted] using hm, rfl⟩
theorem mapTurned_turn {w' : World} (h : w.mapTurned w' b) : Turn [b] w w' := by
  have := h.grown
  exact ⟨this.os, this.tape, this.output, this.size, fun i hi hn => this.block i hi (fun e => hn (by cases e; simp))⟩
theorem ownsRow_turn {bs : List Nat} {base : Nat} {e : TypeId} {size : Nat} {v : Value} {m : Nat} {xs : List Value} {w' : World} (h : w.ownsRow base e size v m xs) (ht : Turn bs w w') (hn : ∀ j ∈ bs, j < base) : w'.ownsRow base e size v m xs := by
  obtain ⟨h1, h2⟩ := h
  refine ⟨h1, ?_⟩
  rcases h2 with h2 | ⟨g, cap, cur, hv, hg, hh, r⟩
  · exact .inl h2
  · exact .inr ⟨g, cap, cur, hv, hg, (ht.block g (Array.getElem?_eq_some_iff.1 hh).1 (fun e => by have := hn g e; omega)).trans hh, r⟩
end

/-- A look-up of a bool. -/
theorem look_bool {H : Type} {P : Program} {k e t : TypeId} {w : World} {b n : Nat} {D : DataW H} (h : w.ownsMap P k (plainElem P e) b n D) (K : Maps.Keyed P k) (ht : P.underlying t = some (.map k e)) (he : P.underlying e = some .bool) (hz : (zeroValue e).run P w = .ok (.bool false) w)
    {key : Value} {kl : Lit} (hkey : keyOf P k key = some kl) {x : Bool} (hx : D.atKey kl (.lit (.bool false)) = .lit (.bool x)) : (Instr.lookup t (.map (some b)) key false).run P w = .ok (.bool x) w := by
  obtain ⟨v, ps, hrun, hv⟩ := h.lookup K ht hz (plainElem_bool he false) hkey
  rw [hx] at hv
  unfold plainElem at hv
  rw [he] at hv
  cases v <;> simp at hv
  obtain ⟨rfl, rfl⟩ := hv
  exact hrun

end Go.Proofs.YtcmaclaiholpfaaDoor

/-
  A slice that is a window into a row of the program's own: cut at its front ('s = s[1:]'), lengthened at its end ('append'): its laws. Program apart.
-/
namespace Go.Proofs.YtcmaclaiholpfaaDoor
open Go.RowKit
set_option linter.unusedVariables false

/-- The slice of this address, length and capacity holds these cells, in block g; where it has no capacity there is no block. -/
def Win (w : World) (sz : Nat) (g : Option Nat) (a : Option Addr) (n c : Nat) (flat : List Value) : Prop :=
  flat.length = n * sz ∧ n ≤ c ∧ ((c = 0 ∧ g = none) ∨ ∃ gb off, g = some gb ∧ a = some ⟨gb, off, none⟩ ∧ gb < w.heap.size ∧ (∀ j, j < c * sz → (w.cell? ⟨gb, off + j, none⟩).isSome = true) ∧
    (∀ (j : Nat) v, flat[j]? = some v → w.cell? ⟨gb, off + j, none⟩ = some v) ∧ ∀ i, w.frozen? ⟨gb, i, none⟩ = false)

section
variable {w : World} {sz n c : Nat} {g : Option Nat} {a : Option Addr} {flat : List Value}

theorem Win.nil (w : World) (sz : Nat) (a : Option Addr) : Win w sz none a 0 0 [] := ⟨by simp, Nat.le_refl _, .inl ⟨rfl, rfl⟩⟩
theorem Win.turn (h : Win w sz g a n c flat) {w' : World} {bs : List Nat} (ht : Turn bs w w') (hn : ∀ k, g = some k → k ∉ bs) : Win w' sz g a n c flat := by
  obtain ⟨h1, h2, h3⟩ := h
  refine ⟨h1, h2, ?_⟩
  rcases h3 with h3 | ⟨gb, off, rfl, ha, hlt, hc, hf, hz⟩
  · exact .inl h3
  · refine .inr ⟨gb, off, rfl, ha, Nat.lt_of_lt_of_le hlt ht.size, fun j hj => ?_, fun j v hv => ?_, fun i => ?_⟩
    · rw [ht.cell (p := ⟨gb, off + j, none⟩) hlt (hn gb rfl)]; exact hc j hj
    · rw [ht.cell (p := ⟨gb, off + j, none⟩) hlt (hn gb rfl)]; exact hf j v hv
    · rw [ht.frozen (p := ⟨gb, i, none⟩) hlt (hn gb rfl)]; exact hz i
theorem Win.lt (h : Win w sz g a n c flat) : ∀ k, g = some k → k < w.heap.size := by
  intro k hk
  rcases h.2.2 with ⟨_, h3⟩ | ⟨gb, off, h3, ha, hlt, _⟩
  · rw [h3] at hk; cases hk
  · rw [h3] at hk; cases hk; exact hlt
theorem Win.some_of (h : Win w sz g a n c flat) (hn : 0 < n) : ∃ gb off, g = some gb ∧ a = some ⟨gb, off, none⟩ ∧ gb < w.heap.size ∧ (∀ j, j < c * sz → (w.cell? ⟨gb, off + j, none⟩).isSome = true) ∧
    (∀ (j : Nat) v, flat[j]? = some v → w.cell? ⟨gb, off + j, none⟩ = some v) ∧ ∀ i, w.frozen? ⟨gb, i, none⟩ = false := by
  rcases h.2.2 with ⟨h3, _⟩ | h3
  · have := h.2.1; omega
  · exact h3

theorem Turn.setCells {bs : List Nat} {b : Nat} (hb : b ∈ bs) : ∀ (vs : List Value) (o : Nat) {w0 w1 : World}, Turn bs w0 w1 → Turn bs w0 (w1.setCells b o vs)
  | [], _, _, _, h => h
  | v :: r, o, _, w1, h => by
    unfold World.setCells
    exact Turn.setCells hb r (o + 1) (h.setCell (p := ⟨b, o, none⟩) hb v)

theorem Win.of_owns {base e : Nat} {v : Value} (h : w.ownsRow base e sz v n flat) (h0 : 0 < n) : ∃ gb c', v = .slice (some ⟨gb, 0, none⟩) n c' ∧ base ≤ gb ∧ Win w sz (some gb) (some ⟨gb, 0, none⟩) n c' flat := by
  obtain ⟨h1, h2⟩ := h
  rcases h2 with ⟨_, h2⟩ | ⟨gb, cap, cur, rfl, hb, hg, hn, hm, hs, ht⟩
  · omega
  · refine ⟨gb, cap, rfl, hb, h1, hn, .inr ⟨gb, 0, rfl, rfl, (Array.getElem?_eq_some_iff.1 hg).1, fun j hj => ?_, fun j u hu => ?_, fun i => by simp [World.frozen?, hg]⟩⟩
    · rw [cell_of_row w gb _ _ _ (0, 0) hg]
      simp [hs]; exact hj
    · rw [cell_of_row w gb _ _ _ (0, 0) hg]
      rw [← ht, List.getElem?_take] at hu
      split at hu
      · simpa using hu
      · cases hu

/-- 'append' of one element. -/
theorem Win.append {P : Program} (h : Win w sz g a n c flat) (t e : TypeId) (i : TypeInfo) (z : Value) (bytes : Nat) (ht : P.underlying t = some (.slice e)) (hi : P.info? e = some i) (hz : i.zero = some z)
    (hsize : i.size = sz) (hby : i.bytes = bytes) (hby2 : bytes ≤ 64) (hzs : z.cells.size = sz) (hsz : 0 < sz)
    (ad : Addr) (cc : Nat) (news : List Value) (hl : news.length = sz) (hnews : ∀ j u, news[j]? = some u → w.cell? (ad.add j) = some u) (h1 : ∀ u ∈ news, u.oneCell' = true) (hn : n ≤ 1048576) (ha : c = 0 → a = none → True) :
    ∃ a' c' w' g', (Builtin.append_ #[t, t] t #[.slice a n c, .slice (some ad) 1 cc]).run P w = .ok (.slice a' (n + 1) c') w' ∧ Win w' sz g' a' (n + 1) c' (flat ++ news) ∧ Turn g.toList w w' ∧
      (∀ k, g' = some k → g = some k ∨ w.heap.size ≤ k) := by
  obtain ⟨hf, hnc, h3⟩ := h
  have hm1 : n + 1 ≤ maxLen := by unfold maxLen; omega
  have hb1 : (n + 1) * bytes ≤ 140737488355328 := by
    have : (n + 1) * bytes ≤ 1048577 * 64 := Nat.mul_le_mul (by omega) hby2
    omega
  by_cases hroom : n + 1 ≤ c
  · rcases h3 with ⟨h3, _⟩ | ⟨gb, off, rfl, rfl, hlt, hc, hfl, hfz⟩
    · omega
    · have hcs : (n + 1) * sz ≤ c * sz := Nat.mul_le_mul_right _ hroom
      have hcs2 : n * sz + sz ≤ c * sz := by rw [Nat.add_mul, Nat.one_mul] at hcs; exact hcs
      have hrun := run_append_room_cells (P := P) w t t e i ht hi gb off n c ad 1 cc news (by rw [hsize]; omega) hnews h1 hroom
        (fun j hj => by rw [hsize, Nat.add_assoc]; exact hc _ (by omega)) (fun j hj => hfz _)
      rw [hsize] at hrun
      refine ⟨_, _, _, some gb, hrun, ⟨by rw [List.length_append, hf, hl, Nat.add_mul, Nat.one_mul], hroom, .inr ⟨gb, off, rfl, rfl, ?_, fun j hj => ?_, fun j v hv => ?_, fun i => ?_⟩⟩, ?_, fun k hk => .inl hk⟩
      · have := (Turn.setCells (bs := [gb]) (b := gb) (by simp) news (off + n * sz) (Turn.refl [gb] w)).size
        omega
      · by_cases hj2 : off + n * sz ≤ off + j ∧ off + j < off + n * sz + news.length
        · obtain ⟨k, rfl⟩ : ∃ k, j = n * sz + k := ⟨j - n * sz, by omega⟩
          rw [← Nat.add_assoc, World.cell?_setCells_in gb news (off + n * sz) w (fun j hj => by rw [Nat.add_assoc]; exact hc _ (by omega)) k (by omega)]
          rfl
        · rw [World.cell?_setCells_out gb news _ w _ (fun _ _ => by simp only; omega)]
          exact hc j hj
      · by_cases hj2 : j < flat.length
        · rw [List.getElem?_append_left hj2] at hv
          rw [World.cell?_setCells_out gb news _ w _ (fun _ _ => by simp only; omega)]
          exact hfl j v hv
        · rw [List.getElem?_append_right (by omega)] at hv
          have hk := (List.getElem?_eq_some_iff.1 hv).1
          obtain ⟨k, rfl⟩ : ∃ k, j = n * sz + k := ⟨j - n * sz, by omega⟩
          rw [← Nat.add_assoc, World.cell?_setCells_in gb news (off + n * sz) w (fun j hj => by rw [Nat.add_assoc]; exact hc _ (by omega)) k (by omega)]
          have e1 : n * sz + k - flat.length = k := by omega
          rw [e1] at hv
          rw [← hv]
          exact (List.getElem?_eq_getElem (by omega)).symm
      · rw [World.frozen?_setCells]; exact hfz i
      · exact Turn.setCells (by simp) news _ (Turn.refl _ _)
  · have hfull : c < n + 1 := by omega
    cases a with
    | none =>
      have hc0 : c = 0 := by
        rcases h3 with ⟨h3, _⟩ | ⟨gb, off, rfl, h3, _⟩
        · exact h3
        · cases h3
      have hn0 : n = 0 := by omega
      subst hc0 hn0
      have hfe : flat = [] := List.eq_nil_of_length_eq_zero (by simpa using hf)
      subst hfe
      obtain ⟨v', w', hrun, hown, hgr, _⟩ := run_append_own (P := P) w w.heap.size t t e i z sz bytes ht hi hz hsize hby hzs hsz (.slice none 0 0) 0 [] (World.ownsRow_nil _ _ _ _) ad 1 cc news (by omega) hnews h1 hm1 hb1 (Nat.le_refl _)
      obtain ⟨gb, c', rfl, hge, hwin⟩ := Win.of_owns hown (by omega)
      exact ⟨_, _, _, _, hrun, by simpa using hwin, (Turn.refl _ _).grown hgr (fun k hk => by simp [Value.ownBlock] at hk), fun k hk => .inr (by cases hk; exact hge)⟩
    | some b =>
      have holds : ∀ j u, flat[j]? = some u → w.cell? (b.add j) = some u := by
        rcases h3 with ⟨h3, _⟩ | ⟨gb, off, rfl, h3, hlt, hc, hfl, hfz⟩
        · intro j u hu
          have := (List.getElem?_eq_some_iff.1 hu).1
          have : n = 0 := by omega
          subst this
          simp at hf
          subst hf
          simp at hu
        · cases h3
          intro j u hu
          rw [Addr.add_lit]
          exact hfl j u hu
      obtain ⟨v', w', hrun, hown, hgr⟩ := run_append_arg_grows (P := P) w t t e i z sz bytes ht hi hz hsize hby hzs hsz b n c flat hf holds ad 1 cc news (by omega) hnews hfull hm1 hb1
      obtain ⟨gb, c', rfl, hge, hwin⟩ := Win.of_owns hown (by omega)
      exact ⟨_, _, _, _, hrun, hwin, (Turn.refl _ _).grown hgr (fun k hk => by cases hk), fun k hk => .inr (by cases hk; exact hge)⟩
end

/-- The window without its first element, of one cell. -/
theorem Win.tail {w : World} {n c gb off : Nat} {v : Value} {vs : List Value} (h : Win w 1 (some gb) (some ⟨gb, off, none⟩) (n + 1) c (v :: vs)) :
    ∃ g', Win w 1 g' (if c = 1 then some ⟨gb, off, none⟩ else some ⟨gb, off + 1, none⟩) n (c - 1) vs ∧ ∀ k, g' = some k → some gb = some k := by
  obtain ⟨h1, h2, h3⟩ := h
  rcases h3 with ⟨h3, _⟩ | ⟨gb', off', he, ha, hlt, hc, hf, hz⟩
  · omega
  · cases he
    cases ha
    by_cases e : c = 1
    · subst e
      refine ⟨none, ⟨by simpa using h1, by omega, .inl ⟨rfl, rfl⟩⟩, fun k hk => by cases hk⟩
    · refine ⟨some gb, ⟨by simpa using h1, by omega, .inr ⟨gb, off + 1, rfl, by rw [if_neg e], hlt, fun j hj => ?_, fun j u hu => ?_, hz⟩⟩, fun k hk => hk⟩
      · have := hc (j + 1) (by omega)
        rwa [show off + (j + 1) = off + 1 + j by omega] at this
      · have := hf (j + 1) u (by simpa using hu)
        rwa [show off + (j + 1) = off + 1 + j by omega] at this
/-- A store over the first element, of one cell. -/
theorem Win.setHead {w : World} {n c gb off : Nat} {v x : Value} {vs : List Value} (h : Win w 1 (some gb) (some ⟨gb, off, none⟩) (n + 1) c (v :: vs)) :
    Win (w.setCell ⟨gb, off, none⟩ x) 1 (some gb) (some ⟨gb, off, none⟩) (n + 1) c (x :: vs) := by
  obtain ⟨h1, h2, h3⟩ := h
  rcases h3 with ⟨h3, _⟩ | ⟨gb', off', he, ha, hlt, hc, hf, hz⟩
  · omega
  · cases he
    cases ha
    have hh : (w.cell? ⟨gb, off, none⟩).isSome = true := by have := hc 0 (by omega); simpa using this
    refine ⟨by simpa using h1, h2, .inr ⟨gb, off, rfl, rfl, by simpa [World.setCell] using hlt, fun j hj => ?_, fun j u hu => ?_, fun i => ?_⟩⟩
    · by_cases e : j = 0
      · subst e
        simp only [Nat.add_zero]
        rw [World.cell?_setCell_same' w ⟨gb, off, none⟩ x hh]; rfl
      · rw [World.cell?_setCell_other _ _ _ _ (fun h => by have := congrArg Addr.off h; simp at this; omega)]
        exact hc j hj
    · cases j with
      | zero =>
        simp only [Nat.add_zero]
        rw [World.cell?_setCell_same' w ⟨gb, off, none⟩ x hh]
        simpa using hu
      | succ j =>
        rw [World.cell?_setCell_other _ _ _ _ (fun h => by have := congrArg Addr.off h; simp at this)]
        exact hf (j + 1) u (by simpa using hu)
    · rw [World.frozen?_setCell]; exact hz i

/-- 'append' by a known run. -/
theorem wpList_append_run {P : Program} {w : World} {ops : Array Oper} {rest : List Oper} {o : Oper} {a : Act} {Q : Exit → Act → World → Prop} (hg : o.guard = none) (s x : Operand) (t : TypeId)
    (hop : o.op = Op.call { callee := Callee.builtin Builtin.append, args := #[s, x], argTypes := #[t, t] }) (vs vx v' : Value) (w' : World) (hs : a.eval s = vs) (hx : a.eval x = vx)
    (hrun : (Builtin.append_ #[t, t] o.type #[vs, vx]).run P w = .ok v' w') (hK : wpList P ops Q rest (a.put o.dst v') w') : wpList P ops Q (o :: rest) a w := by
  refine wpList_plain hg fun K hK' => ?_
  unfold Oper.wp
  simp only [execOp, hop, resolve, invoke, builtin, Sem.run_bind, Sem.run_pure, Result.andThen_ok, List.map_toArray, List.map_cons, List.map_nil, hs, hx, hrun]
  exact hK' _ _ hK
/-- The same as a step of a region that draws ('go_region_law'). -/
theorem step_append_run {P : Program} {ops : Array Oper} {o : Oper} {a : Act} {w : World} {K : Act → World → Prop} {Q : Exit → Act → World → Prop} {E : Prop}
    (hg : o.guard = none) (s x : Operand) (t : TypeId) (hop : o.op = Op.call { callee := Callee.builtin Builtin.append, args := #[s, x], argTypes := #[t, t] }) (vs vx v' : Value) (w' : World)
    (hs : a.eval s = vs) (hx : a.eval x = vx) (hrun : (Builtin.append_ #[t, t] o.type #[vs, vx]).run P w = .ok v' w') (hK : K (a.put o.dst v') w') :
    if Region.wanted o (yielded ops a.tmps) = true then Oper.wp P o a w K Q else E := by
  have hw : Region.wanted o (yielded ops a.tmps) = true := by simp [Region.wanted, hg]
  rw [if_pos hw]
  unfold Oper.wp
  simp only [execOp, hop, resolve, invoke, builtin, Sem.run_bind, Sem.run_pure, Result.andThen_ok, List.map_toArray, List.map_cons, List.map_nil, hs, hx, hrun]
  exact hK
end Go.Proofs.YtcmaclaiholpfaaDoor

/-
  Contracts of the reference package 01: Put, Round, Pad.
-/
namespace Go.Proofs.YtcmaclaiholpfaaDoor
open Go.RowKit
set_option linter.unusedVariables false

theorem putR_no (a : Option Addr) (len cap : Nat) (n x : Int) (zs : List Int) (w : World) (hr : Reads w a len zs) (hl : len ≤ 140737488355328) (hn : sizB n = false) :
    Calls Tryd.prog 35 #[.slice a len cap, .int .u64 x, .int .i64 n] w fun e w' =>
      ∃ a' c', e = .returned (.slice a' len c') ∧ Below w.heap.size w w' ∧ Row8 w.heap.size w' a' len c' zs := by
  have hs := fun W => sizeR_any n W
  rw [hn] at hs
  have hs' := Lib.hid hs
  clear hn hs
  go_enter Tryd.func35, Tryd.ntmps35
  go_wp2_with (first
    | (go_at_call 46; refine (hs'.out _).mono ?_; rintro e w' ⟨rfl, rfl⟩)
    | (go_at_call 45; refine (copyBytes_any a len cap zs w hr hl).mono ?_; rintro e w1 ⟨a', rfl, hb1, hk1⟩))
  go_ret
  exact ⟨_, _, rfl, hb1, hk1⟩

set_option maxRecDepth 4000 in
set_option maxHeartbeats 400000 in
theorem putR_yes (a : Option Addr) (len cap n : Nat) (x : Int) (zs : List Int) (w : World) (hr : Reads w a len zs) (hl : len ≤ 70368744177664) (hx0 : 0 ≤ x) (hn : sizB (n : Int) = true) :
    Calls Tryd.prog 35 #[.slice a len cap, .int .u64 x, .int .i64 (n : Int)] w fun e w' =>
      ∃ a' c', e = .returned (.slice a' (len + n) c') ∧ Below w.heap.size w w' ∧ Row8 w.heap.size w' a' (len + n) c' (zs ++ enc x n) := by
  have hn8 : 1 ≤ n ∧ n ≤ 8 := by have := (sizB_iff n).1 hn; omega
  obtain ⟨hn1, hn8⟩ := hn8
  have hs := fun W => sizeR_any (n : Int) W
  rw [hn] at hs
  have hs' := Lib.hid hs
  clear hn hs
  obtain ⟨i0, hi0, hz0, hz1, hz2⟩ := info_parts Tryd.infoB
  go_enter Tryd.func35, Tryd.ntmps35
  go_wp2_with (first
    | (go_at_call 46; refine (hs'.out _).mono ?_; rintro e w' ⟨rfl, rfl⟩)
    | (go_at_call 45; refine (copyBytes_any a len cap zs w hr (by omega)).mono ?_; rintro e w1 ⟨a', rfl, hb1, hk1⟩))
  go_loopw [7, 8] (fun v i wr => ∃ (j : Nat) (a2 : Option Addr) (c2 : Nat), j ≤ n ∧ i = .int .i64 ((n : Int) - 1 - (j : Int)) ∧ v = .slice a2 (len + j) c2 ∧ Row8 w.heap.size wr a2 (len + j) c2 (zs ++ (enc x n).take j) ∧ Below w.heap.size w wr) (fun _ i _ => (intOf i + 1).toNat)
  case atStart => exact ⟨0, a', len, Nat.zero_le _, by simp, rfl, by simpa using hk1, hb1⟩
  case round =>
    obtain ⟨j, a2, c2, hj, rfl, rfl, hrow, hb⟩ := hrel
    by_cases hjn : j < n
    · have HB := Lib.hid hb
      have HO := Lib.hid hrow
      have HE := Lib.hid (show (enc x n).take (j + 1) = (enc x n).take j ++ [x / 256 ^ (n - 1 - j) % 256] from by
        have h1 := enc_at x n (n - 1 - j) (by omega)
        rw [show n - 1 - (n - 1 - j) = j from by omega] at h1
        rw [List.take_succ_eq_append_getElem (by simp; omega)]
        rw [List.getElem?_eq_getElem (by simp; omega)] at h1
        simp only [Option.some.injEq] at h1
        rw [h1])
      clear hrow hb hb1 hk1
      have hal : Below wr.heap.size wr (wr.alloc (.cells #[.int .u8 (x / 2 ^ (8 * (n - 1 - j)) % 256)] 5)) := (Below.refl _ _).alloc (Nat.le_refl _) _
      obtain ⟨a3, c3, W3, hrun, h3, hg3⟩ := (HO.out.keep hal).grow (Nat.le_trans HB.out.size hal.size) ⟨wr.heap.size, 0, none⟩ 1 1 [x / 2 ^ (8 * (n - 1 - j)) % 256] rfl (cell_one_new _ _ _) (by omega) (by omega)
      have HRUN := Lib.hid hrun
      have H3 := Lib.hid (And.intro h3 ((HB.out.alloc HB.out.size (.cells #[.int .u8 (x / 2 ^ (8 * (n - 1 - j)) % 256)] 5)).grown hg3 (Nat.le_trans HB.out.size hal.size) (fun g hg => ((HO.out.keep hal).lt g hg).1)))
      clear hal hrun h3 hg3
      go_wp2_with (at_builtin; refine wpList_append_run rfl (.tmp 21) (.tmp 28) 22 rfl _ _ _ _ rfl rfl HRUN.out ?_)
      refine ⟨⟨j + 1, a3, c3, by omega, congrArg (Value.int .i64) (by omega), rfl, ?_, H3.out.2⟩, by simp [intOf]; omega⟩
      rw [HE.out, ← List.append_assoc, ← pow_8, ← Nat.add_assoc]
      exact H3.out.1
    · have HB := Lib.hid hb
      have HR := Lib.hid hrow
      clear hrow hb
      go_wp2
      go_ret
      obtain rfl : j = n := by omega
      refine ⟨_, _, rfl, HB.out, ?_⟩
      have h := HR.out
      rw [List.take_of_length_le (by simp)] at h
      exact h

end Go.Proofs.YtcmaclaiholpfaaDoor

/-
  'append' of some elements onto a window, and of none. Program apart.
-/
namespace Go.Proofs.YtcmaclaiholpfaaDoor
open Go.RowKit
set_option linter.unusedVariables false
section
variable {w : World} {sz n c : Nat} {g : Option Nat} {a : Option Addr} {flat : List Value}
/-- 'append' of some elements. -/
theorem Win.appends {P : Program} (h : Win w sz g a n c flat) (t e : TypeId) (i : TypeInfo) (z : Value) (bytes : Nat) (ht : P.underlying t = some (.slice e)) (hi : P.info? e = some i) (hz : i.zero = some z)
    (hsize : i.size = sz) (hby : i.bytes = bytes) (hby2 : bytes ≤ 64) (hzs : z.cells.size = sz) (hsz : 0 < sz)
    (ad : Addr) (cc : Nat) (m : Nat) (hm0 : 0 < m) (news : List Value) (hl : news.length = m * sz) (hnews : ∀ j u, news[j]? = some u → w.cell? (ad.add j) = some u) (h1 : ∀ u ∈ news, u.oneCell' = true) (hn : n + m ≤ 1099511627776) :
    ∃ a' c' w' g', (Builtin.append_ #[t, t] t #[.slice a n c, .slice (some ad) m cc]).run P w = .ok (.slice a' (n + m) c') w' ∧ Win w' sz g' a' (n + m) c' (flat ++ news) ∧ Turn g.toList w w' ∧
      (∀ k, g' = some k → g = some k ∨ w.heap.size ≤ k) := by
  obtain ⟨hf, hnc, h3⟩ := h
  have hm1 : n + m ≤ maxLen := by unfold maxLen; omega
  have hb1 : (n + m) * bytes ≤ 140737488355328 := by
    have : (n + m) * bytes ≤ 1099511627776 * 64 := Nat.mul_le_mul hn hby2
    omega
  by_cases hroom : n + m ≤ c
  · rcases h3 with ⟨h3, _⟩ | ⟨gb, off, rfl, rfl, hlt, hc, hfl, hfz⟩
    · omega
    · have hcs : (n + m) * sz ≤ c * sz := Nat.mul_le_mul_right _ hroom
      have hcs2 : n * sz + m * sz ≤ c * sz := by rw [Nat.add_mul] at hcs; exact hcs
      have hrun := run_append_room_cells (P := P) w t t e i ht hi gb off n c ad m cc news (by rw [hsize]; omega) hnews h1 hroom
        (fun j hj => by rw [hsize, Nat.add_assoc]; exact hc _ (by omega)) (fun j hj => hfz _)
      rw [hsize] at hrun
      refine ⟨_, _, _, some gb, hrun, ⟨by rw [List.length_append, hf, hl, Nat.add_mul], hroom, .inr ⟨gb, off, rfl, rfl, ?_, fun j hj => ?_, fun j v hv => ?_, fun i => ?_⟩⟩, ?_, fun k hk => .inl hk⟩
      · have := (Turn.setCells (bs := [gb]) (b := gb) (by simp) news (off + n * sz) (Turn.refl [gb] w)).size
        omega
      · by_cases hj2 : off + n * sz ≤ off + j ∧ off + j < off + n * sz + news.length
        · obtain ⟨k, rfl⟩ : ∃ k, j = n * sz + k := ⟨j - n * sz, by omega⟩
          rw [← Nat.add_assoc, World.cell?_setCells_in gb news (off + n * sz) w (fun j hj => by rw [Nat.add_assoc]; exact hc _ (by omega)) k (by omega)]
          rfl
        · rw [World.cell?_setCells_out gb news _ w _ (fun _ _ => by simp only; omega)]
          exact hc j hj
      · by_cases hj2 : j < flat.length
        · rw [List.getElem?_append_left hj2] at hv
          rw [World.cell?_setCells_out gb news _ w _ (fun _ _ => by simp only; omega)]
          exact hfl j v hv
        · rw [List.getElem?_append_right (by omega)] at hv
          have hk := (List.getElem?_eq_some_iff.1 hv).1
          obtain ⟨k, rfl⟩ : ∃ k, j = n * sz + k := ⟨j - n * sz, by omega⟩
          rw [← Nat.add_assoc, World.cell?_setCells_in gb news (off + n * sz) w (fun j hj => by rw [Nat.add_assoc]; exact hc _ (by omega)) k (by omega)]
          have e1 : n * sz + k - flat.length = k := by omega
          rw [e1] at hv
          rw [← hv]
          exact (List.getElem?_eq_getElem (by omega)).symm
      · rw [World.frozen?_setCells]; exact hfz i
      · exact Turn.setCells (by simp) news _ (Turn.refl _ _)
  · have hfull : c < n + m := by omega
    cases a with
    | none =>
      have hc0 : c = 0 := by
        rcases h3 with ⟨h3, _⟩ | ⟨gb, off, rfl, h3, _⟩
        · exact h3
        · cases h3
      have hn0 : n = 0 := by omega
      subst hc0 hn0
      have hfe : flat = [] := List.eq_nil_of_length_eq_zero (by simpa using hf)
      subst hfe
      obtain ⟨v', w', hrun, hown, hgr, _⟩ := run_append_own (P := P) w w.heap.size t t e i z sz bytes ht hi hz hsize hby hzs hsz (.slice none 0 0) 0 [] (World.ownsRow_nil _ _ _ _) ad m cc news (by omega) hnews h1 hm1 hb1 (Nat.le_refl _)
      obtain ⟨gb, c', rfl, hge, hwin⟩ := Win.of_owns hown (by omega)
      exact ⟨_, _, _, _, hrun, by simpa using hwin, (Turn.refl _ _).grown hgr (fun k hk => by simp [Value.ownBlock] at hk), fun k hk => .inr (by cases hk; exact hge)⟩
    | some b =>
      have holds : ∀ j u, flat[j]? = some u → w.cell? (b.add j) = some u := by
        rcases h3 with ⟨h3, _⟩ | ⟨gb, off, rfl, h3, hlt, hc, hfl, hfz⟩
        · intro j u hu
          have := (List.getElem?_eq_some_iff.1 hu).1
          have : n = 0 := by omega
          subst this
          simp at hf
          subst hf
          simp at hu
        · cases h3
          intro j u hu
          rw [Addr.add_lit]
          exact hfl j u hu
      obtain ⟨v', w', hrun, hown, hgr⟩ := run_append_arg_grows (P := P) w t t e i z sz bytes ht hi hz hsize hby hzs hsz b n c flat hf holds ad m cc news (by omega) hnews hfull hm1 hb1
      obtain ⟨gb, c', rfl, hge, hwin⟩ := Win.of_owns hown (by omega)
      exact ⟨_, _, _, _, hrun, hwin, (Turn.refl _ _).grown hgr (fun k hk => by cases hk), fun k hk => .inr (by cases hk; exact hge)⟩
/-- 'append' of none. -/
theorem run_append_zero {P : Program} (w : World) (t e : TypeId) (i : TypeInfo) (ht : P.underlying t = some (.slice e)) (hi : P.info? e = some i) (a a2 : Option Addr) (n c c2 : Nat) (hn : n ≤ c) :
    (Builtin.append_ #[t, t] t #[.slice a n c, .slice a2 0 c2]).run P w = .ok (.slice a n c) w := by
  cases a <;> cases a2 <;> simp [Builtin.append_, run_underlying ht, sizeOf, typeInfo, hi, Builtin.lenOf, hn, Builtin.firstCells, loadCells, loadCellsFrom, storeCells]
end
end Go.Proofs.YtcmaclaiholpfaaDoor

/-
  'append' of bytes that came in, or of none, onto a row of the call's own.
-/
namespace Go.Proofs.YtcmaclaiholpfaaDoor
open Go.RowKit
set_option linter.unusedVariables false

/-- 'append' of bytes that came in, or of none. -/
theorem Row8.appends {base : Nat} {w : World} {a : Option Addr} {n c : Nat} {zs : List Int} (h : Row8 base w a n c zs) (hb : base ≤ w.heap.size) (b : Option Addr) (m c2 : Nat) (ys : List Int) (hr : Reads w b m ys) (hn : n + m ≤ 2199023255552) :
    ∃ a' c' W3, (Builtin.append_ #[22, 22] 22 #[.slice a n c, .slice b m c2]).run Tryd.prog w = .ok (.slice a' (n + m) c') W3 ∧
      RowKit.Hid (Row8 base W3 a' (n + m) c' (zs ++ ys) ∧ Below base w W3) := by
  obtain ⟨i0, hi0, hz⟩ := Option.map_eq_some_iff.1 Tryd.infoR
  simp only [Prod.mk.injEq] at hz
  obtain ⟨hz0, hz1, hz2⟩ := hz
  have hlen : ys.length = m := hr.1
  by_cases hm : m = 0
  · subst hm
    have hy : ys = [] := List.eq_nil_of_length_eq_zero hlen
    subst hy
    exact ⟨a, c, w, run_append_zero w _ _ i0 Tryd.underlying22 hi0 a b n c c2 h.le, Lib.hid ⟨by simpa using h, Below.refl _ _⟩⟩
  · rcases hr.2 with h0 | ⟨bk, off, rfl, hlt, hc⟩
    · omega
    · obtain ⟨a', c', W3, hrun, hrow, hg⟩ := h.grow hb ⟨bk, off, none⟩ m c2 ys hlen (fun j u hu => by
          rw [List.getElem?_map] at hu
          obtain ⟨y, hy, rfl⟩ := Option.map_eq_some_iff.1 hu
          have hj : j < m := by have := (List.getElem?_eq_some_iff.1 hy).1; omega
          rw [show (⟨bk, off, none⟩ : Addr).add j = ⟨bk, off + j, none⟩ from Addr.add_mid _ _ _, hc j hj, hy, Option.getD_some]) (by omega) (by omega)
      exact ⟨a', c', W3, hrun, Lib.hid ⟨hrow, hg.os, hg.tape, hg.output, hg.size, fun k hk => hg.block k (by omega) (fun e => by have := (h.lt k e.symm).1; omega)⟩⟩
/-- 'append' of bytes onto a full row. -/
theorem blk_appends {w : World} {g l : Nat} {zs : List Int} (h : Blk w g zs) (hl : zs.length = l) (b : Option Addr) (m c2 : Nat) (ys : List Int) (hr : Reads w b m ys) (hn : l + m ≤ 1099511627776) :
    ∃ a' c' W3, (Builtin.append_ #[22, 22] 22 #[.slice (some ⟨g, 0, none⟩) l l, .slice b m c2]).run Tryd.prog w = .ok (.slice a' (l + m) c') W3 ∧
      RowKit.Hid (Reads W3 a' (l + m) (zs ++ ys) ∧ l + m ≤ c' ∧ Turn [g] w W3) := by
  obtain ⟨i0, hi0, hz⟩ := Option.map_eq_some_iff.1 Tryd.infoR
  simp only [Prod.mk.injEq] at hz
  obtain ⟨hz0, hz1, hz2⟩ := hz
  have hrow0 : Row8 0 w (some ⟨g, 0, none⟩) l l zs := Row8.of_blk h (Nat.zero_le _) hl.symm (by unfold maxLen; omega)
  have hlen : ys.length = m := hr.1
  by_cases hm : m = 0
  · subst hm
    have hy : ys = [] := List.eq_nil_of_length_eq_zero hlen
    subst hy
    exact ⟨_, l, w, run_append_zero w _ _ i0 Tryd.underlying22 hi0 _ b l l c2 (Nat.le_refl _), Lib.hid ⟨by simpa using hrow0.reads, Nat.le_refl _, Turn.refl _ _⟩⟩
  · rcases hr.2 with h0 | ⟨bk, off, rfl, hlt, hc⟩
    · omega
    · obtain ⟨a', c', W3, hrun, hrow, hg⟩ := hrow0.grow (Nat.zero_le _) ⟨bk, off, none⟩ m c2 ys hlen (fun j u hu => by
          rw [List.getElem?_map] at hu
          obtain ⟨y, hy, rfl⟩ := Option.map_eq_some_iff.1 hu
          have hj : j < m := by have := (List.getElem?_eq_some_iff.1 hy).1; omega
          rw [show (⟨bk, off, none⟩ : Addr).add j = ⟨bk, off + j, none⟩ from Addr.add_mid _ _ _, hc j hj, hy, Option.getD_some]) (by omega) (by omega)
      refine ⟨a', c', W3, hrun, Lib.hid ⟨hrow.reads, hrow.le, (Turn.refl _ _).grown hg (fun k hk => ?_)⟩⟩
      simp [Value.ownBlock] at hk
      subst hk
      exact .inl (by simp)
end Go.Proofs.YtcmaclaiholpfaaDoor

/-
  What every statement's frame leans on: the program's two closed facts; what a slice of integers that came in is.
-/
namespace Go.Proofs.YtcmaclaiholpfaaDoor
open Go.RowKit
set_option linter.unusedVariables false

theorem own : ownKnob Tryd.prog.godebug = none := by kernel_rfl
theorem laidOut : laidOutB Tryd.prog = true := by kernel_rfl

/-- A slice of integers that came in: nil; or it leads to a row of 'cap' cells. -/
def IsRow (k : IntKind) (w : World) (a : Option Addr) (len cap : Nat) (zs : List Int) : Prop :=
  (a = none ∧ len = 0 ∧ cap = 0 ∧ zs = []) ∨
  ∃ x, a = some x ∧ len ≤ cap ∧ cap ≤ maxLen ∧ zs.length = cap ∧ (∀ i, i < zs.length → w.cell? (x.add i) = some (.int k (zs.getD i 0))) ∧ ∀ n ∈ zs, (Lit.int k n).wf = true

theorem IsRow.reads {w : World} {a : Option Addr} {len cap : Nat} {zs : List Int} (h : IsRow .u8 w a len cap zs) : Reads w a len (zs.take len) ∧ Byt (zs.take len) ∧ len ≤ cap ∧ cap ≤ maxLen := by
  rcases h with ⟨rfl, rfl, rfl, rfl⟩ | ⟨x, rfl, hl, hm, hz, hc, hw⟩
  · exact ⟨⟨rfl, .inl rfl⟩, by intro z hz; simp at hz, Nat.le_refl _, Nat.zero_le _⟩
  · refine ⟨⟨by simp; omega, ?_⟩, ?_, hl, hm⟩
    · by_cases h0 : len = 0
      · exact .inl h0
      · have h1 := hc 0 (by omega)
        obtain ⟨b, off, spot⟩ := x
        have hspot : spot = none := by simpa [Addr.add] using World.cell?_spot h1
        subst hspot
        refine .inr ⟨b, off, rfl, World.block_lt_of_cell? w _ h1, fun i hi => ?_⟩
        have h2 := hc i (by omega)
        have hadd : (⟨b, off, none⟩ : Addr).add i = ⟨b, off + i, none⟩ := by unfold Addr.add; split <;> simp_all
        rw [hadd] at h2
        rw [h2]
        simp [List.getD_eq_getElem?_getD, hi]
    · intro z hz
      have h1 := hw z (List.mem_of_mem_take hz)
      simp [Lit.wf, IntKind.min, IntKind.max, IntKind.signed, IntKind.bits] at h1
      omega

theorem wf_i64_in {n : Int} (h : (Lit.int .i64 n).wf = true) : -9223372036854775808 ≤ n ∧ n ≤ 9223372036854775807 := by
  simp [Lit.wf, IntKind.min, IntKind.max, IntKind.signed, IntKind.bits] at h; omega
theorem wf_u64_in {n : Int} (h : (Lit.int .u64 n).wf = true) : 0 ≤ n ∧ n ≤ 18446744073709551615 := by
  simp [Lit.wf, IntKind.min, IntKind.max, IntKind.signed, IntKind.bits] at h; omega
theorem wf_u32_in {n : Int} (h : (Lit.int .u32 n).wf = true) : 0 ≤ n ∧ n ≤ 4294967295 := by
  simp [Lit.wf, IntKind.min, IntKind.max, IntKind.signed, IntKind.bits] at h; omega
theorem wf_u16_in {n : Int} (h : (Lit.int .u16 n).wf = true) : 0 ≤ n ∧ n ≤ 65535 := by
  simp [Lit.wf, IntKind.min, IntKind.max, IntKind.signed, IntKind.bits] at h; omega
theorem wf_u8_in {n : Int} (h : (Lit.int .u8 n).wf = true) : 0 ≤ n ∧ n ≤ 255 := by
  simp [Lit.wf, IntKind.min, IntKind.max, IntKind.signed, IntKind.bits] at h; omega
theorem wf_i32_in {n : Int} (h : (Lit.int .i32 n).wf = true) : -2147483648 ≤ n ∧ n ≤ 2147483647 := by
  simp [Lit.wf, IntKind.min, IntKind.max, IntKind.signed, IntKind.bits] at h; omega
end Go.Proofs.YtcmaclaiholpfaaDoor

/-
  A region that draws its order, whose operations' values hang on no order: each operation looked at once, with the values of those that it waits for; what is done to the world by a word on worlds of your own. Guards that are false, too. Program apart.
-/
namespace Go.Proofs.YtcmaclaiholpfaaDoor.Vals
open Go.RowKit
set_option linter.unusedVariables false

theorem count_set_lt (l : List Bool) (i : Nat) (h : l[i]? = some false) : (l.set i true).count false + 1 = l.count false := by
  induction l generalizing i with
  | nil => simp at h
  | cons x l ih =>
    cases i with
    | zero => simp at h; subst h; simp
    | succ i =>
      simp at h
      have := ih i h
      simp [List.count_cons]
      omega

theorem nodup_inj {l : List Nat} (h : l.Nodup) (i j : Nat) (hi : i < l.length) (hj : j < l.length) (e : l[i] = l[j]) : i = j := by
  rcases Nat.lt_trichotomy i j with hlt | heq | hgt
  · exact absurd e (List.pairwise_iff_getElem.1 h i j hi hj hlt)
  · exact heq
  · exact absurd e.symm (List.pairwise_iff_getElem.1 h j i hj hi hgt)
theorem eval_tmp (a : Act) (t : Nat) : a.eval (.tmp t) = a.tmps[t]?.getD undef := by simp [Act.eval]
theorem eval_put_self (a : Act) (d : Nat) (v : Value) (h : d < a.tmps.size) : (a.put (some d) v).eval (.tmp d) = v := by
  simp [Act.eval, Act.put, h]
theorem eval_put_far (a : Act) (d t : Nat) (v : Value) (h : t ≠ d) : (a.put (some d) v).eval (.tmp t) = a.eval (.tmp t) :=
  Act.eval_put (fun d' h1 h2 => h ((Operand.tmp.inj h2).trans (Option.some.inj h1).symm))

/-- The act with all these laid into it. -/
def puts (L : List (Nat × Value)) (a : Act) : Act := L.foldl (fun a p => a.put (some p.1) p.2) a
theorem puts_size (L : List (Nat × Value)) (a : Act) : (puts L a).tmps.size = a.tmps.size := by
  unfold puts
  induction L generalizing a with
  | nil => rfl
  | cons p L ih => rw [List.foldl_cons, ih]; simp [Act.put]
theorem puts_defers (L : List (Nat × Value)) (a : Act) : (puts L a).defers = a.defers := by
  unfold puts
  induction L generalizing a with
  | nil => rfl
  | cons p L ih => rw [List.foldl_cons, ih]; rfl
theorem puts_far (L : List (Nat × Value)) (a : Act) (t : Nat) (h : t ∉ L.map (·.1)) : (puts L a).eval (.tmp t) = a.eval (.tmp t) := by
  unfold puts
  induction L generalizing a with
  | nil => rfl
  | cons p L ih =>
    simp at h
    rw [List.foldl_cons, ih _ (by simp; exact h.2), eval_put_far _ _ _ _ h.1]
theorem puts_in (L : List (Nat × Value)) (a : Act) (hn : (L.map (·.1)).Nodup) (hs : ∀ p ∈ L, p.1 < a.tmps.size) (p : Nat × Value) (hp : p ∈ L) : (puts L a).eval (.tmp p.1) = p.2 := by
  unfold puts
  induction L generalizing a with
  | nil => cases hp
  | cons q L ih =>
    rw [List.map_cons, List.nodup_cons] at hn
    rw [List.foldl_cons]
    rcases List.mem_cons.1 hp with rfl | hp
    · have := puts_far L (a.put (some p.1) p.2) p.1 hn.1
      unfold puts at this
      rw [this, eval_put_self _ _ _ (hs p (by simp))]
    · exact ih _ hn.2 (fun r hr => by have := hs r (by simp [hr]); simpa [Act.put] using this) hp
theorem act_ext {a b : Act} (hs : a.tmps.size = b.tmps.size) (hd : a.defers = b.defers) (h : ∀ t, t < b.tmps.size → a.eval (.tmp t) = b.eval (.tmp t)) : a = b := by
  obtain ⟨ta, da⟩ := a
  obtain ⟨tb, db⟩ := b
  simp only at hs hd
  subst hd
  congr 1
  refine Array.ext hs fun t h1 h2 => ?_
  have := h t h2
  simp only [eval_tmp] at this
  simpa [h1, h2] using this

section
variable {P : Program} {md : Region.Mode} {ops : Array Oper} {Q : Exit → Act → World → Prop}

theorem all_listed {listed : Array Bool} (hs : listed.size = ops.size) (hacyc : ∀ (i : Nat) o, ops[i]? = some o → ∀ e ∈ o.after, Region.binds md e = true → e.on < i) (hr : Region.ready md ops listed = []) :
    ∀ i, i < ops.size → listed.getD i false = true := by
  intro i
  induction i using Nat.strongRecOn with
  | ind i ih =>
    intro hi
    cases hl : listed.getD i false with
    | true => rfl
    | false =>
      exfalso
      have hm : i ∈ Region.ready md ops listed := by
        rw [mem_ready]
        refine ⟨?_, ops[i], by simp [hi], fun e he hb => ih e.on (hacyc i _ (by simp [hi]) e he hb) (Nat.lt_trans (hacyc i _ (by simp [hi]) e he hb) hi)⟩
        have h2 : i < listed.size := by omega
        simp [h2] at hl ⊢
        exact hl
      rw [hr] at hm
      cases hm

theorem wpAny_inv (I : Array Bool → Act → World → Prop) (hacyc : ∀ (i : Nat) o, ops[i]? = some o → ∀ e ∈ o.after, Region.binds md e = true → e.on < i)
    (step : ∀ listed a w (i : Nat) o, I listed a w → listed.size = ops.size → ops[i]? = some o → (∀ e ∈ o.after, Region.binds md e = true → listed.getD e.on false = true) → wpOp P ops Q i (I (listed.setIfInBounds i true)) a w)
    (fin : ∀ listed a w, I listed a w → (∀ i, i < ops.size → listed.getD i false = true) → Q .normal a w) :
    ∀ (fuel : Nat) (listed : Array Bool) (a : Act) (w : World), listed.size = ops.size → listed.toList.count false ≤ fuel → I listed a w → wpAny P md ops Q fuel listed a w := by
  intro fuel
  induction fuel with
  | zero =>
    intro listed a w hs hc hI
    have hall : ∀ i, i < ops.size → listed.getD i false = true := by
      intro i hi
      cases hl : listed.getD i false with
      | true => rfl
      | false =>
        exfalso
        have h2 : i < listed.size := by omega
        have h3 : (false : Bool) ∈ listed.toList := by
          simp [h2] at hl
          rw [← hl]
          simp
        have := List.count_pos_iff.2 h3
        omega
    refine ⟨?_, fin listed a w hI hall⟩
    cases hr : Region.ready md ops listed with
    | nil => rfl
    | cons i rest =>
      exfalso
      have hm : i ∈ Region.ready md ops listed := by rw [hr]; simp
      obtain ⟨h0, o, ho, _⟩ := mem_ready.1 hm
      have hi : i < ops.size := (Array.getElem?_eq_some_iff.1 ho).1
      have h1 := hall i hi
      have h2 : i < listed.size := by omega
      simp [h2] at h0 h1
      rw [h0] at h1
      cases h1
  | succ fuel ih =>
    intro listed a w hs hc hI
    refine ⟨fun hr => fin listed a w hI (all_listed hs hacyc hr), fun i hi => ?_⟩
    obtain ⟨h0, o, ho, hd⟩ := mem_ready.1 hi
    have hlt : i < ops.size := (Array.getElem?_eq_some_iff.1 ho).1
    have h2 : i < listed.size := by omega
    refine wpOp_mono (fun a' w' hI' => ih _ a' w' (by simp [hs]) ?_ hI') (step listed a w i o hI hs ho hd)
    have h3 : listed.toList[i]? = some false := by
      simp [h2] at h0
      simp [h2, h0]
    have := count_set_lt _ _ h3
    simp
    omega

/-- Each operation comes behind those that it waits for. -/
def acycB (md : Region.Mode) (ops : Array Oper) : Bool := (List.range ops.size).all fun i => match ops[i]? with
  | some o => o.after.all fun e => !Region.binds md e || decide (e.on < i)
  | none => true
theorem acycB_spec (h : acycB md ops = true) : ∀ (i : Nat) o, ops[i]? = some o → ∀ e ∈ o.after, Region.binds md e = true → e.on < i := by
  intro i o ho e he hb
  unfold acycB at h
  have h1 := List.all_eq_true.1 h i (List.mem_range.2 (Array.getElem?_eq_some_iff.1 ho).1)
  simp only [ho] at h1
  have h2 := Array.all_eq_true_iff_forall_mem.1 h1 e he
  simpa [hb] using h2
/-- The operations write these slots, in their order. -/
def dstsB (ops : Array Oper) (ds : List Nat) (n : Nat) : Bool := decide (ops.toList.map (·.dst) = ds.map some) && ds.all (fun d => decide (d < n))

theorem wpAny_vals (L : List (Nat × Value)) (ds : List Nat) (n : Nat) (I : World → Prop) (a0 : Act) (w0 : World) (hn : a0.tmps.size = n)
    (hacyc : acycB md ops = true) (hds : L.map (·.1) = ds) (hdst : dstsB ops ds n = true) (hnd : ds.Nodup)
    (step : ∀ (i : Nat) o p, ops[i]? = some o → L[i]? = some p → ∀ a w, I w → a.defers = a0.defers →
      (∀ e ∈ o.after, Region.binds md e = true → ∀ q, L[e.on]? = some q → a.eval (.tmp q.1) = q.2) → (∀ t, t ∉ ds → a.eval (.tmp t) = a0.eval (.tmp t)) →
      ∀ K : Act → World → Prop, (∀ w', I w' → K (a.put o.dst p.2) w') → wpOp P ops Q i K a w)
    (fin : ∀ w', I w' → Q .normal (puts L a0) w') (h0 : I w0) :
    wpAny P md ops Q ops.size (Array.replicate ops.size false) a0 w0 := by
  subst hds
  unfold dstsB at hdst
  rw [Bool.and_eq_true, decide_eq_true_eq] at hdst
  obtain ⟨hd1, hd2⟩ := hdst
  have hlen : L.length = ops.size := by
    have := congrArg List.length hd1
    simpa using this.symm
  have hsz : ∀ p ∈ L, p.1 < n := fun p hp => by
    have := List.all_eq_true.1 hd2 p.1 (List.mem_map.2 ⟨p, hp, rfl⟩)
    simpa using this
  have hop : ∀ (i : Nat) o p, ops[i]? = some o → L[i]? = some p → o.dst = some p.1 := by
    intro i o p ho hp
    have h1 : (ops.toList.map (·.dst))[i]? = some o.dst := by simp [ho]
    have h2 : ((L.map (·.1)).map some)[i]? = some (some p.1) := by simp [hp]
    rw [hd1, h2] at h1
    exact (Option.some.inj h1).symm
  have hdist : ∀ (i j : Nat) p q, L[i]? = some p → L[j]? = some q → p.1 = q.1 → i = j := by
    intro i j p q hi hj h
    have h1 : i < (L.map (·.1)).length := by have := (List.getElem?_eq_some_iff.1 hi).1; simpa using this
    have h2 : j < (L.map (·.1)).length := by have := (List.getElem?_eq_some_iff.1 hj).1; simpa using this
    refine nodup_inj hnd i j h1 h2 ?_
    have e1 : L[i]'(by simpa using h1) = p := (List.getElem?_eq_some_iff.1 hi).2
    have e2 : L[j]'(by simpa using h2) = q := (List.getElem?_eq_some_iff.1 hj).2
    simp [e1, e2, h]
  refine wpAny_inv (fun listed a w => I w ∧ a.tmps.size = n ∧ a.defers = a0.defers ∧ (∀ t, t ∉ L.map (·.1) → a.eval (.tmp t) = a0.eval (.tmp t)) ∧ ∀ (i : Nat) p, L[i]? = some p → listed.getD i false = true → a.eval (.tmp p.1) = p.2) (acycB_spec hacyc) ?_ ?_ _ _ _ _ (by simp) (by simp) ⟨h0, hn, rfl, fun t _ => rfl, fun i p hp h => ?_⟩
  · rintro listed a w i o ⟨hI, hs, hdf, hfr, hg⟩ hls ho hdeps
    have hi : i < ops.size := (Array.getElem?_eq_some_iff.1 ho).1
    have hp : L[i]? = some (L[i]'(by omega)) := List.getElem?_eq_getElem (by omega)
    generalize L[i]'(by omega) = p at hp
    have hmem : p ∈ L := List.mem_of_getElem? hp
    refine step i o p ho hp a w hI hdf (fun e he hb q hq => hg e.on q hq (hdeps e he hb)) hfr _ ?_
    intro w' hI'
    rw [hop i o p ho hp]
    refine ⟨hI', by simpa [Act.put] using hs, hdf, fun t ht => ?_, fun j q hj hlj => ?_⟩
    · rw [eval_put_far _ _ _ _ (fun e => ht (List.mem_map.2 ⟨p, hmem, e.symm⟩))]
      exact hfr t ht
    · by_cases e : j = i
      · subst e
        rw [hp] at hj
        cases hj
        exact eval_put_self _ _ _ (by have := hsz p hmem; omega)
      · rw [eval_put_far _ _ _ _ (fun e' => e (hdist j i q p hj hp e'))]
        refine hg j q hj ?_
        rwa [getD_set_ne false (fun h => e h.symm)] at hlj
  · rintro listed a w ⟨hI, hs, hdf, hfr, hg⟩ hall
    have : a = puts L a0 := by
      refine act_ext (by rw [puts_size, hs, hn]) (by rw [puts_defers, hdf]) (fun t ht => ?_)
      by_cases hm : t ∈ L.map (·.1)
      · obtain ⟨p, hp, rfl⟩ := List.mem_map.1 hm
        rw [puts_in L a0 hnd (fun q hq => by have := hsz q hq; omega) p hp]
        obtain ⟨i, hi⟩ := List.mem_iff_getElem?.1 hp
        exact hg i p hi (hall i (by have := (List.getElem?_eq_some_iff.1 hi).1; omega))
      · rw [puts_far L a0 t hm]
        exact hfr t hm
    rw [this]
    exact fin w hI
  · have : i < ops.size := by have := (List.getElem?_eq_some_iff.1 hp).1; omega
    simp [this] at h

theorem wpOp_run {i : Nat} {o : Oper} {a : Act} {w : World} {K : Act → World → Prop} (ho : ops[i]? = some o) (hw : Region.wanted o (yielded ops a.tmps) = true) (h : o.wp P a w K Q) : wpOp P ops Q i K a w := by
  unfold wpOp
  simp only [ho]
  rw [if_pos hw]
  exact .inl h
theorem wpOp_skip {i : Nat} {o : Oper} {a : Act} {w : World} {K : Act → World → Prop} (ho : ops[i]? = some o) (hw : Region.wanted o (yielded ops a.tmps) = false) (h : K (a.put o.dst undef) w) : wpOp P ops Q i K a w := by
  unfold wpOp
  simp only [ho]
  rw [hw]
  exact h
theorem yielded_of {a : Act} {j d : Nat} {b : Bool} (hj : (ops[j]?).bind (·.dst) = some d) (h : a.eval (.tmp d) = .bool b) : yielded ops a.tmps j = some b := by
  unfold yielded
  rw [hj]
  simp only [Act.eval] at h
  cases ht : a.tmps[d]? with
  | none => simp [ht, undef] at h
  | some v =>
    simp [ht] at h
    subst h
    simp [ht]
end
end Go.Proofs.YtcmaclaiholpfaaDoor.Vals

/-
  A region that draws its order, whose operations' values hang on no order, some of which write no slot (stores); what is so of the world hangs on which operations have run. Program apart.
-/
namespace Go.Proofs.YtcmaclaiholpfaaDoor.Vals
open Go.RowKit
set_option linter.unusedVariables false
section
variable {P : Program} {md : Region.Mode} {ops : Array Oper} {Q : Exit → Act → World → Prop}

/-- The operations write these slots, or none, in their order. -/
def dstsW (ops : Array Oper) (ds : List (Option Nat)) (n : Nat) : Bool := decide (ops.toList.map (·.dst) = ds) && ds.all (fun d => match d with | some d => decide (d < n) | none => true)

theorem put_none (a : Act) (v : Value) : a.put none v = a := rfl

theorem wpAny_valsW (L : List (Option (Nat × Value))) (ds : List (Option Nat)) (n : Nat) (I : Array Bool → World → Prop) (a0 : Act) (w0 : World) (hn : a0.tmps.size = n)
    (hacyc : acycB md ops = true) (hds : L.map (Option.map (·.1)) = ds) (hdst : dstsW ops ds n = true) (hnd : (ds.filterMap id).Nodup)
    (step : ∀ (i : Nat) o p, ops[i]? = some o → L[i]? = some p → ∀ listed a w, listed.size = ops.size → I listed w → a.defers = a0.defers →
      (∀ e ∈ o.after, Region.binds md e = true → listed.getD e.on false = true ∧ ∀ q, L[e.on]? = some (some q) → a.eval (.tmp q.1) = q.2) → (∀ t, some t ∉ ds → a.eval (.tmp t) = a0.eval (.tmp t)) →
      ∀ K : Act → World → Prop, (∀ w', I (listed.setIfInBounds i true) w' → K (a.put o.dst ((p.map (·.2)).getD undef)) w') → wpOp P ops Q i K a w)
    (fin : ∀ listed w', (∀ i, i < ops.size → listed.getD i false = true) → I listed w' → Q .normal (puts (L.filterMap id) a0) w') (h0 : I (Array.replicate ops.size false) w0) :
    wpAny P md ops Q ops.size (Array.replicate ops.size false) a0 w0 := by
  subst hds
  unfold dstsW at hdst
  rw [Bool.and_eq_true, decide_eq_true_eq] at hdst
  obtain ⟨hd1, hd2⟩ := hdst
  have hlen : L.length = ops.size := by
    have := congrArg List.length hd1
    simpa using this.symm
  have hfm : (L.map (Option.map (·.1))).filterMap id = (L.filterMap id).map (·.1) := by
    rw [List.filterMap_map, List.map_filterMap]
    rfl
  rw [hfm] at hnd
  have hsz : ∀ p ∈ L.filterMap id, p.1 < n := fun p hp => by
    obtain ⟨x, hx, e⟩ := List.mem_filterMap.1 hp
    have := List.all_eq_true.1 hd2 (x.map (·.1)) (List.mem_map.2 ⟨x, hx, rfl⟩)
    simp only [id] at e
    subst e
    simpa using this
  have hop : ∀ (i : Nat) o p, ops[i]? = some o → L[i]? = some p → o.dst = p.map (·.1) := by
    intro i o p ho hp
    have h1 : (ops.toList.map (·.dst))[i]? = some o.dst := by simp [ho]
    have h2 : (L.map (Option.map (·.1)))[i]? = some (p.map (·.1)) := by simp [hp]
    rw [hd1, h2] at h1
    exact (Option.some.inj h1).symm
  have hmemds : ∀ t, some t ∉ L.map (Option.map (·.1)) → t ∉ (L.filterMap id).map (·.1) := by
    intro t ht hm
    obtain ⟨p, hp, rfl⟩ := List.mem_map.1 hm
    obtain ⟨x, hx, e⟩ := List.mem_filterMap.1 hp
    simp only [id] at e
    subst e
    exact ht (List.mem_map.2 ⟨some p, hx, rfl⟩)
  have hdist : ∀ (i j : Nat) p q, L[i]? = some (some p) → L[j]? = some (some q) → p.1 = q.1 → i = j := by
    have key : ∀ (M : List (Option (Nat × Value))), ((M.filterMap id).map (·.1)).Nodup → ∀ (i j : Nat) p q, M[i]? = some (some p) → M[j]? = some (some q) → p.1 = q.1 → i = j := by
      intro M
      induction M with
      | nil => intro _ i j p q h; simp at h
      | cons x M ih =>
        intro hN i j p q hi hj he
        have hin : ∀ (k : Nat) r, M[k]? = some (some r) → r.1 ∈ (M.filterMap id).map (·.1) := fun k r h => List.mem_map.2 ⟨r, List.mem_filterMap.2 ⟨some r, List.mem_of_getElem? h, rfl⟩, rfl⟩
        cases x with
        | none =>
          simp only [List.filterMap_cons, id] at hN
          cases i with
          | zero => simp at hi
          | succ i =>
            cases j with
            | zero => simp at hj
            | succ j => rw [ih hN i j p q (by simpa using hi) (by simpa using hj) he]
        | some y =>
          simp only [List.filterMap_cons, id, List.map_cons, List.nodup_cons] at hN
          cases i with
          | zero =>
            cases j with
            | zero => rfl
            | succ j =>
              simp at hi
              subst hi
              exact absurd (he ▸ hin j q (by simpa using hj)) hN.1
          | succ i =>
            cases j with
            | zero =>
              simp at hj
              subst hj
              exact absurd (he ▸ hin i p (by simpa using hi)) hN.1
            | succ j => rw [ih hN.2 i j p q (by simpa using hi) (by simpa using hj) he]
    exact key L hnd
  refine wpAny_inv (fun listed a w => I listed w ∧ a.tmps.size = n ∧ a.defers = a0.defers ∧ (∀ t, some t ∉ L.map (Option.map (·.1)) → a.eval (.tmp t) = a0.eval (.tmp t)) ∧ ∀ (i : Nat) p, L[i]? = some (some p) → listed.getD i false = true → a.eval (.tmp p.1) = p.2) (acycB_spec hacyc) ?_ ?_ _ _ _ _ (by simp) (by simp) ⟨h0, hn, rfl, fun t _ => rfl, fun i p hp h => ?_⟩
  · rintro listed a w i o ⟨hI, hs, hdf, hfr, hg⟩ hls ho hdeps
    have hi : i < ops.size := (Array.getElem?_eq_some_iff.1 ho).1
    have hp : L[i]? = some (L[i]'(by omega)) := List.getElem?_eq_getElem (by omega)
    generalize L[i]'(by omega) = p at hp
    have hmem : p ∈ L := List.mem_of_getElem? hp
    refine step i o p ho hp listed a w hls hI hdf (fun e he hb => ⟨hdeps e he hb, fun q hq => hg e.on q hq (hdeps e he hb)⟩) hfr _ ?_
    intro w' hI'
    rw [hop i o p ho hp]
    cases p with
    | none =>
      refine ⟨hI', hs, hdf, hfr, fun j q hj hlj => ?_⟩
      have hji : j ≠ i := fun e => by subst e; rw [hp] at hj; cases hj
      refine hg j q hj ?_
      rwa [getD_set_ne false (fun h => hji h.symm)] at hlj
    | some p =>
      have hmem2 : p ∈ L.filterMap id := List.mem_filterMap.2 ⟨some p, hmem, rfl⟩
      refine ⟨hI', by simpa [Act.put] using hs, hdf, fun t ht => ?_, fun j q hj hlj => ?_⟩
      · show (a.put (some p.1) p.2).eval (.tmp t) = _
        rw [eval_put_far _ _ _ _ (fun e => ht (List.mem_map.2 ⟨some p, hmem, by rw [e]; rfl⟩))]
        exact hfr t ht
      · show (a.put (some p.1) p.2).eval (.tmp q.1) = _
        by_cases e : j = i
        · subst e
          rw [hp] at hj
          cases hj
          exact eval_put_self _ _ _ (by have := hsz p hmem2; omega)
        · rw [eval_put_far _ _ _ _ (fun e' => e (hdist j i q p hj hp e'))]
          refine hg j q hj ?_
          rwa [getD_set_ne false (fun h => e h.symm)] at hlj
  · rintro listed a w ⟨hI, hs, hdf, hfr, hg⟩ hall
    have : a = puts (L.filterMap id) a0 := by
      refine act_ext (by rw [puts_size, hs, hn]) (by rw [puts_defers, hdf]) (fun t ht => ?_)
      by_cases hm : some t ∈ L.map (Option.map (·.1))
      · obtain ⟨x, hx, e⟩ := List.mem_map.1 hm
        cases x with
        | none => cases e
        | some p =>
          obtain rfl : p.1 = t := Option.some.inj e
          rw [puts_in _ a0 hnd (fun q hq => by have := hsz q hq; omega) p (List.mem_filterMap.2 ⟨some p, hx, rfl⟩)]
          obtain ⟨i, hi⟩ := List.mem_iff_getElem?.1 hx
          exact hg i p hi (hall i (by have := (List.getElem?_eq_some_iff.1 hi).1; omega))
      · rw [puts_far _ a0 t (hmemds t hm)]
        exact hfr t hm
    rw [this]
    exact fin listed w hall hI
  · have : i < ops.size := by have := (List.getElem?_eq_some_iff.1 hp).1; omega
    simp [this] at h

/-- The last operation, that writes no slot: all others have run when those that it waits for have. -/
theorem getD_set_last {l : Array Bool} {i : Nat} (h : i < l.size) : (l.setIfInBounds i true).getD i false = true := by simp [h]
theorem getD_set_other {l : Array Bool} {i j : Nat} (h : i ≠ j) : (l.setIfInBounds i true).getD j false = l.getD j false := getD_set_ne false h
end
end Go.Proofs.YtcmaclaiholpfaaDoor.Vals

/-
  A region that draws its order, by what each of its operations leaves behind in its slot (good values, not one value): new memory may be made in whatever order. 'wpAny_goodW': what is so of the world may hang on which operations have run, and that the one that runs has not is told. 'wpAny_goodLast': the last operation (a store, say) waits for all others: it is walked by itself. Program apart.
-/
namespace Go.Proofs.YtcmaclaiholpfaaDoor.Vals
open Go.RowKit
set_option linter.unusedVariables false
section
variable {P : Program} {md : Region.Mode} {ops : Array Oper} {Q : Exit → Act → World → Prop}

theorem wpAny_inv2 (I : Array Bool → Act → World → Prop) (hacyc : ∀ (i : Nat) o, ops[i]? = some o → ∀ e ∈ o.after, Region.binds md e = true → e.on < i)
    (step : ∀ listed a w (i : Nat) o, I listed a w → listed.size = ops.size → listed.getD i true = false → ops[i]? = some o → (∀ e ∈ o.after, Region.binds md e = true → listed.getD e.on false = true) → wpOp P ops Q i (I (listed.setIfInBounds i true)) a w)
    (fin : ∀ listed a w, I listed a w → (∀ i, i < ops.size → listed.getD i false = true) → Q .normal a w) :
    ∀ (fuel : Nat) (listed : Array Bool) (a : Act) (w : World), listed.size = ops.size → listed.toList.count false ≤ fuel → I listed a w → wpAny P md ops Q fuel listed a w := by
  intro fuel
  induction fuel with
  | zero =>
    intro listed a w hs hc hI
    have hall : ∀ i, i < ops.size → listed.getD i false = true := by
      intro i hi
      cases hl : listed.getD i false with
      | true => rfl
      | false =>
        exfalso
        have h2 : i < listed.size := by omega
        have h3 : (false : Bool) ∈ listed.toList := by
          simp [h2] at hl
          rw [← hl]
          simp
        have := List.count_pos_iff.2 h3
        omega
    refine ⟨?_, fin listed a w hI hall⟩
    cases hr : Region.ready md ops listed with
    | nil => rfl
    | cons i rest =>
      exfalso
      have hm : i ∈ Region.ready md ops listed := by rw [hr]; simp
      obtain ⟨h0, o, ho, _⟩ := mem_ready.1 hm
      have hi : i < ops.size := (Array.getElem?_eq_some_iff.1 ho).1
      have h1 := hall i hi
      have h2 : i < listed.size := by omega
      simp [h2] at h0 h1
      rw [h0] at h1
      cases h1
  | succ fuel ih =>
    intro listed a w hs hc hI
    refine ⟨fun hr => fin listed a w hI (all_listed hs hacyc hr), fun i hi => ?_⟩
    obtain ⟨h0, o, ho, hd⟩ := mem_ready.1 hi
    have hlt : i < ops.size := (Array.getElem?_eq_some_iff.1 ho).1
    have h2 : i < listed.size := by omega
    refine wpOp_mono (fun a' w' hI' => ih _ a' w' (by simp [hs]) ?_ hI') (step listed a w i o hI hs h0 ho hd)
    have h3 : listed.toList[i]? = some false := by
      simp [h2] at h0
      simp [h2, h0]
    have := count_set_lt _ _ h3
    simp
    omega

theorem filterMap_inj {ds : List (Option Nat)} (h : (ds.filterMap id).Nodup) : ∀ (i j s : Nat), ds[i]? = some (some s) → ds[j]? = some (some s) → i = j := by
  induction ds with
  | nil => intro i j s h; simp at h
  | cons x ds ih =>
    intro i j s hi hj
    have hin : ∀ (k s : Nat), ds[k]? = some (some s) → s ∈ ds.filterMap id := fun k s h => List.mem_filterMap.2 ⟨some s, List.mem_of_getElem? h, rfl⟩
    cases x with
    | none =>
      simp only [List.filterMap_cons, id] at h
      cases i with
      | zero => simp at hi
      | succ i =>
        cases j with
        | zero => simp at hj
        | succ j => rw [ih h i j s (by simpa using hi) (by simpa using hj)]
    | some y =>
      simp only [List.filterMap_cons, id, List.nodup_cons] at h
      cases i with
      | zero =>
        cases j with
        | zero => rfl
        | succ j =>
          simp at hi
          subst hi
          exact absurd (hin j y (by simpa using hj)) h.1
      | succ i =>
        cases j with
        | zero =>
          simp at hj
          subst hj
          exact absurd (hin i y (by simpa using hi)) h.1
        | succ j => rw [ih h.2 i j s (by simpa using hi) (by simpa using hj)]

theorem dstsW_at {ds : List (Option Nat)} {n : Nat} (h : dstsW ops ds n = true) : ds.length = ops.size ∧ (∀ (i : Nat) o d, ops[i]? = some o → ds[i]? = some d → o.dst = d) ∧ ∀ (i s : Nat), ds[i]? = some (some s) → s < n := by
  unfold dstsW at h
  rw [Bool.and_eq_true, decide_eq_true_eq] at h
  obtain ⟨h1, h2⟩ := h
  subst h1
  refine ⟨by simp, fun i o d ho hd => ?_, fun i s hs => ?_⟩
  · have h1 : (ops.toList.map (·.dst))[i]? = some o.dst := by simp [ho]
    rw [h1] at hd
    exact Option.some.inj hd
  · have := List.all_eq_true.1 h2 (some s) (List.mem_of_getElem? hs)
    simpa using this

/-- The slots and what the act has in them. -/
def pairs (ds : List (Option Nat)) (f : Nat → Value) : List (Nat × Value) := (ds.filterMap id).map fun s => (s, f s)
theorem pairs_map (ds : List (Option Nat)) (f : Nat → Value) : (pairs ds f).map (·.1) = ds.filterMap id := by
  unfold pairs
  rw [List.map_map]
  conv => rhs; rw [← List.map_id (ds.filterMap id)]
  rfl
theorem eq_pairs {ds : List (Option Nat)} {n : Nat} {a a0 : Act} (hn : a.tmps.size = n) (hn0 : a0.tmps.size = n) (hd : a.defers = a0.defers) (hnd : (ds.filterMap id).Nodup) (hlt : ∀ s, some s ∈ ds → s < n) (hfr : ∀ t, some t ∉ ds → a.eval (.tmp t) = a0.eval (.tmp t)) :
    a = puts (pairs ds fun s => a.eval (.tmp s)) a0 := by
  refine act_ext (by rw [puts_size, hn, hn0]) (by rw [puts_defers, hd]) (fun t ht => ?_)
  by_cases hm : some t ∈ ds
  · have hp : (t, a.eval (.tmp t)) ∈ pairs ds fun s => a.eval (.tmp s) := List.mem_map.2 ⟨t, List.mem_filterMap.2 ⟨some t, hm, rfl⟩, rfl⟩
    rw [puts_in _ a0 (by rw [pairs_map]; exact hnd) (fun q hq => ?_) _ hp]
    have hq1 : q.1 ∈ (pairs ds fun s => a.eval (.tmp s)).map (·.1) := List.mem_map.2 ⟨q, hq, rfl⟩
    rw [pairs_map] at hq1
    obtain ⟨x, hx, e⟩ := List.mem_filterMap.1 hq1
    simp only [id] at e
    subst e
    rw [hn0]
    exact hlt q.1 hx
  · rw [puts_far _ a0 t, hfr t hm]
    rw [pairs_map]
    intro h
    obtain ⟨x, hx, e⟩ := List.mem_filterMap.1 h
    simp only [id] at e
    subst e
    exact hm hx

theorem getD_set_keep {l : Array Bool} {i j : Nat} (h : l.getD j false = true) : (l.setIfInBounds i true).getD j false = true := by
  by_cases e : i = j
  · subst e
    have hi : i < l.size := by
      by_cases hi : i < l.size
      · exact hi
      · simp [hi] at h
    simp [hi]
  · rw [getD_set_ne false e]; exact h
theorem getD_true_false {l : Array Bool} {i : Nat} (h : l.getD i true = false) : l.getD i false = false := by
  by_cases hi : i < l.size
  · simp [hi] at h ⊢; exact h
  · simp [hi] at h

theorem wpAny_goodW (G : Nat → Value → World → Prop) (J : Array Bool → World → Prop) (ds : List (Option Nat)) (n : Nat) (a0 : Act) (w0 : World) (hn : a0.tmps.size = n)
    (hacyc : acycB md ops = true) (hdst : dstsW ops ds n = true) (hnd : (ds.filterMap id).Nodup)
    (step : ∀ (i : Nat) o d, ops[i]? = some o → ds[i]? = some d → ∀ listed a w, listed.size = ops.size → listed.getD i true = false →
      (∀ (j : Nat) o', ops[j]? = some o' → listed.getD j false = true → ∀ e ∈ o'.after, Region.binds md e = true → listed.getD e.on false = true) → J listed w → a.defers = a0.defers →
      (∀ e ∈ o.after, Region.binds md e = true → listed.getD e.on false = true ∧ ∀ s, ds[e.on]? = some (some s) → G e.on (a.eval (.tmp s)) w) → (∀ t, some t ∉ ds → a.eval (.tmp t) = a0.eval (.tmp t)) →
      ∀ K : Act → World → Prop, (∀ v w', (∀ j x, G j x w → G j x w') → J (listed.setIfInBounds i true) w' → (d.isSome = true → G i v w') → K (a.put o.dst v) w') → wpOp P ops Q i K a w)
    (fin : ∀ listed w' f, (∀ i, i < ops.size → listed.getD i false = true) → J listed w' → (∀ (i s : Nat), ds[i]? = some (some s) → G i (f s) w') → Q .normal (puts (pairs ds f) a0) w') (h0 : J (Array.replicate ops.size false) w0) :
    wpAny P md ops Q ops.size (Array.replicate ops.size false) a0 w0 := by
  obtain ⟨hlen, hop, hlt⟩ := dstsW_at hdst
  have hinj := filterMap_inj hnd
  refine wpAny_inv2 (fun listed a w => (∀ (j : Nat) o', ops[j]? = some o' → listed.getD j false = true → ∀ e ∈ o'.after, Region.binds md e = true → listed.getD e.on false = true) ∧ J listed w ∧ a.tmps.size = n ∧ a.defers = a0.defers ∧ (∀ t, some t ∉ ds → a.eval (.tmp t) = a0.eval (.tmp t)) ∧ ∀ (i s : Nat), ds[i]? = some (some s) → listed.getD i false = true → G i (a.eval (.tmp s)) w) (acycB_spec hacyc) ?_ ?_ _ _ _ _ (by simp) (by simp) ⟨fun j o' hj h => ?_, h0, hn, rfl, fun t _ => rfl, fun i s hs h => ?_⟩
  · rintro listed a w i o ⟨hcl, hJ, hs, hdf, hfr, hg⟩ hls hun ho hdeps
    have hi : i < ops.size := (Array.getElem?_eq_some_iff.1 ho).1
    have hp : ds[i]? = some (ds[i]'(by omega)) := List.getElem?_eq_getElem (by omega)
    generalize ds[i]'(by omega) = d at hp
    refine step i o d ho hp listed a w hls hun hcl hJ hdf (fun e he hb => ⟨hdeps e he hb, fun s hq => hg e.on s hq (hdeps e he hb)⟩) hfr _ ?_
    intro v w' hmono hJ' hG
    rw [hop i o d ho hp]
    have hcl' : ∀ (j : Nat) o', ops[j]? = some o' → (listed.setIfInBounds i true).getD j false = true → ∀ e ∈ o'.after, Region.binds md e = true → (listed.setIfInBounds i true).getD e.on false = true := by
      intro j o' hj hlj e he hbd
      by_cases hji : j = i
      · subst hji
        rw [ho] at hj
        cases hj
        exact getD_set_keep (hdeps e he hbd)
      · rw [getD_set_ne false (fun h => hji h.symm)] at hlj
        exact getD_set_keep (hcl j o' hj hlj e he hbd)
    cases d with
    | none =>
      refine ⟨hcl', hJ', hs, hdf, hfr, fun j s hj hlj => ?_⟩
      have hji : j ≠ i := fun e => by subst e; rw [hp] at hj; cases hj
      refine hmono _ _ (hg j s hj ?_)
      rwa [getD_set_ne false (fun h => hji h.symm)] at hlj
    | some s0 =>
      refine ⟨hcl', hJ', by simpa [Act.put] using hs, hdf, fun t ht => ?_, fun j s hj hlj => ?_⟩
      · rw [eval_put_far _ _ _ _ (fun e => ht (by rw [e]; exact List.mem_of_getElem? hp))]
        exact hfr t ht
      · by_cases e : j = i
        · subst e
          rw [hp] at hj
          cases hj
          rw [eval_put_self _ _ _ (by have := hlt j s0 hp; omega)]
          exact hG rfl
        · rw [eval_put_far _ _ _ _ (fun e' => e (hinj j i s0 (by rw [← e']; exact hj) hp))]
          refine hmono _ _ (hg j s hj ?_)
          rwa [getD_set_ne false (fun h => e h.symm)] at hlj
  · rintro listed a w ⟨hcl, hJ, hs, hdf, hfr, hg⟩ hall
    rw [eq_pairs hs hn hdf hnd (fun s hm => by obtain ⟨i, hi⟩ := List.mem_iff_getElem?.1 hm; exact hlt i s hi) hfr]
    exact fin listed w (fun s => a.eval (.tmp s)) hall hJ (fun i s hi => hg i s hi (hall i (by have := (List.getElem?_eq_some_iff.1 hi).1; omega)))
  · have : j < ops.size := (Array.getElem?_eq_some_iff.1 hj).1
    simp [this] at h
  · have : i < ops.size := by have := (List.getElem?_eq_some_iff.1 hs).1; omega
    simp [this] at h

/-- The last operation waits for each of the others. -/
def lastB (md : Region.Mode) (ops : Array Oper) (N : Nat) : Bool := decide (ops.size = N + 1) && match ops[N]? with
  | some o => (List.range N).all fun i => o.after.any fun e => decide (e.on = i) && Region.binds md e
  | none => false
theorem lastB_spec {N : Nat} (h : lastB md ops N = true) : ops.size = N + 1 ∧ ∀ o, ops[N]? = some o → ∀ i, i < N → ∃ e ∈ o.after, e.on = i ∧ Region.binds md e = true := by
  unfold lastB at h
  rw [Bool.and_eq_true, decide_eq_true_eq] at h
  refine ⟨h.1, fun o ho i hi => ?_⟩
  have h2 := h.2
  simp only [ho] at h2
  have h3 := List.all_eq_true.1 h2 i (List.mem_range.2 hi)
  obtain ⟨e, he, hb⟩ := Array.any_eq_true'.1 h3
  rw [Bool.and_eq_true, decide_eq_true_eq] at hb
  exact ⟨e, he, hb.1, hb.2⟩

theorem wpAny_goodLast (G : Nat → Value → World → Prop) (J : World → Prop) (ds : List (Option Nat)) (N n : Nat) (a0 : Act) (w0 : World) (hn : a0.tmps.size = n)
    (hacyc : acycB md ops = true) (hlast : lastB md ops N = true) (hdst : dstsW ops ds n = true) (hnd : (ds.filterMap id).Nodup) (hN : ds[N]? = some none)
    (step : ∀ (i : Nat) o d, ops[i]? = some o → ds[i]? = some d → i < N → ∀ a w, J w → a.defers = a0.defers →
      (∀ e ∈ o.after, Region.binds md e = true → ∀ s, ds[e.on]? = some (some s) → G e.on (a.eval (.tmp s)) w) → (∀ t, some t ∉ ds → a.eval (.tmp t) = a0.eval (.tmp t)) →
      ∀ K : Act → World → Prop, (∀ v w', (∀ j x, G j x w → G j x w') → J w' → (d.isSome = true → G i v w') → K (a.put o.dst v) w') → wpOp P ops Q i K a w)
    (fin : ∀ w' f, J w' → (∀ (i s : Nat), ds[i]? = some (some s) → G i (f s) w') → wpOp P ops Q N (fun a w => Q .normal a w) (puts (pairs ds f) a0) w') (h0 : J w0) :
    wpAny P md ops Q ops.size (Array.replicate ops.size false) a0 w0 := by
  obtain ⟨hlen, hop, hlt⟩ := dstsW_at hdst
  obtain ⟨hsz, hall⟩ := lastB_spec hlast
  have hinj := filterMap_inj hnd
  refine wpAny_inv2 (fun listed a w => (listed.getD N false = true → (∀ i, i < N → listed.getD i false = true) ∧ Q .normal a w) ∧ (listed.getD N false = false → J w ∧ a.tmps.size = n ∧ a.defers = a0.defers ∧ (∀ t, some t ∉ ds → a.eval (.tmp t) = a0.eval (.tmp t)) ∧ ∀ (i s : Nat), ds[i]? = some (some s) → listed.getD i false = true → G i (a.eval (.tmp s)) w))
    (acycB_spec hacyc) ?_ ?_ _ _ _ _ (by simp) (by simp) ⟨fun h => ?_, fun _ => ⟨h0, hn, rfl, fun t _ => rfl, fun i s hs h => ?_⟩⟩
  · rintro listed a w i o ⟨hI1, hI2⟩ hls hun ho hdeps
    have hi : i < ops.size := (Array.getElem?_eq_some_iff.1 ho).1
    have hun' : listed.getD i false = false := by
      have h2 : i < listed.size := by omega
      simp [h2] at hun ⊢
      exact hun
    by_cases hiN : i = N
    · subst hiN
      obtain ⟨hJ, hs, hdf, hfr, hg⟩ := hI2 hun'
      have hl : ∀ j, j < i → listed.getD j false = true := fun j hj => by
        obtain ⟨e, he, hej, hb⟩ := hall o ho j hj
        rw [← hej]
        exact hdeps e he hb
      have h1 := eq_pairs hs hn hdf hnd (fun s hm => by obtain ⟨i, hi⟩ := List.mem_iff_getElem?.1 hm; exact hlt i s hi) hfr
      rw [h1]
      refine wpOp_mono (fun a' w' hq => ⟨fun _ => ⟨fun j hj => ?_, hq⟩, fun h => ?_⟩) (fin w (fun s => a.eval (.tmp s)) hJ (fun j s hj => hg j s hj (hl j ?_)))
      · rw [getD_set_ne false (fun h => by omega)]
        exact hl j hj
      · simp [hls, hi] at h
      · have h2 := (List.getElem?_eq_some_iff.1 hj).1
        have h3 : j ≠ i := fun e => by subst e; rw [hN] at hj; cases hj
        omega
    · have hlN : listed.getD N false = false := by
        cases h : listed.getD N false with
        | false => rfl
        | true => rw [(hI1 h).1 i (by omega)] at hun'; cases hun'
      obtain ⟨hJ, hs, hdf, hfr, hg⟩ := hI2 hlN
      have hp : ds[i]? = some (ds[i]'(by omega)) := List.getElem?_eq_getElem (by omega)
      generalize ds[i]'(by omega) = d at hp
      refine step i o d ho hp (by omega) a w hJ hdf (fun e he hb s hq => hg e.on s hq (hdeps e he hb)) hfr _ ?_
      intro v w' hmono hJ' hG
      have hlN' : (listed.setIfInBounds i true).getD N false = false := by rw [getD_set_ne false hiN]; exact hlN
      rw [hop i o d ho hp]
      refine ⟨fun h => (by rw [hlN'] at h; cases h), fun _ => ?_⟩
      cases d with
      | none =>
        refine ⟨hJ', hs, hdf, hfr, fun j s hj hlj => ?_⟩
        have hji : j ≠ i := fun e => by subst e; rw [hp] at hj; cases hj
        refine hmono _ _ (hg j s hj ?_)
        rwa [getD_set_ne false (fun h => hji h.symm)] at hlj
      | some s0 =>
        refine ⟨hJ', by simpa [Act.put] using hs, hdf, fun t ht => ?_, fun j s hj hlj => ?_⟩
        · rw [eval_put_far _ _ _ _ (fun e => ht (by rw [e]; exact List.mem_of_getElem? hp))]
          exact hfr t ht
        · by_cases e : j = i
          · subst e
            rw [hp] at hj
            cases hj
            rw [eval_put_self _ _ _ (by have := hlt j s0 hp; omega)]
            exact hG rfl
          · rw [eval_put_far _ _ _ _ (fun e' => e (hinj j i s0 (by rw [← e']; exact hj) hp))]
            refine hmono _ _ (hg j s hj ?_)
            rwa [getD_set_ne false (fun h => e h.symm)] at hlj
  · rintro listed a w ⟨hI1, hI2⟩ hall'
    exact (hI1 (hall' N (by omega))).2
  · simp [hsz] at h
  · have : i < ops.size := by have := (List.getElem?_eq_some_iff.1 hs).1; omega
    simp [this] at h
end

/-- What is so while a region runs: as before till operation q has run. -/
def JR (q : Nat) (A : Prop) (B : Prop) (l : Array Bool) : Prop := (l.getD q false = false → A) ∧ (l.getD q false = true → B)
theorem jkeep {q : Nat} {A B : Prop} {l : Array Bool} (h : JR q A B l) {i : Nat} (hi : i ≠ q) : JR q A B (l.setIfInBounds i true) := by
  unfold JR
  rw [getD_set_ne false hi]
  exact h
theorem jset {q : Nat} {A B : Prop} {l : Array Bool} (hls : q < l.size) (h : B) : JR q A B (l.setIfInBounds q true) := by
  have e : (l.setIfInBounds q true).getD q false = true := by simp [hls]
  unfold JR
  rw [e]
  exact ⟨fun h => (by cases h), fun _ => h⟩
theorem jpre {q : Nat} {A B : Prop} {l : Array Bool} (h : JR q A B l) {i : Nat} (hun : l.getD i true = false) (hi : l.getD q false = true → l.getD i false = true) : A := by
  have h0 := getD_true_false hun
  refine h.1 ?_
  cases h5 : l.getD q false with
  | false => rfl
  | true => rw [hi h5] at h0; cases h0
theorem jor {q : Nat} {A B : Prop} {l : Array Bool} (h : JR q A B l) : A ∨ B := by
  cases h5 : l.getD q false with
  | false => exact .inl (h.1 h5)
  | true => exact .inr (h.2 h5)
end Go.Proofs.YtcmaclaiholpfaaDoor.Vals

/-
  Bytes as a string: what a conversion answers, and when two are the same.
-/
namespace Go.Proofs.YtcmaclaiholpfaaDoor
open Go.RowKit
set_option linter.unusedVariables false

theorem strOfNums_inj {xs ys : List Int} (hx : Byt xs) (hy : Byt ys) (h : (strOfNums xs).toList = (strOfNums ys).toList) : xs = ys := by
  rw [Lib.strOfNums_toList, Lib.strOfNums_toList] at h
  have h2 : xs.map (fun n => UInt8.ofNat n.toNat) = ys.map (fun n => UInt8.ofNat n.toNat) := h
  clear h
  induction xs generalizing ys with
  | nil => cases ys with
    | nil => rfl
    | cons y ys => simp at h2
  | cons x xs ih => cases ys with
    | nil => simp at h2
    | cons y ys =>
      simp only [List.map_cons, List.cons.injEq] at h2
      have hx0 := hx x (by simp)
      have hy0 := hy y (by simp)
      have h3 : (UInt8.ofNat x.toNat).toNat = (UInt8.ofNat y.toNat).toNat := by rw [h2.1]
      simp at h3
      rw [ih (fun z hz => hx z (by simp [hz])) (fun z hz => hy z (by simp [hz])) h2.2]
      congr 1
      omega

theorem strOfNums_beq {xs ys : List Int} (hx : Byt xs) (hy : Byt ys) : ((strOfNums xs).toList == (strOfNums ys).toList) = decide (xs = ys) := by
  by_cases h : xs = ys
  · subst h; simp
  · have h1 : ¬ (strOfNums xs).toList = (strOfNums ys).toList := fun e => h (strOfNums_inj hx hy e)
    rw [beq_false_of_ne h1, decide_eq_false h]

theorem conv_reads {W : World} {a : Option Addr} {n c : Nat} {zs : List Int} (h : Reads W a n zs) : (convert 22 9 (.slice a n c)).run Tryd.prog W = .ok (.string (strOfNums zs)) W := by
  cases a with
  | none =>
    have h0 : zs = [] := by
      rcases h.2 with h2 | ⟨_, _, h2, _⟩
      · exact List.eq_nil_of_length_eq_zero (by rw [h.1, h2])
      · cases h2
    subst h0
    exact run_convert_bytes_nil W _ _ Tryd.underlying22 Tryd.underlying5 n c _ Tryd.underlying9
  | some p =>
    obtain ⟨b, off, spot⟩ := p
    by_cases h0 : n = 0
    · subst h0
      have hz : zs = [] := List.eq_nil_of_length_eq_zero h.1
      subst hz
      have := run_convert_bytes_arg (P := Tryd.prog) W 22 5 Tryd.underlying22 Tryd.underlying5 b off 0 c [] rfl (fun i hi => by omega) 9 Tryd.underlying9
      rw [run_convert_bytes_string W _ _ _ _ _ _ Tryd.underlying22 Tryd.underlying5 Tryd.underlying9] at this ⊢
      simpa [Conv.bytesToString, loadCells, loadCellsFrom] using this
    · obtain ⟨b', off', e⟩ := h.some_of (by omega)
      cases e
      refine run_convert_bytes_arg W _ _ Tryd.underlying22 Tryd.underlying5 b off n c zs h.1 (fun i hi => ?_) _ Tryd.underlying9
      rcases h.2 with h2 | ⟨b', off', ha, _, hc⟩
      · omega
      · cases ha
        rw [hc i hi]
        simp [List.getD_eq_getElem?_getD]
end Go.Proofs.YtcmaclaiholpfaaDoor

/-
  The conversion of a constant text's row to a slice of its own type: the row gets a mark behind its last cell, and nothing else turns. At whatever world.
-/
namespace Go.Proofs.YtcmaclaiholpfaaDoor
open Go.RowKit
set_option linter.unusedVariables false

/-- The world, with block g marked behind its last cell. -/
def markW (W : World) (g : Nat) : World := match W.shape? g with
  | some (_, n) => W.freeze ⟨g, n, none⟩ 1
  | none => W

theorem freeze_block (W : World) (g k : Nat) (b : Nat) (hb : b ≠ g) : (W.freeze ⟨g, k, none⟩ 1).heap[b]? = W.heap[b]? := by
  unfold World.freeze
  rw [if_neg (by decide)]
  simp only [Array.getElem?_modify]
  rw [if_neg (fun e => hb e.symm)]
theorem freeze_size (W : World) (g k : Nat) : (W.freeze ⟨g, k, none⟩ 1).heap.size = W.heap.size := by
  unfold World.freeze
  rw [if_neg (by decide)]
  simp
theorem freeze_cell (W : World) (g k : Nat) (a : Addr) : (W.freeze ⟨g, k, none⟩ 1).cell? a = W.cell? a := by
  by_cases hb : a.block = g
  · unfold World.freeze
    rw [if_neg (by decide)]
    simp only [World.cell?, Array.getElem?_modify]
    rw [if_pos hb.symm]
    cases h : W.heap[a.block]? with
    | none => simp
    | some o =>
      cases o <;> simp
  · exact World.cell?_of_block (w := W) (freeze_block W g k a.block hb)

theorem markW_size (W : World) (g : Nat) : (markW W g).heap.size = W.heap.size := by
  unfold markW; split
  · exact freeze_size _ _ _
  · rfl
theorem markW_cell (W : World) (g : Nat) (a : Addr) : (markW W g).cell? a = W.cell? a := by
  unfold markW; split
  · exact freeze_cell _ _ _ _
  · rfl
theorem markW_block (W : World) (g b : Nat) (hb : b ≠ g) : (markW W g).heap[b]? = W.heap[b]? := by
  unfold markW; split
  · exact freeze_block _ _ _ _ hb
  · rfl
theorem markW_flow (W : World) (g : Nat) : (markW W g).os = W.os ∧ (markW W g).tape = W.tape ∧ (markW W g).output = W.output := by
  unfold markW; split
  · unfold World.freeze; rw [if_neg (by decide)]; exact ⟨rfl, rfl, rfl⟩
  · exact ⟨rfl, rfl, rfl⟩
theorem below_mark {B : Nat} {a W : World} (h : Below B a W) {g : Nat} (hg : B ≤ g) : Below B a (markW W g) := by
  obtain ⟨f1, f2, f3⟩ := markW_flow W g
  exact ⟨f1.trans h.os, f2.trans h.tape, f3.trans h.output, by rw [markW_size]; exact h.size, fun k hk => (markW_block W g k (by omega)).trans (h.block k hk)⟩

theorem cell_alloc_if (W : World) (C : Array Value) (e : TypeId) (b k : Nat) : (W.alloc (.cells C e)).cell? ⟨b, k, none⟩ = if b = W.heap.size then C[k]? else W.cell? ⟨b, k, none⟩ := by
  by_cases h : b = W.heap.size
  · subst h
    rw [if_pos rfl]
    unfold World.cell? World.alloc
    simp
  · rw [if_neg h]
    unfold World.cell? World.alloc
    simp only [Array.getElem?_push]
    rw [if_neg h]

theorem run_convert_mark {P : Program} (W : World) (t e : TypeId) (g n c : Nat) (ht : P.underlying t = some (.slice e)) (he : P.underlying e = some (.int .u8)) :
    (convert t t (.slice (some ⟨g, 0, none⟩) n c)).run P W = .ok (.slice (some ⟨g, 0, none⟩) n c) (markW W g) := by
  cases h : W.shape? g with
  | none => simp [convert, run_underlying ht, run_underlying he, markStringish, h, markW]
  | some p =>
    obtain ⟨e', m⟩ := p
    simp [convert, run_underlying ht, run_underlying he, markStringish, h, markW]
end Go.Proofs.YtcmaclaiholpfaaDoor
