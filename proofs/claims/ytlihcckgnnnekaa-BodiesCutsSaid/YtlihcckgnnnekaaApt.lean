/-
  What Apart is about: rows of bytes, each in a block of its own; their bytes turned, and turned back. Plain facts.
-/
import Derived.Test.YtlihcckgnnnekaaRef00b
import Derived.Laws.BytesArg
namespace Go.Proofs.Ytlihcckgnnnekaa
open Go.RowKit
set_option linter.unusedVariables false

/-- A byte, turned. -/
def flp (x : Int) : Int := bits .xor .u8 255 x
theorem flp_byt (x : Int) (h0 : 0 ≤ x) (h1 : x < 256) : 0 ≤ flp x ∧ flp x < 256 := by
  unfold flp
  rw [u8_xor 255 x (by omega) (by omega) h0 h1]
  have : (255 : Int).toNat ^^^ x.toNat < 256 := Nat.xor_lt_two_pow (n := 8) (by decide) (by omega)
  omega
theorem flp_flp (x : Int) (h0 : 0 ≤ x) (h1 : x < 256) : flp (flp x) = x := by
  have hb := flp_byt x h0 h1
  have e : flp x = ((255 ^^^ x.toNat : Nat) : Int) := by unfold flp; rw [u8_xor 255 x (by omega) (by omega) h0 h1]; rfl
  have e2 : flp (flp x) = ((255 ^^^ (flp x).toNat : Nat) : Int) := by
    show bits .xor .u8 255 (flp x) = _
    rw [u8_xor 255 (flp x) (by omega) (by omega) hb.1 hb.2]; rfl
  rw [e2, e, Int.toNat_natCast, ← Nat.xor_assoc, Nat.xor_self, Nat.zero_xor]
  omega

/-- The first j bytes are turned. -/
def flipTo (zs : List Int) (j : Nat) : List Int := (zs.take j).map flp ++ zs.drop j
/-- The first j bytes are turned back, the others not yet. -/
def backTo (zs : List Int) (j : Nat) : List Int := zs.take j ++ (zs.drop j).map flp

theorem flipTo_length (zs : List Int) (j : Nat) : (flipTo zs j).length = zs.length := by simp [flipTo]; omega
theorem backTo_length (zs : List Int) (j : Nat) : (backTo zs j).length = zs.length := by simp [backTo]; omega
theorem flipTo_zero (zs : List Int) : flipTo zs 0 = zs := by simp [flipTo]
theorem flipTo_all (zs : List Int) : flipTo zs zs.length = backTo zs 0 := by simp [flipTo, backTo]
theorem backTo_all (zs : List Int) : backTo zs zs.length = zs := by simp [backTo]
theorem flipTo_at (zs : List Int) (j : Nat) (hj : j < zs.length) : (flipTo zs j)[j]?.getD 0 = zs[j]?.getD 0 := by
  unfold flipTo; rw [List.getElem?_append_right (by simp; omega)]
  have e : j - ((zs.take j).map flp).length = 0 := by simp; omega
  rw [e]
  simp [hj]
theorem backTo_at (zs : List Int) (j : Nat) (hj : j < zs.length) : (backTo zs j)[j]?.getD 0 = flp (zs[j]?.getD 0) := by
  unfold backTo; rw [List.getElem?_append_right (by simp; omega)]
  have e : j - (zs.take j).length = 0 := by simp; omega
  rw [e]
  simp [hj]
theorem flipTo_set (zs : List Int) (j : Nat) (hj : j < zs.length) : (flipTo zs j).set j (flp (zs[j]?.getD 0)) = flipTo zs (j + 1) := by
  unfold flipTo
  have e : zs.drop j = zs[j] :: zs.drop (j + 1) := List.drop_eq_getElem_cons hj
  have e3 : zs[j]?.getD 0 = zs[j] := by simp [hj]
  rw [e, set_mid _ _ _ _ _ (by simp; omega), List.take_succ_eq_append_getElem hj, e3]
  simp only [List.map_append, List.map_cons, List.map_nil, List.append_assoc, List.cons_append, List.nil_append]
theorem backTo_set (zs : List Int) (j : Nat) (hj : j < zs.length) : (backTo zs j).set j (zs[j]?.getD 0) = backTo zs (j + 1) := by
  unfold backTo
  have e : zs.drop j = zs[j] :: zs.drop (j + 1) := List.drop_eq_getElem_cons hj
  have e3 : zs[j]?.getD 0 = zs[j] := by simp [hj]
  rw [e, List.map_cons, set_mid _ _ _ _ _ (by simp; omega), List.take_succ_eq_append_getElem hj, e3]
  simp only [List.append_assoc, List.cons_append, List.nil_append]

/-- A row: none; or the block that it lies in, its length, all bytes of the block. -/
abbrev ARow := Option (Nat × Nat × List Int)
def ARow.val : ARow → Value
  | none => .slice none 0 0
  | some (g, n, zs) => .slice (some ⟨g, 0, none⟩) n zs.length
def ARow.str : ARow → ByteArray
  | none => ByteArray.empty
  | some (_, n, zs) => strOfNums (zs.take n)
def ARow.all : ARow → List Int
  | none => []
  | some (_, _, zs) => zs
def ARow.ok (w : World) : ARow → Prop
  | none => True
  | some (g, n, zs) => Blk w g zs ∧ Byt zs ∧ n ≤ zs.length ∧ n ≤ 1073741824 ∧ zs.length ≤ 9223372036854775807
def ARow.blk : ARow → Option Nat
  | none => none
  | some (g, _, _) => some g

theorem ARow.ok_of {w w' : World} : {r : ARow} → r.ok w → (∀ g, r.blk = some g → g < w.heap.size → w'.heap[g]? = w.heap[g]?) → r.ok w'
  | none, _, _ => trivial
  | some (g, n, zs), ⟨h1, h2, h3, h4⟩, hb => ⟨(hb g rfl h1.lt).trans h1, h2, h3, h4⟩

def ARow.addr : ARow → Option Addr
  | none => none
  | some (g, _, _) => some ⟨g, 0, none⟩
def ARow.size : ARow → Nat
  | none => 0
  | some (_, _, zs) => zs.length
theorem ARow.size_le {w : World} : {r : ARow} → r.ok w → r.size ≤ 9223372036854775807
  | none, _ => by decide
  | some (g, n, zs), ⟨_, _, _, _, h⟩ => h

theorem ARow.all_len : (r : ARow) → r.all.length = r.size
  | none => rfl
  | some (_, _, _) => rfl
theorem ARow.turned_all (r : ARow) : flipTo r.all r.size = backTo r.all 0 := by rw [← ARow.all_len r]; exact flipTo_all _

/-- The world wr is wB, but for the row's block, which holds ys. -/
structure Turned (wB wr : World) (r : ARow) (ys : List Int) : Prop where
  grown : wB.grownBy wr r.blk
  same : wr.heap.size = wB.heap.size
  blk : ∀ g n zs, r = some (g, n, zs) → Blk wr g ys

theorem Turned.start {w : World} {r : ARow} (h : r.ok w) : Turned w w r (flipTo r.all 0) := by
  refine ⟨⟨rfl, rfl, rfl, Nat.le_refl _, fun _ _ _ => rfl⟩, rfl, ?_⟩
  rintro g n zs rfl
  rw [flipTo_zero]
  exact h.1

theorem Turned.set {wB wr : World} {g n : Nat} {zs ys : List Int} (h : Turned wB wr (some (g, n, zs)) ys) (j : Nat) (x : Int) :
    Turned wB (wr.setCell ⟨g, j, none⟩ (.int .u8 x)) (some (g, n, zs)) (ys.set j x) := by
  obtain ⟨h1, h2, h3⟩ := h
  refine ⟨⟨h1.os, h1.tape, h1.output, by simp [World.setCell]; exact h1.size, fun k hk hne => ?_⟩, by simpa [World.setCell] using h2, ?_⟩
  · rw [Below.heap_setCell _ _ _ _ (fun e => hne (by simp [ARow.blk, e]))]
    exact h1.block k hk hne
  · rintro g' n' zs' e
    cases e
    exact (h3 g n zs rfl).set j x

theorem Turned.drewN {wB wr : World} {r : ARow} {ys : List Int} (h : Turned wB wr r ys) (q : Nat) : Turned wB (wr.drewN q) r ys :=
  ⟨⟨h.grown.os, h.grown.tape, h.grown.output, h.grown.size, h.grown.block⟩, h.same, h.blk⟩

theorem Turned.block {wB wr : World} {r : ARow} {ys : List Int} (h : Turned wB wr r ys) (k : Nat) (hk : k < wB.heap.size) (hne : r.blk ≠ some k) : wr.heap[k]? = wB.heap[k]? :=
  h.grown.block k hk (fun e => hne e.symm)

theorem Turned.below {w wB wr : World} {r : ARow} (h : Turned wB wr r (backTo r.all r.size)) (hb : Below w.heap.size w wB) (hr : r.ok wB) : Below w.heap.size w wr := by
  refine ⟨h.grown.os.trans hb.os, h.grown.tape.trans hb.tape, h.grown.output.trans hb.output, Nat.le_trans hb.size h.grown.size, fun k hk => ?_⟩
  rw [← hb.block k hk]
  by_cases e : r.blk = some k
  · match r, e, h, hr with
    | some (g, n, zs), e, h, hr =>
      have eg : g = k := by simpa [ARow.blk] using e
      subst eg
      have h1 := h.blk g n zs rfl
      have h2 : backTo (ARow.all (some (g, n, zs))) (ARow.size (some (g, n, zs))) = zs := backTo_all zs
      rw [h2] at h1
      exact h1.trans hr.1.symm
  · exact h.block k (by have := hb.size; omega) e

/-- A row of the call's own is one of these. -/
theorem Row8.arow {base : Nat} {w : World} {a : Option Addr} {n c : Nat} {zs : List Int} (h : Row8 base w a n c zs) (hz : Byt zs) (hn : n ≤ 1073741824) : ∃ r : ARow, r.val = .slice a n c ∧ r.ok w ∧ (∀ b, r.blk = some b → base ≤ b ∧ b < w.heap.size) ∧ (∀ b, r.blk = some b → a = some ⟨b, 0, none⟩) := by
  obtain ⟨hl, ⟨rfl, rfl, rfl⟩ | ⟨g, sp, rfl, hb, hk, hs, hc, hm⟩⟩ := h
  · exact ⟨none, rfl, trivial, (fun b e => by cases e), (fun b e => by cases e)⟩
  · refine ⟨some (g, n, zs ++ sp), ?_, ⟨hk, hz.append hs, by rw [List.length_append]; omega, hn, by rw [List.length_append, hc]; unfold maxLen at hm; omega⟩, fun b e => ?_, fun b e => ?_⟩
    · show Value.slice _ _ (zs ++ sp).length = _
      rw [List.length_append, hc]
    · cases e; exact ⟨hb, hk.lt⟩
    · cases e; rfl

theorem ARow.conv (P : Program) (src e dst : TypeId) (hs : P.underlying src = some (.slice e)) (he : P.underlying e = some (.int .u8)) (hd : P.underlying dst = some .string) (W : World) :
    (r : ARow) → r.ok W → (convert src dst r.val).run P W = .ok (.string r.str) W
  | none, _ => run_convert_bytes_nil W src e hs he 0 0 dst hd
  | some (g, n, zs), ⟨h1, h2, h3, h4, h5⟩ => by
    refine run_convert_bytes_arg W src e hs he g 0 n zs.length (zs.take n) (by simp; omega) (fun i hi => ?_) dst hd
    rw [Nat.zero_add, h1.cell (by omega)]
    simp [List.getD_eq_getElem?_getD, hi]
end Go.Proofs.Ytlihcckgnnnekaa
