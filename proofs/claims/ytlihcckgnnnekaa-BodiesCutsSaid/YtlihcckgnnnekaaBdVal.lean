/-
  Stage 9: what the chunks say, as values and as bytes; a chunk that has been put; two numbers at once.
-/
import Derived.Test.YtlihcckgnnnekaaBdPut
namespace Go.Proofs.Ytlihcckgnnnekaa
open Go.RowKit
set_option linter.unusedVariables false

/-- What a Put function answers: a chunk of this kind, these flags, these bytes. -/
def Puts (w : World) (k f : Int) (zs : List Int) (e : Ending) (w' : World) : Prop :=
  ∃ a' c', e = .returned (.agg #[.int .u8 k, .int .u8 f, .slice a' zs.length c']) ∧ Below w.heap.size w w' ∧ Row8 w.heap.size w' a' zs.length c' zs

/-- This value and OK, or that one and ErrForm. -/
def Chose (b : Bool) (v z : Value) (e : Ending) : Prop := (b = true ∧ e = .returned (.tuple #[v, .int .i64 0])) ∨ (b = false ∧ e = .returned (.tuple #[z, .int .i64 7]))

/-- Three cells of a block are set: what lies elsewhere stays. -/
theorem set3_turn (w : World) (g : Nat) (b0 b1 b2 : Value) : Turn [g] w (((w.setCell ⟨g, 0, none⟩ b0).setCell ⟨g, 1, none⟩ b1).setCell ⟨g, 2, none⟩ b2) :=
  (((Turn.refl [g] w).setCell (p := ⟨g, 0, none⟩) (by simp) b0).setCell (p := ⟨g, 1, none⟩) (by simp) b1).setCell (p := ⟨g, 2, none⟩) (by simp) b2
theorem Row8.turn {base : Nat} {w w' : World} {a : Option Addr} {n c : Nat} {zs : List Int} (h : Row8 base w a n c zs) {bs : List Nat} (ht : Turn bs w w') (hn : ∀ j ∈ bs, j < base) : Row8 base w' a n c zs :=
  h.keep_of (fun g _ hbg cs hk => ht.block g (Array.getElem?_eq_some_iff.1 hk).1 (fun e => by have := hn g e; omega))

/-- The chunk is stored into the result's box. -/
theorem puts_end {w w2 : World} {g base : Nat} (hb : Below w.heap.size w w2) (hg0 : w.heap.size ≤ g) (hgb : g < base) (hA : Arr w2 g 28 [.int .u8 0, .int .u8 0, .slice none 0 0]) {k f : Int} {a : Option Addr} {c : Nat} {zs : List Int} {n : Nat}
    (hr : Row8 base w2 a n c zs) {W3 : World} (hW : ((w2.setCell ⟨g, 0, none⟩ (.int .u8 k)).setCell ⟨g, 1, none⟩ (.int .u8 f)).setCell ⟨g, 2, none⟩ (.slice a n c) = W3) :
    Below w.heap.size w W3 ∧ Row8 w.heap.size W3 a zs.length c zs ∧ Arr W3 g 28 [.int .u8 k, .int .u8 f, .slice a n c] := by
  subst hW
  obtain rfl : zs.length = n := hr.len
  exact ⟨below3 hb hg0 _ _ _, (hr.turn (set3_turn w2 g _ _ _) (by simpa using hgb)).lower (by omega), box3 hA _ _ _⟩

theorem put1 (base : Nat) (a : Option Addr) (len cap n : Nat) (zs : List Int) (x : Int) (w : World) (hr : Row8 base w a len cap zs) (hb : base ≤ w.heap.size) (hl : len ≤ 1099511627776)
    (hx0 : 0 ≤ x) (hx1 : x ≤ 18446744073709551615) (hn : sizB (n : Int) = true) :
    Calls Try.prog 48 #[.slice a len cap, .int .i64 (n : Int), .slice (some ⟨w.heap.size, 0, none⟩) 1 1] (w.alloc (.cells #[.int .u64 x] 86)) fun e w' =>
      ∃ a' c', e = .returned (.slice a' (len + n) c') ∧ Below base w w' ∧ Row8 base w' a' (len + n) c' (zs ++ enc x n) := by
  have hb0 : Below w.heap.size w (w.alloc (.cells #[.int .u64 x] 86)) := (Below.refl _ _).alloc (Nat.le_refl _) _
  have h := put_any base a len cap n zs [x] w.heap.size (w.alloc (.cells #[.int .u64 x] 86)) (hr.keep hb0) (Nat.le_trans hb hb0.size) hl (by simp) (arr_new _ _ _) (by simp; omega) hn
  simp only [List.length_cons, List.length_nil, Nat.zero_add, Nat.mul_one, encs_one] at h
  refine h.mono ?_
  rintro e w' ⟨a', c', rfl, h1, h2⟩
  exact ⟨a', c', rfl, (hb0.mono hb).trans h1, h2⟩
theorem put2 (base : Nat) (a : Option Addr) (len cap n : Nat) (zs : List Int) (x y : Int) (w : World) (hr : Row8 base w a len cap zs) (hb : base ≤ w.heap.size) (hl : len ≤ 1099511627776)
    (hx0 : 0 ≤ x) (hx1 : x ≤ 18446744073709551615) (hy0 : 0 ≤ y) (hy1 : y ≤ 18446744073709551615) (hn : sizB (n : Int) = true) :
    Calls Try.prog 48 #[.slice a len cap, .int .i64 (n : Int), .slice (some ⟨w.heap.size, 0, none⟩) 2 2] (w.alloc (.cells #[.int .u64 x, .int .u64 y] 86)) fun e w' =>
      ∃ a' c', e = .returned (.slice a' (len + 2 * n) c') ∧ Below base w w' ∧ Row8 base w' a' (len + 2 * n) c' (zs ++ (enc x n ++ enc y n)) := by
  have hb0 : Below w.heap.size w (w.alloc (.cells #[.int .u64 x, .int .u64 y] 86)) := (Below.refl _ _).alloc (Nat.le_refl _) _
  have h := put_any base a len cap n zs [x, y] w.heap.size (w.alloc (.cells #[.int .u64 x, .int .u64 y] 86)) (hr.keep hb0) (Nat.le_trans hb hb0.size) hl (by simp) (arr_new _ _ _) (by simp; omega) hn
  simp only [List.length_cons, List.length_nil, Nat.zero_add, encs_two, Nat.mul_comm n (1 + 1)] at h
  refine h.mono ?_
  rintro e w' ⟨a', c', rfl, h1, h2⟩
  exact ⟨a', c', rfl, (hb0.mono hb).trans h1, h2⟩
end Go.Proofs.Ytlihcckgnnnekaa
