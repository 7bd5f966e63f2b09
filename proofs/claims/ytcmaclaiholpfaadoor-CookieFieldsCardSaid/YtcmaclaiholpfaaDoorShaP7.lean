/-
  The program's sha: what a state's memory says of the bytes that it has absorbed.
-/
import Derived.Test.YtcmaclaiholpfaaDoorShaP5
import Derived.Test.YtcmaclaiholpfaaDoorShaP6
namespace Go.Proofs.YtcmaclaiholpfaaDoor
open Go.RowKit
set_option linter.unusedVariables false

theorem absorb_more (h : List Nat) (zs ys : List Int) : ∀ n, 64 * n ≤ zs.length → absorb h (zs ++ ys) n = absorb h zs n
  | 0, _ => rfl
  | n + 1, hn => by
    rw [absorb, absorb, absorb_more h zs ys n (by omega), List.drop_append_of_le_length (by omega), List.take_append_of_le_length (by simp; omega)]

/-- The memory A, B of a state stands for these bytes. -/
def Inv (A : List Nat) (B zs : List Int) : Prop := addL H0s A = absorb H0s zs (zs.length / 64) ∧ B.take (zs.length % 64) = zs.drop (64 * (zs.length / 64))
/-- The block when c has been copied into it at o. -/
def laid (B : List Int) (o : Nat) (c : List Int) : List Int := B.take o ++ (c ++ B.drop (o + c.length))
theorem laid_len {B : List Int} {o : Nat} {c : List Int} (hb : B.length = 64) (h : o + c.length ≤ 64) : (laid B o c).length = 64 := by
  simp [laid]; omega
theorem laid_byt {B : List Int} {o : Nat} {c : List Int} (hb : Byt B) (hc : Byt c) : Byt (laid B o c) := (hb.take o).append (hc.append (hb.drop _))
theorem inv_nil : Inv (List.replicate 8 0) (List.replicate 64 0) [] := ⟨by decide, by simp⟩
theorem inv_more {A : List Nat} {B zs c : List Int} (h : Inv A B zs) (hb : B.length = 64) (hl : zs.length % 64 + c.length < 64) : Inv A (laid B (zs.length % 64) c) (zs ++ c) := by
  obtain ⟨h1, h2⟩ := h
  have e1 : (zs ++ c).length / 64 = zs.length / 64 := by simp; omega
  have e2 : (zs ++ c).length % 64 = zs.length % 64 + c.length := by simp; omega
  refine ⟨?_, ?_⟩
  · rw [e1, absorb_more H0s zs c _ (by omega), h1]
  · rw [e1, e2, List.drop_append_of_le_length (by omega), ← h2]
    have ht : (B.take (zs.length % 64)).length = zs.length % 64 := by simp; omega
    unfold laid
    rw [← List.append_assoc, List.take_append_of_le_length (by simp; omega), List.take_of_length_le (by simp; omega)]
theorem inv_full {A : List Nat} {B zs c : List Int} (h : Inv A B zs) (hA : Eight A) (hb : B.length = 64) (hl : zs.length % 64 + c.length = 64) :
    Inv (addL A (rounds (wlist (laid B (zs.length % 64) c) 64) (addL H0s A) 64)) (laid B (zs.length % 64) c) (zs ++ c) := by
  obtain ⟨h1, h2⟩ := h
  have e1 : (zs ++ c).length / 64 = zs.length / 64 + 1 := by simp; omega
  have e2 : (zs ++ c).length % 64 = 0 := by simp; omega
  have ht : (B.take (zs.length % 64)).length = zs.length % 64 := by simp; omega
  have hB : laid B (zs.length % 64) c = zs.drop (64 * (zs.length / 64)) ++ c := by
    unfold laid
    rw [← h2, List.drop_of_length_le (by omega), List.append_nil]
  refine ⟨?_, ?_⟩
  · rw [e1, absorb, absorb_more H0s zs c _ (by omega), ← h1, add_assoc eight_H0 hA (eight_rounds (eight_add eight_H0 hA) 64)]
    rw [List.drop_append_of_le_length (by omega), List.take_of_length_le (by simp; omega), ← hB]
    rfl
  · rw [e2, List.take_zero, List.drop_of_length_le (by simp; omega)]

/-- In w block sb is a state that has absorbed zs. -/
def StV (w : World) (sb : Nat) (zs : List Int) : Prop := ∃ A B, Raw w sb A B zs.length ∧ Inv A B zs
section
variable {w w' : World} {sb : Nat} {zs : List Int}
theorem StV.lt (h : StV w sb zs) : sb < w.heap.size := by obtain ⟨A, B, h1, _⟩ := h; exact h1.lt
theorem StV.turn (h : StV w sb zs) {bs : List Nat} (ht : Turn bs w w') (hn : sb ∉ bs) : StV w' sb zs := by obtain ⟨A, B, h1, h2⟩ := h; exact ⟨A, B, h1.turn ht hn, h2⟩
end
theorem tab_turn {w w' : World} (h : Tab w) {bs : List Nat} (ht : Turn bs w w') (hn : ∀ g ∈ tabs, g ∉ bs) : Tab w' :=
  ⟨fun i x hx => by rw [ht.cell (p := ⟨_, i, none⟩) (h.lt _ (by simp [tabs])) (hn _ (by simp [tabs]))]; exact h.1 i x hx, fun i x hx => by rw [ht.cell (p := ⟨_, i, none⟩) (h.lt _ (by simp [tabs])) (hn _ (by simp [tabs]))]; exact h.2 i x hx⟩
theorem reads_turn {w w' : World} {a : Option Addr} {n : Nat} {zs : List Int} (h : Reads w a n zs) {bs : List Nat} (ht : Turn bs w w') (hn : 0 < n → ∀ q, a = some q → q.block ∉ bs) : Reads w' a n zs := by
  refine ⟨h.1, ?_⟩
  rcases h.2 with h0 | ⟨b, off, ha, hlt, hc⟩
  · exact .inl h0
  · by_cases h0 : n = 0
    · exact .inl h0
    · exact .inr ⟨b, off, ha, Nat.lt_of_lt_of_le hlt ht.size, fun i hi => by rw [ht.cell (p := ⟨b, off + i, none⟩) hlt (by have := hn (by omega) _ ha; exact this)]; exact hc i hi⟩
/-- A copy into the block. -/
theorem Raw.laid {w : World} {sb : Nat} {A : List Nat} {B : List Int} {n : Nat} (h : Raw w sb A B n) {o : Nat} {c : List Int} (ho : o + c.length ≤ 64) (hc : Byt c) :
    (stCells A B n).take (8 + o) ++ (c.map (Value.int .u8) ++ (stCells A B n).drop (8 + o + (c.map (Value.int .u8)).length)) = stCells A (laid B o c) n := by
  have h8 := h.a.len
  have hb := h.b
  unfold stCells YtcmaclaiholpfaaDoor.laid
  rw [List.length_map]
  have e1 : (A.map word ++ (B.map (Value.int .u8) ++ [Value.int .u64 (n : Int)])).take (8 + o) = A.map word ++ (B.take o).map (Value.int .u8) := by
    rw [List.take_append, List.take_of_length_le (by simp; omega), List.length_map, h8, Nat.add_sub_cancel_left, List.take_append_of_le_length (by simp; omega), List.map_take]
  have e2 : (A.map word ++ (B.map (Value.int .u8) ++ [Value.int .u64 (n : Int)])).drop (8 + o + c.length) = (B.drop (o + c.length)).map (Value.int .u8) ++ [Value.int .u64 (n : Int)] := by
    rw [List.drop_append, List.drop_of_length_le (by simp; omega), List.length_map, h8, List.nil_append, show 8 + o + c.length - 8 = o + c.length by omega, List.drop_append_of_le_length (by simp; omega), List.map_drop]
  rw [e1, e2]
  simp
theorem Raw.setN {w : World} {sb : Nat} {A : List Nat} {B : List Int} {n : Nat} (h : Raw w sb A B n) (m : Nat) : Raw (w.setCell ⟨sb, 72, none⟩ (.int .u64 (m : Int))) sb A B m := by
  refine ⟨?_, h.a, h.b, h.byt⟩
  have hr := h.row
  have e : (stCells A B n).set 72 (.int .u64 (m : Int)) = stCells A B m := by
    have h8 := h.a.len
    have hb := h.b
    unfold stCells
    rw [List.set_append, if_neg (by simp; omega), List.length_map, h8, List.set_append, if_neg (by simp; omega), List.length_map, hb]
    rfl
  rw [← e]
  simp [World.setCell, Array.getElem?_modify, hr]
end Go.Proofs.YtcmaclaiholpfaaDoor
