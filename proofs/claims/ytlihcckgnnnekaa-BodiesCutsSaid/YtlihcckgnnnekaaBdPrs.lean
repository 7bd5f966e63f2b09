/-
  Stage 9: rows of pairs of numbers (gaps, skips), and of numbers, as they came in or as they were got.
-/
import Derived.Test.YtlihcckgnnnekaaBdVal
import Derived.Test.YtlihcckgnnnekaaNums
namespace Go.Proofs.Ytlihcckgnnnekaa
open Go.RowKit
set_option linter.unusedVariables false

def InP (p : Int × Int) : Prop := 0 ≤ p.1 ∧ p.1 < 65536 ∧ 0 ≤ p.2 ∧ p.2 < 65536
/-- The slice's elements are these pairs. -/
def Prs (w : World) (a : Option Addr) (n : Nat) (ps : List (Int × Int)) : Prop :=
  ps.length = n ∧ (∀ p ∈ ps, InP p) ∧ ∀ (i : Nat) p, ps[i]? = some p → ∃ g off, a = some ⟨g, off, none⟩ ∧ g < w.heap.size ∧ w.cell? ⟨g, off + i * 2, none⟩ = some (.int .u16 p.1) ∧ w.cell? ⟨g, off + i * 2 + 1, none⟩ = some (.int .u16 p.2)
theorem Prs.below {w w' : World} {a : Option Addr} {n : Nat} {ps : List (Int × Int)} (h : Prs w a n ps) {B : Nat} (hb : Below B w w') (hB : w.heap.size ≤ B) : Prs w' a n ps := by
  refine ⟨h.1, h.2.1, fun i p hp => ?_⟩
  obtain ⟨g, off, h1, h2, h3, h4⟩ := h.2.2 i p hp
  exact ⟨g, off, h1, Nat.lt_of_lt_of_le h2 hb.size, (hb.cell (p := ⟨g, off + i * 2, none⟩) (by show g < B; omega)).trans h3, (hb.cell (p := ⟨g, off + i * 2 + 1, none⟩) (by show g < B; omega)).trans h4⟩
theorem Prs.nil (w : World) (a : Option Addr) : Prs w a 0 [] := ⟨rfl, by simp, by simp⟩

def pairsB (ps : List (Int × Int)) : List Int := (ps.map fun p => enc p.1 2 ++ enc p.2 2).flatten
theorem pairsB_len (ps : List (Int × Int)) : (pairsB ps).length = 4 * ps.length := by
  induction ps with
  | nil => rfl
  | cons p ps ih => unfold pairsB at ih ⊢; simp at ih ⊢; omega
theorem pairsB_byt (ps : List (Int × Int)) : Byt (pairsB ps) := by
  induction ps with
  | nil => exact Byt.nil
  | cons p ps ih => unfold pairsB at ih ⊢; simp only [List.map_cons, List.flatten_cons]; exact ((enc_byt _ _).append (enc_byt _ _)).append ih
theorem pairsB_next {ps : List (Int × Int)} {k : Nat} {p : Int × Int} (h : ps[k]? = some p) : pairsB (ps.take (k + 1)) = pairsB (ps.take k) ++ (enc p.1 2 ++ enc p.2 2) := by
  unfold pairsB
  rw [List.take_add_one, h]
  simp
theorem pairsB_cons (p : Int × Int) (ps : List (Int × Int)) : pairsB (p :: ps) = enc p.1 2 ++ enc p.2 2 ++ pairsB ps := by simp [pairsB]
theorem encs_cons (x : Int) (xs : List Int) (n : Nat) : encs (x :: xs) n = enc x n ++ encs xs n := by simp [encs]

def sackB (x0 x1 : Int) (gs : List (Int × Int)) (ds : List Int) : List Int := enc x0 4 ++ enc x1 4 ++ enc (gs.length : Int) 2 ++ enc (ds.length : Int) 2 ++ pairsB gs ++ encs ds 4
def fwdB (x0 : Int) (ss : List (Int × Int)) : List Int := enc x0 4 ++ pairsB ss
theorem sackB_len (x0 x1 : Int) (gs : List (Int × Int)) (ds : List Int) : (sackB x0 x1 gs ds).length = 12 + 4 * gs.length + 4 * ds.length := by simp [sackB, pairsB_len, encs_len]; omega
theorem fwdB_len (x0 : Int) (ss : List (Int × Int)) : (fwdB x0 ss).length = 4 + 4 * ss.length := by simp [fwdB, pairsB_len]
theorem sackB_byt (x0 x1 : Int) (gs : List (Int × Int)) (ds : List Int) : Byt (sackB x0 x1 gs ds) := (((((enc_byt _ _).append (enc_byt _ _)).append (enc_byt _ _)).append (enc_byt _ _)).append (pairsB_byt _)).append (encs_byt _ _)
theorem fwdB_byt (x0 : Int) (ss : List (Int × Int)) : Byt (fwdB x0 ss) := (enc_byt _ _).append (pairsB_byt _)
end Go.Proofs.Ytlihcckgnnnekaa
