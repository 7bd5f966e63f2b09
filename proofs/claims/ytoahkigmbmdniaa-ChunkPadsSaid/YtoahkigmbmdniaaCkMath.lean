/-
  Chunks as bytes: plain mathematics. 'encC' is a chunk's encoding; 'decC' tells the chunk with which bytes begin.
-/
import Derived.Test.YtoahkigmbmdniaaEnc
import Derived.Test.YtoahkigmbmdniaaOct4
namespace Go.Proofs.Ytoahkigmbmdniaa
set_option linter.unusedVariables false

/-- The encoding of a chunk of kind k, flags f and this body. -/
def encC (k f : Int) (zs : List Int) : List Int := [k, f] ++ enc (4 + (zs.length : Int)) 2 ++ zs ++ List.replicate (up4 (4 + zs.length) - (4 + zs.length)) 0
theorem encC_len (k f : Int) (zs : List Int) : (encC k f zs).length = up4 (4 + zs.length) := by
  have := up4_ge (4 + zs.length)
  simp [encC]; omega
theorem encC_byt {k f : Int} {zs : List Int} (k0 : 0 ≤ k) (k1 : k < 256) (f0 : 0 ≤ f) (f1 : f < 256) (hz : Byt zs) : Byt (encC k f zs) := by
  unfold encC
  refine (((?_ : Byt [k, f]).append (enc_byt _ _)).append hz).append (Byt.rep (by omega) (by omega) _)
  intro z h
  simp at h
  omega

theorem enc2 (x : Int) : enc x 2 = [x / 256 % 256, x % 256] := by simp [enc]
theorem num2 (x y : Int) : num [x, y] = 256 * x + y := by simp [num]
theorem two_of {ys : List Int} (h : ys.length = 2) : ∃ x y, ys = [x, y] := by
  match ys, h with
  | [x, y], _ => exact ⟨x, y, rfl⟩
theorem four_of {zs : List Int} (h : 4 ≤ zs.length) : ∃ k f x y r, zs = k :: f :: x :: y :: r := by
  match zs, h with
  | k :: f :: x :: y :: r, _ => exact ⟨k, f, x, y, r, rfl⟩
/-- What the third and the fourth byte say. -/
def lenOf (zs : List Int) : Int := num ((zs.drop 2).take 2)
theorem lenOf_in {zs : List Int} (h : Byt zs) : 0 ≤ lenOf zs ∧ lenOf zs < 65536 := by
  have h1 := num_lo _ ((h.drop 2).take 2)
  have h2 := num_hi _ ((h.drop 2).take 2)
  have h3 : (256 : Int) ^ ((zs.drop 2).take 2).length ≤ 65536 := by
    have hl : ((zs.drop 2).take 2).length ≤ 2 := by simp; omega
    generalize ((zs.drop 2).take 2).length = l at *
    match l, hl with
    | 0, _ | 1, _ | 2, _ => decide
  exact ⟨h1, by unfold lenOf; omega⟩

/-- Are all of these 0? -/
def zeroB (zs : List Int) : Bool := zs.all (· == 0)
theorem zeroB_iff (zs : List Int) : zeroB zs = true ↔ zs = List.replicate zs.length 0 := by
  unfold zeroB
  induction zs with
  | nil => simp
  | cons z zs ih =>
    rw [List.all_cons, Bool.and_eq_true, ih, List.length_cons, List.replicate_succ, List.cons.injEq]
    simp
theorem zeroB_take {zs : List Int} {k : Nat} (hk : k < zs.length) (h : zeroB (zs.take k) = true) (x : zs[k]?.getD 0 = 0) : zeroB (zs.take (k + 1)) = true := by
  unfold zeroB at *
  rw [List.take_succ_eq_append_getElem hk, List.all_append, h]
  simp [hk] at x
  simp [x]
theorem zeroB_not {zs : List Int} {k : Nat} (hk : k < zs.length) (x : zs[k]?.getD 0 ≠ 0) : zeroB zs = false := by
  unfold zeroB
  rw [List.all_eq_false]
  simp [hk] at x
  exact ⟨zs[k], List.getElem_mem hk, by simpa using x⟩

/-- The chunk with which bytes begin, in parts. -/
theorem pre_parts {k f : Int} {body zs : List Int} (h : encC k f body <+: zs) (hl : body.length ≤ 65531) :
    4 ≤ zs.length ∧ lenOf zs = 4 + (body.length : Int) ∧ up4 (4 + body.length) ≤ zs.length ∧ zs[0]?.getD 0 = k ∧ zs[1]?.getD 0 = f ∧ (zs.drop 4).take body.length = body ∧
      (zs.drop (4 + body.length)).take (up4 (4 + body.length) - (4 + body.length)) = List.replicate (up4 (4 + body.length) - (4 + body.length)) 0 := by
  obtain ⟨rest, rfl⟩ := h
  have h1 := encC_len k f body
  have h2 := up4_ge (4 + body.length)
  unfold encC lenOf at *
  rw [enc2] at *
  simp only [List.cons_append, List.nil_append, List.append_assoc] at *
  refine ⟨by simp, ?_, by simp; omega, rfl, rfl, by simp, ?_⟩
  · rw [show (k :: f :: ((4 + (body.length : Int)) / 256 % 256) :: ((4 + (body.length : Int)) % 256) :: (body ++ (List.replicate (up4 (4 + body.length) - (4 + body.length)) 0 ++ rest))).drop 2 = ((4 + (body.length : Int)) / 256 % 256) :: ((4 + (body.length : Int)) % 256) :: (body ++ (List.replicate (up4 (4 + body.length) - (4 + body.length)) 0 ++ rest)) from rfl]
    rw [show ∀ (x y : Int) l, (x :: y :: l).take 2 = [x, y] from fun _ _ _ => rfl, num2]
    omega
  · rw [← List.drop_drop]
    rw [show (k :: f :: ((4 + (body.length : Int)) / 256 % 256) :: ((4 + (body.length : Int)) % 256) :: (body ++ (List.replicate (up4 (4 + body.length) - (4 + body.length)) 0 ++ rest))).drop 4 = body ++ (List.replicate (up4 (4 + body.length) - (4 + body.length)) 0 ++ rest) from rfl]
    rw [List.drop_left, List.take_append_of_le_length (by simp), List.take_of_length_le (by simp)]
theorem pre_mk {zs : List Int} (hb : Byt zs) (m : Nat) (h4 : 4 ≤ zs.length) (hL : lenOf zs = 4 + (m : Int)) (hup : up4 (4 + m) ≤ zs.length) (hp : zeroB ((zs.drop (4 + m)).take (up4 (4 + m) - (4 + m))) = true) :
    encC (zs[0]?.getD 0) (zs[1]?.getD 0) ((zs.drop 4).take m) <+: zs := by
  obtain ⟨k, f, x, y, r, rfl⟩ := four_of h4
  have h2 := up4_ge (4 + m)
  have hx := hb x (by simp)
  have hy := hb y (by simp)
  unfold lenOf at hL
  rw [show ((k :: f :: x :: y :: r).drop 2).take 2 = [x, y] from rfl, num2] at hL
  have hrl : (k :: f :: x :: y :: r).length = r.length + 4 := rfl
  have hml : (r.take m).length = m := by simp; omega
  rw [← List.drop_drop, show (k :: f :: x :: y :: r).drop 4 = r from rfl] at hp
  rw [show (k :: f :: x :: y :: r).drop 4 = r from rfl]
  rw [zeroB_iff] at hp
  have hpl : ((r.drop m).take (up4 (4 + m) - (4 + m))).length = up4 (4 + m) - (4 + m) := by simp; omega
  rw [hpl] at hp
  refine ⟨(r.drop m).drop (up4 (4 + m) - (4 + m)), ?_⟩
  unfold encC
  rw [hml, enc2, ← hp, ← hL]
  simp only [List.cons_append, List.nil_append, List.append_assoc]
  rw [show (256 * x + y) / 256 % 256 = x by omega, show (256 * x + y) % 256 = y by omega, List.take_append_drop, List.take_append_drop]
  rfl
end Go.Proofs.Ytoahkigmbmdniaa
