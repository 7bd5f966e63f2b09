/-
  Bytes that say numbers, the high one first, come in the numbers' order: plain mathematics.
-/
import Derived.Test.YtjpeceplhdmaoaaEnc
import Derived.Laws.BytesArg
import Derived.Laws.Strings
namespace Go.Proofs.Ytjpeceplhdmaoaa
set_option linter.unusedVariables false

theorem less_num : ∀ (zs ys : List Int), zs.length = ys.length → Byt zs → Byt ys →
    Op.bytesLess (zs.map fun n => UInt8.ofNat n.toNat) (ys.map fun n => UInt8.ofNat n.toNat) = decide (num zs < num ys) := by
  intro zs
  induction zs with
  | nil =>
    intro ys hl _ _
    obtain rfl : ys = [] := List.eq_nil_of_length_eq_zero hl.symm
    simp [Op.bytesLess]
  | cons z zs ih =>
    intro ys hl hz hy
    match ys, hl with
    | y :: ys, hl =>
      have hl' : zs.length = ys.length := by simpa using hl
      have bz : Byt zs := fun x hx => hz x (by simp [hx])
      have by_ : Byt ys := fun x hx => hy x (by simp [hx])
      obtain ⟨z0, z1⟩ := hz z (by simp)
      obtain ⟨y0, y1⟩ := hy y (by simp)
      have e := ih ys hl' bz by_
      have l1 := num_lo zs bz
      have l2 := num_lo ys by_
      have h1 := num_hi zs bz
      have h2 := num_hi ys by_
      rw [hl'] at h1
      have ez : (UInt8.ofNat z.toNat).toNat = z.toNat := by simp; omega
      have ey : (UInt8.ofNat y.toNat).toNat = y.toNat := by simp; omega
      have hp : (0 : Int) < 256 ^ ys.length := Int.pow_pos (by omega)
      simp only [List.map_cons, Op.bytesLess, e, num_cons, hl']
      by_cases c1 : z < y
      · have a1 : UInt8.ofNat z.toNat < UInt8.ofNat y.toNat := by rw [UInt8.lt_iff_toNat_lt, ez, ey]; omega
        have a2 : (z + 1) * 256 ^ ys.length ≤ y * 256 ^ ys.length := Int.mul_le_mul_of_nonneg_right (by omega) (Int.le_of_lt hp)
        rw [Int.add_mul, Int.one_mul] at a2
        have a3 : z * 256 ^ ys.length + num zs < y * 256 ^ ys.length + num ys := by omega
        simp [a1, a3]
      · have a1 : ¬ UInt8.ofNat z.toNat < UInt8.ofNat y.toNat := by rw [UInt8.lt_iff_toNat_lt, ez, ey]; omega
        by_cases c2 : z = y
        · subst c2
          simp [a1]
        · have a4 : ¬ UInt8.ofNat z.toNat = UInt8.ofNat y.toNat := by
            intro h
            have := congrArg UInt8.toNat h
            rw [ez, ey] at this
            omega
          have a2 : (y + 1) * 256 ^ ys.length ≤ z * 256 ^ ys.length := Int.mul_le_mul_of_nonneg_right (by omega) (Int.le_of_lt hp)
          rw [Int.add_mul, Int.one_mul] at a2
          have a3 : ¬ z * 256 ^ ys.length + num zs < y * 256 ^ ys.length + num ys := by omega
          simp [a1, a4, a3]

theorem less_enc (x y : Int) (n : Nat) (hx0 : 0 ≤ x) (hx1 : x < 256 ^ n) (hy0 : 0 ≤ y) (hy1 : y < 256 ^ n) :
    Op.bytesLess (strOfNums (enc x n)).toList (strOfNums (enc y n)).toList = decide (x < y) := by
  have h := less_num (enc x n) (enc y n) (by simp) (enc_byt _ _) (enc_byt _ _)
  rw [num_enc x hx0, num_enc y hy0, Int.emod_eq_of_lt hx0 hx1, Int.emod_eq_of_lt hy0 hy1] at h
  rw [← h]
  simp [strOfNums]
end Go.Proofs.Ytjpeceplhdmaoaa
