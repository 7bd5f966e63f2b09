/-
  The walk of CrcLengths.
-/
import Derived.Test.YtinkelehdmlmfaaCrc1
import Derived.Test.YtinkelehdmlmfaaFrame
import Derived.Test.YtinkelehdmlmfaaRef00b
namespace Go.Proofs.Ytinkelehdmlmfaa
open Go.RowKit
set_option linter.unusedVariables false

theorem crcLengths_long (WK : WorksOk) (x y : Int) (a : Option Addr) (len cap : Nat) (t : Int) (w : World) (h : 8192 < len) (hm : len ≤ 9223372036854775807) :
    Calls Try.prog 6 #[.int .u32 x, .int .u32 y, .slice a len cap, .int .u8 t] w fun e w' => e = .returned (.bool true) ∧ Below w.heap.size w w' := by
  go_enter Try.func6, Try.ntmps6
  go_wp2_with (go_at_call 9; refine (WK _).mono ?_; rintro e w' ⟨rfl, hb⟩)
  go_ret
  exact ⟨rfl, hb⟩

/-- The bytes that the law makes: the text's, from behind, turned. -/
def mirr (zs : List Int) (t : Int) : Nat → List Int
  | 0 => []
  | k + 1 => mirr zs t k ++ [bits .xor .u8 (zs[zs.length - 1 - k]?.getD 0) t]
theorem mirr_length (zs : List Int) (t : Int) : ∀ k, (mirr zs t k).length = k
  | 0 => rfl
  | k + 1 => by simp [mirr, mirr_length zs t k]
theorem xor_byt (x y : Int) (hx0 : 0 ≤ x) (hx1 : x < 256) (hy0 : 0 ≤ y) (hy1 : y < 256) : 0 ≤ bits .xor .u8 x y ∧ bits .xor .u8 x y < 256 := by
  rw [u8_xor x y hx0 hx1 hy0 hy1]
  have : x.toNat ^^^ y.toNat < 256 := Nat.xor_lt_two_pow (n := 8) (by omega) (by omega)
  omega
theorem mirr_byt {zs : List Int} (hz : Byt zs) {t : Int} (t0 : 0 ≤ t) (t1 : t < 256) : ∀ k, Byt (mirr zs t k)
  | 0 => Byt.nil
  | k + 1 => by
    obtain ⟨u0, u1⟩ := hz.getD (zs.length - 1 - k)
    obtain ⟨v0, v1⟩ := xor_byt _ _ u0 u1 t0 t1
    exact (mirr_byt hz t0 t1 k).append (Byt.one v0 v1)

theorem len_sums (s r : Nat) (xs ys : List Int) (h : xs.length = ys.length) : ext s xs ^^^ ext r xs = ext s ys ^^^ ext r ys := by
  unfold ext
  rw [h]
  have c : ∀ a b f : Nat, (a ^^^ f) ^^^ (b ^^^ f) = a ^^^ b := by
    intro a b f
    rw [Nat.xor_assoc, ← Nat.xor_assoc f b f, Nat.xor_comm f b, Nat.xor_assoc b f f, Nat.xor_self, Nat.xor_zero]
  rw [c, c]
  exact run_len _ _ _ _ _
theorem ext_inj (s r : Nat) (hs : s < 4294967296) (hr : r < 4294967296) (xs : List Int) : ext s xs ^^^ ext r xs = 0 ↔ s = r := by
  rw [xor_zero_iff]
  constructor
  · intro h
    unfold ext at h
    have h1 := congrArg (· ^^^ 4294967295) h
    simp only [xor_back] at h1
    have h2 := run_inj (Nat.xor_lt_two_pow (n := 32) hs (by omega)) (Nat.xor_lt_two_pow (n := 32) hr (by omega)) h1
    have h3 := congrArg (· ^^^ 4294967295) h2
    simpa only [xor_back] using h3
  · rintro rfl; rfl

set_option maxHeartbeats 1600000 in
set_option maxRecDepth 100000 in
theorem crcLengths_of (WK : WorksOk) (a0 a1 : Int) (a2 : Option Addr) (len2 cap2 : Nat) (z2 : List Int) (a3 : Int) (w : World) (w0 : (Lit.int .u32 a0).wf = true) (w1 : (Lit.int .u32 a1).wf = true) (w2 : IsRow .u8 w a2 len2 cap2 z2) (w3 : (Lit.int .u8 a3).wf = true) :
    Calls Try.prog 6 #[.int .u32 a0, .int .u32 a1, .slice a2 len2 cap2, .int .u8 a3] w fun e w' => e = .returned (.bool true) ∧ Below w.heap.size w w' := by
  obtain ⟨hr, hbyt, hcap, hmax⟩ := w2.reads
  obtain ⟨x0, x1⟩ := wf_u32_in w0
  obtain ⟨y0, y1⟩ := wf_u32_in w1
  obtain ⟨t0, t1⟩ := wf_u8_in w3
  unfold maxLen at hmax
  clear w0 w1 w2 w3
  by_cases hlong : 8192 < len2
  · exact crcLengths_long WK a0 a1 a2 len2 cap2 a3 w hlong (by omega)
  have hshort : (len2 : Int) ≤ 8192 := by omega
  generalize z2.take len2 = zs at hr hbyt
  obtain ⟨s, rfl⟩ := Int.eq_ofNat_of_zero_le x0
  obtain ⟨r, rfl⟩ := Int.eq_ofNat_of_zero_le y0
  have hs : s < 4294967296 := by omega
  have hrr : r < 4294967296 := by omega
  have HR := Lib.hid hr
  have HB := Lib.hid hbyt
  have HL := Lib.hid hr.1
  have HWK := Lib.hid WK
  clear hr hbyt WK
  have hmk := fun W => run_make_row' (P := Try.prog) 22 5 (.int .u8 0) 1 Try.underlying22 Try.infoR rfl .i64 .i64 len2 (by omega) (by omega) W
  have H0 := Lib.hid (blk_made w len2)
  go_enter Try.func6, Try.ntmps6
  go_wp2
  go_loopw [10] (fun i wr => ∃ k : Nat, k ≤ len2 ∧ i = .int .i64 k ∧ Below w.heap.size w wr ∧ Blk wr w.heap.size (mirr zs a3 k ++ (List.replicate (len2 - k) 0))) (fun i _ => len2 - (intOf i).toNat)
  case atStart => exact ⟨0, Nat.zero_le _, rfl, (Below.refl _ _).alloc (Nat.le_refl _) _, by simpa [mirr] using H0.out⟩
  case round =>
    obtain ⟨k, hk, rfl, hb, hblk⟩ := hrel
    have HBl := Lib.hid hblk
    have HBw := Lib.hid hb
    clear hblk hb
    by_cases hlt : k < len2
    · have hc : wr.cell? ⟨w.heap.size, k, none⟩ = some (.int .u8 ((mirr zs a3 k ++ (List.replicate (len2 - k) 0))[k]?.getD 0)) := HBl.out.cell (by simp [mirr_length]; omega)
      have hf := HBl.out.free k
      obtain ⟨b, off, rfl, hs2⟩ := (HR.out.below HBw.out).at_ (len2 - 1 - k) (by omega)
      obtain ⟨u0, u1⟩ := HB.out.getD (len2 - 1 - k)
      go_wp2
      refine ⟨⟨k + 1, by omega, by go_num, HBw.out.setCell (Nat.le_refl _) _, ?_⟩, by simp [intOf]; omega⟩
      have h := HBl.out.set k (bits .xor .u8 (zs[len2 - 1 - k]?.getD 0) a3)
      rw [show len2 - k = (len2 - (k + 1)) + 1 from by omega, List.replicate_succ, set_mid _ _ _ _ _ (by rw [mirr_length])] at h
      have e : mirr zs a3 (k + 1) = mirr zs a3 k ++ [bits .xor .u8 (zs[len2 - 1 - k]?.getD 0) a3] := by rw [← HL.out]; rfl
      rw [e, List.append_assoc]
      exact h
    · obtain ⟨L, hL⟩ : ∃ L, L = mirr zs a3 len2 := ⟨_, rfl⟩
      have hk2 : Blk wr w.heap.size L := by
        have h := HBl.out
        rw [show k = len2 from by omega, Nat.sub_self, List.replicate_zero, List.append_nil, ← hL] at h
        exact h
      have hLl : L.length = len2 := by rw [hL, mirr_length]
      have hLb : Byt L := by rw [hL]; exact mirr_byt HB.out t0 (by omega) _
      have HM := Lib.hid (hk2.readsAll len2 hLl.symm)
      have HMb := Lib.hid hLb
      have HRw := Lib.hid (HR.out.below HBw.out)
      have HD := Lib.hid (len_sums s r zs L (by rw [HL.out, hLl]))
      have HI := Lib.hid (ext_inj s r hs hrr zs)
      have e1 := ext_lt zs hs
      have e2 := ext_lt zs hrr
      have e3 := ext_lt L hs
      have e4 := ext_lt L hrr
      clear hL hk2 hLl hLb HBl
      go_wp2_with fail
      refine (extend_crc s a2 len2 cap2 zs wr hs HRw.out HB.out (by omega)).mono ?_
      rintro e w' ⟨rfl, rfl⟩
      go_wp2_with fail
      refine (extend_crc r a2 len2 cap2 zs wr hrr HRw.out HB.out (by omega)).mono ?_
      rintro e w' ⟨rfl, rfl⟩
      have hx := u32_xor_nat _ _ e1 e2
      generalize ext s zs = p at *
      generalize ext r zs = q at *
      have HX := Lib.hid hx
      clear hx
      go_wp2_with fail
      refine (extend_crc s _ len2 _ L wr hs HM.out HMb.out (by omega)).mono ?_
      rintro e w' ⟨rfl, rfl⟩
      go_wp2_with fail
      refine (extend_crc r _ len2 _ L wr hrr HM.out HMb.out (by omega)).mono ?_
      rintro e w' ⟨rfl, rfl⟩
      have hy := u32_xor_nat _ _ e3 e4
      rw [← HD.out] at hy
      generalize ext s L = p2 at *
      generalize ext r L = q2 at *
      rw [HX.out]
      have hpq : p ^^^ q < 4294967296 := Nat.xor_lt_two_pow (n := 32) e1 e2
      generalize p ^^^ q = d at *
      by_cases hd : d = 0
      · have hsr : s = r := HI.out.1 hd
        subst hd hsr
        go_wp2_with (go_at_call 9; refine (HWK.out _).mono ?_; rintro e w' ⟨rfl, hb⟩)
        go_ret
        exact ⟨rfl, HBw.out.trans (hb.mono HBw.out.size)⟩
      · have h1 : ((d : Int) == 0) = false := by simp; omega
        have h2 : ((s : Int) == (r : Int)) = false := by
          have : ¬ s = r := fun h => hd (HI.out.2 h)
          simp; omega
        clear hd
        go_wp2_with (go_at_call 9; refine (HWK.out _).mono ?_; rintro e w' ⟨rfl, hb⟩)
        go_ret
        exact ⟨rfl, HBw.out.trans (hb.mono HBw.out.size)⟩
end Go.Proofs.Ytinkelehdmlmfaa
