/-
  The walk of OctetParts.
-/
import Derived.Test.YtjpeceplhdmaoaaWorks
import Derived.Test.YtjpeceplhdmaoaaFrame
import Derived.Test.YtjpeceplhdmaoaaRef00b
namespace Go.Proofs.Ytjpeceplhdmaoaa
open Go.RowKit
set_option linter.unusedVariables false

set_option maxHeartbeats 1600000 in
set_option maxRecDepth 100000 in
theorem octetParts_walk (a0 : Option Addr) (len0 cap0 : Nat) (z0 : List Int) (at_ n cut : Int) (w : World) (w0 : IsRow .u8 w a0 len0 cap0 z0) (w1 : (Lit.int .i64 at_).wf = true) (w2 : (Lit.int .i64 n).wf = true) (w3 : (Lit.int .i64 cut).wf = true) :
    Calls Try.prog 10 #[.agg #[.slice a0 len0 cap0, .int .i64 at_, .int .i64 n, .int .i64 cut]] w fun e w' => e = .returned (.bool true) ∧ Below w.heap.size w w' := by
  obtain ⟨hr, hbyt, hcap, hmax⟩ := w0.reads
  obtain ⟨at0, at1⟩ := wf_i64_in w1
  obtain ⟨n0, n1⟩ := wf_i64_in w2
  obtain ⟨cut0, cut1⟩ := wf_i64_in w3
  unfold maxLen at hmax
  clear w0 w1 w2 w3
  by_cases hlong : 65536 < len0
  · go_enter Try.func10, Try.ntmps10
    go_wp2_with (go_at_call 11; refine (works_any _).mono ?_; rintro e w' ⟨rfl, hb⟩)
    go_ret
    exact ⟨rfl, ((Below.refl _ _).alloc (Nat.le_refl _) _).trans (hb.mono (by simp))⟩
  have hshort : (len0 : Int) ≤ 65536 := by omega
  generalize z0.take len0 = zs at hr hbyt
  have HR := Lib.hid hr
  have HB := Lib.hid hbyt
  clear hr hbyt
  by_cases hc : hasB len0 at_ n = true
  · have hh := (hasB_iff len0 at_ n).1 hc
    obtain ⟨i, rfl⟩ := Int.eq_ofNat_of_zero_le hh.1
    obtain ⟨m, rfl⟩ := Int.eq_ofNat_of_zero_le hh.2.1
    have hi : i + m ≤ len0 := by omega
    clear hc hh
    go_enter Try.func10, Try.ntmps10
    go_wp2_with fail
    have hdef : ∃ b : World, b = w.alloc (.cells #[.slice a0 len0 cap0, .int .i64 (i : Int), .int .i64 (m : Int), .int .i64 cut] 45) := ⟨_, rfl⟩
    obtain ⟨wb, hwb⟩ := hdef
    have hBw : Below w.heap.size w wb := by rw [hwb]; exact (Below.refl _ _).alloc (Nat.le_refl _) _
    have hsz : w.heap.size < wb.heap.size := by rw [hwb]; simp
    have p0 : wb.cell? ⟨w.heap.size, 0, none⟩ = some (.slice a0 len0 cap0) := by rw [hwb]; simp
    have p1 : wb.cell? ⟨w.heap.size, 1, none⟩ = some (.int .i64 (i : Int)) := by rw [hwb]; simp
    have p2 : wb.cell? ⟨w.heap.size, 2, none⟩ = some (.int .i64 (m : Int)) := by rw [hwb]; simp
    have p3 : wb.cell? ⟨w.heap.size, 3, none⟩ = some (.int .i64 cut) := by rw [hwb]; simp
    rw [← hwb]
    clear hwb
    have HRb := Lib.hid (HR.out.below hBw)
    have HBw := Lib.hid hBw
    have HL := Lib.hid HR.out.1
    clear hBw
    refine (cut_yes a0 len0 cap0 i m zs wb HRb.out hcap (by omega) hi).mono ?_
    rintro e w1 ⟨rfl, hb1, hk1⟩
    have q0 : w1.cell? ⟨w.heap.size, 0, none⟩ = some (.slice a0 len0 cap0) := (hb1.cell (p := ⟨w.heap.size, 0, none⟩) hsz).trans p0
    have q1 : w1.cell? ⟨w.heap.size, 1, none⟩ = some (.int .i64 (i : Int)) := (hb1.cell (p := ⟨w.heap.size, 1, none⟩) hsz).trans p1
    have q2 : w1.cell? ⟨w.heap.size, 2, none⟩ = some (.int .i64 (m : Int)) := (hb1.cell (p := ⟨w.heap.size, 2, none⟩) hsz).trans p2
    have q3 : w1.cell? ⟨w.heap.size, 3, none⟩ = some (.int .i64 cut) := (hb1.cell (p := ⟨w.heap.size, 3, none⟩) hsz).trans p3
    clear p0 p1 p2 p3
    have HB1 := Lib.hid hb1
    have HK1 := Lib.hid hk1
    clear hb1 hk1
    have t1 : cut.tmod ((m : Int) + 1) < (m : Int) + 1 := Int.tmod_lt_of_pos _ (by omega)
    have t0 : -((m : Int) + 1) < cut.tmod ((m : Int) + 1) := by
      have := Int.tmod_lt_of_pos (-cut) (show 0 < (m : Int) + 1 by omega)
      rw [Int.neg_tmod] at this; omega
    have hmm : (m : Int) ≤ 65536 := by omega
    obtain ⟨kk, hkk, hcase⟩ : ∃ kk : Nat, kk ≤ m ∧ ((0 ≤ cut.tmod ((m : Int) + 1) ∧ cut.tmod ((m : Int) + 1) = (kk : Int)) ∨ (cut.tmod ((m : Int) + 1) < 0 ∧ cut.tmod ((m : Int) + 1) + (m : Int) + 1 = (kk : Int))) := by
      by_cases h : cut.tmod ((m : Int) + 1) < 0
      · exact ⟨(cut.tmod ((m : Int) + 1) + (m : Int) + 1).toNat, by omega, .inr ⟨h, by omega⟩⟩
      · exact ⟨(cut.tmod ((m : Int) + 1)).toNat, by omega, .inl ⟨by omega, by omega⟩⟩
    rcases hcase with ⟨h0, hkq⟩ | ⟨h0, hkq⟩
    all_goals
      have HQ := Lib.hid hkq
      clear hkq
      go_wp2_with fail
      rw [HQ.out]
      refine (cut_yes a0 len0 cap0 i kk zs w1 (HRb.out.below HB1.out) hcap (by omega) (by omega)).mono ?_
      rintro e w2 ⟨rfl, hb2, hk2⟩
      have s1 := HB1.out.size
      have r0 : w2.cell? ⟨w.heap.size, 0, none⟩ = some (.slice a0 len0 cap0) := (hb2.cell (p := ⟨w.heap.size, 0, none⟩) (Nat.lt_of_lt_of_le hsz s1)).trans q0
      have r1 : w2.cell? ⟨w.heap.size, 1, none⟩ = some (.int .i64 (i : Int)) := (hb2.cell (p := ⟨w.heap.size, 1, none⟩) (Nat.lt_of_lt_of_le hsz s1)).trans q1
      have r2 : w2.cell? ⟨w.heap.size, 2, none⟩ = some (.int .i64 (m : Int)) := (hb2.cell (p := ⟨w.heap.size, 2, none⟩) (Nat.lt_of_lt_of_le hsz s1)).trans q2
      clear q0 q1 q2 q3
      have HB2 := Lib.hid hb2
      have HK2 := Lib.hid hk2
      clear hb2 hk2
      go_wp2_with fail
      rw [show ((i : Int) + (kk : Int)) = ((i + kk : Nat) : Int) from by omega, show ((m : Int) - (kk : Int)) = ((m - kk : Nat) : Int) from by omega]
      refine (cut_yes a0 len0 cap0 (i + kk) (m - kk) zs w2 ((HRb.out.below HB1.out).below HB2.out) hcap (by omega) (by omega)).mono ?_
      rintro e w3 ⟨rfl, hb3, hk3⟩
      have HB3 := Lib.hid hb3
      have HK3 := Lib.hid hk3
      have s2 := HB2.out.size
      have s3 := HB3.out.size
      have HBa := Lib.hid (show Below w.heap.size w w3 from (((HBw.out.trans (HB1.out.mono (by omega))).trans (HB2.out.mono (by omega))).trans (HB3.out.mono (by omega))))
      have HC3 := Lib.hid (show Reads w3 (some ⟨wb.heap.size, 0, none⟩) m ((zs.drop i).take m) from ((HK1.out.below HB2.out).below HB3.out).readsAll m (by have := HL.out; simp; omega))
      have HKc := Lib.hid ((HK1.out.below HB2.out).below HB3.out)
      have hown : Row8 w.heap.size w3 (some ⟨w1.heap.size, 0, none⟩) kk kk ((zs.drop i).take kk) := Row8.of_blk (HK2.out.below HB3.out) (by omega) (by have := HL.out; simp; omega) (by unfold maxLen; omega)
      have hnews := ((HK3.out).readsAll (m - kk) (by have := HL.out; simp; omega)).copied
      have hnl : (((zs.drop (i + kk)).take (m - kk)).map (Value.int .u8)).length = (m - kk) * 1 := by have := HL.out; simp; omega
      obtain ⟨i0, hi0, hz0, hz1, hz2⟩ := info_parts Try.infoB
      have HO := Lib.hid hown
      have HN := Lib.hid hnews
      have HNl := Lib.hid hnl
      clear hb3 hk3 hown hnews hnl r0 r1 r2
      go_wp2_with (at_builtin; refine wpList_append_own _ rfl (.tmp 103) (.tmp 104) 22 rfl w.heap.size 5 i0 (.int .u8 0) 1 1 Try.underlying22 hi0 hz0 hz1 hz2 rfl (by decide) _ _ _ rfl HO.out ⟨w2.heap.size, 0, none⟩ (m - kk) (m - kk) _ rfl HNl.out HN.out (oneByte _) ?c3 ?c4 ?c5 ?_)
      case c3 => unfold maxLen; omega
      case c4 => omega
      case c5 => omega
      intro v' w4 hown' hgrow _
      have hx : (List.take kk (List.drop i (zs.map (Value.int .u8))) ++ List.take (m - kk) (List.drop (i + kk) (zs.map (Value.int .u8)))) = ((zs.drop i).take m).map (Value.int .u8) := by
        rw [← List.drop_drop, ← List.take_add, show kk + (m - kk) = m from by omega]
        simp
      obtain ⟨a', c', hv, hrow⟩ := Row8.of_owns hown' hx
      rw [hv]
      have HKc := HKc.out
      have hne : wb.heap.size < w1.heap.size := HK1.out.lt
      have hkc4 : Blk w4 wb.heap.size ((zs.drop i).take m) := (hgrow.block _ HKc.lt (by simp [Value.ownBlock]; omega)).trans HKc
      have hr4 := hkc4.readsAll m (by have := HL.out; simp; omega)
      have HB4 := Lib.hid (HBa.out.grown hgrow (by omega) (fun k hk => by simp [Value.ownBlock] at hk; omega))
      have HR4 := Lib.hid hr4
      have HRw := Lib.hid hrow.reads
      clear hown' hgrow hrow hr4 hkc4 hx HO HN HNl HKc hv
      go_wp2_with fail
      refine (eqBytes_yes a' _ m c' m m _ _ w4 HRw.out HR4.out ((HB.out.drop i).take m) (by omega) rfl).mono ?_
      rintro e w5 ⟨rfl, hb5, _⟩
      have HB5 := Lib.hid (HB4.out.trans (hb5.mono HB4.out.size))
      clear hb5
      go_wp2_with (go_at_call 11; refine (works_any _).mono ?_; rintro e w' ⟨rfl, hb6⟩)
      go_ret
      exact ⟨rfl, HB5.out.trans (hb6.mono HB5.out.size)⟩
  · have hcf := Lib.hid (show hasB len0 at_ n = false by simpa using hc)
    have hcc : at_ < 0 ∨ n < 0 ∨ (len0 : Int) - n < at_ := by
      have := mt (hasB_iff len0 at_ n).2 hc; omega
    clear hc
    go_enter Try.func10, Try.ntmps10
    go_wp2_with fail
    refine (cut_no a0 len0 cap0 at_ n _ (by omega) (by omega) hcf.out).mono ?_
    rintro e w1 ⟨rfl, rfl⟩
    by_cases g1 : at_ < 0
    · go_wp2_with (go_at_call 11; refine (works_any _).mono ?_; rintro e w' ⟨rfl, hb⟩)
      go_ret
      exact ⟨rfl, ((Below.refl _ _).alloc (Nat.le_refl _) _).trans (hb.mono (by simp))⟩
    by_cases g2 : n < 0
    · go_wp2_with (go_at_call 11; refine (works_any _).mono ?_; rintro e w' ⟨rfl, hb⟩)
      go_ret
      exact ⟨rfl, ((Below.refl _ _).alloc (Nat.le_refl _) _).trans (hb.mono (by simp))⟩
    by_cases g3 : (len0 : Int) < at_
    · clear hcc
      go_wp2_with (go_at_call 11; refine (works_any _).mono ?_; rintro e w' ⟨rfl, hb⟩)
      go_ret
      exact ⟨rfl, ((Below.refl _ _).alloc (Nat.le_refl _) _).trans (hb.mono (by simp))⟩
    have g4 : (len0 : Int) - at_ < n := by omega
    clear hcc
    go_wp2_with (go_at_call 11; refine (works_any _).mono ?_; rintro e w' ⟨rfl, hb⟩)
    go_ret
    exact ⟨rfl, ((Below.refl _ _).alloc (Nat.le_refl _) _).trans (hb.mono (by simp))⟩
end Go.Proofs.Ytjpeceplhdmaoaa
