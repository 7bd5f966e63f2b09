/-
  The walk of RingPlays. Written by wip/tools/genring_plays.py.
-/
import Derived.Test.YtdlcmmodhicieaaRingWorks
import Derived.Test.YtdlcmmodhicieaaRingBoth
import Derived.Test.YtdlcmmodhicieaaMixed
import Derived.Deep.RegionWith
namespace Go.Proofs.Ytdlcmmodhicieaa
open Go.RowKit
set_option linter.unusedVariables false

/-- A slice of steps that came in (or nil). -/
def StepRow5 (w : World) (a : Option Addr) (len : Nat) (ss : List (Int × ByteArray × Int)) : Prop :=
  ss.length = len ∧ ∀ (i : Nat) s, ss[i]? = some s → ((-9223372036854775808 ≤ s.1 ∧ s.1 ≤ 9223372036854775807) ∧ (-9223372036854775808 ≤ s.2.2 ∧ s.2.2 ≤ 9223372036854775807)) ∧
    ∃ g off, a = some ⟨g, off, none⟩ ∧ g < w.heap.size ∧ w.cell? ⟨g, off + i * 3, none⟩ = some (.int .i64 s.1) ∧ w.cell? ⟨g, off + i * 3 + 1, none⟩ = some (.string s.2.1) ∧ w.cell? ⟨g, off + i * 3 + 2, none⟩ = some (.int .i64 s.2.2)
def IsSteps5 (w : World) (a : Option Addr) (len cap : Nat) (ss : List (Int × ByteArray × Int)) : Prop := StepRow5 w a len ss ∧ len ≤ cap

section
open Go.ChangeShapes Go.WideShapes Go.Deep
theorem steps5_in {H : Type} {enc : TypeId × Value → H} {w : World} {base : Nat} {spare : Nat → Bool} {held : Bool} {fuel : Nat} {a : Option Addr} {len cap : Nat} {x : DataW H × List MemPlace}
    (h : DataW.trod enc Try.prog w base spare held fuel 22 [.slice a len cap] = some x) : ∃ ss, IsSteps5 w a len cap ss := by
  rcases open_mixed_structs (ks := [some .i64, none, some .i64]) Try.underlying22 Try.underlying32 (by kernel_rfl) (by kernel_rfl) (by kernel_rfl) h with h0 | ⟨y, len', cap', m, h0, hl, hm, hlm, hall⟩
  · simp only [List.cons.injEq, Value.slice.injEq, and_true] at h0
    obtain ⟨rfl, rfl, rfl⟩ := h0
    exact ⟨[], ⟨rfl, fun i s hs => by simp at hs⟩, Nat.le_refl _⟩
  · simp only [List.cons.injEq, Value.slice.injEq, and_true] at h0
    obtain ⟨rfl, rfl, rfl⟩ := h0
    have hp : ∀ i, i < len → ∃ s : Int × ByteArray × Int, ((-9223372036854775808 ≤ s.1 ∧ s.1 ≤ 9223372036854775807) ∧ (-9223372036854775808 ≤ s.2.2 ∧ s.2.2 ≤ 9223372036854775807)) ∧ ∃ g off, y = ⟨g, off, none⟩ ∧ g < w.heap.size ∧ w.cell? ⟨g, off + i * 3, none⟩ = some (.int .i64 s.1) ∧ w.cell? ⟨g, off + i * 3 + 1, none⟩ = some (.string s.2.1) ∧ w.cell? ⟨g, off + i * 3 + 2, none⟩ = some (.int .i64 s.2.2) := by
      intro i hi
      obtain ⟨v0, c0, _⟩ := hall 0 (by omega) 0 (some .i64) rfl
      obtain ⟨v1, c1, z1, rfl, w1⟩ := hall i (by omega) 0 (some .i64) rfl
      obtain ⟨v2, c2, z2, rfl, w2⟩ := hall i (by omega) 1 none rfl
      obtain ⟨v3, c3, z3, rfl, w3⟩ := hall i (by omega) 2 (some .i64) rfl
      obtain ⟨b, off, spot⟩ := y
      have hspot : spot = none := by simpa [Addr.add] using World.cell?_spot c0
      subst hspot
      have hadd : ∀ k, (⟨b, off, none⟩ : Addr).add k = ⟨b, off + k, none⟩ := by intro k; unfold Addr.add; split <;> simp_all
      rw [hadd] at c1 c2 c3
      refine ⟨(z1, z2, z3), ⟨wf_i64_in w1, wf_i64_in w3⟩, b, off, rfl, World.block_lt_of_cell? w _ c1, c1, c2, c3⟩
    obtain ⟨ss, hss, hall2⟩ := choose_below len hp
    refine ⟨ss, ⟨hss, fun i s hs => ?_⟩, hl⟩
    obtain ⟨ok, g, off, h1, h2⟩ := hall2 i s hs
    exact ⟨ok, g, off, by rw [h1], h2⟩
end

/-- Texts as cells. -/
def strs5 (ss : List ByteArray) : List Value := ss.map Value.string

set_option maxRecDepth 100000 in
set_option maxHeartbeats 12800000 in
theorem playsF (w : World) (n : Nat) (hn1 : 1 ≤ n) (hn2 : n ≤ 2000) (a : Option Addr) (len cap : Nat) (sts : List (Int × ByteArray × Int)) (hs : StepRow5 w a len sts) (hcap : len ≤ cap) (hlen : len ≤ 300) :
    Calls Try.prog 3 #[.int .i64 n, .slice a len cap] w fun e w' => e = .returned (.bool true) ∧ Below w.heap.size w w' := by
  have HS := Lib.hid hs
  have HSL := Lib.hid hs.1
  have hl0 : decide (300 < (len : Int)) = false := by rw [decide_eq_false_iff_not]; omega
  have hn0 : decide (2000 < (n : Int)) = false := by rw [decide_eq_false_iff_not]; omega
  clear hs
  go_enter Try.func3, Try.ntmps3
  go_wp2_with fail
  refine (new_my_str w.heap.size w (Nat.le_refl _) n hn1 (by omega)).mono ?_
  rintro e w1 ⟨rb, cb, rfl, hr1, hb1⟩
  go_wp2_with fail
  refine (both_new w.heap.size w1 (by have := hr1.size; omega) rb cb hr1 hn1 (by omega)).mono ?_
  rintro e w2 ⟨qb, rfl, hr2, hb2⟩
  have HR2 := Lib.hid hr2
  have HB2 := Lib.hid (hb1.trans hb2)
  clear hr1 hr2 hb1 hb2
  go_wp2
  go_loopw [9] (fun t wr => ∃ (i : Nat) (ss : List ByteArray), i ≤ len ∧ t = .int .i64 i ∧ BothR w.heap.size wr rb cb n ss.length (strs5 ss) qb ss.length (strs5 ss) ∧ Below w.heap.size w wr) (fun t _ => len - (intOf t).toNat)
  case atStart => exact ⟨0, [], by omega, rfl, HR2.out, HB2.out⟩
  case round =>
    obtain ⟨i, ss, hi, rfl, hr, hb⟩ := hrel
    by_cases hlt : i < len
    · have hil : i < sts.length := by rw [HSL.out]; exact hlt
      have hk0 : sts[i]? = some sts[i] := by simp [hil]
      generalize sts[i] = st at *
      obtain ⟨kd, s, ix⟩ := st
      obtain ⟨⟨hkd, hix⟩, g, off, rfl, hgb, _⟩ := HS.out.2 i _ hk0
      obtain ⟨_, g2, off2, e2, hg0, h1, h2, h3⟩ := HS.out.2 i _ hk0
      cases e2
      simp only at h1 h2 h3 hkd hix
      have hg1 := Nat.lt_of_lt_of_le hgb hb.size
      have hg2 := (hb.cell (p := ⟨g, off + i * 3, none⟩) hgb).trans h1
      have hg3 := (hb.cell (p := ⟨g, off + i * 3 + 1, none⟩) hgb).trans h2
      have hg4 := (hb.cell (p := ⟨g, off + i * 3 + 2, none⟩) hgb).trans h3
      have gl : (i : Int) < (len : Int) := by omega
      have HGB := Lib.hid hgb
      clear h1 h2 h3 hg0 hk0 hgb
      by_cases k0 : kd = 0
      · subst k0
        by_cases hm : ss.length < n
        · have HRD := Lib.hid (hr.turn ((Turn.refl [] _).drew))
          have HBD := Lib.hid hb
          have HG1 := Lib.hid hg1
          have HS2 := Lib.hid hg3
          clear hr hb
          go_wp2
          go_region_with (first
            | (go_at_call 13; refine (bpush_yes HRD.out s hm).mono ?_; rintro e w2 ⟨rfl, hr2, hb2⟩; have HR2 := Lib.hid hr2; have HB2 := Lib.hid (HBD.out.drew.trans hb2); have cs2 : w2.cell? ⟨g, off + i * 3 + 1, none⟩ = some (.string s) := (hb2.cell (p := ⟨g, off + i * 3 + 1, none⟩) HGB.out).trans HS2.out; have gl2 : g < w2.heap.size := Nat.lt_of_lt_of_le HG1.out hb2.size; clear hr2 hb2)
            | (go_at_call 14; refine (qpush_yes HR2.out s hm).mono ?_; rintro e w3 ⟨rfl, hr3, hb3⟩; have HR3 := Lib.hid hr3; have HB3 := Lib.hid (HB2.out.trans hb3); clear hr3 hb3))
          all_goals
            clear HRD HBD HG1 HS2 cs2 gl2 hg1 hg2 hg3 hg4
            obtain ⟨ss1, hss1⟩ : ∃ ss1, ss ++ [s] = ss1 := ⟨_, rfl⟩
            have hl1 : ss.length + 1 = ss1.length := by rw [← hss1]; simp
            have hf1 : strs5 ss ++ [.string s] = strs5 ss1 := by rw [← hss1]; simp [strs5]
            have hr4 := HR3.out.recast hl1 hf1 hl1 hf1
            have hb4 := HB3.out
            clear hl1 hf1 hss1 HR3 HB3 HR2 HB2 hm
            have HR9 := Lib.hid hr4
            have HB9 := Lib.hid hb4
            obtain ⟨aq, cq, q0, q1, qf, _⟩ := HR9.out.open
            have hle := HR9.out.left.le
            have hwrap : IntKind.i64.wrap ((n : Int) - ((ss1.length : Nat) : Int)) = (n : Int) - ((ss1.length : Nat) : Int) := by rw [IntKind.wrap_i64]; omega
            have HLR := Lib.hid (fun j => still_quiet (blen (HR9.out.turn ((Turn.refl [] _).drewN j))))
            have HRR := Lib.hid (fun j => draw_quiet (broom (HR9.out.turn ((Turn.refl [] _).drewN j))))
            clear hr4 hb4
            go_wp2
            go_quiet ((first | (go_at_call 20; exact HLR.out _) | (go_at_call 21; exact HRR.out _)))
            go_wp2
            go_roundw
            case rel => exact ⟨i + 1, ss1, by omega, by go_num, HR9.out.turn ((Turn.refl [] _).drewN _), below_drewN HB9.out _⟩
            case measure => simp [intOf]; omega
        · replace hm : n ≤ ss.length := by omega
          have HRD := Lib.hid (hr.turn ((Turn.refl [] _).drew))
          have HBD := Lib.hid hb
          have HG1 := Lib.hid hg1
          have HS2 := Lib.hid hg3
          clear hr hb
          go_wp2
          go_region_with (first
            | (go_at_call 13; refine (bpush_no HRD.out s hm).mono ?_; rintro e w2 ⟨rfl, hr2, hb2⟩; have HR2 := Lib.hid hr2; have HB2 := Lib.hid (HBD.out.drew.trans hb2); have cs2 : w2.cell? ⟨g, off + i * 3 + 1, none⟩ = some (.string s) := (hb2.cell (p := ⟨g, off + i * 3 + 1, none⟩) HGB.out).trans HS2.out; have gl2 : g < w2.heap.size := Nat.lt_of_lt_of_le HG1.out hb2.size; clear hr2 hb2)
            | (go_at_call 14; refine (qpush_no HR2.out s hm).mono ?_; rintro e w3 ⟨rfl, hr3, hb3⟩; have HR3 := Lib.hid hr3; have HB3 := Lib.hid (HB2.out.trans hb3); clear hr3 hb3))
          all_goals
            clear HRD HBD HG1 HS2 cs2 gl2 hg1 hg2 hg3 hg4
            have hr4 := HR3.out
            have hb4 := HB3.out
            clear HR3 HB3 HR2 HB2 hm
            have HR9 := Lib.hid hr4
            have HB9 := Lib.hid hb4
            obtain ⟨aq, cq, q0, q1, qf, _⟩ := HR9.out.open
            have hle := HR9.out.left.le
            have hwrap : IntKind.i64.wrap ((n : Int) - ((ss.length : Nat) : Int)) = (n : Int) - ((ss.length : Nat) : Int) := by rw [IntKind.wrap_i64]; omega
            have HLR := Lib.hid (fun j => still_quiet (blen (HR9.out.turn ((Turn.refl [] _).drewN j))))
            have HRR := Lib.hid (fun j => draw_quiet (broom (HR9.out.turn ((Turn.refl [] _).drewN j))))
            clear hr4 hb4
            go_wp2
            go_quiet ((first | (go_at_call 20; exact HLR.out _) | (go_at_call 21; exact HRR.out _)))
            go_wp2
            go_roundw
            case rel => exact ⟨i + 1, ss, by omega, by go_num, HR9.out.turn ((Turn.refl [] _).drewN _), below_drewN HB9.out _⟩
            case measure => simp [intOf]; omega
      · have k0' : (kd == 0) = false := by simpa using k0
        by_cases k1 : kd = 1
        · subst k1
          clear k0
          by_cases hm : 0 < ss.length
          · clear hg1 hg3 hg4
            obtain ⟨s1, ss1, rfl⟩ : ∃ s1 ss1, ss = s1 :: ss1 := by
              cases ss with
              | nil => simp at hm
              | cons s1 ss1 => exact ⟨s1, ss1, rfl⟩
            have hr1 := hr.recast (show (s1 :: ss1).length = ss1.length + 1 by simp) (show strs5 (s1 :: ss1) = .string s1 :: strs5 ss1 from rfl) (show (s1 :: ss1).length = ss1.length + 1 by simp) (show strs5 (s1 :: ss1) = .string s1 :: strs5 ss1 from rfl)
            have HBD := Lib.hid hb
            clear hr hb hm
            go_wp2_with fail
            refine (bpop_yes hr1).mono ?_
            rintro e w2 ⟨rfl, hr2, hb2⟩
            have HB2 := Lib.hid (HBD.out.trans hb2)
            clear hr1 hb2 hg2
            go_wp2_with fail
            refine (qpop_yes hr2).mono ?_
            rintro e w3 ⟨rfl, hr3, hb3⟩
            have hb4 := HB2.out.trans hb3
            clear hr2 hb3
            have HR9 := Lib.hid hr3
            have HB9 := Lib.hid hb4
            obtain ⟨aq, cq, q0, q1, qf, _⟩ := HR9.out.open
            have hle := HR9.out.left.le
            have hwrap : IntKind.i64.wrap ((n : Int) - ((ss1.length : Nat) : Int)) = (n : Int) - ((ss1.length : Nat) : Int) := by rw [IntKind.wrap_i64]; omega
            have HLR := Lib.hid (fun j => still_quiet (blen (HR9.out.turn ((Turn.refl [] _).drewN j))))
            have HRR := Lib.hid (fun j => draw_quiet (broom (HR9.out.turn ((Turn.refl [] _).drewN j))))
            clear hr3 hb4
            go_wp2
            go_quiet ((first | (go_at_call 20; exact HLR.out _) | (go_at_call 21; exact HRR.out _)))
            go_wp2
            go_roundw
            case rel => exact ⟨i + 1, ss1, by omega, by go_num, HR9.out.turn ((Turn.refl [] _).drewN _), below_drewN HB9.out _⟩
            case measure => simp [intOf]; omega
          · clear hg1 hg3 hg4
            obtain rfl : ss = [] := List.eq_nil_of_length_eq_zero (by omega)
            have hr1 := hr.recast (show ([] : List ByteArray).length = 0 from rfl) rfl (show ([] : List ByteArray).length = 0 from rfl) rfl
            clear hm
            go_wp2_with fail
            refine (bpop_no hr1).mono ?_
            rintro e w2 ⟨rfl, rfl⟩
            clear hg2
            go_wp2_with fail
            refine (qpop_no hr1).mono ?_
            rintro e w2 ⟨rfl, rfl⟩
            clear hr1
            have HR9 := Lib.hid hr
            have HB9 := Lib.hid hb
            obtain ⟨aq, cq, q0, q1, qf, _⟩ := HR9.out.open
            have hle := HR9.out.left.le
            have hwrap : IntKind.i64.wrap ((n : Int) - ((([] : List ByteArray).length : Nat) : Int)) = (n : Int) - ((([] : List ByteArray).length : Nat) : Int) := by rw [IntKind.wrap_i64]; omega
            have HLR := Lib.hid (fun j => still_quiet (blen (HR9.out.turn ((Turn.refl [] _).drewN j))))
            have HRR := Lib.hid (fun j => draw_quiet (broom (HR9.out.turn ((Turn.refl [] _).drewN j))))
            clear hr hb
            go_wp2
            go_quiet ((first | (go_at_call 20; exact HLR.out _) | (go_at_call 21; exact HRR.out _)))
            go_wp2
            go_roundw
            case rel => exact ⟨i + 1, ([] : List ByteArray), by omega, by go_num, HR9.out.turn ((Turn.refl [] _).drewN _), below_drewN HB9.out _⟩
            case measure => simp [intOf]; omega
        · have k1' : (kd == 1) = false := by simpa using k1
          by_cases k2 : kd = 2
          · subst k2
            clear k0 k1
            by_cases hm : 0 ≤ ix ∧ ix < ((ss.length : Nat) : Int)
            · obtain ⟨j, rfl⟩ : ∃ j : Nat, ix = (j : Int) := ⟨ix.toNat, by omega⟩
              have hj : j < ss.length := by omega
              have hat : (strs5 ss)[j]? = some (.string ss[j]) := by simp [strs5, hj]
              generalize ss[j] = sj at *
              have hat1 := bat_yes hr _ j hat hj
              have hat2 := qat_yes hr _ j hat hj
              clear hm hat hj
              go_wp2_with fail
              refine hat1.mono ?_
              rintro e w2 ⟨rfl, rfl⟩
              go_wp2_with fail
              refine hat2.mono ?_
              rintro e w2 ⟨rfl, rfl⟩
              clear hat1 hat2 hg1 hg2 hg3 hg4
              have HR9 := Lib.hid hr
              have HB9 := Lib.hid hb
              obtain ⟨aq, cq, q0, q1, qf, _⟩ := HR9.out.open
              have hle := HR9.out.left.le
              have hwrap : IntKind.i64.wrap ((n : Int) - ((ss.length : Nat) : Int)) = (n : Int) - ((ss.length : Nat) : Int) := by rw [IntKind.wrap_i64]; omega
              have HLR := Lib.hid (fun j => still_quiet (blen (HR9.out.turn ((Turn.refl [] _).drewN j))))
              have HRR := Lib.hid (fun j => draw_quiet (broom (HR9.out.turn ((Turn.refl [] _).drewN j))))
              clear hr hb
              go_wp2
              go_quiet ((first | (go_at_call 20; exact HLR.out _) | (go_at_call 21; exact HRR.out _)))
              go_wp2
              go_roundw
              case rel => exact ⟨i + 1, ss, by omega, by go_num, HR9.out.turn ((Turn.refl [] _).drewN _), below_drewN HB9.out _⟩
              case measure => simp [intOf]; omega
            · have hno : ix < 0 ∨ ((ss.length : Nat) : Int) ≤ ix := by omega
              have hat1 := bat_no hr ix hno
              have hat2 := qat_no hr ix hno
              clear hm hno
              go_wp2_with fail
              refine hat1.mono ?_
              rintro e w2 ⟨rfl, rfl⟩
              go_wp2_with fail
              refine hat2.mono ?_
              rintro e w2 ⟨rfl, rfl⟩
              clear hat1 hat2 hg1 hg2 hg3 hg4
              have HR9 := Lib.hid hr
              have HB9 := Lib.hid hb
              obtain ⟨aq, cq, q0, q1, qf, _⟩ := HR9.out.open
              have hle := HR9.out.left.le
              have hwrap : IntKind.i64.wrap ((n : Int) - ((ss.length : Nat) : Int)) = (n : Int) - ((ss.length : Nat) : Int) := by rw [IntKind.wrap_i64]; omega
              have HLR := Lib.hid (fun j => still_quiet (blen (HR9.out.turn ((Turn.refl [] _).drewN j))))
              have HRR := Lib.hid (fun j => draw_quiet (broom (HR9.out.turn ((Turn.refl [] _).drewN j))))
              clear hr hb
              go_wp2
              go_quiet ((first | (go_at_call 20; exact HLR.out _) | (go_at_call 21; exact HRR.out _)))
              go_wp2
              go_roundw
              case rel => exact ⟨i + 1, ss, by omega, by go_num, HR9.out.turn ((Turn.refl [] _).drewN _), below_drewN HB9.out _⟩
              case measure => simp [intOf]; omega
          · have k2' : (kd == 2) = false := by simpa using k2
            by_cases k3 : kd = 3
            · subst k3
              clear k0 k1 k2
              clear hg1 hg3 hg4
              have HBD := Lib.hid hb
              clear hb
              go_wp2_with fail
              refine (bclear hr).mono ?_
              rintro e w2 ⟨rfl, hr2, hb2⟩
              clear hr hg2
              obtain ⟨aq, cq, q0, q1, qf, _⟩ := hr2.open
              obtain ⟨hr3, hb3⟩ := hr2.wipe
              have HR3 := Lib.hid (hr3.recast (show 0 = ([] : List ByteArray).length from rfl) (show [] = strs5 [] from rfl) (show 0 = ([] : List ByteArray).length from rfl) (show [] = strs5 [] from rfl))
              have HB3 := Lib.hid ((HBD.out.trans hb2).trans hb3)
              clear hr2 hb2 hr3 hb3
              go_wp2
              clear q0 q1 qf
              generalize w2.setCell ⟨qb, 1, none⟩ (.slice none 0 0) = w3 at *
              have HR9 := Lib.hid HR3.out
              have HB9 := Lib.hid HB3.out
              obtain ⟨aq, cq, q0, q1, qf, _⟩ := HR9.out.open
              have hle := HR9.out.left.le
              have hwrap : IntKind.i64.wrap ((n : Int) - ((([] : List ByteArray).length : Nat) : Int)) = (n : Int) - ((([] : List ByteArray).length : Nat) : Int) := by rw [IntKind.wrap_i64]; omega
              have HLR := Lib.hid (fun j => still_quiet (blen (HR9.out.turn ((Turn.refl [] _).drewN j))))
              have HRR := Lib.hid (fun j => draw_quiet (broom (HR9.out.turn ((Turn.refl [] _).drewN j))))
              go_quiet ((first | (go_at_call 20; exact HLR.out _) | (go_at_call 21; exact HRR.out _)))
              go_wp2
              go_roundw
              case rel => exact ⟨i + 1, ([] : List ByteArray), by omega, by go_num, HR9.out.turn ((Turn.refl [] _).drewN _), below_drewN HB9.out _⟩
              case measure => simp [intOf]; omega
            · have k3' : (kd == 3) = false := by simpa using k3
              clear hg1 hg3 hg4
              have HR9 := Lib.hid hr
              have HB9 := Lib.hid hb
              obtain ⟨aq, cq, q0, q1, qf, _⟩ := HR9.out.open
              have hle := HR9.out.left.le
              have hwrap : IntKind.i64.wrap ((n : Int) - ((ss.length : Nat) : Int)) = (n : Int) - ((ss.length : Nat) : Int) := by rw [IntKind.wrap_i64]; omega
              have HLR := Lib.hid (fun j => still_quiet (blen (HR9.out.turn ((Turn.refl [] _).drewN j))))
              have HRR := Lib.hid (fun j => draw_quiet (broom (HR9.out.turn ((Turn.refl [] _).drewN j))))
              clear hr hb
              go_wp2
              clear hg2
              go_quiet ((first | (go_at_call 20; exact HLR.out _) | (go_at_call 21; exact HRR.out _)))
              go_wp2
              go_roundw
              case rel => exact ⟨i + 1, ss, by omega, by go_num, HR9.out.turn ((Turn.refl [] _).drewN _), below_drewN HB9.out _⟩
              case measure => simp [intOf]; omega
    · obtain rfl : len = i := by omega
      have HB9 := Lib.hid hb
      have hsz := hr.size
      clear hr hb
      go_wp2_with fail
      refine (works_any _).mono ?_
      rintro e w3 ⟨rfl, hb3⟩
      go_wp2
      go_ret
      exact ⟨rfl, HB9.out.trans (hb3.mono (by omega))⟩
end Go.Proofs.Ytdlcmmodhicieaa
