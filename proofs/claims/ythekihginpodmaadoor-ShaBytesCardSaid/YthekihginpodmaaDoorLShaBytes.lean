/-
  The walk of ShaBytes, from the contracts.
-/
import Derived.Test.YthekihginpodmaaDoorShaSt
import Derived.Test.YthekihginpodmaaDoorVals
namespace Go.Proofs.YthekihginpodmaaDoor
open Go.RowKit
set_option linter.unusedVariables false

set_option maxHeartbeats 3200000 in
set_option maxRecDepth 100000 in
theorem shaBytes_of {St : World → Addr → List Nat → List Int → Prop} (SO : SumOk) (KO : StOk St) (a : Option Addr) (len cap : Nat) (z : List Int) (w : World) (w0 : IsRow .u8 w a len cap z) (ht : Tab w) :
    Calls Tryd.prog 6 #[.slice a len cap] w fun e w' => e = .returned (.bool true) ∧ Below w.heap.size w w' := by
  obtain ⟨hr, hbyt, hcap, hmax⟩ := w0.reads
  clear w0
  generalize z.take len = zs at hr hbyt
  have HT := Lib.hid ht
  have HR := Lib.hid (And.intro hr (And.intro hbyt hr.1))
  clear hr hbyt ht
  unfold maxLen at hmax
  by_cases hlong : 300 < len
  · have hg : (300 : Int) < len := by omega
    go_enter Tryd.func6, Tryd.ntmps6
    go_wp2_with (go_at_call 10; refine (works_any SO _ HT.out).mono ?_; rintro e w' ⟨rfl, hb⟩)
    go_ret
    exact ⟨rfl, hb⟩
  have hg : ¬ (300 : Int) < len := by omega
  go_enter Tryd.func6, Tryd.ntmps6
  go_wp2_with fail
  refine (own_new KO w w (Below.refl _ _) HT.out).mono ?_
  rintro e w1 ⟨p, rfl, ho⟩
  have HO := Lib.hid ho
  clear ho
  go_wp2
  go_loopw [4] (fun i wr => ∃ k : Nat, k ≤ len ∧ i = .int .i64 k ∧ Own St w p (zs.take k) wr) (fun i _ => len - (intOf i).toNat)
  case atStart => exact ⟨0, Nat.zero_le _, rfl, HO.out⟩
  case round =>
    obtain ⟨k, hk, rfl, ho⟩ := hrel
    by_cases hlt : k < len
    · obtain ⟨b, off, rfl, hbl⟩ : ∃ b off, a = some ⟨b, off, none⟩ ∧ b < w.heap.size := by
        rcases HR.out.1.2 with h | ⟨b, off, h1, h2, _⟩
        · omega
        · exact ⟨b, off, h1, h2⟩
      have HO1 := Lib.hid ho
      have g1 : (k : Int) < len := by omega
      have g2 : (0 : Int) ≤ k := by omega
      have g3 : (k : Int) + 1 ≤ cap := by omega
      have g5 : IntKind.i64.wrap ((k : Int) + 1) = (k : Int) + 1 := by rw [IntKind.wrap_i64]; omega
      have hpart : Reads w (some ⟨b, off + k, none⟩) 1 ((zs.drop k).take 1) := HR.out.1.part k 1 (by omega)
      have hpre : Reads w (some ⟨b, off, none⟩) (k + 1) (zs.take (k + 1)) := by
        have := HR.out.1.part 0 (k + 1) (by omega)
        simpa using this
      have hjoin : zs.take k ++ (zs.drop k).take 1 = zs.take (k + 1) := by
        have hl := HR.out.2.2
        rw [List.take_add, List.take_drop]
      have HPA := Lib.hid hpart
      have HJ := Lib.hid hjoin
      have FB := Lib.hid (And.intro (HR.out.2.1.take (k + 1)) (And.intro (show (zs.take (k + 1)).length ≤ 1099511627776 by have := HR.out.2.2; simp; omega) (And.intro hpre (And.intro g5 (And.intro g2 (And.intro g3 (And.intro g1 g1)))))))
      clear ho hpart hpre hjoin
      go_wp2_with fail
      refine (own_write KO w wr p _ _ _ 1 (cap - k) HO1.out (HR.out.2.1.take k) HPA.out ((HR.out.2.1.drop k).take 1) (by omega) (by unfold maxLen; omega) (by have := HR.out.2.2; simp; omega) HT.out).mono ?_
      rintro e w2 ⟨rfl, ho2⟩
      rw [HJ.out] at ho2
      have HO2 := Lib.hid ho2
      clear ho2 g5
      go_wp2
      refine wp_region_any (by kernel_rfl) ?_
      refine Vals.wpAny_vals [(25, .pointer (some p)), (26, dv (sha (zs.take (k + 1)))), (27, .slice (some ⟨b, off, none⟩) len cap), (28, .int .i64 (k : Int)), (29, .int .i64 ((k : Int) + 1)), (30, .slice (some ⟨b, off, none⟩) (k + 1) cap), (31, dv (sha (zs.take (k + 1)))), (32, .bool false)] [25, 26, 27, 28, 29, 30, 31, 32] 41 (fun W => Own St w p (zs.take (k + 1)) W) _ _ rfl (by kernel_rfl) rfl (by kernel_rfl) (by decide) ?step ?fin (HO2.out.drew KO)
      case step =>
        intro i o pp ho hp a W hI hdf hdep hfr K hK
        match i, ho, hp with
          | 0, ho, hp =>
            have ho' := ho
            simp only [List.getElem?_toArray, List.getElem?_cons_zero, Option.some.injEq] at ho hp
            subst ho hp
            have r3 : a.eval (.tmp 3) = .pointer (some p) := hfr 3 (by decide)
            rw [Vals.eval_tmp] at r3
            refine Vals.wpOp_run ho' rfl ?_
            clear hdf hdep hfr ho'
            go_simp
            exact hK _ hI
          | 1, ho, hp =>
            have ho' := ho
            simp only [List.getElem?_toArray, List.getElem?_cons_zero, List.getElem?_cons_succ, Option.some.injEq] at ho hp
            subst ho hp
            have r25 : a.eval (.tmp 25) = .pointer (some p) := hdep ⟨0, .data⟩ (by simp) rfl (25, .pointer (some p)) rfl
            rw [Vals.eval_tmp] at r25
            refine Vals.wpOp_run ho' rfl ?_
            clear hdf hdep hfr ho'
            go_simp
            refine (own_sum KO w _ p _ hI FB.out.1 FB.out.2.1 HT.out).mono ?_
            rintro e w' ⟨rfl, h⟩
            exact hK _ h
          | 2, ho, hp =>
            have ho' := ho
            simp only [List.getElem?_toArray, List.getElem?_cons_zero, List.getElem?_cons_succ, Option.some.injEq] at ho hp
            subst ho hp
            have r0 : a.eval (.tmp 0) = .slice (some ⟨b, off, none⟩) len cap := hfr 0 (by decide)
            rw [Vals.eval_tmp] at r0
            refine Vals.wpOp_run ho' rfl ?_
            clear hdf hdep hfr ho'
            go_simp
            exact hK _ hI
          | 3, ho, hp =>
            have ho' := ho
            simp only [List.getElem?_toArray, List.getElem?_cons_zero, List.getElem?_cons_succ, Option.some.injEq] at ho hp
            subst ho hp
            have r4 : a.eval (.tmp 4) = .int .i64 (k : Int) := hfr 4 (by decide)
            rw [Vals.eval_tmp] at r4
            refine Vals.wpOp_run ho' rfl ?_
            clear hdf hdep hfr ho'
            go_simp
            exact hK _ hI
          | 4, ho, hp =>
            have ho' := ho
            simp only [List.getElem?_toArray, List.getElem?_cons_zero, List.getElem?_cons_succ, Option.some.injEq] at ho hp
            subst ho hp
            have r28 : a.eval (.tmp 28) = .int .i64 (k : Int) := hdep ⟨3, .data⟩ (by simp) rfl (28, .int .i64 (k : Int)) rfl
            rw [Vals.eval_tmp] at r28
            have hx := FB.out.2.2.2.1
            refine Vals.wpOp_run ho' rfl ?_
            clear hdf hdep hfr ho'
            go_simp
            exact hK _ hI
          | 5, ho, hp =>
            have ho' := ho
            simp only [List.getElem?_toArray, List.getElem?_cons_zero, List.getElem?_cons_succ, Option.some.injEq] at ho hp
            subst ho hp
            have r27 : a.eval (.tmp 27) = .slice (some ⟨b, off, none⟩) len cap := hdep ⟨2, .data⟩ (by simp) rfl (27, .slice (some ⟨b, off, none⟩) len cap) rfl
            rw [Vals.eval_tmp] at r27
            have r29 : a.eval (.tmp 29) = .int .i64 ((k : Int) + 1) := hdep ⟨4, .data⟩ (by simp) rfl (29, .int .i64 ((k : Int) + 1)) rfl
            rw [Vals.eval_tmp] at r29
            obtain ⟨_, _, _, _, g1, g2, g3, g4⟩ := FB.out
            refine Vals.wpOp_run ho' rfl ?_
            clear hdf hdep hfr ho'
            go_simp
            exact hK _ hI
          | 6, ho, hp =>
            have ho' := ho
            simp only [List.getElem?_toArray, List.getElem?_cons_zero, List.getElem?_cons_succ, Option.some.injEq] at ho hp
            subst ho hp
            have r30 : a.eval (.tmp 30) = .slice (some ⟨b, off, none⟩) (k + 1) cap := hdep ⟨5, .data⟩ (by simp) rfl (30, .slice (some ⟨b, off, none⟩) (k + 1) cap) rfl
            rw [Vals.eval_tmp] at r30
            refine Vals.wpOp_run ho' rfl ?_
            clear hdf hdep hfr ho'
            go_simp
            refine (SO _ (k + 1) cap _ _ (FB.out.2.2.1.below hI.below) FB.out.1 (by omega) (by omega) (HT.out.below hI.below HT.out.lt)).mono ?_
            rintro e w' ⟨rfl, hb⟩
            exact hK _ (hI.keep KO hb)
          | 7, ho, hp =>
            have ho' := ho
            simp only [List.getElem?_toArray, List.getElem?_cons_zero, List.getElem?_cons_succ, Option.some.injEq] at ho hp
            subst ho hp
            have r26 : a.eval (.tmp 26) = dv (sha (zs.take (k + 1))) := hdep ⟨1, .data⟩ (by simp) rfl (26, dv (sha (zs.take (k + 1)))) rfl
            rw [Vals.eval_tmp] at r26
            have r31 : a.eval (.tmp 31) = dv (sha (zs.take (k + 1))) := hdep ⟨6, .data⟩ (by simp) rfl (31, dv (sha (zs.take (k + 1)))) rfl
            rw [Vals.eval_tmp] at r31
            have heq := fun W => neq_sha W (zs.take (k + 1))
            have hgd := fun W x y => guard_neq W x y ((sha (zs.take (k + 1))).map (Value.int .u8)).toArray ((sha (zs.take (k + 1))).map (Value.int .u8)).toArray
            refine Vals.wpOp_run ho' rfl ?_
            clear hdf hdep hfr ho'
            go_simp
            exact hK _ hI
          | i + 8, ho, hp => simp at ho
      case fin =>
        intro w3 ho3
        have HO3 := Lib.hid ho3
        clear ho3
        simp only [Vals.puts, List.foldl_cons, List.foldl_nil]
        go_frame
        go_wp2
        go_roundw
        case rel => exact ⟨k + 1, by omega, by go_num, HO3.out⟩
        case measure => simp [intOf]; omega
    · obtain rfl : k = len := by omega
      rw [List.take_of_length_le (Nat.le_of_eq HR.out.2.2)] at ho
      have HO1 := Lib.hid ho
      have hs := own_sum KO w wr p zs ho HR.out.2.1 (by have := HR.out.2.2; omega) HT.out
      have heq := fun W => eql_sha W zs
      have hgd := fun W x y => guard_dv W x y ((sha zs).map (Value.int .u8)).toArray ((sha zs).map (Value.int .u8)).toArray
      have HS := Lib.hid hs
      clear ho hs
      go_wp2_with fail
      refine HS.out.mono ?_
      rintro e w2 ⟨rfl, ho2⟩
      have hs2 := SO a k cap zs w2 (HR.out.1.below ho2.below) HR.out.2.1 (by omega) (by omega) (HT.out.below ho2.below HT.out.lt)
      have HS2 := Lib.hid hs2
      have HB2 := Lib.hid ho2.below
      clear ho2 hs2
      go_wp2_with fail
      refine HS2.out.mono ?_
      rintro e w3 ⟨rfl, hb3⟩
      have HB3 := Lib.hid (HB2.out.trans (hb3.mono HB2.out.size))
      clear hb3
      go_wp2_with fail
      clear heq hgd
      refine (works_any SO w3 (HT.out.below HB3.out HT.out.lt)).mono ?_
      rintro e w4 ⟨rfl, hb4⟩
      go_wp2
      go_ret
      exact ⟨rfl, HB3.out.trans (hb4.mono HB3.out.size)⟩
end Go.Proofs.YthekihginpodmaaDoor
