/-
  The walk of RtoLater.
-/
import Derived.Test.YtnngbckahkalhaaRtWk
import Derived.Test.YtnngbckahkalhaaNums
import Derived.Deep.Cut
namespace Go.Proofs.Ytnngbckahkalhaa
open Go.RowKit
set_option linter.unusedVariables false

/-- An estimator that was given but zeros. -/
def Zero (any : Bool) (S V : Int) : Prop := any = false ∨ (S = 0 ∧ V = 0)
theorem Zero.next {any : Bool} {S V : Int} (h : Zero any S V) : nS any S 0 = 0 ∧ nV any S V 0 = 0 := by
  rcases h with rfl | ⟨rfl, rfl⟩
  · exact ⟨rfl, rfl⟩
  · cases any <;> exact ⟨rfl, rfl⟩
theorem sample_zero (w0 : World) (g : Nat) (x lo hi : Int) (any : Bool) (S V : Int) (h : Est 44 w0 g x lo hi any S V) (hz : Zero any S V) :
    Calls Try.prog 14 #[.pointer (some ⟨g, 0, none⟩), .int .i64 0] w0 fun e w' => e = .returned (.int .i64 0) ∧
      Est 44 w' g (min (max 1 lo) hi) lo hi true 0 0 ∧ Turn [g] w0 w' :=
  sample_at w0 g x lo hi any S V 0 h (Int.le_refl _) _ _ _ hz.next.1 hz.next.2 rfl

set_option maxHeartbeats 3200000 in
theorem laterF (first lo hi : Int) (a : Option Addr) (len cap : Nat) (zs : List Int) (w : World) (htk : takes first lo hi = true) (hz : Nums .i64 w a len zs) (hlen : len ≤ 500) :
    Calls Try.prog 6 #[.int .i64 first, .int .i64 lo, .int .i64 hi, .slice a len cap] w fun e w' => e = .returned (.bool true) ∧ Below w.heap.size w w' := by
  have hn := new_yes w first lo hi htk
  have hn2 := fun w1 => new_yes w1 first lo hi htk
  obtain ⟨h1, h2, h3, h4⟩ := takes_iff.1 htk
  clear htk
  have d1 : decide (500 < (len : Int)) = false := by simp; omega
  obtain ⟨g, hg⟩ : ∃ g, g = w.heap.size := ⟨_, rfl⟩
  rw [← hg] at hn
  have HGG := Lib.hid hg
  have HZ := Lib.hid hz
  clear hg hz
  go_enter Try.func6, Try.ntmps6
  go_wp2_with fail
  refine hn.mono ?_
  rintro e wa ⟨rfl, hs1, ht1, hlt1⟩
  clear hn
  obtain ⟨g2, hg2⟩ : ∃ g2, g2 = wa.heap.size := ⟨_, rfl⟩
  replace hn2 := hn2 wa
  rw [← hg2] at hn2
  have hgg : g < g2 := by have := HGG.out; omega
  have HG2 := Lib.hid (show w.heap.size ≤ g2 by have := HGG.out; omega)
  have HT1 := Lib.hid ht1
  have HS1 := Lib.hid hs1
  clear hs1 ht1 hg2 hlt1
  go_wp2_with fail
  refine hn2.mono ?_
  rintro e wb ⟨rfl, hs2, ht2, _⟩
  have HS2 := Lib.hid (And.intro (HS1.out.turn ht2 (by simp)) hs2)
  have HT2 := Lib.hid (HT1.out.trans ht2)
  clear hs2 ht2 hn2 HS1 HT1
  go_wp2
  go_loopw [13] (fun x wr => ∃ (i : Nat) (v : Int) (any : Bool) (S V : Int) (v2 : Int) (any2 : Bool) (S2 V2 : Int), i ≤ len ∧ x = .int .i64 (i : Int) ∧ Est 44 wr g v lo hi any S V ∧ Est 44 wr g2 v2 lo hi any2 S2 V2 ∧ Turn [] w wr ∧ Zero any2 S2 V2) (fun x _ => len - (intOf x).toNat)
  case atStart => exact ⟨0, first, false, 0, 0, first, false, 0, 0, by omega, rfl, HS2.out.1, HS2.out.2, HT2.out, .inl rfl⟩
  case round =>
    obtain ⟨i, v, any, S, V, v2, any2, S2, V2, hi', rfl, hs, hq, hT, hzr⟩ := hrel
    have HT := Lib.hid hT
    have HQ := Lib.hid (And.intro hq hzr)
    clear hq hzr
    by_cases hil : i < len
    · obtain ⟨z, hzi⟩ : ∃ z, zs[i]? = some z := ⟨zs[i]'(by rw [HZ.out.1]; exact hil), by simp [HZ.out.1, hil]⟩
      have hwz := wf_i64_in (HZ.out.2.2.1 z (List.mem_of_getElem? hzi))
      obtain ⟨gl, off, rfl, hgl, hc⟩ := (HZ.out.below (hT.below (Nat.le_refl _) (by simp)) (Nat.le_refl _)).2.2.2 i z hzi
      have HH := Lib.hid (And.intro hzi hgl)
      clear hT hzi hgl
      by_cases hz0 : z < 0
      · have d2 : decide (z < 0) = true := by simpa using hz0
        have HS := Lib.hid hs
        clear hz0 hs
        go_wp2
        go_roundw
        case rel => exact ⟨i + 1, _, _, _, _, _, _, _, _, by omega, by go_num, HS.out, HQ.out.1, HT.out, HQ.out.2⟩
        case measure => simp [intOf]; omega
      · have d2 : decide (z < 0) = false := by simpa using hz0
        have hm0 : 0 ≤ z := by omega
        have hsm := sample_any wr g v lo hi any S V z hs hm0
        have hng := (hs.good.sample (t := min z 1048576) (by omega) (by omega))
        generalize nS any S (min z 1048576) = Sn at *
        generalize nV any S V (min z 1048576) = Vn at *
        have e1 : min (max 1 lo) hi ≤ nX Sn Vn lo hi := by have := hng.s0; unfold nX lim; omega
        have e2 : decide (nX Sn Vn lo hi < min (max 1 lo) hi) = false := by rw [decide_eq_false_iff_not]; omega
        generalize nX Sn Vn lo hi = vn at *
        clear hz0 hs hm0 hng e1
        go_wp2_with fail
        refine hsm.mono ?_
        rintro e wc ⟨rfl, hsn, htn⟩
        have HTn := Lib.hid (HT.out.over htn (by have := HGG.out; intro j hj; simp at hj; omega))
        have HSn := Lib.hid hsn
        have hsz := sample_zero wc g2 _ lo hi _ _ _ (HQ.out.1.turn htn (by simp; omega)) HQ.out.2
        clear hsm hsn htn
        go_wp2_with fail
        refine hsz.mono ?_
        rintro e wd ⟨rfl, hsz', htz⟩
        have HTz := Lib.hid (HTn.out.over htz (by have := HG2.out; intro j hj; simp at hj; omega))
        have hsn := HSn.out.turn htz (by simp; omega)
        have HSz := Lib.hid (And.intro hsn hsz')
        have hv1 := value_any wd g _ _ _ _ _ _ hsn
        have hv2 := value_any wd g2 _ _ _ _ _ _ hsz'
        clear htz hsn hsz' hsz
        go_wp2_with fail
        refine hv2.mono ?_
        rintro e w' ⟨rfl, rfl⟩
        go_wp2_with fail
        refine hv1.mono ?_
        rintro e w' ⟨rfl, rfl⟩
        go_wp2_with fail
        refine hv2.mono ?_
        rintro e w' ⟨rfl, rfl⟩
        clear hv1 hv2
        go_wp2
        go_roundw
        case rel => exact ⟨i + 1, _, _, _, _, _, _, _, _, by omega, by go_num, HSz.out.1, HSz.out.2, HTz.out, .inr ⟨rfl, rfl⟩⟩
        case measure => simp [intOf]; omega
    · obtain rfl : len = i := by omega
      clear hT hs
      go_wp2_with fail
      refine (works_any wr).mono ?_
      rintro e w6 ⟨rfl, ht6⟩
      have HT6 := Lib.hid (HT.out.trans ht6)
      clear ht6
      go_wp2
      go_ret
      exact ⟨rfl, HT6.out.below (Nat.le_refl _) (by simp)⟩

set_option maxHeartbeats 800000 in
theorem laterL (first lo hi : Int) (a : Option Addr) (len cap : Nat) (w : World) (htk : takes first lo hi = true) (hlen : 500 < len) :
    Calls Try.prog 6 #[.int .i64 first, .int .i64 lo, .int .i64 hi, .slice a len cap] w fun e w' => e = .returned (.bool true) ∧ Below w.heap.size w w' := by
  have hn := fun w1 => new_yes w1 first lo hi htk
  have d1 : decide (500 < (len : Int)) = true := by simp; omega
  clear htk hlen
  go_enter Try.func6, Try.ntmps6
  go_wp2_with fail
  refine (hn w).mono ?_
  rintro e wa ⟨rfl, _, ht1, _⟩
  go_wp2_with fail
  refine (hn wa).mono ?_
  rintro e wb ⟨rfl, _, ht2, _⟩
  have HT := Lib.hid (ht1.trans ht2)
  clear hn ht1 ht2
  go_wp2_with fail
  refine (works_any wb).mono ?_
  rintro e w1 ⟨rfl, ht1⟩
  have HT1 := Lib.hid (HT.out.trans ht1)
  clear ht1
  go_wp2
  go_ret
  exact ⟨rfl, HT1.out.below (Nat.le_refl _) (by simp)⟩
set_option maxHeartbeats 800000 in
theorem laterN (first lo hi : Int) (a : Option Addr) (len cap : Nat) (w : World) (htk : takes first lo hi = false) :
    Calls Try.prog 6 #[.int .i64 first, .int .i64 lo, .int .i64 hi, .slice a len cap] w fun e w' => e = .returned (.bool true) ∧ Below w.heap.size w w' := by
  have hn := new_no w first lo hi htk
  clear htk
  go_enter Try.func6, Try.ntmps6
  go_wp2_with fail
  refine hn.mono ?_
  rintro e w' ⟨rfl, rfl⟩
  go_wp2_with fail
  refine hn.mono ?_
  rintro e w' ⟨rfl, rfl⟩
  clear hn
  go_wp2_with fail
  refine (works_any w).mono ?_
  rintro e w1 ⟨rfl, ht1⟩
  go_wp2
  go_ret
  exact ⟨rfl, ht1.below (Nat.le_refl _) (by simp)⟩

theorem rtoLater_walk (first lo hi : Int) (a : Option Addr) (len cap : Nat) (zs : List Int) (w : World) (w1 : (Lit.int .i64 first).wf = true) (w2 : (Lit.int .i64 lo).wf = true) (w3 : (Lit.int .i64 hi).wf = true) (hz : IsRow .i64 w a len cap zs) :
    Calls Try.prog 6 #[.int .i64 first, .int .i64 lo, .int .i64 hi, .slice a len cap] w fun e w' => e = .returned (.bool true) ∧ Below w.heap.size w w' := by
  cases htk : takes first lo hi
  · exact laterN first lo hi a len cap w htk
  · by_cases hl : len ≤ 500
    · exact laterF first lo hi a len cap _ w htk hz.nums.1 hl
    · exact laterL first lo hi a len cap w htk (by omega)
end Go.Proofs.Ytnngbckahkalhaa
