/-
  The walk of SpansSettle.
-/
import Derived.Test.YtjdkbcecnlfhjaaLSpFew
namespace Go.Proofs.Ytjdkbcecnlfhjaa
open Go.RowKit
set_option linter.unusedVariables false

theorem within_at (w : World) (x : Int) (k : Nat) (hk : x = (k : Int)) (hk2 : k ≤ 4294967295) (a : Option Addr) (len cap : Nat) (zs : List Int) (hz : U32s w a len zs) (b : Bool) (hb : among zs k = b) :
    Calls Try.prog 29 #[.slice a len cap, .int .u32 x] w fun e w' => e = .returned (.bool b) ∧ w = w' := by
  subst hk
  have := within_any w (k : Int) (by omega) a len cap zs hz
  rw [Int.toNat_natCast, hb] at this
  exact this

theorem cnt_run {f : Nat → Bool} (hs : Sup f) (n : Nat) (h : ∀ k, 1 ≤ k → k ≤ n → f k = true) : cnt (shf n f) + n = cnt f := by
  induction n with
  | zero => rw [shf_zero hs, Nat.add_zero]
  | succ n ih =>
    have h1 := ih (fun k a b => h k a (by omega))
    have h2 := cnt_shf (hs.shf n)
    rw [shf_shf] at h2
    have e : shf n f 1 = true := by rw [shf_at _ _ _ (Nat.le_refl _), Nat.add_comm]; exact h (n + 1) (by omega) (Nat.le_refl _)
    rw [e, if_pos rfl] at h2
    omega

theorem settle_zero (w : World) (sb bm : Nat) (base : Int) (f : Nat → Bool) (h : IsSet w sb bm base f) (h1 : f 1 = false) :
    Calls Try.prog 16 #[.pointer (some ⟨sb, 0, none⟩)] w fun e w' => e = .returned (.int .i64 0) ∧ IsSet w' sb bm base f ∧ Turn [sb, bm] w w' := by
  have := settle_any w sb bm base f h 0 ⟨fun k a b => by omega, h1⟩
  have e : (base + ((0 : Nat) : Int)) % 4294967296 = base := by have := h.in; omega
  rw [e, shf_zero h.sup] at this
  exact this

/-- Behind the step of the base by n: a distance that was at most n is no more in; one beyond is. -/
theorem shf_back {f : Nat → Bool} (hs : Sup f) (base : Int) (hb : 0 ≤ base ∧ base ≤ 4294967295) (n : Nat) (hn : n ≤ 8192) (z : Int) (hz : 0 ≤ z ∧ z ≤ 4294967295) :
    shf n f (dist ((base + n) % 4294967296) ((base + z) % 4294967296)) = (decide ((n : Int) < z) && f z.toNat) := by
  by_cases h : (n : Int) < z
  · have e : dist ((base + n) % 4294967296) ((base + z) % 4294967296) = z.toNat - n := by unfold dist; omega
    rw [e, shf_at _ _ _ (by omega), show z.toNat - n + n = z.toNat by omega]
    simp [h]
  · by_cases h0 : (n : Int) = z
    · have e : dist ((base + n) % 4294967296) ((base + z) % 4294967296) = 0 := by subst h0; exact dist_self _
      rw [e]; simp [shf, h]
    · have e : 4096 < dist ((base + n) % 4294967296) ((base + z) % 4294967296) := by unfold dist; omega
      rw [(hs.shf n).far e]; simp [h]

set_option maxHeartbeats 3200000 in
theorem settleF (w : World) (f : Nat → Bool) (hsup : Sup f) (base : Int) (hb : 0 ≤ base ∧ base ≤ 4294967295) (a : Option Addr) (len cap : Nat) (ys : List Int) (hu : ∀ w', Turn [] w w' → U32s w' a len ys) (hfy : ∀ d, f d = among ys d) (hcap : len ≤ cap) (hlen : len ≤ 200)
    (hf : Calls Try.prog 28 #[.int .u32 base, .slice a len cap] w (RetSet base f w)) :
    Calls Try.prog 5 #[.int .u32 base, .slice a len cap] w fun e w' => e = .returned (.bool true) ∧ Below w.heap.size w w' := by
  obtain ⟨n, hR⟩ : ∃ n, Run f n := by
    cases e : f 1
    · exact ⟨0, fun k h1 h2 => by omega, e⟩
    · obtain ⟨b, h1, h2, h3⟩ := run_end f hsup 1 e
      exact ⟨b, h2, h3⟩
  have hn := hR.le hsup
  have hcn := cnt_run hsup n hR.1
  have hcl := cnt_le f
  have HU := Lib.hid hu
  have HFY := Lib.hid hfy
  have HR := Lib.hid hR
  have HCN := Lib.hid (show ((cnt (shf n f) : Nat) : Int) = ((cnt f : Nat) : Int) - (n : Int) by omega)
  clear hu hfy hR hcn
  go_enter Try.func5, Try.ntmps5
  go_wp2_with fail
  refine hf.mono ?_
  rintro e w1 ⟨sb, bm, rfl, hsb, hbm, hs1, ht1⟩
  have HT1 := Lib.hid ht1
  have hc1 := count_any w1 sb bm base f hs1
  have hse := settle_any w1 sb bm base f hs1 n HR.out
  clear ht1 hf
  go_wp2_with fail
  refine hc1.mono ?_
  rintro e w' ⟨rfl, rfl⟩
  clear hc1
  go_wp2_with fail
  refine hse.mono ?_
  rintro e w2 ⟨rfl, hs2, ht2⟩
  have HT2 := Lib.hid (HT1.out.over ht2 (by intro j hj; simp at hj; omega))
  have HS2 := Lib.hid hs2
  clear ht2 hse hs1 hs2
  go_wp2
  go_loop [8] (fun x => ∃ k : Nat, 1 ≤ k ∧ k ≤ n + 1 ∧ x = .int .i64 k) (fun x => n + 1 - (intOf x).toNat)
  case atStart => exact ⟨1, by omega, by omega, rfl⟩
  case round =>
    obtain ⟨k, hk1, hk2, rfl⟩ := hrel
    by_cases hlt : k ≤ n
    · go_wp2_with fail
      refine (within_at w2 _ k (by first | rfl | omega) (by omega) a len cap ys (HU.out w2 HT2.out) true (by rw [← HFY.out]; exact HR.out.1 k hk1 hlt)).mono ?_
      rintro e w' ⟨rfl, rfl⟩
      go_wp2_with fail
      refine (has_at w2 sb bm _ ((base + (k : Int)) % 4294967296) _ HS2.out (by omega) _ rfl false (by rw [shf_back hsup base hb n (by omega) (k : Int) (by omega)]; simp; omega)).mono ?_
      rintro e w' ⟨rfl, rfl⟩
      go_wp2
      go_round
      case rel => exact ⟨k + 1, by omega, by omega, by go_num⟩
      case measure => simp [intOf]; omega
    · have hc2 := count_any w2 sb bm _ _ HS2.out
      rw [HCN.out] at hc2
      have hb2 := base_any w2 sb bm _ _ HS2.out
      have h01 : shf n f 1 = false := by rw [shf_at _ _ _ (Nat.le_refl _), Nat.add_comm]; exact HR.out.2
      have H01 := Lib.hid h01
      have hse := settle_zero w2 sb bm _ _ HS2.out h01
      clear h01
      go_wp2_with fail
      refine (within_at w2 _ (n + 1) (by simp) (by omega) a len cap ys (HU.out w2 HT2.out) false (by rw [← HFY.out]; exact HR.out.2)).mono ?_
      rintro e w' ⟨rfl, rfl⟩
      go_wp2_with fail
      refine hb2.mono ?_
      rintro e w' ⟨rfl, rfl⟩
      go_wp2_with fail
      refine hc2.mono ?_
      rintro e w' ⟨rfl, rfl⟩
      go_wp2_with fail
      refine hse.mono ?_
      rintro e w3 ⟨rfl, hs3, ht3⟩
      have HT3 := Lib.hid (HT2.out.over ht3 (by intro j hj; simp at hj; omega))
      have HS3 := Lib.hid hs3
      clear ht3 hse hs3 hb2 hc2
      go_wp2
      go_loop [9] (fun x => ∃ i : Nat, i ≤ len ∧ x = .int .i64 i) (fun x => len - (intOf x).toNat)
      case atStart => exact ⟨0, by omega, rfl⟩
      case round =>
        obtain ⟨i, hi, rfl⟩ := hrel
        by_cases hil : i < len
        · have hU := HU.out w3 HT3.out
          have hil' : i < ys.length := by rw [hU.1]; exact hil
          obtain ⟨g, off, rfl, hg1, hg2⟩ := hU.2.2.2 i ys[i] (by simp [hil'])
          have hz := hU.2.2.1 ys[i] (List.getElem_mem hil')
          have hfz : Hid (1 ≤ ys[i] → ys[i] ≤ 4096 → f ys[i].toNat = true) := by
            intro h1 h2
            rw [HFY.out]
            unfold among
            rw [(near_iff _).2 (by omega), Bool.true_and, List.any_eq_true]
            exact ⟨ys[i], List.getElem_mem hil', by simp⟩
          clear hU
          generalize ys[i] = z at *
          by_cases h1 : (n : Int) < z
          · by_cases h2 : z ≤ 4096
            · have e1 : decide ((n : Int) < z) = true := by simpa using h1
              have e2 : decide (z ≤ 4096) = true := by simpa using h2
              go_wp2_with fail
              refine (has_at w3 sb bm _ ((base + z) % 4294967296) _ HS3.out (by omega) _ rfl true (by rw [shf_back hsup base hb n (by omega) z hz, hfz.out (by omega) h2]; simp; omega)).mono ?_
              rintro e w' ⟨rfl, rfl⟩
              go_wp2
              go_round
              case rel => exact ⟨i + 1, by omega, by go_num⟩
              case measure => simp [intOf]; omega
            · have e1 : decide ((n : Int) < z) = true := by simpa using h1
              have e2 : decide (z ≤ 4096) = false := by simpa using h2
              go_wp2
              go_round
              case rel => exact ⟨i + 1, by omega, by go_num⟩
              case measure => simp [intOf]; omega
          · have e1 : decide ((n : Int) < z) = false := by simpa using h1
            go_wp2
            go_round
            case rel => exact ⟨i + 1, by omega, by go_num⟩
            case measure => simp [intOf]; omega
        · have hb3 := base_any w3 sb bm _ _ HS3.out
          go_wp2_with fail
          refine hb3.mono ?_
          rintro e w' ⟨rfl, rfl⟩
          go_wp2_with fail
          refine (has_at w3 sb bm _ _ _ HS3.out (by omega) 1 (by unfold dist; omega) false H01.out).mono ?_
          rintro e w' ⟨rfl, rfl⟩
          go_wp2_with fail
          refine (works_any w3).mono ?_
          rintro e w4 ⟨rfl, ht4⟩
          have HT4 := Lib.hid (HT3.out.trans ht4)
          clear ht4
          go_wp2
          go_ret
          exact ⟨rfl, HT4.out.below (Nat.le_refl _) (by simp)⟩

set_option maxHeartbeats 800000 in
theorem spansSettle_walk (base : Int) (a : Option Addr) (len cap : Nat) (zs : List Int) (w : World) (wb : (Lit.int .u32 base).wf = true) (hz : IsRow .u32 w a len cap zs) :
    Calls Try.prog 5 #[.int .u32 base, .slice a len cap] w fun e w' => e = .returned (.bool true) ∧ Below w.heap.size w w' := by
  have hb := wf_u32_in wb
  obtain ⟨hu, hcap⟩ := hz.u32s
  clear hz wb
  by_cases hlen : len ≤ 200
  · exact settleF w _ (fillF_sup _) base hb a len cap _ (fun w' ht => hu.turn (ht.below (Nat.le_refl _) (by simp)) (Nat.le_refl _)) (fillF_at _) hcap hlen (filled_any w base hb a len cap _ hu)
  · go_enter Try.func5, Try.ntmps5
    go_wp2_with fail
    refine (works_any w).mono ?_
    rintro e w1 ⟨rfl, ht⟩
    have HT := Lib.hid ht
    clear ht
    go_wp2
    go_ret
    exact ⟨rfl, HT.out.below (Nat.le_refl _) (by simp)⟩
end Go.Proofs.Ytjdkbcecnlfhjaa
