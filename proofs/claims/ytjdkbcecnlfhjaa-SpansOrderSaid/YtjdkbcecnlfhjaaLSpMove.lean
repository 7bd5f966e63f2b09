/-
  The walk of SpansMove.
-/
import Derived.Test.YtjdkbcecnlfhjaaLSpSettle
namespace Go.Proofs.Ytjdkbcecnlfhjaa
open Go.RowKit
set_option linter.unusedVariables false

theorem has_q (w : World) (j : Nat) (sb bm : Nat) (base x : Int) (f : Nat → Bool) (h : IsSet w sb bm base f) (hx : 0 ≤ x ∧ x ≤ 4294967295) (b : Bool) (hb : f (dist base x) = b) :
    Calls Try.prog 14 #[.pointer (some ⟨sb, 0, none⟩), .int .u32 x] (w.drewN j) fun e w'' => e = .returned (.bool b) ∧ ∃ m, w'' = w.drewN m :=
  quiet_left (has_at (w.drewN j) sb bm base x f (h.turn (bs := []) ((Turn.refl _ _).drewN _) (by simp) (by simp)) hx _ rfl b hb)

set_option maxHeartbeats 3200000 in
theorem moveF_no (w : World) (f : Nat → Bool) (hsup : Sup f) (base : Int) (hb : 0 ≤ base ∧ base ≤ 4294967295) (a : Option Addr) (len cap : Nat) (to : Int) (hto : 0 ≤ to ∧ to ≤ 4294967295) (hn : near to.toNat = false) (hcap : len ≤ cap) (hlen : len ≤ 200)
    (hf : Calls Try.prog 28 #[.int .u32 base, .slice a len cap] w (RetSet base f w)) :
    Calls Try.prog 7 #[.int .u32 base, .slice a len cap, .int .u32 to] w fun e w' => e = .returned (.bool true) ∧ Below w.heap.size w w' := by
  obtain ⟨m, hL⟩ := Lst.exist f hsup
  obtain ⟨G, hG⟩ := IsGaps.exist f hsup 1
  have hGl := (gaps_all hsup hG).2
  have HL := Lib.hid hL
  have HG := Lib.hid hG
  have hdt : dist base ((base + to) % 4294967296) = to.toNat := dist_addI base to ⟨hto.1, by omega⟩
  have hnn : near (dist base ((base + to) % 4294967296)) = false := by rw [hdt]; exact hn
  have hto2 : to < 1 ∨ 4096 < to := by
    by_cases h1 : to < 1
    · exact .inl h1
    · by_cases h2 : 4096 < to
      · exact .inr h2
      · have := (near_iff to.toNat).2 (by omega); rw [hn] at this; cases this
  have HNN := Lib.hid hnn
  clear hL hG hdt hnn hn
  rcases hto2 with h1 | h1
  · have g1 : decide (to < 1) = true := by simpa using h1
    clear h1
    go_enter Try.func7, Try.ntmps7
    go_wp2_with fail
    refine hf.mono ?_
    rintro e w1 ⟨sb, bm, rfl, hsb, hbm, hs1, ht1⟩
    have HT1 := Lib.hid ht1
    have hg1 := gaps_full w1 sb bm base f hs1 m HL.out G HG.out
    clear ht1
    go_wp2_with fail
    refine hg1.mono ?_
    rintro e w2 ⟨a2, c2, rfl, hc2, hr2, ht2⟩
    have hs2 := hs1.turn ht2 (by simp) (by simp)
    have HT2 := Lib.hid (HT1.out.trans ht2)
    have HR2 := Lib.hid hr2
    clear hr2 hg1 hs1 ht2
    have hmv := move_no w2 sb bm base ((base + to) % 4294967296) f hs2 (by omega) HNN.out
    have hb2 := base_any w2 sb bm base f hs2
    have hg2 := gaps_full w2 sb bm base f hs2 m HL.out G HG.out
    have HS2 := Lib.hid hs2
    clear hs2
    go_wp2_with fail
    refine hmv.mono ?_
    rintro e w' ⟨rfl, rfl⟩
    clear hmv
    go_wp2_with fail
    refine hb2.mono ?_
    rintro e w' ⟨rfl, rfl⟩
    clear hb2
    go_wp2_with fail
    refine hg2.mono ?_
    rintro e w3 ⟨a3, c3, rfl, hc3, hr3, ht3⟩
    have HT3 := Lib.hid (HT2.out.trans ht3)
    have HR3 := Lib.hid hr3
    have HR23 := Lib.hid (HR2.out.turn ht3)
    clear hr3 ht3 hg2
    go_wp2_with fail
    refine (same_any w3 a3 a2 G.length c3 _ G rfl HR3.out HR23.out (by omega)).mono ?_
    rintro e w4 ⟨rfl, ht4⟩
    have HT4 := Lib.hid (HT3.out.trans ht4)
    clear ht4
    go_wp2_with fail
    refine (works_any w4).mono ?_
    rintro e w5 ⟨rfl, ht5⟩
    have HT5 := Lib.hid (HT4.out.trans ht5)
    clear ht5
    go_wp2
    go_ret
    exact ⟨rfl, HT5.out.below (Nat.le_refl _) (by simp)⟩

  · have g1 : decide (to < 1) = false := by simp; omega
    have g2 : decide (4096 < to) = true := by simpa using h1
    clear h1
    go_enter Try.func7, Try.ntmps7
    go_wp2_with fail
    refine hf.mono ?_
    rintro e w1 ⟨sb, bm, rfl, hsb, hbm, hs1, ht1⟩
    have HT1 := Lib.hid ht1
    have hg1 := gaps_full w1 sb bm base f hs1 m HL.out G HG.out
    clear ht1
    go_wp2_with fail
    refine hg1.mono ?_
    rintro e w2 ⟨a2, c2, rfl, hc2, hr2, ht2⟩
    have hs2 := hs1.turn ht2 (by simp) (by simp)
    have HT2 := Lib.hid (HT1.out.trans ht2)
    have HR2 := Lib.hid hr2
    clear hr2 hg1 hs1 ht2
    have hmv := move_no w2 sb bm base ((base + to) % 4294967296) f hs2 (by omega) HNN.out
    have hb2 := base_any w2 sb bm base f hs2
    have hg2 := gaps_full w2 sb bm base f hs2 m HL.out G HG.out
    have HS2 := Lib.hid hs2
    clear hs2
    go_wp2_with fail
    refine hmv.mono ?_
    rintro e w' ⟨rfl, rfl⟩
    clear hmv
    go_wp2_with fail
    refine hb2.mono ?_
    rintro e w' ⟨rfl, rfl⟩
    clear hb2
    go_wp2_with fail
    refine hg2.mono ?_
    rintro e w3 ⟨a3, c3, rfl, hc3, hr3, ht3⟩
    have HT3 := Lib.hid (HT2.out.trans ht3)
    have HR3 := Lib.hid hr3
    have HR23 := Lib.hid (HR2.out.turn ht3)
    clear hr3 ht3 hg2
    go_wp2_with fail
    refine (same_any w3 a3 a2 G.length c3 _ G rfl HR3.out HR23.out (by omega)).mono ?_
    rintro e w4 ⟨rfl, ht4⟩
    have HT4 := Lib.hid (HT3.out.trans ht4)
    clear ht4
    go_wp2_with fail
    refine (works_any w4).mono ?_
    rintro e w5 ⟨rfl, ht5⟩
    have HT5 := Lib.hid (HT4.out.trans ht5)
    clear ht5
    go_wp2
    go_ret
    exact ⟨rfl, HT5.out.below (Nat.le_refl _) (by simp)⟩

set_option maxHeartbeats 3200000 in
theorem moveF_yes (w : World) (f : Nat → Bool) (hsup : Sup f) (base : Int) (hb : 0 ≤ base ∧ base ≤ 4294967295) (a : Option Addr) (len cap : Nat) (ys : List Int) (d : Nat) (hn : near d = true) (hu : ∀ w', Turn [] w w' → U32s w' a len ys) (hfy : ∀ d, f d = among ys d) (hcap : len ≤ cap) (hlen : len ≤ 200)
    (hf : Calls Try.prog 28 #[.int .u32 base, .slice a len cap] w (RetSet base f w)) :
    Calls Try.prog 7 #[.int .u32 base, .slice a len cap, .int .u32 (d : Int)] w fun e w' => e = .returned (.bool true) ∧ Below w.heap.size w w' := by
  obtain ⟨m, hL⟩ := Lst.exist f hsup
  obtain ⟨G, hG⟩ := IsGaps.exist f hsup 1
  have hGl := (gaps_all hsup hG).2
  obtain ⟨hd1, hd2⟩ := (near_iff d).1 hn
  obtain ⟨r, hR⟩ : ∃ r, Run (shf d f) r := by
    have hs := hsup.shf d
    cases e : shf d f 1
    · exact ⟨0, fun k h1 h2 => by omega, e⟩
    · obtain ⟨b, h1, h2, h3⟩ := run_end _ hs 1 e
      exact ⟨b, h2, h3⟩
  have hr := hR.le (hsup.shf d)
  obtain ⟨n, hnr⟩ : ∃ n, d + r = n := ⟨_, rfl⟩
  have hrun : ∀ k, d < k → k ≤ n → f k = true := by
    intro k h1 h2
    have := hR.1 (k - d) (by omega) (by omega)
    rw [shf_at _ _ _ (by omega), show k - d + d = k by omega] at this
    exact this
  have hend : f (n + 1) = false := by
    have := hR.2
    rw [shf_at _ _ _ (by omega), show r + 1 + d = n + 1 by omega] at this
    exact this
  have hn2 : n ≤ 8192 := by omega
  have hdn : d ≤ n := by omega
  have hmv0 := fun (w2 : World) sb bm (hs : IsSet w2 sb bm base f) => move_yes w2 sb bm base ((base + (d : Int)) % 4294967296) f hs (by omega) d (dist_add base d (by omega)) hn r hR
  rw [hnr] at hmv0
  have HMV := Lib.hid hmv0
  have HL := Lib.hid hL
  have HG := Lib.hid hG
  have HU := Lib.hid hu
  have HFY := Lib.hid hfy
  have HRUN := Lib.hid hrun
  have HEND := Lib.hid hend
  clear hL hG hu hfy hn hR hr hnr hrun hend hmv0
  clear r
  have q1 : decide ((d : Int) < 1) = false := by simp; omega
  have q2 : decide ((4096 : Int) < (d : Int)) = false := by simp; omega
  have q3 : decide (n < d) = false := by simp; omega
  go_enter Try.func7, Try.ntmps7
  go_wp2_with fail
  refine hf.mono ?_
  rintro e w1 ⟨sb, bm, rfl, hsb, hbm, hs1, ht1⟩
  have HT1 := Lib.hid ht1
  have hg1 := gaps_full w1 sb bm base f hs1 m HL.out G HG.out
  clear ht1 hf
  go_wp2_with fail
  refine hg1.mono ?_
  rintro e w2 ⟨a2, c2, rfl, hc2, hr2, ht2⟩
  have hs2 := hs1.turn ht2 (by simp) (by simp)
  have HT2 := Lib.hid (HT1.out.trans ht2)
  clear hr2 hg1 hs1 ht2
  have hmv := HMV.out w2 sb bm hs2
  clear hs2
  go_wp2_with fail
  refine hmv.mono ?_
  rintro e w3 ⟨rfl, hs3, ht3⟩
  have HT3 := Lib.hid (HT2.out.over ht3 (by intro j hj; simp at hj; omega))
  have HS3 := Lib.hid hs3
  have hb3 := base_any w3 sb bm _ _ hs3
  clear ht3 hmv hs3
  go_wp2_with fail
  refine hb3.mono ?_
  rintro e w' ⟨rfl, rfl⟩
  clear hb3
  go_wp2
  go_loop [10] (fun x => ∃ k : Nat, d + 1 ≤ k ∧ k ≤ n + 1 ∧ x = .int .i64 k) (fun x => n + 1 - (intOf x).toNat)
  case atStart => exact ⟨d + 1, by omega, by omega, by go_num⟩
  case round =>
    obtain ⟨k, hk1, hk2, rfl⟩ := hrel
    by_cases hlt : k ≤ n
    · go_wp2_with fail
      refine (within_at w3 _ k (by first | rfl | omega) (by omega) a len cap ys (HU.out w3 HT3.out) true (by rw [← HFY.out]; exact HRUN.out k hk1 hlt)).mono ?_
      rintro e w' ⟨rfl, rfl⟩
      go_wp2
      go_round
      case rel => exact ⟨k + 1, by omega, by omega, by go_num⟩
      case measure => simp [intOf]; omega
    · go_wp2_with fail
      refine (within_at w3 _ (n + 1) (by simp) (by omega) a len cap ys (HU.out w3 HT3.out) false (by rw [← HFY.out]; exact HEND.out)).mono ?_
      rintro e w' ⟨rfl, rfl⟩
      go_wp2
      go_loopw [11] (fun x wr => ∃ i : Nat, i ≤ len ∧ x = .int .i64 i ∧ IsSet wr sb bm ((base + (n : Int)) % 4294967296) (shf n f) ∧ Turn [] w wr) (fun x _ => len - (intOf x).toNat)
      case atStart => exact ⟨0, by omega, rfl, HS3.out, HT3.out⟩
      case round =>
        obtain ⟨i, hi, rfl, hset, hturn⟩ := hrel
        have HSET := Lib.hid hset
        have HTURN := Lib.hid hturn
        clear hset hturn
        by_cases hil : i < len
        · have hU := HU.out wr HTURN.out
          have hil' : i < ys.length := by rw [hU.1]; exact hil
          obtain ⟨g, off, rfl, hg1, hg2⟩ := hU.2.2.2 i ys[i] (by simp [hil'])
          have hz := hU.2.2.1 ys[i] (List.getElem_mem hil')
          have hfz : Hid (1 ≤ ys[i] → ys[i] ≤ 4096 → f ys[i].toNat = true) := by
            intro h1 h2
            rw [HFY.out]
            unfold among
            rw [(near_iff _).2 (by omega), Bool.true_and, List.any_eq_true]
            exact ⟨ys[i], List.getElem_mem hil', by simp⟩
          clear hU
          generalize ys[i] = z at *
          have hq := fun j b hbb => has_q wr j sb bm _ ((base + z) % 4294967296) _ HSET.out (by omega) b hbb
          rw [shf_back hsup base hb n hn2 z hz] at hq
          have HQ := Lib.hid hq
          clear hq
          by_cases h1 : (n : Int) < z
          · by_cases h2 : z ≤ 4096
            · have e1 : decide ((n : Int) < z) = true := by simpa using h1
              have e2 : decide (z ≤ 4096) = true := by simpa using h2
              have hb9 : Hid ((decide ((n : Int) < z) && f z.toNat) = true) := by show _ = true; rw [e1, hfz.out (by omega) h2]; rfl
              go_wp2
              go_quiet ((go_at_call 14; exact HQ.out _ true hb9.out))
              go_wp2
              go_roundw
              case rel => exact ⟨i + 1, by omega, by go_num, HSET.out.turn (bs := []) ((Turn.refl _ _).drewN _) (by simp) (by simp), HTURN.out.drewN _⟩
              case measure => simp [intOf]; omega
            · have e1 : decide ((n : Int) < z) = true := by simpa using h1
              have e2 : decide (z ≤ 4096) = false := by simpa using h2
              have hb9 : Hid ((decide ((n : Int) < z) && f z.toNat) = false) := by show _ = false; rw [hsup.far (d := z.toNat) (by omega)]; simp
              go_wp2
              go_quiet ((go_at_call 14; exact HQ.out _ false hb9.out))
              go_wp2
              go_roundw
              case rel => exact ⟨i + 1, by omega, by go_num, HSET.out.turn (bs := []) ((Turn.refl _ _).drewN _) (by simp) (by simp), HTURN.out.drewN _⟩
              case measure => simp [intOf]; omega
          · have e1 : decide ((n : Int) < z) = false := by simpa using h1
            have hb9 : Hid ((decide ((n : Int) < z) && f z.toNat) = false) := by show _ = false; rw [e1]; rfl
            go_wp2
            go_quiet ((go_at_call 14; exact HQ.out _ false hb9.out))
            go_wp2
            go_roundw
            case rel => exact ⟨i + 1, by omega, by go_num, HSET.out.turn (bs := []) ((Turn.refl _ _).drewN _) (by simp) (by simp), HTURN.out.drewN _⟩
            case measure => simp [intOf]; omega
        · go_wp2_with fail
          refine (works_any wr).mono ?_
          rintro e w4 ⟨rfl, ht4⟩
          have HT4 := Lib.hid (HTURN.out.trans ht4)
          clear ht4
          go_wp2
          go_ret
          exact ⟨rfl, HT4.out.below (Nat.le_refl _) (by simp)⟩

set_option maxHeartbeats 800000 in
theorem spansMove_walk (base : Int) (a : Option Addr) (len cap : Nat) (zs : List Int) (to : Int) (w : World) (wb : (Lit.int .u32 base).wf = true) (hz : IsRow .u32 w a len cap zs) (wt : (Lit.int .u32 to).wf = true) :
    Calls Try.prog 7 #[.int .u32 base, .slice a len cap, .int .u32 to] w fun e w' => e = .returned (.bool true) ∧ Below w.heap.size w w' := by
  have hb := wf_u32_in wb
  have hto := wf_u32_in wt
  obtain ⟨hu, hcap⟩ := hz.u32s
  clear hz wb wt
  by_cases hlen : len ≤ 200
  · cases hn : near to.toNat
    · exact moveF_no w _ (fillF_sup _) base hb a len cap to hto hn hcap hlen (filled_any w base hb a len cap _ hu)
    · obtain ⟨d, rfl⟩ := Int.eq_ofNat_of_zero_le hto.1
      exact moveF_yes w _ (fillF_sup _) base hb a len cap _ d (by simpa using hn) (fun w' ht => hu.turn (ht.below (Nat.le_refl _) (by simp)) (Nat.le_refl _)) (fillF_at _) hcap hlen (filled_any w base hb a len cap _ hu)
  · go_enter Try.func7, Try.ntmps7
    go_wp2_with fail
    refine (works_any w).mono ?_
    rintro e w1 ⟨rfl, ht⟩
    have HT := Lib.hid ht
    clear ht
    go_wp2
    go_ret
    exact ⟨rfl, HT.out.below (Nat.le_refl _) (by simp)⟩
end Go.Proofs.Ytjdkbcecnlfhjaa
