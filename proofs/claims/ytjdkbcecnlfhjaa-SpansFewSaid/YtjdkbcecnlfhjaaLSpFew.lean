/-
  The walk of SpansFew.
-/
import Derived.Test.YtjdkbcecnlfhjaaLSpNil
namespace Go.Proofs.Ytjdkbcecnlfhjaa
open Go.RowKit
set_option linter.unusedVariables false

/-- The law's own shut-off: more than 200 numbers. -/
theorem gaps_all {f : Nat → Bool} (hs : Sup f) {G : List (Nat × Nat)} (h : IsGaps f 1 G) : G.take (4096 : Int).toNat = G ∧ G.length ≤ 2049 := by
  have : G.length ≤ 2049 := by
    rcases h.length hs with e | e
    · omega
    · subst e; simp
  have h2 : G.length ≤ 2049 := this
  exact ⟨List.take_of_length_le (by simp; omega), h2⟩

theorem Lst.exist (f : Nat → Bool) (hs : Sup f) : ∃ m, Lst f m := by
  have key : ∀ n, (∃ m, (m = 0 ∨ f m = true) ∧ ∀ d, f d = true → d ≤ n → d ≤ m) := by
    intro n
    induction n with
    | zero => exact ⟨0, .inl rfl, fun d _ h => h⟩
    | succ n ih =>
      cases e : f (n + 1)
      · obtain ⟨m, h1, h2⟩ := ih
        exact ⟨m, h1, fun d hd hle => by
          by_cases e' : d = n + 1
          · subst e'; rw [e] at hd; cases hd
          · exact h2 d hd (by omega)⟩
      · exact ⟨n + 1, .inr e, fun d _ h => h⟩
  obtain ⟨m, h1, h2⟩ := key 4096
  exact ⟨m, h1, fun d hd => h2 d hd (hs d hd).2⟩

theorem GapRow.cap {base : Nat} {w : World} {a : Option Addr} {c : Nat} {L : List (Nat × Nat)} (h : GapRow base w a c L) : L.length ≤ c := by
  rcases h.2 with ⟨h1, h2⟩ | ⟨g, cap, cur, hv, hb, hg, hn, r⟩
  · omega
  · cases hv; exact hn

def RetGapN (L : List (Nat × Nat)) (n : Nat) (w : World) (e : Ending) (w' : World) : Prop := ∃ a c, e = .returned (.slice a n c) ∧ n ≤ c ∧ GapRead w' a L ∧ Turn [] w w'
theorem gaps_n (w : World) (sb bm : Nat) (base : Int) (f : Nat → Bool) (h : IsSet w sb bm base f) (most : Int) (hmost : -9223372036854775808 ≤ most ∧ most ≤ 9223372036854775807) (m : Nat) (hm : Lst f m) (G : List (Nat × Nat)) (hG : IsGaps f 1 G) (L : List (Nat × Nat)) (hL : G.take most.toNat = L) (n : Nat) (hn : L.length = n) :
    Calls Try.prog 21 #[.pointer (some ⟨sb, 0, none⟩), .int .i64 most] w (RetGapN L n w) := by
  refine (gaps_any w sb bm base f h most hmost m hm G hG).mono ?_
  rintro e w' ⟨a, c, rfl, h1, h2⟩
  rw [hL] at h1 ⊢
  rw [hn]
  exact ⟨a, c, rfl, by rw [← hn]; exact h1.cap, h1.read, h2⟩
/-- All of them. -/
theorem gaps_full (w : World) (sb bm : Nat) (base : Int) (f : Nat → Bool) (h : IsSet w sb bm base f) (m : Nat) (hm : Lst f m) (G : List (Nat × Nat)) (hG : IsGaps f 1 G) :
    Calls Try.prog 21 #[.pointer (some ⟨sb, 0, none⟩), .int .i64 4096] w (RetGapN G G.length w) :=
  gaps_n w sb bm base f h 4096 (by omega) m hm G hG G (gaps_all h.sup hG).1 _ rfl

set_option maxHeartbeats 1600000 in
theorem fewF (f : Nat → Bool) (hsup : Sup f) (base : Int) (a : Option Addr) (len cap : Nat) (most : Int) (w : World) (hm : -9223372036854775808 ≤ most ∧ most ≤ 9223372036854775807) (hlen : len ≤ 200)
    (hf : Calls Try.prog 28 #[.int .u32 base, .slice a len cap] w (RetSet base f w)) :
    Calls Try.prog 8 #[.int .u32 base, .slice a len cap, .int .i64 most] w fun e w' => e = .returned (.bool true) ∧ Below w.heap.size w w' := by
  obtain ⟨m, hL⟩ := Lst.exist f hsup
  obtain ⟨G, hG⟩ := IsGaps.exist f hsup 1
  have hGl := (gaps_all hsup hG).2
  have HL := Lib.hid hL
  have HG := Lib.hid hG
  clear hL hG
  by_cases h1 : most ≤ 0
  · have HT := Lib.hid (show G.take most.toNat = [] by rw [show most.toNat = 0 by omega]; rfl)
    have hd1 : decide ((G.length : Int) < most) = false := by simp; omega
    have hd2 : most ≤ (G.length : Int) := by omega
    go_enter Try.func8, Try.ntmps8
    go_wp2_with fail
    refine hf.mono ?_
    rintro e w1 ⟨sb, bm, rfl, hsb, hbm, hs1, ht1⟩
    have HT1 := Lib.hid ht1
    have hg1 := gaps_full w1 sb bm base f hs1 m HL.out G HG.out
    clear ht1 hf
    go_wp2_with fail
    refine hg1.mono ?_
    rintro e w2 ⟨a2, c2, rfl, hc2, hr2, ht2⟩
    have hs2 := hs1.turn ht2 (by simp) (by simp)
    have HT2 := Lib.hid (HT1.out.trans ht2)
    have HR2 := Lib.hid hr2
    clear hr2 hg1 hs1 ht2
    have hg2 := gaps_n w2 sb bm base f hs2 most hm m HL.out G HG.out [] HT.out 0 rfl
    go_wp2_with fail
    refine hg2.mono ?_
    rintro e w3 ⟨a3, c3, rfl, hc3, hr3, ht3⟩
    have HT3 := Lib.hid (HT2.out.trans ht3)
    have HR3 := Lib.hid hr3
    have HR23 := Lib.hid (HR2.out.turn ht3)
    have HS2 := Lib.hid hs2
    clear hr3 ht3 hs2 hg2
    go_wp2_with fail
    refine (same_any w3 a3 a2 0 c3 _ [] rfl HR3.out (by intro i p hp; simp at hp) (by omega)).mono ?_
    rintro e w4 ⟨rfl, ht4⟩
    have HT4 := Lib.hid (HT3.out.trans ht4)
    clear ht4
    go_wp2_with fail
    refine (works_any w4).mono ?_
    rintro e w5 ⟨rfl, ht5⟩
    have HT5 := Lib.hid (HT4.out.trans ht5)
    clear ht5
    go_wp2
    go_ret
    exact ⟨rfl, HT5.out.below (Nat.le_refl _) (by simp)⟩
  by_cases h2 : most ≤ (G.length : Int)
  · have HN := Lib.hid (show (G.take most.toNat).length = most.toNat by simp; omega)
    go_enter Try.func8, Try.ntmps8
    go_wp2_with fail
    refine hf.mono ?_
    rintro e w1 ⟨sb, bm, rfl, hsb, hbm, hs1, ht1⟩
    have HT1 := Lib.hid ht1
    have hg1 := gaps_full w1 sb bm base f hs1 m HL.out G HG.out
    clear ht1 hf
    go_wp2_with fail
    refine hg1.mono ?_
    rintro e w2 ⟨a2, c2, rfl, hc2, hr2, ht2⟩
    have hs2 := hs1.turn ht2 (by simp) (by simp)
    have HT2 := Lib.hid (HT1.out.trans ht2)
    have HR2 := Lib.hid hr2
    clear hr2 hg1 hs1 ht2
    have hg2 := gaps_n w2 sb bm base f hs2 most hm m HL.out G HG.out (G.take most.toNat) rfl most.toNat HN.out
    go_wp2_with fail
    refine hg2.mono ?_
    rintro e w3 ⟨a3, c3, rfl, hc3, hr3, ht3⟩
    have HT3 := Lib.hid (HT2.out.trans ht3)
    have HR3 := Lib.hid hr3
    have HR23 := Lib.hid (HR2.out.turn ht3)
    have HS2 := Lib.hid hs2
    clear hr3 ht3 hs2 hg2
    go_wp2_with fail
    refine (same_any w3 a3 a2 most.toNat c3 _ (G.take most.toNat) HN.out HR3.out (by exact HR23.out.take _) (by omega)).mono ?_
    rintro e w4 ⟨rfl, ht4⟩
    have HT4 := Lib.hid (HT3.out.trans ht4)
    clear ht4
    go_wp2_with fail
    refine (works_any w4).mono ?_
    rintro e w5 ⟨rfl, ht5⟩
    have HT5 := Lib.hid (HT4.out.trans ht5)
    clear ht5
    go_wp2
    go_ret
    exact ⟨rfl, HT5.out.below (Nat.le_refl _) (by simp)⟩
  by_cases h3 : 0 < G.length
  · have HT := Lib.hid (show G.take most.toNat = G from List.take_of_length_le (by omega))
    go_enter Try.func8, Try.ntmps8
    go_wp2_with fail
    refine hf.mono ?_
    rintro e w1 ⟨sb, bm, rfl, hsb, hbm, hs1, ht1⟩
    have HT1 := Lib.hid ht1
    have hg1 := gaps_full w1 sb bm base f hs1 m HL.out G HG.out
    clear ht1 hf
    go_wp2_with fail
    refine hg1.mono ?_
    rintro e w2 ⟨a2, c2, rfl, hc2, hr2, ht2⟩
    have hs2 := hs1.turn ht2 (by simp) (by simp)
    have HT2 := Lib.hid (HT1.out.trans ht2)
    have HR2 := Lib.hid hr2
    clear hr2 hg1 hs1 ht2
    have hg2 := gaps_n w2 sb bm base f hs2 most hm m HL.out G HG.out G HT.out G.length rfl
    go_wp2_with fail
    refine hg2.mono ?_
    rintro e w3 ⟨a3, c3, rfl, hc3, hr3, ht3⟩
    have HT3 := Lib.hid (HT2.out.trans ht3)
    have HR3 := Lib.hid hr3
    have HR23 := Lib.hid (HR2.out.turn ht3)
    have HS2 := Lib.hid hs2
    clear hr3 ht3 hs2 hg2
    go_wp2_with fail
    refine (same_any w3 a3 a2 G.length c3 _ G rfl HR3.out (by exact HR23.out) (by omega)).mono ?_
    rintro e w4 ⟨rfl, ht4⟩
    have HT4 := Lib.hid (HT3.out.trans ht4)
    clear ht4
    go_wp2_with fail
    refine (works_any w4).mono ?_
    rintro e w5 ⟨rfl, ht5⟩
    have HT5 := Lib.hid (HT4.out.trans ht5)
    clear ht5
    go_wp2
    go_ret
    exact ⟨rfl, HT5.out.below (Nat.le_refl _) (by simp)⟩
  · have hG0 : G = [] := List.length_eq_zero_iff.1 (by omega)
    subst hG0
    have HT := Lib.hid (show ([] : List (Nat × Nat)).take most.toNat = [] from by simp)
    clear h2 h3
    go_enter Try.func8, Try.ntmps8
    go_wp2_with fail
    refine hf.mono ?_
    rintro e w1 ⟨sb, bm, rfl, hsb, hbm, hs1, ht1⟩
    have HT1 := Lib.hid ht1
    have hg1 := gaps_full w1 sb bm base f hs1 m HL.out [] HG.out
    clear ht1 hf
    go_wp2_with fail
    refine hg1.mono ?_
    rintro e w2 ⟨a2, c2, rfl, hc2, hr2, ht2⟩
    have hs2 := hs1.turn ht2 (by simp) (by simp)
    have HT2 := Lib.hid (HT1.out.trans ht2)
    have HR2 := Lib.hid hr2
    clear hr2 hg1 hs1 ht2
    have hg2 := gaps_n w2 sb bm base f hs2 most hm m HL.out [] HG.out [] HT.out 0 rfl
    go_wp2_with fail
    refine hg2.mono ?_
    rintro e w3 ⟨a3, c3, rfl, hc3, hr3, ht3⟩
    have HT3 := Lib.hid (HT2.out.trans ht3)
    have HR3 := Lib.hid hr3
    have HR23 := Lib.hid (HR2.out.turn ht3)
    have HS2 := Lib.hid hs2
    clear hr3 ht3 hs2 hg2
    go_wp2_with fail
    refine (same_any w3 a3 a2 0 c3 _ [] rfl HR3.out (by intro i p hp; simp at hp) (by omega)).mono ?_
    rintro e w4 ⟨rfl, ht4⟩
    have HT4 := Lib.hid (HT3.out.trans ht4)
    clear ht4
    go_wp2_with fail
    refine (works_any w4).mono ?_
    rintro e w5 ⟨rfl, ht5⟩
    have HT5 := Lib.hid (HT4.out.trans ht5)
    clear ht5
    go_wp2
    go_ret
    exact ⟨rfl, HT5.out.below (Nat.le_refl _) (by simp)⟩

set_option maxHeartbeats 800000 in
theorem spansFew_walk (base : Int) (a : Option Addr) (len cap : Nat) (zs : List Int) (most : Int) (w : World) (wb : (Lit.int .u32 base).wf = true) (hz : IsRow .u32 w a len cap zs) (wm : (Lit.int .i64 most).wf = true) :
    Calls Try.prog 8 #[.int .u32 base, .slice a len cap, .int .i64 most] w fun e w' => e = .returned (.bool true) ∧ Below w.heap.size w w' := by
  have hb := wf_u32_in wb
  have hm := wf_i64_in wm
  obtain ⟨hu, hcap⟩ := hz.u32s
  clear hz wb wm
  by_cases hlen : len ≤ 200
  · exact fewF _ (fillF_sup _) base a len cap most w hm hlen (filled_any w base hb a len cap _ hu)
  · go_enter Try.func8, Try.ntmps8
    go_wp2_with fail
    refine (works_any w).mono ?_
    rintro e w1 ⟨rfl, ht⟩
    have HT := Lib.hid ht
    clear ht
    go_wp2
    go_ret
    exact ⟨rfl, HT.out.below (Nat.le_refl _) (by simp)⟩
end Go.Proofs.Ytjdkbcecnlfhjaa
