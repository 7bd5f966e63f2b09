/-
  The document's own answers for layer 4: Gaps.
-/
import Derived.Test.YtjdkbcecnlfhjaaSpRef4
import Derived.Test.YtjdkbcecnlfhjaaLSpFew
namespace Go.Proofs.Ytjdkbcecnlfhjaa
open Go.RowKit
set_option linter.unusedVariables false

set_option maxRecDepth 100000 in
set_option maxHeartbeats 3200000 in
theorem rgaps_n (w : World) (rb : Nat) (base : Int) (f : Nat → Bool) (h : IsRef w rb base f) (most : Int) (hmost : -9223372036854775808 ≤ most ∧ most ≤ 9223372036854775807) (G : List (Nat × Nat)) (hG : IsGaps f 1 G) (L : List (Nat × Nat)) (hL : G.take most.toNat = L) (n : Nat) (hn : L.length = n) :
    Calls Try.prog 22 #[.pointer (some ⟨rb, 0, none⟩), .int .i64 most] w (RetGapN L n w) := by
  obtain ⟨i0, hi0, hz0, hz1, hz2⟩ := info_parts Try.infoG
  have hsup := Lib.hid h.sup
  have HS := Lib.hid h
  have HG := Lib.hid hG
  have HL := Lib.hid hL
  have HN := Lib.hid hn
  have HZ0 := Lib.hid hz0
  have HZ1 := Lib.hid hz1
  have HZ2 := Lib.hid hz2
  have HI0 := Lib.hid hi0
  clear h hG hz0 hz1 hz2 hi0 hL hn
  go_enter Try.func22, Try.ntmps22
  go_wp2
  go_loopw [5, 6] (fun v x wr => ∃ (a : Option Addr) (c : Nat) (l rest : List (Nat × Nat)) (i j : Nat), 1 ≤ i ∧ i ≤ 4097 ∧ i ≤ j ∧ j ≤ 4098 ∧ v = .slice a l.length c ∧ x = .int .i64 (i : Int) ∧ GapRow w.heap.size wr a c l ∧ Hid (l ++ rest = G) ∧ Hid (IsGaps f j rest) ∧
      Hid (f (j - 1) = false) ∧ Hid (∀ k, i ≤ k → k < j → f k = false ∨ f (k - 1) = true) ∧ l.length ≤ most.toNat ∧ Turn [] w wr) (fun _ x _ => 4097 - (intOf x).toNat)
  case atStart => exact ⟨none, 0, [], G, 1, 1, by omega, by omega, by omega, by omega, rfl, rfl, GapRow.nil _ _, Lib.hid rfl, HG, Lib.hid hsup.out.zero, Lib.hid (fun k h1 h2 => by omega), Nat.zero_le _, Turn.refl _ _⟩
  case round =>
    obtain ⟨a, c, l, rest, i, j, hi1, hi2, hij, hj2, rfl, rfl, hrow, HLR, HREST, HJ, HSK, hll, hturn⟩ := hrel
    have href := HS.out.turn hturn (by simp)
    have HREF := Lib.hid href
    have HROW := Lib.hid hrow
    have HTURN := Lib.hid hturn
    have hlen : l.length ≤ 4096 := by
      have h1 : l.length ≤ G.length := by rw [← HLR.out]; simp
      rcases HG.out.length hsup.out with h2 | h2
      · omega
      · rw [h2] at h1; simp at h1; simp [h1]
    have hlcap := hrow.cap
    clear hrow hturn href
    by_cases hA : i ≤ 4096
    · have hA' : decide ((i : Int) ≤ 4096) = true := by simp; omega
      by_cases hB : (l.length : Int) < most
      · have hcell := HREF.out.cell i hA
        have hb0 : (0 : Int) ≤ (i : Int) := by omega
        have hb1 : (i : Int) < 4097 := by omega
        cases hf : f i
        · -- not in
          rw [hf] at hcell
          have HF := Lib.hid hf
          clear hf
          go_wp2
          go_roundw
          case rel =>
            by_cases e : i = j
            · subst e
              exact ⟨a, c, l, rest, i + 1, i + 1, by omega, by omega, by omega, by omega, rfl, by go_num, HROW.out, HLR, Lib.hid (HREST.out.up HF.out), HF, Lib.hid (fun k h1 h2 => by omega), hll, HTURN.out⟩
            · exact ⟨a, c, l, rest, i + 1, j, by omega, by omega, by omega, by omega, rfl, by go_num, HROW.out, HLR, HREST, HJ, Lib.hid (fun k h1 h2 => HSK.out k (by omega) h2), hll, HTURN.out⟩
          case measure => simp [intOf]; omega
        · rw [hf] at hcell
          have HF := Lib.hid hf
          clear hf
          cases hp : f (i - 1)
          · -- a run begins
            have hji : i = j := by
              by_cases e : i = j
              · exact e
              · rcases HSK.out i (Nat.le_refl _) (by omega) with e2 | e2
                · rw [HF.out] at e2; cases e2
                · rw [hp] at e2; cases e2
            subst hji
            obtain ⟨b, R, rfl, hbb1, hbb2, hbb3, hR⟩ := HREST.out.first HF.out
            have hbs := (hsup.out b (hbb2 b hbb1 (Nat.le_refl _))).2
            have HB2 := Lib.hid hbb2
            have HB3 := Lib.hid hbb3
            have HRR := Lib.hid hR
            obtain ⟨p, hpI⟩ : ∃ p : Nat, (i : Int) - 1 = (p : Int) := ⟨i - 1, by omega⟩
            have hcell2 := HREF.out.cell p (by omega)
            rw [show p = i - 1 by omega, hp] at hcell2
            rw [show i - 1 = p by omega] at hcell2
            have hc0 : (0 : Int) ≤ (p : Int) := by omega
            have hc1 : (p : Int) < 4097 := by omega
            clear hbb2 hbb3 hR hp
            by_cases hi9 : 1 < i
            all_goals
              first | have hi7 : decide ((1 : Int) < (i : Int)) = true := by (simp; omega) | have hi7 : decide ((1 : Int) < (i : Int)) = false := by (simp; omega)
              go_wp2
              go_loop [7] (fun x => ∃ k : Nat, i ≤ k ∧ k ≤ b ∧ x = .int .i64 (k : Int)) (fun x => b - (intOf x).toNat)
              case atStart => exact ⟨i, Nat.le_refl _, hbb1, rfl⟩
              case round =>
                obtain ⟨k, hk1, hk2, rfl⟩ := hrel
                obtain ⟨t, htI⟩ : ∃ t : Nat, (k : Int) + 1 = (t : Int) := ⟨k + 1, by omega⟩
                have hd0 : (0 : Int) ≤ (t : Int) := by omega
                by_cases hkb : k < b
                · have hcell3 := HREF.out.cell t (by omega)
                  rw [HB2.out t (by omega) (by omega)] at hcell3
                  have hd1 : (t : Int) < 4097 := by omega
                  have hd2 : decide ((k : Int) < 4096) = true := by simp; omega
                  go_wp2
                  go_round
                  case rel => exact ⟨t, by omega, by omega, by first | rfl | (congr 1)⟩
                  case measure => simp [intOf]; omega
                · obtain rfl : k = b := by omega
                  have hown : wr.ownsRow w.heap.size 45 2 (.slice a l.length c) l.length (gapCells l) := HROW.out
                  have hsz : w.heap.size ≤ wr.heap.size := HTURN.out.size
                  have HKB : Hid (k < 4096 → f (k + 1) = false) := fun _ => HB3.out
                  have hkk : k < 4096 ∨ k = 4096 := by omega
                  rcases hkk with hk9 | hk9
                  all_goals
                    first
                      | (have hd2 : decide ((k : Int) < 4096) = true := by (simp; omega)
                         have hcell3 := HREF.out.cell t (by omega)
                         rw [show t = k + 1 by omega, HB3.out] at hcell3
                         rw [show k + 1 = t by omega] at hcell3
                         have hd1 : (t : Int) < 4097 := by omega)
                      | have hd2 : decide ((k : Int) < 4096) = false := by (simp; omega)
                    clear hk9
                    go_wp2_with (at_builtin; refine wpList_append_own _ rfl (.tmp 52) (.tmp 58) 37 rfl w.heap.size 45 i0 (.agg #[.int .u16 0, .int .u16 0]) 2 4 Try.underlying37 HI0.out HZ0.out HZ1.out HZ2.out rfl (by decide) _ _ _ rfl (hown.alloc _) ⟨wr.heap.size, 0, none⟩ 1 1 [.int .u16 (i : Int), .int .u16 (k : Int)] rfl rfl (cells_two wr _ _ _) (one_two i k) (by unfold maxLen; omega) (by omega) (by simp; omega) ?_)
                    intro v' w2 hown' hgrow hnn
                    have hB2 : Turn [] w w2 := (HTURN.out.alloc _).grown hgrow (fun g hg => .inr ((hown.lt g hg).1))
                    obtain ⟨a2, c2, rfl, hrow2⟩ := GapRow.of_owns (L := l ++ [(i, k)]) hown' (by rw [gapCells_snoc])
                    have HROW2 := Lib.hid hrow2
                    have HT2 := Lib.hid hB2
                    clear hown' hgrow hnn hrow2 hB2 hown hsz
                    go_wp2
                    go_roundw
                    case rel => exact ⟨a2, c2, l ++ [(i, k)], R, i + 1, k + 2, by omega, by omega, by omega, by omega, rfl, by go_num, HROW2.out, Lib.hid (by rw [← HLR.out]; simp), HRR, HB3, Lib.hid (fun q h1 h2 => .inr (HB2.out (q - 1) (by omega) (by omega))), by simp; omega, HT2.out⟩
                    case measure => simp [intOf]; omega
          · -- inside a run
            have hi9 : 1 < i := by
              by_cases e : i = 1
              · subst e
                have := hsup.out.zero
                rw [show (1 : Nat) - 1 = 0 from rfl] at hp
                rw [this] at hp; cases hp
              · omega
            have hji : i ≠ j := by
              rintro rfl
              have := HJ.out
              rw [this] at hp; cases hp
            obtain ⟨p, hpI⟩ : ∃ p : Nat, (i : Int) - 1 = (p : Int) := ⟨i - 1, by omega⟩
            have hcell2 := HREF.out.cell p (by omega)
            rw [show p = i - 1 by omega, hp] at hcell2
            rw [show i - 1 = p by omega] at hcell2
            have hc0 : (0 : Int) ≤ (p : Int) := by omega
            have hc1 : (p : Int) < 4097 := by omega
            have hi7 : decide ((1 : Int) < (i : Int)) = true := by simp; omega
            clear hp
            go_wp2
            go_roundw
            case rel => exact ⟨a, c, l, rest, i + 1, j, by omega, by omega, by omega, by omega, rfl, by go_num, HROW.out, HLR, HREST, HJ, Lib.hid (fun k h1 h2 => HSK.out k (by omega) h2), hll, HTURN.out⟩
            case measure => simp [intOf]; omega
      · -- enough
        have hB' : decide ((l.length : Int) < most) = false := by simpa using hB
        go_wp2
        go_ret
        have hT := take_all HLR.out most.toNat hll (.inr (by omega))
        have hT2 : l = L := by rw [← HL.out, hT]
        rw [← HN.out, ← hT2]
        exact ⟨a, c, rfl, hlcap, HROW.out.read, HTURN.out⟩
    · have hA' : decide ((i : Int) ≤ 4096) = false := by simp; omega
      go_wp2
      go_ret
      have hT := take_all HLR.out most.toNat hll (.inl (HREST.out.done fun k hk => hsup.out.far (by omega)))
      have hT2 : l = L := by rw [← HL.out, hT]
      rw [← HN.out, ← hT2]
      exact ⟨a, c, rfl, hlcap, HROW.out.read, HTURN.out⟩
end Go.Proofs.Ytjdkbcecnlfhjaa
