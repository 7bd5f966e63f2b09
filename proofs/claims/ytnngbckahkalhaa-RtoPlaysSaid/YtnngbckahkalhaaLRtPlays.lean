/-
  The walk of RtoPlays. Written by genrtplays.py.
-/
import Derived.Test.YtnngbckahkalhaaRtTwo
import Derived.Test.YtnngbckahkalhaaGoodW
import Derived.Deep.Cut
namespace Go.Proofs.Ytnngbckahkalhaa
open Go.RowKit
set_option linter.unusedVariables false
set_option linter.unusedSimpArgs false

/-- What the operations of the drawn region leave behind. -/
def RPl (g1 g2 gl off len cap kx : Nat) (t er : Int) (i : Nat) (v : Value) (W : World) : Prop := match i with | 0 => v = .pointer (some ⟨g1, 0, none⟩) | 1 => v = .slice (some ⟨gl, off, none⟩) len cap | 2 => v = .int .i64 (kx : Int) | 3 => v = .pointer (some ⟨gl, off + kx * 2, none⟩) | 4 => v = .pointer (some ⟨gl, off + kx * 2 + 1, none⟩) | 5 => v = .int .i64 t | 6 => v = .int .i64 er | 7 => v = .pointer (some ⟨g2, 0, none⟩) | 8 => v = .slice (some ⟨gl, off, none⟩) len cap | 9 => v = .int .i64 (kx : Int) | 10 => v = .pointer (some ⟨gl, off + kx * 2, none⟩) | 11 => v = .pointer (some ⟨gl, off + kx * 2 + 1, none⟩) | 12 => v = .int .i64 t | 13 => v = .int .i64 er | 14 => v = .bool false | _ => True
theorem RPl_mono {g1 g2 gl off len cap kx : Nat} {t er : Int} {W W' : World} (hb : Below W.heap.size W W') (jo : Nat) (xo : Value) (h : RPl g1 g2 gl off len cap kx t er jo xo W) : RPl g1 g2 gl off len cap kx t er jo xo W' := by
  unfold RPl at h ⊢
  split at h <;> try exact h
theorem RPl_any {g1 g2 gl off len cap kx : Nat} {t er : Int} {W W' : World} (jo : Nat) (xo : Value) (h : RPl g1 g2 gl off len cap kx t er jo xo W) : RPl g1 g2 gl off len cap kx t er jo xo W' := by
  unfold RPl at h ⊢
  split at h <;> exact h

set_option maxRecDepth 100000 in
set_option maxHeartbeats 12800000 in
theorem playsF (first lo hi : Int) (a : Option Addr) (len cap : Nat) (ss : List (Bool × Int)) (w : World) (htk : takes first lo hi = true) (hz : OpRow w a len ss) (hlen : len ≤ 500) :
    Calls Try.prog 3 #[.int .i64 first, .int .i64 lo, .int .i64 hi, .slice a len cap] w fun e w' => e = .returned (.bool true) ∧ Below w.heap.size w w' := by
  have hn := new_yes w first lo hi htk
  have hn2 := fun w1 => rnew_yes w1 first lo hi htk
  obtain ⟨h1, h2, h3, h4⟩ := takes_iff.1 htk
  clear htk
  have d1 : decide (500 < (len : Int)) = false := by simp; omega
  obtain ⟨g1, hg⟩ : ∃ g1, g1 = w.heap.size := ⟨_, rfl⟩
  rw [← hg] at hn
  have HGG := Lib.hid hg
  have HZ := Lib.hid hz
  clear hg hz
  go_enter Try.func3, Try.ntmps3
  go_wp2_with fail
  refine hn.mono ?_
  rintro e wa ⟨rfl, hs1, ht1, hlt1⟩
  clear hn
  obtain ⟨g2, hg2⟩ : ∃ g2, g2 = wa.heap.size := ⟨_, rfl⟩
  replace hn2 := hn2 wa
  rw [← hg2] at hn2
  have hgg : g1 < g2 := by have := HGG.out; omega
  have HG2 := Lib.hid (show w.heap.size ≤ g2 by have := HGG.out; omega)
  have HT1 := Lib.hid ht1
  have HS1 := Lib.hid hs1
  clear hs1 ht1 hg2 hlt1
  go_wp2_with fail
  refine hn2.mono ?_
  rintro e wb ⟨rfl, hs2, ht2, _⟩
  have HS2 := Lib.hid (And.intro (HS1.out.turn ht2 (by simp)) hs2)
  have HT2 := Lib.hid (HT1.out.trans ht2)
  clear hs2 ht2 hn2 HS1 HT1
  go_wp2
  go_loopw [13, 14, 15, 16, 17] (fun x y1 y2 y3 y4 wr => ∃ (kx : Nat) (v : Int) (any : Bool) (S V : Int), kx ≤ len ∧ x = .int .i64 (kx : Int) ∧ Est 44 wr g1 v lo hi any S V ∧ Est 46 wr g2 v lo hi any S V ∧ Turn [] w wr) (fun x _ _ _ _ _ => len - (intOf x).toNat)
  case atStart => exact ⟨0, first, false, 0, 0, by omega, rfl, HS2.out.1, HS2.out.2, HT2.out⟩
  case round =>
    obtain ⟨kx, x, any, S, V, hi', rfl, hs1, hs2, hT⟩ := hrel
    have HT := Lib.hid hT
    by_cases hil : kx < len
    · obtain ⟨⟨bk, t⟩, hzi⟩ : ∃ z, ss[kx]? = some z := ⟨ss[kx]'(by rw [HZ.out.1]; exact hil), by simp [HZ.out.1, hil]⟩
      obtain ⟨hwt, gl, off, rfl, hgl, hc0, hc1⟩ := HZ.out.2 kx _ hzi
      simp only at hwt hc0 hc1
      replace hc0 := (hT.cell (p := ⟨gl, off + kx * 2, none⟩) hgl (by simp)).trans hc0
      replace hc1 := (hT.cell (p := ⟨gl, off + kx * 2 + 1, none⟩) hgl (by simp)).trans hc1
      have hgw : gl < wr.heap.size := Nat.lt_of_lt_of_le hgl hT.size
      have hgn : gl ∉ [g1, g2] := by have := HGG.out; have := HG2.out; simp; omega
      have HH := Lib.hid hzi
      clear hT hzi
      cases bk
      · -- a sample
        obtain ⟨er, x', any', S', V', HC⟩ : ∃ er x' any' S' V', Hid ((∀ W g, Est 44 W g x lo hi any S V → Calls Try.prog 14 #[.pointer (some ⟨g, 0, none⟩), .int .i64 t] W fun e w' => e = .returned (.int .i64 er) ∧ Est 44 w' g x' lo hi any' S' V' ∧ Turn [g] W w') ∧
            (∀ W g, Est 46 W g x lo hi any S V → Calls Try.prog 15 #[.pointer (some ⟨g, 0, none⟩), .int .i64 t] W fun e w' => e = .returned (.int .i64 er) ∧ Est 46 w' g x' lo hi any' S' V' ∧ Turn [g] W w')) := by
          obtain ⟨er, x', any', S', V', h1, h2⟩ := sample_two x lo hi any S V t
          exact ⟨er, x', any', S', V', Lib.hid ⟨h1, h2⟩⟩
        go_upto_region 13 with fail
        refine wp_region_any (by kernel_rfl) ?_
        refine Vals.wpAny_goodW (RPl g1 g2 gl off len cap kx t er) (JP wr g1 g2 (fun W => Est 44 W g1 x lo hi any S V) (fun W => Est 44 W g1 x' lo hi any' S' V') (fun W => Est 46 W g2 x lo hi any S V) (fun W => Est 46 W g2 x' lo hi any' S' V')) [some 61, some 62, some 63, some 64, some 65, some 66, some 67, some 68, some 69, some 70, some 71, some 72, some 73, some 74, some 75] 102 _ _ rfl (by kernel_rfl) (by kernel_rfl) (by decide) ?step ?fin ⟨(Turn.refl _ _).drew, fun _ => hs1.turn (Turn.refl [] wr).drew (by simp), (fun h => by simp at h), fun _ => hs2.turn (Turn.refl [] wr).drew (by simp), (fun h => by simp at h)⟩
        case step =>
          intro i o d ho hd listed a W hls hun hcl hJ hdf hdep hfr K hK
          match i, ho, hd with
          | 0, ho, hd =>
            have ho' := ho
            simp only [List.getElem?_toArray, List.getElem?_cons_zero, Option.some.injEq] at ho hd
            subst ho hd
            have r9 : a.eval (.tmp 9) = .pointer (some ⟨g1, 0, none⟩) := hfr 9 (by decide)
            rw [Vals.eval_tmp] at r9
            refine Vals.wpOp_run ho' rfl ?_
            clear hdep hfr ho' hdf hcl
            go_simp
            exact hK _ _ (fun _ _ h => h) (hJ.keep (by decide) (by decide)) (fun _ => rfl)
          | 1, ho, hd =>
            have ho' := ho
            simp only [List.getElem?_toArray, List.getElem?_cons_zero, List.getElem?_cons_succ, Option.some.injEq] at ho hd
            subst ho hd
            have r3 : a.eval (.tmp 3) = .slice (some ⟨gl, off, none⟩) len cap := hfr 3 (by decide)
            rw [Vals.eval_tmp] at r3
            refine Vals.wpOp_run ho' rfl ?_
            clear hdep hfr ho' hdf hcl
            go_simp
            exact hK _ _ (fun _ _ h => h) (hJ.keep (by decide) (by decide)) (fun _ => rfl)
          | 2, ho, hd =>
            have ho' := ho
            simp only [List.getElem?_toArray, List.getElem?_cons_zero, List.getElem?_cons_succ, Option.some.injEq] at ho hd
            subst ho hd
            have r13 : a.eval (.tmp 13) = .int .i64 (kx : Int) := hfr 13 (by decide)
            rw [Vals.eval_tmp] at r13
            refine Vals.wpOp_run ho' rfl ?_
            clear hdep hfr ho' hdf hcl
            go_simp
            exact hK _ _ (fun _ _ h => h) (hJ.keep (by decide) (by decide)) (fun _ => rfl)
          | 3, ho, hd =>
            have ho' := ho
            simp only [List.getElem?_toArray, List.getElem?_cons_zero, List.getElem?_cons_succ, Option.some.injEq] at ho hd
            subst ho hd
            have r62 : a.eval (.tmp 62) = .slice (some ⟨gl, off, none⟩) len cap := (hdep ⟨1, .data⟩ (by simp) rfl).2 62 rfl
            rw [Vals.eval_tmp] at r62
            have r63 : a.eval (.tmp 63) = .int .i64 (kx : Int) := (hdep ⟨2, .data⟩ (by simp) rfl).2 63 rfl
            rw [Vals.eval_tmp] at r63
            refine Vals.wpOp_run ho' rfl ?_
            clear hdep hfr ho' hdf hcl
            go_simp
            exact hK _ _ (fun _ _ h => h) (hJ.keep (by decide) (by decide)) (fun _ => rfl)
          | 4, ho, hd =>
            have ho' := ho
            simp only [List.getElem?_toArray, List.getElem?_cons_zero, List.getElem?_cons_succ, Option.some.injEq] at ho hd
            subst ho hd
            have r64 : a.eval (.tmp 64) = .pointer (some ⟨gl, off + kx * 2, none⟩) := (hdep ⟨3, .data⟩ (by simp) rfl).2 64 rfl
            rw [Vals.eval_tmp] at r64
            refine Vals.wpOp_run ho' rfl ?_
            clear hdep hfr ho' hdf hcl
            go_simp
            exact hK _ _ (fun _ _ h => h) (hJ.keep (by decide) (by decide)) (fun _ => rfl)
          | 5, ho, hd =>
            have ho' := ho
            simp only [List.getElem?_toArray, List.getElem?_cons_zero, List.getElem?_cons_succ, Option.some.injEq] at ho hd
            subst ho hd
            have r65 : a.eval (.tmp 65) = .pointer (some ⟨gl, off + kx * 2 + 1, none⟩) := (hdep ⟨4, .data⟩ (by simp) rfl).2 65 rfl
            rw [Vals.eval_tmp] at r65
            have c0 := (hJ.1.cell (p := ⟨gl, off + kx * 2 + 1, none⟩) hgw hgn).trans hc1
            refine Vals.wpOp_run ho' rfl ?_
            clear hdep hfr ho' hdf hcl
            go_simp
            exact hK _ _ (fun _ _ h => h) (hJ.keep (by decide) (by decide)) (fun _ => rfl)
          | 6, ho, hd =>
            have ho' := ho
            simp only [List.getElem?_toArray, List.getElem?_cons_zero, List.getElem?_cons_succ, Option.some.injEq] at ho hd
            subst ho hd
            have r61 : a.eval (.tmp 61) = .pointer (some ⟨g1, 0, none⟩) := (hdep ⟨0, .data⟩ (by simp) rfl).2 61 rfl
            rw [Vals.eval_tmp] at r61
            have r66 : a.eval (.tmp 66) = .int .i64 t := (hdep ⟨5, .data⟩ (by simp) rfl).2 66 rfl
            rw [Vals.eval_tmp] at r66
            refine Vals.wpOp_run ho' rfl ?_
            clear hdep hfr ho' hdf hcl
            go_simp
            refine (HC.out.1 W g1 (hJ.2.1 (Vals.getD_true_false hun))).mono ?_
            rintro e w' ⟨rfl, hs', ht'⟩
            exact hK _ _ (fun j x h => RPl_any j x h) (hJ.first (by rw [hls]; decide) ht' hs' (fun h => h.turn ht' (by simp; omega)) (fun h => h.turn ht' (by simp; omega))) (fun _ => rfl)
          | 7, ho, hd =>
            have ho' := ho
            simp only [List.getElem?_toArray, List.getElem?_cons_zero, List.getElem?_cons_succ, Option.some.injEq] at ho hd
            subst ho hd
            have r11 : a.eval (.tmp 11) = .pointer (some ⟨g2, 0, none⟩) := hfr 11 (by decide)
            rw [Vals.eval_tmp] at r11
            refine Vals.wpOp_run ho' rfl ?_
            clear hdep hfr ho' hdf hcl
            go_simp
            exact hK _ _ (fun _ _ h => h) (hJ.keep (by decide) (by decide)) (fun _ => rfl)
          | 8, ho, hd =>
            have ho' := ho
            simp only [List.getElem?_toArray, List.getElem?_cons_zero, List.getElem?_cons_succ, Option.some.injEq] at ho hd
            subst ho hd
            have r3 : a.eval (.tmp 3) = .slice (some ⟨gl, off, none⟩) len cap := hfr 3 (by decide)
            rw [Vals.eval_tmp] at r3
            refine Vals.wpOp_run ho' rfl ?_
            clear hdep hfr ho' hdf hcl
            go_simp
            exact hK _ _ (fun _ _ h => h) (hJ.keep (by decide) (by decide)) (fun _ => rfl)
          | 9, ho, hd =>
            have ho' := ho
            simp only [List.getElem?_toArray, List.getElem?_cons_zero, List.getElem?_cons_succ, Option.some.injEq] at ho hd
            subst ho hd
            have r13 : a.eval (.tmp 13) = .int .i64 (kx : Int) := hfr 13 (by decide)
            rw [Vals.eval_tmp] at r13
            refine Vals.wpOp_run ho' rfl ?_
            clear hdep hfr ho' hdf hcl
            go_simp
            exact hK _ _ (fun _ _ h => h) (hJ.keep (by decide) (by decide)) (fun _ => rfl)
          | 10, ho, hd =>
            have ho' := ho
            simp only [List.getElem?_toArray, List.getElem?_cons_zero, List.getElem?_cons_succ, Option.some.injEq] at ho hd
            subst ho hd
            have r69 : a.eval (.tmp 69) = .slice (some ⟨gl, off, none⟩) len cap := (hdep ⟨8, .data⟩ (by simp) rfl).2 69 rfl
            rw [Vals.eval_tmp] at r69
            have r70 : a.eval (.tmp 70) = .int .i64 (kx : Int) := (hdep ⟨9, .data⟩ (by simp) rfl).2 70 rfl
            rw [Vals.eval_tmp] at r70
            refine Vals.wpOp_run ho' rfl ?_
            clear hdep hfr ho' hdf hcl
            go_simp
            exact hK _ _ (fun _ _ h => h) (hJ.keep (by decide) (by decide)) (fun _ => rfl)
          | 11, ho, hd =>
            have ho' := ho
            simp only [List.getElem?_toArray, List.getElem?_cons_zero, List.getElem?_cons_succ, Option.some.injEq] at ho hd
            subst ho hd
            have r71 : a.eval (.tmp 71) = .pointer (some ⟨gl, off + kx * 2, none⟩) := (hdep ⟨10, .data⟩ (by simp) rfl).2 71 rfl
            rw [Vals.eval_tmp] at r71
            refine Vals.wpOp_run ho' rfl ?_
            clear hdep hfr ho' hdf hcl
            go_simp
            exact hK _ _ (fun _ _ h => h) (hJ.keep (by decide) (by decide)) (fun _ => rfl)
          | 12, ho, hd =>
            have ho' := ho
            simp only [List.getElem?_toArray, List.getElem?_cons_zero, List.getElem?_cons_succ, Option.some.injEq] at ho hd
            subst ho hd
            have r72 : a.eval (.tmp 72) = .pointer (some ⟨gl, off + kx * 2 + 1, none⟩) := (hdep ⟨11, .data⟩ (by simp) rfl).2 72 rfl
            rw [Vals.eval_tmp] at r72
            have c0 := (hJ.1.cell (p := ⟨gl, off + kx * 2 + 1, none⟩) hgw hgn).trans hc1
            refine Vals.wpOp_run ho' rfl ?_
            clear hdep hfr ho' hdf hcl
            go_simp
            exact hK _ _ (fun _ _ h => h) (hJ.keep (by decide) (by decide)) (fun _ => rfl)
          | 13, ho, hd =>
            have ho' := ho
            simp only [List.getElem?_toArray, List.getElem?_cons_zero, List.getElem?_cons_succ, Option.some.injEq] at ho hd
            subst ho hd
            have r68 : a.eval (.tmp 68) = .pointer (some ⟨g2, 0, none⟩) := (hdep ⟨7, .data⟩ (by simp) rfl).2 68 rfl
            rw [Vals.eval_tmp] at r68
            have r73 : a.eval (.tmp 73) = .int .i64 t := (hdep ⟨12, .data⟩ (by simp) rfl).2 73 rfl
            rw [Vals.eval_tmp] at r73
            refine Vals.wpOp_run ho' rfl ?_
            clear hdep hfr ho' hdf hcl
            go_simp
            refine (HC.out.2 W g2 (hJ.2.2.2.1 (Vals.getD_true_false hun))).mono ?_
            rintro e w' ⟨rfl, hs', ht'⟩
            exact hK _ _ (fun j x h => RPl_any j x h) (hJ.second (by rw [hls]; decide) ht' hs' (fun h => h.turn ht' (by simp; omega)) (fun h => h.turn ht' (by simp; omega))) (fun _ => rfl)
          | 14, ho, hd =>
            have ho' := ho
            simp only [List.getElem?_toArray, List.getElem?_cons_zero, List.getElem?_cons_succ, Option.some.injEq] at ho hd
            subst ho hd
            have r67 : a.eval (.tmp 67) = .int .i64 er := (hdep ⟨6, .data⟩ (by simp) rfl).2 67 rfl
            rw [Vals.eval_tmp] at r67
            have r74 : a.eval (.tmp 74) = .int .i64 er := (hdep ⟨13, .data⟩ (by simp) rfl).2 74 rfl
            rw [Vals.eval_tmp] at r74
            refine Vals.wpOp_run ho' rfl ?_
            clear hdep hfr ho' hdf hcl
            go_simp
            exact hK _ _ (fun _ _ h => h) (hJ.keep (by decide) (by decide)) (fun _ => rfl)
          | i + 15, ho, hd => simp at ho
        case fin =>
          intro listed W f' hall hJ hG
          have q0 : f' 61 = .pointer (some ⟨g1, 0, none⟩) := hG 0 61 rfl
          have q1 : f' 62 = .slice (some ⟨gl, off, none⟩) len cap := hG 1 62 rfl
          have q2 : f' 63 = .int .i64 (kx : Int) := hG 2 63 rfl
          have q3 : f' 64 = .pointer (some ⟨gl, off + kx * 2, none⟩) := hG 3 64 rfl
          have q4 : f' 65 = .pointer (some ⟨gl, off + kx * 2 + 1, none⟩) := hG 4 65 rfl
          have q5 : f' 66 = .int .i64 t := hG 5 66 rfl
          have q6 : f' 67 = .int .i64 er := hG 6 67 rfl
          have q7 : f' 68 = .pointer (some ⟨g2, 0, none⟩) := hG 7 68 rfl
          have q8 : f' 69 = .slice (some ⟨gl, off, none⟩) len cap := hG 8 69 rfl
          have q9 : f' 70 = .int .i64 (kx : Int) := hG 9 70 rfl
          have q10 : f' 71 = .pointer (some ⟨gl, off + kx * 2, none⟩) := hG 10 71 rfl
          have q11 : f' 72 = .pointer (some ⟨gl, off + kx * 2 + 1, none⟩) := hG 11 72 rfl
          have q12 : f' 73 = .int .i64 t := hG 12 73 rfl
          have q13 : f' 74 = .int .i64 er := hG 13 74 rfl
          have q14 : f' 75 = .bool false := hG 14 75 rfl
          have hF1 := hJ.2.2.1 (hall 6 (by decide))
          have hF2 := hJ.2.2.2.2 (hall 13 (by decide))
          have hF0 := hJ.1
          clear hG hall hJ
          simp only [Vals.puts, Vals.pairs, List.filterMap_cons, List.filterMap_nil, id, List.map_cons, List.map_nil, List.foldl_cons, List.foldl_nil, q0, q1, q2, q3, q4, q5, q6, q7, q8, q9, q10, q11, q12, q13, q14]
          clear q0 q1 q2 q3 q4 q5 q6 q7 q8 q9 q10 q11 q12 q13 q14
          go_frame
          have HSn := Lib.hid (And.intro hF1 hF2)
          have HTn := Lib.hid (HT.out.over hF0 (by have := HGG.out; have := HG2.out; intro j hj; simp at hj; omega))
          clear hF0 hF1 hF2 hs1 hs2 HC
          obtain ⟨so, sb, HSM⟩ : ∃ so sb, Hid ((∀ W2 g, Est 44 W2 g x' lo hi any' S' V' → Calls Try.prog 16 #[.pointer (some ⟨g, 0, none⟩)] W2 fun e w' => e = .returned (.tuple #[.int .i64 so, .bool sb]) ∧ W2 = w') ∧ (∀ W2 g, Est 46 W2 g x' lo hi any' S' V' → Calls Try.prog 17 #[.pointer (some ⟨g, 0, none⟩)] W2 fun e w' => e = .returned (.tuple #[.int .i64 so, .bool sb]) ∧ W2 = w')) := by
            obtain ⟨so, sb, h1, h2⟩ := smooth_two x' lo hi any' S' V'
            exact ⟨so, sb, Lib.hid ⟨h1, h2⟩⟩
          have hm1 := HSM.out.1 W g1 HSn.out.1
          have hm2 := HSM.out.2 W g2 HSn.out.2
          have hv1 := value_any W g1 _ _ _ _ _ _ HSn.out.1
          have hv2 := rvalue_any W g2 _ _ _ _ _ _ HSn.out.2
          clear HSM
          go_wp2_with fail
          refine hm1.mono ?_
          rintro e w' ⟨rfl, rfl⟩
          clear hm1
          go_wp2_with fail
          refine hm2.mono ?_
          rintro e w' ⟨rfl, rfl⟩
          clear hm2
          go_wp2_with fail
          refine hv1.mono ?_
          rintro e w' ⟨rfl, rfl⟩
          clear hv1
          go_wp2_with fail
          refine hv2.mono ?_
          rintro e w' ⟨rfl, rfl⟩
          clear hv2
          go_wp2
          go_roundw
          case rel => exact ⟨kx + 1, _, _, _, _, by omega, by go_num, HSn.out.1, HSn.out.2, HTn.out⟩
          case measure => simp [intOf]; omega
      · -- the value doubled
        have hb1 := back_any wr g1 _ _ _ _ _ _ hs1
        have HS2' := Lib.hid hs2
        obtain ⟨xn, hxn⟩ : ∃ xn, xn = min (2 * x) hi := ⟨_, rfl⟩
        obtain ⟨anyn, hanyn⟩ : ∃ anyn, anyn = any := ⟨_, rfl⟩
        obtain ⟨Sn, hSn⟩ : ∃ Sn, Sn = S := ⟨_, rfl⟩
        obtain ⟨Vn, hVn⟩ : ∃ Vn, Vn = V := ⟨_, rfl⟩
        have hb2 : ∀ W, Est 46 W g2 x lo hi any S V → Calls Try.prog 13 #[.pointer (some ⟨g2, 0, none⟩)] W fun e w' => e = .returned (.tuple #[]) ∧ Est 46 w' g2 xn lo hi anyn Sn Vn ∧ Turn [g2] W w' := by
          rw [hxn, hanyn, hSn, hVn]
          exact fun W h => rback_any W g2 x lo hi any S V h
        rw [← hxn, ← hanyn, ← hSn, ← hVn] at hb1
        have HB2 := Lib.hid hb2
        have HEQ := Lib.hid (And.intro hanyn (And.intro hSn hVn))
        clear hs1 hs2 hb2 hxn hanyn hSn hVn
        go_wp2_with fail
        refine hb1.mono ?_
        rintro e wc ⟨rfl, hsn, htn⟩
        have HTc := Lib.hid (HT.out.over htn (by have := HGG.out; intro j hj; simp at hj; omega))
        have HSc := Lib.hid hsn
        have hb2 := HB2.out wc (by have := HS2'.out.turn htn (by simp; omega); exact this)
        clear hb1 hsn htn HB2
        go_wp2_with fail
        refine hb2.mono ?_
        rintro e wn ⟨rfl, hsn, htn⟩
        have HTn := Lib.hid (HTc.out.over htn (by have := HG2.out; intro j hj; simp at hj; omega))
        have HSn := Lib.hid (And.intro (HSc.out.turn htn (by simp; omega)) hsn)
        clear hb2 hsn htn HSc HTc
        obtain ⟨so, sb, HSM⟩ : ∃ so sb, Hid ((∀ W g, Est 44 W g xn lo hi anyn Sn Vn → Calls Try.prog 16 #[.pointer (some ⟨g, 0, none⟩)] W fun e w' => e = .returned (.tuple #[.int .i64 so, .bool sb]) ∧ W = w') ∧ (∀ W g, Est 46 W g xn lo hi anyn Sn Vn → Calls Try.prog 17 #[.pointer (some ⟨g, 0, none⟩)] W fun e w' => e = .returned (.tuple #[.int .i64 so, .bool sb]) ∧ W = w')) := by
          obtain ⟨so, sb, h1, h2⟩ := smooth_two xn lo hi anyn Sn Vn
          exact ⟨so, sb, Lib.hid ⟨h1, h2⟩⟩
        have hm1 := HSM.out.1 wn g1 HSn.out.1
        have hm2 := HSM.out.2 wn g2 HSn.out.2
        have hv1 := value_any wn g1 _ _ _ _ _ _ HSn.out.1
        have hv2 := rvalue_any wn g2 _ _ _ _ _ _ HSn.out.2
        clear HSM
        go_wp2_with fail
        refine hm1.mono ?_
        rintro e w' ⟨rfl, rfl⟩
        clear hm1
        go_wp2_with fail
        refine hm2.mono ?_
        rintro e w' ⟨rfl, rfl⟩
        clear hm2
        go_wp2_with fail
        refine hv1.mono ?_
        rintro e w' ⟨rfl, rfl⟩
        clear hv1
        go_wp2_with fail
        refine hv2.mono ?_
        rintro e w' ⟨rfl, rfl⟩
        clear hv2
        go_wp2
        go_roundw
        case rel => exact ⟨kx + 1, _, _, _, _, by omega, by go_num, HSn.out.1, HSn.out.2, HTn.out⟩
        case measure => simp [intOf]; omega
    · obtain rfl : len = kx := by omega
      clear hT hs1 hs2
      go_wp2_with fail
      refine (works_any wr).mono ?_
      rintro e w6 ⟨rfl, ht6⟩
      have HT6 := Lib.hid (HT.out.trans ht6)
      clear ht6
      go_wp2
      go_ret
      exact ⟨rfl, HT6.out.below (Nat.le_refl _) (by simp)⟩

theorem rt_quiet {P : Program} {f : FuncId} {args : Array Value} {w : World} {n : Nat} {v : Value}
    (h : Calls P f args (w.drewN n) fun e w' => e = .returned v ∧ w.drewN n = w') : Calls P f args (w.drewN n) fun e w'' => e = .returned v ∧ ∃ m, w'' = w.drewN m :=
  h.mono fun _ _ ⟨he, hm⟩ => ⟨he, n, hm.symm⟩

set_option maxRecDepth 100000 in
set_option maxHeartbeats 6400000 in
theorem playsN (first lo hi : Int) (a : Option Addr) (len cap : Nat) (ss : List (Bool × Int)) (w : World) (htk : takes first lo hi = false) (hz : OpRow w a len ss) (hlen : len ≤ 500) :
    Calls Try.prog 3 #[.int .i64 first, .int .i64 lo, .int .i64 hi, .slice a len cap] w fun e w' => e = .returned (.bool true) ∧ Below w.heap.size w w' := by
  have hn := new_no w first lo hi htk
  have hn2 := rnew_no w first lo hi htk
  have d1 : decide (500 < (len : Int)) = false := by simp; omega
  have HZ := Lib.hid hz
  clear htk hz
  go_enter Try.func3, Try.ntmps3
  go_wp2_with fail
  refine hn.mono ?_
  rintro e w' ⟨rfl, rfl⟩
  clear hn
  go_wp2_with fail
  refine hn2.mono ?_
  rintro e w' ⟨rfl, rfl⟩
  clear hn2
  go_wp2
  go_loopw [13, 14, 15, 16, 17] (fun x y1 y2 y3 y4 wr => ∃ (kx : Nat), kx ≤ len ∧ x = .int .i64 (kx : Int) ∧ Turn [] w wr) (fun x _ _ _ _ _ => len - (intOf x).toNat)
  case atStart => exact ⟨0, by omega, rfl, Turn.refl _ _⟩
  case round =>
    obtain ⟨kx, hi', rfl, hT⟩ := hrel
    have HT := Lib.hid hT
    by_cases hil : kx < len
    · obtain ⟨⟨bk, t⟩, hzi⟩ : ∃ z, ss[kx]? = some z := ⟨ss[kx]'(by rw [HZ.out.1]; exact hil), by simp [HZ.out.1, hil]⟩
      obtain ⟨hwt, gl, off, rfl, hgl, hc0, hc1⟩ := (HZ.out.turn hT).2 kx _ hzi
      simp only at hwt hc0 hc1
      have HH := Lib.hid hzi
      clear hzi hT
      cases bk
      · go_upto_region 13 with fail
        go_quiet (first | (go_at_call 14; exact rt_quiet (sample_nil _ t)) | (go_at_call 15; exact rt_quiet (rsample_nil _ t)))
        go_wp2_with fail
        refine (smooth_nil (wr.drewN nq)).mono ?_
        rintro e w' ⟨rfl, rfl⟩
        go_wp2_with fail
        refine (rsmooth_nil (wr.drewN nq)).mono ?_
        rintro e w' ⟨rfl, rfl⟩
        go_wp2_with fail
        refine (value_nil (wr.drewN nq)).mono ?_
        rintro e w' ⟨rfl, rfl⟩
        go_wp2_with fail
        refine (rvalue_nil (wr.drewN nq)).mono ?_
        rintro e w' ⟨rfl, rfl⟩
        go_wp2
        go_roundw
        case rel => exact ⟨kx + 1, by omega, by go_num, HT.out.drewN nq⟩
        case measure => simp [intOf]; omega
      · go_wp2_with fail
        refine (back_nil wr).mono ?_
        rintro e w' ⟨rfl, rfl⟩
        go_wp2_with fail
        refine (rback_nil wr).mono ?_
        rintro e w' ⟨rfl, rfl⟩
        go_wp2_with fail
        refine (smooth_nil wr).mono ?_
        rintro e w' ⟨rfl, rfl⟩
        go_wp2_with fail
        refine (rsmooth_nil wr).mono ?_
        rintro e w' ⟨rfl, rfl⟩
        go_wp2_with fail
        refine (value_nil wr).mono ?_
        rintro e w' ⟨rfl, rfl⟩
        go_wp2_with fail
        refine (rvalue_nil wr).mono ?_
        rintro e w' ⟨rfl, rfl⟩
        go_wp2
        go_roundw
        case rel => exact ⟨kx + 1, by omega, by go_num, HT.out⟩
        case measure => simp [intOf]; omega
    · obtain rfl : len = kx := by omega
      clear hT
      go_wp2_with fail
      refine (works_any _).mono ?_
      rintro e w6 ⟨rfl, ht6⟩
      have HT6 := Lib.hid (HT.out.trans ht6)
      clear ht6
      go_wp2
      go_ret
      exact ⟨rfl, HT6.out.below (Nat.le_refl _) (by simp)⟩

set_option maxHeartbeats 800000 in
theorem playsL (first lo hi : Int) (a : Option Addr) (len cap : Nat) (w : World) (hlen : 500 < len) :
    Calls Try.prog 3 #[.int .i64 first, .int .i64 lo, .int .i64 hi, .slice a len cap] w fun e w' => e = .returned (.bool true) ∧ Below w.heap.size w w' := by
  have d1 : decide (500 < (len : Int)) = true := by simp; omega
  clear hlen
  go_enter Try.func3, Try.ntmps3
  go_wp2_with fail
  refine (works_any w).mono ?_
  rintro e w1 ⟨rfl, ht1⟩
  go_wp2
  go_ret
  exact ⟨rfl, ht1.below (Nat.le_refl _) (by simp)⟩

theorem rtoPlays_walk (first lo hi : Int) (a : Option Addr) (len cap : Nat) (ss : List (Bool × Int)) (w : World) (w1 : (Lit.int .i64 first).wf = true) (w2 : (Lit.int .i64 lo).wf = true) (w3 : (Lit.int .i64 hi).wf = true) (hz : IsOps w a len cap ss) :
    Calls Try.prog 3 #[.int .i64 first, .int .i64 lo, .int .i64 hi, .slice a len cap] w fun e w' => e = .returned (.bool true) ∧ Below w.heap.size w w' := by
  by_cases hl : len ≤ 500
  · cases htk : takes first lo hi
    · exact playsN first lo hi a len cap _ w htk hz.1 hl
    · exact playsF first lo hi a len cap _ w htk hz.1 hl
  · exact playsL first lo hi a len cap w (by omega)
end Go.Proofs.Ytnngbckahkalhaa
