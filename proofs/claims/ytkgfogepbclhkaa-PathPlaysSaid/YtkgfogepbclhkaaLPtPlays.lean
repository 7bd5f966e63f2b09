/-
  The walk of PathPlays. Written by genptplays.py.
-/
import Derived.Test.YtkgfogepbclhkaaPtAlike
import Derived.Test.YtkgfogepbclhkaaPtR4
import Derived.Test.YtkgfogepbclhkaaPtLaw
import Derived.Test.YtkgfogepbclhkaaPtJ
namespace Go.Proofs.Ytkgfogepbclhkaa
open Go.RowKit
set_option linter.unusedVariables false
set_option linter.unusedSimpArgs false

/-- What the operations of the drawn region leave behind. -/
def RPlays (g gb gl off len cap kx : Nat) (kind n : Int) (full : Bool) (t u : Int) (ov : Bool) (i : Nat) (v : Value) (W : World) : Prop := match i with | 0 => v = .pointer (some ⟨g, 0, none⟩) | 1 => v = .slice (some ⟨gl, off, none⟩) len cap | 2 => v = .int .i64 (kx : Int) | 3 => v = .pointer (some ⟨gl, off + kx * 5, none⟩) | 4 => v = .agg #[.int .i64 kind, .int .i64 n, .bool full, .int .i64 t, .int .i64 u] | 5 => v = .bool ov | 6 => v = .pointer (some ⟨gb, 0, none⟩) | 7 => v = .slice (some ⟨gl, off, none⟩) len cap | 8 => v = .int .i64 (kx : Int) | 9 => v = .pointer (some ⟨gl, off + kx * 5, none⟩) | 10 => v = .agg #[.int .i64 kind, .int .i64 n, .bool full, .int .i64 t, .int .i64 u] | 11 => v = .bool ov | 12 => v = .bool false | 13 => v = .bool false | 14 => v = .pointer (some ⟨g, 0, none⟩) | 15 => v = .pointer (some ⟨gb, 0, none⟩) | 16 => v = .bool true | 17 => v = .bool false | 18 => v = .bool false | _ => True
theorem RPlays_mono {g gb gl off len cap kx : Nat} {kind n : Int} {full : Bool} {t u : Int} {ov : Bool} {W W' : World} (hb : Below W.heap.size W W') (jo : Nat) (xo : Value) (h : RPlays g gb gl off len cap kx kind n full t u ov jo xo W) : RPlays g gb gl off len cap kx kind n full t u ov jo xo W' := by
  unfold RPlays at h ⊢
  split at h <;> try exact h
theorem RPlays_any {g gb gl off len cap kx : Nat} {kind n : Int} {full : Bool} {t u : Int} {ov : Bool} {W W' : World} (jo : Nat) (xo : Value) (h : RPlays g gb gl off len cap kx kind n full t u ov jo xo W) : RPlays g gb gl off len cap kx kind n full t u ov jo xo W' := by
  unfold RPlays at h ⊢
  split at h <;> exact h
/-- What the operations of the drawn region leave behind. -/
def RPlaysN (gl off len cap kx : Nat) (kind n : Int) (full : Bool) (t u : Int) (i : Nat) (v : Value) (W : World) : Prop := match i with | 0 => v = .pointer none | 1 => v = .slice (some ⟨gl, off, none⟩) len cap | 2 => v = .int .i64 (kx : Int) | 3 => v = .pointer (some ⟨gl, off + kx * 5, none⟩) | 4 => v = .agg #[.int .i64 kind, .int .i64 n, .bool full, .int .i64 t, .int .i64 u] | 5 => v = .bool false | 6 => v = .pointer none | 7 => v = .slice (some ⟨gl, off, none⟩) len cap | 8 => v = .int .i64 (kx : Int) | 9 => v = .pointer (some ⟨gl, off + kx * 5, none⟩) | 10 => v = .agg #[.int .i64 kind, .int .i64 n, .bool full, .int .i64 t, .int .i64 u] | 11 => v = .bool false | 12 => v = .bool false | 13 => v = .bool false | 14 => v = .pointer none | 15 => v = .pointer none | 16 => v = .bool true | 17 => v = .bool false | 18 => v = .bool false | _ => True
theorem RPlaysN_mono {gl off len cap kx : Nat} {kind n : Int} {full : Bool} {t u : Int} {W W' : World} (hb : Below W.heap.size W W') (jo : Nat) (xo : Value) (h : RPlaysN gl off len cap kx kind n full t u jo xo W) : RPlaysN gl off len cap kx kind n full t u jo xo W' := by
  unfold RPlaysN at h ⊢
  split at h <;> try exact h
theorem RPlaysN_any {gl off len cap kx : Nat} {kind n : Int} {full : Bool} {t u : Int} {W W' : World} (jo : Nat) (xo : Value) (h : RPlaysN gl off len cap kx kind n full t u jo xo W) : RPlaysN gl off len cap kx kind n full t u jo xo W' := by
  unfold RPlaysN at h ⊢
  split at h <;> exact h

set_option maxRecDepth 10000 in
set_option maxHeartbeats 12800000 in
theorem playsF (k0 mtu k2 k3 k4 most first lo hi k9 k10 every may k13 : Int) (now : Int) (a : Option Addr) (len cap : Nat) (ss : List PO) (w : World) (htk : ptakes first lo hi mtu most may every now = true) (hz : POpRow w a len ss) (hlen : len ≤ 300) :
    Calls Try.prog 3 #[.agg #[.int .i64 k0, .int .i64 mtu, .int .i64 k2, .int .i64 k3, .int .i64 k4, .int .i64 most, .int .i64 first, .int .i64 lo, .int .i64 hi, .int .i64 k9, .int .i64 k10, .int .i64 every, .int .i64 may, .int .i64 k13], .int .i64 now, .slice a len cap] w fun e w' => e = .returned (.bool true) ∧ Below w.heap.size w w' := by
  have hn := pnew_yes (w.alloc (.cells #[.int .i64 k0, .int .i64 mtu, .int .i64 k2, .int .i64 k3, .int .i64 k4, .int .i64 most, .int .i64 first, .int .i64 lo, .int .i64 hi, .int .i64 k9, .int .i64 k10, .int .i64 every, .int .i64 may, .int .i64 k13] 23)) k0 mtu k2 k3 k4 most first lo hi k9 k10 every may k13 now 0 htk
  have hn2 := fun W => rpnew_yes W k0 mtu k2 k3 k4 most first lo hi k9 k10 every may k13 now 0 htk
  have d1 : decide (300 < (len : Int)) = false := by simp; omega
  have HZ := Lib.hid hz
  clear htk hz
  have hbx := cfBox w k0 mtu k2 k3 k4 most first lo hi k9 k10 every may k13
  have hT0 : Turn [] w (w.alloc (.cells #[.int .i64 k0, .int .i64 mtu, .int .i64 k2, .int .i64 k3, .int .i64 k4, .int .i64 most, .int .i64 first, .int .i64 lo, .int .i64 hi, .int .i64 k9, .int .i64 k10, .int .i64 every, .int .i64 may, .int .i64 k13] 23)) := (Turn.refl _ _).alloc _
  have hsz : w.heap.size < (w.alloc (.cells #[.int .i64 k0, .int .i64 mtu, .int .i64 k2, .int .i64 k3, .int .i64 k4, .int .i64 most, .int .i64 first, .int .i64 lo, .int .i64 hi, .int .i64 k9, .int .i64 k10, .int .i64 every, .int .i64 may, .int .i64 k13] 23)).heap.size := by simp
  have x0 := hbx.cell (i := 0) rfl
  have x1 := hbx.cell (i := 1) rfl
  have x2 := hbx.cell (i := 2) rfl
  have x3 := hbx.cell (i := 3) rfl
  have x4 := hbx.cell (i := 4) rfl
  have x5 := hbx.cell (i := 5) rfl
  have x6 := hbx.cell (i := 6) rfl
  have x7 := hbx.cell (i := 7) rfl
  have x8 := hbx.cell (i := 8) rfl
  have x9 := hbx.cell (i := 9) rfl
  have x10 := hbx.cell (i := 10) rfl
  have x11 := hbx.cell (i := 11) rfl
  have x12 := hbx.cell (i := 12) rfl
  have x13 := hbx.cell (i := 13) rfl
  have HT0 := Lib.hid hT0
  have HS := Lib.hid hsz
  clear hbx hT0 hsz
  generalize (PS.start first lo hi mtu most may every now) = st at hn hn2
  go_enter Try.func3, Try.ntmps3
  go_wp2_with fail
  refine hn.mono ?_
  rintro e wa ⟨g, gr, gw, rfl, hs1, hta, hg, hgr, hgw⟩
  replace x0 := (hta.cell (p := ⟨w.heap.size, 0, none⟩) HS.out (by simp)).trans x0
  replace x1 := (hta.cell (p := ⟨w.heap.size, 1, none⟩) HS.out (by simp)).trans x1
  replace x2 := (hta.cell (p := ⟨w.heap.size, 2, none⟩) HS.out (by simp)).trans x2
  replace x3 := (hta.cell (p := ⟨w.heap.size, 3, none⟩) HS.out (by simp)).trans x3
  replace x4 := (hta.cell (p := ⟨w.heap.size, 4, none⟩) HS.out (by simp)).trans x4
  replace x5 := (hta.cell (p := ⟨w.heap.size, 5, none⟩) HS.out (by simp)).trans x5
  replace x6 := (hta.cell (p := ⟨w.heap.size, 6, none⟩) HS.out (by simp)).trans x6
  replace x7 := (hta.cell (p := ⟨w.heap.size, 7, none⟩) HS.out (by simp)).trans x7
  replace x8 := (hta.cell (p := ⟨w.heap.size, 8, none⟩) HS.out (by simp)).trans x8
  replace x9 := (hta.cell (p := ⟨w.heap.size, 9, none⟩) HS.out (by simp)).trans x9
  replace x10 := (hta.cell (p := ⟨w.heap.size, 10, none⟩) HS.out (by simp)).trans x10
  replace x11 := (hta.cell (p := ⟨w.heap.size, 11, none⟩) HS.out (by simp)).trans x11
  replace x12 := (hta.cell (p := ⟨w.heap.size, 12, none⟩) HS.out (by simp)).trans x12
  replace x13 := (hta.cell (p := ⟨w.heap.size, 13, none⟩) HS.out (by simp)).trans x13
  replace hn2 := hn2 wa
  have HA1 := Lib.hid (And.intro hs1 (And.intro (HT0.out.trans hta) (show w.heap.size ≤ g ∧ w.heap.size ≤ gr ∧ w.heap.size ≤ gw by have := HS.out; omega)))
  clear hn hs1 hta hg hgr hgw
  go_wp2_with fail
  refine hn2.mono ?_
  rintro e wb ⟨gb, hr, hw, rfl, hs2, htb, hh, hhr, hhw⟩
  have hs1b := HA1.out.1.turn htb (by simp) (by simp) (by simp)
  have HO : Hid ((∀ j ∈ [g, gr, gw] ++ [gb, hr, hw], j ∈ ([] : List Nat) ∨ w.heap.size ≤ j) ∧ (g < gb ∧ g < hr ∧ g < hw ∧ gr < gb ∧ gr < hr ∧ gr < hw ∧ gw < gb ∧ gw < hr ∧ gw < hw)) := Lib.hid (by
    have h1 := HA1.out.1.lt
    have h2 := HA1.out.2.1.size
    have h3 := HA1.out.2.2
    refine ⟨fun j hj => ?_, by omega⟩
    simp at hj
    omega)
  have hal := palike_any wb g gr gw gb hr hw st 0 0 hs1b hs2
  have HB := Lib.hid (And.intro hs1b (And.intro hs2 (HA1.out.2.1.trans htb)))
  clear hn2 hs1b hs2 htb hh hhr hhw x0 x1 x2 x3 x4 x5 x6 x7 x8 x9 x10 x11 x12 x13
  go_wp2_with fail
  refine hal.mono ?_
  rintro e w' ⟨rfl, m, rfl⟩
  clear hal
  go_wp2
  go_loopw [11] (fun x wr => ∃ (kx : Nat) (p : PS), kx ≤ len ∧ x = .int .i64 (kx : Int) ∧ PP wr g gr gw p kx ∧ RP wr gb hr hw p kx ∧ Turn [] w wr) (fun x _ => len - (intOf x).toNat)
  case atStart => exact ⟨0, st, by omega, rfl, HB.out.1.drawn m, HB.out.2.1.drawn m, HB.out.2.2.drewN m⟩
  case round =>
    obtain ⟨kx, p, hi', rfl, hs1, hs2, hT⟩ := hrel
    have HT := Lib.hid hT
    by_cases hil : kx < len
    · skip
      obtain ⟨⟨kind, n, full, t, u⟩, hzi⟩ : ∃ z, ss[kx]? = some z := ⟨ss[kx]'(by rw [HZ.out.1]; exact hil), by simp [HZ.out.1, hil]⟩
      obtain ⟨hwt, hwu, gl, off, rfl, hgl, hc0, hc1, hc2, hc3, hc4⟩ := HZ.out.2 kx _ hzi
      simp only at hwt hwu hc0 hc1 hc2 hc3 hc4
      replace hc0 := (hT.cell (p := ⟨gl, off + kx * 5, none⟩) hgl (by simp)).trans hc0
      replace hc1 := (hT.cell (p := ⟨gl, off + kx * 5 + 1, none⟩) hgl (by simp)).trans hc1
      replace hc2 := (hT.cell (p := ⟨gl, off + kx * 5 + 2, none⟩) hgl (by simp)).trans hc2
      replace hc3 := (hT.cell (p := ⟨gl, off + kx * 5 + 3, none⟩) hgl (by simp)).trans hc3
      replace hc4 := (hT.cell (p := ⟨gl, off + kx * 5 + 4, none⟩) hgl (by simp)).trans hc4
      have hgw : gl < wr.heap.size := Nat.lt_of_lt_of_le hgl hT.size
      obtain ⟨q1, q2, q3, q4, q5, q6, q7, q8, q9⟩ := HO.out.2
      have hgn : gl ∉ [g, gr, gw] ++ [gb, hr, hw] := fun hj => by
        rcases HO.out.1 gl hj with h1 | h1
        · cases h1
        · omega
      obtain ⟨q, hq⟩ : ∃ q, q = p.next kind n full t u := ⟨_, rfl⟩
      obtain ⟨ov, hov⟩ : ∃ ov, ov = p.out kind t u := ⟨_, rfl⟩
      have HP : Hid (∀ W, PP W g gr gw p kx → Calls Try.prog 13 #[.pointer (some ⟨g, 0, none⟩), .agg #[.int .i64 kind, .int .i64 n, .bool full, .int .i64 t, .int .i64 u]] W fun e w' => e = .returned (.bool ov) ∧ PP w' g gr gw q (kx + 1) ∧ Turn [g, gr, gw] W w') := by
        rw [hq, hov]
        exact Lib.hid fun W hW => pdoes_any W g gr gw p kx kind n full t u (by omega) hwt hwu hW
      have HR : Hid (∀ W, RP W gb hr hw p kx → Calls Try.prog 14 #[.pointer (some ⟨gb, 0, none⟩), .agg #[.int .i64 kind, .int .i64 n, .bool full, .int .i64 t, .int .i64 u]] W fun e w' => e = .returned (.bool ov) ∧ RP w' gb hr hw q (kx + 1) ∧ Turn [gb, hr, hw] W w') := by
        rw [hq, hov]
        exact Lib.hid fun W hW => rpdoes_any W gb hr hw p kx kind n full t u (by omega) hwt hwu hW
      have HA := Lib.hid (fun W h1 h2 => palike_any W g gr gw gb hr hw q (kx + 1) (kx + 1) h1 h2)
      clear hT hzi hgl hwt hwu hq hov
      go_upto_region 10 with fail
      refine wp_region_any (by kernel_rfl) ?_
      refine Vals.wpAny_goodW (RPlays g gb gl off len cap kx kind n full t u ov) (J2 5 11 [g, gr, gw] [gb, hr, hw] wr (fun W => PP W g gr gw p kx) (fun W => PP W g gr gw q (kx + 1)) (fun W => RP W gb hr hw p kx) (fun W => RP W gb hr hw q (kx + 1))) [some 50, some 51, some 52, some 53, some 54, some 55, some 56, some 57, some 58, some 59, some 60, some 61, some 62, some 63, some 64, some 65, some 66, some 67, some 68] 70 _ _ rfl (by kernel_rfl) (by kernel_rfl) (by decide) ?step ?fin ⟨(Turn.refl _ _).drew, fun _ => hs1.turn (Turn.refl [] wr).drew (by simp) (by simp) (by simp), (fun h => by simp at h), fun _ => hs2.turn (Turn.refl [] wr).drew (by simp) (by simp) (by simp), (fun h => by simp at h)⟩
      case step =>
        intro i o d ho hd listed a W hls hun hcl hJ hdf hdep hfr K hK
        match i, ho, hd with
        | 0, ho, hd =>
          have ho' := ho
          simp only [List.getElem?_toArray, List.getElem?_cons_zero, Option.some.injEq] at ho hd
          subst ho hd
          have r7 : a.eval (.tmp 7) = .pointer (some ⟨g, 0, none⟩) := hfr 7 (by decide)
          rw [Vals.eval_tmp] at r7
          refine Vals.wpOp_run ho' rfl ?_
          clear hdep hfr ho' hdf hcl
          go_simp
          exact hK _ _ (fun _ _ h => h) (hJ.keep (by decide) (by decide)) (fun _ => rfl)
        | 1, ho, hd =>
          have ho' := ho
          simp only [List.getElem?_toArray, List.getElem?_cons_zero, List.getElem?_cons_succ, Option.some.injEq] at ho hd
          subst ho hd
          have r2 : a.eval (.tmp 2) = .slice (some ⟨gl, off, none⟩) len cap := hfr 2 (by decide)
          rw [Vals.eval_tmp] at r2
          refine Vals.wpOp_run ho' rfl ?_
          clear hdep hfr ho' hdf hcl
          go_simp
          exact hK _ _ (fun _ _ h => h) (hJ.keep (by decide) (by decide)) (fun _ => rfl)
        | 2, ho, hd =>
          have ho' := ho
          simp only [List.getElem?_toArray, List.getElem?_cons_zero, List.getElem?_cons_succ, Option.some.injEq] at ho hd
          subst ho hd
          have r11 : a.eval (.tmp 11) = .int .i64 (kx : Int) := hfr 11 (by decide)
          rw [Vals.eval_tmp] at r11
          refine Vals.wpOp_run ho' rfl ?_
          clear hdep hfr ho' hdf hcl
          go_simp
          exact hK _ _ (fun _ _ h => h) (hJ.keep (by decide) (by decide)) (fun _ => rfl)
        | 3, ho, hd =>
          have ho' := ho
          simp only [List.getElem?_toArray, List.getElem?_cons_zero, List.getElem?_cons_succ, Option.some.injEq] at ho hd
          subst ho hd
          have r51 : a.eval (.tmp 51) = .slice (some ⟨gl, off, none⟩) len cap := (hdep ⟨1, .data⟩ (by simp) rfl).2 51 rfl
          rw [Vals.eval_tmp] at r51
          have r52 : a.eval (.tmp 52) = .int .i64 (kx : Int) := (hdep ⟨2, .data⟩ (by simp) rfl).2 52 rfl
          rw [Vals.eval_tmp] at r52
          refine Vals.wpOp_run ho' rfl ?_
          clear hdep hfr ho' hdf hcl
          go_simp
          exact hK _ _ (fun _ _ h => h) (hJ.keep (by decide) (by decide)) (fun _ => rfl)
        | 4, ho, hd =>
          have ho' := ho
          simp only [List.getElem?_toArray, List.getElem?_cons_zero, List.getElem?_cons_succ, Option.some.injEq] at ho hd
          subst ho hd
          have r53 : a.eval (.tmp 53) = .pointer (some ⟨gl, off + kx * 5, none⟩) := (hdep ⟨3, .data⟩ (by simp) rfl).2 53 rfl
          rw [Vals.eval_tmp] at r53
          have c0 := (hJ.1.cell (p := ⟨gl, off + kx * 5, none⟩) hgw hgn).trans hc0
          have c1 := (hJ.1.cell (p := ⟨gl, off + kx * 5 + 1, none⟩) hgw hgn).trans hc1
          have c2 := (hJ.1.cell (p := ⟨gl, off + kx * 5 + 2, none⟩) hgw hgn).trans hc2
          have c3 := (hJ.1.cell (p := ⟨gl, off + kx * 5 + 3, none⟩) hgw hgn).trans hc3
          have c4 := (hJ.1.cell (p := ⟨gl, off + kx * 5 + 4, none⟩) hgw hgn).trans hc4
          refine Vals.wpOp_run ho' rfl ?_
          clear hdep hfr ho' hdf hcl
          go_simp
          exact hK _ _ (fun _ _ h => h) (hJ.keep (by decide) (by decide)) (fun _ => rfl)
        | 5, ho, hd =>
          have ho' := ho
          simp only [List.getElem?_toArray, List.getElem?_cons_zero, List.getElem?_cons_succ, Option.some.injEq] at ho hd
          subst ho hd
          have r50 : a.eval (.tmp 50) = .pointer (some ⟨g, 0, none⟩) := (hdep ⟨0, .data⟩ (by simp) rfl).2 50 rfl
          rw [Vals.eval_tmp] at r50
          have r54 : a.eval (.tmp 54) = .agg #[.int .i64 kind, .int .i64 n, .bool full, .int .i64 t, .int .i64 u] := (hdep ⟨4, .data⟩ (by simp) rfl).2 54 rfl
          rw [Vals.eval_tmp] at r54
          refine Vals.wpOp_run ho' rfl ?_
          clear hdep hfr ho' hdf hcl
          go_simp
          refine (HP.out W (hJ.2.1 (Vals.getD_true_false hun))).mono ?_
          rintro e w' ⟨rfl, hs', ht'⟩
          exact hK _ _ (fun j x h => RPlays_any j x h) (hJ.first (by rw [hls]; decide) (by decide) ht' hs' (fun h => h.turn ht' (by simp; omega) (by simp; omega) (by simp; omega)) (fun h => h.turn ht' (by simp; omega) (by simp; omega) (by simp; omega))) (fun _ => rfl)
        | 6, ho, hd =>
          have ho' := ho
          simp only [List.getElem?_toArray, List.getElem?_cons_zero, List.getElem?_cons_succ, Option.some.injEq] at ho hd
          subst ho hd
          have r9 : a.eval (.tmp 9) = .pointer (some ⟨gb, 0, none⟩) := hfr 9 (by decide)
          rw [Vals.eval_tmp] at r9
          refine Vals.wpOp_run ho' rfl ?_
          clear hdep hfr ho' hdf hcl
          go_simp
          exact hK _ _ (fun _ _ h => h) (hJ.keep (by decide) (by decide)) (fun _ => rfl)
        | 7, ho, hd =>
          have ho' := ho
          simp only [List.getElem?_toArray, List.getElem?_cons_zero, List.getElem?_cons_succ, Option.some.injEq] at ho hd
          subst ho hd
          have r2 : a.eval (.tmp 2) = .slice (some ⟨gl, off, none⟩) len cap := hfr 2 (by decide)
          rw [Vals.eval_tmp] at r2
          refine Vals.wpOp_run ho' rfl ?_
          clear hdep hfr ho' hdf hcl
          go_simp
          exact hK _ _ (fun _ _ h => h) (hJ.keep (by decide) (by decide)) (fun _ => rfl)
        | 8, ho, hd =>
          have ho' := ho
          simp only [List.getElem?_toArray, List.getElem?_cons_zero, List.getElem?_cons_succ, Option.some.injEq] at ho hd
          subst ho hd
          have r11 : a.eval (.tmp 11) = .int .i64 (kx : Int) := hfr 11 (by decide)
          rw [Vals.eval_tmp] at r11
          refine Vals.wpOp_run ho' rfl ?_
          clear hdep hfr ho' hdf hcl
          go_simp
          exact hK _ _ (fun _ _ h => h) (hJ.keep (by decide) (by decide)) (fun _ => rfl)
        | 9, ho, hd =>
          have ho' := ho
          simp only [List.getElem?_toArray, List.getElem?_cons_zero, List.getElem?_cons_succ, Option.some.injEq] at ho hd
          subst ho hd
          have r57 : a.eval (.tmp 57) = .slice (some ⟨gl, off, none⟩) len cap := (hdep ⟨7, .data⟩ (by simp) rfl).2 57 rfl
          rw [Vals.eval_tmp] at r57
          have r58 : a.eval (.tmp 58) = .int .i64 (kx : Int) := (hdep ⟨8, .data⟩ (by simp) rfl).2 58 rfl
          rw [Vals.eval_tmp] at r58
          refine Vals.wpOp_run ho' rfl ?_
          clear hdep hfr ho' hdf hcl
          go_simp
          exact hK _ _ (fun _ _ h => h) (hJ.keep (by decide) (by decide)) (fun _ => rfl)
        | 10, ho, hd =>
          have ho' := ho
          simp only [List.getElem?_toArray, List.getElem?_cons_zero, List.getElem?_cons_succ, Option.some.injEq] at ho hd
          subst ho hd
          have r59 : a.eval (.tmp 59) = .pointer (some ⟨gl, off + kx * 5, none⟩) := (hdep ⟨9, .data⟩ (by simp) rfl).2 59 rfl
          rw [Vals.eval_tmp] at r59
          have c0 := (hJ.1.cell (p := ⟨gl, off + kx * 5, none⟩) hgw hgn).trans hc0
          have c1 := (hJ.1.cell (p := ⟨gl, off + kx * 5 + 1, none⟩) hgw hgn).trans hc1
          have c2 := (hJ.1.cell (p := ⟨gl, off + kx * 5 + 2, none⟩) hgw hgn).trans hc2
          have c3 := (hJ.1.cell (p := ⟨gl, off + kx * 5 + 3, none⟩) hgw hgn).trans hc3
          have c4 := (hJ.1.cell (p := ⟨gl, off + kx * 5 + 4, none⟩) hgw hgn).trans hc4
          refine Vals.wpOp_run ho' rfl ?_
          clear hdep hfr ho' hdf hcl
          go_simp
          exact hK _ _ (fun _ _ h => h) (hJ.keep (by decide) (by decide)) (fun _ => rfl)
        | 11, ho, hd =>
          have ho' := ho
          simp only [List.getElem?_toArray, List.getElem?_cons_zero, List.getElem?_cons_succ, Option.some.injEq] at ho hd
          subst ho hd
          have r56 : a.eval (.tmp 56) = .pointer (some ⟨gb, 0, none⟩) := (hdep ⟨6, .data⟩ (by simp) rfl).2 56 rfl
          rw [Vals.eval_tmp] at r56
          have r60 : a.eval (.tmp 60) = .agg #[.int .i64 kind, .int .i64 n, .bool full, .int .i64 t, .int .i64 u] := (hdep ⟨10, .data⟩ (by simp) rfl).2 60 rfl
          rw [Vals.eval_tmp] at r60
          refine Vals.wpOp_run ho' rfl ?_
          clear hdep hfr ho' hdf hcl
          go_simp
          refine (HR.out W (hJ.2.2.2.1 (Vals.getD_true_false hun))).mono ?_
          rintro e w' ⟨rfl, hs', ht'⟩
          exact hK _ _ (fun j x h => RPlays_any j x h) (hJ.second (by rw [hls]; decide) (by decide) ht' hs' (fun h => h.turn ht' (by simp; omega) (by simp; omega) (by simp; omega)) (fun h => h.turn ht' (by simp; omega) (by simp; omega) (by simp; omega))) (fun _ => rfl)
        | 12, ho, hd =>
          have ho' := ho
          simp only [List.getElem?_toArray, List.getElem?_cons_zero, List.getElem?_cons_succ, Option.some.injEq] at ho hd
          subst ho hd
          have r55 : a.eval (.tmp 55) = .bool ov := (hdep ⟨5, .data⟩ (by simp) rfl).2 55 rfl
          rw [Vals.eval_tmp] at r55
          have r61 : a.eval (.tmp 61) = .bool ov := (hdep ⟨11, .data⟩ (by simp) rfl).2 61 rfl
          rw [Vals.eval_tmp] at r61
          refine Vals.wpOp_run ho' rfl ?_
          clear hdep hfr ho' hdf hcl
          go_simp
          exact hK _ _ (fun _ _ h => h) (hJ.keep (by decide) (by decide)) (fun _ => rfl)
        | 13, ho, hd =>
          have ho' := ho
          simp only [List.getElem?_toArray, List.getElem?_cons_zero, List.getElem?_cons_succ, Option.some.injEq] at ho hd
          subst ho hd
          have r62 : a.eval (.tmp 62) = .bool false := (hdep ⟨12, .data⟩ (by simp) rfl).2 62 rfl
          rw [Vals.eval_tmp] at r62
          refine Vals.wpOp_run ho' rfl ?_
          clear hdep hfr ho' hdf hcl
          go_simp
          exact hK _ _ (fun _ _ h => h) (hJ.keep (by decide) (by decide)) (fun _ => rfl)
        | 14, ho, hd =>
          have ho' := ho
          simp only [List.getElem?_toArray, List.getElem?_cons_zero, List.getElem?_cons_succ, Option.some.injEq] at ho hd
          subst ho hd
          have hgd : a.eval (.tmp 63) = .bool false := (hdep ⟨13, .guard⟩ (by simp) rfl).2 63 rfl
          have r7 : a.eval (.tmp 7) = .pointer (some ⟨g, 0, none⟩) := hfr 7 (by decide)
          rw [Vals.eval_tmp] at r7
          refine Vals.wpOp_run ho' (by unfold Region.wanted; simp only []; rw [Vals.yielded_of (d := 63) rfl hgd]; rfl) ?_
          clear hdep hfr ho' hdf hgd hcl
          go_simp
          exact hK _ _ (fun _ _ h => h) (hJ.keep (by decide) (by decide)) (fun _ => rfl)
        | 15, ho, hd =>
          have ho' := ho
          simp only [List.getElem?_toArray, List.getElem?_cons_zero, List.getElem?_cons_succ, Option.some.injEq] at ho hd
          subst ho hd
          have hgd : a.eval (.tmp 63) = .bool false := (hdep ⟨13, .guard⟩ (by simp) rfl).2 63 rfl
          have r9 : a.eval (.tmp 9) = .pointer (some ⟨gb, 0, none⟩) := hfr 9 (by decide)
          rw [Vals.eval_tmp] at r9
          refine Vals.wpOp_run ho' (by unfold Region.wanted; simp only []; rw [Vals.yielded_of (d := 63) rfl hgd]; rfl) ?_
          clear hdep hfr ho' hdf hgd hcl
          go_simp
          exact hK _ _ (fun _ _ h => h) (hJ.keep (by decide) (by decide)) (fun _ => rfl)
        | 16, ho, hd =>
          have ho' := ho
          simp only [List.getElem?_toArray, List.getElem?_cons_zero, List.getElem?_cons_succ, Option.some.injEq] at ho hd
          subst ho hd
          have hgd : a.eval (.tmp 63) = .bool false := (hdep ⟨13, .guard⟩ (by simp) rfl).2 63 rfl
          have r64 : a.eval (.tmp 64) = .pointer (some ⟨g, 0, none⟩) := (hdep ⟨14, .data⟩ (by simp) rfl).2 64 rfl
          rw [Vals.eval_tmp] at r64
          have r65 : a.eval (.tmp 65) = .pointer (some ⟨gb, 0, none⟩) := (hdep ⟨15, .data⟩ (by simp) rfl).2 65 rfl
          rw [Vals.eval_tmp] at r65
          have l13 := (hdep ⟨13, .guard⟩ (by simp) rfl).1
          have l12 := hcl 13 _ rfl l13 ⟨12, .data⟩ (by simp) rfl
          have l5 := hcl 12 _ rfl l12 ⟨5, .data⟩ (by simp) rfl
          have l11 := hcl 12 _ rfl l12 ⟨11, .data⟩ (by simp) rfl
          have hj1 := hJ.2.2.1 l5
          have hj2 := hJ.2.2.2.2 l11
          clear l13 l12 l5 l11
          refine Vals.wpOp_run ho' (by unfold Region.wanted; simp only []; rw [Vals.yielded_of (d := 63) rfl hgd]; rfl) ?_
          clear hdep hfr ho' hdf hgd hcl
          go_simp
          refine (HA.out W hj1 hj2).mono ?_
          rintro e w' ⟨rfl, m, rfl⟩
          exact hK _ _ (fun j x h => RPlays_any j x h) (hJ.quiet (by decide) (by decide) ((Turn.refl [] W).drewN m) (fun h => h.drawn m) (fun h => h.drawn m) (fun h => h.drawn m) (fun h => h.drawn m)) (fun _ => rfl)
        | 17, ho, hd =>
          have ho' := ho
          simp only [List.getElem?_toArray, List.getElem?_cons_zero, List.getElem?_cons_succ, Option.some.injEq] at ho hd
          subst ho hd
          have hgd : a.eval (.tmp 63) = .bool false := (hdep ⟨13, .guard⟩ (by simp) rfl).2 63 rfl
          have r66 : a.eval (.tmp 66) = .bool true := (hdep ⟨16, .data⟩ (by simp) rfl).2 66 rfl
          rw [Vals.eval_tmp] at r66
          refine Vals.wpOp_run ho' (by unfold Region.wanted; simp only []; rw [Vals.yielded_of (d := 63) rfl hgd]; rfl) ?_
          clear hdep hfr ho' hdf hgd hcl
          go_simp
          exact hK _ _ (fun _ _ h => h) (hJ.keep (by decide) (by decide)) (fun _ => rfl)
        | 18, ho, hd =>
          have ho' := ho
          simp only [List.getElem?_toArray, List.getElem?_cons_zero, List.getElem?_cons_succ, Option.some.injEq] at ho hd
          subst ho hd
          have r63 : a.eval (.tmp 63) = .bool false := (hdep ⟨13, .data⟩ (by simp) rfl).2 63 rfl
          rw [Vals.eval_tmp] at r63
          have r67 : a.eval (.tmp 67) = .bool false := (hdep ⟨17, .data⟩ (by simp) rfl).2 67 rfl
          rw [Vals.eval_tmp] at r67
          refine Vals.wpOp_run ho' rfl ?_
          clear hdep hfr ho' hdf hcl
          go_simp
          exact hK _ _ (fun _ _ h => h) (hJ.keep (by decide) (by decide)) (fun _ => rfl)
        | i + 19, ho, hd => simp at ho
      case fin =>
        intro listed W f' hall hJ hG
        have q0 : f' 50 = .pointer (some ⟨g, 0, none⟩) := hG 0 50 rfl
        have q1 : f' 51 = .slice (some ⟨gl, off, none⟩) len cap := hG 1 51 rfl
        have q2 : f' 52 = .int .i64 (kx : Int) := hG 2 52 rfl
        have q3 : f' 53 = .pointer (some ⟨gl, off + kx * 5, none⟩) := hG 3 53 rfl
        have q4 : f' 54 = .agg #[.int .i64 kind, .int .i64 n, .bool full, .int .i64 t, .int .i64 u] := hG 4 54 rfl
        have q5 : f' 55 = .bool ov := hG 5 55 rfl
        have q6 : f' 56 = .pointer (some ⟨gb, 0, none⟩) := hG 6 56 rfl
        have q7 : f' 57 = .slice (some ⟨gl, off, none⟩) len cap := hG 7 57 rfl
        have q8 : f' 58 = .int .i64 (kx : Int) := hG 8 58 rfl
        have q9 : f' 59 = .pointer (some ⟨gl, off + kx * 5, none⟩) := hG 9 59 rfl
        have q10 : f' 60 = .agg #[.int .i64 kind, .int .i64 n, .bool full, .int .i64 t, .int .i64 u] := hG 10 60 rfl
        have q11 : f' 61 = .bool ov := hG 11 61 rfl
        have q12 : f' 62 = .bool false := hG 12 62 rfl
        have q13 : f' 63 = .bool false := hG 13 63 rfl
        have q14 : f' 64 = .pointer (some ⟨g, 0, none⟩) := hG 14 64 rfl
        have q15 : f' 65 = .pointer (some ⟨gb, 0, none⟩) := hG 15 65 rfl
        have q16 : f' 66 = .bool true := hG 16 66 rfl
        have q17 : f' 67 = .bool false := hG 17 67 rfl
        have q18 : f' 68 = .bool false := hG 18 68 rfl
        have hF1 := hJ.2.2.1 (hall 5 (by decide))
        have hF2 := hJ.2.2.2.2 (hall 11 (by decide))
        have hF0 := hJ.1
        clear hG hall hJ
        simp only [Vals.puts, Vals.pairs, List.filterMap_cons, List.filterMap_nil, id, List.map_cons, List.map_nil, List.foldl_cons, List.foldl_nil, q0, q1, q2, q3, q4, q5, q6, q7, q8, q9, q10, q11, q12, q13, q14, q15, q16, q17, q18]
        clear q0 q1 q2 q3 q4 q5 q6 q7 q8 q9 q10 q11 q12 q13 q14 q15 q16 q17 q18
        go_frame
        have HTn := Lib.hid (HT.out.over hF0 HO.out.1)
        have HSn := Lib.hid (And.intro hF1 hF2)
        clear hF0 hF1 hF2 hs1 hs2 HP HR HA
        go_simp
        go_wp2
        go_roundw
        case rel => exact ⟨kx + 1, q, by omega, by go_num, HSn.out.1, HSn.out.2, HTn.out⟩
        case measure => simp [intOf]; omega
    · obtain rfl : len = kx := by omega
      clear hT hs1 hs2
      go_wp2_with fail
      refine (works_any wr).mono ?_
      rintro e w6 ⟨rfl, ht6⟩
      have HT6 := Lib.hid (HT.out.trans ht6)
      clear ht6
      go_wp2
      go_ret
      exact ⟨rfl, HT6.out.below (Nat.le_refl _) (by simp)⟩

set_option maxRecDepth 10000 in
set_option maxHeartbeats 12800000 in
theorem playsN (k0 mtu k2 k3 k4 most first lo hi k9 k10 every may k13 : Int) (now : Int) (a : Option Addr) (len cap : Nat) (ss : List PO) (w : World) (htk : ptakes first lo hi mtu most may every now = false) (hz : POpRow w a len ss) (hlen : len ≤ 300) :
    Calls Try.prog 3 #[.agg #[.int .i64 k0, .int .i64 mtu, .int .i64 k2, .int .i64 k3, .int .i64 k4, .int .i64 most, .int .i64 first, .int .i64 lo, .int .i64 hi, .int .i64 k9, .int .i64 k10, .int .i64 every, .int .i64 may, .int .i64 k13], .int .i64 now, .slice a len cap] w fun e w' => e = .returned (.bool true) ∧ Below w.heap.size w w' := by
  have hn := pnew_no (w.alloc (.cells #[.int .i64 k0, .int .i64 mtu, .int .i64 k2, .int .i64 k3, .int .i64 k4, .int .i64 most, .int .i64 first, .int .i64 lo, .int .i64 hi, .int .i64 k9, .int .i64 k10, .int .i64 every, .int .i64 may, .int .i64 k13] 23)) k0 mtu k2 k3 k4 most first lo hi k9 k10 every may k13 now htk
  have hn2 := fun W => rpnew_no W k0 mtu k2 k3 k4 most first lo hi k9 k10 every may k13 now htk
  have d1 : decide (300 < (len : Int)) = false := by simp; omega
  have HZ := Lib.hid hz
  clear htk hz
  have hbx := cfBox w k0 mtu k2 k3 k4 most first lo hi k9 k10 every may k13
  have hT0 : Turn [] w (w.alloc (.cells #[.int .i64 k0, .int .i64 mtu, .int .i64 k2, .int .i64 k3, .int .i64 k4, .int .i64 most, .int .i64 first, .int .i64 lo, .int .i64 hi, .int .i64 k9, .int .i64 k10, .int .i64 every, .int .i64 may, .int .i64 k13] 23)) := (Turn.refl _ _).alloc _
  have hsz : w.heap.size < (w.alloc (.cells #[.int .i64 k0, .int .i64 mtu, .int .i64 k2, .int .i64 k3, .int .i64 k4, .int .i64 most, .int .i64 first, .int .i64 lo, .int .i64 hi, .int .i64 k9, .int .i64 k10, .int .i64 every, .int .i64 may, .int .i64 k13] 23)).heap.size := by simp
  have x0 := hbx.cell (i := 0) rfl
  have x1 := hbx.cell (i := 1) rfl
  have x2 := hbx.cell (i := 2) rfl
  have x3 := hbx.cell (i := 3) rfl
  have x4 := hbx.cell (i := 4) rfl
  have x5 := hbx.cell (i := 5) rfl
  have x6 := hbx.cell (i := 6) rfl
  have x7 := hbx.cell (i := 7) rfl
  have x8 := hbx.cell (i := 8) rfl
  have x9 := hbx.cell (i := 9) rfl
  have x10 := hbx.cell (i := 10) rfl
  have x11 := hbx.cell (i := 11) rfl
  have x12 := hbx.cell (i := 12) rfl
  have x13 := hbx.cell (i := 13) rfl
  have HT0 := Lib.hid hT0
  have HS := Lib.hid hsz
  clear hbx hT0 hsz
  go_enter Try.func3, Try.ntmps3
  go_wp2_with fail
  refine hn.mono ?_
  rintro e wa ⟨rfl, hta⟩
  replace x0 := (hta.cell (p := ⟨w.heap.size, 0, none⟩) HS.out (by simp)).trans x0
  replace x1 := (hta.cell (p := ⟨w.heap.size, 1, none⟩) HS.out (by simp)).trans x1
  replace x2 := (hta.cell (p := ⟨w.heap.size, 2, none⟩) HS.out (by simp)).trans x2
  replace x3 := (hta.cell (p := ⟨w.heap.size, 3, none⟩) HS.out (by simp)).trans x3
  replace x4 := (hta.cell (p := ⟨w.heap.size, 4, none⟩) HS.out (by simp)).trans x4
  replace x5 := (hta.cell (p := ⟨w.heap.size, 5, none⟩) HS.out (by simp)).trans x5
  replace x6 := (hta.cell (p := ⟨w.heap.size, 6, none⟩) HS.out (by simp)).trans x6
  replace x7 := (hta.cell (p := ⟨w.heap.size, 7, none⟩) HS.out (by simp)).trans x7
  replace x8 := (hta.cell (p := ⟨w.heap.size, 8, none⟩) HS.out (by simp)).trans x8
  replace x9 := (hta.cell (p := ⟨w.heap.size, 9, none⟩) HS.out (by simp)).trans x9
  replace x10 := (hta.cell (p := ⟨w.heap.size, 10, none⟩) HS.out (by simp)).trans x10
  replace x11 := (hta.cell (p := ⟨w.heap.size, 11, none⟩) HS.out (by simp)).trans x11
  replace x12 := (hta.cell (p := ⟨w.heap.size, 12, none⟩) HS.out (by simp)).trans x12
  replace x13 := (hta.cell (p := ⟨w.heap.size, 13, none⟩) HS.out (by simp)).trans x13
  replace hn2 := hn2 wa
  have HA1 := Lib.hid (HT0.out.trans hta)
  clear hn hta
  go_wp2_with fail
  refine hn2.mono ?_
  rintro e wb ⟨rfl, htb⟩
  have HB := Lib.hid (HA1.out.trans htb)
  clear hn2 htb x0 x1 x2 x3 x4 x5 x6 x7 x8 x9 x10 x11 x12 x13
  go_wp2_with fail
  refine (palike_nil wb).mono ?_
  rintro e w' ⟨rfl, m, rfl⟩
  go_wp2
  go_loopw [11] (fun x wr => ∃ (kx : Nat), kx ≤ len ∧ x = .int .i64 (kx : Int) ∧ Turn [] w wr) (fun x _ => len - (intOf x).toNat)
  case atStart => exact ⟨0, by omega, rfl, HB.out.drewN m⟩
  case round =>
    obtain ⟨kx, hi', rfl, hT⟩ := hrel
    have HT := Lib.hid hT
    by_cases hil : kx < len
    · skip
      obtain ⟨⟨kind, n, full, t, u⟩, hzi⟩ : ∃ z, ss[kx]? = some z := ⟨ss[kx]'(by rw [HZ.out.1]; exact hil), by simp [HZ.out.1, hil]⟩
      obtain ⟨hwt, hwu, gl, off, rfl, hgl, hc0, hc1, hc2, hc3, hc4⟩ := HZ.out.2 kx _ hzi
      simp only at hwt hwu hc0 hc1 hc2 hc3 hc4
      replace hc0 := (hT.cell (p := ⟨gl, off + kx * 5, none⟩) hgl (by simp)).trans hc0
      replace hc1 := (hT.cell (p := ⟨gl, off + kx * 5 + 1, none⟩) hgl (by simp)).trans hc1
      replace hc2 := (hT.cell (p := ⟨gl, off + kx * 5 + 2, none⟩) hgl (by simp)).trans hc2
      replace hc3 := (hT.cell (p := ⟨gl, off + kx * 5 + 3, none⟩) hgl (by simp)).trans hc3
      replace hc4 := (hT.cell (p := ⟨gl, off + kx * 5 + 4, none⟩) hgl (by simp)).trans hc4
      have hgw : gl < wr.heap.size := Nat.lt_of_lt_of_le hgl hT.size
      have hgn : gl ∉ ([] : List Nat) := by simp
      clear hT hzi hgl hwt hwu
      go_upto_region 10 with fail
      refine wp_region_any (by kernel_rfl) ?_
      refine Vals.wpAny_goodW (RPlaysN gl off len cap kx kind n full t u) (fun _ => (fun W => Turn [] wr W)) [some 50, some 51, some 52, some 53, some 54, some 55, some 56, some 57, some 58, some 59, some 60, some 61, some 62, some 63, some 64, some 65, some 66, some 67, some 68] 70 _ _ rfl (by kernel_rfl) (by kernel_rfl) (by decide) ?stepN ?finN (Turn.refl _ _).drew
      case stepN =>
        intro i o d ho hd listed a W hls hun hcl hJ hdf hdep hfr K hK
        match i, ho, hd with
        | 0, ho, hd =>
          have ho' := ho
          simp only [List.getElem?_toArray, List.getElem?_cons_zero, Option.some.injEq] at ho hd
          subst ho hd
          have r7 : a.eval (.tmp 7) = .pointer none := hfr 7 (by decide)
          rw [Vals.eval_tmp] at r7
          refine Vals.wpOp_run ho' rfl ?_
          clear hdep hfr ho' hdf hcl
          go_simp
          exact hK _ _ (fun _ _ h => h) hJ (fun _ => rfl)
        | 1, ho, hd =>
          have ho' := ho
          simp only [List.getElem?_toArray, List.getElem?_cons_zero, List.getElem?_cons_succ, Option.some.injEq] at ho hd
          subst ho hd
          have r2 : a.eval (.tmp 2) = .slice (some ⟨gl, off, none⟩) len cap := hfr 2 (by decide)
          rw [Vals.eval_tmp] at r2
          refine Vals.wpOp_run ho' rfl ?_
          clear hdep hfr ho' hdf hcl
          go_simp
          exact hK _ _ (fun _ _ h => h) hJ (fun _ => rfl)
        | 2, ho, hd =>
          have ho' := ho
          simp only [List.getElem?_toArray, List.getElem?_cons_zero, List.getElem?_cons_succ, Option.some.injEq] at ho hd
          subst ho hd
          have r11 : a.eval (.tmp 11) = .int .i64 (kx : Int) := hfr 11 (by decide)
          rw [Vals.eval_tmp] at r11
          refine Vals.wpOp_run ho' rfl ?_
          clear hdep hfr ho' hdf hcl
          go_simp
          exact hK _ _ (fun _ _ h => h) hJ (fun _ => rfl)
        | 3, ho, hd =>
          have ho' := ho
          simp only [List.getElem?_toArray, List.getElem?_cons_zero, List.getElem?_cons_succ, Option.some.injEq] at ho hd
          subst ho hd
          have r51 : a.eval (.tmp 51) = .slice (some ⟨gl, off, none⟩) len cap := (hdep ⟨1, .data⟩ (by simp) rfl).2 51 rfl
          rw [Vals.eval_tmp] at r51
          have r52 : a.eval (.tmp 52) = .int .i64 (kx : Int) := (hdep ⟨2, .data⟩ (by simp) rfl).2 52 rfl
          rw [Vals.eval_tmp] at r52
          refine Vals.wpOp_run ho' rfl ?_
          clear hdep hfr ho' hdf hcl
          go_simp
          exact hK _ _ (fun _ _ h => h) hJ (fun _ => rfl)
        | 4, ho, hd =>
          have ho' := ho
          simp only [List.getElem?_toArray, List.getElem?_cons_zero, List.getElem?_cons_succ, Option.some.injEq] at ho hd
          subst ho hd
          have r53 : a.eval (.tmp 53) = .pointer (some ⟨gl, off + kx * 5, none⟩) := (hdep ⟨3, .data⟩ (by simp) rfl).2 53 rfl
          rw [Vals.eval_tmp] at r53
          have c0 := ((show Turn [] wr W from hJ).cell (p := ⟨gl, off + kx * 5, none⟩) hgw hgn).trans hc0
          have c1 := ((show Turn [] wr W from hJ).cell (p := ⟨gl, off + kx * 5 + 1, none⟩) hgw hgn).trans hc1
          have c2 := ((show Turn [] wr W from hJ).cell (p := ⟨gl, off + kx * 5 + 2, none⟩) hgw hgn).trans hc2
          have c3 := ((show Turn [] wr W from hJ).cell (p := ⟨gl, off + kx * 5 + 3, none⟩) hgw hgn).trans hc3
          have c4 := ((show Turn [] wr W from hJ).cell (p := ⟨gl, off + kx * 5 + 4, none⟩) hgw hgn).trans hc4
          refine Vals.wpOp_run ho' rfl ?_
          clear hdep hfr ho' hdf hcl
          go_simp
          exact hK _ _ (fun _ _ h => h) hJ (fun _ => rfl)
        | 5, ho, hd =>
          have ho' := ho
          simp only [List.getElem?_toArray, List.getElem?_cons_zero, List.getElem?_cons_succ, Option.some.injEq] at ho hd
          subst ho hd
          have r50 : a.eval (.tmp 50) = .pointer none := (hdep ⟨0, .data⟩ (by simp) rfl).2 50 rfl
          rw [Vals.eval_tmp] at r50
          have r54 : a.eval (.tmp 54) = .agg #[.int .i64 kind, .int .i64 n, .bool full, .int .i64 t, .int .i64 u] := (hdep ⟨4, .data⟩ (by simp) rfl).2 54 rfl
          rw [Vals.eval_tmp] at r54
          refine Vals.wpOp_run ho' rfl ?_
          clear hdep hfr ho' hdf hcl
          go_simp
          refine (pdoes_nil W kind n full t u).mono ?_
          rintro e w' ⟨rfl, ht'⟩
          exact hK _ _ (fun j x h => RPlaysN_any j x h) (Turn.trans hJ ht') (fun _ => rfl)
        | 6, ho, hd =>
          have ho' := ho
          simp only [List.getElem?_toArray, List.getElem?_cons_zero, List.getElem?_cons_succ, Option.some.injEq] at ho hd
          subst ho hd
          have r9 : a.eval (.tmp 9) = .pointer none := hfr 9 (by decide)
          rw [Vals.eval_tmp] at r9
          refine Vals.wpOp_run ho' rfl ?_
          clear hdep hfr ho' hdf hcl
          go_simp
          exact hK _ _ (fun _ _ h => h) hJ (fun _ => rfl)
        | 7, ho, hd =>
          have ho' := ho
          simp only [List.getElem?_toArray, List.getElem?_cons_zero, List.getElem?_cons_succ, Option.some.injEq] at ho hd
          subst ho hd
          have r2 : a.eval (.tmp 2) = .slice (some ⟨gl, off, none⟩) len cap := hfr 2 (by decide)
          rw [Vals.eval_tmp] at r2
          refine Vals.wpOp_run ho' rfl ?_
          clear hdep hfr ho' hdf hcl
          go_simp
          exact hK _ _ (fun _ _ h => h) hJ (fun _ => rfl)
        | 8, ho, hd =>
          have ho' := ho
          simp only [List.getElem?_toArray, List.getElem?_cons_zero, List.getElem?_cons_succ, Option.some.injEq] at ho hd
          subst ho hd
          have r11 : a.eval (.tmp 11) = .int .i64 (kx : Int) := hfr 11 (by decide)
          rw [Vals.eval_tmp] at r11
          refine Vals.wpOp_run ho' rfl ?_
          clear hdep hfr ho' hdf hcl
          go_simp
          exact hK _ _ (fun _ _ h => h) hJ (fun _ => rfl)
        | 9, ho, hd =>
          have ho' := ho
          simp only [List.getElem?_toArray, List.getElem?_cons_zero, List.getElem?_cons_succ, Option.some.injEq] at ho hd
          subst ho hd
          have r57 : a.eval (.tmp 57) = .slice (some ⟨gl, off, none⟩) len cap := (hdep ⟨7, .data⟩ (by simp) rfl).2 57 rfl
          rw [Vals.eval_tmp] at r57
          have r58 : a.eval (.tmp 58) = .int .i64 (kx : Int) := (hdep ⟨8, .data⟩ (by simp) rfl).2 58 rfl
          rw [Vals.eval_tmp] at r58
          refine Vals.wpOp_run ho' rfl ?_
          clear hdep hfr ho' hdf hcl
          go_simp
          exact hK _ _ (fun _ _ h => h) hJ (fun _ => rfl)
        | 10, ho, hd =>
          have ho' := ho
          simp only [List.getElem?_toArray, List.getElem?_cons_zero, List.getElem?_cons_succ, Option.some.injEq] at ho hd
          subst ho hd
          have r59 : a.eval (.tmp 59) = .pointer (some ⟨gl, off + kx * 5, none⟩) := (hdep ⟨9, .data⟩ (by simp) rfl).2 59 rfl
          rw [Vals.eval_tmp] at r59
          have c0 := ((show Turn [] wr W from hJ).cell (p := ⟨gl, off + kx * 5, none⟩) hgw hgn).trans hc0
          have c1 := ((show Turn [] wr W from hJ).cell (p := ⟨gl, off + kx * 5 + 1, none⟩) hgw hgn).trans hc1
          have c2 := ((show Turn [] wr W from hJ).cell (p := ⟨gl, off + kx * 5 + 2, none⟩) hgw hgn).trans hc2
          have c3 := ((show Turn [] wr W from hJ).cell (p := ⟨gl, off + kx * 5 + 3, none⟩) hgw hgn).trans hc3
          have c4 := ((show Turn [] wr W from hJ).cell (p := ⟨gl, off + kx * 5 + 4, none⟩) hgw hgn).trans hc4
          refine Vals.wpOp_run ho' rfl ?_
          clear hdep hfr ho' hdf hcl
          go_simp
          exact hK _ _ (fun _ _ h => h) hJ (fun _ => rfl)
        | 11, ho, hd =>
          have ho' := ho
          simp only [List.getElem?_toArray, List.getElem?_cons_zero, List.getElem?_cons_succ, Option.some.injEq] at ho hd
          subst ho hd
          have r56 : a.eval (.tmp 56) = .pointer none := (hdep ⟨6, .data⟩ (by simp) rfl).2 56 rfl
          rw [Vals.eval_tmp] at r56
          have r60 : a.eval (.tmp 60) = .agg #[.int .i64 kind, .int .i64 n, .bool full, .int .i64 t, .int .i64 u] := (hdep ⟨10, .data⟩ (by simp) rfl).2 60 rfl
          rw [Vals.eval_tmp] at r60
          refine Vals.wpOp_run ho' rfl ?_
          clear hdep hfr ho' hdf hcl
          go_simp
          refine (rpdoes_nil W kind n full t u).mono ?_
          rintro e w' ⟨rfl, ht'⟩
          exact hK _ _ (fun j x h => RPlaysN_any j x h) (Turn.trans hJ ht') (fun _ => rfl)
        | 12, ho, hd =>
          have ho' := ho
          simp only [List.getElem?_toArray, List.getElem?_cons_zero, List.getElem?_cons_succ, Option.some.injEq] at ho hd
          subst ho hd
          have r55 : a.eval (.tmp 55) = .bool false := (hdep ⟨5, .data⟩ (by simp) rfl).2 55 rfl
          rw [Vals.eval_tmp] at r55
          have r61 : a.eval (.tmp 61) = .bool false := (hdep ⟨11, .data⟩ (by simp) rfl).2 61 rfl
          rw [Vals.eval_tmp] at r61
          refine Vals.wpOp_run ho' rfl ?_
          clear hdep hfr ho' hdf hcl
          go_simp
          exact hK _ _ (fun _ _ h => h) hJ (fun _ => rfl)
        | 13, ho, hd =>
          have ho' := ho
          simp only [List.getElem?_toArray, List.getElem?_cons_zero, List.getElem?_cons_succ, Option.some.injEq] at ho hd
          subst ho hd
          have r62 : a.eval (.tmp 62) = .bool false := (hdep ⟨12, .data⟩ (by simp) rfl).2 62 rfl
          rw [Vals.eval_tmp] at r62
          refine Vals.wpOp_run ho' rfl ?_
          clear hdep hfr ho' hdf hcl
          go_simp
          exact hK _ _ (fun _ _ h => h) hJ (fun _ => rfl)
        | 14, ho, hd =>
          have ho' := ho
          simp only [List.getElem?_toArray, List.getElem?_cons_zero, List.getElem?_cons_succ, Option.some.injEq] at ho hd
          subst ho hd
          have hgd : a.eval (.tmp 63) = .bool false := (hdep ⟨13, .guard⟩ (by simp) rfl).2 63 rfl
          have r7 : a.eval (.tmp 7) = .pointer none := hfr 7 (by decide)
          rw [Vals.eval_tmp] at r7
          refine Vals.wpOp_run ho' (by unfold Region.wanted; simp only []; rw [Vals.yielded_of (d := 63) rfl hgd]; rfl) ?_
          clear hdep hfr ho' hdf hgd hcl
          go_simp
          exact hK _ _ (fun _ _ h => h) hJ (fun _ => rfl)
        | 15, ho, hd =>
          have ho' := ho
          simp only [List.getElem?_toArray, List.getElem?_cons_zero, List.getElem?_cons_succ, Option.some.injEq] at ho hd
          subst ho hd
          have hgd : a.eval (.tmp 63) = .bool false := (hdep ⟨13, .guard⟩ (by simp) rfl).2 63 rfl
          have r9 : a.eval (.tmp 9) = .pointer none := hfr 9 (by decide)
          rw [Vals.eval_tmp] at r9
          refine Vals.wpOp_run ho' (by unfold Region.wanted; simp only []; rw [Vals.yielded_of (d := 63) rfl hgd]; rfl) ?_
          clear hdep hfr ho' hdf hgd hcl
          go_simp
          exact hK _ _ (fun _ _ h => h) hJ (fun _ => rfl)
        | 16, ho, hd =>
          have ho' := ho
          simp only [List.getElem?_toArray, List.getElem?_cons_zero, List.getElem?_cons_succ, Option.some.injEq] at ho hd
          subst ho hd
          have hgd : a.eval (.tmp 63) = .bool false := (hdep ⟨13, .guard⟩ (by simp) rfl).2 63 rfl
          have r64 : a.eval (.tmp 64) = .pointer none := (hdep ⟨14, .data⟩ (by simp) rfl).2 64 rfl
          rw [Vals.eval_tmp] at r64
          have r65 : a.eval (.tmp 65) = .pointer none := (hdep ⟨15, .data⟩ (by simp) rfl).2 65 rfl
          rw [Vals.eval_tmp] at r65
          refine Vals.wpOp_run ho' (by unfold Region.wanted; simp only []; rw [Vals.yielded_of (d := 63) rfl hgd]; rfl) ?_
          clear hdep hfr ho' hdf hgd hcl
          go_simp
          refine (palike_nil W).mono ?_
          rintro e w' ⟨rfl, m, rfl⟩
          exact hK _ _ (fun j x h => RPlaysN_any j x h) (Turn.drewN hJ m) (fun _ => rfl)
        | 17, ho, hd =>
          have ho' := ho
          simp only [List.getElem?_toArray, List.getElem?_cons_zero, List.getElem?_cons_succ, Option.some.injEq] at ho hd
          subst ho hd
          have hgd : a.eval (.tmp 63) = .bool false := (hdep ⟨13, .guard⟩ (by simp) rfl).2 63 rfl
          have r66 : a.eval (.tmp 66) = .bool true := (hdep ⟨16, .data⟩ (by simp) rfl).2 66 rfl
          rw [Vals.eval_tmp] at r66
          refine Vals.wpOp_run ho' (by unfold Region.wanted; simp only []; rw [Vals.yielded_of (d := 63) rfl hgd]; rfl) ?_
          clear hdep hfr ho' hdf hgd hcl
          go_simp
          exact hK _ _ (fun _ _ h => h) hJ (fun _ => rfl)
        | 18, ho, hd =>
          have ho' := ho
          simp only [List.getElem?_toArray, List.getElem?_cons_zero, List.getElem?_cons_succ, Option.some.injEq] at ho hd
          subst ho hd
          have r63 : a.eval (.tmp 63) = .bool false := (hdep ⟨13, .data⟩ (by simp) rfl).2 63 rfl
          rw [Vals.eval_tmp] at r63
          have r67 : a.eval (.tmp 67) = .bool false := (hdep ⟨17, .data⟩ (by simp) rfl).2 67 rfl
          rw [Vals.eval_tmp] at r67
          refine Vals.wpOp_run ho' rfl ?_
          clear hdep hfr ho' hdf hcl
          go_simp
          exact hK _ _ (fun _ _ h => h) hJ (fun _ => rfl)
        | i + 19, ho, hd => simp at ho
      case finN =>
        intro listed W f' hall hJ hG
        have q0 : f' 50 = .pointer none := hG 0 50 rfl
        have q1 : f' 51 = .slice (some ⟨gl, off, none⟩) len cap := hG 1 51 rfl
        have q2 : f' 52 = .int .i64 (kx : Int) := hG 2 52 rfl
        have q3 : f' 53 = .pointer (some ⟨gl, off + kx * 5, none⟩) := hG 3 53 rfl
        have q4 : f' 54 = .agg #[.int .i64 kind, .int .i64 n, .bool full, .int .i64 t, .int .i64 u] := hG 4 54 rfl
        have q5 : f' 55 = .bool false := hG 5 55 rfl
        have q6 : f' 56 = .pointer none := hG 6 56 rfl
        have q7 : f' 57 = .slice (some ⟨gl, off, none⟩) len cap := hG 7 57 rfl
        have q8 : f' 58 = .int .i64 (kx : Int) := hG 8 58 rfl
        have q9 : f' 59 = .pointer (some ⟨gl, off + kx * 5, none⟩) := hG 9 59 rfl
        have q10 : f' 60 = .agg #[.int .i64 kind, .int .i64 n, .bool full, .int .i64 t, .int .i64 u] := hG 10 60 rfl
        have q11 : f' 61 = .bool false := hG 11 61 rfl
        have q12 : f' 62 = .bool false := hG 12 62 rfl
        have q13 : f' 63 = .bool false := hG 13 63 rfl
        have q14 : f' 64 = .pointer none := hG 14 64 rfl
        have q15 : f' 65 = .pointer none := hG 15 65 rfl
        have q16 : f' 66 = .bool true := hG 16 66 rfl
        have q17 : f' 67 = .bool false := hG 17 67 rfl
        have q18 : f' 68 = .bool false := hG 18 68 rfl
        clear hG hall
        simp only [Vals.puts, Vals.pairs, List.filterMap_cons, List.filterMap_nil, id, List.map_cons, List.map_nil, List.foldl_cons, List.foldl_nil, q0, q1, q2, q3, q4, q5, q6, q7, q8, q9, q10, q11, q12, q13, q14, q15, q16, q17, q18]
        clear q0 q1 q2 q3 q4 q5 q6 q7 q8 q9 q10 q11 q12 q13 q14 q15 q16 q17 q18
        go_frame
        have HTn := Lib.hid (HT.out.trans hJ)
        clear hJ
        go_simp
        go_wp2
        go_roundw
        case rel => exact ⟨kx + 1, by omega, by go_num, HTn.out⟩
        case measure => simp [intOf]; omega
    · obtain rfl : len = kx := by omega
      clear hT
      go_wp2_with fail
      refine (works_any wr).mono ?_
      rintro e w6 ⟨rfl, ht6⟩
      have HT6 := Lib.hid (HT.out.trans ht6)
      clear ht6
      go_wp2
      go_ret
      exact ⟨rfl, HT6.out.below (Nat.le_refl _) (by simp)⟩

set_option maxHeartbeats 800000 in
theorem playsL (k0 mtu k2 k3 k4 most first lo hi k9 k10 every may k13 : Int) (now : Int) (a : Option Addr) (len cap : Nat) (w : World) (hlen : 300 < len) :
    Calls Try.prog 3 #[.agg #[.int .i64 k0, .int .i64 mtu, .int .i64 k2, .int .i64 k3, .int .i64 k4, .int .i64 most, .int .i64 first, .int .i64 lo, .int .i64 hi, .int .i64 k9, .int .i64 k10, .int .i64 every, .int .i64 may, .int .i64 k13], .int .i64 now, .slice a len cap] w fun e w' => e = .returned (.bool true) ∧ Below w.heap.size w w' := by
  have d1 : decide (300 < (len : Int)) = true := by simp; omega
  have HT0 : Hid (Turn [] w (w.alloc (.cells #[.int .i64 k0, .int .i64 mtu, .int .i64 k2, .int .i64 k3, .int .i64 k4, .int .i64 most, .int .i64 first, .int .i64 lo, .int .i64 hi, .int .i64 k9, .int .i64 k10, .int .i64 every, .int .i64 may, .int .i64 k13] 23))) := Lib.hid ((Turn.refl _ _).alloc _)
  have hw := works_any (w.alloc (.cells #[.int .i64 k0, .int .i64 mtu, .int .i64 k2, .int .i64 k3, .int .i64 k4, .int .i64 most, .int .i64 first, .int .i64 lo, .int .i64 hi, .int .i64 k9, .int .i64 k10, .int .i64 every, .int .i64 may, .int .i64 k13] 23))
  clear hlen
  go_enter Try.func3, Try.ntmps3
  go_wp2_with fail
  refine hw.mono ?_
  rintro e w1 ⟨rfl, ht1⟩
  have HT1 := Lib.hid (HT0.out.trans ht1)
  clear hw ht1
  go_wp2
  go_ret
  exact ⟨rfl, HT1.out.below (Nat.le_refl _) (by simp)⟩

theorem pathPlays_walk (k0 mtu k2 k3 k4 most first lo hi k9 k10 every may k13 : Int) (now : Int) (a : Option Addr) (len cap : Nat) (ss : List PO) (w : World) (f0 : (Lit.int .i64 k0).wf = true) (f1 : (Lit.int .i64 mtu).wf = true) (f2 : (Lit.int .i64 k2).wf = true) (f3 : (Lit.int .i64 k3).wf = true) (f4 : (Lit.int .i64 k4).wf = true) (f5 : (Lit.int .i64 most).wf = true) (f6 : (Lit.int .i64 first).wf = true) (f7 : (Lit.int .i64 lo).wf = true) (f8 : (Lit.int .i64 hi).wf = true) (f9 : (Lit.int .i64 k9).wf = true) (f10 : (Lit.int .i64 k10).wf = true) (f11 : (Lit.int .i64 every).wf = true) (f12 : (Lit.int .i64 may).wf = true) (f13 : (Lit.int .i64 k13).wf = true) (fn : (Lit.int .i64 now).wf = true) (hz : IsPOps w a len cap ss) :
    Calls Try.prog 3 #[.agg #[.int .i64 k0, .int .i64 mtu, .int .i64 k2, .int .i64 k3, .int .i64 k4, .int .i64 most, .int .i64 first, .int .i64 lo, .int .i64 hi, .int .i64 k9, .int .i64 k10, .int .i64 every, .int .i64 may, .int .i64 k13], .int .i64 now, .slice a len cap] w fun e w' => e = .returned (.bool true) ∧ Below w.heap.size w w' := by
  by_cases hl : len ≤ 300
  · cases htk : ptakes first lo hi mtu most may every now
    · exact playsN k0 mtu k2 k3 k4 most first lo hi k9 k10 every may k13 now a len cap _ w htk hz.1 hl
    · exact playsF k0 mtu k2 k3 k4 most first lo hi k9 k10 every may k13 now a len cap _ w htk hz.1 hl
  · exact playsL k0 mtu k2 k3 k4 most first lo hi k9 k10 every may k13 now a len cap w (by omega)
end Go.Proofs.Ytkgfogepbclhkaa
