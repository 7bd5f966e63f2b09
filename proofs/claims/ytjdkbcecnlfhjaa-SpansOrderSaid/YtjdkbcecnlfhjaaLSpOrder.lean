/-
  The walk of SpansOrder.
-/
import Derived.Test.YtjdkbcecnlfhjaaLSpMove
import Derived.Deep.RegionHeld3
import Derived.Deep.AppendLies
namespace Go.Proofs.Ytjdkbcecnlfhjaa
open Go.RowKit
set_option linter.unusedVariables false

def dup (L : List Int) : List Int := L.flatMap fun y => [y, y]
theorem dup_snoc (L : List Int) (y : Int) : dup (L ++ [y]) = dup L ++ [y, y] := by unfold dup; simp
theorem dup_len (L : List Int) : (dup L).length = 2 * L.length := by
  unfold dup
  induction L with
  | nil => rfl
  | cons y L ih => simp only [List.flatMap_cons, List.length_append, ih, List.length_cons, List.length_nil]; omega
theorem mem_dup (L : List Int) (y : Int) : y ∈ dup L ↔ y ∈ L := by
  unfold dup
  simp
theorem among_congr {L M : List Int} (h : ∀ y, y ∈ L ↔ y ∈ M) (d : Nat) : among L d = among M d := by
  unfold among
  congr 1
  rw [Bool.eq_iff_iff, List.any_eq_true, List.any_eq_true]
  constructor
  · rintro ⟨z, h1, h2⟩; exact ⟨z, (h z).1 h1, h2⟩
  · rintro ⟨z, h1, h2⟩; exact ⟨z, (h z).2 h1, h2⟩
theorem fillF_back (ys : List Int) : fillF (dup ys.reverse) = fillF ys := by
  funext d
  rw [fillF_at, fillF_at]
  exact among_congr (fun y => by rw [mem_dup, List.mem_reverse]) d

theorem Try.infoU : (Try.prog.info? 22).map (fun i => (i.zero, i.size, i.bytes)) = some (some (.int .u32 0), 1, 4) := by kernel_rfl
/-- A row of the call's own that holds these numbers; nil where there are none. -/
def Row32 (base : Nat) (w : World) (a : Option Addr) (n c : Nat) (L : List Int) : Prop := w.ownsRow base 22 1 (.slice a n c) n (L.map (Value.int .u32))
theorem Row32.len {base : Nat} {w : World} {a : Option Addr} {n c : Nat} {L : List Int} (h : Row32 base w a n c L) : L.length = n := by
  have := h.1; simpa using this
theorem Row32.u32s {base : Nat} {w : World} {a : Option Addr} {n c : Nat} {L : List Int} (h : Row32 base w a n c L) (hL : ∀ z ∈ L, 0 ≤ z ∧ z ≤ 4294967295) (hn : n ≤ 9223372036854775807) : U32s w a n L := by
  refine ⟨h.len, hn, hL, fun i z hz => ?_⟩
  have hi : i < L.length := (List.getElem?_eq_some_iff.1 hz).1
  have hl := h.len
  rcases h.2 with ⟨h1, h2⟩ | ⟨g, cap, cur, hv, hb, hg, hn, hm, hs, ht⟩
  · omega
  · cases hv
    refine ⟨g, 0, rfl, (Array.getElem?_eq_some_iff.1 hg).1, ?_⟩
    rw [Nat.zero_add, World.ownsRow.cellAt h i (by omega)]
    simp [hz]
theorem Row32.of_owns {base : Nat} {w : World} {v : Value} {n : Nat} {xs : List Value} {L : List Int} (h : w.ownsRow base 22 1 v n xs) (e : xs = L.map (Value.int .u32)) : ∃ a c, v = .slice a n c ∧ Row32 base w a n c L := by
  subst e
  rcases h.2 with ⟨rfl, rfl⟩ | ⟨g, cap, cur, rfl, r⟩
  · exact ⟨none, 0, rfl, h⟩
  · exact ⟨_, cap, rfl, h⟩

theorem last_at (w : World) (sb bm : Nat) (base : Int) (f : Nat → Bool) (h : IsSet w sb bm base f) (m : Nat) (hm : Lst f m) (x : Int) (hx : (base + m) % 4294967296 = x) :
    Calls Try.prog 26 #[.pointer (some ⟨sb, 0, none⟩)] w fun e w' => e = .returned (.int .u32 x) ∧ Turn [] w w' := by
  have := last_any w sb bm base f h m hm
  rw [hx] at this
  exact this

theorem Run.exist (f : Nat → Bool) (hs : Sup f) : ∃ n, Run f n := by
  cases e : f 1
  · exact ⟨0, fun k h1 h2 => by omega, e⟩
  · obtain ⟨b, h1, h2, h3⟩ := run_end f hs 1 e
    exact ⟨b, h2, h3⟩

theorem one_two32 (y : Int) : ∀ u ∈ [Value.int .u32 y, Value.int .u32 y], u.oneCell' = true := by
  intro u hu
  simp at hu
  subst hu; rfl

set_option maxHeartbeats 6400000 in
theorem orderF (w : World) (base other : Int) (hb : 0 ≤ base ∧ base ≤ 4294967295) (hb2 : 0 ≤ other ∧ other ≤ 4294967295) (a : Option Addr) (len cap : Nat) (ys : List Int) (hu : ∀ w', Turn [] w w' → U32s w' a len ys) (hcap : len ≤ cap) (hlen : len ≤ 200) (hyl : ys.length = len) :
    Calls Try.prog 6 #[.int .u32 base, .int .u32 other, .slice a len cap] w fun e w' => e = .returned (.bool true) ∧ Below w.heap.size w w' := by
  obtain ⟨i0, hi0, hz0, hz1, hz2⟩ := info_parts Try.infoU
  have HU := Lib.hid hu
  have HZ0 := Lib.hid hz0
  have HZ1 := Lib.hid hz1
  have HZ2 := Lib.hid hz2
  have HI0 := Lib.hid hi0
  have HYL := Lib.hid hyl
  clear hu hz0 hz1 hz2 hi0 hyl
  go_enter Try.func6, Try.ntmps6
  go_wp2
  go_loopw [7, 8] (fun v x wr => ∃ (k : Nat) (ab : Option Addr) (c : Nat), k ≤ len ∧ v = .slice ab (2 * k) c ∧ x = .int .i64 ((len : Int) - (k : Int) - 1) ∧ Row32 w.heap.size wr ab (2 * k) c (dup (ys.reverse.take k)) ∧ Turn [] w wr) (fun _ x _ => (intOf x + 1).toNat)
  case atStart => exact ⟨0, none, 0, by omega, rfl, by simp, World.ownsRow_nil _ _ _ _, Turn.refl _ _⟩
  case round =>
    obtain ⟨k, ab, c, hk, rfl, rfl, hrow, hturn⟩ := hrel
    have HROW := Lib.hid hrow
    have HTURN := Lib.hid hturn
    clear hrow hturn
    by_cases hlt : k < len
    · have hU := HU.out wr HTURN.out
      obtain ⟨j, hj⟩ : ∃ j : Nat, len - k - 1 = j := ⟨_, rfl⟩
      have hjI : (len : Int) - (k : Int) - 1 = (j : Int) := by omega
      have hjl : j < ys.length := by rw [HYL.out]; omega
      obtain ⟨g, off, rfl, hg1, hg2⟩ := hU.2.2.2 j ys[j] (by simp [hjl])
      have HG : Hid (g < w.heap.size) := by
        obtain ⟨g', off', e, h, _⟩ := (HU.out w (Turn.refl _ _)).2.2.2 j ys[j] (by simp [hjl])
        cases e; exact h
      have hts : dup (ys.reverse.take (k + 1)) = dup (ys.reverse.take k) ++ [ys[j], ys[j]] := by
        have hkr : k < ys.reverse.length := by simp [HYL.out]; exact hlt
        rw [List.take_succ_eq_append_getElem hkr, dup_snoc]
        have : ys.reverse[k] = ys[j] := by
          rw [List.getElem_reverse]
          congr 1
          rw [HYL.out]; omega
        rw [this]
      have HTS := Lib.hid hts
      clear hts hU
      generalize ys[j] = z at *
      rw [hjI]
      have HJI := Lib.hid hjI
      have hjlen : j < len := by omega
      clear hjI hjl hj
      go_wp2
      have hown : wr.ownsRow w.heap.size 22 1 (.slice ab (2 * k) c) (2 * k) ((dup (ys.reverse.take k)).map (Value.int .u32)) := HROW.out
      have hsz : w.heap.size ≤ wr.heap.size := HTURN.out.size
      have hg0 : g < w.heap.size := HG.out
      have ag : (Value.slice ab (2 * k) c).ownBlock ≠ some g := fun e => by have := (hown.lt g e).1; omega
      have lg : g < wr.heap.size := by omega
      have hj0 : (0 : Int) ≤ (j : Int) := Int.natCast_nonneg _
      have hj1 : (j : Int) < (len : Int) := by omega
      go_region_held3 (fun w' => w'.cell? ⟨g, off + j, none⟩ = some (.int .u32 z))
        (first
          | go_keep
          | (rw [hgrow.cell_far _ (by simp; omega) (Ne.symm ag)]; assumption))
        ((refine step_append_lies _ (by rfl) _ _ _ (by rfl) w.heap.size 22 i0 _ 1 4 Try.underlying41 HI0.out HZ0.out HZ1.out HZ2.out rfl (by omega) _ (2 * k) _ (by rfl) ((hown.alloc _).drew)
              ⟨wr.heap.size, 0, none⟩ 2 2 [.int .u32 z, .int .u32 z] (by rfl) (by rfl) (World.news_of_block (cs := #[.int .u32 z, .int .u32 z]) (t := 22) (fr := (0, 0)) (heap_alloc_new wr _)) (one_two32 z)
              (by omega) (by unfold maxLen; omega) (by omega) (by simp; omega) (wr.heap.size + 1) (by simp) ?_; intro gg cc w2 hown' hgrow hat hlt2))
      have hB2 : Turn [] w w2 := (HTURN.out.alloc _).drew.grown hgrow (fun g hg => .inr ((hown.lt g hg).1))
      have hrow2 : Row32 w.heap.size w2 (some ⟨gg, 0, none⟩) (2 * (k + 1)) cc (dup (ys.reverse.take (k + 1))) := by
        unfold Row32
        rw [HTS.out, List.map_append]
        exact hown'
      have HROW2 := Lib.hid hrow2
      have HT2 := Lib.hid hB2
      clear hown' hgrow hrow2 hB2 hown hsz hat hlt2 ag
      go_wp2
      go_roundw
      case rel => exact ⟨k + 1, some ⟨gg, 0, none⟩, cc, by omega, rfl, by have := HJI.out; congr 1; omega, HROW2.out, HT2.out⟩
      case measure => simp [intOf]
    · obtain rfl : k = len := by omega
      have hneg : ((k : Int) - (k : Int) - 1) = -1 := by omega
      rw [hneg]
      clear hneg
      have hrow := HROW.out
      have hrev : ys.reverse.take k = ys.reverse := List.take_of_length_le (by simp [HYL.out])
      rw [hrev] at hrow
      have hU0 := HU.out wr HTURN.out
      have hub : U32s wr ab (2 * k) (dup ys.reverse) := hrow.u32s (fun z hz => hU0.2.2.1 z (by rw [mem_dup, List.mem_reverse] at hz; exact hz)) (by omega)
      have hsup := fillF_sup ys
      have hfb : fillF (dup ys.reverse) = fillF ys := fillF_back ys
      have hfA := filled_any wr base hb a k cap ys hU0
      have hfB := fun W (ht : Turn [] wr W) => filled_any W other hb2 ab (2 * k) c (dup ys.reverse) (hub.turn (ht.below (Nat.le_refl _) (by simp)) (Nat.le_refl _))
      rw [hfb] at hfB
      generalize fillF ys = f at *
      obtain ⟨m, hL⟩ := Lst.exist f hsup
      obtain ⟨G, hG⟩ := IsGaps.exist f hsup 1
      have hGl := (gaps_all hsup hG).2
      obtain ⟨n, hR⟩ := Run.exist f hsup
      obtain ⟨m2, hL2⟩ := Lst.exist (shf n f) (hsup.shf n)
      obtain ⟨G2, hG2⟩ := IsGaps.exist (shf n f) (hsup.shf n) 1
      have hGl2 := (gaps_all (hsup.shf n) hG2).2
      obtain ⟨la, hla⟩ : ∃ la, (base + (m : Int)) % 4294967296 = la := ⟨_, rfl⟩
      obtain ⟨lb, hlb⟩ : ∃ lb, (other + (m : Int)) % 4294967296 = lb := ⟨_, rfl⟩
      have hml := hL.le hsup
      have hlab : 0 ≤ la ∧ la ≤ 4294967295 := by omega
      have hlbb : 0 ≤ lb ∧ lb ≤ 4294967295 := by omega
      have heq : (la - base) % 4294967296 = (lb - other) % 4294967296 := by omega
      have HLA := Lib.hid hla
      have HLB := Lib.hid hlb
      have HEQ := Lib.hid heq
      have HL := Lib.hid hL
      have HG := Lib.hid hG
      have HR := Lib.hid hR
      have HL2 := Lib.hid hL2
      have HG2 := Lib.hid hG2
      have HFB := Lib.hid hfB
      clear hrow hrev hU0 hub hfb hfB hL hG hR hL2 hG2 hla hlb heq
      go_wp2_with fail
      refine hfA.mono ?_
      rintro e w1 ⟨sa, ba, rfl, hsa, hba, hA1, ht1⟩
      have hAlt := hA1.lt
      have hBlt := hA1.mem.lt
      have hB := HFB.out w1 ht1
      have HT1 := Lib.hid (HTURN.out.trans ht1)
      have hsz1 := HTURN.out.size
      clear ht1 hfA
      go_wp2_with fail
      refine hB.mono ?_
      rintro e w2 ⟨sb, bb, rfl, hsb, hbb, hB2, ht2⟩
      have hA2 := hA1.turn ht2 (by simp) (by simp)
      have HT2 := Lib.hid (HT1.out.trans ht2)
      clear ht2 hB hA1
      have hgA := gaps_full w2 sa ba base f hA2 m HL.out G HG.out
      go_wp2_with fail
      refine hgA.mono ?_
      rintro e w3 ⟨a3, c3, rfl, hc3, hr3, ht3⟩
      have hA3 := hA2.turn ht3 (by simp) (by simp)
      have hB3 := hB2.turn ht3 (by simp) (by simp)
      have HT3 := Lib.hid (HT2.out.trans ht3)
      have HR3 := Lib.hid hr3
      clear ht3 hgA hA2 hB2 hr3
      have hgB := gaps_full w3 sb bb other f hB3 m HL.out G HG.out
      go_wp2_with fail
      refine hgB.mono ?_
      rintro e w4 ⟨a4, c4, rfl, hc4, hr4, ht4⟩
      have hA4 := hA3.turn ht4 (by simp) (by simp)
      have hB4 := hB3.turn ht4 (by simp) (by simp)
      have HT4 := Lib.hid (HT3.out.trans ht4)
      have HR4 := Lib.hid hr4
      have HR34 := Lib.hid (HR3.out.turn ht4)
      clear ht4 hgB hA3 hB3 hr4
      go_wp2_with fail
      refine (same_any w4 a3 a4 G.length c3 _ G rfl HR34.out HR4.out (by omega)).mono ?_
      rintro e w5 ⟨rfl, ht5⟩
      have hA5 := hA4.turn ht5 (by simp) (by simp)
      have hB5 := hB4.turn ht5 (by simp) (by simp)
      have HT5 := Lib.hid (HT4.out.trans ht5)
      clear ht5 hA4 hB4
      go_wp2_with fail
      refine (count_any w5 sa ba base f hA5).mono ?_
      rintro e w' ⟨rfl, rfl⟩
      go_wp2_with fail
      refine (count_any w5 sb bb other f hB5).mono ?_
      rintro e w' ⟨rfl, rfl⟩
      have hlA := last_at w5 sa ba base f hA5 m HL.out la HLA.out
      go_wp2_with fail
      refine hlA.mono ?_
      rintro e w6 ⟨rfl, ht6⟩
      have hA6 := hA5.turn ht6 (by simp) (by simp)
      have hB6 := hB5.turn ht6 (by simp) (by simp)
      have HT6 := Lib.hid (HT5.out.trans ht6)
      clear ht6 hlA hA5 hB5
      have hlB := last_at w6 sb bb other f hB6 m HL.out lb HLB.out
      go_wp2_with fail
      refine hlB.mono ?_
      rintro e w7 ⟨rfl, ht7⟩
      have hA7 := hA6.turn ht7 (by simp) (by simp)
      have hB7 := hB6.turn ht7 (by simp) (by simp)
      have HT7 := Lib.hid (HT6.out.trans ht7)
      clear ht7 hlB hA6 hB6
      have heq : ((la - base) % 4294967296 == (lb - other) % 4294967296) = true := by rw [HEQ.out]; simp
      have hsA := settle_any w7 sa ba base f hA7 n HR.out
      go_wp2_with fail
      refine hsA.mono ?_
      rintro e w8 ⟨rfl, hA8, ht8⟩
      have hB8 := hB7.turn ht8 (by simp; omega) (by simp; omega)
      have HT8 := Lib.hid (HT7.out.over ht8 (by intro j hj; simp at hj; omega))
      clear ht8 hsA hA7 hB7 heq
      have hsB := settle_any w8 sb bb other f hB8 n HR.out
      go_wp2_with fail
      refine hsB.mono ?_
      rintro e w9 ⟨rfl, hB9, ht9⟩
      have hA9 := hA8.turn ht9 (by simp; omega) (by simp; omega)
      have HT9 := Lib.hid (HT8.out.over ht9 (by intro j hj; simp at hj; omega))
      clear ht9 hsB hA8 hB8
      have hgA2 := gaps_full w9 sa ba _ _ hA9 m2 HL2.out G2 HG2.out
      go_wp2_with fail
      refine hgA2.mono ?_
      rintro e w10 ⟨a10, c10, rfl, hc10, hr10, ht10⟩
      have hB10 := hB9.turn ht10 (by simp) (by simp)
      have HT10 := Lib.hid (HT9.out.trans ht10)
      have HR10 := Lib.hid hr10
      clear ht10 hgA2 hA9 hB9 hr10
      have hgB2 := gaps_full w10 sb bb _ _ hB10 m2 HL2.out G2 HG2.out
      go_wp2_with fail
      refine hgB2.mono ?_
      rintro e w11 ⟨a11, c11, rfl, hc11, hr11, ht11⟩
      have HT11 := Lib.hid (HT10.out.trans ht11)
      have HR11 := Lib.hid hr11
      have HR1011 := Lib.hid (HR10.out.turn ht11)
      clear ht11 hgB2 hB10 hr11
      go_wp2_with fail
      refine (same_any w11 a10 a11 G2.length c10 _ G2 rfl HR1011.out HR11.out (by omega)).mono ?_
      rintro e w12 ⟨rfl, ht12⟩
      have HT12 := Lib.hid (HT11.out.trans ht12)
      clear ht12
      go_wp2_with fail
      refine (works_any w12).mono ?_
      rintro e w13 ⟨rfl, ht13⟩
      have HT13 := Lib.hid (HT12.out.trans ht13)
      clear ht13
      go_wp2
      go_ret
      exact ⟨rfl, HT13.out.below (Nat.le_refl _) (by simp)⟩

set_option maxHeartbeats 800000 in
theorem spansOrder_walk (base other : Int) (a : Option Addr) (len cap : Nat) (zs : List Int) (w : World) (wb : (Lit.int .u32 base).wf = true) (wo : (Lit.int .u32 other).wf = true) (hz : IsRow .u32 w a len cap zs) :
    Calls Try.prog 6 #[.int .u32 base, .int .u32 other, .slice a len cap] w fun e w' => e = .returned (.bool true) ∧ Below w.heap.size w w' := by
  have hb := wf_u32_in wb
  have ho := wf_u32_in wo
  obtain ⟨hu, hcap⟩ := hz.u32s
  clear hz wb wo
  by_cases hlen : len ≤ 200
  · exact orderF w base other hb ho a len cap _ (fun w' ht => hu.turn (ht.below (Nat.le_refl _) (by simp)) (Nat.le_refl _)) hcap hlen hu.1
  · go_enter Try.func6, Try.ntmps6
    go_wp2_with fail
    refine (works_any w).mono ?_
    rintro e w1 ⟨rfl, ht⟩
    have HT := Lib.hid ht
    clear ht
    go_wp2
    go_ret
    exact ⟨rfl, HT.out.below (Nat.le_refl _) (by simp)⟩
end Go.Proofs.Ytjdkbcecnlfhjaa
