/-
  The walk of CookieFields. Written by genkfields.py.
-/
import Derived.Test.YtcmaclaiholpfaaDoorKApi
import Derived.Test.YtcmaclaiholpfaaDoorKBack
import Derived.Test.YtcmaclaiholpfaaDoorKP1
namespace Go.Proofs.YtcmaclaiholpfaaDoor
open Go.RowKit
set_option linter.unusedVariables false

def endsI : List Int := [8, 12, 16, 20, 24, 28, 30, 32]
/-- Where a round's piece lies, and whether the two are the same there. -/
structure Pc (k j : KV) (z : List Int) (n : Nat) (lo hi : Nat) (b : Bool) : Prop where
  s : lo = startK n
  le : lo < hi ∧ hi ≤ 32
  nx : startK (n + 1) = hi
  at1 : endsI[n]? = some (hi : Int)
  at2 : (oneK k j)[n]? = some b
  eq : decide (((writeK z k).drop lo).take (hi - lo) = ((writeK z j).drop lo).take (hi - lo)) = b
theorem pc_at {k j : KV} (hk : k.ok) (hj : j.ok) (z : List Int) {n : Nat} (hn : n < 8) : ∃ hi b, Pc k j z n (startK n) hi b := by
  obtain ⟨e, h1, h2, h3, h4, h5⟩ := pieceK hk hj z z hn
  refine ⟨e, _, rfl, ⟨h2, h3⟩, h4, ?_, h5, rfl⟩
  have : endsI = endsK.map (fun (x : Nat) => (x : Int)) := rfl
  rw [this, List.getElem?_map, h1]
  rfl
theorem oneK_eq (k j : KV) : oneK k j = [k.born == j.born, k.own == j.own, k.peer == j.peer, k.otsn == j.otsn, k.ptsn == j.ptsn, k.rwnd == j.rwnd, k.out == j.out, k.inn == j.inn] := rfl

set_option maxRecDepth 10000 in
set_option maxHeartbeats 3200000 in
theorem cookieFields_of (KW : KWriteOk) (WK : KWorks) (p : Option Addr) (len cap : Nat) (z : List Int) (k j : KV) (w : World) (v0 : IsRow .u8 w p len cap z) (hok : k.ok) (hjk : j.ok) (ht : Tab w) :
    Calls Tryd.prog 6 #[.slice p len cap, .agg #[.int .i64 k.born, .int .u32 k.own, .int .u32 k.peer, .int .u32 k.otsn, .int .u32 k.ptsn, .int .u32 k.rwnd, .int .u16 k.out, .int .u16 k.inn], .agg #[.int .i64 j.born, .int .u32 j.own, .int .u32 j.peer, .int .u32 j.otsn, .int .u32 j.ptsn, .int .u32 j.rwnd, .int .u16 j.out, .int .u16 j.inn]] w fun e w' => e = .returned (.bool true) ∧ Below w.heap.size w w' := by
  obtain ⟨hr, hbyt, hcap, hmax⟩ := v0.reads
  clear v0
  generalize z.take len = zs at hr hbyt
  obtain ⟨wz, hwz⟩ : ∃ wz, wz = w.alloc (.cells #[.int .i64 k.born, .int .u32 k.own, .int .u32 k.peer, .int .u32 k.otsn, .int .u32 k.ptsn, .int .u32 k.rwnd, .int .u16 k.out, .int .u16 k.inn] 26) := ⟨_, rfl⟩
  have hbz : Below w.heap.size w wz := by rw [hwz]; exact (Below.refl _ _).alloc (Nat.le_refl _) _
  have hAz : Arr wz w.heap.size 26 [.int .i64 k.born, .int .u32 k.own, .int .u32 k.peer, .int .u32 k.otsn, .int .u32 k.ptsn, .int .u32 k.rwnd, .int .u16 k.out, .int .u16 k.inn] := by rw [hwz]; exact arr_new _ _ _
  have hsz : wz.heap.size = w.heap.size + 1 := by rw [hwz]; simp
  obtain ⟨w0, hw0⟩ : ∃ w0, w0 = wz.alloc (.cells #[.int .i64 j.born, .int .u32 j.own, .int .u32 j.peer, .int .u32 j.otsn, .int .u32 j.ptsn, .int .u32 j.rwnd, .int .u16 j.out, .int .u16 j.inn] 26) := ⟨_, rfl⟩
  have hb1 : Below wz.heap.size wz w0 := by rw [hw0]; exact (Below.refl _ _).alloc (Nat.le_refl _) _
  have hB0 : Arr w0 (w.heap.size + 1) 26 [.int .i64 j.born, .int .u32 j.own, .int .u32 j.peer, .int .u32 j.otsn, .int .u32 j.ptsn, .int .u32 j.rwnd, .int .u16 j.out, .int .u16 j.inn] := by rw [hw0, ← hsz]; exact arr_new _ _ _
  have hb0 := hbz.trans (hb1.mono hbz.size)
  have hA0 := hAz.keep hb1
  rw [hwz] at hw0
  have HR := Lib.hid (And.intro (hr.below hb0) (And.intro hbyt (And.intro hcap (And.intro hok hjk))))
  have HT := Lib.hid (ht.below hb0 ht.lt)
  have HB0 := Lib.hid hb0
  have HX := Lib.hid (And.intro hA0 hB0)
  have HW0 := Lib.hid hw0
  clear hr hbyt hcap hok hjk ht hbz hAz hsz hb1 hB0 hb0 hA0 hwz
  unfold maxLen at hmax
  by_cases hlong : 4096 < len
  · have hg : (4096 : Int) < len := by omega
    go_enter Tryd.func6, Tryd.ntmps6
    go_wp2_with fail
    rw [← hw0]
    refine (WK w0 HT.out).mono ?_
    rintro e w' ⟨rfl, hb⟩
    have HW := Lib.hid (HB0.out.trans (hb.mono HB0.out.size))
    clear hb
    go_wp2
    go_ret
    exact ⟨rfl, HW.out⟩
  have hg : ¬ (4096 : Int) < len := by omega
  have hk1 := KW p len cap zs k w0 HR.out.1 HR.out.2.1 (by omega) HR.out.2.2.1 HR.out.2.2.2.1 HT.out
  unfold KV.val at hk1
  have f0 := HX.out.1.cell (i := 0) rfl
  have f1 := HX.out.1.cell (i := 1) rfl
  have f2 := HX.out.1.cell (i := 2) rfl
  have f3 := HX.out.1.cell (i := 3) rfl
  have f4 := HX.out.1.cell (i := 4) rfl
  have f5 := HX.out.1.cell (i := 5) rfl
  have f6 := HX.out.1.cell (i := 6) rfl
  have f7 := HX.out.1.cell (i := 7) rfl
  rw [hw0] at hk1 f0 f1 f2 f3 f4 f5 f6 f7
  have HK := Lib.hid hk1
  clear hk1 hw0
  go_enter Tryd.func6, Tryd.ntmps6
  go_wp2_with fail
  refine HK.out.mono ?_
  rintro e w1 ⟨a1, c1, rfl, hr1, hc1, hm1, hb1⟩
  rw [← HW0.out] at hb1
  clear f0 f1 f2 f3 f4 f5 f6 f7 HK
  have hk1 := KW p len cap zs j w1 (HR.out.1.below hb1) HR.out.2.1 (by omega) HR.out.2.2.1 HR.out.2.2.2.2 (HT.out.below hb1 HT.out.lt)
  unfold KV.val at hk1
  have HK := Lib.hid hk1
  have hA1 := HX.out.1.keep hb1
  have hB1 := HX.out.2.keep hb1
  have g0 := hB1.cell (i := 0) rfl
  have g1 := hB1.cell (i := 1) rfl
  have g2 := hB1.cell (i := 2) rfl
  have g3 := hB1.cell (i := 3) rfl
  have g4 := hB1.cell (i := 4) rfl
  have g5 := hB1.cell (i := 5) rfl
  have g6 := hB1.cell (i := 6) rfl
  have g7 := hB1.cell (i := 7) rfl
  have H1 := Lib.hid (And.intro hb1 (And.intro hr1 (And.intro hA1 hB1)))
  clear hk1 hb1 hr1 hA1 hB1
  go_wp2_with fail
  refine HK.out.mono ?_
  rintro e w2 ⟨a2, c2, rfl, hr2, hc2, hm2, hb2⟩
  clear g0 g1 g2 g3 g4 g5 g6 g7 HK
  obtain ⟨ga, oa, rfl⟩ := hr2.some_of (by omega)
  have hr1 := H1.out.2.1.below hb2
  obtain ⟨gb, ob, rfl⟩ := hr1.some_of (by omega)
  have hb12 := H1.out.1.trans (hb2.mono H1.out.1.size)
  obtain ⟨w3, hw3⟩ : ∃ w3, w3 = w2.alloc (.cells #[.int .i64 8, .int .i64 12, .int .i64 16, .int .i64 20, .int .i64 24, .int .i64 28, .int .i64 30, .int .i64 32] 3) := ⟨_, rfl⟩
  have hb3 : Below w2.heap.size w2 w3 := by rw [hw3]; exact (Below.refl _ _).alloc (Nat.le_refl _) _
  have hE3 : Arr w3 w2.heap.size 3 (endsI.map (Value.int .i64)) := by rw [hw3]; exact arr_new _ _ _
  have hbx := hb2.trans (hb3.mono hb2.size)
  have hA3 := H1.out.2.2.1.keep hbx
  have hB3 := H1.out.2.2.2.keep hbx
  have f0 := hA3.cell (i := 0) rfl
  have g0 := hB3.cell (i := 0) rfl
  have f1 := hA3.cell (i := 1) rfl
  have g1 := hB3.cell (i := 1) rfl
  have f2 := hA3.cell (i := 2) rfl
  have g2 := hB3.cell (i := 2) rfl
  have f3 := hA3.cell (i := 3) rfl
  have g3 := hB3.cell (i := 3) rfl
  have f4 := hA3.cell (i := 4) rfl
  have g4 := hB3.cell (i := 4) rfl
  have f5 := hA3.cell (i := 5) rfl
  have g5 := hB3.cell (i := 5) rfl
  have f6 := hA3.cell (i := 6) rfl
  have g6 := hB3.cell (i := 6) rfl
  have f7 := hA3.cell (i := 7) rfl
  have g7 := hB3.cell (i := 7) rfl
  obtain ⟨w4, hw4⟩ : ∃ w4, w4 = w3.alloc (.cells #[.bool (k.born == j.born), .bool (k.own == j.own), .bool (k.peer == j.peer), .bool (k.otsn == j.otsn), .bool (k.ptsn == j.ptsn), .bool (k.rwnd == j.rwnd), .bool (k.out == j.out), .bool (k.inn == j.inn)] 4) := ⟨_, rfl⟩
  have hb4 : Below w3.heap.size w3 w4 := by rw [hw4]; exact (Below.refl _ _).alloc (Nat.le_refl _) _
  have hO4 : Arr w4 w3.heap.size 4 ((oneK k j).map Value.bool) := by rw [hw4, oneK_eq]; exact arr_new _ _ _
  have hs3 : w3.heap.size = w2.heap.size + 1 := by rw [hw3]; simp
  rw [hs3] at hO4
  have hby := hb3.trans (hb4.mono hb3.size)
  have hB4 := hb12.trans (hby.mono hb12.size)
  have HE := Lib.hid (And.intro hB4 (And.intro (hr1.below hby) (And.intro (hr2.below hby) (And.intro (hE3.keep hb4) hO4))))
  rw [hw3] at f0 g0 f1 g1 f2 g2 f3 g3 f4 g4 f5 g5 f6 g6 f7 g7 hw4
  have HW4 := Lib.hid hw4
  clear hb3 hE3 hbx hA3 hB3 hb4 hO4 hs3 hby hB4 hr1 hr2 hb2 hb12 hw3 H1 hw4 HW0
  go_wp2
  rw [← HW4.out]
  clear f0 g0 f1 g1 f2 g2 f3 g3 f4 g4 f5 g5 f6 g6 f7 g7 HW4
  obtain ⟨g9, hg9⟩ : ∃ g, g = w2.heap.size := ⟨_, rfl⟩
  rw [← hg9] at HE ⊢
  clear hg9
  go_loopw [11, 12] (fun f i wr => ∃ (n : Nat), n ≤ 8 ∧ f = .int .i64 ((startK n : Nat) : Int) ∧ i = .int .i64 (n : Int) ∧ ∃ q, wr = w4.drewN q) (fun _ i _ => 8 - (intOf i).toNat)
  case atStart => exact ⟨0, by omega, rfl, rfl, 0, rfl⟩
  case round =>
    obtain ⟨n, hn, rfl, rfl, q, rfl⟩ := hrel
    have hbq := Below.of_drewN w4 q
    by_cases hlt : n < 8
    · obtain ⟨hi, b, pc⟩ := pc_at HR.out.2.2.2.1 HR.out.2.2.2.2 zs hlt
      obtain ⟨lo, hlo⟩ : ∃ lo, lo = startK n := ⟨_, rfl⟩
      rw [← hlo] at pc ⊢
      have hle := pc.le
      have x1 := HE.out.2.2.2.1.cell (i := n) (v := .int .i64 (hi : Int)) (by simp [pc.at1])
      have x2 := HE.out.2.2.2.2.cell (i := n) (v := .bool b) (by simp [pc.at2])
      have pa := HE.out.2.1.part lo (hi - lo) (by omega)
      have pb := HE.out.2.2.1.part lo (hi - lo) (by omega)
      have hsm := fun m => sameK_any (some ⟨gb, ob + lo, none⟩) (some ⟨ga, oa + lo, none⟩) (hi - lo) (c1 - lo) (c2 - lo) (hi - lo) _ _ (w4.drewN (q + m)) (pa.below (Below.of_drewN _ _)) (pb.below (Below.of_drewN _ _)) (((writeK_byt _ _).drop lo).take _) (((writeK_byt _ _).drop lo).take _)
      rw [pc.eq] at hsm
      have HQ := Lib.hid (fun m => (hsm m).mono (R' := fun e w'' => e = .returned (.bool b) ∧ ∃ n, w'' = w4.drewN (q + n)) fun e w' h => ⟨h.1, m, h.2.symm⟩)
      have HP := Lib.hid pc
      have hg2 : (n : Int) < 8 := by omega
      have l0 : lo ≤ hi := by omega
      have l1 : (lo : Int) ≤ hi := by omega
      have l2 : (hi : Int) ≤ c1 := by omega
      have l3 : (hi : Int) ≤ c2 := by omega
      have n1 : ¬ c1 = lo := by omega
      have n2 : ¬ c2 = lo := by omega
      clear hsm pa pb pc hle hlo hbq
      go_wp2
      go_quiet (exact HQ.out _)
      go_wp2
      go_roundw
      case rel => exact ⟨n + 1, by omega, by rw [HP.out.nx], by go_num, q + nq, rfl⟩
      case measure => simp [intOf]; omega
    · obtain rfl : n = 8 := by omega
      have hB := HE.out.1.trans (hbq.mono HE.out.1.size)
      have HWK := Lib.hid (WK (w4.drewN q) (HT.out.below hB HT.out.lt))
      have HB := Lib.hid hB
      clear hbq hB
      go_wp2_with fail
      refine HWK.out.mono ?_
      rintro e w' ⟨rfl, hb⟩
      have HW := Lib.hid (HB0.out.trans ((HB.out.trans (hb.mono HB.out.size)).mono HB0.out.size))
      clear hb
      go_wp2
      go_ret
      exact ⟨rfl, HW.out⟩
end Go.Proofs.YtcmaclaiholpfaaDoor
