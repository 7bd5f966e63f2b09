/-
  The program's path: New. Written by genpt4.py.
-/
import Derived.Test.YtkgfogepbclhkaaPt1
import Derived.Test.YtkgfogepbclhkaaPtCf
namespace Go.Proofs.Ytkgfogepbclhkaa
open Go.RowKit
set_option linter.unusedVariables false

set_option maxRecDepth 10000 in
theorem pnew_yes (w : World) (k0 mtu k2 k3 k4 most first lo hi k9 k10 every may k13 : Int) (now : Int) (c : Nat) (h : ptakes first lo hi mtu most may every now = true) :
    Calls Try.prog 10 #[.agg #[.int .i64 k0, .int .i64 mtu, .int .i64 k2, .int .i64 k3, .int .i64 k4, .int .i64 most, .int .i64 first, .int .i64 lo, .int .i64 hi, .int .i64 k9, .int .i64 k10, .int .i64 every, .int .i64 may, .int .i64 k13], .int .i64 now] w fun e w' => ∃ g gr gw, e = .returned (.tuple #[.pointer (some ⟨g, 0, none⟩), .int .i64 0]) ∧ PP w' g gr gw (PS.start first lo hi mtu most may every now) c ∧ Turn [] w w' ∧ w.heap.size ≤ g ∧ w.heap.size ≤ gr ∧ w.heap.size ≤ gw := by
  have hg := ptakes_good h c
  obtain ⟨h1, h2, h3, h4, h5, h6, h7, h8⟩ := ptakes_iff.1 h
  have d1 : decide (may < 0) = false := by simp; omega
  have d2 : decide (20 < may) = false := by simp; omega
  have d3 : decide (every < 1) = false := by simp; omega
  have d4 : decide (1048576 < every) = false := by simp; omega
  have d5 : decide (now < 0) = false := by simp; omega
  have d6 : decide (2305843009213693952 < now) = false := by simp; omega
  have hbx := cfBox w k0 mtu k2 k3 k4 most first lo hi k9 k10 every may k13
  have hT0 : Turn [] w (w.alloc (.cells #[.int .i64 k0, .int .i64 mtu, .int .i64 k2, .int .i64 k3, .int .i64 k4, .int .i64 most, .int .i64 first, .int .i64 lo, .int .i64 hi, .int .i64 k9, .int .i64 k10, .int .i64 every, .int .i64 may, .int .i64 k13] 23)) := (Turn.refl _ _).alloc _
  have hsz : w.heap.size < (w.alloc (.cells #[.int .i64 k0, .int .i64 mtu, .int .i64 k2, .int .i64 k3, .int .i64 k4, .int .i64 most, .int .i64 first, .int .i64 lo, .int .i64 hi, .int .i64 k9, .int .i64 k10, .int .i64 every, .int .i64 may, .int .i64 k13] 23)).heap.size := by simp
  have c1 := hbx.cell (i := 1) rfl
  have c5 := hbx.cell (i := 5) rfl
  have c6 := hbx.cell (i := 6) rfl
  have c7 := hbx.cell (i := 7) rfl
  have c8 := hbx.cell (i := 8) rfl
  have c11 := hbx.cell (i := 11) rfl
  have c12 := hbx.cell (i := 12) rfl
  have hn := new_yes (w.alloc (.cells #[.int .i64 k0, .int .i64 mtu, .int .i64 k2, .int .i64 k3, .int .i64 k4, .int .i64 most, .int .i64 first, .int .i64 lo, .int .i64 hi, .int .i64 k9, .int .i64 k10, .int .i64 every, .int .i64 may, .int .i64 k13] 23)) first lo hi h1
  have hw := fun W => wnew_yes W mtu most c h2
  have HG := Lib.hid hg
  have HT0 := Lib.hid hT0
  have HS := Lib.hid hsz
  obtain ⟨gr, hgr⟩ : ∃ gr, gr = (w.alloc (.cells #[.int .i64 k0, .int .i64 mtu, .int .i64 k2, .int .i64 k3, .int .i64 k4, .int .i64 most, .int .i64 first, .int .i64 lo, .int .i64 hi, .int .i64 k9, .int .i64 k10, .int .i64 every, .int .i64 may, .int .i64 k13] 23)).heap.size := ⟨_, rfl⟩
  rw [← hgr] at hn
  have HGR := Lib.hid hgr
  have HX := Lib.hid hbx
  clear h hg h1 h2 h3 h4 hT0 hgr hsz hbx
  go_enter Try.func10, Try.ntmps10
  go_wp2_with fail
  refine hn.mono ?_
  rintro e wa ⟨rfl, hE, hTa, hla⟩
  have c1a := (hTa.cell (p := ⟨w.heap.size, 1, none⟩) HS.out (by simp)).trans c1
  have c5a := (hTa.cell (p := ⟨w.heap.size, 5, none⟩) HS.out (by simp)).trans c5
  have c6a := (hTa.cell (p := ⟨w.heap.size, 6, none⟩) HS.out (by simp)).trans c6
  have c7a := (hTa.cell (p := ⟨w.heap.size, 7, none⟩) HS.out (by simp)).trans c7
  have c8a := (hTa.cell (p := ⟨w.heap.size, 8, none⟩) HS.out (by simp)).trans c8
  have c11a := (hTa.cell (p := ⟨w.heap.size, 11, none⟩) HS.out (by simp)).trans c11
  have c12a := (hTa.cell (p := ⟨w.heap.size, 12, none⟩) HS.out (by simp)).trans c12
  obtain ⟨gw, hgw⟩ : ∃ gw, gw = wa.heap.size := ⟨_, rfl⟩
  replace hw := hw wa
  rw [← hgw] at hw
  have HGW := Lib.hid (And.intro hgw (And.intro hE (And.intro hTa hla)))
  clear hn hE hTa hla hgw c1 c5 c6 c7 c8 c11 c12
  go_wp2_with fail
  refine hw.mono ?_
  rintro e wb ⟨rfl, hW, hTb, hlb⟩
  have hsa : w.heap.size < wa.heap.size := Nat.lt_of_lt_of_le HS.out HGW.out.2.2.1.size
  have c1b := (hTb.cell (p := ⟨w.heap.size, 1, none⟩) hsa (by simp)).trans c1a
  have c5b := (hTb.cell (p := ⟨w.heap.size, 5, none⟩) hsa (by simp)).trans c5a
  have c6b := (hTb.cell (p := ⟨w.heap.size, 6, none⟩) hsa (by simp)).trans c6a
  have c7b := (hTb.cell (p := ⟨w.heap.size, 7, none⟩) hsa (by simp)).trans c7a
  have c8b := (hTb.cell (p := ⟨w.heap.size, 8, none⟩) hsa (by simp)).trans c8a
  have c11b := (hTb.cell (p := ⟨w.heap.size, 11, none⟩) hsa (by simp)).trans c11a
  have c12b := (hTb.cell (p := ⟨w.heap.size, 12, none⟩) hsa (by simp)).trans c12a
  have hsb : gw < wb.heap.size := hlb
  have hsr : gr < wb.heap.size := Nat.lt_of_lt_of_le HGW.out.2.2.2 hTb.size
  have hgrw : gr < gw := by have := HGW.out.1; have := HGW.out.2.2.2; omega
  have hsg : w.heap.size < gr := by have := HGR.out; have := HS.out; omega
  have HB := Lib.hid (And.intro hW (And.intro (HGW.out.2.1.turn hTb (by simp)) (And.intro ((HT0.out.trans HGW.out.2.2.1).trans hTb) (And.intro hsb (And.intro hsr (And.intro hgrw hsg))))))
  clear hw hW hTb hlb hsa hsb hsr hgrw hsg c1a c5a c6a c7a c8a c11a c12a
  have hA := arr_new wb 59 (paC gr gw (PS.start first lo hi mtu most may every now))
  have hT : Turn [] wb (wb.alloc (.cells (paC gr gw (PS.start first lo hi mtu most may every now)).toArray 59)) := (Turn.refl _ _).alloc _
  have HP : Hid (PP (wb.alloc (.cells (paC gr gw (PS.start first lo hi mtu most may every now)).toArray 59)) wb.heap.size gr gw (PS.start first lo hi mtu most may every now) c ∧ Turn [] w (wb.alloc (.cells (paC gr gw (PS.start first lo hi mtu most may every now)).toArray 59)) ∧ w.heap.size ≤ wb.heap.size ∧ w.heap.size ≤ gr ∧ w.heap.size ≤ gw) := by
    obtain ⟨k1, k2, k3, k4, k5, k6, k7⟩ := HB.out
    exact Lib.hid ⟨⟨hA, (k2.turn hT (by simp)).blk, (k1.turn hT (by simp)).blk, HG.out, by omega, by omega, by omega⟩, k3.trans hT, k3.size, by omega, by omega⟩
  clear hA hT
  go_wp2
  go_ret2
  exact ⟨_, _, _, rfl, HP.out⟩

theorem pnew_no0 (w : World) (k0 mtu k2 k3 k4 most first lo hi k9 k10 every may k13 : Int) (now : Int) (h : takes first lo hi = false) :
    Calls Try.prog 10 #[.agg #[.int .i64 k0, .int .i64 mtu, .int .i64 k2, .int .i64 k3, .int .i64 k4, .int .i64 most, .int .i64 first, .int .i64 lo, .int .i64 hi, .int .i64 k9, .int .i64 k10, .int .i64 every, .int .i64 may, .int .i64 k13], .int .i64 now] w fun e w' => e = .returned (.tuple #[.pointer none, .int .i64 1]) ∧ Turn [] w w' := by
  have hbx := cfBox w k0 mtu k2 k3 k4 most first lo hi k9 k10 every may k13
  have hT0 : Turn [] w (w.alloc (.cells #[.int .i64 k0, .int .i64 mtu, .int .i64 k2, .int .i64 k3, .int .i64 k4, .int .i64 most, .int .i64 first, .int .i64 lo, .int .i64 hi, .int .i64 k9, .int .i64 k10, .int .i64 every, .int .i64 may, .int .i64 k13] 23)) := (Turn.refl _ _).alloc _
  have hsz : w.heap.size < (w.alloc (.cells #[.int .i64 k0, .int .i64 mtu, .int .i64 k2, .int .i64 k3, .int .i64 k4, .int .i64 most, .int .i64 first, .int .i64 lo, .int .i64 hi, .int .i64 k9, .int .i64 k10, .int .i64 every, .int .i64 may, .int .i64 k13] 23)).heap.size := by simp
  have c1 := hbx.cell (i := 1) rfl
  have c5 := hbx.cell (i := 5) rfl
  have c6 := hbx.cell (i := 6) rfl
  have c7 := hbx.cell (i := 7) rfl
  have c8 := hbx.cell (i := 8) rfl
  have c11 := hbx.cell (i := 11) rfl
  have c12 := hbx.cell (i := 12) rfl
  have HT0 := Lib.hid hT0
  have HS := Lib.hid hsz
  have hn := new_no (w.alloc (.cells #[.int .i64 k0, .int .i64 mtu, .int .i64 k2, .int .i64 k3, .int .i64 k4, .int .i64 most, .int .i64 first, .int .i64 lo, .int .i64 hi, .int .i64 k9, .int .i64 k10, .int .i64 every, .int .i64 may, .int .i64 k13] 23)) first lo hi h
  clear hT0 hsz hbx h
  go_enter Try.func10, Try.ntmps10
  go_wp2_with fail
  refine hn.mono ?_
  rintro e wa ⟨rfl, rfl⟩
  clear hn
  go_wp2
  go_ret2
  exact ⟨rfl, HT0.out⟩

theorem pnew_no1 (w : World) (k0 mtu k2 k3 k4 most first lo hi k9 k10 every may k13 : Int) (now : Int) (h1 : takes first lo hi = true) (h : wtakes mtu most = false) :
    Calls Try.prog 10 #[.agg #[.int .i64 k0, .int .i64 mtu, .int .i64 k2, .int .i64 k3, .int .i64 k4, .int .i64 most, .int .i64 first, .int .i64 lo, .int .i64 hi, .int .i64 k9, .int .i64 k10, .int .i64 every, .int .i64 may, .int .i64 k13], .int .i64 now] w fun e w' => e = .returned (.tuple #[.pointer none, .int .i64 1]) ∧ Turn [] w w' := by
  have hbx := cfBox w k0 mtu k2 k3 k4 most first lo hi k9 k10 every may k13
  have hT0 : Turn [] w (w.alloc (.cells #[.int .i64 k0, .int .i64 mtu, .int .i64 k2, .int .i64 k3, .int .i64 k4, .int .i64 most, .int .i64 first, .int .i64 lo, .int .i64 hi, .int .i64 k9, .int .i64 k10, .int .i64 every, .int .i64 may, .int .i64 k13] 23)) := (Turn.refl _ _).alloc _
  have hsz : w.heap.size < (w.alloc (.cells #[.int .i64 k0, .int .i64 mtu, .int .i64 k2, .int .i64 k3, .int .i64 k4, .int .i64 most, .int .i64 first, .int .i64 lo, .int .i64 hi, .int .i64 k9, .int .i64 k10, .int .i64 every, .int .i64 may, .int .i64 k13] 23)).heap.size := by simp
  have c1 := hbx.cell (i := 1) rfl
  have c5 := hbx.cell (i := 5) rfl
  have c6 := hbx.cell (i := 6) rfl
  have c7 := hbx.cell (i := 7) rfl
  have c8 := hbx.cell (i := 8) rfl
  have c11 := hbx.cell (i := 11) rfl
  have c12 := hbx.cell (i := 12) rfl
  have HT0 := Lib.hid hT0
  have HS := Lib.hid hsz
  have hn := new_yes (w.alloc (.cells #[.int .i64 k0, .int .i64 mtu, .int .i64 k2, .int .i64 k3, .int .i64 k4, .int .i64 most, .int .i64 first, .int .i64 lo, .int .i64 hi, .int .i64 k9, .int .i64 k10, .int .i64 every, .int .i64 may, .int .i64 k13] 23)) first lo hi h1
  have hw := fun W => wnew_no W mtu most h
  clear hT0 hsz hbx h
  obtain ⟨gr, hgr⟩ : ∃ gr, gr = (w.alloc (.cells #[.int .i64 k0, .int .i64 mtu, .int .i64 k2, .int .i64 k3, .int .i64 k4, .int .i64 most, .int .i64 first, .int .i64 lo, .int .i64 hi, .int .i64 k9, .int .i64 k10, .int .i64 every, .int .i64 may, .int .i64 k13] 23)).heap.size := ⟨_, rfl⟩
  rw [← hgr] at hn
  clear hgr
  go_enter Try.func10, Try.ntmps10
  go_wp2_with fail
  refine hn.mono ?_
  rintro e wa ⟨rfl, hE, hTa, hla⟩
  have c1a := (hTa.cell (p := ⟨w.heap.size, 1, none⟩) HS.out (by simp)).trans c1
  have c5a := (hTa.cell (p := ⟨w.heap.size, 5, none⟩) HS.out (by simp)).trans c5
  have c6a := (hTa.cell (p := ⟨w.heap.size, 6, none⟩) HS.out (by simp)).trans c6
  have c7a := (hTa.cell (p := ⟨w.heap.size, 7, none⟩) HS.out (by simp)).trans c7
  have c8a := (hTa.cell (p := ⟨w.heap.size, 8, none⟩) HS.out (by simp)).trans c8
  have c11a := (hTa.cell (p := ⟨w.heap.size, 11, none⟩) HS.out (by simp)).trans c11
  have c12a := (hTa.cell (p := ⟨w.heap.size, 12, none⟩) HS.out (by simp)).trans c12
  have HTa := Lib.hid (HT0.out.trans hTa)
  have HSa := Lib.hid (Nat.lt_of_lt_of_le HS.out hTa.size)
  clear hn hE hTa hla c1 c5 c6 c7 c8 c11 c12
  go_wp2_with fail
  refine (hw wa).mono ?_
  rintro e wb ⟨rfl, rfl⟩
  clear hw
  go_wp2
  go_ret2
  exact ⟨rfl, HTa.out⟩

set_option maxHeartbeats 800000 in
theorem pnew_no2 (w : World) (k0 mtu k2 k3 k4 most first lo hi k9 k10 every may k13 : Int) (now : Int) (h1 : takes first lo hi = true) (h2 : wtakes mtu most = true) (hb : (decide (may < 0) || decide (20 < may) || decide (every < 1) || decide (1048576 < every) || decide (now < 0) || decide (2305843009213693952 < now)) = true) :
    Calls Try.prog 10 #[.agg #[.int .i64 k0, .int .i64 mtu, .int .i64 k2, .int .i64 k3, .int .i64 k4, .int .i64 most, .int .i64 first, .int .i64 lo, .int .i64 hi, .int .i64 k9, .int .i64 k10, .int .i64 every, .int .i64 may, .int .i64 k13], .int .i64 now] w fun e w' => e = .returned (.tuple #[.pointer none, .int .i64 1]) ∧ Turn [] w w' := by
  obtain ⟨b1, d1⟩ : ∃ b, decide (may < 0) = b := ⟨_, rfl⟩
  obtain ⟨b2, d2⟩ : ∃ b, decide (20 < may) = b := ⟨_, rfl⟩
  obtain ⟨b3, d3⟩ : ∃ b, decide (every < 1) = b := ⟨_, rfl⟩
  obtain ⟨b4, d4⟩ : ∃ b, decide (1048576 < every) = b := ⟨_, rfl⟩
  obtain ⟨b5, d5⟩ : ∃ b, decide (now < 0) = b := ⟨_, rfl⟩
  obtain ⟨b6, d6⟩ : ∃ b, decide (2305843009213693952 < now) = b := ⟨_, rfl⟩
  rw [d1, d2, d3, d4, d5, d6] at hb
  have hbx := cfBox w k0 mtu k2 k3 k4 most first lo hi k9 k10 every may k13
  have hT0 : Turn [] w (w.alloc (.cells #[.int .i64 k0, .int .i64 mtu, .int .i64 k2, .int .i64 k3, .int .i64 k4, .int .i64 most, .int .i64 first, .int .i64 lo, .int .i64 hi, .int .i64 k9, .int .i64 k10, .int .i64 every, .int .i64 may, .int .i64 k13] 23)) := (Turn.refl _ _).alloc _
  have hsz : w.heap.size < (w.alloc (.cells #[.int .i64 k0, .int .i64 mtu, .int .i64 k2, .int .i64 k3, .int .i64 k4, .int .i64 most, .int .i64 first, .int .i64 lo, .int .i64 hi, .int .i64 k9, .int .i64 k10, .int .i64 every, .int .i64 may, .int .i64 k13] 23)).heap.size := by simp
  have c1 := hbx.cell (i := 1) rfl
  have c5 := hbx.cell (i := 5) rfl
  have c6 := hbx.cell (i := 6) rfl
  have c7 := hbx.cell (i := 7) rfl
  have c8 := hbx.cell (i := 8) rfl
  have c11 := hbx.cell (i := 11) rfl
  have c12 := hbx.cell (i := 12) rfl
  have HT0 := Lib.hid hT0
  have HS := Lib.hid hsz
  have hn := new_yes (w.alloc (.cells #[.int .i64 k0, .int .i64 mtu, .int .i64 k2, .int .i64 k3, .int .i64 k4, .int .i64 most, .int .i64 first, .int .i64 lo, .int .i64 hi, .int .i64 k9, .int .i64 k10, .int .i64 every, .int .i64 may, .int .i64 k13] 23)) first lo hi h1
  have hw := fun W => wnew_yes W mtu most 0 h2
  clear hT0 hsz hbx
  obtain ⟨gr, hgr⟩ : ∃ gr, gr = (w.alloc (.cells #[.int .i64 k0, .int .i64 mtu, .int .i64 k2, .int .i64 k3, .int .i64 k4, .int .i64 most, .int .i64 first, .int .i64 lo, .int .i64 hi, .int .i64 k9, .int .i64 k10, .int .i64 every, .int .i64 may, .int .i64 k13] 23)).heap.size := ⟨_, rfl⟩
  rw [← hgr] at hn
  clear hgr
  go_enter Try.func10, Try.ntmps10
  go_wp2_with fail
  refine hn.mono ?_
  rintro e wa ⟨rfl, hE, hTa, hla⟩
  have c1a := (hTa.cell (p := ⟨w.heap.size, 1, none⟩) HS.out (by simp)).trans c1
  have c5a := (hTa.cell (p := ⟨w.heap.size, 5, none⟩) HS.out (by simp)).trans c5
  have c6a := (hTa.cell (p := ⟨w.heap.size, 6, none⟩) HS.out (by simp)).trans c6
  have c7a := (hTa.cell (p := ⟨w.heap.size, 7, none⟩) HS.out (by simp)).trans c7
  have c8a := (hTa.cell (p := ⟨w.heap.size, 8, none⟩) HS.out (by simp)).trans c8
  have c11a := (hTa.cell (p := ⟨w.heap.size, 11, none⟩) HS.out (by simp)).trans c11
  have c12a := (hTa.cell (p := ⟨w.heap.size, 12, none⟩) HS.out (by simp)).trans c12
  have HTa := Lib.hid (HT0.out.trans hTa)
  have HSa := Lib.hid (Nat.lt_of_lt_of_le HS.out hTa.size)
  clear hn hE hTa hla c1 c5 c6 c7 c8 c11 c12
  obtain ⟨gw, hgw⟩ : ∃ gw, gw = wa.heap.size := ⟨_, rfl⟩
  replace hw := hw wa
  rw [← hgw] at hw
  clear hgw
  go_wp2_with fail
  refine hw.mono ?_
  rintro e wb ⟨rfl, hW, hTb, hlb⟩
  have c1b := (hTb.cell (p := ⟨w.heap.size, 1, none⟩) HSa.out (by simp)).trans c1a
  have c5b := (hTb.cell (p := ⟨w.heap.size, 5, none⟩) HSa.out (by simp)).trans c5a
  have c6b := (hTb.cell (p := ⟨w.heap.size, 6, none⟩) HSa.out (by simp)).trans c6a
  have c7b := (hTb.cell (p := ⟨w.heap.size, 7, none⟩) HSa.out (by simp)).trans c7a
  have c8b := (hTb.cell (p := ⟨w.heap.size, 8, none⟩) HSa.out (by simp)).trans c8a
  have c11b := (hTb.cell (p := ⟨w.heap.size, 11, none⟩) HSa.out (by simp)).trans c11a
  have c12b := (hTb.cell (p := ⟨w.heap.size, 12, none⟩) HSa.out (by simp)).trans c12a
  have HTb := Lib.hid (HTa.out.trans hTb)
  clear hw hW hTb hlb c1a c5a c6a c7a c8a c11a c12a
  cases b1
  · cases b2
    · cases b3
      · cases b4
        · cases b5
          · cases b6
            · cases hb
            · go_wp2
              go_ret2
              exact ⟨rfl, HTb.out⟩
          · go_wp2
            go_ret2
            exact ⟨rfl, HTb.out⟩
        · go_wp2
          go_ret2
          exact ⟨rfl, HTb.out⟩
      · go_wp2
        go_ret2
        exact ⟨rfl, HTb.out⟩
    · go_wp2
      go_ret2
      exact ⟨rfl, HTb.out⟩
  · go_wp2
    go_ret2
    exact ⟨rfl, HTb.out⟩

theorem pnew_no (w : World) (k0 mtu k2 k3 k4 most first lo hi k9 k10 every may k13 : Int) (now : Int) (h : ptakes first lo hi mtu most may every now = false) :
    Calls Try.prog 10 #[.agg #[.int .i64 k0, .int .i64 mtu, .int .i64 k2, .int .i64 k3, .int .i64 k4, .int .i64 most, .int .i64 first, .int .i64 lo, .int .i64 hi, .int .i64 k9, .int .i64 k10, .int .i64 every, .int .i64 may, .int .i64 k13], .int .i64 now] w fun e w' => e = .returned (.tuple #[.pointer none, .int .i64 1]) ∧ Turn [] w w' := by
  cases h1 : takes first lo hi
  · exact pnew_no0 w k0 mtu k2 k3 k4 most first lo hi k9 k10 every may k13 now h1
  · cases h2 : wtakes mtu most
    · exact pnew_no1 w k0 mtu k2 k3 k4 most first lo hi k9 k10 every may k13 now h1 h2
    · refine pnew_no2 w k0 mtu k2 k3 k4 most first lo hi k9 k10 every may k13 now h1 h2 ?_
      unfold ptakes at h
      rw [h1, h2] at h
      simp at h ⊢
      omega
end Go.Proofs.Ytkgfogepbclhkaa
