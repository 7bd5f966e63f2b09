/-
  Stage 9: the reference's SameData, SameInit, SameSack, SameForward, where they are true. Written by gensame2.py.
-/
import Derived.Test.YtlihcckgnnnekaaBdGaps
namespace Go.Proofs.Ytlihcckgnnnekaa
open Go.RowKit
set_option linter.unusedVariables false
set_option linter.unusedSimpArgs false

set_option maxRecDepth 100000 in
set_option maxHeartbeats 1600000 in
theorem sameData_yes (x0 x1 x2 : Int) (u f l : Bool) (a b : Option Addr) (n ca cb : Nat) (bs : List Int) (w : World) (ha : Reads w a n bs) (hb : Reads w b n bs) (hz : Byt bs) (hn : n ≤ 281474976) :
    Calls Try.prog 21 #[.agg #[.int .u32 x0, .int .u16 x1, .int .u16 x2, .bool u, .bool f, .bool l, .slice a n ca], .agg #[.int .u32 x0, .int .u16 x1, .int .u16 x2, .bool u, .bool f, .bool l, .slice b n cb]] w fun e w' => e = .returned (.bool true) ∧ Below w.heap.size w w' := by
  obtain ⟨w0, hw0⟩ : ∃ w0, w.alloc (.cells #[.int .u32 x0, .int .u16 x1, .int .u16 x2, .bool u, .bool f, .bool l, .slice a n ca] 26) = w0 := ⟨_, rfl⟩
  have hb0 : Below w.heap.size w w0 := by rw [← hw0]; exact (Below.refl _ _).alloc (Nat.le_refl _) _
  have hs0 : w0.heap.size = w.heap.size + 1 := by rw [← hw0]; simp
  have ha0 : Arr w0 w.heap.size 26 [.int .u32 x0, .int .u16 x1, .int .u16 x2, .bool u, .bool f, .bool l, .slice a n ca] := by rw [← hw0]; exact arr_new _ _ _
  obtain ⟨w1, hw1⟩ : ∃ w1, w0.alloc (.cells #[.int .u32 x0, .int .u16 x1, .int .u16 x2, .bool u, .bool f, .bool l, .slice b n cb] 26) = w1 := ⟨_, rfl⟩
  have hb1 : Below w0.heap.size w0 w1 := by rw [← hw1]; exact (Below.refl _ _).alloc (Nat.le_refl _) _
  have hs1 : w1.heap.size = w0.heap.size + 1 := by rw [← hw1]; simp
  have hk1 : Arr w1 w0.heap.size 26 [.int .u32 x0, .int .u16 x1, .int .u16 x2, .bool u, .bool f, .bool l, .slice b n cb] := by rw [← hw1]; exact arr_new _ _ _
  have ha1 := ha0.keep hb1
  have c0 := ha1.cell (i := 0) rfl
  have c1 := ha1.cell (i := 1) rfl
  have c2 := ha1.cell (i := 2) rfl
  have c3 := ha1.cell (i := 3) rfl
  have c4 := ha1.cell (i := 4) rfl
  have c5 := ha1.cell (i := 5) rfl
  have c6 := ha1.cell (i := 6) rfl
  have d0 := hk1.cell (i := 0) rfl
  have d1 := hk1.cell (i := 1) rfl
  have d2 := hk1.cell (i := 2) rfl
  have d3 := hk1.cell (i := 3) rfl
  have d4 := hk1.cell (i := 4) rfl
  have d5 := hk1.cell (i := 5) rfl
  have d6 := hk1.cell (i := 6) rfl
  have HE := Lib.hid (eqBytes_yes a b n ca cb n bs bs w1 ((ha.below hb0).below hb1) ((hb.below hb0).below hb1) hz (by omega) rfl)
  have HB := Lib.hid (hb0.trans (hb1.mono hb0.size))
  have HS := Lib.hid (And.intro hs0 hs1)
  clear ha hb hz hb0 hb1 hs0 hs1 ha0 ha1 hk1
  go_enter Try.func21, Try.ntmps21
  go_wp2_with fail
  refine HE.out.mono ?_
  rintro e w2 ⟨rfl, hb2, _⟩
  have hB := Lib.hid (HB.out.trans (hb2.mono HB.out.size))
  clear hb2 HE
  go_wp2
  go_ret
  exact ⟨rfl, hB.out⟩

set_option maxRecDepth 100000 in
set_option maxHeartbeats 1600000 in
theorem sameInit_yes (x0 x1 x2 x3 x4 : Int) (a b : Option Addr) (n ca cb : Nat) (bs : List Int) (w : World) (ha : Reads w a n bs) (hb : Reads w b n bs) (hz : Byt bs) (hn : n ≤ 281474976) :
    Calls Try.prog 27 #[.agg #[.int .u32 x0, .int .u32 x1, .int .u16 x2, .int .u16 x3, .int .u32 x4, .slice a n ca], .agg #[.int .u32 x0, .int .u32 x1, .int .u16 x2, .int .u16 x3, .int .u32 x4, .slice b n cb]] w fun e w' => e = .returned (.bool true) ∧ Below w.heap.size w w' := by
  obtain ⟨w0, hw0⟩ : ∃ w0, w.alloc (.cells #[.int .u32 x0, .int .u32 x1, .int .u16 x2, .int .u16 x3, .int .u32 x4, .slice a n ca] 43) = w0 := ⟨_, rfl⟩
  have hb0 : Below w.heap.size w w0 := by rw [← hw0]; exact (Below.refl _ _).alloc (Nat.le_refl _) _
  have hs0 : w0.heap.size = w.heap.size + 1 := by rw [← hw0]; simp
  have ha0 : Arr w0 w.heap.size 43 [.int .u32 x0, .int .u32 x1, .int .u16 x2, .int .u16 x3, .int .u32 x4, .slice a n ca] := by rw [← hw0]; exact arr_new _ _ _
  obtain ⟨w1, hw1⟩ : ∃ w1, w0.alloc (.cells #[.int .u32 x0, .int .u32 x1, .int .u16 x2, .int .u16 x3, .int .u32 x4, .slice b n cb] 43) = w1 := ⟨_, rfl⟩
  have hb1 : Below w0.heap.size w0 w1 := by rw [← hw1]; exact (Below.refl _ _).alloc (Nat.le_refl _) _
  have hs1 : w1.heap.size = w0.heap.size + 1 := by rw [← hw1]; simp
  have hk1 : Arr w1 w0.heap.size 43 [.int .u32 x0, .int .u32 x1, .int .u16 x2, .int .u16 x3, .int .u32 x4, .slice b n cb] := by rw [← hw1]; exact arr_new _ _ _
  have ha1 := ha0.keep hb1
  have c0 := ha1.cell (i := 0) rfl
  have c1 := ha1.cell (i := 1) rfl
  have c2 := ha1.cell (i := 2) rfl
  have c3 := ha1.cell (i := 3) rfl
  have c4 := ha1.cell (i := 4) rfl
  have c5 := ha1.cell (i := 5) rfl
  have d0 := hk1.cell (i := 0) rfl
  have d1 := hk1.cell (i := 1) rfl
  have d2 := hk1.cell (i := 2) rfl
  have d3 := hk1.cell (i := 3) rfl
  have d4 := hk1.cell (i := 4) rfl
  have d5 := hk1.cell (i := 5) rfl
  have HE := Lib.hid (eqBytes_yes a b n ca cb n bs bs w1 ((ha.below hb0).below hb1) ((hb.below hb0).below hb1) hz (by omega) rfl)
  have HB := Lib.hid (hb0.trans (hb1.mono hb0.size))
  have HS := Lib.hid (And.intro hs0 hs1)
  clear ha hb hz hb0 hb1 hs0 hs1 ha0 ha1 hk1
  go_enter Try.func27, Try.ntmps27
  go_wp2_with fail
  refine HE.out.mono ?_
  rintro e w2 ⟨rfl, hb2, _⟩
  have hB := Lib.hid (HB.out.trans (hb2.mono HB.out.size))
  clear hb2 HE
  go_wp2
  go_ret
  exact ⟨rfl, hB.out⟩

set_option maxRecDepth 100000 in
set_option maxHeartbeats 1600000 in
theorem sameForward_yes (x0 : Int) (a b : Option Addr) (n ca cb : Nat) (gs : List (Int × Int)) (w : World) (ha : Prs w a n gs) (hb : Prs w b n gs) (hn : n ≤ 1048576) :
    Calls Try.prog 38 #[.agg #[.int .u32 x0, .slice a n ca], .agg #[.int .u32 x0, .slice b n cb]] w fun e w' => e = .returned (.bool true) ∧ Below w.heap.size w w' := by
  obtain ⟨w0, hw0⟩ : ∃ w0, w.alloc (.cells #[.int .u32 x0, .slice a n ca] 56) = w0 := ⟨_, rfl⟩
  have hb0 : Below w.heap.size w w0 := by rw [← hw0]; exact (Below.refl _ _).alloc (Nat.le_refl _) _
  have hs0 : w0.heap.size = w.heap.size + 1 := by rw [← hw0]; simp
  have ha0 : Arr w0 w.heap.size 56 [.int .u32 x0, .slice a n ca] := by rw [← hw0]; exact arr_new _ _ _
  obtain ⟨w1, hw1⟩ : ∃ w1, w0.alloc (.cells #[.int .u32 x0, .slice b n cb] 56) = w1 := ⟨_, rfl⟩
  have hb1 : Below w0.heap.size w0 w1 := by rw [← hw1]; exact (Below.refl _ _).alloc (Nat.le_refl _) _
  have hs1 : w1.heap.size = w0.heap.size + 1 := by rw [← hw1]; simp
  have hk1 : Arr w1 w0.heap.size 56 [.int .u32 x0, .slice b n cb] := by rw [← hw1]; exact arr_new _ _ _
  have ha1 := ha0.keep hb1
  have c0 := ha1.cell (i := 0) rfl
  have c1 := ha1.cell (i := 1) rfl
  have d0 := hk1.cell (i := 0) rfl
  have d1 := hk1.cell (i := 1) rfl
  have HGA := Lib.hid ((ha.below hb0 (Nat.le_refl _)).below hb1 (Nat.le_refl _))
  have HGB := Lib.hid ((hb.below hb0 (Nat.le_refl _)).below hb1 (Nat.le_refl _))
  have HB := Lib.hid (hb0.trans (hb1.mono hb0.size))
  have HS := Lib.hid (And.intro hs0 hs1)
  have HA := Lib.hid ha1
  have HD := Lib.hid hk1
  clear ha hb hb0 hb1 hs0 hs1 ha0 ha1 hk1
  go_enter Try.func38, Try.ntmps38
  go_wp2_with fail
  have HW0 := Lib.hid (Below.refl w1.heap.size w1)
  go_loopw [5] (fun ii wr => ∃ j : Nat, j ≤ n ∧ ii = .int .i64 (j : Int) ∧ Below w1.heap.size w1 wr) (fun ii _ => n - (intOf ii).toNat)
  case atStart => exact ⟨0, Nat.zero_le _, rfl, HW0.out⟩
  case round =>
    obtain ⟨j, hj, rfl, hbl⟩ := hrel
    have cc0 := (HA.out.keep hbl).cell (i := 0) rfl
    have cc1 := (HA.out.keep hbl).cell (i := 1) rfl
    have dd0 := (HD.out.keep hbl).cell (i := 0) rfl
    have dd1 := (HD.out.keep hbl).cell (i := 1) rfl
    have HBL := Lib.hid hbl
    clear hbl
    by_cases hjn : j < n
    · obtain ⟨p, hp⟩ : ∃ p, gs[j]? = some p := ⟨gs[j]'(by rw [HGA.out.1]; exact hjn), by simp [HGA.out.1, hjn]⟩
      obtain ⟨ga, oa, hq, hlt, e0, e1⟩ := HGA.out.2.2 j p hp
      obtain ⟨gb, ob, hq', hlt', f0, f1⟩ := HGB.out.2.2 j p hp
      have e0' := (HBL.out.cell (p := ⟨ga, oa + j * 2, none⟩) hlt).trans e0
      have e1' := (HBL.out.cell (p := ⟨ga, oa + j * 2 + 1, none⟩) hlt).trans e1
      have f0' := (HBL.out.cell (p := ⟨gb, ob + j * 2, none⟩) hlt').trans f0
      have f1' := (HBL.out.cell (p := ⟨gb, ob + j * 2 + 1, none⟩) hlt').trans f1
      clear e0 e1 f0 f1 hp
      obtain ⟨pa, pb⟩ := p
      simp only at e0' e1' f0' f1'
      subst hq hq'
      have hj0 : (0 : Int) ≤ (j : Int) := by omega
      have hj1 : (j : Int) < (n : Int) := by omega
      go_wp2
      go_quiet (fail)
      go_wp2
      exact ⟨⟨j + 1, by omega, congrArg (Value.int .i64) (by omega), below_drewN HBL.out _⟩, by simp [intOf]; omega⟩
    · have hj1 : ¬ (j : Int) < (n : Int) := by omega
      go_wp2
      go_ret
      exact ⟨rfl, HB.out.trans (HBL.out.mono HB.out.size)⟩

set_option maxRecDepth 100000 in
set_option maxHeartbeats 1600000 in
theorem sameSack_yes (x0 x1 : Int) (a b a' b' : Option Addr) (n ca cb n' ca' cb' : Nat) (gs : List (Int × Int)) (ds : List Int) (w : World) (ha : Prs w a n gs) (hb : Prs w b n gs) (ha' : Nums .u32 w a' n' ds) (hb' : Nums .u32 w b' n' ds) (hn : n ≤ 1048576) (hn' : n' ≤ 1048576) :
    Calls Try.prog 33 #[.agg #[.int .u32 x0, .int .u32 x1, .slice a n ca, .slice a' n' ca'], .agg #[.int .u32 x0, .int .u32 x1, .slice b n cb, .slice b' n' cb']] w fun e w' => e = .returned (.bool true) ∧ Below w.heap.size w w' := by
  obtain ⟨w0, hw0⟩ : ∃ w0, w.alloc (.cells #[.int .u32 x0, .int .u32 x1, .slice a n ca, .slice a' n' ca'] 52) = w0 := ⟨_, rfl⟩
  have hb0 : Below w.heap.size w w0 := by rw [← hw0]; exact (Below.refl _ _).alloc (Nat.le_refl _) _
  have hs0 : w0.heap.size = w.heap.size + 1 := by rw [← hw0]; simp
  have ha0 : Arr w0 w.heap.size 52 [.int .u32 x0, .int .u32 x1, .slice a n ca, .slice a' n' ca'] := by rw [← hw0]; exact arr_new _ _ _
  obtain ⟨w1, hw1⟩ : ∃ w1, w0.alloc (.cells #[.int .u32 x0, .int .u32 x1, .slice b n cb, .slice b' n' cb'] 52) = w1 := ⟨_, rfl⟩
  have hb1 : Below w0.heap.size w0 w1 := by rw [← hw1]; exact (Below.refl _ _).alloc (Nat.le_refl _) _
  have hs1 : w1.heap.size = w0.heap.size + 1 := by rw [← hw1]; simp
  have hk1 : Arr w1 w0.heap.size 52 [.int .u32 x0, .int .u32 x1, .slice b n cb, .slice b' n' cb'] := by rw [← hw1]; exact arr_new _ _ _
  have ha1 := ha0.keep hb1
  have c0 := ha1.cell (i := 0) rfl
  have c1 := ha1.cell (i := 1) rfl
  have c2 := ha1.cell (i := 2) rfl
  have c3 := ha1.cell (i := 3) rfl
  have d0 := hk1.cell (i := 0) rfl
  have d1 := hk1.cell (i := 1) rfl
  have d2 := hk1.cell (i := 2) rfl
  have d3 := hk1.cell (i := 3) rfl
  have HGA := Lib.hid ((ha.below hb0 (Nat.le_refl _)).below hb1 (Nat.le_refl _))
  have HGB := Lib.hid ((hb.below hb0 (Nat.le_refl _)).below hb1 (Nat.le_refl _))
  have HNA := Lib.hid ((ha'.below hb0 (Nat.le_refl _)).below hb1 (Nat.le_refl _))
  have HNB := Lib.hid ((hb'.below hb0 (Nat.le_refl _)).below hb1 (Nat.le_refl _))
  have HB := Lib.hid (hb0.trans (hb1.mono hb0.size))
  have HS := Lib.hid (And.intro hs0 hs1)
  have HA := Lib.hid ha1
  have HD := Lib.hid hk1
  clear ha hb ha' hb' hb0 hb1 hs0 hs1 ha0 ha1 hk1
  go_enter Try.func33, Try.ntmps33
  go_wp2_with fail
  have HW0 := Lib.hid (Below.refl w1.heap.size w1)
  go_loopw [5] (fun ii wr => ∃ j : Nat, j ≤ n ∧ ii = .int .i64 (j : Int) ∧ Below w1.heap.size w1 wr) (fun ii _ => n - (intOf ii).toNat)
  case atStart => exact ⟨0, Nat.zero_le _, rfl, HW0.out⟩
  case round =>
    obtain ⟨j, hj, rfl, hbl⟩ := hrel
    have cc0 := (HA.out.keep hbl).cell (i := 0) rfl
    have cc1 := (HA.out.keep hbl).cell (i := 1) rfl
    have cc2 := (HA.out.keep hbl).cell (i := 2) rfl
    have cc3 := (HA.out.keep hbl).cell (i := 3) rfl
    have dd0 := (HD.out.keep hbl).cell (i := 0) rfl
    have dd1 := (HD.out.keep hbl).cell (i := 1) rfl
    have dd2 := (HD.out.keep hbl).cell (i := 2) rfl
    have dd3 := (HD.out.keep hbl).cell (i := 3) rfl
    have HBL := Lib.hid hbl
    clear hbl
    by_cases hjn : j < n
    · obtain ⟨p, hp⟩ : ∃ p, gs[j]? = some p := ⟨gs[j]'(by rw [HGA.out.1]; exact hjn), by simp [HGA.out.1, hjn]⟩
      obtain ⟨ga, oa, hq, hlt, e0, e1⟩ := HGA.out.2.2 j p hp
      obtain ⟨gb, ob, hq', hlt', f0, f1⟩ := HGB.out.2.2 j p hp
      have e0' := (HBL.out.cell (p := ⟨ga, oa + j * 2, none⟩) hlt).trans e0
      have e1' := (HBL.out.cell (p := ⟨ga, oa + j * 2 + 1, none⟩) hlt).trans e1
      have f0' := (HBL.out.cell (p := ⟨gb, ob + j * 2, none⟩) hlt').trans f0
      have f1' := (HBL.out.cell (p := ⟨gb, ob + j * 2 + 1, none⟩) hlt').trans f1
      clear e0 e1 f0 f1 hp
      obtain ⟨pa, pb⟩ := p
      simp only at e0' e1' f0' f1'
      subst hq hq'
      have hj0 : (0 : Int) ≤ (j : Int) := by omega
      have hj1 : (j : Int) < (n : Int) := by omega
      go_wp2
      go_quiet (fail)
      go_wp2
      exact ⟨⟨j + 1, by omega, congrArg (Value.int .i64) (by omega), below_drewN HBL.out _⟩, by simp [intOf]; omega⟩
    · have hj1 : ¬ (j : Int) < (n : Int) := by omega
      have HW1 := HBL
      go_wp2
      clear cc0 cc1 cc2 cc3 dd0 dd1 dd2 dd3 HBL hj1
      go_loopw [6] (fun ii wq => ∃ i : Nat, i ≤ n' ∧ ii = .int .i64 (i : Int) ∧ Below w1.heap.size w1 wq) (fun ii _ => n' - (intOf ii).toNat)
      case atStart => exact ⟨0, Nat.zero_le _, rfl, HW1.out⟩
      case round =>
        obtain ⟨i, hi, rfl, hbl⟩ := hrel
        have cc0 := (HA.out.keep hbl).cell (i := 0) rfl
        have cc1 := (HA.out.keep hbl).cell (i := 1) rfl
        have cc2 := (HA.out.keep hbl).cell (i := 2) rfl
        have cc3 := (HA.out.keep hbl).cell (i := 3) rfl
        have dd0 := (HD.out.keep hbl).cell (i := 0) rfl
        have dd1 := (HD.out.keep hbl).cell (i := 1) rfl
        have dd2 := (HD.out.keep hbl).cell (i := 2) rfl
        have dd3 := (HD.out.keep hbl).cell (i := 3) rfl
        have HBL := Lib.hid hbl
        clear hbl
        by_cases hin : i < n'
        · obtain ⟨x, hx⟩ : ∃ x, ds[i]? = some x := ⟨ds[i]'(by rw [HNA.out.1]; exact hin), by simp [HNA.out.1, hin]⟩
          obtain ⟨ga, oa, hq, hlt, e0⟩ := HNA.out.2.2.2 i x hx
          obtain ⟨gb, ob, hq', hlt', f0⟩ := HNB.out.2.2.2 i x hx
          have e0' := (HBL.out.cell (p := ⟨ga, oa + i, none⟩) hlt).trans e0
          have f0' := (HBL.out.cell (p := ⟨gb, ob + i, none⟩) hlt').trans f0
          clear e0 f0 hx
          subst hq hq'
          have hj0 : (0 : Int) ≤ (i : Int) := by omega
          have hj1 : (i : Int) < (n' : Int) := by omega
          go_wp2
          go_quiet (fail)
          go_wp2
          exact ⟨⟨i + 1, by omega, congrArg (Value.int .i64) (by omega), below_drewN HBL.out _⟩, by simp [intOf]; omega⟩
        · have hj1 : ¬ (i : Int) < (n' : Int) := by omega
          go_wp2
          go_ret
          exact ⟨rfl, HB.out.trans (HBL.out.mono HB.out.size)⟩

end Go.Proofs.Ytlihcckgnnnekaa
