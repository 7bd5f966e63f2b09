import Derived.Test.YtlihcckgnnnekaaBdGaps
import Derived.Test.YtlihcckgnnnekaaBdGets
import Derived.Test.YtlihcckgnnnekaaBdGetD
import Derived.Test.YtlihcckgnnnekaaBdGetI
import Derived.Test.YtlihcckgnnnekaaBdGetF
import Derived.Test.YtlihcckgnnnekaaBdGetS
import Derived.Test.YtlihcckgnnnekaaRef00c
import Derived.Test.YtlihcckgnnnekaaApart
import Derived.Test.YtlihcckgnnnekaaFrame
import Derived.Test.YtlihcckgnnnekaaGoodL
/-
  Stage 9: the reference's SameData, SameInit, SameSack, SameForward, where they are true. Written by gensame2.py.
-/
namespace Go.Proofs.Ytlihcckgnnnekaa
open Go.RowKit
set_option linter.unusedVariables false
set_option linter.unusedSimpArgs false

set_option maxRecDepth 100000 in
set_option maxHeartbeats 1600000 in
theorem sameData_yes (x0 x1 x2 : Int) (u f l : Bool) (a b : Option Addr) (n ca cb : Nat) (bs : List Int) (w : World) (ha : Reads w a n bs) (hb : Reads w b n bs) (hz : Byt bs) (hn : n ≤ 281474976) :
    Calls Try.prog 21 #[.agg #[.int .u32 x0, .int .u16 x1, .int .u16 x2, .bool u, .bool f, .bool l, .slice a n ca], .agg #[.int .u32 x0, .int .u16 x1, .int .u16 x2, .bool u, .bool f, .bool l, .slice b n cb]] w fun e w' => e = .returned (.bool true) ∧ Below w.heap.size w w' := by
  obtain ⟨w0, hw0⟩ : ∃ w0, w.alloc (.cells #[.int .u32 x0, .int .u16 x1, .int .u16 x2, .bool u, .bool f, .bool l, .slice a n ca] 26) = w0 := ⟨_, rfl⟩
  have hb0 : Below w.heap.size w w0 := by rw [← hw0]; exact (Below.refl _ _).alloc (Nat.le_refl _) _
  have hs0 : w0.heap.size = w.heap.size + 1 := by rw [← hw0]; simp
  have ha0 : Arr w0 w.heap.size 26 [.int .u32 x0, .int .u16 x1, .int .u16 x2, .bool u, .bool f, .bool l, .slice a n ca] := by rw [← hw0]; exact arr_new _ _ _
  obtain ⟨w1, hw1⟩ : ∃ w1, w0.alloc (.cells #[.int .u32 x0, .int .u16 x1, .int .u16 x2, .bool u, .bool f, .bool l, .slice b n cb] 26) = w1 := ⟨_, rfl⟩
  have hb1 : Below w0.heap.size w0 w1 := by rw [← hw1]; exact (Below.refl _ _).alloc (Nat.le_refl _) _
  have hs1 : w1.heap.size = w0.heap.size + 1 := by rw [← hw1]; simp
  have hk1 : Arr w1 w0.heap.size 26 [.int .u32 x0, .int .u16 x1, .int .u16 x2, .bool u, .bool f, .bool l, .slice b n cb] := by rw [← hw1]; exact arr_new _ _ _
  have ha1 := ha0.keep hb1
  have c0 := ha1.cell (i := 0) rfl
  have c1 := ha1.cell (i := 1) rfl
  have c2 := ha1.cell (i := 2) rfl
  have c3 := ha1.cell (i := 3) rfl
  have c4 := ha1.cell (i := 4) rfl
  have c5 := ha1.cell (i := 5) rfl
  have c6 := ha1.cell (i := 6) rfl
  have d0 := hk1.cell (i := 0) rfl
  have d1 := hk1.cell (i := 1) rfl
  have d2 := hk1.cell (i := 2) rfl
  have d3 := hk1.cell (i := 3) rfl
  have d4 := hk1.cell (i := 4) rfl
  have d5 := hk1.cell (i := 5) rfl
  have d6 := hk1.cell (i := 6) rfl
  have HE := Lib.hid (eqBytes_yes a b n ca cb n bs bs w1 ((ha.below hb0).below hb1) ((hb.below hb0).below hb1) hz (by omega) rfl)
  have HB := Lib.hid (hb0.trans (hb1.mono hb0.size))
  have HS := Lib.hid (And.intro hs0 hs1)
  clear ha hb hz hb0 hb1 hs0 hs1 ha0 ha1 hk1
  go_enter Try.func21, Try.ntmps21
  go_wp2_with fail
  refine HE.out.mono ?_
  rintro e w2 ⟨rfl, hb2, _⟩
  have hB := Lib.hid (HB.out.trans (hb2.mono HB.out.size))
  clear hb2 HE
  go_wp2
  go_ret
  exact ⟨rfl, hB.out⟩

set_option maxRecDepth 100000 in
set_option maxHeartbeats 1600000 in
theorem sameInit_yes (x0 x1 x2 x3 x4 : Int) (a b : Option Addr) (n ca cb : Nat) (bs : List Int) (w : World) (ha : Reads w a n bs) (hb : Reads w b n bs) (hz : Byt bs) (hn : n ≤ 281474976) :
    Calls Try.prog 27 #[.agg #[.int .u32 x0, .int .u32 x1, .int .u16 x2, .int .u16 x3, .int .u32 x4, .slice a n ca], .agg #[.int .u32 x0, .int .u32 x1, .int .u16 x2, .int .u16 x3, .int .u32 x4, .slice b n cb]] w fun e w' => e = .returned (.bool true) ∧ Below w.heap.size w w' := by
  obtain ⟨w0, hw0⟩ : ∃ w0, w.alloc (.cells #[.int .u32 x0, .int .u32 x1, .int .u16 x2, .int .u16 x3, .int .u32 x4, .slice a n ca] 43) = w0 := ⟨_, rfl⟩
  have hb0 : Below w.heap.size w w0 := by rw [← hw0]; exact (Below.refl _ _).alloc (Nat.le_refl _) _
  have hs0 : w0.heap.size = w.heap.size + 1 := by rw [← hw0]; simp
  have ha0 : Arr w0 w.heap.size 43 [.int .u32 x0, .int .u32 x1, .int .u16 x2, .int .u16 x3, .int .u32 x4, .slice a n ca] := by rw [← hw0]; exact arr_new _ _ _
  obtain ⟨w1, hw1⟩ : ∃ w1, w0.alloc (.cells #[.int .u32 x0, .int .u32 x1, .int .u16 x2, .int .u16 x3, .int .u32 x4, .slice b n cb] 43) = w1 := ⟨_, rfl⟩
  have hb1 : Below w0.heap.size w0 w1 := by rw [← hw1]; exact (Below.refl _ _).alloc (Nat.le_refl _) _
  have hs1 : w1.heap.size = w0.heap.size + 1 := by rw [← hw1]; simp
  have hk1 : Arr w1 w0.heap.size 43 [.int .u32 x0, .int .u32 x1, .int .u16 x2, .int .u16 x3, .int .u32 x4, .slice b n cb] := by rw [← hw1]; exact arr_new _ _ _
  have ha1 := ha0.keep hb1
  have c0 := ha1.cell (i := 0) rfl
  have c1 := ha1.cell (i := 1) rfl
  have c2 := ha1.cell (i := 2) rfl
  have c3 := ha1.cell (i := 3) rfl
  have c4 := ha1.cell (i := 4) rfl
  have c5 := ha1.cell (i := 5) rfl
  have d0 := hk1.cell (i := 0) rfl
  have d1 := hk1.cell (i := 1) rfl
  have d2 := hk1.cell (i := 2) rfl
  have d3 := hk1.cell (i := 3) rfl
  have d4 := hk1.cell (i := 4) rfl
  have d5 := hk1.cell (i := 5) rfl
  have HE := Lib.hid (eqBytes_yes a b n ca cb n bs bs w1 ((ha.below hb0).below hb1) ((hb.below hb0).below hb1) hz (by omega) rfl)
  have HB := Lib.hid (hb0.trans (hb1.mono hb0.size))
  have HS := Lib.hid (And.intro hs0 hs1)
  clear ha hb hz hb0 hb1 hs0 hs1 ha0 ha1 hk1
  go_enter Try.func27, Try.ntmps27
  go_wp2_with fail
  refine HE.out.mono ?_
  rintro e w2 ⟨rfl, hb2, _⟩
  have hB := Lib.hid (HB.out.trans (hb2.mono HB.out.size))
  clear hb2 HE
  go_wp2
  go_ret
  exact ⟨rfl, hB.out⟩

set_option maxRecDepth 100000 in
set_option maxHeartbeats 1600000 in
theorem sameForward_yes (x0 : Int) (a b : Option Addr) (n ca cb : Nat) (gs : List (Int × Int)) (w : World) (ha : Prs w a n gs) (hb : Prs w b n gs) (hn : n ≤ 1048576) :
    Calls Try.prog 38 #[.agg #[.int .u32 x0, .slice a n ca], .agg #[.int .u32 x0, .slice b n cb]] w fun e w' => e = .returned (.bool true) ∧ Below w.heap.size w w' := by
  obtain ⟨w0, hw0⟩ : ∃ w0, w.alloc (.cells #[.int .u32 x0, .slice a n ca] 56) = w0 := ⟨_, rfl⟩
  have hb0 : Below w.heap.size w w0 := by rw [← hw0]; exact (Below.refl _ _).alloc (Nat.le_refl _) _
  have hs0 : w0.heap.size = w.heap.size + 1 := by rw [← hw0]; simp
  have ha0 : Arr w0 w.heap.size 56 [.int .u32 x0, .slice a n ca] := by rw [← hw0]; exact arr_new _ _ _
  obtain ⟨w1, hw1⟩ : ∃ w1, w0.alloc (.cells #[.int .u32 x0, .slice b n cb] 56) = w1 := ⟨_, rfl⟩
  have hb1 : Below w0.heap.size w0 w1 := by rw [← hw1]; exact (Below.refl _ _).alloc (Nat.le_refl _) _
  have hs1 : w1.heap.size = w0.heap.size + 1 := by rw [← hw1]; simp
  have hk1 : Arr w1 w0.heap.size 56 [.int .u32 x0, .slice b n cb] := by rw [← hw1]; exact arr_new _ _ _
  have ha1 := ha0.keep hb1
  have c0 := ha1.cell (i := 0) rfl
  have c1 := ha1.cell (i := 1) rfl
  have d0 := hk1.cell (i := 0) rfl
  have d1 := hk1.cell (i := 1) rfl
  have HGA := Lib.hid ((ha.below hb0 (Nat.le_refl _)).below hb1 (Nat.le_refl _))
  have HGB := Lib.hid ((hb.below hb0 (Nat.le_refl _)).below hb1 (Nat.le_refl _))
  have HB := Lib.hid (hb0.trans (hb1.mono hb0.size))
  have HS := Lib.hid (And.intro hs0 hs1)
  have HA := Lib.hid ha1
  have HD := Lib.hid hk1
  clear ha hb hb0 hb1 hs0 hs1 ha0 ha1 hk1
  go_enter Try.func38, Try.ntmps38
  go_wp2_with fail
  have HW0 := Lib.hid (Below.refl w1.heap.size w1)
  go_loopw [5] (fun ii wr => ∃ j : Nat, j ≤ n ∧ ii = .int .i64 (j : Int) ∧ Below w1.heap.size w1 wr) (fun ii _ => n - (intOf ii).toNat)
  case atStart => exact ⟨0, Nat.zero_le _, rfl, HW0.out⟩
  case round =>
    obtain ⟨j, hj, rfl, hbl⟩ := hrel
    have cc0 := (HA.out.keep hbl).cell (i := 0) rfl
    have cc1 := (HA.out.keep hbl).cell (i := 1) rfl
    have dd0 := (HD.out.keep hbl).cell (i := 0) rfl
    have dd1 := (HD.out.keep hbl).cell (i := 1) rfl
    have HBL := Lib.hid hbl
    clear hbl
    by_cases hjn : j < n
    · obtain ⟨p, hp⟩ : ∃ p, gs[j]? = some p := ⟨gs[j]'(by rw [HGA.out.1]; exact hjn), by simp [HGA.out.1, hjn]⟩
      obtain ⟨ga, oa, hq, hlt, e0, e1⟩ := HGA.out.2.2 j p hp
      obtain ⟨gb, ob, hq', hlt', f0, f1⟩ := HGB.out.2.2 j p hp
      have e0' := (HBL.out.cell (p := ⟨ga, oa + j * 2, none⟩) hlt).trans e0
      have e1' := (HBL.out.cell (p := ⟨ga, oa + j * 2 + 1, none⟩) hlt).trans e1
      have f0' := (HBL.out.cell (p := ⟨gb, ob + j * 2, none⟩) hlt').trans f0
      have f1' := (HBL.out.cell (p := ⟨gb, ob + j * 2 + 1, none⟩) hlt').trans f1
      clear e0 e1 f0 f1 hp
      obtain ⟨pa, pb⟩ := p
      simp only at e0' e1' f0' f1'
      subst hq hq'
      have hj0 : (0 : Int) ≤ (j : Int) := by omega
      have hj1 : (j : Int) < (n : Int) := by omega
      go_wp2
      go_quiet (fail)
      go_wp2
      exact ⟨⟨j + 1, by omega, congrArg (Value.int .i64) (by omega), below_drewN HBL.out _⟩, by simp [intOf]; omega⟩
    · have hj1 : ¬ (j : Int) < (n : Int) := by omega
      go_wp2
      go_ret
      exact ⟨rfl, HB.out.trans (HBL.out.mono HB.out.size)⟩

set_option maxRecDepth 100000 in
set_option maxHeartbeats 1600000 in
theorem sameSack_yes (x0 x1 : Int) (a b a' b' : Option Addr) (n ca cb n' ca' cb' : Nat) (gs : List (Int × Int)) (ds : List Int) (w : World) (ha : Prs w a n gs) (hb : Prs w b n gs) (ha' : Nums .u32 w a' n' ds) (hb' : Nums .u32 w b' n' ds) (hn : n ≤ 1048576) (hn' : n' ≤ 1048576) :
    Calls Try.prog 33 #[.agg #[.int .u32 x0, .int .u32 x1, .slice a n ca, .slice a' n' ca'], .agg #[.int .u32 x0, .int .u32 x1, .slice b n cb, .slice b' n' cb']] w fun e w' => e = .returned (.bool true) ∧ Below w.heap.size w w' := by
  obtain ⟨w0, hw0⟩ : ∃ w0, w.alloc (.cells #[.int .u32 x0, .int .u32 x1, .slice a n ca, .slice a' n' ca'] 52) = w0 := ⟨_, rfl⟩
  have hb0 : Below w.heap.size w w0 := by rw [← hw0]; exact (Below.refl _ _).alloc (Nat.le_refl _) _
  have hs0 : w0.heap.size = w.heap.size + 1 := by rw [← hw0]; simp
  have ha0 : Arr w0 w.heap.size 52 [.int .u32 x0, .int .u32 x1, .slice a n ca, .slice a' n' ca'] := by rw [← hw0]; exact arr_new _ _ _
  obtain ⟨w1, hw1⟩ : ∃ w1, w0.alloc (.cells #[.int .u32 x0, .int .u32 x1, .slice b n cb, .slice b' n' cb'] 52) = w1 := ⟨_, rfl⟩
  have hb1 : Below w0.heap.size w0 w1 := by rw [← hw1]; exact (Below.refl _ _).alloc (Nat.le_refl _) _
  have hs1 : w1.heap.size = w0.heap.size + 1 := by rw [← hw1]; simp
  have hk1 : Arr w1 w0.heap.size 52 [.int .u32 x0, .int .u32 x1, .slice b n cb, .slice b' n' cb'] := by rw [← hw1]; exact arr_new _ _ _
  have ha1 := ha0.keep hb1
  have c0 := ha1.cell (i := 0) rfl
  have c1 := ha1.cell (i := 1) rfl
  have c2 := ha1.cell (i := 2) rfl
  have c3 := ha1.cell (i := 3) rfl
  have d0 := hk1.cell (i := 0) rfl
  have d1 := hk1.cell (i := 1) rfl
  have d2 := hk1.cell (i := 2) rfl
  have d3 := hk1.cell (i := 3) rfl
  have HGA := Lib.hid ((ha.below hb0 (Nat.le_refl _)).below hb1 (Nat.le_refl _))
  have HGB := Lib.hid ((hb.below hb0 (Nat.le_refl _)).below hb1 (Nat.le_refl _))
  have HNA := Lib.hid ((ha'.below hb0 (Nat.le_refl _)).below hb1 (Nat.le_refl _))
  have HNB := Lib.hid ((hb'.below hb0 (Nat.le_refl _)).below hb1 (Nat.le_refl _))
  have HB := Lib.hid (hb0.trans (hb1.mono hb0.size))
  have HS := Lib.hid (And.intro hs0 hs1)
  have HA := Lib.hid ha1
  have HD := Lib.hid hk1
  clear ha hb ha' hb' hb0 hb1 hs0 hs1 ha0 ha1 hk1
  go_enter Try.func33, Try.ntmps33
  go_wp2_with fail
  have HW0 := Lib.hid (Below.refl w1.heap.size w1)
  go_loopw [5] (fun ii wr => ∃ j : Nat, j ≤ n ∧ ii = .int .i64 (j : Int) ∧ Below w1.heap.size w1 wr) (fun ii _ => n - (intOf ii).toNat)
  case atStart => exact ⟨0, Nat.zero_le _, rfl, HW0.out⟩
  case round =>
    obtain ⟨j, hj, rfl, hbl⟩ := hrel
    have cc0 := (HA.out.keep hbl).cell (i := 0) rfl
    have cc1 := (HA.out.keep hbl).cell (i := 1) rfl
    have cc2 := (HA.out.keep hbl).cell (i := 2) rfl
    have cc3 := (HA.out.keep hbl).cell (i := 3) rfl
    have dd0 := (HD.out.keep hbl).cell (i := 0) rfl
    have dd1 := (HD.out.keep hbl).cell (i := 1) rfl
    have dd2 := (HD.out.keep hbl).cell (i := 2) rfl
    have dd3 := (HD.out.keep hbl).cell (i := 3) rfl
    have HBL := Lib.hid hbl
    clear hbl
    by_cases hjn : j < n
    · obtain ⟨p, hp⟩ : ∃ p, gs[j]? = some p := ⟨gs[j]'(by rw [HGA.out.1]; exact hjn), by simp [HGA.out.1, hjn]⟩
      obtain ⟨ga, oa, hq, hlt, e0, e1⟩ := HGA.out.2.2 j p hp
      obtain ⟨gb, ob, hq', hlt', f0, f1⟩ := HGB.out.2.2 j p hp
      have e0' := (HBL.out.cell (p := ⟨ga, oa + j * 2, none⟩) hlt).trans e0
      have e1' := (HBL.out.cell (p := ⟨ga, oa + j * 2 + 1, none⟩) hlt).trans e1
      have f0' := (HBL.out.cell (p := ⟨gb, ob + j * 2, none⟩) hlt').trans f0
      have f1' := (HBL.out.cell (p := ⟨gb, ob + j * 2 + 1, none⟩) hlt').trans f1
      clear e0 e1 f0 f1 hp
      obtain ⟨pa, pb⟩ := p
      simp only at e0' e1' f0' f1'
      subst hq hq'
      have hj0 : (0 : Int) ≤ (j : Int) := by omega
      have hj1 : (j : Int) < (n : Int) := by omega
      go_wp2
      go_quiet (fail)
      go_wp2
      exact ⟨⟨j + 1, by omega, congrArg (Value.int .i64) (by omega), below_drewN HBL.out _⟩, by simp [intOf]; omega⟩
    · have hj1 : ¬ (j : Int) < (n : Int) := by omega
      have HW1 := HBL
      go_wp2
      clear cc0 cc1 cc2 cc3 dd0 dd1 dd2 dd3 HBL hj1
      go_loopw [6] (fun ii wq => ∃ i : Nat, i ≤ n' ∧ ii = .int .i64 (i : Int) ∧ Below w1.heap.size w1 wq) (fun ii _ => n' - (intOf ii).toNat)
      case atStart => exact ⟨0, Nat.zero_le _, rfl, HW1.out⟩
      case round =>
        obtain ⟨i, hi, rfl, hbl⟩ := hrel
        have cc0 := (HA.out.keep hbl).cell (i := 0) rfl
        have cc1 := (HA.out.keep hbl).cell (i := 1) rfl
        have cc2 := (HA.out.keep hbl).cell (i := 2) rfl
        have cc3 := (HA.out.keep hbl).cell (i := 3) rfl
        have dd0 := (HD.out.keep hbl).cell (i := 0) rfl
        have dd1 := (HD.out.keep hbl).cell (i := 1) rfl
        have dd2 := (HD.out.keep hbl).cell (i := 2) rfl
        have dd3 := (HD.out.keep hbl).cell (i := 3) rfl
        have HBL := Lib.hid hbl
        clear hbl
        by_cases hin : i < n'
        · obtain ⟨x, hx⟩ : ∃ x, ds[i]? = some x := ⟨ds[i]'(by rw [HNA.out.1]; exact hin), by simp [HNA.out.1, hin]⟩
          obtain ⟨ga, oa, hq, hlt, e0⟩ := HNA.out.2.2.2 i x hx
          obtain ⟨gb, ob, hq', hlt', f0⟩ := HNB.out.2.2.2 i x hx
          have e0' := (HBL.out.cell (p := ⟨ga, oa + i, none⟩) hlt).trans e0
          have f0' := (HBL.out.cell (p := ⟨gb, ob + i, none⟩) hlt').trans f0
          clear e0 f0 hx
          subst hq hq'
          have hj0 : (0 : Int) ≤ (i : Int) := by omega
          have hj1 : (i : Int) < (n' : Int) := by omega
          go_wp2
          go_quiet (fail)
          go_wp2
          exact ⟨⟨i + 1, by omega, congrArg (Value.int .i64) (by omega), below_drewN HBL.out _⟩, by simp [intOf]; omega⟩
        · have hj1 : ¬ (i : Int) < (n' : Int) := by omega
          go_wp2
          go_ret
          exact ⟨rfl, HB.out.trans (HBL.out.mono HB.out.size)⟩

end Go.Proofs.Ytlihcckgnnnekaa

/-
  Stage 9: what the Get functions answer, the program's and the reference's, in one form.
-/
namespace Go.Proofs.Ytlihcckgnnnekaa
open Go.RowKit
set_option linter.unusedVariables false

theorem eqC_symm (k f : Int) (zs : List Int) (k' f' : Int) (ys : List Int) : eqC k f zs k' f' ys = eqC k' f' ys k f zs := by
  unfold eqC
  congr 1
  simp only [eq_iff_iff]
  constructor
  · rintro ⟨rfl, rfl, rfl⟩; exact ⟨rfl, rfl, rfl⟩
  · rintro ⟨rfl, rfl, rfl⟩; exact ⟨rfl, rfl, rfl⟩
theorem eqC_true {k f k' f' : Int} {zs ys : List Int} (h : eqC k f zs k' f' ys = true) : k = k' ∧ f = f' ∧ zs = ys := by unfold eqC at h; exact of_decide_eq_true h
theorem eqC_mk {k f k' f' : Int} {zs ys : List Int} (h : k = k' ∧ f = f' ∧ zs = ys) : eqC k f zs k' f' ys = true := by unfold eqC; exact decide_eq_true h
theorem eqC_len {k f k' f' : Int} {zs ys : List Int} (h : zs.length ≠ ys.length) : eqC k f zs k' f' ys = false := by
  unfold eqC
  exact decide_eq_false (fun ⟨_, _, e⟩ => h (by rw [e]))
theorem eqC_kind {k f k' f' : Int} {zs ys : List Int} (h : k ≠ k') : eqC k f zs k' f' ys = false := by
  unfold eqC
  exact decide_eq_false (fun ⟨e, _, _⟩ => h e)

-- Cum
def okCum (k f : Int) (zs : List Int) : Bool := eqC k f zs 7 0 (enc (natAt zs 0 4) 4)
theorem pgetCum (k f : Int) (p : Option Addr) (n c : Nat) (zs : List Int) (w : World) (hr : Reads w p n zs) (hz : Byt zs) (hc : n ≤ c) (hn : n ≤ 200000) :
    Calls Try.prog 41 #[.agg #[.int .u8 k, .int .u8 f, .slice p n c]] w fun e w' => Chose (okCum k f zs) (.int .u32 (natAt zs 0 4)) (.int .u32 0) e ∧ Below w.heap.size w w' := pgetCum' k f p n c zs w hr hz hc (by omega) _ rfl
theorem rgetCum (k f : Int) (p : Option Addr) (n c : Nat) (zs : List Int) (w : World) (hr : Reads w p n zs) (hz : Byt zs) (hc : n ≤ c) (hn : n ≤ 200000) :
    Calls Try.prog 42 #[.agg #[.int .u8 k, .int .u8 f, .slice p n c]] w fun e w' => Chose (okCum k f zs) (.int .u32 (natAt zs 0 4)) (.int .u32 0) e ∧ Below w.heap.size w w' := by
  have h := rgetCum' k f p n c zs w hr hz hc (by omega) _ rfl
  rw [eqC_symm] at h
  exact h
-- Time
def timeV (zs : List Int) : Int := wrap64 (natAt zs 4 8)
def timeB (x : Int) : List Int := enc 1 2 ++ enc 12 2 ++ enc x 8
def okTime (k f : Int) (zs : List Int) : Bool := (decide (k = 4) || decide (k = 5)) && eqC k f zs k 0 (timeB (timeV zs))
theorem pgetTime (k f : Int) (p : Option Addr) (n c : Nat) (zs : List Int) (w : World) (hr : Reads w p n zs) (hz : Byt zs) (hc : n ≤ c) (hn : n ≤ 200000) :
    Calls Try.prog 39 #[.agg #[.int .u8 k, .int .u8 f, .slice p n c]] w fun e w' => Chose (okTime k f zs) (.int .i64 (timeV zs)) (.int .i64 0) e ∧ Below w.heap.size w w' := by
  by_cases h4 : k = 4
  · subst h4; have h := pgetTime4 f p n c zs w hr hz hc (by omega) _ rfl; exact h
  by_cases h5 : k = 5
  · subst h5; have h := pgetTime5 f p n c zs w hr hz hc (by omega) _ rfl; exact h
  have h := pgetTimeN k f p n c zs w hr hz hc (by omega) h4 h5 _ rfl
  have e : okTime k f zs = false := by simp [okTime, h4, h5]
  rw [e]; exact h
theorem rgetTime (k f : Int) (p : Option Addr) (n c : Nat) (zs : List Int) (w : World) (hr : Reads w p n zs) (hz : Byt zs) (hc : n ≤ c) (hn : n ≤ 200000) :
    Calls Try.prog 40 #[.agg #[.int .u8 k, .int .u8 f, .slice p n c]] w fun e w' => Chose (okTime k f zs) (.int .i64 (timeV zs)) (.int .i64 0) e ∧ Below w.heap.size w w' := by
  by_cases h4 : k = 4
  · subst h4; have h := rgetTime4 f p n c zs w hr hz hc (by omega) _ rfl; rw [eqC_symm] at h; exact h
  by_cases h5 : k = 5
  · subst h5; have h := rgetTime5 f p n c zs w hr hz hc (by omega) _ rfl; rw [eqC_symm] at h; exact h
  have h := rgetTimeN k f p n c zs w hr hz hc (by omega) h4 h5 _ rfl
  have e : okTime k f zs = false := by simp [okTime, h4, h5]
  rw [e]; exact h
-- Data
def bitB (f v : Int) : Bool := bits .and .u8 f v != 0
def dataV (f : Int) (zs : List Int) (a : Option Addr) (c : Nat) : Value := .agg #[.int .u32 (natAt zs 0 4), .int .u16 (natAt zs 4 2), .int .u16 (natAt zs 6 2), .bool (bitB f 4), .bool (bitB f 2), .bool (bitB f 1), .slice a (zs.length - 12) c]
def dataZ : Value := .agg #[.int .u32 0, .int .u16 0, .int .u16 0, .bool false, .bool false, .bool false, .slice none 0 0]
def okData (k f : Int) (zs : List Int) : Bool := decide (12 < zs.length) && eqC k f zs 0 (dflags (bitB f 4) (bitB f 2) (bitB f 1)) (dataB (natAt zs 0 4) (natAt zs 4 2) (natAt zs 6 2) (zs.drop 12))
def GotD (w : World) (k f : Int) (zs : List Int) (e : Ending) (w' : World) : Prop := ∃ a1 c1, Chose (okData k f zs) (dataV f zs a1 c1) dataZ e ∧ Below w.heap.size w w' ∧ Row8 w.heap.size w' a1 (zs.length - 12) c1 (zs.drop 12)
theorem pgetData (k f : Int) (p : Option Addr) (n c : Nat) (zs : List Int) (w : World) (hr : Reads w p n zs) (hz : Byt zs) (hc : n ≤ c) (hn : n ≤ 200000) :
    Calls Try.prog 16 #[.agg #[.int .u8 k, .int .u8 f, .slice p n c]] w (GotD w k f zs) := by
  have hl := hr.1
  by_cases h : 0 < n - 12
  · refine (pgetData_pos k f p n c zs w hr hz hc (by omega) _ rfl _ rfl _ rfl _ rfl _ rfl _ rfl h).mono ?_
    rintro e w' ⟨a1, c1, h1, h2, h3⟩
    rw [← hl] at h1 h3
    have e2 : okData k f zs = eqC k f zs 0 (dflags (bitB f 4) (bitB f 2) (bitB f 1)) (dataB (natAt zs 0 4) (natAt zs 4 2) (natAt zs 6 2) (zs.drop 12)) := by unfold okData; rw [decide_eq_true (by omega), Bool.true_and]
    exact ⟨a1, c1, by rw [e2]; exact h1, h2, h3⟩
  · refine (pgetData_nil k f p n c zs w hr hz hc (by omega) _ rfl _ rfl _ rfl _ rfl _ rfl _ rfl (by omega)).mono ?_
    rintro e w' ⟨a1, c1, h1, h2, h3⟩
    rw [← hl] at h1 h3
    have e2 : okData k f zs = false := by unfold okData; rw [decide_eq_false (by omega), Bool.false_and]
    exact ⟨a1, c1, by rw [e2]; exact h1, h2, h3⟩
theorem rgetData (k f : Int) (p : Option Addr) (n c : Nat) (zs : List Int) (w : World) (hr : Reads w p n zs) (hz : Byt zs) (hc : n ≤ c) (hn : n ≤ 200000) :
    Calls Try.prog 17 #[.agg #[.int .u8 k, .int .u8 f, .slice p n c]] w (GotD w k f zs) := by
  have hl := hr.1
  by_cases h : 13 ≤ n
  · refine (rgetData_more k f p n c zs w hr hz hc (by omega) _ rfl _ rfl _ rfl _ rfl _ rfl _ rfl h).mono ?_
    rintro e w' ⟨a1, c1, h1, h2, h3⟩
    rw [← hl] at h1 h3
    have e2 : okData k f zs = eqC 0 (dflags (bitB f 4) (bitB f 2) (bitB f 1)) (dataB (natAt zs 0 4) (natAt zs 4 2) (natAt zs 6 2) (zs.drop 12)) k f zs := by unfold okData; rw [decide_eq_true (by omega), Bool.true_and, eqC_symm]
    exact ⟨a1, c1, by rw [e2]; exact h1, h2, h3⟩
  · refine (rgetData_few k f p n c zs w hr hz hc (by omega) _ rfl _ rfl _ rfl _ rfl _ rfl _ rfl (by omega)).mono ?_
    rintro e w' ⟨a1, c1, h1, h2⟩
    have e2 : okData k f zs = false := by unfold okData; rw [decide_eq_false (by omega), Bool.false_and]
    have e0 : zs.drop 12 = [] := List.drop_eq_nil_of_le (by omega)
    have e1 : zs.length - 12 = 0 := by omega
    refine ⟨none, 0, ?_, h2, by rw [e0, e1]; exact Row8.nil _ _⟩
    rw [e2]
    rcases h1 with ⟨h1, _⟩ | ⟨_, h1⟩
    · cases h1
    · exact .inr ⟨rfl, h1⟩
-- Init
def ckK (k : Int) (zs : List Int) : List Int := if k = 2 then ckOf zs (natAt zs 18 2) else []
def initV (zs : List Int) (a : Option Addr) (l c : Nat) : Value := .agg #[.int .u32 (natAt zs 0 4), .int .u32 (natAt zs 4 4), .int .u16 (natAt zs 8 2), .int .u16 (natAt zs 10 2), .int .u32 (natAt zs 12 4), .slice a l c]
def initZ : Value := .agg #[.int .u32 0, .int .u32 0, .int .u16 0, .int .u16 0, .int .u32 0, .slice none 0 0]
def initBk (k : Int) (zs ck : List Int) : List Int := initB k (natAt zs 0 4) (natAt zs 4 4) (natAt zs 8 2) (natAt zs 10 2) (natAt zs 12 4) ck
def okInit (k f : Int) (zs : List Int) : Bool := initOk k (natAt zs 0 4) (natAt zs 8 2) (natAt zs 10 2) (ckK k zs).length && eqC k f zs k 0 (initBk k zs (ckK k zs))
def GotI (w : World) (k f : Int) (zs : List Int) (e : Ending) (w' : World) : Prop := ∃ a1 c1, Chose (okInit k f zs) (initV zs a1 (ckK k zs).length c1) initZ e ∧ Below w.heap.size w w' ∧ Row8 w.heap.size w' a1 (ckK k zs).length c1 (ckK k zs)
theorem pgetInit (k f : Int) (p : Option Addr) (n c : Nat) (zs : List Int) (w : World) (hr : Reads w p n zs) (hz : Byt zs) (hc : n ≤ c) (hn : n ≤ 200000) :
    Calls Try.prog 24 #[.agg #[.int .u8 k, .int .u8 f, .slice p n c]] w (GotI w k f zs) := by
  by_cases hk : k = 2
  · subst hk; exact pgetInit_ack f p n c zs w hr hz hc (by omega) _ rfl _ rfl _ rfl _ rfl _ rfl _ rfl
  · have h := pgetInit_no k f p n c zs w hr hz hc (by omega) hk _ rfl _ rfl _ rfl _ rfl _ rfl
    have e : ckK k zs = [] := by unfold ckK; rw [if_neg hk]
    unfold GotI okInit
    rw [e]
    exact h
theorem rgetInit (k f : Int) (p : Option Addr) (n c : Nat) (zs : List Int) (w : World) (hr : Reads w p n zs) (hz : Byt zs) (hc : n ≤ c) (hn : n ≤ 200000) :
    Calls Try.prog 25 #[.agg #[.int .u8 k, .int .u8 f, .slice p n c]] w (GotI w k f zs) := by
  have hl := hr.1
  have few : n < 16 → (k = 1 ∨ k = 2) → okInit k f zs = false := by
    intro h1 h2
    unfold okInit
    rw [eqC_len, Bool.and_false]
    rw [hl]
    unfold initBk initB
    have := up4_ge (20 + (ckK k zs).length)
    split
    · rw [initA_len]; omega
    · rw [initH_len]; omega
  have none : okInit k f zs = false → ∀ {e : Ending} {w' : World}, e = .returned (.tuple #[initZ, .int .i64 7]) ∧ Below w.heap.size w w' → (ckK k zs = [] ∨ n < 16) → GotI w k f zs e w' := by
    intro h0 e w' h1 h2
    have e0 : ckK k zs = [] := by
      rcases h2 with h2 | h2
      · exact h2
      · unfold ckK ckOf; split
        · rw [if_neg (by omega)]
        · rfl
    refine ⟨Option.none, 0, ?_, h1.2, by rw [e0]; exact Row8.nil _ _⟩
    rw [h0]
    exact .inr ⟨rfl, h1.1⟩
  by_cases h2 : k = 2
  · subst h2
    by_cases hm : 16 ≤ n
    · have h := rgetInit_ack f p n c zs w hr hz hc (by omega) _ rfl _ rfl _ rfl _ rfl _ rfl _ rfl hm
      rw [eqC_symm] at h
      exact h
    · exact (rgetInit_few2 f p n c zs w hr hz hc (by omega) (by omega)).mono fun e w' h => none (few (by omega) (.inr rfl)) h (.inr (by omega))
  · have e : ckK k zs = [] := by unfold ckK; rw [if_neg h2]
    by_cases h1 : k = 1
    · subst h1
      by_cases hm : 16 ≤ n
      · have h := rgetInit_ini f p n c zs w hr hz hc (by omega) _ rfl _ rfl _ rfl _ rfl _ rfl hm
        rw [eqC_symm] at h
        unfold GotI okInit
        rw [e]
        exact h
      · exact (rgetInit_few1 f p n c zs w hr hz hc (by omega) (by omega)).mono fun e' w' h => none (few (by omega) (.inl rfl)) h (.inl e)
    · exact (rgetInit_oth k f p n c zs w hr hz hc (by omega) h1 h2).mono fun e' w' h => none (by simp [okInit, initOk, h1, h2]) h (.inl e)
-- Forward
def okFwd (k f : Int) (zs : List Int) : Bool := eqC k f zs 192 0 (fwdB (natAt zs 0 4) (pairsAt zs 4 ((zs.length - 4 + 3) / 4)))
theorem pgetForward (k f : Int) (p : Option Addr) (n c : Nat) (zs : List Int) (w : World) (hr : Reads w p n zs) (hz : Byt zs) (hc : n ≤ c) (hn : n ≤ 200000) :
    Calls Try.prog 35 #[.agg #[.int .u8 k, .int .u8 f, .slice p n c]] w (GotF w (okFwd k f zs) (natAt zs 0 4) (pairsAt zs 4 ((zs.length - 4 + 3) / 4))) := by
  obtain rfl : zs.length = n := hr.1
  exact pgetForward' k f p zs.length c zs w hr hz hc (by omega) _ rfl
/-- A value of another length where there is none at all. -/
theorem GotF.no {w : World} {b : Bool} {x0 : Int} {ps : List (Int × Int)} {e : Ending} {w' : World} (h : GotF w b x0 ps e w') (hb : b = false) : e = .returned (.tuple #[.agg #[.int .u32 0, .slice none 0 0], .int .i64 7]) ∧ Below w.heap.size w w' := by
  obtain ⟨a1, c1, h1, h2, _⟩ := h
  subst hb
  rcases h1 with ⟨h1, _⟩ | ⟨_, h1⟩
  · cases h1
  · exact ⟨h1, h2⟩
/-- The same answers: the same value, or none. -/
def AnsF (w : World) (b : Bool) (x0 : Int) (ps : List (Int × Int)) (e : Ending) (w' : World) : Prop := (b = true → GotF w true x0 ps e w') ∧ (b = false → e = .returned (.tuple #[.agg #[.int .u32 0, .slice none 0 0], .int .i64 7]) ∧ Below w.heap.size w w')
theorem GotF.ans {w : World} {b : Bool} {x0 : Int} {ps : List (Int × Int)} {e : Ending} {w' : World} (h : GotF w b x0 ps e w') : AnsF w b x0 ps e w' := ⟨fun hb => hb ▸ h, fun hb => h.no hb⟩
theorem rgetForward (k f : Int) (p : Option Addr) (n c : Nat) (zs : List Int) (w : World) (hr : Reads w p n zs) (hz : Byt zs) (hc : n ≤ c) (hn : n ≤ 200000) :
    Calls Try.prog 36 #[.agg #[.int .u8 k, .int .u8 f, .slice p n c]] w (AnsF w (okFwd k f zs) (natAt zs 0 4) (pairsAt zs 4 ((zs.length - 4 + 3) / 4))) := by
  have hl := hr.1
  have odd : ¬ (4 ≤ n ∧ n % 4 = 0) → okFwd k f zs = false := by
    intro h
    exact eqC_len (by rw [fwdB_len, pairsAt_len, hl]; omega)
  by_cases hm : 4 ≤ n
  · refine (rgetForward_more k f p n c zs w hr hz hc (by omega) _ rfl hm).mono ?_
    intro e w' h
    rw [eqC_symm] at h
    by_cases h4 : n % 4 = 0
    · have e4 : (n - 4) / 4 = (zs.length - 4 + 3) / 4 := by rw [hl]; omega
      rw [e4] at h
      exact h.ans
    · refine ⟨fun hb => ?_, fun _ => h.no (eqC_len (by rw [fwdB_len, pairsAt_len, hl]; omega))⟩
      rw [odd (by omega)] at hb; cases hb
  · refine (rgetForward_few k f p n c zs w hr hz hc (by omega) (by omega)).mono ?_
    intro e w' h
    refine ⟨fun hb => ?_, fun _ => h⟩
    rw [odd (by omega)] at hb; cases hb
-- Sack: the program's
def sackE (zs : List Int) : Nat := 12 + 4 * (natAt zs 8 2).toNat
def sackG (zs : List Int) : List (Int × Int) := pairsAt zs 12 ((min (sackE zs) zs.length - 12 + 3) / 4)
def sackD (zs : List Int) : List Int := numsAt zs (sackE zs) ((zs.length - sackE zs + 3) / 4)
def okSack (k f : Int) (zs : List Int) : Bool := apartF 0 (sackG zs) && eqC k f zs 3 0 (sackB (natAt zs 0 4) (natAt zs 4 4) (sackG zs) (sackD zs))
theorem pgetSack (k f : Int) (p : Option Addr) (n c : Nat) (zs : List Int) (w : World) (hr : Reads w p n zs) (hz : Byt zs) (hc : n ≤ c) (hn : n ≤ 200000) :
    Calls Try.prog 30 #[.agg #[.int .u8 k, .int .u8 f, .slice p n c]] w (GotS w (okSack k f zs) (natAt zs 0 4) (natAt zs 4 4) (sackG zs) (sackD zs)) := by
  have h2 := natAt2 hz 8
  obtain rfl : zs.length = n := hr.1
  exact pgetSack' k f p zs.length c zs w hr hz hc hn _ rfl _ rfl (natAt zs 8 2).toNat (sackE zs) (by omega) rfl
end Go.Proofs.Ytlihcckgnnnekaa

/-
  Stage 9: the anchor of the laws, and 'large'.
-/
namespace Go.Proofs.Ytlihcckgnnnekaa
open Go.RowKit
set_option linter.unusedVariables false
set_option linter.unusedSimpArgs false

def bodyW : List Int := sackB 5 6 [(2, 3)] [7]
theorem bodyW_len : bodyW.length = 20 := by decide
theorem bodyW_ok : okSack 3 0 bodyW = true ∧ natAt bodyW 0 4 = 5 ∧ natAt bodyW 4 4 = 6 ∧ sackG bodyW = [(2, 3)] ∧ sackD bodyW = [7] := by decide +kernel
theorem bodyW_data : okData 3 0 bodyW = false := by
  unfold okData
  rw [eqC_kind (by decide), Bool.and_false]

set_option maxRecDepth 100000 in
set_option maxHeartbeats 1600000 in
theorem works_any (w : World) : Calls Try.prog 13 #[] w fun e w' => e = .returned (.bool true) ∧ Below w.heap.size w w' := by
  obtain ⟨wa, hwa⟩ : ∃ wa, w.alloc (.cells #[.int .u16 2, .int .u16 3] 79) = wa := ⟨_, rfl⟩
  have hba : Below w.heap.size w wa := by rw [← hwa]; exact (Below.refl _ _).alloc (Nat.le_refl _) _
  have hsa : wa.heap.size = w.heap.size + 1 := by rw [← hwa]; simp
  have hAa : Arr wa w.heap.size 79 [.int .u16 2, .int .u16 3] := by rw [← hwa]; exact arr_new _ _ _
  obtain ⟨wb, hwb⟩ : ∃ wb, wa.alloc (.cells #[.int .u32 7] 22) = wb := ⟨_, rfl⟩
  have hbb : Below wa.heap.size wa wb := by rw [← hwb]; exact (Below.refl _ _).alloc (Nat.le_refl _) _
  have hsb : wb.heap.size = w.heap.size + 2 := by rw [← hwb]; simp; omega
  have hAb : Arr wb (w.heap.size + 1) 22 [.int .u32 7] := by rw [← hwb, ← hsa]; exact arr_new _ _ _
  obtain ⟨wc, hwc⟩ : ∃ wc, wb.alloc (.cells #[.int .u32 5, .int .u32 6, .slice (some ⟨w.heap.size, 0, none⟩) 1 1, .slice (some ⟨w.heap.size + 1, 0, none⟩) 1 1] 52) = wc := ⟨_, rfl⟩
  have hbc : Below wb.heap.size wb wc := by rw [← hwc]; exact (Below.refl _ _).alloc (Nat.le_refl _) _
  have hsc : wc.heap.size = w.heap.size + 3 := by rw [← hwc]; simp; omega
  have hAc : Arr wc (w.heap.size + 2) 52 [.int .u32 5, .int .u32 6, .slice (some ⟨w.heap.size, 0, none⟩) 1 1, .slice (some ⟨w.heap.size + 1, 0, none⟩) 1 1] := by rw [← hwc, ← hsb]; exact arr_new _ _ _
  have hg := (hAa.keep hbb).keep hbc
  have hd := hAb.keep hbc
  have hP : Prs wc (some ⟨w.heap.size, 0, none⟩) 1 [(2, 3)] := by
    refine ⟨rfl, by simp [InP], fun i p hp => ?_⟩
    obtain rfl : 0 = i := by cases i with | zero => rfl | succ i => simp at hp
    simp at hp
    subst hp
    exact ⟨_, 0, rfl, hg.lt, hg.cell rfl, hg.cell rfl⟩
  have hN : Nums .u32 wc (some ⟨w.heap.size + 1, 0, none⟩) 1 [7] := by
    refine ⟨rfl, by omega, by simp [Lit.wf]; decide, fun i z hz => ?_⟩
    obtain rfl : 0 = i := by cases i with | zero => rfl | succ i => simp at hz
    simp at hz
    subst hz
    exact ⟨_, 0, rfl, hd.lt, hd.cell rfl⟩
  have hput := pputSack 5 6 (some ⟨w.heap.size, 0, none⟩) 1 1 [(2, 3)] (some ⟨w.heap.size + 1, 0, none⟩) 1 1 [7] wc hP hN (by omega) (by omega) (by omega) (by omega) (by omega) (by omega)
  have HP := Lib.hid hput
  have H0 := Lib.hid (And.intro hP (And.intro hN (And.intro hAc (hba.trans ((hbb.trans (hbc.mono hbb.size)).mono hba.size)))))
  have e0 := hAc.cell (i := 0) rfl
  have e1 := hAc.cell (i := 1) rfl
  have e2 := hAc.cell (i := 2) rfl
  have e3 := hAc.cell (i := 3) rfl
  clear hba hAa hbb hAb hbc hAc hg hd hP hN hput
  go_enter Try.func13, Try.ntmps13
  go_wp2_with fail
  refine HP.out.mono ?_
  rintro e w1 ⟨a1, c1, rfl, hb1, hr1⟩
  rw [show (sackB 5 6 [(2, 3)] [7]).length = 20 from bodyW_len] at hr1 ⊢
  obtain ⟨w2, hw2⟩ : ∃ w2, w1.alloc (.cells #[.int .u8 3, .int .u8 0, .slice a1 20 c1] 28) = w2 := ⟨_, rfl⟩
  have hb2 : Below w1.heap.size w1 w2 := by rw [← hw2]; exact chunkBelow _ _ _ _
  have hA2 : Arr w2 w1.heap.size 28 [.int .u8 3, .int .u8 0, .slice a1 20 c1] := by rw [← hw2]; exact chunkBox _ _ _ _
  have hr2 := hr1.reads.below hb2
  have hb02 := hb1.trans (hb2.mono hb1.size)
  have f0 := hA2.cell (i := 0) rfl
  have f1 := hA2.cell (i := 1) rfl
  have f2 := hA2.cell (i := 2) rfl
  have hbyt : Byt bodyW := sackB_byt _ _ _ _
  have hget := pgetSack 3 0 a1 20 c1 bodyW w2 hr2 hbyt hr1.le (by omega)
  rw [bodyW_ok.1, bodyW_ok.2.1, bodyW_ok.2.2.1, bodyW_ok.2.2.2.1, bodyW_ok.2.2.2.2] at hget
  have HG := Lib.hid hget
  have H2 := Lib.hid (And.intro hb02 (And.intro hA2 (And.intro hr2 hr1.le)))
  clear hget hb1 hr1 hb2 hA2 hr2 hb02 HP e0 e1 e2 e3
  go_wp2_with fail
  refine HG.out.mono ?_
  rintro e w3 ⟨a3, c3, b3, d3, hch, hb3, hp3, hn3⟩
  obtain rfl : e = .returned (.tuple #[.agg #[.int .u32 5, .int .u32 6, .slice a3 1 c3, .slice b3 1 d3], .int .i64 0]) := by
    rcases hch with ⟨_, h⟩ | ⟨h, _⟩
    · exact h
    · cases h
  obtain ⟨w4, hw4⟩ : ∃ w4, w3.alloc (.cells #[.int .u32 5, .int .u32 6, .slice a3 1 c3, .slice b3 1 d3] 52) = w4 := ⟨_, rfl⟩
  have hb4 : Below w3.heap.size w3 w4 := by rw [← hw4]; exact (Below.refl _ _).alloc (Nat.le_refl _) _
  have hA4 : Arr w4 w3.heap.size 52 [.int .u32 5, .int .u32 6, .slice a3 1 c3, .slice b3 1 d3] := by rw [← hw4]; exact arr_new _ _ _
  have hb24 := hb3.trans (hb4.mono hb3.size)
  have hA24 := H2.out.2.1.keep hb24
  have g0 := hA24.cell (i := 0) rfl
  have g1 := hA24.cell (i := 1) rfl
  have g2 := hA24.cell (i := 2) rfl
  have hdat := pgetData 3 0 a1 20 c1 bodyW w4 (H2.out.2.2.1.below hb24) (sackB_byt _ _ _ _) H2.out.2.2.2 (by omega)
  have HD := Lib.hid hdat
  have H4 := Lib.hid (And.intro (H2.out.1.trans (hb24.mono H2.out.1.size)) (And.intro hA24 (And.intro hA4 (And.intro (hp3.below hb4 (Nat.le_refl _)) (hn3.below hb4 (Nat.le_refl _))))))
  clear hdat hb4 hA4 hb24 hA24 hb3 hp3 hn3 hch HG f0 f1 f2 hbyt
  go_wp2_with fail
  refine HD.out.mono ?_
  rintro e w5 ⟨a5, c5, hch, hb5, _⟩
  obtain rfl : e = .returned (.tuple #[dataZ, .int .i64 7]) := by
    rw [bodyW_data] at hch
    rcases hch with ⟨h, _⟩ | ⟨_, h⟩
    · cases h
    · exact h
  unfold dataZ
  have hb6 : Below w5.heap.size w5 (w5.alloc (.cells #[.int .u32 0, .int .u16 0, .int .u16 0, .bool false, .bool false, .bool false, .slice none 0 0] 26)) := (Below.refl _ _).alloc (Nat.le_refl _) _
  have hb46 := hb5.trans (hb6.mono hb5.size)
  have hc6 := H4.out.2.1.keep hb46
  have ht6 := H4.out.2.2.1.keep hb46
  have hs6 := (H0.out.2.2.1.keep H4.out.1).keep hb46
  have i0 := hc6.cell (i := 0) rfl
  have i1 := hc6.cell (i := 1) rfl
  have i2 := hc6.cell (i := 2) rfl
  have j0 := ht6.cell (i := 0) rfl
  have j1 := ht6.cell (i := 1) rfl
  have j2 := ht6.cell (i := 2) rfl
  have j3 := ht6.cell (i := 3) rfl
  have k0 := hs6.cell (i := 0) rfl
  have k1 := hs6.cell (i := 1) rfl
  have k2 := hs6.cell (i := 2) rfl
  have k3 := hs6.cell (i := 3) rfl
  have hsm := sameSack_yes 5 6 (some ⟨w.heap.size, 0, none⟩) a3 (some ⟨w.heap.size + 1, 0, none⟩) b3 1 1 c3 1 1 d3 [(2, 3)] [7] (w5.alloc (.cells #[.int .u32 0, .int .u16 0, .int .u16 0, .bool false, .bool false, .bool false, .slice none 0 0] 26))
    ((H0.out.1.below H4.out.1 (Nat.le_refl _)).below hb46 (Nat.le_refl _)) (H4.out.2.2.2.1.below hb46 (Nat.le_refl _)) ((H0.out.2.1.below H4.out.1 (Nat.le_refl _)).below hb46 (Nat.le_refl _)) (H4.out.2.2.2.2.below hb46 (Nat.le_refl _)) (by omega) (by omega)
  have HSM := Lib.hid hsm
  have HB := Lib.hid (H0.out.2.2.2.trans ((H4.out.1.trans (hb46.mono H4.out.1.size)).mono H0.out.2.2.2.size))
  clear hsm hb5 hb6 hb46 hc6 ht6 hs6 HD H4 H2 H0 g0 g1 g2 hch
  go_wp2_with fail
  refine HSM.out.mono ?_
  rintro e w7 ⟨rfl, hb7⟩
  have hbb := Lib.hid (HB.out.trans (hb7.mono HB.out.size))
  clear hb7 HSM HB
  go_wp2
  go_ret
  exact ⟨rfl, hbb.out⟩

set_option maxHeartbeats 800000 in
theorem large_any (k f : Int) (a : Option Addr) (n c : Nat) (w : World) (b : Bool) (hb : b = decide (8192 < n)) :
    Calls Try.prog 12 #[.agg #[.int .u8 k, .int .u8 f, .slice a n c]] w fun e w' => e = .returned (.bool b) ∧ Below w.heap.size w w' := by
  have hbb := chunkBelow w k f (.slice a n c)
  have ha := chunkBox w k f (.slice a n c)
  have c2 := ha.cell (i := 2) rfl
  have HB := Lib.hid hbb
  clear hbb ha
  by_cases h : 8192 < n
  · have hg : (8192 : Int) < n := by omega
    rw [show b = true by rw [hb]; simpa using h]
    clear hb h
    go_enter Try.func12, Try.ntmps12
    go_wp2
    go_ret
    exact ⟨rfl, HB.out⟩
  · have hg : ¬ (8192 : Int) < n := by omega
    rw [show b = false by rw [hb]; simpa using h]
    clear hb h
    go_enter Try.func12, Try.ntmps12
    go_wp2
    go_ret
    exact ⟨rfl, HB.out⟩
end Go.Proofs.Ytlihcckgnnnekaa

/-
  Stage 9: small things that the laws share.
-/
namespace Go.Proofs.Ytlihcckgnnnekaa
open Go.RowKit
set_option linter.unusedVariables false

theorem Chose.int {b : Bool} {k : IntKind} {v z : Int} {e : Ending} (h : Chose b (.int k v) (.int k z) e) : e = .returned (.tuple #[.int k (if b = true then v else z), .int .i64 (if b = true then 0 else 7)]) := by
  rcases h with ⟨hb, h⟩ | ⟨hb, h⟩ <;> rw [h, hb] <;> rfl
theorem eqC_refl (k f : Int) (zs : List Int) : eqC k f zs k f zs = true := eqC_mk ⟨rfl, rfl, rfl⟩
theorem rsame_yes (k f : Int) (a b : Option Addr) (n m ca cb : Nat) (zs : List Int) (w : World) (ha : Reads w a n zs) (hb : Reads w b m zs) (hz : Byt zs) (hn : n ≤ 281474976) :
    Calls Try.prog 18 #[.agg #[.int .u8 k, .int .u8 f, .slice a n ca], .agg #[.int .u8 k, .int .u8 f, .slice b m cb]] w fun e w' => e = .returned (.bool true) ∧ Below w.heap.size w w' := by
  have hm : m = n := hb.1.symm.trans ha.1
  have h := rsame_any k f k f a b n m ca cb zs zs w ha hb hz hz (by omega) (by omega)
  rw [eqC_refl] at h
  exact h
theorem okData_eq {k f : Int} {zs : List Int} (h : okData k f zs = true) : k = 0 ∧ f = dflags (bitB f 4) (bitB f 2) (bitB f 1) ∧ zs = dataB (natAt zs 0 4) (natAt zs 4 2) (natAt zs 6 2) (zs.drop 12) := by
  unfold okData at h
  rw [Bool.and_eq_true] at h
  exact eqC_true h.2
theorem okInit_eq {k f : Int} {zs : List Int} (h : okInit k f zs = true) : k = k ∧ f = 0 ∧ zs = initBk k zs (ckK k zs) := by
  unfold okInit at h
  rw [Bool.and_eq_true] at h
  exact eqC_true h.2
theorem okInit_kind {k f : Int} {zs : List Int} (h : okInit k f zs = true) : k = 1 ∨ k = 2 := by
  unfold okInit initOk at h
  simp at h
  rcases h.1.2.2.2 with h | h
  · exact .inl h
  · exact .inr h.1
theorem okSack_eq {k f : Int} {zs : List Int} (h : okSack k f zs = true) : k = 3 ∧ f = 0 ∧ zs = sackB (natAt zs 0 4) (natAt zs 4 4) (sackG zs) (sackD zs) := by
  unfold okSack at h
  rw [Bool.and_eq_true] at h
  exact eqC_true h.2
theorem okFwd_eq {k f : Int} {zs : List Int} (h : okFwd k f zs = true) : k = 192 ∧ f = 0 ∧ zs = fwdB (natAt zs 0 4) (pairsAt zs 4 ((zs.length - 4 + 3) / 4)) := eqC_true h
theorem okTime_eq {k f : Int} {zs : List Int} (h : okTime k f zs = true) : k = k ∧ f = 0 ∧ zs = timeB (timeV zs) := by
  unfold okTime at h
  rw [Bool.and_eq_true] at h
  exact eqC_true h.2
theorem okTime_kind {k f : Int} {zs : List Int} (h : okTime k f zs = true) : k = 4 ∨ k = 5 := by
  unfold okTime at h
  rw [Bool.and_eq_true] at h
  simpa using h.1
theorem okCum_eq {k f : Int} {zs : List Int} (h : okCum k f zs = true) : k = 7 ∧ f = 0 ∧ zs = enc (natAt zs 0 4) 4 := eqC_true h
theorem ckK_len (k : Int) (zs : List Int) : (ckK k zs).length ≤ zs.length := by
  unfold ckK
  split
  · exact ckOf_len _ _
  · exact Nat.zero_le _
theorem sackG_len (zs : List Int) : (sackG zs).length ≤ zs.length := by unfold sackG; rw [pairsAt_len]; omega
theorem sackD_len (zs : List Int) : (sackD zs).length ≤ zs.length := by unfold sackD; rw [numsAt_len]; omega
end Go.Proofs.Ytlihcckgnnnekaa
