/-
  Package bodies: same; the reference of layer 8: Same.
-/
import Derived.Test.YtlihcckgnnnekaaBd1
namespace Go.Proofs.Ytlihcckgnnnekaa
open Go.RowKit
set_option linter.unusedVariables false

set_option maxRecDepth 4000 in
set_option maxHeartbeats 800000 in
theorem psame_any (k f k' f' : Int) (a b : Option Addr) (n m ca cb : Nat) (zs ys : List Int) (w : World) (ha : Reads w a n zs) (hb : Reads w b m ys) (za : Byt zs) (zb : Byt ys) (hn : n ≤ 281474976710656) (hm : m ≤ 281474976710656) :
    Calls Try.prog 75 #[.agg #[.int .u8 k, .int .u8 f, .slice a n ca], .agg #[.int .u8 k', .int .u8 f', .slice b m cb]] w fun e w' => e = .returned (.bool (eqC k f zs k' f' ys)) ∧ Below w.heap.size w w' := by
  obtain ⟨w0, hw0⟩ : ∃ w0, w.alloc (.cells #[.int .u8 k, .int .u8 f, .slice a n ca] 28) = w0 := ⟨_, rfl⟩
  have hb0 : Below w.heap.size w w0 := by rw [← hw0]; exact (Below.refl _ _).alloc (Nat.le_refl _) _
  have hs0 : w0.heap.size = w.heap.size + 1 := by rw [← hw0]; simp
  have ha0 : Arr w0 w.heap.size 28 [.int .u8 k, .int .u8 f, .slice a n ca] := by rw [← hw0]; exact arr_new _ _ _
  obtain ⟨w1, hw1⟩ : ∃ w1, w0.alloc (.cells #[.int .u8 k', .int .u8 f', .slice b m cb] 28) = w1 := ⟨_, rfl⟩
  have hb1 : Below w0.heap.size w0 w1 := by rw [← hw1]; exact (Below.refl _ _).alloc (Nat.le_refl _) _
  have hs1 : w1.heap.size = w0.heap.size + 1 := by rw [← hw1]; simp
  have hk1 : Arr w1 w0.heap.size 28 [.int .u8 k', .int .u8 f', .slice b m cb] := by rw [← hw1]; exact arr_new _ _ _
  have ha1 := ha0.keep hb1
  have c0 := ha1.cell (i := 0) rfl
  have c1 := ha1.cell (i := 1) rfl
  have c2 := ha1.cell (i := 2) rfl
  have d0 := hk1.cell (i := 0) rfl
  have d1 := hk1.cell (i := 1) rfl
  have d2 := hk1.cell (i := 2) rfl
  have heq := beq_any a b n ca cb m zs ys w1 ((ha.below hb0).below hb1) ((hb.below hb0).below hb1) za zb
  have HE := Lib.hid heq
  have HB := Lib.hid (hb0.trans (hb1.mono hb0.size))
  have HS := Lib.hid (And.intro hs0 hs1)
  clear ha hb za zb heq hb0 hb1 hs0 hs1 ha0 ha1 hk1
  by_cases hk : k = k'
  · subst hk
    by_cases hf : f = f'
    · subst hf
      have e : eqC k f zs k f ys = decide (zs = ys) := by unfold eqC; simp
      rw [e]
      clear e
      generalize decide (zs = ys) = bb at HE ⊢
      go_enter Try.func75, Try.ntmps75
      go_wp2_with fail
      refine HE.out.mono ?_
      rintro e w2 ⟨rfl, rfl⟩
      have hb2 := Below.refl w1.heap.size w1
      have hB := Lib.hid (HB.out.trans (hb2.mono HB.out.size))
      clear hb2 HE
      go_wp2
      go_ret
      exact ⟨rfl, hB.out⟩
    · have e : eqC k f zs k f' ys = false := by unfold eqC; simp [hf]
      rw [e]
      have ef : (f == f') = false := by simpa using hf
      clear e HE
      go_enter Try.func75, Try.ntmps75
      go_wp2
      go_ret
      exact ⟨rfl, HB.out⟩
  · have e : eqC k f zs k' f' ys = false := by unfold eqC; simp [hk]
    rw [e]
    have ek : (k == k') = false := by simpa using hk
    clear e HE
    go_enter Try.func75, Try.ntmps75
    go_wp2
    go_ret
    exact ⟨rfl, HB.out⟩

set_option maxRecDepth 4000 in
set_option maxHeartbeats 800000 in
theorem rsame_any (k f k' f' : Int) (a b : Option Addr) (n m ca cb : Nat) (zs ys : List Int) (w : World) (ha : Reads w a n zs) (hb : Reads w b m ys) (za : Byt zs) (zb : Byt ys) (hn : n ≤ 281474976710656) (hm : m ≤ 281474976710656) :
    Calls Try.prog 18 #[.agg #[.int .u8 k, .int .u8 f, .slice a n ca], .agg #[.int .u8 k', .int .u8 f', .slice b m cb]] w fun e w' => e = .returned (.bool (eqC k f zs k' f' ys)) ∧ Below w.heap.size w w' := by
  obtain ⟨w0, hw0⟩ : ∃ w0, w.alloc (.cells #[.int .u8 k, .int .u8 f, .slice a n ca] 28) = w0 := ⟨_, rfl⟩
  have hb0 : Below w.heap.size w w0 := by rw [← hw0]; exact (Below.refl _ _).alloc (Nat.le_refl _) _
  have hs0 : w0.heap.size = w.heap.size + 1 := by rw [← hw0]; simp
  have ha0 : Arr w0 w.heap.size 28 [.int .u8 k, .int .u8 f, .slice a n ca] := by rw [← hw0]; exact arr_new _ _ _
  obtain ⟨w1, hw1⟩ : ∃ w1, w0.alloc (.cells #[.int .u8 k', .int .u8 f', .slice b m cb] 28) = w1 := ⟨_, rfl⟩
  have hb1 : Below w0.heap.size w0 w1 := by rw [← hw1]; exact (Below.refl _ _).alloc (Nat.le_refl _) _
  have hs1 : w1.heap.size = w0.heap.size + 1 := by rw [← hw1]; simp
  have hk1 : Arr w1 w0.heap.size 28 [.int .u8 k', .int .u8 f', .slice b m cb] := by rw [← hw1]; exact arr_new _ _ _
  have ha1 := ha0.keep hb1
  have c0 := ha1.cell (i := 0) rfl
  have c1 := ha1.cell (i := 1) rfl
  have c2 := ha1.cell (i := 2) rfl
  have d0 := hk1.cell (i := 0) rfl
  have d1 := hk1.cell (i := 1) rfl
  have d2 := hk1.cell (i := 2) rfl
  have heq := eqBytes_any a b n ca cb m zs ys w1 ((ha.below hb0).below hb1) ((hb.below hb0).below hb1) za zb hn hm
  have HE := Lib.hid heq
  have HB := Lib.hid (hb0.trans (hb1.mono hb0.size))
  have HS := Lib.hid (And.intro hs0 hs1)
  clear ha hb za zb heq hb0 hb1 hs0 hs1 ha0 ha1 hk1
  by_cases hk : k = k'
  · subst hk
    by_cases hf : f = f'
    · subst hf
      have e : eqC k f zs k f ys = decide (zs = ys) := by unfold eqC; simp
      rw [e]
      clear e
      generalize decide (zs = ys) = bb at HE ⊢
      go_enter Try.func18, Try.ntmps18
      go_wp2_with fail
      refine HE.out.mono ?_
      rintro e w2 ⟨rfl, hb2, _⟩
      have hB := Lib.hid (HB.out.trans (hb2.mono HB.out.size))
      clear hb2 HE
      go_wp2
      go_ret
      exact ⟨rfl, hB.out⟩
    · have e : eqC k f zs k f' ys = false := by unfold eqC; simp [hf]
      rw [e]
      have ef : (f == f') = false := by simpa using hf
      clear e HE
      go_enter Try.func18, Try.ntmps18
      go_wp2
      go_ret
      exact ⟨rfl, HB.out⟩
  · have e : eqC k f zs k' f' ys = false := by unfold eqC; simp [hk]
    rw [e]
    have ek : (k == k') = false := by simpa using hk
    clear e HE
    go_enter Try.func18, Try.ntmps18
    go_wp2
    go_ret
    exact ⟨rfl, HB.out⟩

end Go.Proofs.Ytlihcckgnnnekaa
