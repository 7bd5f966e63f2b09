/-
  Package spans: contracts of its small functions.
-/
import Derived.Test.YtjdkbcecnlfhjaaSpSet
namespace Go.Proofs.Ytjdkbcecnlfhjaa
open Go.RowKit
set_option linter.unusedVariables false

theorem base_any (w : World) (sb bm : Nat) (base : Int) (f : Nat → Bool) (h : IsSet w sb bm base f) :
    Calls Try.prog 23 #[.pointer (some ⟨sb, 0, none⟩)] w fun e w' => e = .returned (.int .u32 base) ∧ w = w' := by
  have c0 := h.c0
  have HH := Lib.hid h
  clear h
  go_enter Try.func23, Try.ntmps23
  go_wp2
  go_ret
  exact ⟨rfl, rfl⟩
theorem base_nil (w : World) :
    Calls Try.prog 23 #[.pointer none] w fun e w' => e = .returned (.int .u32 0) ∧ w = w' := by
  go_enter Try.func23, Try.ntmps23
  go_wp2
  go_ret
  exact ⟨rfl, rfl⟩

theorem has_any (w : World) (sb bm : Nat) (base x : Int) (f : Nat → Bool) (h : IsSet w sb bm base f) (hx : 0 ≤ x ∧ x ≤ 4294967295) :
    Calls Try.prog 14 #[.pointer (some ⟨sb, 0, none⟩), .int .u32 x] w fun e w' => e = .returned (.bool (f (dist base x))) ∧ w = w' := by
  have c1 := h.c1
  have hl := h.mem.look (x := x) ⟨hx.1, by omega⟩
  generalize f (dist base x) = b at *
  have HH := Lib.hid h
  clear h
  go_enter Try.func14, Try.ntmps14
  go_wp2
  go_ret
  exact ⟨rfl, rfl⟩
theorem has_nil (w : World) (x : Int) :
    Calls Try.prog 14 #[.pointer none, .int .u32 x] w fun e w' => e = .returned (.bool false) ∧ w = w' := by
  go_enter Try.func14, Try.ntmps14
  go_wp2
  go_ret
  exact ⟨rfl, rfl⟩

theorem count_any (w : World) (sb bm : Nat) (base : Int) (f : Nat → Bool) (h : IsSet w sb bm base f) :
    Calls Try.prog 24 #[.pointer (some ⟨sb, 0, none⟩)] w fun e w' => e = .returned (.int .i64 (cnt f)) ∧ w = w' := by
  have c1 := h.c1
  have hl := fun ty => h.mem.len ty
  have HH := Lib.hid h
  clear h
  go_enter Try.func24, Try.ntmps24
  go_wp2
  go_ret
  exact ⟨rfl, rfl⟩
theorem count_nil (w : World) :
    Calls Try.prog 24 #[.pointer none] w fun e w' => e = .returned (.int .i64 0) ∧ w = w' := by
  go_enter Try.func24, Try.ntmps24
  go_wp2
  go_ret
  exact ⟨rfl, rfl⟩

theorem accepts_any (w : World) (sb bm : Nat) (base x : Int) (f : Nat → Bool) (h : IsSet w sb bm base f) (hx : 0 ≤ x ∧ x ≤ 4294967295) :
    Calls Try.prog 30 #[.pointer (some ⟨sb, 0, none⟩), .int .u32 x] w fun e w' => e = .returned (.bool (near (dist base x))) ∧ w = w' := by
  have c0 := h.c0
  have hi := in_any x base w hx h.in
  generalize near (dist base x) = b at *
  have HH := Lib.hid h
  clear h
  go_enter Try.func30, Try.ntmps30
  go_wp2_with fail
  refine hi.mono ?_
  rintro e w' ⟨rfl, rfl⟩
  go_wp2
  go_ret
  exact ⟨rfl, rfl⟩
theorem accepts_nil (w : World) (x : Int) :
    Calls Try.prog 30 #[.pointer none, .int .u32 x] w fun e w' => e = .returned (.bool false) ∧ w = w' := by
  go_enter Try.func30, Try.ntmps30
  go_wp2
  go_ret
  exact ⟨rfl, rfl⟩

theorem new_any (w : World) (base : Int) (hb : 0 ≤ base ∧ base < 4294967296) :
    Calls Try.prog 11 #[.int .u32 base] w fun e w' => e = .returned (.pointer (some ⟨w.heap.size + 1, 0, none⟩)) ∧ IsSet w' (w.heap.size + 1) w.heap.size base none0 ∧ Turn [] w w' := by
  have hmm := @run_makeMap Try.prog
  go_enter Try.func11, Try.ntmps11
  go_wp2
  go_ret
  refine ⟨by simp, ⟨hb.1, hb.2, Sup.none0, by omega, ?_, ?_⟩, ((Turn.refl _ _).alloc _).alloc _⟩
  · have e : w.heap.size + 1 = (w.alloc (.map #[] 0)).heap.size := by simp
    rw [e]
    exact heap_alloc_new _ _
  · refine (IsMem.made w base).turn (bs := []) ((Turn.refl _ _).alloc _) (by simp)

theorem add_no (w : World) (sb bm : Nat) (base x : Int) (f : Nat → Bool) (h : IsSet w sb bm base f) (hx : 0 ≤ x ∧ x ≤ 4294967295) (hn : (near (dist base x) && !f (dist base x)) = false) :
    Calls Try.prog 12 #[.pointer (some ⟨sb, 0, none⟩), .int .u32 x] w fun e w' => e = .returned (.bool false) ∧ w = w' := by
  have ha := accepts_any w sb bm base x f h hx
  have hh := has_any w sb bm base x f h hx
  have HH := Lib.hid h
  clear h
  cases e1 : f (dist base x)
  · have e2 : near (dist base x) = false := by simpa [e1] using hn
    rw [e1] at hh
    rw [e2] at ha
    clear hn e1 e2
    go_enter Try.func12, Try.ntmps12
    go_wp2_with fail
    refine hh.mono ?_
    rintro e w' ⟨rfl, rfl⟩
    go_wp2_with fail
    refine ha.mono ?_
    rintro e w' ⟨rfl, rfl⟩
    go_wp2
    go_ret
    exact ⟨rfl, rfl⟩
  · rw [e1] at hh
    clear hn e1
    go_enter Try.func12, Try.ntmps12
    go_wp2_with fail
    refine hh.mono ?_
    rintro e w' ⟨rfl, rfl⟩
    go_wp2
    go_ret
    exact ⟨rfl, rfl⟩
theorem add_yes (w : World) (sb bm : Nat) (base x : Int) (f : Nat → Bool) (h : IsSet w sb bm base f) (hx : 0 ≤ x ∧ x ≤ 4294967295) (hn : (near (dist base x) && !f (dist base x)) = true) :
    Calls Try.prog 12 #[.pointer (some ⟨sb, 0, none⟩), .int .u32 x] w fun e w' => e = .returned (.bool true) ∧ IsSet w' sb bm base (ins f (dist base x)) ∧ Turn [sb, bm] w w' := by
  have ha := accepts_any w sb bm base x f h hx
  have hh := has_any w sb bm base x f h hx
  have hn' : near (dist base x) = true ∧ f (dist base x) = false := by simpa using hn
  have hd := (near_iff _).1 hn'.1
  obtain ⟨w1, hput, hm1, ht1⟩ := h.mem.put (x := x) ⟨hx.1, by omega⟩ hn'.2 hd.1 hd.2 ⟨h.lo, h.hi⟩
  have hs1 : IsSet w1 sb bm base (ins f (dist base x)) := ⟨h.lo, h.hi, h.sup.ins hd.1 hd.2, h.ne, (ht1.block sb h.lt (by have := h.ne; simpa using this)).trans h.blk, hm1⟩
  have HS := Lib.hid hs1
  have HT := Lib.hid ht1
  have c1 := h.c1
  rw [hn'.1] at ha
  rw [hn'.2] at hh
  clear h hn hn' hd hm1 ht1 hs1
  go_enter Try.func12, Try.ntmps12
  go_wp2_with fail
  refine hh.mono ?_
  rintro e w' ⟨rfl, rfl⟩
  go_wp2_with fail
  refine ha.mono ?_
  rintro e w' ⟨rfl, rfl⟩
  go_wp2
  go_ret
  exact ⟨rfl, HS.out, HT.out.mono (by simp)⟩
theorem add_nil (w : World) (x : Int) :
    Calls Try.prog 12 #[.pointer none, .int .u32 x] w fun e w' => e = .returned (.bool false) ∧ w = w' := by
  have ha := accepts_nil w x
  have hh := has_nil w x
  go_enter Try.func12, Try.ntmps12
  go_wp2_with fail
  refine hh.mono ?_
  rintro e w' ⟨rfl, rfl⟩
  go_wp2_with fail
  refine ha.mono ?_
  rintro e w' ⟨rfl, rfl⟩
  go_wp2
  go_ret
  exact ⟨rfl, rfl⟩

/-- What Add does, in one. -/
def addF (f : Nat → Bool) (d : Nat) : Nat → Bool := if (near d && !f d) = true then ins f d else f
theorem add_any (w : World) (sb bm : Nat) (base x : Int) (f : Nat → Bool) (h : IsSet w sb bm base f) (hx : 0 ≤ x ∧ x ≤ 4294967295) :
    Calls Try.prog 12 #[.pointer (some ⟨sb, 0, none⟩), .int .u32 x] w fun e w' => e = .returned (.bool (near (dist base x) && !f (dist base x))) ∧ IsSet w' sb bm base (addF f (dist base x)) ∧ Turn [sb, bm] w w' := by
  cases hn : near (dist base x) && !f (dist base x)
  · refine (add_no w sb bm base x f h hx hn).mono ?_
    rintro e w' ⟨rfl, rfl⟩
    exact ⟨rfl, by unfold addF; rw [hn]; exact h, Turn.refl _ _⟩
  · refine (add_yes w sb bm base x f h hx hn).mono ?_
    rintro e w' ⟨rfl, h1, h2⟩
    exact ⟨rfl, by unfold addF; rw [hn]; exact h1, h2⟩

theorem step_any (w : World) (sb bm : Nat) (base : Int) (f : Nat → Bool) (h : IsSet w sb bm base f) :
    Calls Try.prog 32 #[.pointer (some ⟨sb, 0, none⟩)] w fun e w' => e = .returned (.tuple #[]) ∧ IsSet w' sb bm ((base + 1) % 4294967296) (shf 1 f) ∧ Turn [sb, bm] w w' := by
  have c0 := h.c0
  have c1 := h.c1
  have f0 := h.f0 0
  have hin := h.in
  have hT : Turn [sb] w (w.setCell ⟨sb, 0, none⟩ (.int .u32 ((base + 1) % 4294967296))) := (Turn.refl [sb] w).setCell (p := ⟨sb, 0, none⟩) (by simp) _
  have hB : (w.setCell ⟨sb, 0, none⟩ (.int .u32 ((base + 1) % 4294967296))).heap[sb]? = some (.cells #[.int .u32 ((base + 1) % 4294967296), .map (some bm)] 54 (0, 0)) := by
    have := h.blk
    simp [World.setCell, Array.getElem?_modify, this]
  have hM := h.mem.turn hT (by have := h.ne; simp; omega)
  have HS := Lib.hid h
  clear h
  have HT := Lib.hid hT
  clear hT
  go_enter Try.func32, Try.ntmps32
  go_wp2
  generalize w.setCell ⟨sb, 0, none⟩ (.int .u32 ((base + 1) % 4294967296)) = W at *
  have d0 : W.cell? ⟨sb, 0, none⟩ = some (.int .u32 ((base + 1) % 4294967296)) := by rw [cell_of_row W sb 0 _ _ (0, 0) hB]; rfl
  have d1 : W.cell? ⟨sb, 1, none⟩ = some (.map (some bm)) := by rw [cell_of_row W sb 1 _ _ (0, 0) hB]; rfl
  clear c0 c1 f0
  obtain ⟨w1, hd, hm1, ht1⟩ := (hM.turn (bs := []) (Turn.refl [] W).drew (by simp)).del HS.out.sup ⟨HS.out.lo, HS.out.hi⟩
  have HB := Lib.hid hB
  have HM1 := Lib.hid hm1
  have HT1 := Lib.hid ht1
  clear hB hM hm1 ht1
  go_still_tail 8, (by kernel_rfl)
  change wpList _ _ _ _ _ W.drew
  go_wp2
  go_end0
  refine ⟨rfl, ⟨by omega, by omega, HS.out.sup.shf 1, HS.out.ne, ?_, HM1.out⟩, (HT.out.mono (by simp)).trans (((Turn.refl [] W).drew.mono (by simp)).trans (HT1.out.mono (by simp)))⟩
  rw [HT1.out.block sb (Array.getElem?_eq_some_iff.1 HB.out).1 (by have := HS.out.ne; simpa using this)]
  exact HB.out
end Go.Proofs.Ytjdkbcecnlfhjaa
