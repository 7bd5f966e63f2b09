/-
  Stage 9: GetSack, the reference's. Written by gensr.py.
-/
import Derived.Test.YtlihcckgnnnekaaBdGetS
namespace Go.Proofs.Ytlihcckgnnnekaa
open Go.RowKit
set_option linter.unusedVariables false
set_option linter.unusedSimpArgs false
set_option linter.unnecessarySimpa false

set_option maxRecDepth 100000 in
set_option maxHeartbeats 3200000 in
theorem rgetSack_few (k f : Int) (p : Option Addr) (n c : Nat) (zs : List Int) (w : World) (hr : Reads w p n zs) (hz : Byt zs) (hc : n ≤ c) (hn : n ≤ 200000) (hm : n < 12) :
    Calls Try.prog 31 #[.agg #[.int .u8 k, .int .u8 f, .slice p n c]] w fun e w' => e = .returned (.tuple #[.agg #[.int .u32 0, .int .u32 0, .slice none 0 0, .slice none 0 0], .int .i64 7]) ∧ Below w.heap.size w w' := by
  obtain ⟨wa, hwa⟩ : ∃ wa, w.alloc (.cells #[.int .u8 k, .int .u8 f, .slice p n c] 28) = wa := ⟨_, rfl⟩
  have hba : Below w.heap.size w wa := by rw [← hwa]; exact chunkBelow w k f _
  have hsa : wa.heap.size = w.heap.size + 1 := by rw [← hwa]; simp
  have hca : Arr wa w.heap.size 28 [.int .u8 k, .int .u8 f, .slice p n c] := by rw [← hwa]; exact chunkBox w k f _
  obtain ⟨wE, hwE⟩ : ∃ wE, wa.alloc (.cells #[.int .u32 0, .int .u32 0, .slice none 0 0, .slice none 0 0] 52) = wE := ⟨_, rfl⟩
  have hbE0 : Below wa.heap.size wa wE := by rw [← hwE]; exact (Below.refl _ _).alloc (Nat.le_refl _) _
  have hsE : wE.heap.size = w.heap.size + 2 := by rw [← hwE]; simp; omega
  have hzE : Arr wE (w.heap.size + 1) 52 [.int .u32 0, .int .u32 0, .slice none 0 0, .slice none 0 0] := by rw [← hwE, ← hsa]; exact arr_new _ _ _
  have hcE := hca.keep hbE0
  have hbE := hba.trans (hbE0.mono hba.size)
  have hr2 := hr.below hbE
  have hmi : (n : Int) < 12 := by omega
  clear hm
  have cc0 := hcE.cell (i := 0) rfl
  have cc1 := hcE.cell (i := 1) rfl
  have cc2 := hcE.cell (i := 2) rfl
  have fs0 := hzE.free 0
  have fs1 := hzE.free 1
  have fs2 := hzE.free 2
  have fs3 := hzE.free 3
  have yy0 := hzE.cell (i := 0) rfl
  have yy1 := hzE.cell (i := 1) rfl
  have yy2 := hzE.cell (i := 2) rfl
  have yy3 := hzE.cell (i := 3) rfl
  obtain ⟨w8, hw8⟩ : ∃ x, ((((wE.setCell ⟨(w.heap.size + 1), 0, none⟩ (.int .u32 0)).setCell ⟨(w.heap.size + 1), 1, none⟩ (.int .u32 0)).setCell ⟨(w.heap.size + 1), 2, none⟩ (.slice none 0 0)).setCell ⟨(w.heap.size + 1), 3, none⟩ (.slice none 0 0)) = x := ⟨_, rfl⟩
  have hA4 : Arr _ (w.heap.size + 1) 52 [.int .u32 0, .int .u32 0, .slice none 0 0, .slice none 0 0] := ((((hzE.set 0 (.int .u32 0)).set 1 (.int .u32 0)).set 2 (.slice none 0 0)).set 3 (.slice none 0 0))
  have hB4 := ((((hbE.setCell (p := ⟨(w.heap.size + 1), 0, none⟩) (by simp) (.int .u32 0)).setCell (p := ⟨(w.heap.size + 1), 1, none⟩) (by simp) (.int .u32 0)).setCell (p := ⟨(w.heap.size + 1), 2, none⟩) (by simp) (.slice none 0 0)).setCell (p := ⟨(w.heap.size + 1), 3, none⟩) (by simp) (.slice none 0 0))
  rw [hw8] at hA4 hB4
  have zz0 := hA4.cell (i := 0) rfl
  have zz1 := hA4.cell (i := 1) rfl
  have zz2 := hA4.cell (i := 2) rfl
  have zz3 := hA4.cell (i := 3) rfl
  have HE := Lib.hid hB4
  clear hba hca hbE0 hzE hcE hbE hr hr2 hA4 hB4
  go_enter Try.func31, Try.ntmps31
  go_wp2
  exact bodyPost_ret (by simp [results, Try.results31, go_sem, zz0, zz1, zz2, zz3] <;> rfl) rfl ⟨rfl, HE.out⟩

/-- What the operations of the drawn region leave behind. -/
def GSr (w wE : World) (k f x0 x1 : Int) (p : Option Addr) (n c : Nat) (i : Nat) (v : Value) (W : World) : Prop := match i with | 0 => v = .pointer (some ⟨w.heap.size, 2, none⟩) | 1 => v = .slice p n c | 2 => v = .int .u64 x0 | 3 => v = .int .u32 x0 | 4 => v = .pointer (some ⟨w.heap.size, 2, none⟩) | 5 => v = .slice p n c | 6 => v = .int .u64 x1 | 7 => v = .int .u32 x1 | 8 => v = .agg #[.int .u32 x0, .int .u32 x1, .slice none 0 0, .slice none 0 0] | 9 => ∃ gn, v = .pointer (some ⟨gn, 0, none⟩) ∧ wE.heap.size ≤ gn ∧ Arr W gn 52 [.int .u32 0, .int .u32 0, .slice none 0 0, .slice none 0 0] | _ => True
theorem GSr_mono {w wE : World} {k f x0 x1 : Int} {p : Option Addr} {n c : Nat} {W W' : World} (hb : Below W.heap.size W W') (jo : Nat) (xo : Value) (h : GSr w wE k f x0 x1 p n c jo xo W) : GSr w wE k f x0 x1 p n c jo xo W' := by
  unfold GSr at h ⊢
  split at h <;> try exact h
  · obtain ⟨gn, e0, h0_0, h0_1⟩ := h
    exact ⟨gn, e0, h0_0, h0_1.keep hb⟩

/-- What the operations of the drawn region leave behind. -/
def GSu (w wr : World) (g base : Nat) (px py x0 x1 : Int) (p : Option Addr) (n c j : Nat) (a2 : Option Addr) (c2 : Nat) (zs : List Int) (i : Nat) (v : Value) (W : World) : Prop := match i with | 0 => v = .pointer (some ⟨g, 2, none⟩) | 1 => v = .slice a2 j c2 | 2 => v = .pointer (some ⟨w.heap.size, 2, none⟩) | 3 => v = .slice p n c | 4 => v = .int .i64 (j : Int) | 5 => v = .int .i64 (4 * (j : Int)) | 6 => v = .int .i64 (12 + 4 * (j : Int)) | 7 => v = .int .u64 px | 8 => v = .int .u16 px | 9 => v = .pointer (some ⟨w.heap.size, 2, none⟩) | 10 => v = .slice p n c | 11 => v = .int .i64 (j : Int) | 12 => v = .int .i64 (4 * (j : Int)) | 13 => v = .int .i64 (14 + 4 * (j : Int)) | 14 => v = .int .u64 py | 15 => v = .int .u16 py | 16 => v = .agg #[.int .u16 px, .int .u16 py] | 17 => ∃ gs, v = .slice (some ⟨gs, 0, none⟩) 1 1 ∧ wr.heap.size ≤ gs ∧ Arr W gs 79 [.int .u16 px, .int .u16 py] | 18 => ∃ a9 c9, v = .slice a9 (j + 1) c9 ∧ RowP 79 base W a9 (j + 1) c9 (pairsAt zs 12 (j + 1)) | 19 => v = .pointer (some ⟨g, 2, none⟩) | _ => True
theorem GSu_mono {w wr : World} {g base : Nat} {px py x0 x1 : Int} {p : Option Addr} {n c j : Nat} {a2 : Option Addr} {c2 : Nat} {zs : List Int} {W W' : World} (hb : Below W.heap.size W W') (jo : Nat) (xo : Value) (h : GSu w wr g base px py x0 x1 p n c j a2 c2 zs jo xo W) : GSu w wr g base px py x0 x1 p n c j a2 c2 zs jo xo W' := by
  unfold GSu at h ⊢
  split at h <;> try exact h
  · obtain ⟨gs, e0, h0_0, h0_1⟩ := h
    exact ⟨gs, e0, h0_0, h0_1.keep hb⟩
  · obtain ⟨a9, c9, e0, h0_0⟩ := h
    exact ⟨a9, c9, e0, owns_keep h0_0 hb⟩
theorem GSu_app {w wr : World} {g base : Nat} {px py x0 x1 : Int} {p : Option Addr} {n c j : Nat} {a2 : Option Addr} {c2 : Nat} {zs : List Int} {W W9 : World} {jj : Nat} {xo : Value} (hrb : ∀ k, (Value.slice a2 j c2).ownBlock = some k → k < wr.heap.size) (hg : W.grownBy W9 (Value.slice a2 j c2).ownBlock) (hj : jj ≠ 18) (h : GSu w wr g base px py x0 x1 p n c j a2 c2 zs jj xo W) : GSu w wr g base px py x0 x1 p n c j a2 c2 zs jj xo W9 := by
  unfold GSu at h ⊢
  split at h <;> first | exact h | exact absurd rfl hj | skip
  obtain ⟨gs, e0, h1, h2⟩ := h
  exact ⟨gs, e0, h1, (hg.block gs h2.lt (fun e => by have := hrb gs e.symm; omega)).trans h2⟩

/-- What the operations of the drawn region leave behind. -/
def GSv (w wr : World) (g base : Nat) (px x0 x1 : Int) (p : Option Addr) (n c m : Nat) (a1 : Option Addr) (c1 : Nat) (gs1 : List (Int × Int)) (j : Nat) (a2 : Option Addr) (c2 : Nat) (zs : List Int) (i : Nat) (v : Value) (W : World) : Prop := match i with | 0 => v = .pointer (some ⟨g, 3, none⟩) | 1 => v = .slice a2 j c2 | 2 => v = .pointer (some ⟨w.heap.size, 2, none⟩) | 3 => v = .slice p n c | 4 => v = .int .i64 (m : Int) | 5 => v = .int .i64 (4 * (m : Int)) | 6 => v = .int .i64 (12 + 4 * (m : Int)) | 7 => v = .int .i64 (j : Int) | 8 => v = .int .i64 (4 * (j : Int)) | 9 => v = .int .i64 (12 + 4 * (m : Int) + 4 * (j : Int)) | 10 => v = .int .u64 px | 11 => v = .int .u32 px | 12 => ∃ gs, v = .slice (some ⟨gs, 0, none⟩) 1 1 ∧ wr.heap.size ≤ gs ∧ Arr W gs 22 [.int .u32 px] | 13 => ∃ a9 c9, v = .slice a9 (j + 1) c9 ∧ Row32 base W a9 (j + 1) c9 (numsAt zs (12 + 4 * m) (j + 1)) ∧ RowP 79 base W a1 m c1 gs1 | 14 => v = .pointer (some ⟨g, 3, none⟩) | _ => True
theorem GSv_mono {w wr : World} {g base : Nat} {px x0 x1 : Int} {p : Option Addr} {n c m : Nat} {a1 : Option Addr} {c1 : Nat} {gs1 : List (Int × Int)} {j : Nat} {a2 : Option Addr} {c2 : Nat} {zs : List Int} {W W' : World} (hb : Below W.heap.size W W') (jo : Nat) (xo : Value) (h : GSv w wr g base px x0 x1 p n c m a1 c1 gs1 j a2 c2 zs jo xo W) : GSv w wr g base px x0 x1 p n c m a1 c1 gs1 j a2 c2 zs jo xo W' := by
  unfold GSv at h ⊢
  split at h <;> try exact h
  · obtain ⟨gs, e0, h0_0, h0_1⟩ := h
    exact ⟨gs, e0, h0_0, h0_1.keep hb⟩
  · obtain ⟨a9, c9, e0, h0_0, h0_1⟩ := h
    exact ⟨a9, c9, e0, owns_keep h0_0 hb, owns_keep h0_1 hb⟩
theorem GSv_app {w wr : World} {g base : Nat} {px x0 x1 : Int} {p : Option Addr} {n c m : Nat} {a1 : Option Addr} {c1 : Nat} {gs1 : List (Int × Int)} {j : Nat} {a2 : Option Addr} {c2 : Nat} {zs : List Int} {W W9 : World} {jj : Nat} {xo : Value} (hrb : ∀ k, (Value.slice a2 j c2).ownBlock = some k → k < wr.heap.size) (hg : W.grownBy W9 (Value.slice a2 j c2).ownBlock) (hj : jj ≠ 13) (h : GSv w wr g base px x0 x1 p n c m a1 c1 gs1 j a2 c2 zs jj xo W) : GSv w wr g base px x0 x1 p n c m a1 c1 gs1 j a2 c2 zs jj xo W9 := by
  unfold GSv at h ⊢
  split at h <;> first | exact h | exact absurd rfl hj | skip
  obtain ⟨gs, e0, h1, h2⟩ := h
  exact ⟨gs, e0, h1, (hg.block gs h2.lt (fun e => by have := hrb gs e.symm; omega)).trans h2⟩

/-- What the operations of the drawn region leave behind. -/
def GSwtrue (w wr : World) (g : Nat) (k f x0 x1 : Int) (p : Option Addr) (n c : Nat) (a1 : Option Addr) (m c1 : Nat) (a2 : Option Addr) (q2 c2 : Nat) (gs1 : List (Int × Int)) (ds1 : List Int) (bb : Bool) (i : Nat) (v : Value) (W : World) : Prop := match i with | 0 => v = .pointer (some ⟨g, 2, none⟩) | 1 => v = .slice a1 m c1 | 2 => v = .bool true | 3 => v = .bool false | 4 => v = .bool false | 5 => v = .agg #[.int .u32 x0, .int .u32 x1, .slice a1 m c1, .slice a2 q2 c2] | 6 => ∃ b1 e1, v = .agg #[.int .u8 3, .int .u8 0, .slice b1 (sackB x0 x1 gs1 ds1).length e1] ∧ Reads W b1 (sackB x0 x1 gs1 ds1).length (sackB x0 x1 gs1 ds1) | 7 => v = .agg #[.int .u8 k, .int .u8 f, .slice p n c] | 8 => v = .bool bb | 9 => v = .bool (!bb) | 10 => v = .bool (!bb) | _ => True
theorem GSwtrue_mono {w wr : World} {g : Nat} {k f x0 x1 : Int} {p : Option Addr} {n c : Nat} {a1 : Option Addr} {m c1 : Nat} {a2 : Option Addr} {q2 c2 : Nat} {gs1 : List (Int × Int)} {ds1 : List Int} {bb : Bool} {W W' : World} (hb : Below W.heap.size W W') (jo : Nat) (xo : Value) (h : GSwtrue w wr g k f x0 x1 p n c a1 m c1 a2 q2 c2 gs1 ds1 bb jo xo W) : GSwtrue w wr g k f x0 x1 p n c a1 m c1 a2 q2 c2 gs1 ds1 bb jo xo W' := by
  unfold GSwtrue at h ⊢
  split at h <;> try exact h
  · obtain ⟨b1, e1, e0, h0_0⟩ := h
    exact ⟨b1, e1, e0, h0_0.below hb⟩

/-- What the operations of the drawn region leave behind. -/
def GSwfalse (w wr : World) (g : Nat) (k f x0 x1 : Int) (p : Option Addr) (n c : Nat) (a1 : Option Addr) (m c1 : Nat) (a2 : Option Addr) (q2 c2 : Nat) (gs1 : List (Int × Int)) (ds1 : List Int) (bb : Bool) (i : Nat) (v : Value) (W : World) : Prop := match i with | 0 => v = .pointer (some ⟨g, 2, none⟩) | 1 => v = .slice a1 m c1 | 2 => v = .bool false | 3 => v = .bool true | 4 => v = .bool true | 5 => v = undef | 6 => v = undef | 7 => v = undef | 8 => v = undef | 9 => v = undef | 10 => v = .bool true | _ => True
theorem GSwfalse_mono {w wr : World} {g : Nat} {k f x0 x1 : Int} {p : Option Addr} {n c : Nat} {a1 : Option Addr} {m c1 : Nat} {a2 : Option Addr} {q2 c2 : Nat} {gs1 : List (Int × Int)} {ds1 : List Int} {bb : Bool} {W W' : World} (hb : Below W.heap.size W W') (jo : Nat) (xo : Value) (h : GSwfalse w wr g k f x0 x1 p n c a1 m c1 a2 q2 c2 gs1 ds1 bb jo xo W) : GSwfalse w wr g k f x0 x1 p n c a1 m c1 a2 q2 c2 gs1 ds1 bb jo xo W' := by
  unfold GSwfalse at h ⊢
  split at h <;> try exact h
theorem GSwfalse_any {w wr : World} {g : Nat} {k f x0 x1 : Int} {p : Option Addr} {n c : Nat} {a1 : Option Addr} {m c1 : Nat} {a2 : Option Addr} {q2 c2 : Nat} {gs1 : List (Int × Int)} {ds1 : List Int} {bb : Bool} {W W' : World} (jo : Nat) (xo : Value) (h : GSwfalse w wr g k f x0 x1 p n c a1 m c1 a2 q2 c2 gs1 ds1 bb jo xo W) : GSwfalse w wr g k f x0 x1 p n c a1 m c1 a2 q2 c2 gs1 ds1 bb jo xo W' := by
  unfold GSwfalse at h ⊢
  split at h <;> exact h

set_option maxRecDepth 100000 in
set_option maxHeartbeats 3200000 in
theorem rgetSack_odd (k f : Int) (p : Option Addr) (n c : Nat) (zs : List Int) (w : World) (hr : Reads w p n zs) (hz : Byt zs) (hc : n ≤ c) (hn : n ≤ 200000) (x0 : Int) (hxx0 : natAt zs 0 4 = x0) (x1 : Int) (hxx1 : natAt zs 4 4 = x1) (m q : Nat) (hx2 : natAt zs 8 2 = (m : Int)) (hx3 : natAt zs 10 2 = (q : Int)) (hm : 12 ≤ n) (hn4 : n ≠ 12 + 4 * m + 4 * q) :
    Calls Try.prog 31 #[.agg #[.int .u8 k, .int .u8 f, .slice p n c]] w fun e w' => e = .returned (.tuple #[.agg #[.int .u32 0, .int .u32 0, .slice none 0 0, .slice none 0 0], .int .i64 7]) ∧ Below w.heap.size w w' := by
  have HNx0 := Lib.hid (show ∀ W, Reads W p n zs → Calls Try.prog 53 #[.slice p n c, .int .i64 0, .int .i64 4] W fun e w' => e = .returned (.int .u64 x0) ∧ Below W.heap.size W w' from fun W h => hxx0 ▸ numR_any p n c 0 4 zs W h hz hc (by omega) (by omega) rfl)
  obtain ⟨lox0, hix0⟩ : 0 ≤ x0 ∧ x0 < 4294967296 := hxx0 ▸ natAt4 hz 0
  have HNx1 := Lib.hid (show ∀ W, Reads W p n zs → Calls Try.prog 53 #[.slice p n c, .int .i64 4, .int .i64 4] W fun e w' => e = .returned (.int .u64 x1) ∧ Below W.heap.size W w' from fun W h => hxx1 ▸ numR_any p n c 4 4 zs W h hz hc (by omega) (by omega) rfl)
  obtain ⟨lox1, hix1⟩ : 0 ≤ x1 ∧ x1 < 4294967296 := hxx1 ▸ natAt4 hz 4
  have HNx2 := Lib.hid (show ∀ W, Reads W p n zs → Calls Try.prog 53 #[.slice p n c, .int .i64 8, .int .i64 2] W fun e w' => e = .returned (.int .u64 (m : Int)) ∧ Below W.heap.size W w' from fun W h => hx2 ▸ numR_any p n c 8 2 zs W h hz hc (by omega) (by omega) rfl)
  have HNx3 := Lib.hid (show ∀ W, Reads W p n zs → Calls Try.prog 53 #[.slice p n c, .int .i64 10, .int .i64 2] W fun e w' => e = .returned (.int .u64 (q : Int)) ∧ Below W.heap.size W w' from fun W h => hx3 ▸ numR_any p n c 10 2 zs W h hz hc (by omega) (by omega) rfl)
  have HM16 := Lib.hid (show (m : Int) < 65536 ∧ (q : Int) < 65536 from ⟨hx2 ▸ (natAt2 hz 8).2, hx3 ▸ (natAt2 hz 10).2⟩)
  obtain ⟨wa, hwa⟩ : ∃ wa, w.alloc (.cells #[.int .u8 k, .int .u8 f, .slice p n c] 28) = wa := ⟨_, rfl⟩
  have hba : Below w.heap.size w wa := by rw [← hwa]; exact chunkBelow w k f _
  have hsa : wa.heap.size = w.heap.size + 1 := by rw [← hwa]; simp
  have hca : Arr wa w.heap.size 28 [.int .u8 k, .int .u8 f, .slice p n c] := by rw [← hwa]; exact chunkBox w k f _
  obtain ⟨wE, hwE⟩ : ∃ wE, wa.alloc (.cells #[.int .u32 0, .int .u32 0, .slice none 0 0, .slice none 0 0] 52) = wE := ⟨_, rfl⟩
  have hbE0 : Below wa.heap.size wa wE := by rw [← hwE]; exact (Below.refl _ _).alloc (Nat.le_refl _) _
  have hsE : wE.heap.size = w.heap.size + 2 := by rw [← hwE]; simp; omega
  have hzE : Arr wE (w.heap.size + 1) 52 [.int .u32 0, .int .u32 0, .slice none 0 0, .slice none 0 0] := by rw [← hwE, ← hsa]; exact arr_new _ _ _
  have hcE := hca.keep hbE0
  have hbE := hba.trans (hbE0.mono hba.size)
  have hr2 := hr.below hbE
  have hmi : ¬ (n : Int) < 12 := by omega
  have HRW := Lib.hid (show ∀ W, Below wE.heap.size wE W → Reads W p n zs from fun W h => hr2.below h)
  have HC := Lib.hid hcE
  have HZ := Lib.hid hzE
  have HBE := Lib.hid (And.intro hbE hsE)
  have HN4 := Lib.hid hn4
  have cc0 := hcE.cell (i := 0) rfl
  have cc1 := hcE.cell (i := 1) rfl
  have cc2 := hcE.cell (i := 2) rfl
  clear hba hca hbE0 hzE hcE hbE hr hr2 hxx0 hxx1 hx2 hx3 hn4 hm
  go_enter Try.func31, Try.ntmps31
  go_wp2_with fail
  clear cc0 cc1 cc2
  refine wp_region_any (by kernel_rfl) ?_
  refine Vals.wpAny_goodLast (GSr w wE k f x0 x1 p n c) (fun W => Below wE.heap.size wE W) [some 14, some 15, some 16, some 17, some 18, some 19, some 20, some 21, some 22, some 4, none] 10 100 _ _ rfl (by kernel_rfl) (by kernel_rfl) (by kernel_rfl) (by decide) rfl ?step ?fin (Below.refl _ _).drew
  case step =>
    intro i o d ho hd hiN a W hJ hdf hdep hfr K hK
    match i, ho, hd with
    | 0, ho, hd =>
      have ho' := ho
      simp only [List.getElem?_toArray, List.getElem?_cons_zero, Option.some.injEq] at ho hd
      subst ho hd
      have r1 : a.eval (.tmp 1) = .pointer (some ⟨w.heap.size, 0, none⟩) := hfr 1 (by decide)
      rw [Vals.eval_tmp] at r1
      refine Vals.wpOp_run ho' rfl ?_
      clear hdep hfr ho' hdf
      go_simp
      exact hK _ _ (fun _ _ h => h) hJ (fun _ => rfl)
    | 1, ho, hd =>
      have ho' := ho
      simp only [List.getElem?_toArray, List.getElem?_cons_zero, List.getElem?_cons_succ, Option.some.injEq] at ho hd
      subst ho hd
      have r14 : a.eval (.tmp 14) = .pointer (some ⟨w.heap.size, 2, none⟩) := hdep ⟨0, .data⟩ (by simp) rfl 14 rfl
      rw [Vals.eval_tmp] at r14
      have c0 := (HC.out.keep hJ).cell (i := 2) rfl
      refine Vals.wpOp_run ho' rfl ?_
      clear hdep hfr ho' hdf
      go_simp
      exact hK _ _ (fun _ _ h => h) hJ (fun _ => rfl)
    | 2, ho, hd =>
      have ho' := ho
      simp only [List.getElem?_toArray, List.getElem?_cons_zero, List.getElem?_cons_succ, Option.some.injEq] at ho hd
      subst ho hd
      have r15 : a.eval (.tmp 15) = .slice p n c := hdep ⟨1, .data⟩ (by simp) rfl 15 rfl
      rw [Vals.eval_tmp] at r15
      refine Vals.wpOp_run ho' rfl ?_
      clear hdep hfr ho' hdf
      go_simp
      refine (HNx0.out W (HRW.out W hJ)).mono ?_
      rintro e w' ⟨rfl, hb3⟩
      exact hK _ _ (GSr_mono hb3) (hJ.trans (hb3.mono hJ.size)) (fun _ => rfl)
    | 3, ho, hd =>
      have ho' := ho
      simp only [List.getElem?_toArray, List.getElem?_cons_zero, List.getElem?_cons_succ, Option.some.injEq] at ho hd
      subst ho hd
      have r16 : a.eval (.tmp 16) = .int .u64 x0 := hdep ⟨2, .data⟩ (by simp) rfl 16 rfl
      rw [Vals.eval_tmp] at r16
      refine Vals.wpOp_run ho' rfl ?_
      clear hdep hfr ho' hdf
      go_simp
      exact hK _ _ (fun _ _ h => h) hJ (fun _ => (by first | rfl | exact congrArg (Value.int _) (Int.emod_eq_of_lt lox0 hix0)))
    | 4, ho, hd =>
      have ho' := ho
      simp only [List.getElem?_toArray, List.getElem?_cons_zero, List.getElem?_cons_succ, Option.some.injEq] at ho hd
      subst ho hd
      have r1 : a.eval (.tmp 1) = .pointer (some ⟨w.heap.size, 0, none⟩) := hfr 1 (by decide)
      rw [Vals.eval_tmp] at r1
      refine Vals.wpOp_run ho' rfl ?_
      clear hdep hfr ho' hdf
      go_simp
      exact hK _ _ (fun _ _ h => h) hJ (fun _ => rfl)
    | 5, ho, hd =>
      have ho' := ho
      simp only [List.getElem?_toArray, List.getElem?_cons_zero, List.getElem?_cons_succ, Option.some.injEq] at ho hd
      subst ho hd
      have r18 : a.eval (.tmp 18) = .pointer (some ⟨w.heap.size, 2, none⟩) := hdep ⟨4, .data⟩ (by simp) rfl 18 rfl
      rw [Vals.eval_tmp] at r18
      have c0 := (HC.out.keep hJ).cell (i := 2) rfl
      refine Vals.wpOp_run ho' rfl ?_
      clear hdep hfr ho' hdf
      go_simp
      exact hK _ _ (fun _ _ h => h) hJ (fun _ => rfl)
    | 6, ho, hd =>
      have ho' := ho
      simp only [List.getElem?_toArray, List.getElem?_cons_zero, List.getElem?_cons_succ, Option.some.injEq] at ho hd
      subst ho hd
      have r19 : a.eval (.tmp 19) = .slice p n c := hdep ⟨5, .data⟩ (by simp) rfl 19 rfl
      rw [Vals.eval_tmp] at r19
      refine Vals.wpOp_run ho' rfl ?_
      clear hdep hfr ho' hdf
      go_simp
      refine (HNx1.out W (HRW.out W hJ)).mono ?_
      rintro e w' ⟨rfl, hb3⟩
      exact hK _ _ (GSr_mono hb3) (hJ.trans (hb3.mono hJ.size)) (fun _ => rfl)
    | 7, ho, hd =>
      have ho' := ho
      simp only [List.getElem?_toArray, List.getElem?_cons_zero, List.getElem?_cons_succ, Option.some.injEq] at ho hd
      subst ho hd
      have r20 : a.eval (.tmp 20) = .int .u64 x1 := hdep ⟨6, .data⟩ (by simp) rfl 20 rfl
      rw [Vals.eval_tmp] at r20
      refine Vals.wpOp_run ho' rfl ?_
      clear hdep hfr ho' hdf
      go_simp
      exact hK _ _ (fun _ _ h => h) hJ (fun _ => (by first | rfl | exact congrArg (Value.int _) (Int.emod_eq_of_lt lox1 hix1)))
    | 8, ho, hd =>
      have ho' := ho
      simp only [List.getElem?_toArray, List.getElem?_cons_zero, List.getElem?_cons_succ, Option.some.injEq] at ho hd
      subst ho hd
      have r17 : a.eval (.tmp 17) = .int .u32 x0 := hdep ⟨3, .data⟩ (by simp) rfl 17 rfl
      rw [Vals.eval_tmp] at r17
      have r21 : a.eval (.tmp 21) = .int .u32 x1 := hdep ⟨7, .data⟩ (by simp) rfl 21 rfl
      rw [Vals.eval_tmp] at r21
      refine Vals.wpOp_run ho' rfl ?_
      clear hdep hfr ho' hdf
      go_simp
      exact hK _ _ (fun _ _ h => h) hJ (fun _ => rfl)
    | 9, ho, hd =>
      have ho' := ho
      simp only [List.getElem?_toArray, List.getElem?_cons_zero, List.getElem?_cons_succ, Option.some.injEq] at ho hd
      subst ho hd
      refine Vals.wpOp_run ho' rfl ?_
      clear hdep hfr ho' hdf
      go_simp
      have hb3 : Below W.heap.size W (W.alloc (.cells #[.int .u32 0, .int .u32 0, .slice none 0 0, .slice none 0 0] 52)) := (Below.refl _ _).alloc (Nat.le_refl _) _
      exact hK _ _ (GSr_mono hb3) (hJ.trans (hb3.mono hJ.size)) (fun _ => ⟨_, rfl, hJ.size, arr_new _ _ _⟩)
    | i + 10, ho, hd => omega
  case fin =>
    intro W fq hJ hG
    have q0 : fq 14 = .pointer (some ⟨w.heap.size, 2, none⟩) := hG 0 14 rfl
    have q1 : fq 15 = .slice p n c := hG 1 15 rfl
    have q2 : fq 16 = .int .u64 x0 := hG 2 16 rfl
    have q3 : fq 17 = .int .u32 x0 := hG 3 17 rfl
    have q4 : fq 18 = .pointer (some ⟨w.heap.size, 2, none⟩) := hG 4 18 rfl
    have q5 : fq 19 = .slice p n c := hG 5 19 rfl
    have q6 : fq 20 = .int .u64 x1 := hG 6 20 rfl
    have q7 : fq 21 = .int .u32 x1 := hG 7 21 rfl
    have q8 : fq 22 = .agg #[.int .u32 x0, .int .u32 x1, .slice none 0 0, .slice none 0 0] := hG 8 22 rfl
    obtain ⟨gn_4, q9, hq4_0, hq4_1⟩ : ∃ gn_4, fq 4 = .pointer (some ⟨gn_4, 0, none⟩) ∧ wE.heap.size ≤ gn_4 ∧ Arr W gn_4 52 [.int .u32 0, .int .u32 0, .slice none 0 0, .slice none 0 0] := hG 9 4 rfl
    clear hG
    refine Vals.wpOp_run rfl rfl ?_
    simp only [Vals.puts, Vals.pairs, List.filterMap_cons, List.filterMap_nil, id, List.map_cons, List.map_nil, List.foldl_cons, List.foldl_nil, q0, q1, q2, q3, q4, q5, q6, q7, q8, q9]
    clear q0 q1 q2 q3 q4 q5 q6 q7 q8 q9
    go_frame
    obtain ⟨W4, hW4⟩ : ∃ x, ((((W.setCell ⟨gn_4, 0, none⟩ (.int .u32 x0)).setCell ⟨gn_4, 1, none⟩ (.int .u32 x1)).setCell ⟨gn_4, 2, none⟩ (.slice none 0 0)).setCell ⟨gn_4, 3, none⟩ (.slice none 0 0)) = x := ⟨_, rfl⟩
    have hA4 : Arr _ gn_4 52 [.int .u32 x0, .int .u32 x1, .slice none 0 0, .slice none 0 0] := ((((hq4_1.set 0 (.int .u32 x0)).set 1 (.int .u32 x1)).set 2 (.slice none 0 0)).set 3 (.slice none 0 0))
    have hB4 := (((((hJ : Below wE.heap.size wE W).setCell (p := ⟨gn_4, 0, none⟩) hq4_0 (.int .u32 x0)).setCell (p := ⟨gn_4, 1, none⟩) hq4_0 (.int .u32 x1)).setCell (p := ⟨gn_4, 2, none⟩) hq4_0 (.slice none 0 0)).setCell (p := ⟨gn_4, 3, none⟩) hq4_0 (.slice none 0 0))
    rw [hW4] at hA4 hB4
    have fr0 := hq4_1.free 0
    have fr1 := hq4_1.free 1
    have fr2 := hq4_1.free 2
    have fr3 := hq4_1.free 3
    have y0 := hq4_1.cell (i := 0) rfl
    have y1 := hq4_1.cell (i := 1) rfl
    have y2 := hq4_1.cell (i := 2) rfl
    have y3 := hq4_1.cell (i := 3) rfl
    have HA4 := Lib.hid hA4
    have HB4 := Lib.hid hB4
    have HGN := Lib.hid hq4_0
    clear hJ hq4_1 hq4_0 hA4 hB4
    go_simp
    clear fr0 fr1 fr2 fr3 y0 y1 y2 y3
    generalize gn_4 = g at *
    clear hW4
    have cc0 := (HC.out.keep HB4.out).cell (i := 0) rfl
    have cc1 := (HC.out.keep HB4.out).cell (i := 1) rfl
    have cc2 := (HC.out.keep HB4.out).cell (i := 2) rfl
    obtain ⟨hm16, hq16⟩ := HM16.out
    go_wp2_with fail
    refine (HNx2.out W4 (HRW.out W4 HB4.out)).mono ?_
    rintro e w5 ⟨rfl, hb5⟩
    have HB5 := Lib.hid (HB4.out.trans (hb5.mono HB4.out.size))
    have HA5 := Lib.hid (HA4.out.keep hb5)
    clear hb5 HB4 HA4 cc0 cc1 cc2
    have cd0 := (HC.out.keep HB5.out).cell (i := 0) rfl
    have cd1 := (HC.out.keep HB5.out).cell (i := 1) rfl
    have cd2 := (HC.out.keep HB5.out).cell (i := 2) rfl
    go_wp2_with fail
    refine (HNx3.out w5 (HRW.out w5 HB5.out)).mono ?_
    rintro e v0 ⟨rfl, hb6⟩
    have HB6 := Lib.hid (HB5.out.trans (hb6.mono HB5.out.size))
    have HA6 := Lib.hid (HA5.out.keep hb6)
    clear hb6 HB5 HA5 cd0 cd1 cd2
    have ce0 := (HC.out.keep HB6.out).cell (i := 0) rfl
    have ce1 := (HC.out.keep HB6.out).cell (i := 1) rfl
    have ce2 := (HC.out.keep HB6.out).cell (i := 2) rfl
    have hodd : ((n : Int) != 12 + 4 * (m : Int) + 4 * (q : Int)) = true := by simp; have := HN4.out; omega
    have hodd2 : ¬ (n : Int) = 12 + 4 * (m : Int) + 4 * (q : Int) := by have := HN4.out; omega
    have hodd3 : ((n : Int) == 12 + 4 * (m : Int) + 4 * (q : Int)) = false := by simp; have := HN4.out; omega
    have hz7 := HZ.out.keep HB6.out
    have hB7 := HBE.out.1.trans (HB6.out.mono HBE.out.1.size)
    obtain ⟨w8, hw8⟩ : ∃ x, ((((v0.setCell ⟨(w.heap.size + 1), 0, none⟩ (.int .u32 0)).setCell ⟨(w.heap.size + 1), 1, none⟩ (.int .u32 0)).setCell ⟨(w.heap.size + 1), 2, none⟩ (.slice none 0 0)).setCell ⟨(w.heap.size + 1), 3, none⟩ (.slice none 0 0)) = x := ⟨_, rfl⟩
    have hA4 : Arr _ (w.heap.size + 1) 52 [.int .u32 0, .int .u32 0, .slice none 0 0, .slice none 0 0] := ((((hz7.set 0 (.int .u32 0)).set 1 (.int .u32 0)).set 2 (.slice none 0 0)).set 3 (.slice none 0 0))
    have hB4 := ((((hB7.setCell (p := ⟨(w.heap.size + 1), 0, none⟩) (by simp) (.int .u32 0)).setCell (p := ⟨(w.heap.size + 1), 1, none⟩) (by simp) (.int .u32 0)).setCell (p := ⟨(w.heap.size + 1), 2, none⟩) (by simp) (.slice none 0 0)).setCell (p := ⟨(w.heap.size + 1), 3, none⟩) (by simp) (.slice none 0 0))
    rw [hw8] at hA4 hB4
    have fs0 := hz7.free 0
    have fs1 := hz7.free 1
    have fs2 := hz7.free 2
    have fs3 := hz7.free 3
    have yy0 := hz7.cell (i := 0) rfl
    have yy1 := hz7.cell (i := 1) rfl
    have yy2 := hz7.cell (i := 2) rfl
    have yy3 := hz7.cell (i := 3) rfl
    have zz0 := hA4.cell (i := 0) rfl
    have zz1 := hA4.cell (i := 1) rfl
    have zz2 := hA4.cell (i := 2) rfl
    have zz3 := hA4.cell (i := 3) rfl
    have HE := Lib.hid hB4
    clear hA4 hB4 hz7 hB7
    go_wp2
    refine bodyPost_ret (by simp [results, Try.results31, go_sem, zz0, zz1, zz2, zz3] <;> rfl) rfl ?_
    exact ⟨rfl, HE.out⟩

set_option maxRecDepth 100000 in
set_option maxHeartbeats 3200000 in
theorem rgetSack_more (k f : Int) (p : Option Addr) (n c : Nat) (zs : List Int) (w : World) (hr : Reads w p n zs) (hz : Byt zs) (hc : n ≤ c) (hn : n ≤ 200000) (x0 : Int) (hxx0 : natAt zs 0 4 = x0) (x1 : Int) (hxx1 : natAt zs 4 4 = x1) (m q : Nat) (hx2 : natAt zs 8 2 = (m : Int)) (hx3 : natAt zs 10 2 = (q : Int)) (hm : 12 ≤ n) (hn4 : n = 12 + 4 * m + 4 * q) :
    Calls Try.prog 31 #[.agg #[.int .u8 k, .int .u8 f, .slice p n c]] w fun e w' => GotS w (apartF 0 (pairsAt zs 12 m) && eqC 3 0 (sackB x0 x1 (pairsAt zs 12 m) (numsAt zs (12 + 4 * m) q)) k f zs) x0 x1 (pairsAt zs 12 m) (numsAt zs (12 + 4 * m) q) e w' := by
  have HNx0 := Lib.hid (show ∀ W, Reads W p n zs → Calls Try.prog 53 #[.slice p n c, .int .i64 0, .int .i64 4] W fun e w' => e = .returned (.int .u64 x0) ∧ Below W.heap.size W w' from fun W h => hxx0 ▸ numR_any p n c 0 4 zs W h hz hc (by omega) (by omega) rfl)
  obtain ⟨lox0, hix0⟩ : 0 ≤ x0 ∧ x0 < 4294967296 := hxx0 ▸ natAt4 hz 0
  have HNx1 := Lib.hid (show ∀ W, Reads W p n zs → Calls Try.prog 53 #[.slice p n c, .int .i64 4, .int .i64 4] W fun e w' => e = .returned (.int .u64 x1) ∧ Below W.heap.size W w' from fun W h => hxx1 ▸ numR_any p n c 4 4 zs W h hz hc (by omega) (by omega) rfl)
  obtain ⟨lox1, hix1⟩ : 0 ≤ x1 ∧ x1 < 4294967296 := hxx1 ▸ natAt4 hz 4
  have HNx2 := Lib.hid (show ∀ W, Reads W p n zs → Calls Try.prog 53 #[.slice p n c, .int .i64 8, .int .i64 2] W fun e w' => e = .returned (.int .u64 (m : Int)) ∧ Below W.heap.size W w' from fun W h => hx2 ▸ numR_any p n c 8 2 zs W h hz hc (by omega) (by omega) rfl)
  have HNx3 := Lib.hid (show ∀ W, Reads W p n zs → Calls Try.prog 53 #[.slice p n c, .int .i64 10, .int .i64 2] W fun e w' => e = .returned (.int .u64 (q : Int)) ∧ Below W.heap.size W w' from fun W h => hx3 ▸ numR_any p n c 10 2 zs W h hz hc (by omega) (by omega) rfl)
  have HM16 := Lib.hid (show (m : Int) < 65536 ∧ (q : Int) < 65536 from ⟨hx2 ▸ (natAt2 hz 8).2, hx3 ▸ (natAt2 hz 10).2⟩)
  obtain ⟨wa, hwa⟩ : ∃ wa, w.alloc (.cells #[.int .u8 k, .int .u8 f, .slice p n c] 28) = wa := ⟨_, rfl⟩
  have hba : Below w.heap.size w wa := by rw [← hwa]; exact chunkBelow w k f _
  have hsa : wa.heap.size = w.heap.size + 1 := by rw [← hwa]; simp
  have hca : Arr wa w.heap.size 28 [.int .u8 k, .int .u8 f, .slice p n c] := by rw [← hwa]; exact chunkBox w k f _
  obtain ⟨wE, hwE⟩ : ∃ wE, wa.alloc (.cells #[.int .u32 0, .int .u32 0, .slice none 0 0, .slice none 0 0] 52) = wE := ⟨_, rfl⟩
  have hbE0 : Below wa.heap.size wa wE := by rw [← hwE]; exact (Below.refl _ _).alloc (Nat.le_refl _) _
  have hsE : wE.heap.size = w.heap.size + 2 := by rw [← hwE]; simp; omega
  have hzE : Arr wE (w.heap.size + 1) 52 [.int .u32 0, .int .u32 0, .slice none 0 0, .slice none 0 0] := by rw [← hwE, ← hsa]; exact arr_new _ _ _
  have hcE := hca.keep hbE0
  have hbE := hba.trans (hbE0.mono hba.size)
  have hr2 := hr.below hbE
  have hmi : ¬ (n : Int) < 12 := by omega
  have HRW := Lib.hid (show ∀ W, Below wE.heap.size wE W → Reads W p n zs from fun W h => hr2.below h)
  have HC := Lib.hid hcE
  have HZ := Lib.hid hzE
  have HBE := Lib.hid (And.intro hbE hsE)
  have HN4 := Lib.hid hn4
  have cc0 := hcE.cell (i := 0) rfl
  have cc1 := hcE.cell (i := 1) rfl
  have cc2 := hcE.cell (i := 2) rfl
  obtain ⟨gs1, hgs1⟩ : ∃ gs1, gs1 = pairsAt zs 12 m := ⟨_, rfl⟩
  obtain ⟨ds1, hds1⟩ : ∃ ds1, ds1 = numsAt zs (12 + 4 * m) q := ⟨_, rfl⟩
  rw [← hgs1, ← hds1]
  have HGS := Lib.hid (And.intro hgs1 hds1)
  clear hgs1 hds1
  clear hba hca hbE0 hzE hcE hbE hr hr2 hxx0 hxx1 hx2 hx3 hn4 hm
  go_enter Try.func31, Try.ntmps31
  go_wp2_with fail
  clear cc0 cc1 cc2
  refine wp_region_any (by kernel_rfl) ?_
  refine Vals.wpAny_goodLast (GSr w wE k f x0 x1 p n c) (fun W => Below wE.heap.size wE W) [some 14, some 15, some 16, some 17, some 18, some 19, some 20, some 21, some 22, some 4, none] 10 100 _ _ rfl (by kernel_rfl) (by kernel_rfl) (by kernel_rfl) (by decide) rfl ?step ?fin (Below.refl _ _).drew
  case step =>
    intro i o d ho hd hiN a W hJ hdf hdep hfr K hK
    match i, ho, hd with
    | 0, ho, hd =>
      have ho' := ho
      simp only [List.getElem?_toArray, List.getElem?_cons_zero, Option.some.injEq] at ho hd
      subst ho hd
      have r1 : a.eval (.tmp 1) = .pointer (some ⟨w.heap.size, 0, none⟩) := hfr 1 (by decide)
      rw [Vals.eval_tmp] at r1
      refine Vals.wpOp_run ho' rfl ?_
      clear hdep hfr ho' hdf
      go_simp
      exact hK _ _ (fun _ _ h => h) hJ (fun _ => rfl)
    | 1, ho, hd =>
      have ho' := ho
      simp only [List.getElem?_toArray, List.getElem?_cons_zero, List.getElem?_cons_succ, Option.some.injEq] at ho hd
      subst ho hd
      have r14 : a.eval (.tmp 14) = .pointer (some ⟨w.heap.size, 2, none⟩) := hdep ⟨0, .data⟩ (by simp) rfl 14 rfl
      rw [Vals.eval_tmp] at r14
      have c0 := (HC.out.keep hJ).cell (i := 2) rfl
      refine Vals.wpOp_run ho' rfl ?_
      clear hdep hfr ho' hdf
      go_simp
      exact hK _ _ (fun _ _ h => h) hJ (fun _ => rfl)
    | 2, ho, hd =>
      have ho' := ho
      simp only [List.getElem?_toArray, List.getElem?_cons_zero, List.getElem?_cons_succ, Option.some.injEq] at ho hd
      subst ho hd
      have r15 : a.eval (.tmp 15) = .slice p n c := hdep ⟨1, .data⟩ (by simp) rfl 15 rfl
      rw [Vals.eval_tmp] at r15
      refine Vals.wpOp_run ho' rfl ?_
      clear hdep hfr ho' hdf
      go_simp
      refine (HNx0.out W (HRW.out W hJ)).mono ?_
      rintro e w' ⟨rfl, hb3⟩
      exact hK _ _ (GSr_mono hb3) (hJ.trans (hb3.mono hJ.size)) (fun _ => rfl)
    | 3, ho, hd =>
      have ho' := ho
      simp only [List.getElem?_toArray, List.getElem?_cons_zero, List.getElem?_cons_succ, Option.some.injEq] at ho hd
      subst ho hd
      have r16 : a.eval (.tmp 16) = .int .u64 x0 := hdep ⟨2, .data⟩ (by simp) rfl 16 rfl
      rw [Vals.eval_tmp] at r16
      refine Vals.wpOp_run ho' rfl ?_
      clear hdep hfr ho' hdf
      go_simp
      exact hK _ _ (fun _ _ h => h) hJ (fun _ => (by first | rfl | exact congrArg (Value.int _) (Int.emod_eq_of_lt lox0 hix0)))
    | 4, ho, hd =>
      have ho' := ho
      simp only [List.getElem?_toArray, List.getElem?_cons_zero, List.getElem?_cons_succ, Option.some.injEq] at ho hd
      subst ho hd
      have r1 : a.eval (.tmp 1) = .pointer (some ⟨w.heap.size, 0, none⟩) := hfr 1 (by decide)
      rw [Vals.eval_tmp] at r1
      refine Vals.wpOp_run ho' rfl ?_
      clear hdep hfr ho' hdf
      go_simp
      exact hK _ _ (fun _ _ h => h) hJ (fun _ => rfl)
    | 5, ho, hd =>
      have ho' := ho
      simp only [List.getElem?_toArray, List.getElem?_cons_zero, List.getElem?_cons_succ, Option.some.injEq] at ho hd
      subst ho hd
      have r18 : a.eval (.tmp 18) = .pointer (some ⟨w.heap.size, 2, none⟩) := hdep ⟨4, .data⟩ (by simp) rfl 18 rfl
      rw [Vals.eval_tmp] at r18
      have c0 := (HC.out.keep hJ).cell (i := 2) rfl
      refine Vals.wpOp_run ho' rfl ?_
      clear hdep hfr ho' hdf
      go_simp
      exact hK _ _ (fun _ _ h => h) hJ (fun _ => rfl)
    | 6, ho, hd =>
      have ho' := ho
      simp only [List.getElem?_toArray, List.getElem?_cons_zero, List.getElem?_cons_succ, Option.some.injEq] at ho hd
      subst ho hd
      have r19 : a.eval (.tmp 19) = .slice p n c := hdep ⟨5, .data⟩ (by simp) rfl 19 rfl
      rw [Vals.eval_tmp] at r19
      refine Vals.wpOp_run ho' rfl ?_
      clear hdep hfr ho' hdf
      go_simp
      refine (HNx1.out W (HRW.out W hJ)).mono ?_
      rintro e w' ⟨rfl, hb3⟩
      exact hK _ _ (GSr_mono hb3) (hJ.trans (hb3.mono hJ.size)) (fun _ => rfl)
    | 7, ho, hd =>
      have ho' := ho
      simp only [List.getElem?_toArray, List.getElem?_cons_zero, List.getElem?_cons_succ, Option.some.injEq] at ho hd
      subst ho hd
      have r20 : a.eval (.tmp 20) = .int .u64 x1 := hdep ⟨6, .data⟩ (by simp) rfl 20 rfl
      rw [Vals.eval_tmp] at r20
      refine Vals.wpOp_run ho' rfl ?_
      clear hdep hfr ho' hdf
      go_simp
      exact hK _ _ (fun _ _ h => h) hJ (fun _ => (by first | rfl | exact congrArg (Value.int _) (Int.emod_eq_of_lt lox1 hix1)))
    | 8, ho, hd =>
      have ho' := ho
      simp only [List.getElem?_toArray, List.getElem?_cons_zero, List.getElem?_cons_succ, Option.some.injEq] at ho hd
      subst ho hd
      have r17 : a.eval (.tmp 17) = .int .u32 x0 := hdep ⟨3, .data⟩ (by simp) rfl 17 rfl
      rw [Vals.eval_tmp] at r17
      have r21 : a.eval (.tmp 21) = .int .u32 x1 := hdep ⟨7, .data⟩ (by simp) rfl 21 rfl
      rw [Vals.eval_tmp] at r21
      refine Vals.wpOp_run ho' rfl ?_
      clear hdep hfr ho' hdf
      go_simp
      exact hK _ _ (fun _ _ h => h) hJ (fun _ => rfl)
    | 9, ho, hd =>
      have ho' := ho
      simp only [List.getElem?_toArray, List.getElem?_cons_zero, List.getElem?_cons_succ, Option.some.injEq] at ho hd
      subst ho hd
      refine Vals.wpOp_run ho' rfl ?_
      clear hdep hfr ho' hdf
      go_simp
      have hb3 : Below W.heap.size W (W.alloc (.cells #[.int .u32 0, .int .u32 0, .slice none 0 0, .slice none 0 0] 52)) := (Below.refl _ _).alloc (Nat.le_refl _) _
      exact hK _ _ (GSr_mono hb3) (hJ.trans (hb3.mono hJ.size)) (fun _ => ⟨_, rfl, hJ.size, arr_new _ _ _⟩)
    | ib + 10, ho, hd => omega
  case fin =>
    intro W fq hJ hG
    have q0 : fq 14 = .pointer (some ⟨w.heap.size, 2, none⟩) := hG 0 14 rfl
    have q1 : fq 15 = .slice p n c := hG 1 15 rfl
    have q2 : fq 16 = .int .u64 x0 := hG 2 16 rfl
    have q3 : fq 17 = .int .u32 x0 := hG 3 17 rfl
    have q4 : fq 18 = .pointer (some ⟨w.heap.size, 2, none⟩) := hG 4 18 rfl
    have q5 : fq 19 = .slice p n c := hG 5 19 rfl
    have q6 : fq 20 = .int .u64 x1 := hG 6 20 rfl
    have q7 : fq 21 = .int .u32 x1 := hG 7 21 rfl
    have q8 : fq 22 = .agg #[.int .u32 x0, .int .u32 x1, .slice none 0 0, .slice none 0 0] := hG 8 22 rfl
    obtain ⟨gn_4, q9, hq4_0, hq4_1⟩ : ∃ gn_4, fq 4 = .pointer (some ⟨gn_4, 0, none⟩) ∧ wE.heap.size ≤ gn_4 ∧ Arr W gn_4 52 [.int .u32 0, .int .u32 0, .slice none 0 0, .slice none 0 0] := hG 9 4 rfl
    clear hG
    refine Vals.wpOp_run rfl rfl ?_
    simp only [Vals.puts, Vals.pairs, List.filterMap_cons, List.filterMap_nil, id, List.map_cons, List.map_nil, List.foldl_cons, List.foldl_nil, q0, q1, q2, q3, q4, q5, q6, q7, q8, q9]
    clear q0 q1 q2 q3 q4 q5 q6 q7 q8 q9
    go_frame
    obtain ⟨W4, hW4⟩ : ∃ x, ((((W.setCell ⟨gn_4, 0, none⟩ (.int .u32 x0)).setCell ⟨gn_4, 1, none⟩ (.int .u32 x1)).setCell ⟨gn_4, 2, none⟩ (.slice none 0 0)).setCell ⟨gn_4, 3, none⟩ (.slice none 0 0)) = x := ⟨_, rfl⟩
    have hA4 : Arr _ gn_4 52 [.int .u32 x0, .int .u32 x1, .slice none 0 0, .slice none 0 0] := ((((hq4_1.set 0 (.int .u32 x0)).set 1 (.int .u32 x1)).set 2 (.slice none 0 0)).set 3 (.slice none 0 0))
    have hB4 := (((((hJ : Below wE.heap.size wE W).setCell (p := ⟨gn_4, 0, none⟩) hq4_0 (.int .u32 x0)).setCell (p := ⟨gn_4, 1, none⟩) hq4_0 (.int .u32 x1)).setCell (p := ⟨gn_4, 2, none⟩) hq4_0 (.slice none 0 0)).setCell (p := ⟨gn_4, 3, none⟩) hq4_0 (.slice none 0 0))
    rw [hW4] at hA4 hB4
    have fr0 := hq4_1.free 0
    have fr1 := hq4_1.free 1
    have fr2 := hq4_1.free 2
    have fr3 := hq4_1.free 3
    have y0 := hq4_1.cell (i := 0) rfl
    have y1 := hq4_1.cell (i := 1) rfl
    have y2 := hq4_1.cell (i := 2) rfl
    have y3 := hq4_1.cell (i := 3) rfl
    have HA4 := Lib.hid hA4
    have HB4 := Lib.hid hB4
    have HGN := Lib.hid hq4_0
    clear hJ hq4_1 hq4_0 hA4 hB4
    go_simp
    clear fr0 fr1 fr2 fr3 y0 y1 y2 y3
    generalize gn_4 = g at *
    clear hW4
    have cc0 := (HC.out.keep HB4.out).cell (i := 0) rfl
    have cc1 := (HC.out.keep HB4.out).cell (i := 1) rfl
    have cc2 := (HC.out.keep HB4.out).cell (i := 2) rfl
    obtain ⟨hm16, hq16⟩ := HM16.out
    go_wp2_with fail
    refine (HNx2.out W4 (HRW.out W4 HB4.out)).mono ?_
    rintro e w5 ⟨rfl, hb5⟩
    have HB5 := Lib.hid (HB4.out.trans (hb5.mono HB4.out.size))
    have HA5 := Lib.hid (HA4.out.keep hb5)
    clear hb5 HB4 HA4 cc0 cc1 cc2
    have cd0 := (HC.out.keep HB5.out).cell (i := 0) rfl
    have cd1 := (HC.out.keep HB5.out).cell (i := 1) rfl
    have cd2 := (HC.out.keep HB5.out).cell (i := 2) rfl
    go_wp2_with fail
    refine (HNx3.out w5 (HRW.out w5 HB5.out)).mono ?_
    rintro e v0 ⟨rfl, hb6⟩
    have HB6 := Lib.hid (HB5.out.trans (hb6.mono HB5.out.size))
    have HA6 := Lib.hid (HA5.out.keep hb6)
    clear hb6 HB5 HA5 cd0 cd1 cd2
    have ce0 := (HC.out.keep HB6.out).cell (i := 0) rfl
    have ce1 := (HC.out.keep HB6.out).cell (i := 1) rfl
    have ce2 := (HC.out.keep HB6.out).cell (i := 2) rfl
    have hev : ((n : Int) != 12 + 4 * (m : Int) + 4 * (q : Int)) = false := by simp; have := HN4.out; omega
    have hev2 : (n : Int) = 12 + 4 * (m : Int) + 4 * (q : Int) := by have := HN4.out; omega
    have HEV := Lib.hid hev2
    clear hev2
    go_wp2
    clear hev ce0 ce1 ce2
    have HGL := Lib.hid (show g < v0.heap.size from HA6.out.lt)
    go_loopw [7] (fun ii wr => ∃ (j : Nat) (a2 : Option Addr) (c2 : Nat), j ≤ m ∧ ii = .int .i64 (j : Int) ∧ Arr wr g 52 [.int .u32 x0, .int .u32 x1, .slice a2 j c2, .slice none 0 0] ∧ RowP 79 v0.heap.size wr a2 j c2 (pairsAt zs 12 j) ∧ Turn [g] v0 wr) (fun ii _ => m - (intOf ii).toNat)
    case atStart => exact ⟨0, none, 0, Nat.zero_le _, rfl, HA6.out, World.ownsRow_nil _ _ _ _, Turn.refl _ _⟩
    case round =>
      obtain ⟨j, a2, c2, hj, rfl, hA, hO, ht⟩ := hrel
      obtain ⟨base, hbase⟩ : ∃ base, base = v0.heap.size := ⟨_, rfl⟩
      rw [← hbase] at hO
      have hBr : Below wE.heap.size wE wr := HB6.out.trans (ht.below HB6.out.size (by intro k hk; simp at hk; have := HGN.out; omega))
      have cl0 := (HC.out.keep hBr).cell (i := 0) rfl
      have cl1 := (HC.out.keep hBr).cell (i := 1) rfl
      have cl2 := (HC.out.keep hBr).cell (i := 2) rfl
      have dc0 := hA.cell (i := 0) rfl
      have dc1 := hA.cell (i := 1) rfl
      have dc2 := hA.cell (i := 2) rfl
      have dc3 := hA.cell (i := 3) rfl
      have HCr := Lib.hid (HC.out.keep hBr)
      have HAr := Lib.hid hA
      have HOr := Lib.hid hO
      have HTr := Lib.hid ht
      have HBr := Lib.hid hBr
      have HBS := Lib.hid (show base ≤ wr.heap.size by rw [hbase]; exact ht.size)
      have HBL := Lib.hid (show w.heap.size < base ∧ g < base by rw [hbase]; exact ⟨by have := HGL.out; have := HGN.out; have := HBE.out.2; omega, HGL.out⟩)
      have HRX := Lib.hid (show ∀ W, Below base wr W → Reads W p n zs from fun W h => HRW.out W (hBr.trans (h.mono (by have := HBE.out.2; have := HGN.out; have := HBL.out.2; omega))))
      have HSZ := Lib.hid (show ∀ W, Below base wr W → wr.heap.size ≤ W.heap.size from fun W h => h.size)
      have HBASE := Lib.hid hbase
      clear hA hO ht hBr hbase
      have hjm : (j : Int) ≤ 65536 := by omega
      by_cases hlt : j < m
      · have hlti : (j : Int) < (m : Int) := by omega
        have HW1 := Lib.hid (show IntKind.i64.wrap (4 * (j : Int)) = 4 * (j : Int) from by first | (show wrap64 _ = _; unfold wrap64; omega) | (simp [IntKind.wrap, IntKind.signed, IntKind.bits]; omega))
        have HW2 := Lib.hid (show IntKind.i64.wrap (12 + 4 * (j : Int)) = 12 + 4 * (j : Int) from by first | (show wrap64 _ = _; unfold wrap64; omega) | (simp [IntKind.wrap, IntKind.signed, IntKind.bits]; omega))
        have HW3 := Lib.hid (show IntKind.i64.wrap (14 + 4 * (j : Int)) = 14 + 4 * (j : Int) from by first | (show wrap64 _ = _; unfold wrap64; omega) | (simp [IntKind.wrap, IntKind.signed, IntKind.bits]; omega))
        obtain ⟨px, hpx⟩ : ∃ x, x = natAt zs (12 + 4 * j) 2 := ⟨_, rfl⟩
        obtain ⟨py, hpy⟩ : ∃ x, x = natAt zs (14 + 4 * j) 2 := ⟨_, rfl⟩
        have HQ1 := Lib.hid (show ∀ W, Reads W p n zs → _ from fun W h => numR_any p n c (12 + 4 * j) 2 zs W h hz hc (by omega) (by omega) rfl)
        rw [show ((12 + 4 * j : Nat) : Int) = 12 + 4 * (j : Int) by omega, show ((2 : Nat) : Int) = 2 from rfl, ← hpx] at HQ1
        have HQ2 := Lib.hid (show ∀ W, Reads W p n zs → _ from fun W h => numR_any p n c (14 + 4 * j) 2 zs W h hz hc (by omega) (by omega) rfl)
        rw [show ((14 + 4 * j : Nat) : Int) = 14 + 4 * (j : Int) by omega, show ((2 : Nat) : Int) = 2 from rfl, ← hpy] at HQ2
        obtain ⟨q0, q1⟩ : 0 ≤ px ∧ px < 65536 := hpx ▸ natAt2 hz _
        obtain ⟨q2, q3⟩ : 0 ≤ py ∧ py < 65536 := hpy ▸ natAt2 hz _
        have HKN := Lib.hid (show j < m ∧ j ≤ 100000 from ⟨hlt, by omega⟩)
        have HAPP := Lib.hid (show ∀ W9 a9 c9, W9.ownsRow base 79 2 (.slice a9 (j + 1) c9) (j + 1) (pairC (pairsAt zs 12 j) ++ [.int .u16 px, .int .u16 py]) → RowP 79 base W9 a9 (j + 1) c9 (pairsAt zs 12 (j + 1)) from by
          intro W9 a9 c9 h
          unfold RowP
          rw [pairsAt_succ, pairC_snoc, show 12 + 4 * j + 2 = 14 + 4 * j by omega, ← hpx, ← hpy]
          exact h)
        have HRB := Lib.hid (show ∀ k, (Value.slice a2 j c2).ownBlock = some k → k < wr.heap.size from fun k hk => (World.ownsRow.lt HOr.out k hk).2)
        clear hpx hpy
        go_wp2_with fail
        refine wp_region_any (by kernel_rfl) ?_
        refine Vals.wpAny_goodLastL (GSu w wr g base px py x0 x1 p n c j a2 c2 zs) (fun listed W => Below base wr W ∧ base ≤ W.heap.size ∧ (listed.getD 18 false = false → RowP 79 base W a2 j c2 (pairsAt zs 12 j))) [some 47, some 48, some 49, some 50, some 51, some 52, some 53, some 54, some 55, some 56, some 57, some 58, some 59, some 60, some 61, some 62, some 63, some 64, some 65, some 66, none] 20 100 _ _ rfl (by kernel_rfl) (by kernel_rfl) (by kernel_rfl) (by decide) rfl ?step11 ?fin11 ⟨(Below.refl _ _).drew, HBS.out, fun _ => owns_keep HOr.out (Below.of_drewN wr 1)⟩
        case step11 =>
          intro i o d ho hd hiN listed a W hls hun hcl hJ hdf hdep hfr K hK
          match i, ho, hd with
          | 0, ho, hd =>
            have ho' := ho
            simp only [List.getElem?_toArray, List.getElem?_cons_zero, Option.some.injEq] at ho hd
            subst ho hd
            have r4 : a.eval (.tmp 4) = .pointer (some ⟨g, 0, none⟩) := hfr 4 (by decide)
            rw [Vals.eval_tmp] at r4
            refine Vals.wpOp_run ho' rfl ?_
            clear hdep hfr ho' hdf
            go_simp
            exact hK _ _ (fun _ _ _ _ h => h) ⟨hJ.1, hJ.2.1, fun h => hJ.2.2 (Vals.jlisted (i := 0) h (by decide))⟩ (fun _ => rfl)
          | 1, ho, hd =>
            have ho' := ho
            simp only [List.getElem?_toArray, List.getElem?_cons_zero, List.getElem?_cons_succ, Option.some.injEq] at ho hd
            subst ho hd
            have r47 : a.eval (.tmp 47) = .pointer (some ⟨g, 2, none⟩) := hdep ⟨0, .data⟩ (by simp) rfl 47 rfl
            rw [Vals.eval_tmp] at r47
            have c0 := (HAr.out.below hJ.1 HBL.out.2).cell (i := 2) rfl
            refine Vals.wpOp_run ho' rfl ?_
            clear hdep hfr ho' hdf
            go_simp
            exact hK _ _ (fun _ _ _ _ h => h) ⟨hJ.1, hJ.2.1, fun h => hJ.2.2 (Vals.jlisted (i := 1) h (by decide))⟩ (fun _ => rfl)
          | 2, ho, hd =>
            have ho' := ho
            simp only [List.getElem?_toArray, List.getElem?_cons_zero, List.getElem?_cons_succ, Option.some.injEq] at ho hd
            subst ho hd
            have r1 : a.eval (.tmp 1) = .pointer (some ⟨w.heap.size, 0, none⟩) := hfr 1 (by decide)
            rw [Vals.eval_tmp] at r1
            refine Vals.wpOp_run ho' rfl ?_
            clear hdep hfr ho' hdf
            go_simp
            exact hK _ _ (fun _ _ _ _ h => h) ⟨hJ.1, hJ.2.1, fun h => hJ.2.2 (Vals.jlisted (i := 2) h (by decide))⟩ (fun _ => rfl)
          | 3, ho, hd =>
            have ho' := ho
            simp only [List.getElem?_toArray, List.getElem?_cons_zero, List.getElem?_cons_succ, Option.some.injEq] at ho hd
            subst ho hd
            have r49 : a.eval (.tmp 49) = .pointer (some ⟨w.heap.size, 2, none⟩) := hdep ⟨2, .data⟩ (by simp) rfl 49 rfl
            rw [Vals.eval_tmp] at r49
            have c0 := (HCr.out.below hJ.1 HBL.out.1).cell (i := 2) rfl
            refine Vals.wpOp_run ho' rfl ?_
            clear hdep hfr ho' hdf
            go_simp
            exact hK _ _ (fun _ _ _ _ h => h) ⟨hJ.1, hJ.2.1, fun h => hJ.2.2 (Vals.jlisted (i := 3) h (by decide))⟩ (fun _ => rfl)
          | 4, ho, hd =>
            have ho' := ho
            simp only [List.getElem?_toArray, List.getElem?_cons_zero, List.getElem?_cons_succ, Option.some.injEq] at ho hd
            subst ho hd
            have r7 : a.eval (.tmp 7) = .int .i64 (j : Int) := hfr 7 (by decide)
            rw [Vals.eval_tmp] at r7
            refine Vals.wpOp_run ho' rfl ?_
            clear hdep hfr ho' hdf
            go_simp
            exact hK _ _ (fun _ _ _ _ h => h) ⟨hJ.1, hJ.2.1, fun h => hJ.2.2 (Vals.jlisted (i := 4) h (by decide))⟩ (fun _ => rfl)
          | 5, ho, hd =>
            have ho' := ho
            simp only [List.getElem?_toArray, List.getElem?_cons_zero, List.getElem?_cons_succ, Option.some.injEq] at ho hd
            subst ho hd
            have r51 : a.eval (.tmp 51) = .int .i64 (j : Int) := hdep ⟨4, .data⟩ (by simp) rfl 51 rfl
            rw [Vals.eval_tmp] at r51
            refine Vals.wpOp_run ho' rfl ?_
            clear hdep hfr ho' hdf
            go_simp
            exact hK _ _ (fun _ _ _ _ h => h) ⟨hJ.1, hJ.2.1, fun h => hJ.2.2 (Vals.jlisted (i := 5) h (by decide))⟩ (fun _ => by first | rfl | exact congrArg (Value.int .i64) HW1.out)
          | 6, ho, hd =>
            have ho' := ho
            simp only [List.getElem?_toArray, List.getElem?_cons_zero, List.getElem?_cons_succ, Option.some.injEq] at ho hd
            subst ho hd
            have r52 : a.eval (.tmp 52) = .int .i64 (4 * (j : Int)) := hdep ⟨5, .data⟩ (by simp) rfl 52 rfl
            rw [Vals.eval_tmp] at r52
            refine Vals.wpOp_run ho' rfl ?_
            clear hdep hfr ho' hdf
            go_simp
            exact hK _ _ (fun _ _ _ _ h => h) ⟨hJ.1, hJ.2.1, fun h => hJ.2.2 (Vals.jlisted (i := 6) h (by decide))⟩ (fun _ => by first | rfl | exact congrArg (Value.int .i64) HW2.out)
          | 7, ho, hd =>
            have ho' := ho
            simp only [List.getElem?_toArray, List.getElem?_cons_zero, List.getElem?_cons_succ, Option.some.injEq] at ho hd
            subst ho hd
            have r50 : a.eval (.tmp 50) = .slice p n c := hdep ⟨3, .data⟩ (by simp) rfl 50 rfl
            rw [Vals.eval_tmp] at r50
            have r53 : a.eval (.tmp 53) = .int .i64 (12 + 4 * (j : Int)) := hdep ⟨6, .data⟩ (by simp) rfl 53 rfl
            rw [Vals.eval_tmp] at r53
            refine Vals.wpOp_run ho' rfl ?_
            clear hdep hfr ho' hdf
            go_simp
            refine (HQ1.out W (HRX.out W hJ.1)).mono ?_
            rintro e w' ⟨rfl, hb3⟩
            exact hK _ _ (fun j x _ _ h => GSu_mono hb3 j x h) ⟨hJ.1.trans (hb3.mono hJ.2.1), Nat.le_trans hJ.2.1 hb3.size, fun h => owns_keep (hJ.2.2 (Vals.jlisted (i := 7) h (by decide))) hb3⟩ (fun _ => rfl)
          | 8, ho, hd =>
            have ho' := ho
            simp only [List.getElem?_toArray, List.getElem?_cons_zero, List.getElem?_cons_succ, Option.some.injEq] at ho hd
            subst ho hd
            have r54 : a.eval (.tmp 54) = .int .u64 px := hdep ⟨7, .data⟩ (by simp) rfl 54 rfl
            rw [Vals.eval_tmp] at r54
            refine Vals.wpOp_run ho' rfl ?_
            clear hdep hfr ho' hdf
            go_simp
            exact hK _ _ (fun _ _ _ _ h => h) ⟨hJ.1, hJ.2.1, fun h => hJ.2.2 (Vals.jlisted (i := 8) h (by decide))⟩ (fun _ => (by first | rfl | exact congrArg (Value.int _) (Int.emod_eq_of_lt q0 q1)))
          | 9, ho, hd =>
            have ho' := ho
            simp only [List.getElem?_toArray, List.getElem?_cons_zero, List.getElem?_cons_succ, Option.some.injEq] at ho hd
            subst ho hd
            have r1 : a.eval (.tmp 1) = .pointer (some ⟨w.heap.size, 0, none⟩) := hfr 1 (by decide)
            rw [Vals.eval_tmp] at r1
            refine Vals.wpOp_run ho' rfl ?_
            clear hdep hfr ho' hdf
            go_simp
            exact hK _ _ (fun _ _ _ _ h => h) ⟨hJ.1, hJ.2.1, fun h => hJ.2.2 (Vals.jlisted (i := 9) h (by decide))⟩ (fun _ => rfl)
          | 10, ho, hd =>
            have ho' := ho
            simp only [List.getElem?_toArray, List.getElem?_cons_zero, List.getElem?_cons_succ, Option.some.injEq] at ho hd
            subst ho hd
            have r56 : a.eval (.tmp 56) = .pointer (some ⟨w.heap.size, 2, none⟩) := hdep ⟨9, .data⟩ (by simp) rfl 56 rfl
            rw [Vals.eval_tmp] at r56
            have c0 := (HCr.out.below hJ.1 HBL.out.1).cell (i := 2) rfl
            refine Vals.wpOp_run ho' rfl ?_
            clear hdep hfr ho' hdf
            go_simp
            exact hK _ _ (fun _ _ _ _ h => h) ⟨hJ.1, hJ.2.1, fun h => hJ.2.2 (Vals.jlisted (i := 10) h (by decide))⟩ (fun _ => rfl)
          | 11, ho, hd =>
            have ho' := ho
            simp only [List.getElem?_toArray, List.getElem?_cons_zero, List.getElem?_cons_succ, Option.some.injEq] at ho hd
            subst ho hd
            have r7 : a.eval (.tmp 7) = .int .i64 (j : Int) := hfr 7 (by decide)
            rw [Vals.eval_tmp] at r7
            refine Vals.wpOp_run ho' rfl ?_
            clear hdep hfr ho' hdf
            go_simp
            exact hK _ _ (fun _ _ _ _ h => h) ⟨hJ.1, hJ.2.1, fun h => hJ.2.2 (Vals.jlisted (i := 11) h (by decide))⟩ (fun _ => rfl)
          | 12, ho, hd =>
            have ho' := ho
            simp only [List.getElem?_toArray, List.getElem?_cons_zero, List.getElem?_cons_succ, Option.some.injEq] at ho hd
            subst ho hd
            have r58 : a.eval (.tmp 58) = .int .i64 (j : Int) := hdep ⟨11, .data⟩ (by simp) rfl 58 rfl
            rw [Vals.eval_tmp] at r58
            refine Vals.wpOp_run ho' rfl ?_
            clear hdep hfr ho' hdf
            go_simp
            exact hK _ _ (fun _ _ _ _ h => h) ⟨hJ.1, hJ.2.1, fun h => hJ.2.2 (Vals.jlisted (i := 12) h (by decide))⟩ (fun _ => by first | rfl | exact congrArg (Value.int .i64) HW1.out)
          | 13, ho, hd =>
            have ho' := ho
            simp only [List.getElem?_toArray, List.getElem?_cons_zero, List.getElem?_cons_succ, Option.some.injEq] at ho hd
            subst ho hd
            have r59 : a.eval (.tmp 59) = .int .i64 (4 * (j : Int)) := hdep ⟨12, .data⟩ (by simp) rfl 59 rfl
            rw [Vals.eval_tmp] at r59
            refine Vals.wpOp_run ho' rfl ?_
            clear hdep hfr ho' hdf
            go_simp
            exact hK _ _ (fun _ _ _ _ h => h) ⟨hJ.1, hJ.2.1, fun h => hJ.2.2 (Vals.jlisted (i := 13) h (by decide))⟩ (fun _ => by first | rfl | exact congrArg (Value.int .i64) HW3.out)
          | 14, ho, hd =>
            have ho' := ho
            simp only [List.getElem?_toArray, List.getElem?_cons_zero, List.getElem?_cons_succ, Option.some.injEq] at ho hd
            subst ho hd
            have r57 : a.eval (.tmp 57) = .slice p n c := hdep ⟨10, .data⟩ (by simp) rfl 57 rfl
            rw [Vals.eval_tmp] at r57
            have r60 : a.eval (.tmp 60) = .int .i64 (14 + 4 * (j : Int)) := hdep ⟨13, .data⟩ (by simp) rfl 60 rfl
            rw [Vals.eval_tmp] at r60
            refine Vals.wpOp_run ho' rfl ?_
            clear hdep hfr ho' hdf
            go_simp
            refine (HQ2.out W (HRX.out W hJ.1)).mono ?_
            rintro e w' ⟨rfl, hb3⟩
            exact hK _ _ (fun j x _ _ h => GSu_mono hb3 j x h) ⟨hJ.1.trans (hb3.mono hJ.2.1), Nat.le_trans hJ.2.1 hb3.size, fun h => owns_keep (hJ.2.2 (Vals.jlisted (i := 14) h (by decide))) hb3⟩ (fun _ => rfl)
          | 15, ho, hd =>
            have ho' := ho
            simp only [List.getElem?_toArray, List.getElem?_cons_zero, List.getElem?_cons_succ, Option.some.injEq] at ho hd
            subst ho hd
            have r61 : a.eval (.tmp 61) = .int .u64 py := hdep ⟨14, .data⟩ (by simp) rfl 61 rfl
            rw [Vals.eval_tmp] at r61
            refine Vals.wpOp_run ho' rfl ?_
            clear hdep hfr ho' hdf
            go_simp
            exact hK _ _ (fun _ _ _ _ h => h) ⟨hJ.1, hJ.2.1, fun h => hJ.2.2 (Vals.jlisted (i := 15) h (by decide))⟩ (fun _ => (by first | rfl | exact congrArg (Value.int _) (Int.emod_eq_of_lt q2 q3)))
          | 16, ho, hd =>
            have ho' := ho
            simp only [List.getElem?_toArray, List.getElem?_cons_zero, List.getElem?_cons_succ, Option.some.injEq] at ho hd
            subst ho hd
            have r55 : a.eval (.tmp 55) = .int .u16 px := hdep ⟨8, .data⟩ (by simp) rfl 55 rfl
            rw [Vals.eval_tmp] at r55
            have r62 : a.eval (.tmp 62) = .int .u16 py := hdep ⟨15, .data⟩ (by simp) rfl 62 rfl
            rw [Vals.eval_tmp] at r62
            refine Vals.wpOp_run ho' rfl ?_
            clear hdep hfr ho' hdf
            go_simp
            exact hK _ _ (fun _ _ _ _ h => h) ⟨hJ.1, hJ.2.1, fun h => hJ.2.2 (Vals.jlisted (i := 16) h (by decide))⟩ (fun _ => rfl)
          | 17, ho, hd =>
            have ho' := ho
            simp only [List.getElem?_toArray, List.getElem?_cons_zero, List.getElem?_cons_succ, Option.some.injEq] at ho hd
            subst ho hd
            have r63 : a.eval (.tmp 63) = .agg #[.int .u16 px, .int .u16 py] := hdep ⟨16, .data⟩ (by simp) rfl 63 rfl
            rw [Vals.eval_tmp] at r63
            refine Vals.wpOp_run ho' rfl ?_
            clear hdep hfr ho' hdf
            go_simp
            have hb3 : Below W.heap.size W (W.alloc (.cells #[.int .u16 px, .int .u16 py] 79)) := (Below.refl _ _).alloc (Nat.le_refl _) _
            exact hK _ _ (fun j x _ _ h => GSu_mono hb3 j x h) ⟨hJ.1.trans (hb3.mono hJ.2.1), Nat.le_trans hJ.2.1 hb3.size, fun h => owns_keep (hJ.2.2 (Vals.jlisted (i := 17) h (by decide))) hb3⟩ (fun _ => ⟨_, rfl, HSZ.out W hJ.1, arr_new _ _ _⟩)
          | 18, ho, hd =>
            have ho' := ho
            simp only [List.getElem?_toArray, List.getElem?_cons_zero, List.getElem?_cons_succ, Option.some.injEq] at ho hd
            subst ho hd
            have r48 : a.eval (.tmp 48) = .slice a2 j c2 := hdep ⟨1, .data⟩ (by simp) rfl 48 rfl
            rw [Vals.eval_tmp] at r48
            have g64 : ∃ gs_64, a.eval (.tmp 64) = .slice (some ⟨gs_64, 0, none⟩) 1 1 ∧ wr.heap.size ≤ gs_64 ∧ Arr W gs_64 79 [.int .u16 px, .int .u16 py] := hdep ⟨17, .data⟩ (by simp) rfl 64 rfl
            rw [Vals.eval_tmp] at g64
            obtain ⟨gs_64, r64, h64_0, h64_1⟩ := g64
            obtain ⟨a9, c9, W9, hrun, H9⟩ := owns_append1 Try.infoGap Try.underlying49 rfl (by decide) (by decide) (hJ.2.2 hun) hJ.2.1 (by have := HKN.out; omega) gs_64 [.int .u16 px, .int .u16 py] rfl h64_1 (by intro u hu; simp at hu; first | (rcases hu with rfl | rfl <;> rfl) | (subst hu; rfl))
            have hb9 : Below base W W9 := ⟨H9.out.2.os, H9.out.2.tape, H9.out.2.output, H9.out.2.size, fun k hk => H9.out.2.block k (Nat.lt_of_lt_of_le hk hJ.2.1) (fun e => by have := (World.ownsRow.lt (hJ.2.2 hun) k e.symm).1; omega)⟩
            have hrow9 := HAPP.out W9 a9 c9 H9.out.1
            refine Vals.wpOp_run ho' rfl ?_
            clear hdep hfr ho' hdf
            refine Vals.oper_append_run (.tmp 48) (.tmp 64) 49 rfl _ _ _ W9 (by rw [Vals.eval_tmp]; exact r48) (by rw [Vals.eval_tmp]; exact r64) hrun ?_
            exact hK _ _ (fun jj x hlj hji h => GSu_app HRB.out H9.out.2 hji h) ⟨hJ.1.trans hb9, Nat.le_trans hJ.2.1 H9.out.2.size, fun h => (Vals.jself (by rw [hls]; decide) h).elim⟩ (fun _ => ⟨_, _, rfl, hrow9⟩)
          | 19, ho, hd =>
            have ho' := ho
            simp only [List.getElem?_toArray, List.getElem?_cons_zero, List.getElem?_cons_succ, Option.some.injEq] at ho hd
            subst ho hd
            have r4 : a.eval (.tmp 4) = .pointer (some ⟨g, 0, none⟩) := hfr 4 (by decide)
            rw [Vals.eval_tmp] at r4
            refine Vals.wpOp_run ho' rfl ?_
            clear hdep hfr ho' hdf
            go_simp
            exact hK _ _ (fun _ _ _ _ h => h) ⟨hJ.1, hJ.2.1, fun h => hJ.2.2 (Vals.jlisted (i := 19) h (by decide))⟩ (fun _ => rfl)
          | ib + 20, ho, hd => omega
        case fin11 =>
          intro listed W fq hall hJ hG
          have q0 : fq 47 = .pointer (some ⟨g, 2, none⟩) := hG 0 47 rfl
          have q1 : fq 48 = .slice a2 j c2 := hG 1 48 rfl
          have q2 : fq 49 = .pointer (some ⟨w.heap.size, 2, none⟩) := hG 2 49 rfl
          have q3 : fq 50 = .slice p n c := hG 3 50 rfl
          have q4 : fq 51 = .int .i64 (j : Int) := hG 4 51 rfl
          have q5 : fq 52 = .int .i64 (4 * (j : Int)) := hG 5 52 rfl
          have q6 : fq 53 = .int .i64 (12 + 4 * (j : Int)) := hG 6 53 rfl
          have q7 : fq 54 = .int .u64 px := hG 7 54 rfl
          have q8 : fq 55 = .int .u16 px := hG 8 55 rfl
          have q9 : fq 56 = .pointer (some ⟨w.heap.size, 2, none⟩) := hG 9 56 rfl
          have q10 : fq 57 = .slice p n c := hG 10 57 rfl
          have q11 : fq 58 = .int .i64 (j : Int) := hG 11 58 rfl
          have q12 : fq 59 = .int .i64 (4 * (j : Int)) := hG 12 59 rfl
          have q13 : fq 60 = .int .i64 (14 + 4 * (j : Int)) := hG 13 60 rfl
          have q14 : fq 61 = .int .u64 py := hG 14 61 rfl
          have q15 : fq 62 = .int .u16 py := hG 15 62 rfl
          have q16 : fq 63 = .agg #[.int .u16 px, .int .u16 py] := hG 16 63 rfl
          obtain ⟨gs_64, q17, hq64_0, hq64_1⟩ : ∃ gs_64, fq 64 = .slice (some ⟨gs_64, 0, none⟩) 1 1 ∧ wr.heap.size ≤ gs_64 ∧ Arr W gs_64 79 [.int .u16 px, .int .u16 py] := hG 17 64 rfl
          obtain ⟨a9_65, c9_65, q18, hq65_0⟩ : ∃ a9_65 c9_65, fq 65 = .slice a9_65 (j + 1) c9_65 ∧ RowP 79 base W a9_65 (j + 1) c9_65 (pairsAt zs 12 (j + 1)) := hG 18 65 rfl
          have q19 : fq 66 = .pointer (some ⟨g, 2, none⟩) := hG 19 66 rfl
          clear hG hall
          refine Vals.wpOp_run rfl rfl ?_
          simp only [Vals.puts, Vals.pairs, List.filterMap_cons, List.filterMap_nil, id, List.map_cons, List.map_nil, List.foldl_cons, List.foldl_nil, q0, q1, q2, q3, q4, q5, q6, q7, q8, q9, q10, q11, q12, q13, q14, q15, q16, q17, q18, q19]
          clear q0 q1 q2 q3 q4 q5 q6 q7 q8 q9 q10 q11 q12 q13 q14 q15 q16 q17 q18 q19
          go_frame
          have hj1 : Below base wr W := hJ.1
          have hA5 := HAr.out.below hj1 HBL.out.2
          have ht5 : Turn [g] v0 W := ⟨hj1.os.trans HTr.out.os, hj1.tape.trans HTr.out.tape, hj1.output.trans HTr.out.output, Nat.le_trans HTr.out.size hj1.size, fun ii hi hn => (hj1.block ii (by rw [HBASE.out]; exact hi)).trans (HTr.out.block ii hi hn)⟩
          obtain ⟨w6, hw6⟩ : ∃ w6, W.setCell ⟨g, 2, none⟩ (.slice a9_65 (j + 1) c9_65) = w6 := ⟨_, rfl⟩
          have hA6 : Arr w6 g 52 [.int .u32 x0, .int .u32 x1, .slice a9_65 (j + 1) c9_65, .slice none 0 0] := by rw [← hw6]; exact hA5.set 2 _
          have ht6 : Turn [g] v0 w6 := by rw [← hw6]; exact ht5.setCell (p := ⟨g, 2, none⟩) (by simp) _
          have hO6 : RowP 79 v0.heap.size w6 a9_65 (j + 1) c9_65 (pairsAt zs 12 (j + 1)) := by rw [← hw6, ← HBASE.out]; exact RowP.setAt hq65_0 HBL.out.2 2 _
          have fr := hA5.free 2
          have y1 := hA5.cell (i := 2) rfl
          have H6 := Lib.hid (And.intro hA6 (And.intro hO6 ht6))
          clear hj1 hA5 ht5 hA6 ht6 hO6 hJ hq65_0 hq64_0 hq64_1
          go_simp
          go_wp2
          exact ⟨⟨j + 1, a9_65, c9_65, HKN.out.1, congrArg (Value.int .i64) (by omega), H6.out⟩, by simp [intOf]; omega⟩
      · have hlti : ¬ (j : Int) < (m : Int) := by omega
        obtain rfl : m = j := by omega
        obtain ⟨a1, ha1⟩ : ∃ a1, a1 = a2 := ⟨_, rfl⟩
        obtain ⟨c1, hc1⟩ : ∃ c1, c1 = c2 := ⟨_, rfl⟩
        have hA1 := HAr.out
        have hO1 := HOr.out
        have ht1 := HTr.out
        rw [← HGS.out.1, HBASE.out] at hO1
        rw [← ha1, ← hc1] at hA1 hO1
        have HO1 := Lib.hid hO1
        clear hO1
        clear HRX HSZ HBL HBS HBr HTr HOr HAr HCr HBASE
        go_wp2
        clear cl0 cl1 cl2 dc0 dc1 dc2 dc3 hlti hlt hj
        go_loopw [8] (fun ii wq => ∃ (ib : Nat) (b2 : Option Addr) (e2 : Nat), ib ≤ q ∧ ii = .int .i64 (ib : Int) ∧ Arr wq g 52 [.int .u32 x0, .int .u32 x1, .slice a1 m c1, .slice b2 ib e2] ∧ Row32 v0.heap.size wq b2 ib e2 (numsAt zs (12 + 4 * m) ib) ∧ RowP 79 v0.heap.size wq a1 m c1 gs1 ∧ Turn [g] v0 wq) (fun ii _ => q - (intOf ii).toNat)
        case atStart => exact ⟨0, none, 0, Nat.zero_le _, rfl, hA1, World.ownsRow_nil _ _ _ _, HO1.out, ht1⟩
        case round =>
          clear hA1 ht1 HO1 ha1 hc1
          obtain ⟨ib, b2, e2, hi, rfl, hA, hO, hP, ht⟩ := hrel
          obtain ⟨base, hbase⟩ : ∃ base, base = v0.heap.size := ⟨_, rfl⟩
          rw [← hbase] at hO hP
          have hBr : Below wE.heap.size wE wr := HB6.out.trans (ht.below HB6.out.size (by intro k hk; simp at hk; have := HGN.out; omega))
          have cl0 := (HC.out.keep hBr).cell (i := 0) rfl
          have cl1 := (HC.out.keep hBr).cell (i := 1) rfl
          have cl2 := (HC.out.keep hBr).cell (i := 2) rfl
          have dc0 := hA.cell (i := 0) rfl
          have dc1 := hA.cell (i := 1) rfl
          have dc2 := hA.cell (i := 2) rfl
          have dc3 := hA.cell (i := 3) rfl
          have HCr := Lib.hid (HC.out.keep hBr)
          have HAr := Lib.hid hA
          have HOr := Lib.hid hO
          have HTr := Lib.hid ht
          have HBr := Lib.hid hBr
          have HBS := Lib.hid (show base ≤ wr.heap.size by rw [hbase]; exact ht.size)
          have HBL := Lib.hid (show w.heap.size < base ∧ g < base by rw [hbase]; exact ⟨by have := HGL.out; have := HGN.out; have := HBE.out.2; omega, HGL.out⟩)
          have HRX := Lib.hid (show ∀ W, Below base wr W → Reads W p n zs from fun W h => HRW.out W (hBr.trans (h.mono (by have := HBE.out.2; have := HGN.out; have := HBL.out.2; omega))))
          have HSZ := Lib.hid (show ∀ W, Below base wr W → wr.heap.size ≤ W.heap.size from fun W h => h.size)
          have HBASE := Lib.hid hbase
          have HPr := Lib.hid hP
          clear hA hO hP ht hBr hbase
          have him : (ib : Int) ≤ 65536 := by omega
          by_cases hlt : ib < q
          · have hlti : (ib : Int) < (q : Int) := by omega
            have HW1 := Lib.hid (show IntKind.i64.wrap (4 * (m : Int)) = 4 * (m : Int) from by first | (show wrap64 _ = _; unfold wrap64; omega) | (simp [IntKind.wrap, IntKind.signed, IntKind.bits]; omega))
            have HW2 := Lib.hid (show IntKind.i64.wrap (12 + 4 * (m : Int)) = 12 + 4 * (m : Int) from by first | (show wrap64 _ = _; unfold wrap64; omega) | (simp [IntKind.wrap, IntKind.signed, IntKind.bits]; omega))
            have HW3 := Lib.hid (show IntKind.i64.wrap (4 * (ib : Int)) = 4 * (ib : Int) from by first | (show wrap64 _ = _; unfold wrap64; omega) | (simp [IntKind.wrap, IntKind.signed, IntKind.bits]; omega))
            have HW4 := Lib.hid (show IntKind.i64.wrap (12 + 4 * (m : Int) + 4 * (ib : Int)) = 12 + 4 * (m : Int) + 4 * (ib : Int) from by first | (show wrap64 _ = _; unfold wrap64; omega) | (simp [IntKind.wrap, IntKind.signed, IntKind.bits]; omega))
            obtain ⟨px, hpx⟩ : ∃ x, x = natAt zs (12 + 4 * m + 4 * ib) 4 := ⟨_, rfl⟩
            have HQ1 := Lib.hid (show ∀ W, Reads W p n zs → _ from fun W h => numR_any p n c (12 + 4 * m + 4 * ib) 4 zs W h hz hc (by omega) (by omega) rfl)
            rw [show ((12 + 4 * m + 4 * ib : Nat) : Int) = 12 + 4 * (m : Int) + 4 * (ib : Int) by omega, show ((4 : Nat) : Int) = 4 from rfl, ← hpx] at HQ1
            obtain ⟨q0, q1⟩ : 0 ≤ px ∧ px < 4294967296 := hpx ▸ natAt4 hz _
            have HKN := Lib.hid (show ib < q ∧ ib ≤ 100000 from ⟨hlt, by omega⟩)
            have HAPP := Lib.hid (show ∀ W9 a9 c9, W9.ownsRow base 22 1 (.slice a9 (ib + 1) c9) (ib + 1) ((numsAt zs (12 + 4 * m) ib).map (Value.int .u32) ++ [.int .u32 px]) → Row32 base W9 a9 (ib + 1) c9 (numsAt zs (12 + 4 * m) (ib + 1)) from by
              intro W9 a9 c9 h
              unfold Row32
              rw [numsAt_succ, ← hpx]
              simpa using h)
            have HOTH := Lib.hid (show ∀ W W9, Row32 base W b2 ib e2 (numsAt zs (12 + 4 * m) ib) → RowP 79 base W a1 m c1 gs1 → W.grownBy W9 (Value.slice b2 ib e2).ownBlock → RowP 79 base W9 a1 m c1 gs1 from fun W W9 h1 h2 h3 => owns_other h2 h1 (by decide) h3)
            have HRB := Lib.hid (show ∀ k, (Value.slice b2 ib e2).ownBlock = some k → k < wr.heap.size from fun k hk => (World.ownsRow.lt HOr.out k hk).2)
            clear hpx
            go_wp2_with fail
            refine wp_region_any (by kernel_rfl) ?_
            refine Vals.wpAny_goodLastL (GSv w wr g base px x0 x1 p n c m a1 c1 gs1 ib b2 e2 zs) (fun listed W => Below base wr W ∧ base ≤ W.heap.size ∧ (listed.getD 13 false = false → Row32 base W b2 ib e2 (numsAt zs (12 + 4 * m) ib) ∧ RowP 79 base W a1 m c1 gs1)) [some 72, some 73, some 74, some 75, some 76, some 77, some 78, some 79, some 80, some 81, some 82, some 83, some 84, some 85, some 86, none] 15 100 _ _ rfl (by kernel_rfl) (by kernel_rfl) (by kernel_rfl) (by decide) rfl ?step15 ?fin15 ⟨(Below.refl _ _).drew, HBS.out, fun _ => ⟨owns_keep HOr.out (Below.of_drewN wr 1), owns_keep HPr.out (Below.of_drewN wr 1)⟩⟩
            case step15 =>
              intro i o d ho hd hiN listed a W hls hun hcl hJ hdf hdep hfr K hK
              match i, ho, hd with
              | 0, ho, hd =>
                have ho' := ho
                simp only [List.getElem?_toArray, List.getElem?_cons_zero, Option.some.injEq] at ho hd
                subst ho hd
                have r4 : a.eval (.tmp 4) = .pointer (some ⟨g, 0, none⟩) := hfr 4 (by decide)
                rw [Vals.eval_tmp] at r4
                refine Vals.wpOp_run ho' rfl ?_
                clear hdep hfr ho' hdf
                go_simp
                exact hK _ _ (fun _ _ _ _ h => h) ⟨hJ.1, hJ.2.1, fun h => hJ.2.2 (Vals.jlisted (i := 0) h (by decide))⟩ (fun _ => rfl)
              | 1, ho, hd =>
                have ho' := ho
                simp only [List.getElem?_toArray, List.getElem?_cons_zero, List.getElem?_cons_succ, Option.some.injEq] at ho hd
                subst ho hd
                have r72 : a.eval (.tmp 72) = .pointer (some ⟨g, 3, none⟩) := hdep ⟨0, .data⟩ (by simp) rfl 72 rfl
                rw [Vals.eval_tmp] at r72
                have c0 := (HAr.out.below hJ.1 HBL.out.2).cell (i := 3) rfl
                refine Vals.wpOp_run ho' rfl ?_
                clear hdep hfr ho' hdf
                go_simp
                exact hK _ _ (fun _ _ _ _ h => h) ⟨hJ.1, hJ.2.1, fun h => hJ.2.2 (Vals.jlisted (i := 1) h (by decide))⟩ (fun _ => rfl)
              | 2, ho, hd =>
                have ho' := ho
                simp only [List.getElem?_toArray, List.getElem?_cons_zero, List.getElem?_cons_succ, Option.some.injEq] at ho hd
                subst ho hd
                have r1 : a.eval (.tmp 1) = .pointer (some ⟨w.heap.size, 0, none⟩) := hfr 1 (by decide)
                rw [Vals.eval_tmp] at r1
                refine Vals.wpOp_run ho' rfl ?_
                clear hdep hfr ho' hdf
                go_simp
                exact hK _ _ (fun _ _ _ _ h => h) ⟨hJ.1, hJ.2.1, fun h => hJ.2.2 (Vals.jlisted (i := 2) h (by decide))⟩ (fun _ => rfl)
              | 3, ho, hd =>
                have ho' := ho
                simp only [List.getElem?_toArray, List.getElem?_cons_zero, List.getElem?_cons_succ, Option.some.injEq] at ho hd
                subst ho hd
                have r74 : a.eval (.tmp 74) = .pointer (some ⟨w.heap.size, 2, none⟩) := hdep ⟨2, .data⟩ (by simp) rfl 74 rfl
                rw [Vals.eval_tmp] at r74
                have c0 := (HCr.out.below hJ.1 HBL.out.1).cell (i := 2) rfl
                refine Vals.wpOp_run ho' rfl ?_
                clear hdep hfr ho' hdf
                go_simp
                exact hK _ _ (fun _ _ _ _ h => h) ⟨hJ.1, hJ.2.1, fun h => hJ.2.2 (Vals.jlisted (i := 3) h (by decide))⟩ (fun _ => rfl)
              | 4, ho, hd =>
                have ho' := ho
                simp only [List.getElem?_toArray, List.getElem?_cons_zero, List.getElem?_cons_succ, Option.some.injEq] at ho hd
                subst ho hd
                have r5 : a.eval (.tmp 5) = .int .i64 (m : Int) := hfr 5 (by decide)
                rw [Vals.eval_tmp] at r5
                refine Vals.wpOp_run ho' rfl ?_
                clear hdep hfr ho' hdf
                go_simp
                exact hK _ _ (fun _ _ _ _ h => h) ⟨hJ.1, hJ.2.1, fun h => hJ.2.2 (Vals.jlisted (i := 4) h (by decide))⟩ (fun _ => rfl)
              | 5, ho, hd =>
                have ho' := ho
                simp only [List.getElem?_toArray, List.getElem?_cons_zero, List.getElem?_cons_succ, Option.some.injEq] at ho hd
                subst ho hd
                have r76 : a.eval (.tmp 76) = .int .i64 (m : Int) := hdep ⟨4, .data⟩ (by simp) rfl 76 rfl
                rw [Vals.eval_tmp] at r76
                refine Vals.wpOp_run ho' rfl ?_
                clear hdep hfr ho' hdf
                go_simp
                exact hK _ _ (fun _ _ _ _ h => h) ⟨hJ.1, hJ.2.1, fun h => hJ.2.2 (Vals.jlisted (i := 5) h (by decide))⟩ (fun _ => by first | rfl | exact congrArg (Value.int .i64) HW1.out)
              | 6, ho, hd =>
                have ho' := ho
                simp only [List.getElem?_toArray, List.getElem?_cons_zero, List.getElem?_cons_succ, Option.some.injEq] at ho hd
                subst ho hd
                have r77 : a.eval (.tmp 77) = .int .i64 (4 * (m : Int)) := hdep ⟨5, .data⟩ (by simp) rfl 77 rfl
                rw [Vals.eval_tmp] at r77
                refine Vals.wpOp_run ho' rfl ?_
                clear hdep hfr ho' hdf
                go_simp
                exact hK _ _ (fun _ _ _ _ h => h) ⟨hJ.1, hJ.2.1, fun h => hJ.2.2 (Vals.jlisted (i := 6) h (by decide))⟩ (fun _ => by first | rfl | exact congrArg (Value.int .i64) HW2.out)
              | 7, ho, hd =>
                have ho' := ho
                simp only [List.getElem?_toArray, List.getElem?_cons_zero, List.getElem?_cons_succ, Option.some.injEq] at ho hd
                subst ho hd
                have r8 : a.eval (.tmp 8) = .int .i64 (ib : Int) := hfr 8 (by decide)
                rw [Vals.eval_tmp] at r8
                refine Vals.wpOp_run ho' rfl ?_
                clear hdep hfr ho' hdf
                go_simp
                exact hK _ _ (fun _ _ _ _ h => h) ⟨hJ.1, hJ.2.1, fun h => hJ.2.2 (Vals.jlisted (i := 7) h (by decide))⟩ (fun _ => rfl)
              | 8, ho, hd =>
                have ho' := ho
                simp only [List.getElem?_toArray, List.getElem?_cons_zero, List.getElem?_cons_succ, Option.some.injEq] at ho hd
                subst ho hd
                have r79 : a.eval (.tmp 79) = .int .i64 (ib : Int) := hdep ⟨7, .data⟩ (by simp) rfl 79 rfl
                rw [Vals.eval_tmp] at r79
                refine Vals.wpOp_run ho' rfl ?_
                clear hdep hfr ho' hdf
                go_simp
                exact hK _ _ (fun _ _ _ _ h => h) ⟨hJ.1, hJ.2.1, fun h => hJ.2.2 (Vals.jlisted (i := 8) h (by decide))⟩ (fun _ => by first | rfl | exact congrArg (Value.int .i64) HW3.out)
              | 9, ho, hd =>
                have ho' := ho
                simp only [List.getElem?_toArray, List.getElem?_cons_zero, List.getElem?_cons_succ, Option.some.injEq] at ho hd
                subst ho hd
                have r78 : a.eval (.tmp 78) = .int .i64 (12 + 4 * (m : Int)) := hdep ⟨6, .data⟩ (by simp) rfl 78 rfl
                rw [Vals.eval_tmp] at r78
                have r80 : a.eval (.tmp 80) = .int .i64 (4 * (ib : Int)) := hdep ⟨8, .data⟩ (by simp) rfl 80 rfl
                rw [Vals.eval_tmp] at r80
                refine Vals.wpOp_run ho' rfl ?_
                clear hdep hfr ho' hdf
                go_simp
                exact hK _ _ (fun _ _ _ _ h => h) ⟨hJ.1, hJ.2.1, fun h => hJ.2.2 (Vals.jlisted (i := 9) h (by decide))⟩ (fun _ => by first | rfl | exact congrArg (Value.int .i64) HW4.out)
              | 10, ho, hd =>
                have ho' := ho
                simp only [List.getElem?_toArray, List.getElem?_cons_zero, List.getElem?_cons_succ, Option.some.injEq] at ho hd
                subst ho hd
                have r75 : a.eval (.tmp 75) = .slice p n c := hdep ⟨3, .data⟩ (by simp) rfl 75 rfl
                rw [Vals.eval_tmp] at r75
                have r81 : a.eval (.tmp 81) = .int .i64 (12 + 4 * (m : Int) + 4 * (ib : Int)) := hdep ⟨9, .data⟩ (by simp) rfl 81 rfl
                rw [Vals.eval_tmp] at r81
                refine Vals.wpOp_run ho' rfl ?_
                clear hdep hfr ho' hdf
                go_simp
                refine (HQ1.out W (HRX.out W hJ.1)).mono ?_
                rintro e w' ⟨rfl, hb3⟩
                exact hK _ _ (fun j x _ _ h => GSv_mono hb3 j x h) ⟨hJ.1.trans (hb3.mono hJ.2.1), Nat.le_trans hJ.2.1 hb3.size, fun h => ⟨owns_keep ((hJ.2.2 (Vals.jlisted (i := 10) h (by decide)))).1 hb3, owns_keep ((hJ.2.2 (Vals.jlisted (i := 10) h (by decide)))).2 hb3⟩⟩ (fun _ => rfl)
              | 11, ho, hd =>
                have ho' := ho
                simp only [List.getElem?_toArray, List.getElem?_cons_zero, List.getElem?_cons_succ, Option.some.injEq] at ho hd
                subst ho hd
                have r82 : a.eval (.tmp 82) = .int .u64 px := hdep ⟨10, .data⟩ (by simp) rfl 82 rfl
                rw [Vals.eval_tmp] at r82
                refine Vals.wpOp_run ho' rfl ?_
                clear hdep hfr ho' hdf
                go_simp
                exact hK _ _ (fun _ _ _ _ h => h) ⟨hJ.1, hJ.2.1, fun h => hJ.2.2 (Vals.jlisted (i := 11) h (by decide))⟩ (fun _ => (by first | rfl | exact congrArg (Value.int _) (Int.emod_eq_of_lt q0 q1)))
              | 12, ho, hd =>
                have ho' := ho
                simp only [List.getElem?_toArray, List.getElem?_cons_zero, List.getElem?_cons_succ, Option.some.injEq] at ho hd
                subst ho hd
                have r83 : a.eval (.tmp 83) = .int .u32 px := hdep ⟨11, .data⟩ (by simp) rfl 83 rfl
                rw [Vals.eval_tmp] at r83
                refine Vals.wpOp_run ho' rfl ?_
                clear hdep hfr ho' hdf
                go_simp
                have hb3 : Below W.heap.size W (W.alloc (.cells #[.int .u32 px] 22)) := (Below.refl _ _).alloc (Nat.le_refl _) _
                exact hK _ _ (fun j x _ _ h => GSv_mono hb3 j x h) ⟨hJ.1.trans (hb3.mono hJ.2.1), Nat.le_trans hJ.2.1 hb3.size, fun h => ⟨owns_keep ((hJ.2.2 (Vals.jlisted (i := 12) h (by decide)))).1 hb3, owns_keep ((hJ.2.2 (Vals.jlisted (i := 12) h (by decide)))).2 hb3⟩⟩ (fun _ => ⟨_, rfl, HSZ.out W hJ.1, arr_new _ _ _⟩)
              | 13, ho, hd =>
                have ho' := ho
                simp only [List.getElem?_toArray, List.getElem?_cons_zero, List.getElem?_cons_succ, Option.some.injEq] at ho hd
                subst ho hd
                have r73 : a.eval (.tmp 73) = .slice b2 ib e2 := hdep ⟨1, .data⟩ (by simp) rfl 73 rfl
                rw [Vals.eval_tmp] at r73
                have g84 : ∃ gs_84, a.eval (.tmp 84) = .slice (some ⟨gs_84, 0, none⟩) 1 1 ∧ wr.heap.size ≤ gs_84 ∧ Arr W gs_84 22 [.int .u32 px] := hdep ⟨12, .data⟩ (by simp) rfl 84 rfl
                rw [Vals.eval_tmp] at g84
                obtain ⟨gs_84, r84, h84_0, h84_1⟩ := g84
                obtain ⟨a9, c9, W9, hrun, H9⟩ := owns_append1 Try.infoU32 Try.underlying50 rfl (by decide) (by decide) (hJ.2.2 hun).1 hJ.2.1 (by have := HKN.out; omega) gs_84 [.int .u32 px] rfl h84_1 (by intro u hu; simp at hu; first | (rcases hu with rfl | rfl <;> rfl) | (subst hu; rfl))
                have hb9 : Below base W W9 := ⟨H9.out.2.os, H9.out.2.tape, H9.out.2.output, H9.out.2.size, fun k hk => H9.out.2.block k (Nat.lt_of_lt_of_le hk hJ.2.1) (fun e => by have := (World.ownsRow.lt (hJ.2.2 hun).1 k e.symm).1; omega)⟩
                have hrow9 := HAPP.out W9 a9 c9 H9.out.1
                have hoth9 := HOTH.out W W9 (hJ.2.2 hun).1 (hJ.2.2 hun).2 H9.out.2
                refine Vals.wpOp_run ho' rfl ?_
                clear hdep hfr ho' hdf
                refine Vals.oper_append_run (.tmp 73) (.tmp 84) 50 rfl _ _ _ W9 (by rw [Vals.eval_tmp]; exact r73) (by rw [Vals.eval_tmp]; exact r84) hrun ?_
                exact hK _ _ (fun jj x hlj hji h => GSv_app HRB.out H9.out.2 hji h) ⟨hJ.1.trans hb9, Nat.le_trans hJ.2.1 H9.out.2.size, fun h => (Vals.jself (by rw [hls]; decide) h).elim⟩ (fun _ => ⟨_, _, rfl, hrow9, hoth9⟩)
              | 14, ho, hd =>
                have ho' := ho
                simp only [List.getElem?_toArray, List.getElem?_cons_zero, List.getElem?_cons_succ, Option.some.injEq] at ho hd
                subst ho hd
                have r4 : a.eval (.tmp 4) = .pointer (some ⟨g, 0, none⟩) := hfr 4 (by decide)
                rw [Vals.eval_tmp] at r4
                refine Vals.wpOp_run ho' rfl ?_
                clear hdep hfr ho' hdf
                go_simp
                exact hK _ _ (fun _ _ _ _ h => h) ⟨hJ.1, hJ.2.1, fun h => hJ.2.2 (Vals.jlisted (i := 14) h (by decide))⟩ (fun _ => rfl)
              | ib + 15, ho, hd => omega
            case fin15 =>
              intro listed W fq hall hJ hG
              have q0 : fq 72 = .pointer (some ⟨g, 3, none⟩) := hG 0 72 rfl
              have q1 : fq 73 = .slice b2 ib e2 := hG 1 73 rfl
              have q2 : fq 74 = .pointer (some ⟨w.heap.size, 2, none⟩) := hG 2 74 rfl
              have q3 : fq 75 = .slice p n c := hG 3 75 rfl
              have q4 : fq 76 = .int .i64 (m : Int) := hG 4 76 rfl
              have q5 : fq 77 = .int .i64 (4 * (m : Int)) := hG 5 77 rfl
              have q6 : fq 78 = .int .i64 (12 + 4 * (m : Int)) := hG 6 78 rfl
              have q7 : fq 79 = .int .i64 (ib : Int) := hG 7 79 rfl
              have q8 : fq 80 = .int .i64 (4 * (ib : Int)) := hG 8 80 rfl
              have q9 : fq 81 = .int .i64 (12 + 4 * (m : Int) + 4 * (ib : Int)) := hG 9 81 rfl
              have q10 : fq 82 = .int .u64 px := hG 10 82 rfl
              have q11 : fq 83 = .int .u32 px := hG 11 83 rfl
              obtain ⟨gs_84, q12, hq84_0, hq84_1⟩ : ∃ gs_84, fq 84 = .slice (some ⟨gs_84, 0, none⟩) 1 1 ∧ wr.heap.size ≤ gs_84 ∧ Arr W gs_84 22 [.int .u32 px] := hG 12 84 rfl
              obtain ⟨a9_85, c9_85, q13, hq85_0, hq85_1⟩ : ∃ a9_85 c9_85, fq 85 = .slice a9_85 (ib + 1) c9_85 ∧ Row32 base W a9_85 (ib + 1) c9_85 (numsAt zs (12 + 4 * m) (ib + 1)) ∧ RowP 79 base W a1 m c1 gs1 := hG 13 85 rfl
              have q14 : fq 86 = .pointer (some ⟨g, 3, none⟩) := hG 14 86 rfl
              clear hG hall
              refine Vals.wpOp_run rfl rfl ?_
              simp only [Vals.puts, Vals.pairs, List.filterMap_cons, List.filterMap_nil, id, List.map_cons, List.map_nil, List.foldl_cons, List.foldl_nil, q0, q1, q2, q3, q4, q5, q6, q7, q8, q9, q10, q11, q12, q13, q14]
              clear q0 q1 q2 q3 q4 q5 q6 q7 q8 q9 q10 q11 q12 q13 q14
              go_frame
              have hj1 : Below base wr W := hJ.1
              have hA5 := HAr.out.below hj1 HBL.out.2
              have ht5 : Turn [g] v0 W := ⟨hj1.os.trans HTr.out.os, hj1.tape.trans HTr.out.tape, hj1.output.trans HTr.out.output, Nat.le_trans HTr.out.size hj1.size, fun ii hi hn => (hj1.block ii (by rw [HBASE.out]; exact hi)).trans (HTr.out.block ii hi hn)⟩
              obtain ⟨w6, hw6⟩ : ∃ w6, W.setCell ⟨g, 3, none⟩ (.slice a9_85 (ib + 1) c9_85) = w6 := ⟨_, rfl⟩
              have hA6 : Arr w6 g 52 [.int .u32 x0, .int .u32 x1, .slice a1 m c1, .slice a9_85 (ib + 1) c9_85] := by rw [← hw6]; exact hA5.set 3 _
              have ht6 : Turn [g] v0 w6 := by rw [← hw6]; exact ht5.setCell (p := ⟨g, 3, none⟩) (by simp) _
              have hO6 : Row32 v0.heap.size w6 a9_85 (ib + 1) c9_85 (numsAt zs (12 + 4 * m) (ib + 1)) := by rw [← hw6, ← HBASE.out]; exact Row32.setAt hq85_0 HBL.out.2 3 _
              have hP6 : RowP 79 v0.heap.size w6 a1 m c1 gs1 := by rw [← hw6, ← HBASE.out]; exact RowP.setAt hq85_1 HBL.out.2 3 _
              have fr := hA5.free 3
              have y1 := hA5.cell (i := 3) rfl
              have H6 := Lib.hid (And.intro hA6 (And.intro hO6 (And.intro hP6 ht6)))
              clear hj1 hA5 ht5 hA6 ht6 hO6 hP6 hJ hq85_0 hq85_1 hq84_0 hq84_1
              go_simp
              go_wp2
              exact ⟨⟨ib + 1, a9_85, c9_85, HKN.out.1, congrArg (Value.int .i64) (by omega), H6.out⟩, by simp [intOf]; omega⟩
          · have hlti : ¬ (ib : Int) < (q : Int) := by omega
            obtain rfl : q = ib := by omega
            have hds : ds1 = numsAt zs (12 + 4 * m) q := HGS.out.2
            have hing : ∀ p ∈ gs1, InP p := by rw [HGS.out.1]; exact pairsAt_in hz 12 m
            have hind : ∀ z ∈ ds1, (Lit.int .u32 z).wf = true := by rw [hds]; exact numsAt_in hz _ _
            have hrd32 : Row32 base wr b2 q e2 ds1 := by rw [hds]; exact HOr.out
            have hj6 : m ≤ 1048576 := by omega
            have hi6 : q ≤ 1048576 := by omega
            have HPG := Lib.hid (RowP.prs HPr.out hing)
            have HND := Lib.hid (Row32.nums hrd32 hind hi6)
            have HRR := Lib.hid (And.intro HPr.out (And.intro hrd32 (And.intro hing hind)))
            have HK1 := Lib.hid hj6
            have HK2 := Lib.hid hi6
            have HRW6 := Lib.hid (HRW.out wr HBr.out)
            have HZ6 := Lib.hid (HZ.out.keep HBr.out)
            have HBV := Lib.hid (HBE.out.1.trans (HBr.out.mono HBE.out.1.size))
            obtain ⟨vv, hvv⟩ : ∃ vv, apartF 0 gs1 = vv := ⟨_, rfl⟩
            have HVV := Lib.hid hvv
            obtain ⟨bb, hbb⟩ : ∃ bb, bb = eqC 3 0 (sackB x0 x1 gs1 ds1) k f zs := ⟨_, rfl⟩
            have HBB := Lib.hid hbb
            have HB1L := Lib.hid (show w.heap.size + 1 < base by have := HBL.out.2; have := HGN.out; have := HBE.out.2; omega)
            clear hds hing hind hrd32 hvv hbb HOr HPr HRX HSZ hj6 hi6
            cases vv with
            | false =>
              go_wp2_with fail
              refine wp_region_any (by kernel_rfl) ?_
              refine Vals.wpAny_goodW (GSwfalse w wr g k f x0 x1 p n c a1 m c1 b2 q e2 gs1 ds1 bb) (fun _ => (fun W => Below wr.heap.size wr W)) [some 87, some 88, some 89, some 90, some 91, some 92, some 93, some 94, some 95, some 96, some 97] 100 _ _ rfl (by kernel_rfl) (by kernel_rfl) (by decide) ?step16 ?fin16 (Below.refl _ _).drew
              case step16 =>
                intro i o d ho hd listed a W hls hun hcl hJ hdf hdep hfr K hK
                match i, ho, hd with
                | 0, ho, hd =>
                  have ho' := ho
                  simp only [List.getElem?_toArray, List.getElem?_cons_zero, Option.some.injEq] at ho hd
                  subst ho hd
                  have r4 : a.eval (.tmp 4) = .pointer (some ⟨g, 0, none⟩) := hfr 4 (by decide)
                  rw [Vals.eval_tmp] at r4
                  refine Vals.wpOp_run ho' rfl ?_
                  clear hdep hfr ho' hdf hcl
                  go_simp
                  exact hK _ _ (fun _ _ h => h) hJ (fun _ => rfl)
                | 1, ho, hd =>
                  have ho' := ho
                  simp only [List.getElem?_toArray, List.getElem?_cons_zero, List.getElem?_cons_succ, Option.some.injEq] at ho hd
                  subst ho hd
                  have r87 : a.eval (.tmp 87) = .pointer (some ⟨g, 2, none⟩) := (hdep ⟨0, .data⟩ (by simp) rfl).2 87 rfl
                  rw [Vals.eval_tmp] at r87
                  have c0 := (HAr.out.keep hJ).cell (i := 2) rfl
                  refine Vals.wpOp_run ho' rfl ?_
                  clear hdep hfr ho' hdf hcl
                  go_simp
                  exact hK _ _ (fun _ _ h => h) hJ (fun _ => rfl)
                | 2, ho, hd =>
                  have ho' := ho
                  simp only [List.getElem?_toArray, List.getElem?_cons_zero, List.getElem?_cons_succ, Option.some.injEq] at ho hd
                  subst ho hd
                  have r88 : a.eval (.tmp 88) = .slice a1 m c1 := (hdep ⟨1, .data⟩ (by simp) rfl).2 88 rfl
                  rw [Vals.eval_tmp] at r88
                  refine Vals.wpOp_run ho' rfl ?_
                  clear hdep hfr ho' hdf hcl
                  go_simp
                  refine (rApart_any a1 m c1 gs1 W (HPG.out.below hJ (Nat.le_refl _)) HK1.out).mono ?_
                  rintro e w' ⟨rfl, hb3⟩
                  exact hK _ _ (GSwfalse_mono hb3) (hJ.trans (hb3.mono hJ.size)) (fun _ => by show Value.bool _ = Value.bool _; rw [HVV.out])
                | 3, ho, hd =>
                  have ho' := ho
                  simp only [List.getElem?_toArray, List.getElem?_cons_zero, List.getElem?_cons_succ, Option.some.injEq] at ho hd
                  subst ho hd
                  have r89 : a.eval (.tmp 89) = .bool false := (hdep ⟨2, .data⟩ (by simp) rfl).2 89 rfl
                  rw [Vals.eval_tmp] at r89
                  refine Vals.wpOp_run ho' rfl ?_
                  clear hdep hfr ho' hdf hcl
                  go_simp
                  exact hK _ _ (fun _ _ h => h) hJ (fun _ => rfl)
                | 4, ho, hd =>
                  have ho' := ho
                  simp only [List.getElem?_toArray, List.getElem?_cons_zero, List.getElem?_cons_succ, Option.some.injEq] at ho hd
                  subst ho hd
                  have r90 : a.eval (.tmp 90) = .bool true := (hdep ⟨3, .data⟩ (by simp) rfl).2 90 rfl
                  rw [Vals.eval_tmp] at r90
                  refine Vals.wpOp_run ho' rfl ?_
                  clear hdep hfr ho' hdf hcl
                  go_simp
                  exact hK _ _ (fun _ _ h => h) hJ (fun _ => rfl)
                | 5, ho, hd =>
                  have ho' := ho
                  simp only [List.getElem?_toArray, List.getElem?_cons_zero, List.getElem?_cons_succ, Option.some.injEq] at ho hd
                  subst ho hd
                  have hgd : a.eval (.tmp 91) = .bool true := (hdep ⟨4, .guard⟩ (by simp) rfl).2 91 rfl
                  exact Vals.wpOp_skip ho' (by unfold Region.wanted; simp only []; rw [Vals.yielded_of (d := 91) rfl hgd]; rfl) (hK _ _ (fun _ _ h => h) hJ (fun _ => rfl))
                | 6, ho, hd =>
                  have ho' := ho
                  simp only [List.getElem?_toArray, List.getElem?_cons_zero, List.getElem?_cons_succ, Option.some.injEq] at ho hd
                  subst ho hd
                  have hgd : a.eval (.tmp 91) = .bool true := (hdep ⟨4, .guard⟩ (by simp) rfl).2 91 rfl
                  exact Vals.wpOp_skip ho' (by unfold Region.wanted; simp only []; rw [Vals.yielded_of (d := 91) rfl hgd]; rfl) (hK _ _ (fun _ _ h => h) hJ (fun _ => rfl))
                | 7, ho, hd =>
                  have ho' := ho
                  simp only [List.getElem?_toArray, List.getElem?_cons_zero, List.getElem?_cons_succ, Option.some.injEq] at ho hd
                  subst ho hd
                  have hgd : a.eval (.tmp 91) = .bool true := (hdep ⟨4, .guard⟩ (by simp) rfl).2 91 rfl
                  exact Vals.wpOp_skip ho' (by unfold Region.wanted; simp only []; rw [Vals.yielded_of (d := 91) rfl hgd]; rfl) (hK _ _ (fun _ _ h => h) hJ (fun _ => rfl))
                | 8, ho, hd =>
                  have ho' := ho
                  simp only [List.getElem?_toArray, List.getElem?_cons_zero, List.getElem?_cons_succ, Option.some.injEq] at ho hd
                  subst ho hd
                  have hgd : a.eval (.tmp 91) = .bool true := (hdep ⟨4, .guard⟩ (by simp) rfl).2 91 rfl
                  exact Vals.wpOp_skip ho' (by unfold Region.wanted; simp only []; rw [Vals.yielded_of (d := 91) rfl hgd]; rfl) (hK _ _ (fun _ _ h => h) hJ (fun _ => rfl))
                | 9, ho, hd =>
                  have ho' := ho
                  simp only [List.getElem?_toArray, List.getElem?_cons_zero, List.getElem?_cons_succ, Option.some.injEq] at ho hd
                  subst ho hd
                  have hgd : a.eval (.tmp 91) = .bool true := (hdep ⟨4, .guard⟩ (by simp) rfl).2 91 rfl
                  exact Vals.wpOp_skip ho' (by unfold Region.wanted; simp only []; rw [Vals.yielded_of (d := 91) rfl hgd]; rfl) (hK _ _ (fun _ _ h => h) hJ (fun _ => rfl))
                | 10, ho, hd =>
                  have ho' := ho
                  simp only [List.getElem?_toArray, List.getElem?_cons_zero, List.getElem?_cons_succ, Option.some.injEq] at ho hd
                  subst ho hd
                  have r91 : a.eval (.tmp 91) = .bool true := (hdep ⟨4, .data⟩ (by simp) rfl).2 91 rfl
                  rw [Vals.eval_tmp] at r91
                  refine Vals.wpOp_run ho' rfl ?_
                  clear hdep hfr ho' hdf hcl
                  go_simp
                  exact hK _ _ (fun _ _ h => h) hJ (fun _ => rfl)
                | ib + 11, ho, hd => simp at ho
              case fin16 =>
                intro listed W fq hall hJ hG
                have q0 : fq 87 = .pointer (some ⟨g, 2, none⟩) := hG 0 87 rfl
                have q1 : fq 88 = .slice a1 m c1 := hG 1 88 rfl
                have q2 : fq 89 = .bool false := hG 2 89 rfl
                have q3 : fq 90 = .bool true := hG 3 90 rfl
                have q4 : fq 91 = .bool true := hG 4 91 rfl
                have q5 : fq 92 = undef := hG 5 92 rfl
                have q6 : fq 93 = undef := hG 6 93 rfl
                have q7 : fq 94 = undef := hG 7 94 rfl
                have q8 : fq 95 = undef := hG 8 95 rfl
                have q9 : fq 96 = undef := hG 9 96 rfl
                have q10 : fq 97 = .bool true := hG 10 97 rfl
                clear hG hall
                simp only [Vals.puts, Vals.pairs, List.filterMap_cons, List.filterMap_nil, id, List.map_cons, List.map_nil, List.foldl_cons, List.foldl_nil, q0, q1, q2, q3, q4, q5, q6, q7, q8, q9, q10]
                clear q0 q1 q2 q3 q4 q5 q6 q7 q8 q9 q10
                go_frame
                have hz7 := HZ6.out.keep hJ
                have hB7 := HBV.out.trans (hJ.mono HBV.out.size)
                have hd7 := HAr.out.keep hJ
                have r1 : RowP 79 base W a1 m c1 gs1 := owns_keep HRR.out.1 hJ
                have r2 : Row32 base W b2 q e2 ds1 := owns_keep HRR.out.2.1 hJ
                clear hJ HCr HAr HRW6 HZ6 HBV
                have r3 := (RowP.prs (RowP.setAt (RowP.setAt (RowP.setAt (RowP.setAt r1 HB1L.out 0 (.int .u32 0)) HB1L.out 1 (.int .u32 0)) HB1L.out 2 (.slice none 0 0)) HB1L.out 3 (.slice none 0 0)) HRR.out.2.2.1)
                have r4 := (Row32.nums (Row32.setAt (Row32.setAt (Row32.setAt (Row32.setAt r2 HB1L.out 0 (.int .u32 0)) HB1L.out 1 (.int .u32 0)) HB1L.out 2 (.slice none 0 0)) HB1L.out 3 (.slice none 0 0)) HRR.out.2.2.2 HK2.out)
                have HR34 := Lib.hid (And.intro r3 r4)
                clear r1 r2 r3 r4
                obtain ⟨w8, hw8⟩ : ∃ x, ((((W.setCell ⟨(w.heap.size + 1), 0, none⟩ (.int .u32 0)).setCell ⟨(w.heap.size + 1), 1, none⟩ (.int .u32 0)).setCell ⟨(w.heap.size + 1), 2, none⟩ (.slice none 0 0)).setCell ⟨(w.heap.size + 1), 3, none⟩ (.slice none 0 0)) = x := ⟨_, rfl⟩
                have hA4 : Arr _ (w.heap.size + 1) 52 [.int .u32 0, .int .u32 0, .slice none 0 0, .slice none 0 0] := ((((hz7.set 0 (.int .u32 0)).set 1 (.int .u32 0)).set 2 (.slice none 0 0)).set 3 (.slice none 0 0))
                have hB4 := ((((hB7.setCell (p := ⟨(w.heap.size + 1), 0, none⟩) (by simp) (.int .u32 0)).setCell (p := ⟨(w.heap.size + 1), 1, none⟩) (by simp) (.int .u32 0)).setCell (p := ⟨(w.heap.size + 1), 2, none⟩) (by simp) (.slice none 0 0)).setCell (p := ⟨(w.heap.size + 1), 3, none⟩) (by simp) (.slice none 0 0))
                rw [hw8] at hA4 hB4
                have fs0 := hz7.free 0
                have fs1 := hz7.free 1
                have fs2 := hz7.free 2
                have fs3 := hz7.free 3
                have yy0 := hz7.cell (i := 0) rfl
                have yy1 := hz7.cell (i := 1) rfl
                have yy2 := hz7.cell (i := 2) rfl
                have yy3 := hz7.cell (i := 3) rfl
                have zz0 := hA4.cell (i := 0) rfl
                have zz1 := hA4.cell (i := 1) rfl
                have zz2 := hA4.cell (i := 2) rfl
                have zz3 := hA4.cell (i := 3) rfl
                have HE := Lib.hid hB4
                clear hA4 hB4 hz7 hB7 hd7
                go_wp2
                refine bodyPost_ret (by simp [results, Try.results31, go_sem, zz0, zz1, zz2, zz3] <;> rfl) rfl ?_
                have hg1 := HPG.out.1
                have hd1 := HND.out.1
                obtain ⟨r5, r6⟩ := HR34.out
                rw [hw8] at r5 r6
                have hvv := HVV.out
                have hbb := HBB.out
                refine ⟨a1, c1, b2, e2, ?_, HE.out, by rw [hg1]; exact r5, by rw [hd1]; exact r6⟩
                rw [hg1, hd1, hvv]
                exact .inr ⟨by simp, rfl⟩
            | true =>
              go_wp2_with fail
              refine wp_region_any (by kernel_rfl) ?_
              refine Vals.wpAny_goodW (GSwtrue w wr g k f x0 x1 p n c a1 m c1 b2 q e2 gs1 ds1 bb) (fun _ => (fun W => Below wr.heap.size wr W)) [some 87, some 88, some 89, some 90, some 91, some 92, some 93, some 94, some 95, some 96, some 97] 100 _ _ rfl (by kernel_rfl) (by kernel_rfl) (by decide) ?step17 ?fin17 (Below.refl _ _).drew
              case step17 =>
                intro i o d ho hd listed a W hls hun hcl hJ hdf hdep hfr K hK
                match i, ho, hd with
                | 0, ho, hd =>
                  have ho' := ho
                  simp only [List.getElem?_toArray, List.getElem?_cons_zero, Option.some.injEq] at ho hd
                  subst ho hd
                  have r4 : a.eval (.tmp 4) = .pointer (some ⟨g, 0, none⟩) := hfr 4 (by decide)
                  rw [Vals.eval_tmp] at r4
                  refine Vals.wpOp_run ho' rfl ?_
                  clear hdep hfr ho' hdf hcl
                  go_simp
                  exact hK _ _ (fun _ _ h => h) hJ (fun _ => rfl)
                | 1, ho, hd =>
                  have ho' := ho
                  simp only [List.getElem?_toArray, List.getElem?_cons_zero, List.getElem?_cons_succ, Option.some.injEq] at ho hd
                  subst ho hd
                  have r87 : a.eval (.tmp 87) = .pointer (some ⟨g, 2, none⟩) := (hdep ⟨0, .data⟩ (by simp) rfl).2 87 rfl
                  rw [Vals.eval_tmp] at r87
                  have c0 := (HAr.out.keep hJ).cell (i := 2) rfl
                  refine Vals.wpOp_run ho' rfl ?_
                  clear hdep hfr ho' hdf hcl
                  go_simp
                  exact hK _ _ (fun _ _ h => h) hJ (fun _ => rfl)
                | 2, ho, hd =>
                  have ho' := ho
                  simp only [List.getElem?_toArray, List.getElem?_cons_zero, List.getElem?_cons_succ, Option.some.injEq] at ho hd
                  subst ho hd
                  have r88 : a.eval (.tmp 88) = .slice a1 m c1 := (hdep ⟨1, .data⟩ (by simp) rfl).2 88 rfl
                  rw [Vals.eval_tmp] at r88
                  refine Vals.wpOp_run ho' rfl ?_
                  clear hdep hfr ho' hdf hcl
                  go_simp
                  refine (rApart_any a1 m c1 gs1 W (HPG.out.below hJ (Nat.le_refl _)) HK1.out).mono ?_
                  rintro e w' ⟨rfl, hb3⟩
                  exact hK _ _ (GSwtrue_mono hb3) (hJ.trans (hb3.mono hJ.size)) (fun _ => by show Value.bool _ = Value.bool _; rw [HVV.out])
                | 3, ho, hd =>
                  have ho' := ho
                  simp only [List.getElem?_toArray, List.getElem?_cons_zero, List.getElem?_cons_succ, Option.some.injEq] at ho hd
                  subst ho hd
                  have r89 : a.eval (.tmp 89) = .bool true := (hdep ⟨2, .data⟩ (by simp) rfl).2 89 rfl
                  rw [Vals.eval_tmp] at r89
                  refine Vals.wpOp_run ho' rfl ?_
                  clear hdep hfr ho' hdf hcl
                  go_simp
                  exact hK _ _ (fun _ _ h => h) hJ (fun _ => rfl)
                | 4, ho, hd =>
                  have ho' := ho
                  simp only [List.getElem?_toArray, List.getElem?_cons_zero, List.getElem?_cons_succ, Option.some.injEq] at ho hd
                  subst ho hd
                  have r90 : a.eval (.tmp 90) = .bool false := (hdep ⟨3, .data⟩ (by simp) rfl).2 90 rfl
                  rw [Vals.eval_tmp] at r90
                  refine Vals.wpOp_run ho' rfl ?_
                  clear hdep hfr ho' hdf hcl
                  go_simp
                  exact hK _ _ (fun _ _ h => h) hJ (fun _ => rfl)
                | 5, ho, hd =>
                  have ho' := ho
                  simp only [List.getElem?_toArray, List.getElem?_cons_zero, List.getElem?_cons_succ, Option.some.injEq] at ho hd
                  subst ho hd
                  have hgd : a.eval (.tmp 91) = .bool false := (hdep ⟨4, .guard⟩ (by simp) rfl).2 91 rfl
                  have r4 : a.eval (.tmp 4) = .pointer (some ⟨g, 0, none⟩) := hfr 4 (by decide)
                  rw [Vals.eval_tmp] at r4
                  have c0 := (HAr.out.keep hJ).cell (i := 0) rfl
                  have c1 := (HAr.out.keep hJ).cell (i := 1) rfl
                  have c2 := (HAr.out.keep hJ).cell (i := 2) rfl
                  have c3 := (HAr.out.keep hJ).cell (i := 3) rfl
                  refine Vals.wpOp_run ho' (by unfold Region.wanted; simp only []; rw [Vals.yielded_of (d := 91) rfl hgd]; rfl) ?_
                  clear hdep hfr ho' hdf hgd hcl
                  go_simp
                  exact hK _ _ (fun _ _ h => h) hJ (fun _ => rfl)
                | 6, ho, hd =>
                  have ho' := ho
                  simp only [List.getElem?_toArray, List.getElem?_cons_zero, List.getElem?_cons_succ, Option.some.injEq] at ho hd
                  subst ho hd
                  have hgd : a.eval (.tmp 91) = .bool false := (hdep ⟨4, .guard⟩ (by simp) rfl).2 91 rfl
                  have r92 : a.eval (.tmp 92) = .agg #[.int .u32 x0, .int .u32 x1, .slice a1 m c1, .slice b2 q e2] := (hdep ⟨5, .data⟩ (by simp) rfl).2 92 rfl
                  rw [Vals.eval_tmp] at r92
                  refine Vals.wpOp_run ho' (by unfold Region.wanted; simp only []; rw [Vals.yielded_of (d := 91) rfl hgd]; rfl) ?_
                  clear hdep hfr ho' hdf hgd hcl
                  go_simp
                  refine (rputSack x0 x1 a1 m c1 gs1 b2 q e2 ds1 W (HPG.out.below hJ (Nat.le_refl _)) (HND.out.below hJ (Nat.le_refl _)) HK1.out HK2.out lox0 hix0 lox1 hix1).mono ?_
                  rintro e w' ⟨b1, e1, rfl, hb3, hr3⟩
                  exact hK _ _ (GSwtrue_mono hb3) (hJ.trans (hb3.mono hJ.size)) (fun _ => ⟨_, _, rfl, hr3.reads⟩)
                | 7, ho, hd =>
                  have ho' := ho
                  simp only [List.getElem?_toArray, List.getElem?_cons_zero, List.getElem?_cons_succ, Option.some.injEq] at ho hd
                  subst ho hd
                  have hgd : a.eval (.tmp 91) = .bool false := (hdep ⟨4, .guard⟩ (by simp) rfl).2 91 rfl
                  have r1 : a.eval (.tmp 1) = .pointer (some ⟨w.heap.size, 0, none⟩) := hfr 1 (by decide)
                  rw [Vals.eval_tmp] at r1
                  have c0 := (HCr.out.keep hJ).cell (i := 0) rfl
                  have c1 := (HCr.out.keep hJ).cell (i := 1) rfl
                  have c2 := (HCr.out.keep hJ).cell (i := 2) rfl
                  refine Vals.wpOp_run ho' (by unfold Region.wanted; simp only []; rw [Vals.yielded_of (d := 91) rfl hgd]; rfl) ?_
                  clear hdep hfr ho' hdf hgd hcl
                  go_simp
                  exact hK _ _ (fun _ _ h => h) hJ (fun _ => rfl)
                | 8, ho, hd =>
                  have ho' := ho
                  simp only [List.getElem?_toArray, List.getElem?_cons_zero, List.getElem?_cons_succ, Option.some.injEq] at ho hd
                  subst ho hd
                  have hgd : a.eval (.tmp 91) = .bool false := (hdep ⟨4, .guard⟩ (by simp) rfl).2 91 rfl
                  have g93 : ∃ b1_93 e1_93, a.eval (.tmp 93) = .agg #[.int .u8 3, .int .u8 0, .slice b1_93 (sackB x0 x1 gs1 ds1).length e1_93] ∧ Reads W b1_93 (sackB x0 x1 gs1 ds1).length (sackB x0 x1 gs1 ds1) := (hdep ⟨6, .data⟩ (by simp) rfl).2 93 rfl
                  rw [Vals.eval_tmp] at g93
                  obtain ⟨b1_93, e1_93, r93, h93_0⟩ := g93
                  have r94 : a.eval (.tmp 94) = .agg #[.int .u8 k, .int .u8 f, .slice p n c] := (hdep ⟨7, .data⟩ (by simp) rfl).2 94 rfl
                  rw [Vals.eval_tmp] at r94
                  refine Vals.wpOp_run ho' (by unfold Region.wanted; simp only []; rw [Vals.yielded_of (d := 91) rfl hgd]; rfl) ?_
                  clear hdep hfr ho' hdf hgd hcl
                  go_simp
                  refine (rsame_any 3 0 k f b1_93 p _ n _ c (sackB x0 x1 gs1 ds1) zs W h93_0 (HRW6.out.below hJ) (sackB_byt _ _ _ _) hz (by rw [sackB_len, HPG.out.1, HND.out.1]; have := HK1.out; have := HK2.out; omega) (by omega)).mono ?_
                  rintro e w' ⟨rfl, hb3⟩
                  exact hK _ _ (GSwtrue_mono hb3) (hJ.trans (hb3.mono hJ.size)) (fun _ => by show Value.bool _ = Value.bool _; rw [HBB.out])
                | 9, ho, hd =>
                  have ho' := ho
                  simp only [List.getElem?_toArray, List.getElem?_cons_zero, List.getElem?_cons_succ, Option.some.injEq] at ho hd
                  subst ho hd
                  have hgd : a.eval (.tmp 91) = .bool false := (hdep ⟨4, .guard⟩ (by simp) rfl).2 91 rfl
                  have r95 : a.eval (.tmp 95) = .bool bb := (hdep ⟨8, .data⟩ (by simp) rfl).2 95 rfl
                  rw [Vals.eval_tmp] at r95
                  refine Vals.wpOp_run ho' (by unfold Region.wanted; simp only []; rw [Vals.yielded_of (d := 91) rfl hgd]; rfl) ?_
                  clear hdep hfr ho' hdf hgd hcl
                  go_simp
                  exact hK _ _ (fun _ _ h => h) hJ (fun _ => rfl)
                | 10, ho, hd =>
                  have ho' := ho
                  simp only [List.getElem?_toArray, List.getElem?_cons_zero, List.getElem?_cons_succ, Option.some.injEq] at ho hd
                  subst ho hd
                  have r91 : a.eval (.tmp 91) = .bool false := (hdep ⟨4, .data⟩ (by simp) rfl).2 91 rfl
                  rw [Vals.eval_tmp] at r91
                  have r96 : a.eval (.tmp 96) = .bool (!bb) := (hdep ⟨9, .data⟩ (by simp) rfl).2 96 rfl
                  rw [Vals.eval_tmp] at r96
                  refine Vals.wpOp_run ho' rfl ?_
                  clear hdep hfr ho' hdf hcl
                  go_simp
                  exact hK _ _ (fun _ _ h => h) hJ (fun _ => rfl)
                | ib + 11, ho, hd => simp at ho
              case fin17 =>
                intro listed W fq hall hJ hG
                have q0 : fq 87 = .pointer (some ⟨g, 2, none⟩) := hG 0 87 rfl
                have q1 : fq 88 = .slice a1 m c1 := hG 1 88 rfl
                have q2 : fq 89 = .bool true := hG 2 89 rfl
                have q3 : fq 90 = .bool false := hG 3 90 rfl
                have q4 : fq 91 = .bool false := hG 4 91 rfl
                have q5 : fq 92 = .agg #[.int .u32 x0, .int .u32 x1, .slice a1 m c1, .slice b2 q e2] := hG 5 92 rfl
                obtain ⟨b1_93, e1_93, q6, hq93_0⟩ : ∃ b1_93 e1_93, fq 93 = .agg #[.int .u8 3, .int .u8 0, .slice b1_93 (sackB x0 x1 gs1 ds1).length e1_93] ∧ Reads W b1_93 (sackB x0 x1 gs1 ds1).length (sackB x0 x1 gs1 ds1) := hG 6 93 rfl
                have q7 : fq 94 = .agg #[.int .u8 k, .int .u8 f, .slice p n c] := hG 7 94 rfl
                have q8 : fq 95 = .bool bb := hG 8 95 rfl
                have q9 : fq 96 = .bool (!bb) := hG 9 96 rfl
                have q10 : fq 97 = .bool (!bb) := hG 10 97 rfl
                clear hG hall
                simp only [Vals.puts, Vals.pairs, List.filterMap_cons, List.filterMap_nil, id, List.map_cons, List.map_nil, List.foldl_cons, List.foldl_nil, q0, q1, q2, q3, q4, q5, q6, q7, q8, q9, q10]
                clear q0 q1 q2 q3 q4 q5 q6 q7 q8 q9 q10
                go_frame
                have hz7 := HZ6.out.keep hJ
                have hB7 := HBV.out.trans (hJ.mono HBV.out.size)
                have hd7 := HAr.out.keep hJ
                have r1 : RowP 79 base W a1 m c1 gs1 := owns_keep HRR.out.1 hJ
                have r2 : Row32 base W b2 q e2 ds1 := owns_keep HRR.out.2.1 hJ
                clear hJ HCr HRW6 HZ6 HBV HAr hq93_0 hlti
                generalize (sackB x0 x1 gs1 ds1).length = nb
                cases bb with
                | false =>
                  simp only [Bool.not_false]
                  have r3 := (RowP.prs (RowP.setAt (RowP.setAt (RowP.setAt (RowP.setAt r1 HB1L.out 0 (.int .u32 0)) HB1L.out 1 (.int .u32 0)) HB1L.out 2 (.slice none 0 0)) HB1L.out 3 (.slice none 0 0)) HRR.out.2.2.1)
                  have r4 := (Row32.nums (Row32.setAt (Row32.setAt (Row32.setAt (Row32.setAt r2 HB1L.out 0 (.int .u32 0)) HB1L.out 1 (.int .u32 0)) HB1L.out 2 (.slice none 0 0)) HB1L.out 3 (.slice none 0 0)) HRR.out.2.2.2 HK2.out)
                  have HR34 := Lib.hid (And.intro r3 r4)
                  clear r1 r2 r3 r4
                  obtain ⟨w8, hw8⟩ : ∃ x, ((((W.setCell ⟨(w.heap.size + 1), 0, none⟩ (.int .u32 0)).setCell ⟨(w.heap.size + 1), 1, none⟩ (.int .u32 0)).setCell ⟨(w.heap.size + 1), 2, none⟩ (.slice none 0 0)).setCell ⟨(w.heap.size + 1), 3, none⟩ (.slice none 0 0)) = x := ⟨_, rfl⟩
                  have hA4 : Arr _ (w.heap.size + 1) 52 [.int .u32 0, .int .u32 0, .slice none 0 0, .slice none 0 0] := ((((hz7.set 0 (.int .u32 0)).set 1 (.int .u32 0)).set 2 (.slice none 0 0)).set 3 (.slice none 0 0))
                  have hB4 := ((((hB7.setCell (p := ⟨(w.heap.size + 1), 0, none⟩) (by simp) (.int .u32 0)).setCell (p := ⟨(w.heap.size + 1), 1, none⟩) (by simp) (.int .u32 0)).setCell (p := ⟨(w.heap.size + 1), 2, none⟩) (by simp) (.slice none 0 0)).setCell (p := ⟨(w.heap.size + 1), 3, none⟩) (by simp) (.slice none 0 0))
                  rw [hw8] at hA4 hB4
                  have fs0 := hz7.free 0
                  have fs1 := hz7.free 1
                  have fs2 := hz7.free 2
                  have fs3 := hz7.free 3
                  have yy0 := hz7.cell (i := 0) rfl
                  have yy1 := hz7.cell (i := 1) rfl
                  have yy2 := hz7.cell (i := 2) rfl
                  have yy3 := hz7.cell (i := 3) rfl
                  have zz0 := hA4.cell (i := 0) rfl
                  have zz1 := hA4.cell (i := 1) rfl
                  have zz2 := hA4.cell (i := 2) rfl
                  have zz3 := hA4.cell (i := 3) rfl
                  have HE := Lib.hid hB4
                  clear hA4 hB4 hz7 hB7 hd7
                  go_wp2
                  refine bodyPost_ret (by simp [results, Try.results31, go_sem, zz0, zz1, zz2, zz3] <;> rfl) rfl ?_
                  have hg1 := HPG.out.1
                  have hd1 := HND.out.1
                  obtain ⟨r5, r6⟩ := HR34.out
                  rw [hw8] at r5 r6
                  have hvv := HVV.out
                  have hbb := HBB.out
                  refine ⟨a1, c1, b2, e2, ?_, HE.out, by rw [hg1]; exact r5, by rw [hd1]; exact r6⟩
                  rw [hg1, hd1, hvv]
                  exact .inr ⟨by rw [Bool.true_and, ← hbb], rfl⟩
                | true =>
                  simp only [Bool.not_true]
                  have dd0 := hd7.cell (i := 0) rfl
                  have dd1 := hd7.cell (i := 1) rfl
                  have dd2 := hd7.cell (i := 2) rfl
                  have dd3 := hd7.cell (i := 3) rfl
                  have r3 := (RowP.prs (RowP.setAt (RowP.setAt (RowP.setAt (RowP.setAt r1 HB1L.out 0 (.int .u32 x0)) HB1L.out 1 (.int .u32 x1)) HB1L.out 2 (.slice a1 m c1)) HB1L.out 3 (.slice b2 q e2)) HRR.out.2.2.1)
                  have r4 := (Row32.nums (Row32.setAt (Row32.setAt (Row32.setAt (Row32.setAt r2 HB1L.out 0 (.int .u32 x0)) HB1L.out 1 (.int .u32 x1)) HB1L.out 2 (.slice a1 m c1)) HB1L.out 3 (.slice b2 q e2)) HRR.out.2.2.2 HK2.out)
                  have HR34 := Lib.hid (And.intro r3 r4)
                  clear r1 r2 r3 r4
                  obtain ⟨w8, hw8⟩ : ∃ x, ((((W.setCell ⟨(w.heap.size + 1), 0, none⟩ (.int .u32 x0)).setCell ⟨(w.heap.size + 1), 1, none⟩ (.int .u32 x1)).setCell ⟨(w.heap.size + 1), 2, none⟩ (.slice a1 m c1)).setCell ⟨(w.heap.size + 1), 3, none⟩ (.slice b2 q e2)) = x := ⟨_, rfl⟩
                  have hA4 : Arr _ (w.heap.size + 1) 52 [.int .u32 x0, .int .u32 x1, .slice a1 m c1, .slice b2 q e2] := ((((hz7.set 0 (.int .u32 x0)).set 1 (.int .u32 x1)).set 2 (.slice a1 m c1)).set 3 (.slice b2 q e2))
                  have hB4 := ((((hB7.setCell (p := ⟨(w.heap.size + 1), 0, none⟩) (by simp) (.int .u32 x0)).setCell (p := ⟨(w.heap.size + 1), 1, none⟩) (by simp) (.int .u32 x1)).setCell (p := ⟨(w.heap.size + 1), 2, none⟩) (by simp) (.slice a1 m c1)).setCell (p := ⟨(w.heap.size + 1), 3, none⟩) (by simp) (.slice b2 q e2))
                  rw [hw8] at hA4 hB4
                  have fs0 := hz7.free 0
                  have fs1 := hz7.free 1
                  have fs2 := hz7.free 2
                  have fs3 := hz7.free 3
                  have yy0 := hz7.cell (i := 0) rfl
                  have yy1 := hz7.cell (i := 1) rfl
                  have yy2 := hz7.cell (i := 2) rfl
                  have yy3 := hz7.cell (i := 3) rfl
                  have zz0 := hA4.cell (i := 0) rfl
                  have zz1 := hA4.cell (i := 1) rfl
                  have zz2 := hA4.cell (i := 2) rfl
                  have zz3 := hA4.cell (i := 3) rfl
                  have HE := Lib.hid hB4
                  clear hA4 hB4 hz7 hB7 hd7
                  go_wp2
                  refine bodyPost_ret (by simp [results, Try.results31, go_sem, zz0, zz1, zz2, zz3] <;> rfl) rfl ?_
                  have hg1 := HPG.out.1
                  have hd1 := HND.out.1
                  obtain ⟨r5, r6⟩ := HR34.out
                  rw [hw8] at r5 r6
                  have hvv := HVV.out
                  have hbb := HBB.out
                  refine ⟨a1, c1, b2, e2, ?_, HE.out, by rw [hg1]; exact r5, by rw [hd1]; exact r6⟩
                  rw [hg1, hd1, hvv]
                  exact .inl ⟨by rw [Bool.true_and, ← hbb], rfl⟩

end Go.Proofs.Ytlihcckgnnnekaa
