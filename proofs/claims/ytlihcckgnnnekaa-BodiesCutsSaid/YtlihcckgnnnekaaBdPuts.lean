/-
  Stage 9: PutCum, PutTime, PutInit, the program's and the reference's. Written by genputs.py.
-/
import Derived.Test.YtlihcckgnnnekaaBdVal
namespace Go.Proofs.Ytlihcckgnnnekaa
open Go.RowKit
set_option linter.unusedVariables false
set_option linter.unusedSimpArgs false

set_option maxRecDepth 100000 in
set_option maxHeartbeats 1600000 in
theorem pputCum (x : Int) (w : World) (h0 : 0 ≤ x) (h1 : x < 4294967296) : Calls Try.prog 45 #[.int .u32 x] w fun e w' => Puts w (7) (0) (enc x 4) e w' := by
  obtain ⟨wz, hwz⟩ : ∃ wz, wz = w := ⟨_, rfl⟩
  have hbz : Below w.heap.size w wz := by rw [hwz]; exact Below.refl _ _
  obtain ⟨w0, hw0⟩ : ∃ w0, w.alloc (.cells #[.int .u8 0, .int .u8 0, .slice none 0 0] 28) = w0 := ⟨_, rfl⟩
  have hb00 : Below wz.heap.size wz w0 := by rw [← hw0, hwz]; exact chunkBelow _ 0 0 _
  have hs0 : w0.heap.size = wz.heap.size + 1 := by rw [← hw0, hwz]; simp
  have hA0 : Arr w0 wz.heap.size 28 [.int .u8 0, .int .u8 0, .slice none 0 0] := by rw [← hw0, hwz]; exact chunkBox _ 0 0 _
  have H0 := Lib.hid (And.intro (hbz.trans (hb00.mono hbz.size)) (And.intro hs0 (And.intro hA0 hbz.size)))
  have HS0 := Lib.hid (And.intro (Below.refl w0.heap.size w0) (Row8.nil w0.heap.size w0))
  clear hbz hb00 hs0 hA0
  go_enter Try.func45, Try.ntmps45
  have hp := put1 w0.heap.size none (0) 0 4 ([]) (x) w0 HS0.out.2 HS0.out.1.size (by omega) h0 (by omega) rfl
  try simp only [Nat.zero_add, List.nil_append, Nat.reduceMul, Nat.reduceAdd] at hp
  have HP1 := Lib.hid hp
  clear hp
  go_wp2_with fail
  refine HP1.out.mono ?_
  rintro e w1 ⟨a1, c1, rfl, hb1, hr1⟩
  have HS1 := Lib.hid (And.intro (HS0.out.1.trans hb1) hr1)
  clear hb1 hr1 HP1 HS0
  have hA := H0.out.2.2.1.below HS1.out.1 (by have := H0.out.2.1; omega)
  rw [hwz] at hA
  have x0 := hA.free 0
  have x1 := hA.free 1
  have x2 := hA.free 2
  have y0 := hA.cell (i := 0) rfl
  have y1 := hA.cell (i := 1) rfl
  have y2 := hA.cell (i := 2) rfl
  obtain ⟨W3, hW3⟩ : ∃ W3, ((w1.setCell ⟨w.heap.size, 0, none⟩ (.int .u8 (7))).setCell ⟨w.heap.size, 1, none⟩ (.int .u8 (0))).setCell ⟨w.heap.size, 2, none⟩ (.slice a1 (4) c1) = W3 := ⟨_, rfl⟩
  have hE := puts_end (H0.out.1.trans (HS1.out.1.mono H0.out.1.size)) (Nat.le_refl _) (by have := H0.out.2.1; rw [hwz] at this; omega) hA HS1.out.2 hW3
  have z0 := hE.2.2.cell (i := 0) rfl
  have z1 := hE.2.2.cell (i := 1) rfl
  have z2 := hE.2.2.cell (i := 2) rfl
  have HE := Lib.hid (And.intro hE.1 (And.intro hE.2.1 HS1.out.2.len))
  clear hE hA HS1 H0
  go_wp2
  have hl := HE.out.2.2
  skip
  exact bodyPost_ret (by simp [results, Try.results45, go_sem, z0, z1, z2]; rfl) rfl ⟨a1, c1, by rw [hl], HE.out.1, by exact HE.out.2.1⟩

set_option maxRecDepth 100000 in
set_option maxHeartbeats 1600000 in
theorem pputTime' (k x : Int) (w : World) (y0 : 0 ≤ IntKind.u64.wrap x) (y1 : IntKind.u64.wrap x ≤ 18446744073709551615) : Calls Try.prog 43 #[.int .u8 k, .int .i64 x] w fun e w' => Puts w (k) (0) (enc 1 2 ++ enc 12 2 ++ enc (IntKind.u64.wrap x) 8) e w' := by
  obtain ⟨wz, hwz⟩ : ∃ wz, wz = w := ⟨_, rfl⟩
  have hbz : Below w.heap.size w wz := by rw [hwz]; exact Below.refl _ _
  obtain ⟨w0, hw0⟩ : ∃ w0, w.alloc (.cells #[.int .u8 0, .int .u8 0, .slice none 0 0] 28) = w0 := ⟨_, rfl⟩
  have hb00 : Below wz.heap.size wz w0 := by rw [← hw0, hwz]; exact chunkBelow _ 0 0 _
  have hs0 : w0.heap.size = wz.heap.size + 1 := by rw [← hw0, hwz]; simp
  have hA0 : Arr w0 wz.heap.size 28 [.int .u8 0, .int .u8 0, .slice none 0 0] := by rw [← hw0, hwz]; exact chunkBox _ 0 0 _
  have H0 := Lib.hid (And.intro (hbz.trans (hb00.mono hbz.size)) (And.intro hs0 (And.intro hA0 hbz.size)))
  have HS0 := Lib.hid (And.intro (Below.refl w0.heap.size w0) (Row8.nil w0.heap.size w0))
  clear hbz hb00 hs0 hA0
  go_enter Try.func43, Try.ntmps43
  have hp := put2 w0.heap.size none (0) 0 2 ([]) (1) (12) w0 HS0.out.2 HS0.out.1.size (by omega) (by omega) (by omega) (by omega) (by omega) rfl
  try simp only [Nat.zero_add, List.nil_append, Nat.reduceMul, Nat.reduceAdd] at hp
  have HP1 := Lib.hid hp
  clear hp
  go_wp2_with fail
  refine HP1.out.mono ?_
  rintro e w1 ⟨a1, c1, rfl, hb1, hr1⟩
  have HS1 := Lib.hid (And.intro (HS0.out.1.trans hb1) hr1)
  clear hb1 hr1 HP1 HS0
  have hp := put1 w0.heap.size a1 (4) c1 8 ((enc (1) 2 ++ enc (12) 2)) (IntKind.u64.wrap x) w1 HS1.out.2 HS1.out.1.size (by omega) y0 y1 rfl
  try simp only [Nat.zero_add, List.nil_append, Nat.reduceMul, Nat.reduceAdd] at hp
  have HP2 := Lib.hid hp
  clear hp
  go_wp2_with fail
  refine HP2.out.mono ?_
  rintro e w2 ⟨a2, c2, rfl, hb2, hr2⟩
  have HS2 := Lib.hid (And.intro (HS1.out.1.trans hb2) hr2)
  clear hb2 hr2 HP2 HS1
  have hA := H0.out.2.2.1.below HS2.out.1 (by have := H0.out.2.1; omega)
  rw [hwz] at hA
  have x0 := hA.free 0
  have x1 := hA.free 1
  have x2 := hA.free 2
  have y0 := hA.cell (i := 0) rfl
  have y1 := hA.cell (i := 1) rfl
  have y2 := hA.cell (i := 2) rfl
  obtain ⟨W3, hW3⟩ : ∃ W3, ((w2.setCell ⟨w.heap.size, 0, none⟩ (.int .u8 (k))).setCell ⟨w.heap.size, 1, none⟩ (.int .u8 (0))).setCell ⟨w.heap.size, 2, none⟩ (.slice a2 (12) c2) = W3 := ⟨_, rfl⟩
  have hE := puts_end (H0.out.1.trans (HS2.out.1.mono H0.out.1.size)) (Nat.le_refl _) (by have := H0.out.2.1; rw [hwz] at this; omega) hA HS2.out.2 hW3
  have z0 := hE.2.2.cell (i := 0) rfl
  have z1 := hE.2.2.cell (i := 1) rfl
  have z2 := hE.2.2.cell (i := 2) rfl
  have HE := Lib.hid (And.intro hE.1 (And.intro hE.2.1 HS2.out.2.len))
  clear hE hA HS2 H0
  go_wp2
  have hl := HE.out.2.2
  skip
  exact bodyPost_ret (by simp [results, Try.results43, go_sem, z0, z1, z2]; rfl) rfl ⟨a2, c2, by rw [hl], HE.out.1, by exact HE.out.2.1⟩

theorem pputTime (k x : Int) (w : World) : Calls Try.prog 43 #[.int .u8 k, .int .i64 x] w fun e w' => Puts w k 0 (enc 1 2 ++ enc 12 2 ++ enc x 8) e w' := by
  have e : IntKind.u64.wrap x = x % 18446744073709551616 := rfl
  have h := pputTime' k x w (by omega) (by omega)
  rw [e, enc_mod (show (18446744073709551616 : Int) = 256 ^ 8 by decide)] at h
  exact h

set_option maxRecDepth 100000 in
set_option maxHeartbeats 1600000 in
theorem rputCum (x : Int) (w : World) (h0 : 0 ≤ x) (h1 : x < 4294967296) : Calls Try.prog 46 #[.int .u32 x] w fun e w' => Puts w (7) (0) (enc x 4) e w' := by
  obtain ⟨wz, hwz⟩ : ∃ wz, wz = w := ⟨_, rfl⟩
  have hbz : Below w.heap.size w wz := by rw [hwz]; exact Below.refl _ _
  obtain ⟨w0, hw0⟩ : ∃ w0, w.alloc (.cells #[.int .u8 0, .int .u8 0, .slice none 0 0] 28) = w0 := ⟨_, rfl⟩
  have hb00 : Below wz.heap.size wz w0 := by rw [← hw0, hwz]; exact chunkBelow _ 0 0 _
  have hs0 : w0.heap.size = wz.heap.size + 1 := by rw [← hw0, hwz]; simp
  have hA0 : Arr w0 wz.heap.size 28 [.int .u8 0, .int .u8 0, .slice none 0 0] := by rw [← hw0, hwz]; exact chunkBox _ 0 0 _
  have H0 := Lib.hid (And.intro (hbz.trans (hb00.mono hbz.size)) (And.intro hs0 (And.intro hA0 hbz.size)))
  have HS0 := Lib.hid (And.intro (Below.refl w0.heap.size w0) (Row8.nil w0.heap.size w0))
  clear hbz hb00 hs0 hA0
  go_enter Try.func46, Try.ntmps46
  have hp := putR_yes none (0) 0 4 (x) ([]) w0 HS0.out.2.reads (by omega) h0 rfl
  try simp only [Nat.zero_add, List.nil_append, Nat.reduceAdd] at hp
  have HP1 := Lib.hid hp
  clear hp
  go_wp2_with fail
  refine HP1.out.mono ?_
  rintro e w1 ⟨a1, c1, rfl, hb1, hr1⟩
  have HS1 := Lib.hid (And.intro (HS0.out.1.trans (hb1.mono HS0.out.1.size)) (hr1.lower HS0.out.1.size))
  clear hb1 hr1 HP1 HS0
  have hA := H0.out.2.2.1.below HS1.out.1 (by have := H0.out.2.1; omega)
  rw [hwz] at hA
  have x0 := hA.free 0
  have x1 := hA.free 1
  have x2 := hA.free 2
  have y0 := hA.cell (i := 0) rfl
  have y1 := hA.cell (i := 1) rfl
  have y2 := hA.cell (i := 2) rfl
  obtain ⟨W3, hW3⟩ : ∃ W3, ((w1.setCell ⟨w.heap.size, 0, none⟩ (.int .u8 (7))).setCell ⟨w.heap.size, 1, none⟩ (.int .u8 (0))).setCell ⟨w.heap.size, 2, none⟩ (.slice a1 (4) c1) = W3 := ⟨_, rfl⟩
  have hE := puts_end (H0.out.1.trans (HS1.out.1.mono H0.out.1.size)) (Nat.le_refl _) (by have := H0.out.2.1; rw [hwz] at this; omega) hA HS1.out.2 hW3
  have z0 := hE.2.2.cell (i := 0) rfl
  have z1 := hE.2.2.cell (i := 1) rfl
  have z2 := hE.2.2.cell (i := 2) rfl
  have HE := Lib.hid (And.intro hE.1 (And.intro hE.2.1 HS1.out.2.len))
  clear hE hA HS1 H0
  go_wp2
  have hl := HE.out.2.2
  skip
  exact bodyPost_ret (by simp [results, Try.results46, go_sem, z0, z1, z2]; rfl) rfl ⟨a1, c1, by rw [hl], HE.out.1, by exact HE.out.2.1⟩

set_option maxRecDepth 100000 in
set_option maxHeartbeats 1600000 in
theorem rputTime' (k x : Int) (w : World) (y0 : 0 ≤ IntKind.u64.wrap x) (y1 : IntKind.u64.wrap x ≤ 18446744073709551615) : Calls Try.prog 44 #[.int .u8 k, .int .i64 x] w fun e w' => Puts w (k) (0) (enc 1 2 ++ enc 12 2 ++ enc (IntKind.u64.wrap x) 8) e w' := by
  obtain ⟨wz, hwz⟩ : ∃ wz, wz = w := ⟨_, rfl⟩
  have hbz : Below w.heap.size w wz := by rw [hwz]; exact Below.refl _ _
  obtain ⟨w0, hw0⟩ : ∃ w0, w.alloc (.cells #[.int .u8 0, .int .u8 0, .slice none 0 0] 28) = w0 := ⟨_, rfl⟩
  have hb00 : Below wz.heap.size wz w0 := by rw [← hw0, hwz]; exact chunkBelow _ 0 0 _
  have hs0 : w0.heap.size = wz.heap.size + 1 := by rw [← hw0, hwz]; simp
  have hA0 : Arr w0 wz.heap.size 28 [.int .u8 0, .int .u8 0, .slice none 0 0] := by rw [← hw0, hwz]; exact chunkBox _ 0 0 _
  have H0 := Lib.hid (And.intro (hbz.trans (hb00.mono hbz.size)) (And.intro hs0 (And.intro hA0 hbz.size)))
  have HS0 := Lib.hid (And.intro (Below.refl w0.heap.size w0) (Row8.nil w0.heap.size w0))
  clear hbz hb00 hs0 hA0
  go_enter Try.func44, Try.ntmps44
  have hp := putR_yes none (0) 0 2 (1) ([]) w0 HS0.out.2.reads (by omega) (by omega) rfl
  try simp only [Nat.zero_add, List.nil_append, Nat.reduceAdd] at hp
  have HP1 := Lib.hid hp
  clear hp
  go_wp2_with fail
  refine HP1.out.mono ?_
  rintro e w1 ⟨a1, c1, rfl, hb1, hr1⟩
  have HS1 := Lib.hid (And.intro (HS0.out.1.trans (hb1.mono HS0.out.1.size)) (hr1.lower HS0.out.1.size))
  clear hb1 hr1 HP1 HS0
  have hp := putR_yes a1 (2) c1 2 (12) (enc (1) 2) w1 HS1.out.2.reads (by omega) (by omega) rfl
  try simp only [Nat.zero_add, List.nil_append, Nat.reduceAdd] at hp
  have HP2 := Lib.hid hp
  clear hp
  go_wp2_with fail
  refine HP2.out.mono ?_
  rintro e w2 ⟨a2, c2, rfl, hb2, hr2⟩
  have HS2 := Lib.hid (And.intro (HS1.out.1.trans (hb2.mono HS1.out.1.size)) (hr2.lower HS1.out.1.size))
  clear hb2 hr2 HP2 HS1
  have hp := putR_yes a2 (4) c2 8 (IntKind.u64.wrap x) (enc (1) 2 ++ enc (12) 2) w2 HS2.out.2.reads (by omega) y0 rfl
  try simp only [Nat.zero_add, List.nil_append, Nat.reduceAdd] at hp
  have HP3 := Lib.hid hp
  clear hp
  go_wp2_with fail
  refine HP3.out.mono ?_
  rintro e w3 ⟨a3, c3, rfl, hb3, hr3⟩
  have HS3 := Lib.hid (And.intro (HS2.out.1.trans (hb3.mono HS2.out.1.size)) (hr3.lower HS2.out.1.size))
  clear hb3 hr3 HP3 HS2
  have hA := H0.out.2.2.1.below HS3.out.1 (by have := H0.out.2.1; omega)
  rw [hwz] at hA
  have x0 := hA.free 0
  have x1 := hA.free 1
  have x2 := hA.free 2
  have y0 := hA.cell (i := 0) rfl
  have y1 := hA.cell (i := 1) rfl
  have y2 := hA.cell (i := 2) rfl
  obtain ⟨W3, hW3⟩ : ∃ W3, ((w3.setCell ⟨w.heap.size, 0, none⟩ (.int .u8 (k))).setCell ⟨w.heap.size, 1, none⟩ (.int .u8 (0))).setCell ⟨w.heap.size, 2, none⟩ (.slice a3 (12) c3) = W3 := ⟨_, rfl⟩
  have hE := puts_end (H0.out.1.trans (HS3.out.1.mono H0.out.1.size)) (Nat.le_refl _) (by have := H0.out.2.1; rw [hwz] at this; omega) hA HS3.out.2 hW3
  have z0 := hE.2.2.cell (i := 0) rfl
  have z1 := hE.2.2.cell (i := 1) rfl
  have z2 := hE.2.2.cell (i := 2) rfl
  have HE := Lib.hid (And.intro hE.1 (And.intro hE.2.1 HS3.out.2.len))
  clear hE hA HS3 H0
  go_wp2
  have hl := HE.out.2.2
  skip
  exact bodyPost_ret (by simp [results, Try.results44, go_sem, z0, z1, z2]; rfl) rfl ⟨a3, c3, by rw [hl], HE.out.1, by exact HE.out.2.1⟩

theorem rputTime (k x : Int) (w : World) : Calls Try.prog 44 #[.int .u8 k, .int .i64 x] w fun e w' => Puts w k 0 (enc 1 2 ++ enc 12 2 ++ enc x 8) e w' := by
  have e : IntKind.u64.wrap x = x % 18446744073709551616 := rfl
  have h := rputTime' k x w (by omega) (by omega)
  rw [e, enc_mod (show (18446744073709551616 : Int) = 256 ^ 8 by decide)] at h
  exact h

end Go.Proofs.Ytlihcckgnnnekaa
