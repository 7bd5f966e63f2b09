/-
  Stage 9: PutInit, the program's and the reference's; dataFlags. Written by genputs2.py.
-/
import Derived.Test.YtlihcckgnnnekaaBdVal
namespace Go.Proofs.Ytlihcckgnnnekaa
open Go.RowKit
set_option linter.unusedVariables false
set_option linter.unusedSimpArgs false

def initH (x0 x1 x2 x3 x4 : Int) : List Int := enc x0 4 ++ enc x1 4 ++ enc x2 2 ++ enc x3 2 ++ enc x4 4
def pad4 (zs : List Int) : List Int := zs ++ List.replicate (up4 zs.length - zs.length) 0
def initA (x0 x1 x2 x3 x4 : Int) (ck : List Int) : List Int := pad4 (initH x0 x1 x2 x3 x4 ++ enc 7 2 ++ enc (4 + (ck.length : Int)) 2 ++ ck)
theorem initH_len (x0 x1 x2 x3 x4 : Int) : (initH x0 x1 x2 x3 x4).length = 16 := by simp [initH]
theorem pad4_len (zs : List Int) : (pad4 zs).length = up4 zs.length := by have := up4_ge zs.length; simp [pad4]; omega
theorem pad4_byt {zs : List Int} (h : Byt zs) : Byt (pad4 zs) := h.append (Byt.rep (by omega) (by omega) _)
theorem initH_byt (x0 x1 x2 x3 x4 : Int) : Byt (initH x0 x1 x2 x3 x4) := ((((enc_byt _ _).append (enc_byt _ _)).append (enc_byt _ _)).append (enc_byt _ _)).append (enc_byt _ _)
theorem initA_len (x0 x1 x2 x3 x4 : Int) (ck : List Int) : (initA x0 x1 x2 x3 x4 ck).length = up4 (20 + ck.length) := by unfold initA; rw [pad4_len]; congr 1; simp [initH_len]; omega
theorem initA_byt (x0 x1 x2 x3 x4 : Int) {ck : List Int} (h : Byt ck) : Byt (initA x0 x1 x2 x3 x4 ck) := pad4_byt ((((initH_byt _ _ _ _ _).append (enc_byt _ _)).append (enc_byt _ _)).append h)

set_option maxRecDepth 100000 in
set_option maxHeartbeats 1600000 in
theorem pputInit_no' (k : Int) (hk : k ≠ 2) (x0 x1 x2 x3 x4 : Int) (a : Option Addr) (n c : Nat) (ck : List Int) (w : World) (hr : Reads w a n ck) (hn : n ≤ 281474976) (h00 : 0 ≤ x0) (h01 : x0 < 4294967296) (h10 : 0 ≤ x1) (h11 : x1 < 4294967296) (h20 : 0 ≤ x2) (h21 : x2 < 65536) (h30 : 0 ≤ x3) (h31 : x3 < 65536) (h40 : 0 ≤ x4) (h41 : x4 < 4294967296) : Calls Try.prog 23 #[.int .u8 k, .agg #[.int .u32 x0, .int .u32 x1, .int .u16 x2, .int .u16 x3, .int .u32 x4, .slice a n c]] w fun e w' => Puts w (k) (0) ((enc (x0) 4 ++ enc (x1) 4) ++ (enc (x2) 2 ++ enc (x3) 2) ++ enc (x4) 4) e w' := by
  have ek : (k == 2) = false := by simpa using hk
  clear hk
  obtain ⟨wz, hwz⟩ : ∃ wz, w.alloc (.cells #[.int .u32 x0, .int .u32 x1, .int .u16 x2, .int .u16 x3, .int .u32 x4, .slice a n c] 43) = wz := ⟨_, rfl⟩
  have hbz : Below w.heap.size w wz := by rw [← hwz]; exact (Below.refl _ _).alloc (Nat.le_refl _) _
  have hsz : wz.heap.size = w.heap.size + 1 := by rw [← hwz]; simp
  have hDz : Arr wz w.heap.size 43 [.int .u32 x0, .int .u32 x1, .int .u16 x2, .int .u16 x3, .int .u32 x4, .slice a n c] := by rw [← hwz]; exact arr_new _ _ _
  obtain ⟨w0, hw0⟩ : ∃ w0, wz.alloc (.cells #[.int .u8 0, .int .u8 0, .slice none 0 0] 28) = w0 := ⟨_, rfl⟩
  have hb00 : Below wz.heap.size wz w0 := by rw [← hw0]; exact chunkBelow _ 0 0 _
  have hs0 : w0.heap.size = wz.heap.size + 1 := by rw [← hw0]; simp
  have hA0 : Arr w0 wz.heap.size 28 [.int .u8 0, .int .u8 0, .slice none 0 0] := by rw [← hw0]; exact chunkBox _ 0 0 _
  have HD := Lib.hid (hDz.keep hb00)
  have H0 := Lib.hid (And.intro (hbz.trans (hb00.mono hbz.size)) (And.intro hs0 (And.intro hA0 hbz.size)))
  have HS0 := Lib.hid (And.intro (Below.refl w0.heap.size w0) (Row8.nil w0.heap.size w0))
  have HLT := Lib.hid (show w.heap.size < w0.heap.size by omega)
  clear hbz hb00 hs0 hA0 hsz hDz
  go_enter Try.func23, Try.ntmps23
  have hDi := HD.out.below HS0.out.1 HLT.out
  have d0 := hDi.cell (i := 0) rfl
  have d1 := hDi.cell (i := 1) rfl
  have d2 := hDi.cell (i := 2) rfl
  have d3 := hDi.cell (i := 3) rfl
  have d4 := hDi.cell (i := 4) rfl
  have d5 := hDi.cell (i := 5) rfl
  clear hDi
  have hp := put2 w0.heap.size none (0) 0 4 ([]) (x0) (x1) w0 HS0.out.2 HS0.out.1.size (by omega) h00 (by omega) h10 (by omega) rfl
  try simp only [Nat.zero_add, List.nil_append, Nat.reduceMul, Nat.reduceAdd] at hp
  have HP1 := Lib.hid hp
  clear hp
  go_wp2_with fail
  refine HP1.out.mono ?_
  rintro e w1 ⟨a1, c1, rfl, hb1, hr1⟩
  clear d0 d1 d2 d3 d4 d5
  have HS1 := Lib.hid (And.intro (HS0.out.1.trans hb1) hr1)
  clear hb1 hr1 HP1 HS0
  have hDi := HD.out.below HS1.out.1 HLT.out
  have d0 := hDi.cell (i := 0) rfl
  have d1 := hDi.cell (i := 1) rfl
  have d2 := hDi.cell (i := 2) rfl
  have d3 := hDi.cell (i := 3) rfl
  have d4 := hDi.cell (i := 4) rfl
  have d5 := hDi.cell (i := 5) rfl
  clear hDi
  have hp := put2 w0.heap.size a1 (8) c1 2 ((enc (x0) 4 ++ enc (x1) 4)) (x2) (x3) w1 HS1.out.2 HS1.out.1.size (by omega) h20 (by omega) h30 (by omega) rfl
  try simp only [Nat.zero_add, List.nil_append, Nat.reduceMul, Nat.reduceAdd] at hp
  have HP2 := Lib.hid hp
  clear hp
  go_wp2_with fail
  refine HP2.out.mono ?_
  rintro e w2 ⟨a2, c2, rfl, hb2, hr2⟩
  clear d0 d1 d2 d3 d4 d5
  have HS2 := Lib.hid (And.intro (HS1.out.1.trans hb2) hr2)
  clear hb2 hr2 HP2 HS1
  have hDi := HD.out.below HS2.out.1 HLT.out
  have d0 := hDi.cell (i := 0) rfl
  have d1 := hDi.cell (i := 1) rfl
  have d2 := hDi.cell (i := 2) rfl
  have d3 := hDi.cell (i := 3) rfl
  have d4 := hDi.cell (i := 4) rfl
  have d5 := hDi.cell (i := 5) rfl
  clear hDi
  have hp := put1 w0.heap.size a2 (12) c2 4 ((enc (x0) 4 ++ enc (x1) 4) ++ (enc (x2) 2 ++ enc (x3) 2)) (x4) w2 HS2.out.2 HS2.out.1.size (by omega) h40 (by omega) rfl
  try simp only [Nat.zero_add, List.nil_append, Nat.reduceMul, Nat.reduceAdd] at hp
  have HP3 := Lib.hid hp
  clear hp
  go_wp2_with fail
  refine HP3.out.mono ?_
  rintro e w3 ⟨a3, c3, rfl, hb3, hr3⟩
  clear d0 d1 d2 d3 d4 d5
  have HS3 := Lib.hid (And.intro (HS2.out.1.trans hb3) hr3)
  clear hb3 hr3 HP3 HS2
  have hDi := HD.out.below HS3.out.1 HLT.out
  have d0 := hDi.cell (i := 0) rfl
  have d1 := hDi.cell (i := 1) rfl
  have d2 := hDi.cell (i := 2) rfl
  have d3 := hDi.cell (i := 3) rfl
  have d4 := hDi.cell (i := 4) rfl
  have d5 := hDi.cell (i := 5) rfl
  clear hDi
  have hA := H0.out.2.2.1.below HS3.out.1 (by have := H0.out.2.1; omega)
  have x0 := hA.free 0
  have x1 := hA.free 1
  have x2 := hA.free 2
  have y0 := hA.cell (i := 0) rfl
  have y1 := hA.cell (i := 1) rfl
  have y2 := hA.cell (i := 2) rfl
  obtain ⟨W3, hW3⟩ : ∃ W3, ((w3.setCell ⟨wz.heap.size, 0, none⟩ (.int .u8 (k))).setCell ⟨wz.heap.size, 1, none⟩ (.int .u8 (0))).setCell ⟨wz.heap.size, 2, none⟩ (.slice a3 (16) c3) = W3 := ⟨_, rfl⟩
  have hE := puts_end (H0.out.1.trans (HS3.out.1.mono H0.out.1.size)) (H0.out.2.2.2) (by have := H0.out.2.1; omega) hA HS3.out.2 hW3
  have z0 := hE.2.2.cell (i := 0) rfl
  have z1 := hE.2.2.cell (i := 1) rfl
  have z2 := hE.2.2.cell (i := 2) rfl
  have HE := Lib.hid (And.intro hE.1 (And.intro hE.2.1 HS3.out.2.len))
  clear hE hA HS3 H0
  go_wp2
  have hl := HE.out.2.2
  skip
  exact bodyPost_ret (by simp [results, Try.results23, go_sem, z0, z1, z2]; rfl) rfl ⟨a3, c3, by rw [hl], HE.out.1, by exact HE.out.2.1⟩

theorem pputInit_no (k : Int) (hk : k ≠ 2) (x0 x1 x2 x3 x4 : Int) (a : Option Addr) (n c : Nat) (ck : List Int) (w : World) (hr : Reads w a n ck) (hn : n ≤ 281474976) (h00 : 0 ≤ x0) (h01 : x0 < 4294967296) (h10 : 0 ≤ x1) (h11 : x1 < 4294967296) (h20 : 0 ≤ x2) (h21 : x2 < 65536) (h30 : 0 ≤ x3) (h31 : x3 < 65536) (h40 : 0 ≤ x4) (h41 : x4 < 4294967296) : Calls Try.prog 23 #[.int .u8 k, .agg #[.int .u32 x0, .int .u32 x1, .int .u16 x2, .int .u16 x3, .int .u32 x4, .slice a n c]] w fun e w' => Puts w k 0 (initH x0 x1 x2 x3 x4) e w' := by
  have h := pputInit_no' k hk x0 x1 x2 x3 x4 a n c ck w hr hn h00 h01 h10 h11 h20 h21 h30 h31 h40 h41
  have e : (enc (x0) 4 ++ enc (x1) 4) ++ (enc (x2) 2 ++ enc (x3) 2) ++ enc (x4) 4 = initH x0 x1 x2 x3 x4 := by simp [initH, List.append_assoc]
  rw [e] at h
  exact h

set_option maxRecDepth 100000 in
set_option maxHeartbeats 1600000 in
theorem pputInit_ack' (x0 x1 x2 x3 x4 : Int) (a : Option Addr) (n c : Nat) (ck : List Int) (w : World) (hr : Reads w a n ck) (hn : n ≤ 281474976) (h00 : 0 ≤ x0) (h01 : x0 < 4294967296) (h10 : 0 ≤ x1) (h11 : x1 < 4294967296) (h20 : 0 ≤ x2) (h21 : x2 < 65536) (h30 : 0 ≤ x3) (h31 : x3 < 65536) (h40 : 0 ≤ x4) (h41 : x4 < 4294967296) : Calls Try.prog 23 #[.int .u8 2, .agg #[.int .u32 x0, .int .u32 x1, .int .u16 x2, .int .u16 x3, .int .u32 x4, .slice a n c]] w fun e w' => Puts w (2) (0) (((enc (x0) 4 ++ enc (x1) 4) ++ (enc (x2) 2 ++ enc (x3) 2) ++ enc (x4) 4 ++ (enc 7 2 ++ enc (4 + (n : Int)) 2) ++ ck) ++ List.replicate (up4 (20 + n) - (20 + n)) 0) e w' := by
  have g0 : (0 : Int) ≤ 4 + (n : Int) := by omega
  have g1 : 4 + (n : Int) < 65536000000 := by omega
  have u0 := up4_ge (20 + n)
  have u1 := up4_le (20 + n)
  have HR0 := Lib.hid hr
  clear hr
  obtain ⟨wz, hwz⟩ : ∃ wz, w.alloc (.cells #[.int .u32 x0, .int .u32 x1, .int .u16 x2, .int .u16 x3, .int .u32 x4, .slice a n c] 43) = wz := ⟨_, rfl⟩
  have hbz : Below w.heap.size w wz := by rw [← hwz]; exact (Below.refl _ _).alloc (Nat.le_refl _) _
  have hsz : wz.heap.size = w.heap.size + 1 := by rw [← hwz]; simp
  have hDz : Arr wz w.heap.size 43 [.int .u32 x0, .int .u32 x1, .int .u16 x2, .int .u16 x3, .int .u32 x4, .slice a n c] := by rw [← hwz]; exact arr_new _ _ _
  obtain ⟨w0, hw0⟩ : ∃ w0, wz.alloc (.cells #[.int .u8 0, .int .u8 0, .slice none 0 0] 28) = w0 := ⟨_, rfl⟩
  have hb00 : Below wz.heap.size wz w0 := by rw [← hw0]; exact chunkBelow _ 0 0 _
  have hs0 : w0.heap.size = wz.heap.size + 1 := by rw [← hw0]; simp
  have hA0 : Arr w0 wz.heap.size 28 [.int .u8 0, .int .u8 0, .slice none 0 0] := by rw [← hw0]; exact chunkBox _ 0 0 _
  have HD := Lib.hid (hDz.keep hb00)
  have H0 := Lib.hid (And.intro (hbz.trans (hb00.mono hbz.size)) (And.intro hs0 (And.intro hA0 hbz.size)))
  have HS0 := Lib.hid (And.intro (Below.refl w0.heap.size w0) (Row8.nil w0.heap.size w0))
  have HLT := Lib.hid (show w.heap.size < w0.heap.size by omega)
  have HR1 := Lib.hid (HR0.out.below H0.out.1)
  clear hbz hb00 hs0 hA0 hsz hDz
  go_enter Try.func23, Try.ntmps23
  have hDi := HD.out.below HS0.out.1 HLT.out
  have d0 := hDi.cell (i := 0) rfl
  have d1 := hDi.cell (i := 1) rfl
  have d2 := hDi.cell (i := 2) rfl
  have d3 := hDi.cell (i := 3) rfl
  have d4 := hDi.cell (i := 4) rfl
  have d5 := hDi.cell (i := 5) rfl
  clear hDi
  have hp := put2 w0.heap.size none (0) 0 4 ([]) (x0) (x1) w0 HS0.out.2 HS0.out.1.size (by omega) h00 (by omega) h10 (by omega) rfl
  try simp only [Nat.zero_add, List.nil_append, Nat.reduceMul, Nat.reduceAdd] at hp
  have HP1 := Lib.hid hp
  clear hp
  go_wp2_with fail
  refine HP1.out.mono ?_
  rintro e w1 ⟨a1, c1, rfl, hb1, hr1⟩
  clear d0 d1 d2 d3 d4 d5
  have HS1 := Lib.hid (And.intro (HS0.out.1.trans hb1) hr1)
  clear hb1 hr1 HP1 HS0
  have hDi := HD.out.below HS1.out.1 HLT.out
  have d0 := hDi.cell (i := 0) rfl
  have d1 := hDi.cell (i := 1) rfl
  have d2 := hDi.cell (i := 2) rfl
  have d3 := hDi.cell (i := 3) rfl
  have d4 := hDi.cell (i := 4) rfl
  have d5 := hDi.cell (i := 5) rfl
  clear hDi
  have hp := put2 w0.heap.size a1 (8) c1 2 ((enc (x0) 4 ++ enc (x1) 4)) (x2) (x3) w1 HS1.out.2 HS1.out.1.size (by omega) h20 (by omega) h30 (by omega) rfl
  try simp only [Nat.zero_add, List.nil_append, Nat.reduceMul, Nat.reduceAdd] at hp
  have HP2 := Lib.hid hp
  clear hp
  go_wp2_with fail
  refine HP2.out.mono ?_
  rintro e w2 ⟨a2, c2, rfl, hb2, hr2⟩
  clear d0 d1 d2 d3 d4 d5
  have HS2 := Lib.hid (And.intro (HS1.out.1.trans hb2) hr2)
  clear hb2 hr2 HP2 HS1
  have hDi := HD.out.below HS2.out.1 HLT.out
  have d0 := hDi.cell (i := 0) rfl
  have d1 := hDi.cell (i := 1) rfl
  have d2 := hDi.cell (i := 2) rfl
  have d3 := hDi.cell (i := 3) rfl
  have d4 := hDi.cell (i := 4) rfl
  have d5 := hDi.cell (i := 5) rfl
  clear hDi
  have hp := put1 w0.heap.size a2 (12) c2 4 ((enc (x0) 4 ++ enc (x1) 4) ++ (enc (x2) 2 ++ enc (x3) 2)) (x4) w2 HS2.out.2 HS2.out.1.size (by omega) h40 (by omega) rfl
  try simp only [Nat.zero_add, List.nil_append, Nat.reduceMul, Nat.reduceAdd] at hp
  have HP3 := Lib.hid hp
  clear hp
  go_wp2_with fail
  refine HP3.out.mono ?_
  rintro e w3 ⟨a3, c3, rfl, hb3, hr3⟩
  clear d0 d1 d2 d3 d4 d5
  have HS3 := Lib.hid (And.intro (HS2.out.1.trans hb3) hr3)
  clear hb3 hr3 HP3 HS2
  have hDi := HD.out.below HS3.out.1 HLT.out
  have d0 := hDi.cell (i := 0) rfl
  have d1 := hDi.cell (i := 1) rfl
  have d2 := hDi.cell (i := 2) rfl
  have d3 := hDi.cell (i := 3) rfl
  have d4 := hDi.cell (i := 4) rfl
  have d5 := hDi.cell (i := 5) rfl
  clear hDi
  have hp := put2 w0.heap.size a3 (16) c3 2 ((enc (x0) 4 ++ enc (x1) 4) ++ (enc (x2) 2 ++ enc (x3) 2) ++ enc (x4) 4) (7) (4 + (n : Int)) w3 HS3.out.2 HS3.out.1.size (by omega) (by omega) (by omega) g0 (by omega) rfl
  try simp only [Nat.zero_add, List.nil_append, Nat.reduceMul, Nat.reduceAdd] at hp
  have HP4 := Lib.hid hp
  clear hp
  go_wp2_with fail
  refine HP4.out.mono ?_
  rintro e w4 ⟨a4, c4, rfl, hb4, hr4⟩
  clear d0 d1 d2 d3 d4 d5
  have HS4 := Lib.hid (And.intro (HS3.out.1.trans hb4) hr4)
  clear hb4 hr4 HP4 HS3
  have hDi := HD.out.below HS4.out.1 HLT.out
  have d0 := hDi.cell (i := 0) rfl
  have d1 := hDi.cell (i := 1) rfl
  have d2 := hDi.cell (i := 2) rfl
  have d3 := hDi.cell (i := 3) rfl
  have d4 := hDi.cell (i := 4) rfl
  have d5 := hDi.cell (i := 5) rfl
  clear hDi
  have hra := HR0.out.below (H0.out.1.trans (HS4.out.1.mono H0.out.1.size))
  obtain ⟨a5, c5, w5, hrun, H5⟩ := HS4.out.2.appends HS4.out.1.size a n c ck hra (by omega)
  have hb5 := H5.out.2
  have hr5 := H5.out.1
  have HP5 := Lib.hid hrun
  clear hrun H5 hra
  have HPD := Lib.hid (pad_any a5 (20 + n) c5 _ w5 hr5.reads (by omega))
  have HSx := Lib.hid (And.intro (HS4.out.1.trans hb5) hr5)
  clear hb5 hr5
  go_wp2_with (at_builtin; refine wpList_append_run rfl _ _ _ rfl _ _ _ _ rfl rfl HP5.out ?_)
  refine HPD.out.mono ?_
  rintro e w6 ⟨rfl, hbp, hkp⟩
  have hrp : Row8 w0.heap.size w6 (some ⟨w5.heap.size, 0, none⟩) (up4 (20 + n)) (up4 (20 + n)) _ := (Row8.of_blk hkp (Nat.le_refl _) (by have := HSx.out.2.len; simp only [List.length_append, List.length_replicate] at this ⊢; omega) (by unfold maxLen; omega)).lower HSx.out.1.size
  have HS6 := Lib.hid (And.intro (HSx.out.1.trans (hbp.mono HSx.out.1.size)) hrp)
  clear hbp hkp hrp HPD HSx HP5 HS4
  clear d0 d1 d2 d3 d4 d5
  have hDi := HD.out.below HS6.out.1 HLT.out
  have d0 := hDi.cell (i := 0) rfl
  have d1 := hDi.cell (i := 1) rfl
  have d2 := hDi.cell (i := 2) rfl
  have d3 := hDi.cell (i := 3) rfl
  have d4 := hDi.cell (i := 4) rfl
  have d5 := hDi.cell (i := 5) rfl
  clear hDi
  have hA := H0.out.2.2.1.below HS6.out.1 (by have := H0.out.2.1; omega)
  have x0 := hA.free 0
  have x1 := hA.free 1
  have x2 := hA.free 2
  have y0 := hA.cell (i := 0) rfl
  have y1 := hA.cell (i := 1) rfl
  have y2 := hA.cell (i := 2) rfl
  obtain ⟨W3, hW3⟩ : ∃ W3, ((w6.setCell ⟨wz.heap.size, 0, none⟩ (.int .u8 (2))).setCell ⟨wz.heap.size, 1, none⟩ (.int .u8 (0))).setCell ⟨wz.heap.size, 2, none⟩ (.slice (some ⟨w5.heap.size, 0, none⟩) (up4 (20 + n)) (up4 (20 + n))) = W3 := ⟨_, rfl⟩
  have hE := puts_end (H0.out.1.trans (HS6.out.1.mono H0.out.1.size)) (H0.out.2.2.2) (by have := H0.out.2.1; omega) hA HS6.out.2 hW3
  have z0 := hE.2.2.cell (i := 0) rfl
  have z1 := hE.2.2.cell (i := 1) rfl
  have z2 := hE.2.2.cell (i := 2) rfl
  have HE := Lib.hid (And.intro hE.1 (And.intro hE.2.1 HS6.out.2.len))
  clear hE hA HS6 H0
  go_wp2
  have hl := HE.out.2.2
  skip
  exact bodyPost_ret (by simp [results, Try.results23, go_sem, z0, z1, z2]; rfl) rfl ⟨(some ⟨w5.heap.size, 0, none⟩), (up4 (20 + n)), by rw [hl], HE.out.1, by exact HE.out.2.1⟩

theorem pputInit_ack (x0 x1 x2 x3 x4 : Int) (a : Option Addr) (n c : Nat) (ck : List Int) (w : World) (hr : Reads w a n ck) (hn : n ≤ 281474976) (h00 : 0 ≤ x0) (h01 : x0 < 4294967296) (h10 : 0 ≤ x1) (h11 : x1 < 4294967296) (h20 : 0 ≤ x2) (h21 : x2 < 65536) (h30 : 0 ≤ x3) (h31 : x3 < 65536) (h40 : 0 ≤ x4) (h41 : x4 < 4294967296) : Calls Try.prog 23 #[.int .u8 2, .agg #[.int .u32 x0, .int .u32 x1, .int .u16 x2, .int .u16 x3, .int .u32 x4, .slice a n c]] w fun e w' => Puts w 2 0 (initA x0 x1 x2 x3 x4 ck) e w' := by
  have h := pputInit_ack' x0 x1 x2 x3 x4 a n c ck w hr hn h00 h01 h10 h11 h20 h21 h30 h31 h40 h41
  have hl := hr.1
  have e1 : ((enc (x0) 4 ++ enc (x1) 4) ++ (enc (x2) 2 ++ enc (x3) 2) ++ enc (x4) 4 ++ (enc 7 2 ++ enc (4 + (n : Int)) 2) ++ ck).length = 20 + n := by simp [hl]; omega
  have e : ((enc (x0) 4 ++ enc (x1) 4) ++ (enc (x2) 2 ++ enc (x3) 2) ++ enc (x4) 4 ++ (enc 7 2 ++ enc (4 + (n : Int)) 2) ++ ck) ++ List.replicate (up4 (20 + n) - (20 + n)) 0 = initA x0 x1 x2 x3 x4 ck := by
    unfold initA pad4
    have e2 : (enc (x0) 4 ++ enc (x1) 4) ++ (enc (x2) 2 ++ enc (x3) 2) ++ enc (x4) 4 ++ (enc 7 2 ++ enc (4 + (n : Int)) 2) ++ ck = initH x0 x1 x2 x3 x4 ++ enc 7 2 ++ enc (4 + (ck.length : Int)) 2 ++ ck := by rw [hl]; simp [initH, List.append_assoc]
    rw [← e2, e1]
  rw [e] at h
  exact h

set_option maxRecDepth 100000 in
set_option maxHeartbeats 1600000 in
theorem rputInit_no' (k : Int) (hk : k ≠ 2) (x0 x1 x2 x3 x4 : Int) (a : Option Addr) (n c : Nat) (ck : List Int) (w : World) (hr : Reads w a n ck) (hn : n ≤ 281474976) (h00 : 0 ≤ x0) (h01 : x0 < 4294967296) (h10 : 0 ≤ x1) (h11 : x1 < 4294967296) (h20 : 0 ≤ x2) (h21 : x2 < 65536) (h30 : 0 ≤ x3) (h31 : x3 < 65536) (h40 : 0 ≤ x4) (h41 : x4 < 4294967296) : Calls Try.prog 26 #[.int .u8 k, .agg #[.int .u32 x0, .int .u32 x1, .int .u16 x2, .int .u16 x3, .int .u32 x4, .slice a n c]] w fun e w' => Puts w (k) (0) (enc (x0) 4 ++ enc (x1) 4 ++ enc (x2) 2 ++ enc (x3) 2 ++ enc (x4) 4) e w' := by
  have ek : (k == 2) = false := by simpa using hk
  clear hk
  obtain ⟨wz, hwz⟩ : ∃ wz, w.alloc (.cells #[.int .u32 x0, .int .u32 x1, .int .u16 x2, .int .u16 x3, .int .u32 x4, .slice a n c] 43) = wz := ⟨_, rfl⟩
  have hbz : Below w.heap.size w wz := by rw [← hwz]; exact (Below.refl _ _).alloc (Nat.le_refl _) _
  have hsz : wz.heap.size = w.heap.size + 1 := by rw [← hwz]; simp
  have hDz : Arr wz w.heap.size 43 [.int .u32 x0, .int .u32 x1, .int .u16 x2, .int .u16 x3, .int .u32 x4, .slice a n c] := by rw [← hwz]; exact arr_new _ _ _
  obtain ⟨w0, hw0⟩ : ∃ w0, wz.alloc (.cells #[.int .u8 0, .int .u8 0, .slice none 0 0] 28) = w0 := ⟨_, rfl⟩
  have hb00 : Below wz.heap.size wz w0 := by rw [← hw0]; exact chunkBelow _ 0 0 _
  have hs0 : w0.heap.size = wz.heap.size + 1 := by rw [← hw0]; simp
  have hA0 : Arr w0 wz.heap.size 28 [.int .u8 0, .int .u8 0, .slice none 0 0] := by rw [← hw0]; exact chunkBox _ 0 0 _
  have HD := Lib.hid (hDz.keep hb00)
  have H0 := Lib.hid (And.intro (hbz.trans (hb00.mono hbz.size)) (And.intro hs0 (And.intro hA0 hbz.size)))
  have HS0 := Lib.hid (And.intro (Below.refl w0.heap.size w0) (Row8.nil w0.heap.size w0))
  have HLT := Lib.hid (show w.heap.size < w0.heap.size by omega)
  clear hbz hb00 hs0 hA0 hsz hDz
  go_enter Try.func26, Try.ntmps26
  have hDi := HD.out.below HS0.out.1 HLT.out
  have d0 := hDi.cell (i := 0) rfl
  have d1 := hDi.cell (i := 1) rfl
  have d2 := hDi.cell (i := 2) rfl
  have d3 := hDi.cell (i := 3) rfl
  have d4 := hDi.cell (i := 4) rfl
  have d5 := hDi.cell (i := 5) rfl
  clear hDi
  have hp := putR_yes none (0) 0 4 (x0) ([]) w0 HS0.out.2.reads (by omega) h00 rfl
  try simp only [Nat.zero_add, List.nil_append, Nat.reduceAdd] at hp
  have HP1 := Lib.hid hp
  clear hp
  go_wp2_with fail
  refine HP1.out.mono ?_
  rintro e w1 ⟨a1, c1, rfl, hb1, hr1⟩
  clear d0 d1 d2 d3 d4 d5
  have HS1 := Lib.hid (And.intro (HS0.out.1.trans (hb1.mono HS0.out.1.size)) (hr1.lower HS0.out.1.size))
  clear hb1 hr1 HP1 HS0
  have hDi := HD.out.below HS1.out.1 HLT.out
  have d0 := hDi.cell (i := 0) rfl
  have d1 := hDi.cell (i := 1) rfl
  have d2 := hDi.cell (i := 2) rfl
  have d3 := hDi.cell (i := 3) rfl
  have d4 := hDi.cell (i := 4) rfl
  have d5 := hDi.cell (i := 5) rfl
  clear hDi
  have hp := putR_yes a1 (4) c1 4 (x1) (enc (x0) 4) w1 HS1.out.2.reads (by omega) h10 rfl
  try simp only [Nat.zero_add, List.nil_append, Nat.reduceAdd] at hp
  have HP2 := Lib.hid hp
  clear hp
  go_wp2_with fail
  refine HP2.out.mono ?_
  rintro e w2 ⟨a2, c2, rfl, hb2, hr2⟩
  clear d0 d1 d2 d3 d4 d5
  have HS2 := Lib.hid (And.intro (HS1.out.1.trans (hb2.mono HS1.out.1.size)) (hr2.lower HS1.out.1.size))
  clear hb2 hr2 HP2 HS1
  have hDi := HD.out.below HS2.out.1 HLT.out
  have d0 := hDi.cell (i := 0) rfl
  have d1 := hDi.cell (i := 1) rfl
  have d2 := hDi.cell (i := 2) rfl
  have d3 := hDi.cell (i := 3) rfl
  have d4 := hDi.cell (i := 4) rfl
  have d5 := hDi.cell (i := 5) rfl
  clear hDi
  have hp := putR_yes a2 (8) c2 2 (x2) (enc (x0) 4 ++ enc (x1) 4) w2 HS2.out.2.reads (by omega) h20 rfl
  try simp only [Nat.zero_add, List.nil_append, Nat.reduceAdd] at hp
  have HP3 := Lib.hid hp
  clear hp
  go_wp2_with fail
  refine HP3.out.mono ?_
  rintro e w3 ⟨a3, c3, rfl, hb3, hr3⟩
  clear d0 d1 d2 d3 d4 d5
  have HS3 := Lib.hid (And.intro (HS2.out.1.trans (hb3.mono HS2.out.1.size)) (hr3.lower HS2.out.1.size))
  clear hb3 hr3 HP3 HS2
  have hDi := HD.out.below HS3.out.1 HLT.out
  have d0 := hDi.cell (i := 0) rfl
  have d1 := hDi.cell (i := 1) rfl
  have d2 := hDi.cell (i := 2) rfl
  have d3 := hDi.cell (i := 3) rfl
  have d4 := hDi.cell (i := 4) rfl
  have d5 := hDi.cell (i := 5) rfl
  clear hDi
  have hp := putR_yes a3 (10) c3 2 (x3) (enc (x0) 4 ++ enc (x1) 4 ++ enc (x2) 2) w3 HS3.out.2.reads (by omega) h30 rfl
  try simp only [Nat.zero_add, List.nil_append, Nat.reduceAdd] at hp
  have HP4 := Lib.hid hp
  clear hp
  go_wp2_with fail
  refine HP4.out.mono ?_
  rintro e w4 ⟨a4, c4, rfl, hb4, hr4⟩
  clear d0 d1 d2 d3 d4 d5
  have HS4 := Lib.hid (And.intro (HS3.out.1.trans (hb4.mono HS3.out.1.size)) (hr4.lower HS3.out.1.size))
  clear hb4 hr4 HP4 HS3
  have hDi := HD.out.below HS4.out.1 HLT.out
  have d0 := hDi.cell (i := 0) rfl
  have d1 := hDi.cell (i := 1) rfl
  have d2 := hDi.cell (i := 2) rfl
  have d3 := hDi.cell (i := 3) rfl
  have d4 := hDi.cell (i := 4) rfl
  have d5 := hDi.cell (i := 5) rfl
  clear hDi
  have hp := putR_yes a4 (12) c4 4 (x4) (enc (x0) 4 ++ enc (x1) 4 ++ enc (x2) 2 ++ enc (x3) 2) w4 HS4.out.2.reads (by omega) h40 rfl
  try simp only [Nat.zero_add, List.nil_append, Nat.reduceAdd] at hp
  have HP5 := Lib.hid hp
  clear hp
  go_wp2_with fail
  refine HP5.out.mono ?_
  rintro e w5 ⟨a5, c5, rfl, hb5, hr5⟩
  clear d0 d1 d2 d3 d4 d5
  have HS5 := Lib.hid (And.intro (HS4.out.1.trans (hb5.mono HS4.out.1.size)) (hr5.lower HS4.out.1.size))
  clear hb5 hr5 HP5 HS4
  have hDi := HD.out.below HS5.out.1 HLT.out
  have d0 := hDi.cell (i := 0) rfl
  have d1 := hDi.cell (i := 1) rfl
  have d2 := hDi.cell (i := 2) rfl
  have d3 := hDi.cell (i := 3) rfl
  have d4 := hDi.cell (i := 4) rfl
  have d5 := hDi.cell (i := 5) rfl
  clear hDi
  have hA := H0.out.2.2.1.below HS5.out.1 (by have := H0.out.2.1; omega)
  have x0 := hA.free 0
  have x1 := hA.free 1
  have x2 := hA.free 2
  have y0 := hA.cell (i := 0) rfl
  have y1 := hA.cell (i := 1) rfl
  have y2 := hA.cell (i := 2) rfl
  obtain ⟨W3, hW3⟩ : ∃ W3, ((w5.setCell ⟨wz.heap.size, 0, none⟩ (.int .u8 (k))).setCell ⟨wz.heap.size, 1, none⟩ (.int .u8 (0))).setCell ⟨wz.heap.size, 2, none⟩ (.slice a5 (16) c5) = W3 := ⟨_, rfl⟩
  have hE := puts_end (H0.out.1.trans (HS5.out.1.mono H0.out.1.size)) (H0.out.2.2.2) (by have := H0.out.2.1; omega) hA HS5.out.2 hW3
  have z0 := hE.2.2.cell (i := 0) rfl
  have z1 := hE.2.2.cell (i := 1) rfl
  have z2 := hE.2.2.cell (i := 2) rfl
  have HE := Lib.hid (And.intro hE.1 (And.intro hE.2.1 HS5.out.2.len))
  clear hE hA HS5 H0
  go_wp2
  have hl := HE.out.2.2
  skip
  exact bodyPost_ret (by simp [results, Try.results26, go_sem, z0, z1, z2]; rfl) rfl ⟨a5, c5, by rw [hl], HE.out.1, by exact HE.out.2.1⟩

theorem rputInit_no (k : Int) (hk : k ≠ 2) (x0 x1 x2 x3 x4 : Int) (a : Option Addr) (n c : Nat) (ck : List Int) (w : World) (hr : Reads w a n ck) (hn : n ≤ 281474976) (h00 : 0 ≤ x0) (h01 : x0 < 4294967296) (h10 : 0 ≤ x1) (h11 : x1 < 4294967296) (h20 : 0 ≤ x2) (h21 : x2 < 65536) (h30 : 0 ≤ x3) (h31 : x3 < 65536) (h40 : 0 ≤ x4) (h41 : x4 < 4294967296) : Calls Try.prog 26 #[.int .u8 k, .agg #[.int .u32 x0, .int .u32 x1, .int .u16 x2, .int .u16 x3, .int .u32 x4, .slice a n c]] w fun e w' => Puts w k 0 (initH x0 x1 x2 x3 x4) e w' := by
  have h := rputInit_no' k hk x0 x1 x2 x3 x4 a n c ck w hr hn h00 h01 h10 h11 h20 h21 h30 h31 h40 h41
  have e : enc (x0) 4 ++ enc (x1) 4 ++ enc (x2) 2 ++ enc (x3) 2 ++ enc (x4) 4 = initH x0 x1 x2 x3 x4 := by simp [initH, List.append_assoc]
  rw [e] at h
  exact h

set_option maxRecDepth 100000 in
set_option maxHeartbeats 1600000 in
theorem rputInit_ack' (x0 x1 x2 x3 x4 : Int) (a : Option Addr) (n c : Nat) (ck : List Int) (w : World) (hr : Reads w a n ck) (hn : n ≤ 281474976) (h00 : 0 ≤ x0) (h01 : x0 < 4294967296) (h10 : 0 ≤ x1) (h11 : x1 < 4294967296) (h20 : 0 ≤ x2) (h21 : x2 < 65536) (h30 : 0 ≤ x3) (h31 : x3 < 65536) (h40 : 0 ≤ x4) (h41 : x4 < 4294967296) : Calls Try.prog 26 #[.int .u8 2, .agg #[.int .u32 x0, .int .u32 x1, .int .u16 x2, .int .u16 x3, .int .u32 x4, .slice a n c]] w fun e w' => Puts w (2) (0) ((enc (x0) 4 ++ enc (x1) 4 ++ enc (x2) 2 ++ enc (x3) 2 ++ enc (x4) 4 ++ enc 7 2 ++ enc (4 + (n : Int)) 2 ++ ck) ++ List.replicate (up4 (20 + n) - (20 + n)) 0) e w' := by
  have g0 : (0 : Int) ≤ 4 + (n : Int) := by omega
  have g1 : 4 + (n : Int) < 65536000000 := by omega
  have u0 := up4_ge (20 + n)
  have u1 := up4_le (20 + n)
  have HR0 := Lib.hid hr
  clear hr
  obtain ⟨wz, hwz⟩ : ∃ wz, w.alloc (.cells #[.int .u32 x0, .int .u32 x1, .int .u16 x2, .int .u16 x3, .int .u32 x4, .slice a n c] 43) = wz := ⟨_, rfl⟩
  have hbz : Below w.heap.size w wz := by rw [← hwz]; exact (Below.refl _ _).alloc (Nat.le_refl _) _
  have hsz : wz.heap.size = w.heap.size + 1 := by rw [← hwz]; simp
  have hDz : Arr wz w.heap.size 43 [.int .u32 x0, .int .u32 x1, .int .u16 x2, .int .u16 x3, .int .u32 x4, .slice a n c] := by rw [← hwz]; exact arr_new _ _ _
  obtain ⟨w0, hw0⟩ : ∃ w0, wz.alloc (.cells #[.int .u8 0, .int .u8 0, .slice none 0 0] 28) = w0 := ⟨_, rfl⟩
  have hb00 : Below wz.heap.size wz w0 := by rw [← hw0]; exact chunkBelow _ 0 0 _
  have hs0 : w0.heap.size = wz.heap.size + 1 := by rw [← hw0]; simp
  have hA0 : Arr w0 wz.heap.size 28 [.int .u8 0, .int .u8 0, .slice none 0 0] := by rw [← hw0]; exact chunkBox _ 0 0 _
  have HD := Lib.hid (hDz.keep hb00)
  have H0 := Lib.hid (And.intro (hbz.trans (hb00.mono hbz.size)) (And.intro hs0 (And.intro hA0 hbz.size)))
  have HS0 := Lib.hid (And.intro (Below.refl w0.heap.size w0) (Row8.nil w0.heap.size w0))
  have HLT := Lib.hid (show w.heap.size < w0.heap.size by omega)
  have HR1 := Lib.hid (HR0.out.below H0.out.1)
  clear hbz hb00 hs0 hA0 hsz hDz
  go_enter Try.func26, Try.ntmps26
  have hDi := HD.out.below HS0.out.1 HLT.out
  have d0 := hDi.cell (i := 0) rfl
  have d1 := hDi.cell (i := 1) rfl
  have d2 := hDi.cell (i := 2) rfl
  have d3 := hDi.cell (i := 3) rfl
  have d4 := hDi.cell (i := 4) rfl
  have d5 := hDi.cell (i := 5) rfl
  clear hDi
  have hp := putR_yes none (0) 0 4 (x0) ([]) w0 HS0.out.2.reads (by omega) h00 rfl
  try simp only [Nat.zero_add, List.nil_append, Nat.reduceAdd] at hp
  have HP1 := Lib.hid hp
  clear hp
  go_wp2_with fail
  refine HP1.out.mono ?_
  rintro e w1 ⟨a1, c1, rfl, hb1, hr1⟩
  clear d0 d1 d2 d3 d4 d5
  have HS1 := Lib.hid (And.intro (HS0.out.1.trans (hb1.mono HS0.out.1.size)) (hr1.lower HS0.out.1.size))
  clear hb1 hr1 HP1 HS0
  have hDi := HD.out.below HS1.out.1 HLT.out
  have d0 := hDi.cell (i := 0) rfl
  have d1 := hDi.cell (i := 1) rfl
  have d2 := hDi.cell (i := 2) rfl
  have d3 := hDi.cell (i := 3) rfl
  have d4 := hDi.cell (i := 4) rfl
  have d5 := hDi.cell (i := 5) rfl
  clear hDi
  have hp := putR_yes a1 (4) c1 4 (x1) (enc (x0) 4) w1 HS1.out.2.reads (by omega) h10 rfl
  try simp only [Nat.zero_add, List.nil_append, Nat.reduceAdd] at hp
  have HP2 := Lib.hid hp
  clear hp
  go_wp2_with fail
  refine HP2.out.mono ?_
  rintro e w2 ⟨a2, c2, rfl, hb2, hr2⟩
  clear d0 d1 d2 d3 d4 d5
  have HS2 := Lib.hid (And.intro (HS1.out.1.trans (hb2.mono HS1.out.1.size)) (hr2.lower HS1.out.1.size))
  clear hb2 hr2 HP2 HS1
  have hDi := HD.out.below HS2.out.1 HLT.out
  have d0 := hDi.cell (i := 0) rfl
  have d1 := hDi.cell (i := 1) rfl
  have d2 := hDi.cell (i := 2) rfl
  have d3 := hDi.cell (i := 3) rfl
  have d4 := hDi.cell (i := 4) rfl
  have d5 := hDi.cell (i := 5) rfl
  clear hDi
  have hp := putR_yes a2 (8) c2 2 (x2) (enc (x0) 4 ++ enc (x1) 4) w2 HS2.out.2.reads (by omega) h20 rfl
  try simp only [Nat.zero_add, List.nil_append, Nat.reduceAdd] at hp
  have HP3 := Lib.hid hp
  clear hp
  go_wp2_with fail
  refine HP3.out.mono ?_
  rintro e w3 ⟨a3, c3, rfl, hb3, hr3⟩
  clear d0 d1 d2 d3 d4 d5
  have HS3 := Lib.hid (And.intro (HS2.out.1.trans (hb3.mono HS2.out.1.size)) (hr3.lower HS2.out.1.size))
  clear hb3 hr3 HP3 HS2
  have hDi := HD.out.below HS3.out.1 HLT.out
  have d0 := hDi.cell (i := 0) rfl
  have d1 := hDi.cell (i := 1) rfl
  have d2 := hDi.cell (i := 2) rfl
  have d3 := hDi.cell (i := 3) rfl
  have d4 := hDi.cell (i := 4) rfl
  have d5 := hDi.cell (i := 5) rfl
  clear hDi
  have hp := putR_yes a3 (10) c3 2 (x3) (enc (x0) 4 ++ enc (x1) 4 ++ enc (x2) 2) w3 HS3.out.2.reads (by omega) h30 rfl
  try simp only [Nat.zero_add, List.nil_append, Nat.reduceAdd] at hp
  have HP4 := Lib.hid hp
  clear hp
  go_wp2_with fail
  refine HP4.out.mono ?_
  rintro e w4 ⟨a4, c4, rfl, hb4, hr4⟩
  clear d0 d1 d2 d3 d4 d5
  have HS4 := Lib.hid (And.intro (HS3.out.1.trans (hb4.mono HS3.out.1.size)) (hr4.lower HS3.out.1.size))
  clear hb4 hr4 HP4 HS3
  have hDi := HD.out.below HS4.out.1 HLT.out
  have d0 := hDi.cell (i := 0) rfl
  have d1 := hDi.cell (i := 1) rfl
  have d2 := hDi.cell (i := 2) rfl
  have d3 := hDi.cell (i := 3) rfl
  have d4 := hDi.cell (i := 4) rfl
  have d5 := hDi.cell (i := 5) rfl
  clear hDi
  have hp := putR_yes a4 (12) c4 4 (x4) (enc (x0) 4 ++ enc (x1) 4 ++ enc (x2) 2 ++ enc (x3) 2) w4 HS4.out.2.reads (by omega) h40 rfl
  try simp only [Nat.zero_add, List.nil_append, Nat.reduceAdd] at hp
  have HP5 := Lib.hid hp
  clear hp
  go_wp2_with fail
  refine HP5.out.mono ?_
  rintro e w5 ⟨a5, c5, rfl, hb5, hr5⟩
  clear d0 d1 d2 d3 d4 d5
  have HS5 := Lib.hid (And.intro (HS4.out.1.trans (hb5.mono HS4.out.1.size)) (hr5.lower HS4.out.1.size))
  clear hb5 hr5 HP5 HS4
  have hDi := HD.out.below HS5.out.1 HLT.out
  have d0 := hDi.cell (i := 0) rfl
  have d1 := hDi.cell (i := 1) rfl
  have d2 := hDi.cell (i := 2) rfl
  have d3 := hDi.cell (i := 3) rfl
  have d4 := hDi.cell (i := 4) rfl
  have d5 := hDi.cell (i := 5) rfl
  clear hDi
  have hp := putR_yes a5 (16) c5 2 (7) (enc (x0) 4 ++ enc (x1) 4 ++ enc (x2) 2 ++ enc (x3) 2 ++ enc (x4) 4) w5 HS5.out.2.reads (by omega) (by omega) rfl
  try simp only [Nat.zero_add, List.nil_append, Nat.reduceAdd] at hp
  have HP6 := Lib.hid hp
  clear hp
  go_wp2_with fail
  refine HP6.out.mono ?_
  rintro e w6 ⟨a6, c6, rfl, hb6, hr6⟩
  clear d0 d1 d2 d3 d4 d5
  have HS6 := Lib.hid (And.intro (HS5.out.1.trans (hb6.mono HS5.out.1.size)) (hr6.lower HS5.out.1.size))
  clear hb6 hr6 HP6 HS5
  have hDi := HD.out.below HS6.out.1 HLT.out
  have d0 := hDi.cell (i := 0) rfl
  have d1 := hDi.cell (i := 1) rfl
  have d2 := hDi.cell (i := 2) rfl
  have d3 := hDi.cell (i := 3) rfl
  have d4 := hDi.cell (i := 4) rfl
  have d5 := hDi.cell (i := 5) rfl
  clear hDi
  have hp := putR_yes a6 (18) c6 2 (4 + (n : Int)) (enc (x0) 4 ++ enc (x1) 4 ++ enc (x2) 2 ++ enc (x3) 2 ++ enc (x4) 4 ++ enc (7) 2) w6 HS6.out.2.reads (by omega) g0 rfl
  try simp only [Nat.zero_add, List.nil_append, Nat.reduceAdd] at hp
  have HP7 := Lib.hid hp
  clear hp
  go_wp2_with fail
  refine HP7.out.mono ?_
  rintro e w7 ⟨a7, c7, rfl, hb7, hr7⟩
  clear d0 d1 d2 d3 d4 d5
  have HS7 := Lib.hid (And.intro (HS6.out.1.trans (hb7.mono HS6.out.1.size)) (hr7.lower HS6.out.1.size))
  clear hb7 hr7 HP7 HS6
  have hDi := HD.out.below HS7.out.1 HLT.out
  have d0 := hDi.cell (i := 0) rfl
  have d1 := hDi.cell (i := 1) rfl
  have d2 := hDi.cell (i := 2) rfl
  have d3 := hDi.cell (i := 3) rfl
  have d4 := hDi.cell (i := 4) rfl
  have d5 := hDi.cell (i := 5) rfl
  clear hDi
  have hra := HR0.out.below (H0.out.1.trans (HS7.out.1.mono H0.out.1.size))
  obtain ⟨a8, c8, w8, hrun, H8⟩ := HS7.out.2.appends HS7.out.1.size a n c ck hra (by omega)
  have hb8 := H8.out.2
  have hr8 := H8.out.1
  have HP8 := Lib.hid hrun
  clear hrun H8 hra
  have HPD := Lib.hid (padR_any a8 (20 + n) c8 _ w8 hr8.reads (by omega))
  have HSx := Lib.hid (And.intro (HS7.out.1.trans hb8) hr8)
  clear hb8 hr8
  go_wp2_with (at_builtin; refine wpList_append_run rfl _ _ _ rfl _ _ _ _ rfl rfl HP8.out ?_)
  refine HPD.out.mono ?_
  rintro e w9 ⟨a9, c9, rfl, hbp, hkp⟩
  have HS9 := Lib.hid (And.intro (HSx.out.1.trans (hbp.mono HSx.out.1.size)) (hkp.lower HSx.out.1.size))
  clear hbp hkp HPD HSx HP8 HS7
  clear d0 d1 d2 d3 d4 d5
  have hDi := HD.out.below HS9.out.1 HLT.out
  have d0 := hDi.cell (i := 0) rfl
  have d1 := hDi.cell (i := 1) rfl
  have d2 := hDi.cell (i := 2) rfl
  have d3 := hDi.cell (i := 3) rfl
  have d4 := hDi.cell (i := 4) rfl
  have d5 := hDi.cell (i := 5) rfl
  clear hDi
  have hA := H0.out.2.2.1.below HS9.out.1 (by have := H0.out.2.1; omega)
  have x0 := hA.free 0
  have x1 := hA.free 1
  have x2 := hA.free 2
  have y0 := hA.cell (i := 0) rfl
  have y1 := hA.cell (i := 1) rfl
  have y2 := hA.cell (i := 2) rfl
  obtain ⟨W3, hW3⟩ : ∃ W3, ((w9.setCell ⟨wz.heap.size, 0, none⟩ (.int .u8 (2))).setCell ⟨wz.heap.size, 1, none⟩ (.int .u8 (0))).setCell ⟨wz.heap.size, 2, none⟩ (.slice a9 (up4 (20 + n)) c9) = W3 := ⟨_, rfl⟩
  have hE := puts_end (H0.out.1.trans (HS9.out.1.mono H0.out.1.size)) (H0.out.2.2.2) (by have := H0.out.2.1; omega) hA HS9.out.2 hW3
  have z0 := hE.2.2.cell (i := 0) rfl
  have z1 := hE.2.2.cell (i := 1) rfl
  have z2 := hE.2.2.cell (i := 2) rfl
  have HE := Lib.hid (And.intro hE.1 (And.intro hE.2.1 HS9.out.2.len))
  clear hE hA HS9 H0
  go_wp2
  have hl := HE.out.2.2
  skip
  exact bodyPost_ret (by simp [results, Try.results26, go_sem, z0, z1, z2]; rfl) rfl ⟨a9, c9, by rw [hl], HE.out.1, by exact HE.out.2.1⟩

theorem rputInit_ack (x0 x1 x2 x3 x4 : Int) (a : Option Addr) (n c : Nat) (ck : List Int) (w : World) (hr : Reads w a n ck) (hn : n ≤ 281474976) (h00 : 0 ≤ x0) (h01 : x0 < 4294967296) (h10 : 0 ≤ x1) (h11 : x1 < 4294967296) (h20 : 0 ≤ x2) (h21 : x2 < 65536) (h30 : 0 ≤ x3) (h31 : x3 < 65536) (h40 : 0 ≤ x4) (h41 : x4 < 4294967296) : Calls Try.prog 26 #[.int .u8 2, .agg #[.int .u32 x0, .int .u32 x1, .int .u16 x2, .int .u16 x3, .int .u32 x4, .slice a n c]] w fun e w' => Puts w 2 0 (initA x0 x1 x2 x3 x4 ck) e w' := by
  have h := rputInit_ack' x0 x1 x2 x3 x4 a n c ck w hr hn h00 h01 h10 h11 h20 h21 h30 h31 h40 h41
  have hl := hr.1
  have e1 : (enc (x0) 4 ++ enc (x1) 4 ++ enc (x2) 2 ++ enc (x3) 2 ++ enc (x4) 4 ++ enc 7 2 ++ enc (4 + (n : Int)) 2 ++ ck).length = 20 + n := by simp [hl]; omega
  have e : (enc (x0) 4 ++ enc (x1) 4 ++ enc (x2) 2 ++ enc (x3) 2 ++ enc (x4) 4 ++ enc 7 2 ++ enc (4 + (n : Int)) 2 ++ ck) ++ List.replicate (up4 (20 + n) - (20 + n)) 0 = initA x0 x1 x2 x3 x4 ck := by
    unfold initA pad4
    have e2 : enc (x0) 4 ++ enc (x1) 4 ++ enc (x2) 2 ++ enc (x3) 2 ++ enc (x4) 4 ++ enc 7 2 ++ enc (4 + (n : Int)) 2 ++ ck = initH x0 x1 x2 x3 x4 ++ enc 7 2 ++ enc (4 + (ck.length : Int)) 2 ++ ck := by rw [hl]; simp [initH, List.append_assoc]
    rw [← e2, e1]
  rw [e] at h
  exact h

def dflags (u f l : Bool) : Int := (if u then 4 else 0) + (if f then 2 else 0) + (if l then 1 else 0)
set_option maxRecDepth 100000 in
set_option maxHeartbeats 3200000 in
theorem dflags_any (x0 x1 x2 : Int) (u f l : Bool) (q : Option Addr) (qn qc : Nat) (w : World) :
    Calls Try.prog 49 #[.agg #[.int .u32 x0, .int .u16 x1, .int .u16 x2, .bool u, .bool f, .bool l, .slice q qn qc]] w fun e w' => e = .returned (.int .u8 (dflags u f l)) ∧ Below w.heap.size w w' := by
  obtain ⟨w0, hw0⟩ : ∃ w0, w.alloc (.cells #[.int .u32 x0, .int .u16 x1, .int .u16 x2, .bool u, .bool f, .bool l, .slice q qn qc] 26) = w0 := ⟨_, rfl⟩
  have hb0 : Below w.heap.size w w0 := by rw [← hw0]; exact (Below.refl _ _).alloc (Nat.le_refl _) _
  have hA0 : Arr w0 w.heap.size 26 [.int .u32 x0, .int .u16 x1, .int .u16 x2, .bool u, .bool f, .bool l, .slice q qn qc] := by rw [← hw0]; exact arr_new _ _ _
  have d3 := hA0.cell (i := 3) rfl
  have d4 := hA0.cell (i := 4) rfl
  have d5 := hA0.cell (i := 5) rfl
  have HB := Lib.hid hb0
  clear hb0 hA0
  cases u <;> cases f <;> cases l <;> (go_enter Try.func49, Try.ntmps49; go_wp2; go_ret; exact ⟨rfl, HB.out⟩)

end Go.Proofs.Ytlihcckgnnnekaa
