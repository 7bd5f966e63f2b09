/-
  Stage 9: PutData, the program's and the reference's. Written by genpd.py.
-/
import Derived.Test.YtlihcckgnnnekaaBdPuts2
import Derived.Test.YtlihcckgnnnekaaGoodL
namespace Go.Proofs.Ytlihcckgnnnekaa
open Go.RowKit
set_option linter.unusedVariables false
set_option linter.unusedSimpArgs false

def dataB (x0 x1 x2 : Int) (bs : List Int) : List Int := enc x0 4 ++ enc x1 2 ++ enc x2 2 ++ enc 0 4 ++ bs
theorem dataB_len (x0 x1 x2 : Int) (bs : List Int) : (dataB x0 x1 x2 bs).length = 12 + bs.length := by simp [dataB]; omega
theorem dataB_byt (x0 x1 x2 : Int) {bs : List Int} (h : Byt bs) : Byt (dataB x0 x1 x2 bs) := ((((enc_byt _ _).append (enc_byt _ _)).append (enc_byt _ _)).append (enc_byt _ _)).append h

/-- What the operations of the drawn region leave behind. -/
def PDG (w wz w3 : World) (x0 x1 x2 : Int) (u f l : Bool) (q : Option Addr) (n c : Nat) (bs : List Int) (a3 : Option Addr) (c3 : Nat) (base : Nat) (i : Nat) (v : Value) (W : World) : Prop := match i with | 0 => v = .agg #[.int .u32 x0, .int .u16 x1, .int .u16 x2, .bool u, .bool f, .bool l, .slice q n c] | 1 => v = .int .u8 (dflags u f l) | 2 => v = .slice a3 12 c3 | 3 => v = .pointer (some ⟨w.heap.size, 6, none⟩) | 4 => v = .slice q n c | 5 => ∃ a9 c9, v = .slice a9 (12 + n) c9 ∧ Row8 base W a9 (12 + n) c9 (enc (x0) 4 ++ (enc (x1) 2 ++ enc (x2) 2) ++ enc (0) 4 ++ bs) | 6 => ∃ a9_26 c9_26, v = .agg #[.int .u8 0, .int .u8 (dflags u f l), .slice a9_26 (12 + n) c9_26] ∧ Row8 base W a9_26 (12 + n) c9_26 (enc (x0) 4 ++ (enc (x1) 2 ++ enc (x2) 2) ++ enc (0) 4 ++ bs) | _ => True
theorem PDG_mono {w wz w3 : World} {x0 x1 x2 : Int} {u f l : Bool} {q : Option Addr} {n c : Nat} {bs : List Int} {a3 : Option Addr} {c3 : Nat} {base : Nat} {W W' : World} (hb : Below W.heap.size W W') (j : Nat) (x : Value) (h : PDG w wz w3 x0 x1 x2 u f l q n c bs a3 c3 base j x W) : PDG w wz w3 x0 x1 x2 u f l q n c bs a3 c3 base j x W' := by
  unfold PDG at h ⊢
  split at h <;> try exact h
  · obtain ⟨a9, c9, e0, h0_0⟩ := h
    exact ⟨a9, c9, e0, h0_0.keep hb⟩
  · obtain ⟨a9_26, c9_26, e0, h0_0⟩ := h
    exact ⟨a9_26, c9_26, e0, h0_0.keep hb⟩

theorem PDG_app {w wz w3 : World} {x0 x1 x2 : Int} {u f l : Bool} {q : Option Addr} {n c : Nat} {bs : List Int} {a3 : Option Addr} {c3 : Nat} {base : Nat} {W W9 : World} {j : Nat} {x : Value} (hj : j ≠ 5) (hj6 : j ≠ 6) (h : PDG w wz w3 x0 x1 x2 u f l q n c bs a3 c3 base j x W) : PDG w wz w3 x0 x1 x2 u f l q n c bs a3 c3 base j x W9 := by
  unfold PDG at h ⊢
  split at h <;> first | exact h | exact absurd rfl hj | exact absurd rfl hj6

set_option maxRecDepth 100000 in
set_option maxHeartbeats 1600000 in
theorem pputData' (x0 x1 x2 : Int) (u f l : Bool) (q : Option Addr) (n c : Nat) (bs : List Int) (w : World) (hr : Reads w q n bs) (hn : n ≤ 281474976) (h00 : 0 ≤ x0) (h01 : x0 < 4294967296) (h10 : 0 ≤ x1) (h11 : x1 < 65536) (h20 : 0 ≤ x2) (h21 : x2 < 65536) : Calls Try.prog 15 #[.agg #[.int .u32 x0, .int .u16 x1, .int .u16 x2, .bool u, .bool f, .bool l, .slice q n c]] w fun e w' => Puts w (0) (dflags u f l) (enc (x0) 4 ++ (enc (x1) 2 ++ enc (x2) 2) ++ enc (0) 4 ++ bs) e w' := by
  have HR0 := Lib.hid hr
  clear hr
  obtain ⟨wz, hwz⟩ : ∃ wz, w.alloc (.cells #[.int .u32 x0, .int .u16 x1, .int .u16 x2, .bool u, .bool f, .bool l, .slice q n c] 26) = wz := ⟨_, rfl⟩
  have hbz : Below w.heap.size w wz := by rw [← hwz]; exact (Below.refl _ _).alloc (Nat.le_refl _) _
  have hsz : wz.heap.size = w.heap.size + 1 := by rw [← hwz]; simp
  have hDz : Arr wz w.heap.size 26 [.int .u32 x0, .int .u16 x1, .int .u16 x2, .bool u, .bool f, .bool l, .slice q n c] := by rw [← hwz]; exact arr_new _ _ _
  obtain ⟨w0, hw0⟩ : ∃ w0, wz.alloc (.cells #[.int .u8 0, .int .u8 0, .slice none 0 0] 28) = w0 := ⟨_, rfl⟩
  have hb00 : Below wz.heap.size wz w0 := by rw [← hw0]; exact chunkBelow _ 0 0 _
  have hs0 : w0.heap.size = wz.heap.size + 1 := by rw [← hw0]; simp
  have hA0 : Arr w0 wz.heap.size 28 [.int .u8 0, .int .u8 0, .slice none 0 0] := by rw [← hw0]; exact chunkBox _ 0 0 _
  have HD := Lib.hid (hDz.keep hb00)
  have H0 := Lib.hid (And.intro (hbz.trans (hb00.mono hbz.size)) (And.intro hs0 (And.intro hA0 hbz.size)))
  have HS0 := Lib.hid (And.intro (Below.refl w0.heap.size w0) (Row8.nil w0.heap.size w0))
  have HLT := Lib.hid (show w.heap.size < w0.heap.size by omega)
  have HR1 := Lib.hid (HR0.out.below H0.out.1)
  clear hbz hb00 hs0 hA0 hsz hDz
  go_enter Try.func15, Try.ntmps15
  have hDi := HD.out.below HS0.out.1 HLT.out
  have d0 := hDi.cell (i := 0) rfl
  have d1 := hDi.cell (i := 1) rfl
  have d2 := hDi.cell (i := 2) rfl
  have d3 := hDi.cell (i := 3) rfl
  have d4 := hDi.cell (i := 4) rfl
  have d5 := hDi.cell (i := 5) rfl
  have d6 := hDi.cell (i := 6) rfl
  clear hDi
  have hp := put1 w0.heap.size none (0) 0 4 ([]) (x0) w0 HS0.out.2 HS0.out.1.size (by omega) h00 (by omega) rfl
  try simp only [Nat.zero_add, List.nil_append, Nat.reduceMul, Nat.reduceAdd] at hp
  have HP1 := Lib.hid hp
  clear hp
  go_wp2_with fail
  refine HP1.out.mono ?_
  rintro e w1 ⟨a1, c1, rfl, hb1, hr1⟩
  clear d0 d1 d2 d3 d4 d5 d6
  have HS1 := Lib.hid (And.intro (HS0.out.1.trans hb1) hr1)
  clear hb1 hr1 HP1 HS0
  have hDi := HD.out.below HS1.out.1 HLT.out
  have d0 := hDi.cell (i := 0) rfl
  have d1 := hDi.cell (i := 1) rfl
  have d2 := hDi.cell (i := 2) rfl
  have d3 := hDi.cell (i := 3) rfl
  have d4 := hDi.cell (i := 4) rfl
  have d5 := hDi.cell (i := 5) rfl
  have d6 := hDi.cell (i := 6) rfl
  clear hDi
  have hp := put2 w0.heap.size a1 (4) c1 2 (enc (x0) 4) (x1) (x2) w1 HS1.out.2 HS1.out.1.size (by omega) h10 (by omega) h20 (by omega) rfl
  try simp only [Nat.zero_add, List.nil_append, Nat.reduceMul, Nat.reduceAdd] at hp
  have HP2 := Lib.hid hp
  clear hp
  go_wp2_with fail
  refine HP2.out.mono ?_
  rintro e w2 ⟨a2, c2, rfl, hb2, hr2⟩
  clear d0 d1 d2 d3 d4 d5 d6
  have HS2 := Lib.hid (And.intro (HS1.out.1.trans hb2) hr2)
  clear hb2 hr2 HP2 HS1
  have hDi := HD.out.below HS2.out.1 HLT.out
  have d0 := hDi.cell (i := 0) rfl
  have d1 := hDi.cell (i := 1) rfl
  have d2 := hDi.cell (i := 2) rfl
  have d3 := hDi.cell (i := 3) rfl
  have d4 := hDi.cell (i := 4) rfl
  have d5 := hDi.cell (i := 5) rfl
  have d6 := hDi.cell (i := 6) rfl
  clear hDi
  have hp := put1 w0.heap.size a2 (8) c2 4 (enc (x0) 4 ++ (enc (x1) 2 ++ enc (x2) 2)) (0) w2 HS2.out.2 HS2.out.1.size (by omega) (by omega) (by omega) rfl
  try simp only [Nat.zero_add, List.nil_append, Nat.reduceMul, Nat.reduceAdd] at hp
  have HP3 := Lib.hid hp
  clear hp
  go_wp2_with fail
  refine HP3.out.mono ?_
  rintro e w3 ⟨a3, c3, rfl, hb3, hr3⟩
  clear d0 d1 d2 d3 d4 d5 d6
  have HS3 := Lib.hid (And.intro (HS2.out.1.trans hb3) hr3)
  clear hb3 hr3 HP3 HS2
  have hDi := HD.out.below HS3.out.1 HLT.out
  have d0 := hDi.cell (i := 0) rfl
  have d1 := hDi.cell (i := 1) rfl
  have d2 := hDi.cell (i := 2) rfl
  have d3 := hDi.cell (i := 3) rfl
  have d4 := hDi.cell (i := 4) rfl
  have d5 := hDi.cell (i := 5) rfl
  have d6 := hDi.cell (i := 6) rfl
  clear hDi
  obtain ⟨base, hbase⟩ : ∃ base, base = w0.heap.size := ⟨_, rfl⟩
  rw [← hbase] at HS3
  have HBL := Lib.hid (show w.heap.size ≤ base from by rw [hbase]; exact H0.out.1.size)
  have HBW := Lib.hid (H0.out.1.trans (HS3.out.1.mono HBL.out))
  have HDW := Lib.hid (show ∀ W, Below base w3 W → Arr W w.heap.size 26 [.int .u32 x0, .int .u16 x1, .int .u16 x2, .bool u, .bool f, .bool l, .slice q n c] from fun W h => (HD.out.below (hbase ▸ HS3.out.1) HLT.out).below h (by rw [hbase]; exact HLT.out))
  clear d0 d1 d2 d3 d4 d5 d6
  go_wp2_with fail
  refine wp_region_any (by kernel_rfl) ?_
  refine Vals.wpAny_goodLastL (PDG w wz w3 x0 x1 x2 u f l q n c bs a3 c3 base) (fun listed W => Below base w3 W ∧ base ≤ W.heap.size ∧ (listed.getD 5 false = false → Row8 base W a3 12 c3 (enc (x0) 4 ++ (enc (x1) 2 ++ enc (x2) 2) ++ enc (0) 4))) [some 21, some 22, some 23, some 24, some 25, some 26, some 27, none] 7 28 _ _ rfl (by kernel_rfl) (by kernel_rfl) (by kernel_rfl) (by decide) rfl ?step ?fin ⟨(Below.refl _ _).drew, (by rw [hbase]; exact HS3.out.1.size), fun _ => HS3.out.2⟩
  case step =>
    intro i o d ho hd hiN listed a W hls hun hcl hJ hdf hdep hfr K hK
    match i, ho, hd with
    | 0, ho, hd =>
      have ho' := ho
      simp only [List.getElem?_toArray, List.getElem?_cons_zero, Option.some.injEq] at ho hd
      subst ho hd
      have r1 : a.eval (.tmp 1) = .pointer (some ⟨w.heap.size, 0, none⟩) := hfr 1 (by decide)
      rw [Vals.eval_tmp] at r1
      have c0 := (HDW.out W hJ.1).cell (i := 0) rfl
      have c1 := (HDW.out W hJ.1).cell (i := 1) rfl
      have c2 := (HDW.out W hJ.1).cell (i := 2) rfl
      have c3 := (HDW.out W hJ.1).cell (i := 3) rfl
      have c4 := (HDW.out W hJ.1).cell (i := 4) rfl
      have c5 := (HDW.out W hJ.1).cell (i := 5) rfl
      have c6 := (HDW.out W hJ.1).cell (i := 6) rfl
      refine Vals.wpOp_run ho' rfl ?_
      clear hdep hfr ho' hdf
      go_simp
      exact hK _ _ (fun _ _ _ _ h => h) ⟨hJ.1, hJ.2.1, fun h => hJ.2.2 (Vals.jlisted (i := 0) h (by decide))⟩ (fun _ => rfl)
    | 1, ho, hd =>
      have ho' := ho
      simp only [List.getElem?_toArray, List.getElem?_cons_zero, List.getElem?_cons_succ, Option.some.injEq] at ho hd
      subst ho hd
      have r21 : a.eval (.tmp 21) = .agg #[.int .u32 x0, .int .u16 x1, .int .u16 x2, .bool u, .bool f, .bool l, .slice q n c] := hdep ⟨0, .data⟩ (by simp) rfl 21 rfl
      rw [Vals.eval_tmp] at r21
      refine Vals.wpOp_run ho' rfl ?_
      clear hdep hfr ho' hdf
      go_simp
      refine (dflags_any x0 x1 x2 u f l q n c W).mono ?_
      rintro e w' ⟨rfl, hb3⟩
      exact hK _ _ (fun j x _ _ h => PDG_mono hb3 j x h) ⟨hJ.1.trans (hb3.mono hJ.2.1), Nat.le_trans hJ.2.1 hb3.size, fun h => (hJ.2.2 (Vals.jlisted (i := 1) h (by decide))).keep hb3⟩ (fun _ => rfl)
    | 2, ho, hd =>
      have ho' := ho
      simp only [List.getElem?_toArray, List.getElem?_cons_zero, List.getElem?_cons_succ, Option.some.injEq] at ho hd
      subst ho hd
      have r3 : a.eval (.tmp 3) = .slice a3 12 c3 := hfr 3 (by decide)
      rw [Vals.eval_tmp] at r3
      refine Vals.wpOp_run ho' rfl ?_
      clear hdep hfr ho' hdf
      go_simp
      exact hK _ _ (fun _ _ _ _ h => h) ⟨hJ.1, hJ.2.1, fun h => hJ.2.2 (Vals.jlisted (i := 2) h (by decide))⟩ (fun _ => rfl)
    | 3, ho, hd =>
      have ho' := ho
      simp only [List.getElem?_toArray, List.getElem?_cons_zero, List.getElem?_cons_succ, Option.some.injEq] at ho hd
      subst ho hd
      have r1 : a.eval (.tmp 1) = .pointer (some ⟨w.heap.size, 0, none⟩) := hfr 1 (by decide)
      rw [Vals.eval_tmp] at r1
      refine Vals.wpOp_run ho' rfl ?_
      clear hdep hfr ho' hdf
      go_simp
      exact hK _ _ (fun _ _ _ _ h => h) ⟨hJ.1, hJ.2.1, fun h => hJ.2.2 (Vals.jlisted (i := 3) h (by decide))⟩ (fun _ => rfl)
    | 4, ho, hd =>
      have ho' := ho
      simp only [List.getElem?_toArray, List.getElem?_cons_zero, List.getElem?_cons_succ, Option.some.injEq] at ho hd
      subst ho hd
      have r24 : a.eval (.tmp 24) = .pointer (some ⟨w.heap.size, 6, none⟩) := hdep ⟨3, .data⟩ (by simp) rfl 24 rfl
      rw [Vals.eval_tmp] at r24
      have c0 := (HDW.out W hJ.1).cell (i := 6) rfl
      refine Vals.wpOp_run ho' rfl ?_
      clear hdep hfr ho' hdf
      go_simp
      exact hK _ _ (fun _ _ _ _ h => h) ⟨hJ.1, hJ.2.1, fun h => hJ.2.2 (Vals.jlisted (i := 4) h (by decide))⟩ (fun _ => rfl)
    | 5, ho, hd =>
      have ho' := ho
      simp only [List.getElem?_toArray, List.getElem?_cons_zero, List.getElem?_cons_succ, Option.some.injEq] at ho hd
      subst ho hd
      have r23 : a.eval (.tmp 23) = .slice a3 12 c3 := hdep ⟨2, .data⟩ (by simp) rfl 23 rfl
      rw [Vals.eval_tmp] at r23
      have r25 : a.eval (.tmp 25) = .slice q n c := hdep ⟨4, .data⟩ (by simp) rfl 25 rfl
      rw [Vals.eval_tmp] at r25
      obtain ⟨a9, c9, W9, hrun, H9⟩ := (hJ.2.2 hun).appends hJ.2.1 q n c bs (HR0.out.below (HBW.out.trans (hJ.1.mono HBL.out))) (by omega)
      refine Vals.wpOp_run ho' rfl ?_
      clear hdep hfr ho' hdf
      refine Vals.oper_append_run (.tmp 23) (.tmp 25) 24 rfl _ _ _ W9 (by rw [Vals.eval_tmp]; exact r23) (by rw [Vals.eval_tmp]; exact r25) hrun ?_
      exact hK _ _ (fun j x hlj hji h => PDG_app hji (fun e => by subst e; have := hcl 6 _ rfl hlj ⟨5, .data⟩ (by simp) rfl; rw [hun] at this; cases this) h) ⟨hJ.1.trans H9.out.2, Nat.le_trans hJ.2.1 H9.out.2.size, fun h => (Vals.jself (by rw [hls]; decide) h).elim⟩ (fun _ => ⟨_, _, rfl, H9.out.1⟩)
    | 6, ho, hd =>
      have ho' := ho
      simp only [List.getElem?_toArray, List.getElem?_cons_zero, List.getElem?_cons_succ, Option.some.injEq] at ho hd
      subst ho hd
      have r22 : a.eval (.tmp 22) = .int .u8 (dflags u f l) := hdep ⟨1, .data⟩ (by simp) rfl 22 rfl
      rw [Vals.eval_tmp] at r22
      have g26 : ∃ a9_26 c9_26, a.eval (.tmp 26) = .slice a9_26 (12 + n) c9_26 ∧ Row8 base W a9_26 (12 + n) c9_26 (enc (x0) 4 ++ (enc (x1) 2 ++ enc (x2) 2) ++ enc (0) 4 ++ bs) := hdep ⟨5, .data⟩ (by simp) rfl 26 rfl
      rw [Vals.eval_tmp] at g26
      obtain ⟨a9_26, c9_26, r26, h26_0⟩ := g26
      refine Vals.wpOp_run ho' rfl ?_
      clear hdep hfr ho' hdf
      go_simp
      exact hK _ _ (fun _ _ _ _ h => h) ⟨hJ.1, hJ.2.1, fun h => hJ.2.2 (Vals.jlisted (i := 6) h (by decide))⟩ (fun _ => ⟨_, _, rfl, h26_0⟩)
    | i + 7, ho, hd => omega
  case fin =>
    intro listed W fq hall hJ hG
    have q0 : fq 21 = .agg #[.int .u32 x0, .int .u16 x1, .int .u16 x2, .bool u, .bool f, .bool l, .slice q n c] := hG 0 21 rfl
    have q1 : fq 22 = .int .u8 (dflags u f l) := hG 1 22 rfl
    have q2 : fq 23 = .slice a3 12 c3 := hG 2 23 rfl
    have q3 : fq 24 = .pointer (some ⟨w.heap.size, 6, none⟩) := hG 3 24 rfl
    have q4 : fq 25 = .slice q n c := hG 4 25 rfl
    obtain ⟨a9_26, c9_26, q5, hq26_0⟩ : ∃ a9_26 c9_26, fq 26 = .slice a9_26 (12 + n) c9_26 ∧ Row8 base W a9_26 (12 + n) c9_26 (enc (x0) 4 ++ (enc (x1) 2 ++ enc (x2) 2) ++ enc (0) 4 ++ bs) := hG 5 26 rfl
    obtain ⟨a9_27, c9_27, q6, hq27_0⟩ : ∃ a9_27 c9_27, fq 27 = .agg #[.int .u8 0, .int .u8 (dflags u f l), .slice a9_27 (12 + n) c9_27] ∧ Row8 base W a9_27 (12 + n) c9_27 (enc (x0) 4 ++ (enc (x1) 2 ++ enc (x2) 2) ++ enc (0) 4 ++ bs) := hG 6 27 rfl
    clear hG hall
    refine Vals.wpOp_run rfl rfl ?_
    simp only [Vals.puts, Vals.pairs, List.filterMap_cons, List.filterMap_nil, id, List.map_cons, List.map_nil, List.foldl_cons, List.foldl_nil, q0, q1, q2, q3, q4, q5, q6]
    clear q0 q1 q2 q3 q4 q5 q6
    go_frame
    have hJ1 : Below base w3 W := hJ.1
    have hB9 := HS3.out.1.trans hJ1
    rw [hbase] at hB9 hq27_0
    have hA := H0.out.2.2.1.below hB9 (by have := H0.out.2.1; omega)
    have fr0 := hA.free 0
    have fr1 := hA.free 1
    have fr2 := hA.free 2
    have y0 := hA.cell (i := 0) rfl
    have y1 := hA.cell (i := 1) rfl
    have y2 := hA.cell (i := 2) rfl
    obtain ⟨W3, hW3⟩ : ∃ W3, ((W.setCell ⟨wz.heap.size, 0, none⟩ (.int .u8 0)).setCell ⟨wz.heap.size, 1, none⟩ (.int .u8 (dflags u f l))).setCell ⟨wz.heap.size, 2, none⟩ (.slice a9_27 (12 + n) c9_27) = W3 := ⟨_, rfl⟩
    have hE := puts_end (H0.out.1.trans (hB9.mono H0.out.1.size)) H0.out.2.2.2 (by have := H0.out.2.1; omega) hA hq27_0 hW3
    have z0 := hE.2.2.cell (i := 0) rfl
    have z1 := hE.2.2.cell (i := 1) rfl
    have z2 := hE.2.2.cell (i := 2) rfl
    have HE := Lib.hid (And.intro hE.1 (And.intro hE.2.1 (hq27_0).len))
    clear hE hA
    clear hJ hJ1 hB9 hq27_0 HDW HS3 H0 HD
    go_simp
    go_wp2
    have hl := HE.out.2.2
    exact bodyPost_ret (by simp [results, Try.results15, go_sem, z0, z1, z2] <;> rfl) rfl ⟨a9_27, c9_27, by rw [hl], HE.out.1, HE.out.2.1⟩

theorem pputData (x0 x1 x2 : Int) (u f l : Bool) (q : Option Addr) (n c : Nat) (bs : List Int) (w : World) (hr : Reads w q n bs) (hn : n ≤ 281474976) (h00 : 0 ≤ x0) (h01 : x0 < 4294967296) (h10 : 0 ≤ x1) (h11 : x1 < 65536) (h20 : 0 ≤ x2) (h21 : x2 < 65536) : Calls Try.prog 15 #[.agg #[.int .u32 x0, .int .u16 x1, .int .u16 x2, .bool u, .bool f, .bool l, .slice q n c]] w fun e w' => Puts w 0 (dflags u f l) (dataB x0 x1 x2 bs) e w' := by
  have h := pputData' x0 x1 x2 u f l q n c bs w hr hn h00 h01 h10 h11 h20 h21
  have e : enc (x0) 4 ++ (enc (x1) 2 ++ enc (x2) 2) ++ enc (0) 4 ++ bs = dataB x0 x1 x2 bs := by simp [dataB, List.append_assoc]
  rw [e] at h
  exact h

set_option maxRecDepth 100000 in
set_option maxHeartbeats 1600000 in
theorem rputData_000 (x0 x1 x2 : Int) (q : Option Addr) (n c : Nat) (bs : List Int) (w : World) (hr : Reads w q n bs) (hn : n ≤ 281474976) (h00 : 0 ≤ x0) (h01 : x0 < 4294967296) (h10 : 0 ≤ x1) (h11 : x1 < 65536) (h20 : 0 ≤ x2) (h21 : x2 < 65536) : Calls Try.prog 19 #[.agg #[.int .u32 x0, .int .u16 x1, .int .u16 x2, .bool false, .bool false, .bool false, .slice q n c]] w fun e w' => Puts w (0) (0) (enc (x0) 4 ++ enc (x1) 2 ++ enc (x2) 2 ++ enc (0) 4 ++ bs) e w' := by
  have HR0 := Lib.hid hr
  clear hr
  obtain ⟨wz, hwz⟩ : ∃ wz, w.alloc (.cells #[.int .u32 x0, .int .u16 x1, .int .u16 x2, .bool false, .bool false, .bool false, .slice q n c] 26) = wz := ⟨_, rfl⟩
  have hbz : Below w.heap.size w wz := by rw [← hwz]; exact (Below.refl _ _).alloc (Nat.le_refl _) _
  have hsz : wz.heap.size = w.heap.size + 1 := by rw [← hwz]; simp
  have hDz : Arr wz w.heap.size 26 [.int .u32 x0, .int .u16 x1, .int .u16 x2, .bool false, .bool false, .bool false, .slice q n c] := by rw [← hwz]; exact arr_new _ _ _
  obtain ⟨w0, hw0⟩ : ∃ w0, wz.alloc (.cells #[.int .u8 0, .int .u8 0, .slice none 0 0] 28) = w0 := ⟨_, rfl⟩
  have hb00 : Below wz.heap.size wz w0 := by rw [← hw0]; exact chunkBelow _ 0 0 _
  have hs0 : w0.heap.size = wz.heap.size + 1 := by rw [← hw0]; simp
  have hA0 : Arr w0 wz.heap.size 28 [.int .u8 0, .int .u8 0, .slice none 0 0] := by rw [← hw0]; exact chunkBox _ 0 0 _
  have HD := Lib.hid (hDz.keep hb00)
  have H0 := Lib.hid (And.intro (hbz.trans (hb00.mono hbz.size)) (And.intro hs0 (And.intro hA0 hbz.size)))
  have HS0 := Lib.hid (And.intro (Below.refl w0.heap.size w0) (Row8.nil w0.heap.size w0))
  have HLT := Lib.hid (show w.heap.size < w0.heap.size by omega)
  have hbv0 : Below w0.heap.size w0 (w0.alloc (.cells #[.int .u8 0, .int .u8 0, .slice none 0 0] 28)) := (Below.refl _ _).alloc (Nat.le_refl _) _
  have p03 := (HD.out.below hbv0 HLT.out).cell (i := 3) rfl
  have p04 := (HD.out.below hbv0 HLT.out).cell (i := 4) rfl
  have p05 := (HD.out.below hbv0 HLT.out).cell (i := 5) rfl
  have d0a := (HD.out.below hbv0 HLT.out).cell (i := 0) rfl
  clear hbz hb00 hs0 hA0 hsz hDz
  go_enter Try.func19, Try.ntmps19
  have hDi := HD.out.below HS0.out.1 HLT.out
  have d0 := hDi.cell (i := 0) rfl
  have d1 := hDi.cell (i := 1) rfl
  have d2 := hDi.cell (i := 2) rfl
  have d3 := hDi.cell (i := 3) rfl
  have d4 := hDi.cell (i := 4) rfl
  have d5 := hDi.cell (i := 5) rfl
  have d6 := hDi.cell (i := 6) rfl
  clear hDi
  clear d0 d1 d2 d3 d4 d5 d6
  have hp := putR_yes none 0 0 4 x0 [] (w0.alloc (.cells #[.int .u8 0, .int .u8 0, .slice none 0 0] 28)) (Reads.zero _ _) (by omega) h00 rfl
  try simp only [Nat.zero_add, List.nil_append, Nat.reduceAdd] at hp
  have HP1 := Lib.hid hp
  clear hp
  go_wp2_with fail
  refine HP1.out.mono ?_
  rintro e w1 ⟨a1, c1, rfl, hb1, hr1⟩
  have hba : Below w0.heap.size w0 (w0.alloc (.cells #[.int .u8 0, .int .u8 0, .slice none 0 0] 28)) := (Below.refl _ _).alloc (Nat.le_refl _) _
  have HG := Lib.hid ((arr_new w0 28 [.int .u8 0, .int .u8 0, .slice none 0 0]).keep hb1)
  have HS1 := Lib.hid (And.intro (hba.trans (hb1.mono hba.size)) (hr1.lower hba.size))
  have HB1 := Lib.hid (show w1.heap.size = w1.heap.size from rfl)
  clear d0a hba hb1 hr1 HP1 HS0 hbv0 p03 p04 p05
  have hDi := HD.out.below HS1.out.1 HLT.out
  have d0 := hDi.cell (i := 0) rfl
  have d1 := hDi.cell (i := 1) rfl
  have d2 := hDi.cell (i := 2) rfl
  have d3 := hDi.cell (i := 3) rfl
  have d4 := hDi.cell (i := 4) rfl
  have d5 := hDi.cell (i := 5) rfl
  have d6 := hDi.cell (i := 6) rfl
  clear hDi
  have hp := putR_yes a1 (4) c1 2 (x1) (enc (x0) 4) w1 HS1.out.2.reads (by omega) h10 rfl
  try simp only [Nat.zero_add, List.nil_append, Nat.reduceAdd] at hp
  have HP2 := Lib.hid hp
  clear hp
  go_wp2_with fail
  refine HP2.out.mono ?_
  rintro e w2 ⟨a2, c2, rfl, hb2, hr2⟩
  have HG' := Lib.hid (HG.out.keep hb2)
  clear HG
  have HG := HG'
  clear HG'
  clear d0 d1 d2 d3 d4 d5 d6
  have HS2 := Lib.hid (And.intro (HS1.out.1.trans (hb2.mono HS1.out.1.size)) (hr2.lower HS1.out.1.size))
  clear hb2 hr2 HP2 HS1
  have hDi := HD.out.below HS2.out.1 HLT.out
  have d0 := hDi.cell (i := 0) rfl
  have d1 := hDi.cell (i := 1) rfl
  have d2 := hDi.cell (i := 2) rfl
  have d3 := hDi.cell (i := 3) rfl
  have d4 := hDi.cell (i := 4) rfl
  have d5 := hDi.cell (i := 5) rfl
  have d6 := hDi.cell (i := 6) rfl
  clear hDi
  have hp := putR_yes a2 (6) c2 2 (x2) (enc (x0) 4 ++ enc (x1) 2) w2 HS2.out.2.reads (by omega) h20 rfl
  try simp only [Nat.zero_add, List.nil_append, Nat.reduceAdd] at hp
  have HP3 := Lib.hid hp
  clear hp
  go_wp2_with fail
  refine HP3.out.mono ?_
  rintro e w3 ⟨a3, c3, rfl, hb3, hr3⟩
  have HG' := Lib.hid (HG.out.keep hb3)
  clear HG
  have HG := HG'
  clear HG'
  clear d0 d1 d2 d3 d4 d5 d6
  have HS3 := Lib.hid (And.intro (HS2.out.1.trans (hb3.mono HS2.out.1.size)) (hr3.lower HS2.out.1.size))
  clear hb3 hr3 HP3 HS2
  have hDi := HD.out.below HS3.out.1 HLT.out
  have d0 := hDi.cell (i := 0) rfl
  have d1 := hDi.cell (i := 1) rfl
  have d2 := hDi.cell (i := 2) rfl
  have d3 := hDi.cell (i := 3) rfl
  have d4 := hDi.cell (i := 4) rfl
  have d5 := hDi.cell (i := 5) rfl
  have d6 := hDi.cell (i := 6) rfl
  clear hDi
  have hp := putR_yes a3 (8) c3 4 (0) (enc (x0) 4 ++ enc (x1) 2 ++ enc (x2) 2) w3 HS3.out.2.reads (by omega) (by omega) rfl
  try simp only [Nat.zero_add, List.nil_append, Nat.reduceAdd] at hp
  have HP4 := Lib.hid hp
  clear hp
  have HGLT := Lib.hid (HG.out.lt)
  go_wp2_with fail
  refine HP4.out.mono ?_
  rintro e w4 ⟨a4, c4, rfl, hb4, hr4⟩
  have HG' := Lib.hid (HG.out.keep hb4)
  clear HG
  have HG := HG'
  clear HG'
  have hfresh := hr4
  have HFR := Lib.hid (And.intro hr4 hb4.size)
  clear hfresh
  clear d0 d1 d2 d3 d4 d5 d6
  have HS4 := Lib.hid (And.intro (HS3.out.1.trans (hb4.mono HS3.out.1.size)) (hr4.lower HS3.out.1.size))
  clear hb4 hr4 HP4 HS3
  have hDi := HD.out.below HS4.out.1 HLT.out
  have d0 := hDi.cell (i := 0) rfl
  have d1 := hDi.cell (i := 1) rfl
  have d2 := hDi.cell (i := 2) rfl
  have d3 := hDi.cell (i := 3) rfl
  have d4 := hDi.cell (i := 4) rfl
  have d5 := hDi.cell (i := 5) rfl
  have d6 := hDi.cell (i := 6) rfl
  clear hDi
  obtain ⟨a5, c5, w5, hrun, H5⟩ := HFR.out.1.appends HFR.out.2 q n c bs (HR0.out.below (H0.out.1.trans (HS4.out.1.mono H0.out.1.size))) (by omega)
  have HRUN := Lib.hid hrun
  have hlt0 : w0.heap.size ≤ w3.heap.size := by have := HGLT.out; omega
  have hg5 : Arr w5 w0.heap.size 28 [.int .u8 0, .int .u8 0, .slice none 0 0] := HG.out.below H5.out.2 HGLT.out
  have hB5 : Below w0.heap.size w0 w5 := HS4.out.1.trans (H5.out.2.mono hlt0)
  have hA5 := H0.out.2.2.1.below hB5 (by have := H0.out.2.1; omega)
  obtain ⟨w6, hw6⟩ : ∃ w6, w5.setCell ⟨w0.heap.size, 2, none⟩ (.slice a5 (12 + n) c5) = w6 := ⟨_, rfl⟩
  have hg6 : Arr w6 w0.heap.size 28 [.int .u8 0, .int .u8 0, .slice a5 (12 + n) c5] := by rw [← hw6]; exact hg5.set 2 _
  have hA6 : Arr w6 wz.heap.size 28 [.int .u8 0, .int .u8 0, .slice none 0 0] := by rw [← hw6]; exact hA5.off _ (by have := H0.out.2.1; simp only; omega)
  have hr6 : Row8 w3.heap.size w6 a5 (12 + n) c5 (enc (x0) 4 ++ enc (x1) 2 ++ enc (x2) 2 ++ enc (0) 4 ++ bs) := by rw [← hw6]; exact H5.out.1.turn ((Turn.refl [w0.heap.size] w5).setCell (p := ⟨w0.heap.size, 2, none⟩) (by simp) _) (by simpa using HGLT.out)
  have hB6 : Below w0.heap.size w0 w6 := by rw [← hw6]; exact hB5.setCell (p := ⟨w0.heap.size, 2, none⟩) (Nat.le_refl _) _
  have s2 := hg5.free 2
  have t2 := hg5.cell (i := 2) rfl
  have g0 := hg6.cell (i := 0) rfl
  have g1 := hg6.cell (i := 1) rfl
  have g2 := hg6.cell (i := 2) rfl
  have fr0 := hA6.free 0
  have fr1 := hA6.free 1
  have fr2 := hA6.free 2
  have y0 := hA6.cell (i := 0) rfl
  have y1 := hA6.cell (i := 1) rfl
  have y2 := hA6.cell (i := 2) rfl
  obtain ⟨W3, hW3⟩ : ∃ W3, ((w6.setCell ⟨wz.heap.size, 0, none⟩ (.int .u8 0)).setCell ⟨wz.heap.size, 1, none⟩ (.int .u8 0)).setCell ⟨wz.heap.size, 2, none⟩ (.slice a5 (12 + n) c5) = W3 := ⟨_, rfl⟩
  have hE := puts_end (H0.out.1.trans (hB6.mono H0.out.1.size)) H0.out.2.2.2 (by have := H0.out.2.1; have := HGLT.out; omega) hA6 hr6 hW3
  have z0 := hE.2.2.cell (i := 0) rfl
  have z1 := hE.2.2.cell (i := 1) rfl
  have z2 := hE.2.2.cell (i := 2) rfl
  have HE := Lib.hid (And.intro hE.1 (And.intro hE.2.1 hr6.len))
  clear hrun hE hg5 hB5 hA5 hg6 hA6 hr6 hB6 H5 HG HFR HS4 H0 hlt0
  go_wp2_with (at_builtin; refine wpList_append_run rfl _ _ _ rfl _ _ _ _ rfl rfl HRUN.out ?_)
  have hl := HE.out.2.2
  exact bodyPost_ret (by simp [results, Try.results19, go_sem, z0, z1, z2] <;> rfl) rfl ⟨a5, c5, by rw [hl], HE.out.1, HE.out.2.1⟩

set_option maxRecDepth 100000 in
set_option maxHeartbeats 1600000 in
theorem rputData_001 (x0 x1 x2 : Int) (q : Option Addr) (n c : Nat) (bs : List Int) (w : World) (hr : Reads w q n bs) (hn : n ≤ 281474976) (h00 : 0 ≤ x0) (h01 : x0 < 4294967296) (h10 : 0 ≤ x1) (h11 : x1 < 65536) (h20 : 0 ≤ x2) (h21 : x2 < 65536) : Calls Try.prog 19 #[.agg #[.int .u32 x0, .int .u16 x1, .int .u16 x2, .bool false, .bool false, .bool true, .slice q n c]] w fun e w' => Puts w (0) (1) (enc (x0) 4 ++ enc (x1) 2 ++ enc (x2) 2 ++ enc (0) 4 ++ bs) e w' := by
  have HR0 := Lib.hid hr
  clear hr
  obtain ⟨wz, hwz⟩ : ∃ wz, w.alloc (.cells #[.int .u32 x0, .int .u16 x1, .int .u16 x2, .bool false, .bool false, .bool true, .slice q n c] 26) = wz := ⟨_, rfl⟩
  have hbz : Below w.heap.size w wz := by rw [← hwz]; exact (Below.refl _ _).alloc (Nat.le_refl _) _
  have hsz : wz.heap.size = w.heap.size + 1 := by rw [← hwz]; simp
  have hDz : Arr wz w.heap.size 26 [.int .u32 x0, .int .u16 x1, .int .u16 x2, .bool false, .bool false, .bool true, .slice q n c] := by rw [← hwz]; exact arr_new _ _ _
  obtain ⟨w0, hw0⟩ : ∃ w0, wz.alloc (.cells #[.int .u8 0, .int .u8 0, .slice none 0 0] 28) = w0 := ⟨_, rfl⟩
  have hb00 : Below wz.heap.size wz w0 := by rw [← hw0]; exact chunkBelow _ 0 0 _
  have hs0 : w0.heap.size = wz.heap.size + 1 := by rw [← hw0]; simp
  have hA0 : Arr w0 wz.heap.size 28 [.int .u8 0, .int .u8 0, .slice none 0 0] := by rw [← hw0]; exact chunkBox _ 0 0 _
  have HD := Lib.hid (hDz.keep hb00)
  have H0 := Lib.hid (And.intro (hbz.trans (hb00.mono hbz.size)) (And.intro hs0 (And.intro hA0 hbz.size)))
  have HS0 := Lib.hid (And.intro (Below.refl w0.heap.size w0) (Row8.nil w0.heap.size w0))
  have HLT := Lib.hid (show w.heap.size < w0.heap.size by omega)
  have hbv0 : Below w0.heap.size w0 (w0.alloc (.cells #[.int .u8 0, .int .u8 0, .slice none 0 0] 28)) := (Below.refl _ _).alloc (Nat.le_refl _) _
  have p03 := (HD.out.below hbv0 HLT.out).cell (i := 3) rfl
  have p04 := (HD.out.below hbv0 HLT.out).cell (i := 4) rfl
  have p05 := (HD.out.below hbv0 HLT.out).cell (i := 5) rfl
  have hbv1 : Below w0.heap.size w0 (w0.alloc (.cells #[.int .u8 0, .int .u8 1, .slice none 0 0] 28)) := (Below.refl _ _).alloc (Nat.le_refl _) _
  have p13 := (HD.out.below hbv1 HLT.out).cell (i := 3) rfl
  have p14 := (HD.out.below hbv1 HLT.out).cell (i := 4) rfl
  have p15 := (HD.out.below hbv1 HLT.out).cell (i := 5) rfl
  have d0a := (HD.out.below hbv1 HLT.out).cell (i := 0) rfl
  clear hbz hb00 hs0 hA0 hsz hDz
  go_enter Try.func19, Try.ntmps19
  have hDi := HD.out.below HS0.out.1 HLT.out
  have d0 := hDi.cell (i := 0) rfl
  have d1 := hDi.cell (i := 1) rfl
  have d2 := hDi.cell (i := 2) rfl
  have d3 := hDi.cell (i := 3) rfl
  have d4 := hDi.cell (i := 4) rfl
  have d5 := hDi.cell (i := 5) rfl
  have d6 := hDi.cell (i := 6) rfl
  clear hDi
  clear d0 d1 d2 d3 d4 d5 d6
  have hp := putR_yes none 0 0 4 x0 [] (w0.alloc (.cells #[.int .u8 0, .int .u8 1, .slice none 0 0] 28)) (Reads.zero _ _) (by omega) h00 rfl
  try simp only [Nat.zero_add, List.nil_append, Nat.reduceAdd] at hp
  have HP1 := Lib.hid hp
  clear hp
  go_wp2_with fail
  refine HP1.out.mono ?_
  rintro e w1 ⟨a1, c1, rfl, hb1, hr1⟩
  have hba : Below w0.heap.size w0 (w0.alloc (.cells #[.int .u8 0, .int .u8 1, .slice none 0 0] 28)) := (Below.refl _ _).alloc (Nat.le_refl _) _
  have HG := Lib.hid ((arr_new w0 28 [.int .u8 0, .int .u8 1, .slice none 0 0]).keep hb1)
  have HS1 := Lib.hid (And.intro (hba.trans (hb1.mono hba.size)) (hr1.lower hba.size))
  have HB1 := Lib.hid (show w1.heap.size = w1.heap.size from rfl)
  clear d0a hba hb1 hr1 HP1 HS0 hbv0 p03 p04 p05 hbv1 p13 p14 p15
  have hDi := HD.out.below HS1.out.1 HLT.out
  have d0 := hDi.cell (i := 0) rfl
  have d1 := hDi.cell (i := 1) rfl
  have d2 := hDi.cell (i := 2) rfl
  have d3 := hDi.cell (i := 3) rfl
  have d4 := hDi.cell (i := 4) rfl
  have d5 := hDi.cell (i := 5) rfl
  have d6 := hDi.cell (i := 6) rfl
  clear hDi
  have hp := putR_yes a1 (4) c1 2 (x1) (enc (x0) 4) w1 HS1.out.2.reads (by omega) h10 rfl
  try simp only [Nat.zero_add, List.nil_append, Nat.reduceAdd] at hp
  have HP2 := Lib.hid hp
  clear hp
  go_wp2_with fail
  refine HP2.out.mono ?_
  rintro e w2 ⟨a2, c2, rfl, hb2, hr2⟩
  have HG' := Lib.hid (HG.out.keep hb2)
  clear HG
  have HG := HG'
  clear HG'
  clear d0 d1 d2 d3 d4 d5 d6
  have HS2 := Lib.hid (And.intro (HS1.out.1.trans (hb2.mono HS1.out.1.size)) (hr2.lower HS1.out.1.size))
  clear hb2 hr2 HP2 HS1
  have hDi := HD.out.below HS2.out.1 HLT.out
  have d0 := hDi.cell (i := 0) rfl
  have d1 := hDi.cell (i := 1) rfl
  have d2 := hDi.cell (i := 2) rfl
  have d3 := hDi.cell (i := 3) rfl
  have d4 := hDi.cell (i := 4) rfl
  have d5 := hDi.cell (i := 5) rfl
  have d6 := hDi.cell (i := 6) rfl
  clear hDi
  have hp := putR_yes a2 (6) c2 2 (x2) (enc (x0) 4 ++ enc (x1) 2) w2 HS2.out.2.reads (by omega) h20 rfl
  try simp only [Nat.zero_add, List.nil_append, Nat.reduceAdd] at hp
  have HP3 := Lib.hid hp
  clear hp
  go_wp2_with fail
  refine HP3.out.mono ?_
  rintro e w3 ⟨a3, c3, rfl, hb3, hr3⟩
  have HG' := Lib.hid (HG.out.keep hb3)
  clear HG
  have HG := HG'
  clear HG'
  clear d0 d1 d2 d3 d4 d5 d6
  have HS3 := Lib.hid (And.intro (HS2.out.1.trans (hb3.mono HS2.out.1.size)) (hr3.lower HS2.out.1.size))
  clear hb3 hr3 HP3 HS2
  have hDi := HD.out.below HS3.out.1 HLT.out
  have d0 := hDi.cell (i := 0) rfl
  have d1 := hDi.cell (i := 1) rfl
  have d2 := hDi.cell (i := 2) rfl
  have d3 := hDi.cell (i := 3) rfl
  have d4 := hDi.cell (i := 4) rfl
  have d5 := hDi.cell (i := 5) rfl
  have d6 := hDi.cell (i := 6) rfl
  clear hDi
  have hp := putR_yes a3 (8) c3 4 (0) (enc (x0) 4 ++ enc (x1) 2 ++ enc (x2) 2) w3 HS3.out.2.reads (by omega) (by omega) rfl
  try simp only [Nat.zero_add, List.nil_append, Nat.reduceAdd] at hp
  have HP4 := Lib.hid hp
  clear hp
  have HGLT := Lib.hid (HG.out.lt)
  go_wp2_with fail
  refine HP4.out.mono ?_
  rintro e w4 ⟨a4, c4, rfl, hb4, hr4⟩
  have HG' := Lib.hid (HG.out.keep hb4)
  clear HG
  have HG := HG'
  clear HG'
  have hfresh := hr4
  have HFR := Lib.hid (And.intro hr4 hb4.size)
  clear hfresh
  clear d0 d1 d2 d3 d4 d5 d6
  have HS4 := Lib.hid (And.intro (HS3.out.1.trans (hb4.mono HS3.out.1.size)) (hr4.lower HS3.out.1.size))
  clear hb4 hr4 HP4 HS3
  have hDi := HD.out.below HS4.out.1 HLT.out
  have d0 := hDi.cell (i := 0) rfl
  have d1 := hDi.cell (i := 1) rfl
  have d2 := hDi.cell (i := 2) rfl
  have d3 := hDi.cell (i := 3) rfl
  have d4 := hDi.cell (i := 4) rfl
  have d5 := hDi.cell (i := 5) rfl
  have d6 := hDi.cell (i := 6) rfl
  clear hDi
  obtain ⟨a5, c5, w5, hrun, H5⟩ := HFR.out.1.appends HFR.out.2 q n c bs (HR0.out.below (H0.out.1.trans (HS4.out.1.mono H0.out.1.size))) (by omega)
  have HRUN := Lib.hid hrun
  have hlt0 : w0.heap.size ≤ w3.heap.size := by have := HGLT.out; omega
  have hg5 : Arr w5 w0.heap.size 28 [.int .u8 0, .int .u8 1, .slice none 0 0] := HG.out.below H5.out.2 HGLT.out
  have hB5 : Below w0.heap.size w0 w5 := HS4.out.1.trans (H5.out.2.mono hlt0)
  have hA5 := H0.out.2.2.1.below hB5 (by have := H0.out.2.1; omega)
  obtain ⟨w6, hw6⟩ : ∃ w6, w5.setCell ⟨w0.heap.size, 2, none⟩ (.slice a5 (12 + n) c5) = w6 := ⟨_, rfl⟩
  have hg6 : Arr w6 w0.heap.size 28 [.int .u8 0, .int .u8 1, .slice a5 (12 + n) c5] := by rw [← hw6]; exact hg5.set 2 _
  have hA6 : Arr w6 wz.heap.size 28 [.int .u8 0, .int .u8 0, .slice none 0 0] := by rw [← hw6]; exact hA5.off _ (by have := H0.out.2.1; simp only; omega)
  have hr6 : Row8 w3.heap.size w6 a5 (12 + n) c5 (enc (x0) 4 ++ enc (x1) 2 ++ enc (x2) 2 ++ enc (0) 4 ++ bs) := by rw [← hw6]; exact H5.out.1.turn ((Turn.refl [w0.heap.size] w5).setCell (p := ⟨w0.heap.size, 2, none⟩) (by simp) _) (by simpa using HGLT.out)
  have hB6 : Below w0.heap.size w0 w6 := by rw [← hw6]; exact hB5.setCell (p := ⟨w0.heap.size, 2, none⟩) (Nat.le_refl _) _
  have s2 := hg5.free 2
  have t2 := hg5.cell (i := 2) rfl
  have g0 := hg6.cell (i := 0) rfl
  have g1 := hg6.cell (i := 1) rfl
  have g2 := hg6.cell (i := 2) rfl
  have fr0 := hA6.free 0
  have fr1 := hA6.free 1
  have fr2 := hA6.free 2
  have y0 := hA6.cell (i := 0) rfl
  have y1 := hA6.cell (i := 1) rfl
  have y2 := hA6.cell (i := 2) rfl
  obtain ⟨W3, hW3⟩ : ∃ W3, ((w6.setCell ⟨wz.heap.size, 0, none⟩ (.int .u8 0)).setCell ⟨wz.heap.size, 1, none⟩ (.int .u8 1)).setCell ⟨wz.heap.size, 2, none⟩ (.slice a5 (12 + n) c5) = W3 := ⟨_, rfl⟩
  have hE := puts_end (H0.out.1.trans (hB6.mono H0.out.1.size)) H0.out.2.2.2 (by have := H0.out.2.1; have := HGLT.out; omega) hA6 hr6 hW3
  have z0 := hE.2.2.cell (i := 0) rfl
  have z1 := hE.2.2.cell (i := 1) rfl
  have z2 := hE.2.2.cell (i := 2) rfl
  have HE := Lib.hid (And.intro hE.1 (And.intro hE.2.1 hr6.len))
  clear hrun hE hg5 hB5 hA5 hg6 hA6 hr6 hB6 H5 HG HFR HS4 H0 hlt0
  go_wp2_with (at_builtin; refine wpList_append_run rfl _ _ _ rfl _ _ _ _ rfl rfl HRUN.out ?_)
  have hl := HE.out.2.2
  exact bodyPost_ret (by simp [results, Try.results19, go_sem, z0, z1, z2] <;> rfl) rfl ⟨a5, c5, by rw [hl], HE.out.1, HE.out.2.1⟩

set_option maxRecDepth 100000 in
set_option maxHeartbeats 1600000 in
theorem rputData_010 (x0 x1 x2 : Int) (q : Option Addr) (n c : Nat) (bs : List Int) (w : World) (hr : Reads w q n bs) (hn : n ≤ 281474976) (h00 : 0 ≤ x0) (h01 : x0 < 4294967296) (h10 : 0 ≤ x1) (h11 : x1 < 65536) (h20 : 0 ≤ x2) (h21 : x2 < 65536) : Calls Try.prog 19 #[.agg #[.int .u32 x0, .int .u16 x1, .int .u16 x2, .bool false, .bool true, .bool false, .slice q n c]] w fun e w' => Puts w (0) (2) (enc (x0) 4 ++ enc (x1) 2 ++ enc (x2) 2 ++ enc (0) 4 ++ bs) e w' := by
  have HR0 := Lib.hid hr
  clear hr
  obtain ⟨wz, hwz⟩ : ∃ wz, w.alloc (.cells #[.int .u32 x0, .int .u16 x1, .int .u16 x2, .bool false, .bool true, .bool false, .slice q n c] 26) = wz := ⟨_, rfl⟩
  have hbz : Below w.heap.size w wz := by rw [← hwz]; exact (Below.refl _ _).alloc (Nat.le_refl _) _
  have hsz : wz.heap.size = w.heap.size + 1 := by rw [← hwz]; simp
  have hDz : Arr wz w.heap.size 26 [.int .u32 x0, .int .u16 x1, .int .u16 x2, .bool false, .bool true, .bool false, .slice q n c] := by rw [← hwz]; exact arr_new _ _ _
  obtain ⟨w0, hw0⟩ : ∃ w0, wz.alloc (.cells #[.int .u8 0, .int .u8 0, .slice none 0 0] 28) = w0 := ⟨_, rfl⟩
  have hb00 : Below wz.heap.size wz w0 := by rw [← hw0]; exact chunkBelow _ 0 0 _
  have hs0 : w0.heap.size = wz.heap.size + 1 := by rw [← hw0]; simp
  have hA0 : Arr w0 wz.heap.size 28 [.int .u8 0, .int .u8 0, .slice none 0 0] := by rw [← hw0]; exact chunkBox _ 0 0 _
  have HD := Lib.hid (hDz.keep hb00)
  have H0 := Lib.hid (And.intro (hbz.trans (hb00.mono hbz.size)) (And.intro hs0 (And.intro hA0 hbz.size)))
  have HS0 := Lib.hid (And.intro (Below.refl w0.heap.size w0) (Row8.nil w0.heap.size w0))
  have HLT := Lib.hid (show w.heap.size < w0.heap.size by omega)
  have hbv0 : Below w0.heap.size w0 (w0.alloc (.cells #[.int .u8 0, .int .u8 0, .slice none 0 0] 28)) := (Below.refl _ _).alloc (Nat.le_refl _) _
  have p03 := (HD.out.below hbv0 HLT.out).cell (i := 3) rfl
  have p04 := (HD.out.below hbv0 HLT.out).cell (i := 4) rfl
  have p05 := (HD.out.below hbv0 HLT.out).cell (i := 5) rfl
  have hbv1 : Below w0.heap.size w0 (w0.alloc (.cells #[.int .u8 0, .int .u8 2, .slice none 0 0] 28)) := (Below.refl _ _).alloc (Nat.le_refl _) _
  have p13 := (HD.out.below hbv1 HLT.out).cell (i := 3) rfl
  have p14 := (HD.out.below hbv1 HLT.out).cell (i := 4) rfl
  have p15 := (HD.out.below hbv1 HLT.out).cell (i := 5) rfl
  have d0a := (HD.out.below hbv1 HLT.out).cell (i := 0) rfl
  clear hbz hb00 hs0 hA0 hsz hDz
  go_enter Try.func19, Try.ntmps19
  have hDi := HD.out.below HS0.out.1 HLT.out
  have d0 := hDi.cell (i := 0) rfl
  have d1 := hDi.cell (i := 1) rfl
  have d2 := hDi.cell (i := 2) rfl
  have d3 := hDi.cell (i := 3) rfl
  have d4 := hDi.cell (i := 4) rfl
  have d5 := hDi.cell (i := 5) rfl
  have d6 := hDi.cell (i := 6) rfl
  clear hDi
  clear d0 d1 d2 d3 d4 d5 d6
  have hp := putR_yes none 0 0 4 x0 [] (w0.alloc (.cells #[.int .u8 0, .int .u8 2, .slice none 0 0] 28)) (Reads.zero _ _) (by omega) h00 rfl
  try simp only [Nat.zero_add, List.nil_append, Nat.reduceAdd] at hp
  have HP1 := Lib.hid hp
  clear hp
  go_wp2_with fail
  refine HP1.out.mono ?_
  rintro e w1 ⟨a1, c1, rfl, hb1, hr1⟩
  have hba : Below w0.heap.size w0 (w0.alloc (.cells #[.int .u8 0, .int .u8 2, .slice none 0 0] 28)) := (Below.refl _ _).alloc (Nat.le_refl _) _
  have HG := Lib.hid ((arr_new w0 28 [.int .u8 0, .int .u8 2, .slice none 0 0]).keep hb1)
  have HS1 := Lib.hid (And.intro (hba.trans (hb1.mono hba.size)) (hr1.lower hba.size))
  have HB1 := Lib.hid (show w1.heap.size = w1.heap.size from rfl)
  clear d0a hba hb1 hr1 HP1 HS0 hbv0 p03 p04 p05 hbv1 p13 p14 p15
  have hDi := HD.out.below HS1.out.1 HLT.out
  have d0 := hDi.cell (i := 0) rfl
  have d1 := hDi.cell (i := 1) rfl
  have d2 := hDi.cell (i := 2) rfl
  have d3 := hDi.cell (i := 3) rfl
  have d4 := hDi.cell (i := 4) rfl
  have d5 := hDi.cell (i := 5) rfl
  have d6 := hDi.cell (i := 6) rfl
  clear hDi
  have hp := putR_yes a1 (4) c1 2 (x1) (enc (x0) 4) w1 HS1.out.2.reads (by omega) h10 rfl
  try simp only [Nat.zero_add, List.nil_append, Nat.reduceAdd] at hp
  have HP2 := Lib.hid hp
  clear hp
  go_wp2_with fail
  refine HP2.out.mono ?_
  rintro e w2 ⟨a2, c2, rfl, hb2, hr2⟩
  have HG' := Lib.hid (HG.out.keep hb2)
  clear HG
  have HG := HG'
  clear HG'
  clear d0 d1 d2 d3 d4 d5 d6
  have HS2 := Lib.hid (And.intro (HS1.out.1.trans (hb2.mono HS1.out.1.size)) (hr2.lower HS1.out.1.size))
  clear hb2 hr2 HP2 HS1
  have hDi := HD.out.below HS2.out.1 HLT.out
  have d0 := hDi.cell (i := 0) rfl
  have d1 := hDi.cell (i := 1) rfl
  have d2 := hDi.cell (i := 2) rfl
  have d3 := hDi.cell (i := 3) rfl
  have d4 := hDi.cell (i := 4) rfl
  have d5 := hDi.cell (i := 5) rfl
  have d6 := hDi.cell (i := 6) rfl
  clear hDi
  have hp := putR_yes a2 (6) c2 2 (x2) (enc (x0) 4 ++ enc (x1) 2) w2 HS2.out.2.reads (by omega) h20 rfl
  try simp only [Nat.zero_add, List.nil_append, Nat.reduceAdd] at hp
  have HP3 := Lib.hid hp
  clear hp
  go_wp2_with fail
  refine HP3.out.mono ?_
  rintro e w3 ⟨a3, c3, rfl, hb3, hr3⟩
  have HG' := Lib.hid (HG.out.keep hb3)
  clear HG
  have HG := HG'
  clear HG'
  clear d0 d1 d2 d3 d4 d5 d6
  have HS3 := Lib.hid (And.intro (HS2.out.1.trans (hb3.mono HS2.out.1.size)) (hr3.lower HS2.out.1.size))
  clear hb3 hr3 HP3 HS2
  have hDi := HD.out.below HS3.out.1 HLT.out
  have d0 := hDi.cell (i := 0) rfl
  have d1 := hDi.cell (i := 1) rfl
  have d2 := hDi.cell (i := 2) rfl
  have d3 := hDi.cell (i := 3) rfl
  have d4 := hDi.cell (i := 4) rfl
  have d5 := hDi.cell (i := 5) rfl
  have d6 := hDi.cell (i := 6) rfl
  clear hDi
  have hp := putR_yes a3 (8) c3 4 (0) (enc (x0) 4 ++ enc (x1) 2 ++ enc (x2) 2) w3 HS3.out.2.reads (by omega) (by omega) rfl
  try simp only [Nat.zero_add, List.nil_append, Nat.reduceAdd] at hp
  have HP4 := Lib.hid hp
  clear hp
  have HGLT := Lib.hid (HG.out.lt)
  go_wp2_with fail
  refine HP4.out.mono ?_
  rintro e w4 ⟨a4, c4, rfl, hb4, hr4⟩
  have HG' := Lib.hid (HG.out.keep hb4)
  clear HG
  have HG := HG'
  clear HG'
  have hfresh := hr4
  have HFR := Lib.hid (And.intro hr4 hb4.size)
  clear hfresh
  clear d0 d1 d2 d3 d4 d5 d6
  have HS4 := Lib.hid (And.intro (HS3.out.1.trans (hb4.mono HS3.out.1.size)) (hr4.lower HS3.out.1.size))
  clear hb4 hr4 HP4 HS3
  have hDi := HD.out.below HS4.out.1 HLT.out
  have d0 := hDi.cell (i := 0) rfl
  have d1 := hDi.cell (i := 1) rfl
  have d2 := hDi.cell (i := 2) rfl
  have d3 := hDi.cell (i := 3) rfl
  have d4 := hDi.cell (i := 4) rfl
  have d5 := hDi.cell (i := 5) rfl
  have d6 := hDi.cell (i := 6) rfl
  clear hDi
  obtain ⟨a5, c5, w5, hrun, H5⟩ := HFR.out.1.appends HFR.out.2 q n c bs (HR0.out.below (H0.out.1.trans (HS4.out.1.mono H0.out.1.size))) (by omega)
  have HRUN := Lib.hid hrun
  have hlt0 : w0.heap.size ≤ w3.heap.size := by have := HGLT.out; omega
  have hg5 : Arr w5 w0.heap.size 28 [.int .u8 0, .int .u8 2, .slice none 0 0] := HG.out.below H5.out.2 HGLT.out
  have hB5 : Below w0.heap.size w0 w5 := HS4.out.1.trans (H5.out.2.mono hlt0)
  have hA5 := H0.out.2.2.1.below hB5 (by have := H0.out.2.1; omega)
  obtain ⟨w6, hw6⟩ : ∃ w6, w5.setCell ⟨w0.heap.size, 2, none⟩ (.slice a5 (12 + n) c5) = w6 := ⟨_, rfl⟩
  have hg6 : Arr w6 w0.heap.size 28 [.int .u8 0, .int .u8 2, .slice a5 (12 + n) c5] := by rw [← hw6]; exact hg5.set 2 _
  have hA6 : Arr w6 wz.heap.size 28 [.int .u8 0, .int .u8 0, .slice none 0 0] := by rw [← hw6]; exact hA5.off _ (by have := H0.out.2.1; simp only; omega)
  have hr6 : Row8 w3.heap.size w6 a5 (12 + n) c5 (enc (x0) 4 ++ enc (x1) 2 ++ enc (x2) 2 ++ enc (0) 4 ++ bs) := by rw [← hw6]; exact H5.out.1.turn ((Turn.refl [w0.heap.size] w5).setCell (p := ⟨w0.heap.size, 2, none⟩) (by simp) _) (by simpa using HGLT.out)
  have hB6 : Below w0.heap.size w0 w6 := by rw [← hw6]; exact hB5.setCell (p := ⟨w0.heap.size, 2, none⟩) (Nat.le_refl _) _
  have s2 := hg5.free 2
  have t2 := hg5.cell (i := 2) rfl
  have g0 := hg6.cell (i := 0) rfl
  have g1 := hg6.cell (i := 1) rfl
  have g2 := hg6.cell (i := 2) rfl
  have fr0 := hA6.free 0
  have fr1 := hA6.free 1
  have fr2 := hA6.free 2
  have y0 := hA6.cell (i := 0) rfl
  have y1 := hA6.cell (i := 1) rfl
  have y2 := hA6.cell (i := 2) rfl
  obtain ⟨W3, hW3⟩ : ∃ W3, ((w6.setCell ⟨wz.heap.size, 0, none⟩ (.int .u8 0)).setCell ⟨wz.heap.size, 1, none⟩ (.int .u8 2)).setCell ⟨wz.heap.size, 2, none⟩ (.slice a5 (12 + n) c5) = W3 := ⟨_, rfl⟩
  have hE := puts_end (H0.out.1.trans (hB6.mono H0.out.1.size)) H0.out.2.2.2 (by have := H0.out.2.1; have := HGLT.out; omega) hA6 hr6 hW3
  have z0 := hE.2.2.cell (i := 0) rfl
  have z1 := hE.2.2.cell (i := 1) rfl
  have z2 := hE.2.2.cell (i := 2) rfl
  have HE := Lib.hid (And.intro hE.1 (And.intro hE.2.1 hr6.len))
  clear hrun hE hg5 hB5 hA5 hg6 hA6 hr6 hB6 H5 HG HFR HS4 H0 hlt0
  go_wp2_with (at_builtin; refine wpList_append_run rfl _ _ _ rfl _ _ _ _ rfl rfl HRUN.out ?_)
  have hl := HE.out.2.2
  exact bodyPost_ret (by simp [results, Try.results19, go_sem, z0, z1, z2] <;> rfl) rfl ⟨a5, c5, by rw [hl], HE.out.1, HE.out.2.1⟩

set_option maxRecDepth 100000 in
set_option maxHeartbeats 1600000 in
theorem rputData_011 (x0 x1 x2 : Int) (q : Option Addr) (n c : Nat) (bs : List Int) (w : World) (hr : Reads w q n bs) (hn : n ≤ 281474976) (h00 : 0 ≤ x0) (h01 : x0 < 4294967296) (h10 : 0 ≤ x1) (h11 : x1 < 65536) (h20 : 0 ≤ x2) (h21 : x2 < 65536) : Calls Try.prog 19 #[.agg #[.int .u32 x0, .int .u16 x1, .int .u16 x2, .bool false, .bool true, .bool true, .slice q n c]] w fun e w' => Puts w (0) (3) (enc (x0) 4 ++ enc (x1) 2 ++ enc (x2) 2 ++ enc (0) 4 ++ bs) e w' := by
  have HR0 := Lib.hid hr
  clear hr
  obtain ⟨wz, hwz⟩ : ∃ wz, w.alloc (.cells #[.int .u32 x0, .int .u16 x1, .int .u16 x2, .bool false, .bool true, .bool true, .slice q n c] 26) = wz := ⟨_, rfl⟩
  have hbz : Below w.heap.size w wz := by rw [← hwz]; exact (Below.refl _ _).alloc (Nat.le_refl _) _
  have hsz : wz.heap.size = w.heap.size + 1 := by rw [← hwz]; simp
  have hDz : Arr wz w.heap.size 26 [.int .u32 x0, .int .u16 x1, .int .u16 x2, .bool false, .bool true, .bool true, .slice q n c] := by rw [← hwz]; exact arr_new _ _ _
  obtain ⟨w0, hw0⟩ : ∃ w0, wz.alloc (.cells #[.int .u8 0, .int .u8 0, .slice none 0 0] 28) = w0 := ⟨_, rfl⟩
  have hb00 : Below wz.heap.size wz w0 := by rw [← hw0]; exact chunkBelow _ 0 0 _
  have hs0 : w0.heap.size = wz.heap.size + 1 := by rw [← hw0]; simp
  have hA0 : Arr w0 wz.heap.size 28 [.int .u8 0, .int .u8 0, .slice none 0 0] := by rw [← hw0]; exact chunkBox _ 0 0 _
  have HD := Lib.hid (hDz.keep hb00)
  have H0 := Lib.hid (And.intro (hbz.trans (hb00.mono hbz.size)) (And.intro hs0 (And.intro hA0 hbz.size)))
  have HS0 := Lib.hid (And.intro (Below.refl w0.heap.size w0) (Row8.nil w0.heap.size w0))
  have HLT := Lib.hid (show w.heap.size < w0.heap.size by omega)
  have hbv0 : Below w0.heap.size w0 (w0.alloc (.cells #[.int .u8 0, .int .u8 0, .slice none 0 0] 28)) := (Below.refl _ _).alloc (Nat.le_refl _) _
  have p03 := (HD.out.below hbv0 HLT.out).cell (i := 3) rfl
  have p04 := (HD.out.below hbv0 HLT.out).cell (i := 4) rfl
  have p05 := (HD.out.below hbv0 HLT.out).cell (i := 5) rfl
  have hbv1 : Below w0.heap.size w0 (w0.alloc (.cells #[.int .u8 0, .int .u8 2, .slice none 0 0] 28)) := (Below.refl _ _).alloc (Nat.le_refl _) _
  have p13 := (HD.out.below hbv1 HLT.out).cell (i := 3) rfl
  have p14 := (HD.out.below hbv1 HLT.out).cell (i := 4) rfl
  have p15 := (HD.out.below hbv1 HLT.out).cell (i := 5) rfl
  have hbv2 : Below w0.heap.size w0 (w0.alloc (.cells #[.int .u8 0, .int .u8 3, .slice none 0 0] 28)) := (Below.refl _ _).alloc (Nat.le_refl _) _
  have p23 := (HD.out.below hbv2 HLT.out).cell (i := 3) rfl
  have p24 := (HD.out.below hbv2 HLT.out).cell (i := 4) rfl
  have p25 := (HD.out.below hbv2 HLT.out).cell (i := 5) rfl
  have d0a := (HD.out.below hbv2 HLT.out).cell (i := 0) rfl
  clear hbz hb00 hs0 hA0 hsz hDz
  go_enter Try.func19, Try.ntmps19
  have hDi := HD.out.below HS0.out.1 HLT.out
  have d0 := hDi.cell (i := 0) rfl
  have d1 := hDi.cell (i := 1) rfl
  have d2 := hDi.cell (i := 2) rfl
  have d3 := hDi.cell (i := 3) rfl
  have d4 := hDi.cell (i := 4) rfl
  have d5 := hDi.cell (i := 5) rfl
  have d6 := hDi.cell (i := 6) rfl
  clear hDi
  clear d0 d1 d2 d3 d4 d5 d6
  have hp := putR_yes none 0 0 4 x0 [] (w0.alloc (.cells #[.int .u8 0, .int .u8 3, .slice none 0 0] 28)) (Reads.zero _ _) (by omega) h00 rfl
  try simp only [Nat.zero_add, List.nil_append, Nat.reduceAdd] at hp
  have HP1 := Lib.hid hp
  clear hp
  go_wp2_with fail
  refine HP1.out.mono ?_
  rintro e w1 ⟨a1, c1, rfl, hb1, hr1⟩
  have hba : Below w0.heap.size w0 (w0.alloc (.cells #[.int .u8 0, .int .u8 3, .slice none 0 0] 28)) := (Below.refl _ _).alloc (Nat.le_refl _) _
  have HG := Lib.hid ((arr_new w0 28 [.int .u8 0, .int .u8 3, .slice none 0 0]).keep hb1)
  have HS1 := Lib.hid (And.intro (hba.trans (hb1.mono hba.size)) (hr1.lower hba.size))
  have HB1 := Lib.hid (show w1.heap.size = w1.heap.size from rfl)
  clear d0a hba hb1 hr1 HP1 HS0 hbv0 p03 p04 p05 hbv1 p13 p14 p15 hbv2 p23 p24 p25
  have hDi := HD.out.below HS1.out.1 HLT.out
  have d0 := hDi.cell (i := 0) rfl
  have d1 := hDi.cell (i := 1) rfl
  have d2 := hDi.cell (i := 2) rfl
  have d3 := hDi.cell (i := 3) rfl
  have d4 := hDi.cell (i := 4) rfl
  have d5 := hDi.cell (i := 5) rfl
  have d6 := hDi.cell (i := 6) rfl
  clear hDi
  have hp := putR_yes a1 (4) c1 2 (x1) (enc (x0) 4) w1 HS1.out.2.reads (by omega) h10 rfl
  try simp only [Nat.zero_add, List.nil_append, Nat.reduceAdd] at hp
  have HP2 := Lib.hid hp
  clear hp
  go_wp2_with fail
  refine HP2.out.mono ?_
  rintro e w2 ⟨a2, c2, rfl, hb2, hr2⟩
  have HG' := Lib.hid (HG.out.keep hb2)
  clear HG
  have HG := HG'
  clear HG'
  clear d0 d1 d2 d3 d4 d5 d6
  have HS2 := Lib.hid (And.intro (HS1.out.1.trans (hb2.mono HS1.out.1.size)) (hr2.lower HS1.out.1.size))
  clear hb2 hr2 HP2 HS1
  have hDi := HD.out.below HS2.out.1 HLT.out
  have d0 := hDi.cell (i := 0) rfl
  have d1 := hDi.cell (i := 1) rfl
  have d2 := hDi.cell (i := 2) rfl
  have d3 := hDi.cell (i := 3) rfl
  have d4 := hDi.cell (i := 4) rfl
  have d5 := hDi.cell (i := 5) rfl
  have d6 := hDi.cell (i := 6) rfl
  clear hDi
  have hp := putR_yes a2 (6) c2 2 (x2) (enc (x0) 4 ++ enc (x1) 2) w2 HS2.out.2.reads (by omega) h20 rfl
  try simp only [Nat.zero_add, List.nil_append, Nat.reduceAdd] at hp
  have HP3 := Lib.hid hp
  clear hp
  go_wp2_with fail
  refine HP3.out.mono ?_
  rintro e w3 ⟨a3, c3, rfl, hb3, hr3⟩
  have HG' := Lib.hid (HG.out.keep hb3)
  clear HG
  have HG := HG'
  clear HG'
  clear d0 d1 d2 d3 d4 d5 d6
  have HS3 := Lib.hid (And.intro (HS2.out.1.trans (hb3.mono HS2.out.1.size)) (hr3.lower HS2.out.1.size))
  clear hb3 hr3 HP3 HS2
  have hDi := HD.out.below HS3.out.1 HLT.out
  have d0 := hDi.cell (i := 0) rfl
  have d1 := hDi.cell (i := 1) rfl
  have d2 := hDi.cell (i := 2) rfl
  have d3 := hDi.cell (i := 3) rfl
  have d4 := hDi.cell (i := 4) rfl
  have d5 := hDi.cell (i := 5) rfl
  have d6 := hDi.cell (i := 6) rfl
  clear hDi
  have hp := putR_yes a3 (8) c3 4 (0) (enc (x0) 4 ++ enc (x1) 2 ++ enc (x2) 2) w3 HS3.out.2.reads (by omega) (by omega) rfl
  try simp only [Nat.zero_add, List.nil_append, Nat.reduceAdd] at hp
  have HP4 := Lib.hid hp
  clear hp
  have HGLT := Lib.hid (HG.out.lt)
  go_wp2_with fail
  refine HP4.out.mono ?_
  rintro e w4 ⟨a4, c4, rfl, hb4, hr4⟩
  have HG' := Lib.hid (HG.out.keep hb4)
  clear HG
  have HG := HG'
  clear HG'
  have hfresh := hr4
  have HFR := Lib.hid (And.intro hr4 hb4.size)
  clear hfresh
  clear d0 d1 d2 d3 d4 d5 d6
  have HS4 := Lib.hid (And.intro (HS3.out.1.trans (hb4.mono HS3.out.1.size)) (hr4.lower HS3.out.1.size))
  clear hb4 hr4 HP4 HS3
  have hDi := HD.out.below HS4.out.1 HLT.out
  have d0 := hDi.cell (i := 0) rfl
  have d1 := hDi.cell (i := 1) rfl
  have d2 := hDi.cell (i := 2) rfl
  have d3 := hDi.cell (i := 3) rfl
  have d4 := hDi.cell (i := 4) rfl
  have d5 := hDi.cell (i := 5) rfl
  have d6 := hDi.cell (i := 6) rfl
  clear hDi
  obtain ⟨a5, c5, w5, hrun, H5⟩ := HFR.out.1.appends HFR.out.2 q n c bs (HR0.out.below (H0.out.1.trans (HS4.out.1.mono H0.out.1.size))) (by omega)
  have HRUN := Lib.hid hrun
  have hlt0 : w0.heap.size ≤ w3.heap.size := by have := HGLT.out; omega
  have hg5 : Arr w5 w0.heap.size 28 [.int .u8 0, .int .u8 3, .slice none 0 0] := HG.out.below H5.out.2 HGLT.out
  have hB5 : Below w0.heap.size w0 w5 := HS4.out.1.trans (H5.out.2.mono hlt0)
  have hA5 := H0.out.2.2.1.below hB5 (by have := H0.out.2.1; omega)
  obtain ⟨w6, hw6⟩ : ∃ w6, w5.setCell ⟨w0.heap.size, 2, none⟩ (.slice a5 (12 + n) c5) = w6 := ⟨_, rfl⟩
  have hg6 : Arr w6 w0.heap.size 28 [.int .u8 0, .int .u8 3, .slice a5 (12 + n) c5] := by rw [← hw6]; exact hg5.set 2 _
  have hA6 : Arr w6 wz.heap.size 28 [.int .u8 0, .int .u8 0, .slice none 0 0] := by rw [← hw6]; exact hA5.off _ (by have := H0.out.2.1; simp only; omega)
  have hr6 : Row8 w3.heap.size w6 a5 (12 + n) c5 (enc (x0) 4 ++ enc (x1) 2 ++ enc (x2) 2 ++ enc (0) 4 ++ bs) := by rw [← hw6]; exact H5.out.1.turn ((Turn.refl [w0.heap.size] w5).setCell (p := ⟨w0.heap.size, 2, none⟩) (by simp) _) (by simpa using HGLT.out)
  have hB6 : Below w0.heap.size w0 w6 := by rw [← hw6]; exact hB5.setCell (p := ⟨w0.heap.size, 2, none⟩) (Nat.le_refl _) _
  have s2 := hg5.free 2
  have t2 := hg5.cell (i := 2) rfl
  have g0 := hg6.cell (i := 0) rfl
  have g1 := hg6.cell (i := 1) rfl
  have g2 := hg6.cell (i := 2) rfl
  have fr0 := hA6.free 0
  have fr1 := hA6.free 1
  have fr2 := hA6.free 2
  have y0 := hA6.cell (i := 0) rfl
  have y1 := hA6.cell (i := 1) rfl
  have y2 := hA6.cell (i := 2) rfl
  obtain ⟨W3, hW3⟩ : ∃ W3, ((w6.setCell ⟨wz.heap.size, 0, none⟩ (.int .u8 0)).setCell ⟨wz.heap.size, 1, none⟩ (.int .u8 3)).setCell ⟨wz.heap.size, 2, none⟩ (.slice a5 (12 + n) c5) = W3 := ⟨_, rfl⟩
  have hE := puts_end (H0.out.1.trans (hB6.mono H0.out.1.size)) H0.out.2.2.2 (by have := H0.out.2.1; have := HGLT.out; omega) hA6 hr6 hW3
  have z0 := hE.2.2.cell (i := 0) rfl
  have z1 := hE.2.2.cell (i := 1) rfl
  have z2 := hE.2.2.cell (i := 2) rfl
  have HE := Lib.hid (And.intro hE.1 (And.intro hE.2.1 hr6.len))
  clear hrun hE hg5 hB5 hA5 hg6 hA6 hr6 hB6 H5 HG HFR HS4 H0 hlt0
  go_wp2_with (at_builtin; refine wpList_append_run rfl _ _ _ rfl _ _ _ _ rfl rfl HRUN.out ?_)
  have hl := HE.out.2.2
  exact bodyPost_ret (by simp [results, Try.results19, go_sem, z0, z1, z2] <;> rfl) rfl ⟨a5, c5, by rw [hl], HE.out.1, HE.out.2.1⟩

set_option maxRecDepth 100000 in
set_option maxHeartbeats 1600000 in
theorem rputData_100 (x0 x1 x2 : Int) (q : Option Addr) (n c : Nat) (bs : List Int) (w : World) (hr : Reads w q n bs) (hn : n ≤ 281474976) (h00 : 0 ≤ x0) (h01 : x0 < 4294967296) (h10 : 0 ≤ x1) (h11 : x1 < 65536) (h20 : 0 ≤ x2) (h21 : x2 < 65536) : Calls Try.prog 19 #[.agg #[.int .u32 x0, .int .u16 x1, .int .u16 x2, .bool true, .bool false, .bool false, .slice q n c]] w fun e w' => Puts w (0) (4) (enc (x0) 4 ++ enc (x1) 2 ++ enc (x2) 2 ++ enc (0) 4 ++ bs) e w' := by
  have HR0 := Lib.hid hr
  clear hr
  obtain ⟨wz, hwz⟩ : ∃ wz, w.alloc (.cells #[.int .u32 x0, .int .u16 x1, .int .u16 x2, .bool true, .bool false, .bool false, .slice q n c] 26) = wz := ⟨_, rfl⟩
  have hbz : Below w.heap.size w wz := by rw [← hwz]; exact (Below.refl _ _).alloc (Nat.le_refl _) _
  have hsz : wz.heap.size = w.heap.size + 1 := by rw [← hwz]; simp
  have hDz : Arr wz w.heap.size 26 [.int .u32 x0, .int .u16 x1, .int .u16 x2, .bool true, .bool false, .bool false, .slice q n c] := by rw [← hwz]; exact arr_new _ _ _
  obtain ⟨w0, hw0⟩ : ∃ w0, wz.alloc (.cells #[.int .u8 0, .int .u8 0, .slice none 0 0] 28) = w0 := ⟨_, rfl⟩
  have hb00 : Below wz.heap.size wz w0 := by rw [← hw0]; exact chunkBelow _ 0 0 _
  have hs0 : w0.heap.size = wz.heap.size + 1 := by rw [← hw0]; simp
  have hA0 : Arr w0 wz.heap.size 28 [.int .u8 0, .int .u8 0, .slice none 0 0] := by rw [← hw0]; exact chunkBox _ 0 0 _
  have HD := Lib.hid (hDz.keep hb00)
  have H0 := Lib.hid (And.intro (hbz.trans (hb00.mono hbz.size)) (And.intro hs0 (And.intro hA0 hbz.size)))
  have HS0 := Lib.hid (And.intro (Below.refl w0.heap.size w0) (Row8.nil w0.heap.size w0))
  have HLT := Lib.hid (show w.heap.size < w0.heap.size by omega)
  have hbv0 : Below w0.heap.size w0 (w0.alloc (.cells #[.int .u8 0, .int .u8 0, .slice none 0 0] 28)) := (Below.refl _ _).alloc (Nat.le_refl _) _
  have p03 := (HD.out.below hbv0 HLT.out).cell (i := 3) rfl
  have p04 := (HD.out.below hbv0 HLT.out).cell (i := 4) rfl
  have p05 := (HD.out.below hbv0 HLT.out).cell (i := 5) rfl
  have hbv1 : Below w0.heap.size w0 (w0.alloc (.cells #[.int .u8 0, .int .u8 4, .slice none 0 0] 28)) := (Below.refl _ _).alloc (Nat.le_refl _) _
  have p13 := (HD.out.below hbv1 HLT.out).cell (i := 3) rfl
  have p14 := (HD.out.below hbv1 HLT.out).cell (i := 4) rfl
  have p15 := (HD.out.below hbv1 HLT.out).cell (i := 5) rfl
  have d0a := (HD.out.below hbv1 HLT.out).cell (i := 0) rfl
  clear hbz hb00 hs0 hA0 hsz hDz
  go_enter Try.func19, Try.ntmps19
  have hDi := HD.out.below HS0.out.1 HLT.out
  have d0 := hDi.cell (i := 0) rfl
  have d1 := hDi.cell (i := 1) rfl
  have d2 := hDi.cell (i := 2) rfl
  have d3 := hDi.cell (i := 3) rfl
  have d4 := hDi.cell (i := 4) rfl
  have d5 := hDi.cell (i := 5) rfl
  have d6 := hDi.cell (i := 6) rfl
  clear hDi
  clear d0 d1 d2 d3 d4 d5 d6
  have hp := putR_yes none 0 0 4 x0 [] (w0.alloc (.cells #[.int .u8 0, .int .u8 4, .slice none 0 0] 28)) (Reads.zero _ _) (by omega) h00 rfl
  try simp only [Nat.zero_add, List.nil_append, Nat.reduceAdd] at hp
  have HP1 := Lib.hid hp
  clear hp
  go_wp2_with fail
  refine HP1.out.mono ?_
  rintro e w1 ⟨a1, c1, rfl, hb1, hr1⟩
  have hba : Below w0.heap.size w0 (w0.alloc (.cells #[.int .u8 0, .int .u8 4, .slice none 0 0] 28)) := (Below.refl _ _).alloc (Nat.le_refl _) _
  have HG := Lib.hid ((arr_new w0 28 [.int .u8 0, .int .u8 4, .slice none 0 0]).keep hb1)
  have HS1 := Lib.hid (And.intro (hba.trans (hb1.mono hba.size)) (hr1.lower hba.size))
  have HB1 := Lib.hid (show w1.heap.size = w1.heap.size from rfl)
  clear d0a hba hb1 hr1 HP1 HS0 hbv0 p03 p04 p05 hbv1 p13 p14 p15
  have hDi := HD.out.below HS1.out.1 HLT.out
  have d0 := hDi.cell (i := 0) rfl
  have d1 := hDi.cell (i := 1) rfl
  have d2 := hDi.cell (i := 2) rfl
  have d3 := hDi.cell (i := 3) rfl
  have d4 := hDi.cell (i := 4) rfl
  have d5 := hDi.cell (i := 5) rfl
  have d6 := hDi.cell (i := 6) rfl
  clear hDi
  have hp := putR_yes a1 (4) c1 2 (x1) (enc (x0) 4) w1 HS1.out.2.reads (by omega) h10 rfl
  try simp only [Nat.zero_add, List.nil_append, Nat.reduceAdd] at hp
  have HP2 := Lib.hid hp
  clear hp
  go_wp2_with fail
  refine HP2.out.mono ?_
  rintro e w2 ⟨a2, c2, rfl, hb2, hr2⟩
  have HG' := Lib.hid (HG.out.keep hb2)
  clear HG
  have HG := HG'
  clear HG'
  clear d0 d1 d2 d3 d4 d5 d6
  have HS2 := Lib.hid (And.intro (HS1.out.1.trans (hb2.mono HS1.out.1.size)) (hr2.lower HS1.out.1.size))
  clear hb2 hr2 HP2 HS1
  have hDi := HD.out.below HS2.out.1 HLT.out
  have d0 := hDi.cell (i := 0) rfl
  have d1 := hDi.cell (i := 1) rfl
  have d2 := hDi.cell (i := 2) rfl
  have d3 := hDi.cell (i := 3) rfl
  have d4 := hDi.cell (i := 4) rfl
  have d5 := hDi.cell (i := 5) rfl
  have d6 := hDi.cell (i := 6) rfl
  clear hDi
  have hp := putR_yes a2 (6) c2 2 (x2) (enc (x0) 4 ++ enc (x1) 2) w2 HS2.out.2.reads (by omega) h20 rfl
  try simp only [Nat.zero_add, List.nil_append, Nat.reduceAdd] at hp
  have HP3 := Lib.hid hp
  clear hp
  go_wp2_with fail
  refine HP3.out.mono ?_
  rintro e w3 ⟨a3, c3, rfl, hb3, hr3⟩
  have HG' := Lib.hid (HG.out.keep hb3)
  clear HG
  have HG := HG'
  clear HG'
  clear d0 d1 d2 d3 d4 d5 d6
  have HS3 := Lib.hid (And.intro (HS2.out.1.trans (hb3.mono HS2.out.1.size)) (hr3.lower HS2.out.1.size))
  clear hb3 hr3 HP3 HS2
  have hDi := HD.out.below HS3.out.1 HLT.out
  have d0 := hDi.cell (i := 0) rfl
  have d1 := hDi.cell (i := 1) rfl
  have d2 := hDi.cell (i := 2) rfl
  have d3 := hDi.cell (i := 3) rfl
  have d4 := hDi.cell (i := 4) rfl
  have d5 := hDi.cell (i := 5) rfl
  have d6 := hDi.cell (i := 6) rfl
  clear hDi
  have hp := putR_yes a3 (8) c3 4 (0) (enc (x0) 4 ++ enc (x1) 2 ++ enc (x2) 2) w3 HS3.out.2.reads (by omega) (by omega) rfl
  try simp only [Nat.zero_add, List.nil_append, Nat.reduceAdd] at hp
  have HP4 := Lib.hid hp
  clear hp
  have HGLT := Lib.hid (HG.out.lt)
  go_wp2_with fail
  refine HP4.out.mono ?_
  rintro e w4 ⟨a4, c4, rfl, hb4, hr4⟩
  have HG' := Lib.hid (HG.out.keep hb4)
  clear HG
  have HG := HG'
  clear HG'
  have hfresh := hr4
  have HFR := Lib.hid (And.intro hr4 hb4.size)
  clear hfresh
  clear d0 d1 d2 d3 d4 d5 d6
  have HS4 := Lib.hid (And.intro (HS3.out.1.trans (hb4.mono HS3.out.1.size)) (hr4.lower HS3.out.1.size))
  clear hb4 hr4 HP4 HS3
  have hDi := HD.out.below HS4.out.1 HLT.out
  have d0 := hDi.cell (i := 0) rfl
  have d1 := hDi.cell (i := 1) rfl
  have d2 := hDi.cell (i := 2) rfl
  have d3 := hDi.cell (i := 3) rfl
  have d4 := hDi.cell (i := 4) rfl
  have d5 := hDi.cell (i := 5) rfl
  have d6 := hDi.cell (i := 6) rfl
  clear hDi
  obtain ⟨a5, c5, w5, hrun, H5⟩ := HFR.out.1.appends HFR.out.2 q n c bs (HR0.out.below (H0.out.1.trans (HS4.out.1.mono H0.out.1.size))) (by omega)
  have HRUN := Lib.hid hrun
  have hlt0 : w0.heap.size ≤ w3.heap.size := by have := HGLT.out; omega
  have hg5 : Arr w5 w0.heap.size 28 [.int .u8 0, .int .u8 4, .slice none 0 0] := HG.out.below H5.out.2 HGLT.out
  have hB5 : Below w0.heap.size w0 w5 := HS4.out.1.trans (H5.out.2.mono hlt0)
  have hA5 := H0.out.2.2.1.below hB5 (by have := H0.out.2.1; omega)
  obtain ⟨w6, hw6⟩ : ∃ w6, w5.setCell ⟨w0.heap.size, 2, none⟩ (.slice a5 (12 + n) c5) = w6 := ⟨_, rfl⟩
  have hg6 : Arr w6 w0.heap.size 28 [.int .u8 0, .int .u8 4, .slice a5 (12 + n) c5] := by rw [← hw6]; exact hg5.set 2 _
  have hA6 : Arr w6 wz.heap.size 28 [.int .u8 0, .int .u8 0, .slice none 0 0] := by rw [← hw6]; exact hA5.off _ (by have := H0.out.2.1; simp only; omega)
  have hr6 : Row8 w3.heap.size w6 a5 (12 + n) c5 (enc (x0) 4 ++ enc (x1) 2 ++ enc (x2) 2 ++ enc (0) 4 ++ bs) := by rw [← hw6]; exact H5.out.1.turn ((Turn.refl [w0.heap.size] w5).setCell (p := ⟨w0.heap.size, 2, none⟩) (by simp) _) (by simpa using HGLT.out)
  have hB6 : Below w0.heap.size w0 w6 := by rw [← hw6]; exact hB5.setCell (p := ⟨w0.heap.size, 2, none⟩) (Nat.le_refl _) _
  have s2 := hg5.free 2
  have t2 := hg5.cell (i := 2) rfl
  have g0 := hg6.cell (i := 0) rfl
  have g1 := hg6.cell (i := 1) rfl
  have g2 := hg6.cell (i := 2) rfl
  have fr0 := hA6.free 0
  have fr1 := hA6.free 1
  have fr2 := hA6.free 2
  have y0 := hA6.cell (i := 0) rfl
  have y1 := hA6.cell (i := 1) rfl
  have y2 := hA6.cell (i := 2) rfl
  obtain ⟨W3, hW3⟩ : ∃ W3, ((w6.setCell ⟨wz.heap.size, 0, none⟩ (.int .u8 0)).setCell ⟨wz.heap.size, 1, none⟩ (.int .u8 4)).setCell ⟨wz.heap.size, 2, none⟩ (.slice a5 (12 + n) c5) = W3 := ⟨_, rfl⟩
  have hE := puts_end (H0.out.1.trans (hB6.mono H0.out.1.size)) H0.out.2.2.2 (by have := H0.out.2.1; have := HGLT.out; omega) hA6 hr6 hW3
  have z0 := hE.2.2.cell (i := 0) rfl
  have z1 := hE.2.2.cell (i := 1) rfl
  have z2 := hE.2.2.cell (i := 2) rfl
  have HE := Lib.hid (And.intro hE.1 (And.intro hE.2.1 hr6.len))
  clear hrun hE hg5 hB5 hA5 hg6 hA6 hr6 hB6 H5 HG HFR HS4 H0 hlt0
  go_wp2_with (at_builtin; refine wpList_append_run rfl _ _ _ rfl _ _ _ _ rfl rfl HRUN.out ?_)
  have hl := HE.out.2.2
  exact bodyPost_ret (by simp [results, Try.results19, go_sem, z0, z1, z2] <;> rfl) rfl ⟨a5, c5, by rw [hl], HE.out.1, HE.out.2.1⟩

set_option maxRecDepth 100000 in
set_option maxHeartbeats 1600000 in
theorem rputData_101 (x0 x1 x2 : Int) (q : Option Addr) (n c : Nat) (bs : List Int) (w : World) (hr : Reads w q n bs) (hn : n ≤ 281474976) (h00 : 0 ≤ x0) (h01 : x0 < 4294967296) (h10 : 0 ≤ x1) (h11 : x1 < 65536) (h20 : 0 ≤ x2) (h21 : x2 < 65536) : Calls Try.prog 19 #[.agg #[.int .u32 x0, .int .u16 x1, .int .u16 x2, .bool true, .bool false, .bool true, .slice q n c]] w fun e w' => Puts w (0) (5) (enc (x0) 4 ++ enc (x1) 2 ++ enc (x2) 2 ++ enc (0) 4 ++ bs) e w' := by
  have HR0 := Lib.hid hr
  clear hr
  obtain ⟨wz, hwz⟩ : ∃ wz, w.alloc (.cells #[.int .u32 x0, .int .u16 x1, .int .u16 x2, .bool true, .bool false, .bool true, .slice q n c] 26) = wz := ⟨_, rfl⟩
  have hbz : Below w.heap.size w wz := by rw [← hwz]; exact (Below.refl _ _).alloc (Nat.le_refl _) _
  have hsz : wz.heap.size = w.heap.size + 1 := by rw [← hwz]; simp
  have hDz : Arr wz w.heap.size 26 [.int .u32 x0, .int .u16 x1, .int .u16 x2, .bool true, .bool false, .bool true, .slice q n c] := by rw [← hwz]; exact arr_new _ _ _
  obtain ⟨w0, hw0⟩ : ∃ w0, wz.alloc (.cells #[.int .u8 0, .int .u8 0, .slice none 0 0] 28) = w0 := ⟨_, rfl⟩
  have hb00 : Below wz.heap.size wz w0 := by rw [← hw0]; exact chunkBelow _ 0 0 _
  have hs0 : w0.heap.size = wz.heap.size + 1 := by rw [← hw0]; simp
  have hA0 : Arr w0 wz.heap.size 28 [.int .u8 0, .int .u8 0, .slice none 0 0] := by rw [← hw0]; exact chunkBox _ 0 0 _
  have HD := Lib.hid (hDz.keep hb00)
  have H0 := Lib.hid (And.intro (hbz.trans (hb00.mono hbz.size)) (And.intro hs0 (And.intro hA0 hbz.size)))
  have HS0 := Lib.hid (And.intro (Below.refl w0.heap.size w0) (Row8.nil w0.heap.size w0))
  have HLT := Lib.hid (show w.heap.size < w0.heap.size by omega)
  have hbv0 : Below w0.heap.size w0 (w0.alloc (.cells #[.int .u8 0, .int .u8 0, .slice none 0 0] 28)) := (Below.refl _ _).alloc (Nat.le_refl _) _
  have p03 := (HD.out.below hbv0 HLT.out).cell (i := 3) rfl
  have p04 := (HD.out.below hbv0 HLT.out).cell (i := 4) rfl
  have p05 := (HD.out.below hbv0 HLT.out).cell (i := 5) rfl
  have hbv1 : Below w0.heap.size w0 (w0.alloc (.cells #[.int .u8 0, .int .u8 4, .slice none 0 0] 28)) := (Below.refl _ _).alloc (Nat.le_refl _) _
  have p13 := (HD.out.below hbv1 HLT.out).cell (i := 3) rfl
  have p14 := (HD.out.below hbv1 HLT.out).cell (i := 4) rfl
  have p15 := (HD.out.below hbv1 HLT.out).cell (i := 5) rfl
  have hbv2 : Below w0.heap.size w0 (w0.alloc (.cells #[.int .u8 0, .int .u8 5, .slice none 0 0] 28)) := (Below.refl _ _).alloc (Nat.le_refl _) _
  have p23 := (HD.out.below hbv2 HLT.out).cell (i := 3) rfl
  have p24 := (HD.out.below hbv2 HLT.out).cell (i := 4) rfl
  have p25 := (HD.out.below hbv2 HLT.out).cell (i := 5) rfl
  have d0a := (HD.out.below hbv2 HLT.out).cell (i := 0) rfl
  clear hbz hb00 hs0 hA0 hsz hDz
  go_enter Try.func19, Try.ntmps19
  have hDi := HD.out.below HS0.out.1 HLT.out
  have d0 := hDi.cell (i := 0) rfl
  have d1 := hDi.cell (i := 1) rfl
  have d2 := hDi.cell (i := 2) rfl
  have d3 := hDi.cell (i := 3) rfl
  have d4 := hDi.cell (i := 4) rfl
  have d5 := hDi.cell (i := 5) rfl
  have d6 := hDi.cell (i := 6) rfl
  clear hDi
  clear d0 d1 d2 d3 d4 d5 d6
  have hp := putR_yes none 0 0 4 x0 [] (w0.alloc (.cells #[.int .u8 0, .int .u8 5, .slice none 0 0] 28)) (Reads.zero _ _) (by omega) h00 rfl
  try simp only [Nat.zero_add, List.nil_append, Nat.reduceAdd] at hp
  have HP1 := Lib.hid hp
  clear hp
  go_wp2_with fail
  refine HP1.out.mono ?_
  rintro e w1 ⟨a1, c1, rfl, hb1, hr1⟩
  have hba : Below w0.heap.size w0 (w0.alloc (.cells #[.int .u8 0, .int .u8 5, .slice none 0 0] 28)) := (Below.refl _ _).alloc (Nat.le_refl _) _
  have HG := Lib.hid ((arr_new w0 28 [.int .u8 0, .int .u8 5, .slice none 0 0]).keep hb1)
  have HS1 := Lib.hid (And.intro (hba.trans (hb1.mono hba.size)) (hr1.lower hba.size))
  have HB1 := Lib.hid (show w1.heap.size = w1.heap.size from rfl)
  clear d0a hba hb1 hr1 HP1 HS0 hbv0 p03 p04 p05 hbv1 p13 p14 p15 hbv2 p23 p24 p25
  have hDi := HD.out.below HS1.out.1 HLT.out
  have d0 := hDi.cell (i := 0) rfl
  have d1 := hDi.cell (i := 1) rfl
  have d2 := hDi.cell (i := 2) rfl
  have d3 := hDi.cell (i := 3) rfl
  have d4 := hDi.cell (i := 4) rfl
  have d5 := hDi.cell (i := 5) rfl
  have d6 := hDi.cell (i := 6) rfl
  clear hDi
  have hp := putR_yes a1 (4) c1 2 (x1) (enc (x0) 4) w1 HS1.out.2.reads (by omega) h10 rfl
  try simp only [Nat.zero_add, List.nil_append, Nat.reduceAdd] at hp
  have HP2 := Lib.hid hp
  clear hp
  go_wp2_with fail
  refine HP2.out.mono ?_
  rintro e w2 ⟨a2, c2, rfl, hb2, hr2⟩
  have HG' := Lib.hid (HG.out.keep hb2)
  clear HG
  have HG := HG'
  clear HG'
  clear d0 d1 d2 d3 d4 d5 d6
  have HS2 := Lib.hid (And.intro (HS1.out.1.trans (hb2.mono HS1.out.1.size)) (hr2.lower HS1.out.1.size))
  clear hb2 hr2 HP2 HS1
  have hDi := HD.out.below HS2.out.1 HLT.out
  have d0 := hDi.cell (i := 0) rfl
  have d1 := hDi.cell (i := 1) rfl
  have d2 := hDi.cell (i := 2) rfl
  have d3 := hDi.cell (i := 3) rfl
  have d4 := hDi.cell (i := 4) rfl
  have d5 := hDi.cell (i := 5) rfl
  have d6 := hDi.cell (i := 6) rfl
  clear hDi
  have hp := putR_yes a2 (6) c2 2 (x2) (enc (x0) 4 ++ enc (x1) 2) w2 HS2.out.2.reads (by omega) h20 rfl
  try simp only [Nat.zero_add, List.nil_append, Nat.reduceAdd] at hp
  have HP3 := Lib.hid hp
  clear hp
  go_wp2_with fail
  refine HP3.out.mono ?_
  rintro e w3 ⟨a3, c3, rfl, hb3, hr3⟩
  have HG' := Lib.hid (HG.out.keep hb3)
  clear HG
  have HG := HG'
  clear HG'
  clear d0 d1 d2 d3 d4 d5 d6
  have HS3 := Lib.hid (And.intro (HS2.out.1.trans (hb3.mono HS2.out.1.size)) (hr3.lower HS2.out.1.size))
  clear hb3 hr3 HP3 HS2
  have hDi := HD.out.below HS3.out.1 HLT.out
  have d0 := hDi.cell (i := 0) rfl
  have d1 := hDi.cell (i := 1) rfl
  have d2 := hDi.cell (i := 2) rfl
  have d3 := hDi.cell (i := 3) rfl
  have d4 := hDi.cell (i := 4) rfl
  have d5 := hDi.cell (i := 5) rfl
  have d6 := hDi.cell (i := 6) rfl
  clear hDi
  have hp := putR_yes a3 (8) c3 4 (0) (enc (x0) 4 ++ enc (x1) 2 ++ enc (x2) 2) w3 HS3.out.2.reads (by omega) (by omega) rfl
  try simp only [Nat.zero_add, List.nil_append, Nat.reduceAdd] at hp
  have HP4 := Lib.hid hp
  clear hp
  have HGLT := Lib.hid (HG.out.lt)
  go_wp2_with fail
  refine HP4.out.mono ?_
  rintro e w4 ⟨a4, c4, rfl, hb4, hr4⟩
  have HG' := Lib.hid (HG.out.keep hb4)
  clear HG
  have HG := HG'
  clear HG'
  have hfresh := hr4
  have HFR := Lib.hid (And.intro hr4 hb4.size)
  clear hfresh
  clear d0 d1 d2 d3 d4 d5 d6
  have HS4 := Lib.hid (And.intro (HS3.out.1.trans (hb4.mono HS3.out.1.size)) (hr4.lower HS3.out.1.size))
  clear hb4 hr4 HP4 HS3
  have hDi := HD.out.below HS4.out.1 HLT.out
  have d0 := hDi.cell (i := 0) rfl
  have d1 := hDi.cell (i := 1) rfl
  have d2 := hDi.cell (i := 2) rfl
  have d3 := hDi.cell (i := 3) rfl
  have d4 := hDi.cell (i := 4) rfl
  have d5 := hDi.cell (i := 5) rfl
  have d6 := hDi.cell (i := 6) rfl
  clear hDi
  obtain ⟨a5, c5, w5, hrun, H5⟩ := HFR.out.1.appends HFR.out.2 q n c bs (HR0.out.below (H0.out.1.trans (HS4.out.1.mono H0.out.1.size))) (by omega)
  have HRUN := Lib.hid hrun
  have hlt0 : w0.heap.size ≤ w3.heap.size := by have := HGLT.out; omega
  have hg5 : Arr w5 w0.heap.size 28 [.int .u8 0, .int .u8 5, .slice none 0 0] := HG.out.below H5.out.2 HGLT.out
  have hB5 : Below w0.heap.size w0 w5 := HS4.out.1.trans (H5.out.2.mono hlt0)
  have hA5 := H0.out.2.2.1.below hB5 (by have := H0.out.2.1; omega)
  obtain ⟨w6, hw6⟩ : ∃ w6, w5.setCell ⟨w0.heap.size, 2, none⟩ (.slice a5 (12 + n) c5) = w6 := ⟨_, rfl⟩
  have hg6 : Arr w6 w0.heap.size 28 [.int .u8 0, .int .u8 5, .slice a5 (12 + n) c5] := by rw [← hw6]; exact hg5.set 2 _
  have hA6 : Arr w6 wz.heap.size 28 [.int .u8 0, .int .u8 0, .slice none 0 0] := by rw [← hw6]; exact hA5.off _ (by have := H0.out.2.1; simp only; omega)
  have hr6 : Row8 w3.heap.size w6 a5 (12 + n) c5 (enc (x0) 4 ++ enc (x1) 2 ++ enc (x2) 2 ++ enc (0) 4 ++ bs) := by rw [← hw6]; exact H5.out.1.turn ((Turn.refl [w0.heap.size] w5).setCell (p := ⟨w0.heap.size, 2, none⟩) (by simp) _) (by simpa using HGLT.out)
  have hB6 : Below w0.heap.size w0 w6 := by rw [← hw6]; exact hB5.setCell (p := ⟨w0.heap.size, 2, none⟩) (Nat.le_refl _) _
  have s2 := hg5.free 2
  have t2 := hg5.cell (i := 2) rfl
  have g0 := hg6.cell (i := 0) rfl
  have g1 := hg6.cell (i := 1) rfl
  have g2 := hg6.cell (i := 2) rfl
  have fr0 := hA6.free 0
  have fr1 := hA6.free 1
  have fr2 := hA6.free 2
  have y0 := hA6.cell (i := 0) rfl
  have y1 := hA6.cell (i := 1) rfl
  have y2 := hA6.cell (i := 2) rfl
  obtain ⟨W3, hW3⟩ : ∃ W3, ((w6.setCell ⟨wz.heap.size, 0, none⟩ (.int .u8 0)).setCell ⟨wz.heap.size, 1, none⟩ (.int .u8 5)).setCell ⟨wz.heap.size, 2, none⟩ (.slice a5 (12 + n) c5) = W3 := ⟨_, rfl⟩
  have hE := puts_end (H0.out.1.trans (hB6.mono H0.out.1.size)) H0.out.2.2.2 (by have := H0.out.2.1; have := HGLT.out; omega) hA6 hr6 hW3
  have z0 := hE.2.2.cell (i := 0) rfl
  have z1 := hE.2.2.cell (i := 1) rfl
  have z2 := hE.2.2.cell (i := 2) rfl
  have HE := Lib.hid (And.intro hE.1 (And.intro hE.2.1 hr6.len))
  clear hrun hE hg5 hB5 hA5 hg6 hA6 hr6 hB6 H5 HG HFR HS4 H0 hlt0
  go_wp2_with (at_builtin; refine wpList_append_run rfl _ _ _ rfl _ _ _ _ rfl rfl HRUN.out ?_)
  have hl := HE.out.2.2
  exact bodyPost_ret (by simp [results, Try.results19, go_sem, z0, z1, z2] <;> rfl) rfl ⟨a5, c5, by rw [hl], HE.out.1, HE.out.2.1⟩

set_option maxRecDepth 100000 in
set_option maxHeartbeats 1600000 in
theorem rputData_110 (x0 x1 x2 : Int) (q : Option Addr) (n c : Nat) (bs : List Int) (w : World) (hr : Reads w q n bs) (hn : n ≤ 281474976) (h00 : 0 ≤ x0) (h01 : x0 < 4294967296) (h10 : 0 ≤ x1) (h11 : x1 < 65536) (h20 : 0 ≤ x2) (h21 : x2 < 65536) : Calls Try.prog 19 #[.agg #[.int .u32 x0, .int .u16 x1, .int .u16 x2, .bool true, .bool true, .bool false, .slice q n c]] w fun e w' => Puts w (0) (6) (enc (x0) 4 ++ enc (x1) 2 ++ enc (x2) 2 ++ enc (0) 4 ++ bs) e w' := by
  have HR0 := Lib.hid hr
  clear hr
  obtain ⟨wz, hwz⟩ : ∃ wz, w.alloc (.cells #[.int .u32 x0, .int .u16 x1, .int .u16 x2, .bool true, .bool true, .bool false, .slice q n c] 26) = wz := ⟨_, rfl⟩
  have hbz : Below w.heap.size w wz := by rw [← hwz]; exact (Below.refl _ _).alloc (Nat.le_refl _) _
  have hsz : wz.heap.size = w.heap.size + 1 := by rw [← hwz]; simp
  have hDz : Arr wz w.heap.size 26 [.int .u32 x0, .int .u16 x1, .int .u16 x2, .bool true, .bool true, .bool false, .slice q n c] := by rw [← hwz]; exact arr_new _ _ _
  obtain ⟨w0, hw0⟩ : ∃ w0, wz.alloc (.cells #[.int .u8 0, .int .u8 0, .slice none 0 0] 28) = w0 := ⟨_, rfl⟩
  have hb00 : Below wz.heap.size wz w0 := by rw [← hw0]; exact chunkBelow _ 0 0 _
  have hs0 : w0.heap.size = wz.heap.size + 1 := by rw [← hw0]; simp
  have hA0 : Arr w0 wz.heap.size 28 [.int .u8 0, .int .u8 0, .slice none 0 0] := by rw [← hw0]; exact chunkBox _ 0 0 _
  have HD := Lib.hid (hDz.keep hb00)
  have H0 := Lib.hid (And.intro (hbz.trans (hb00.mono hbz.size)) (And.intro hs0 (And.intro hA0 hbz.size)))
  have HS0 := Lib.hid (And.intro (Below.refl w0.heap.size w0) (Row8.nil w0.heap.size w0))
  have HLT := Lib.hid (show w.heap.size < w0.heap.size by omega)
  have hbv0 : Below w0.heap.size w0 (w0.alloc (.cells #[.int .u8 0, .int .u8 0, .slice none 0 0] 28)) := (Below.refl _ _).alloc (Nat.le_refl _) _
  have p03 := (HD.out.below hbv0 HLT.out).cell (i := 3) rfl
  have p04 := (HD.out.below hbv0 HLT.out).cell (i := 4) rfl
  have p05 := (HD.out.below hbv0 HLT.out).cell (i := 5) rfl
  have hbv1 : Below w0.heap.size w0 (w0.alloc (.cells #[.int .u8 0, .int .u8 4, .slice none 0 0] 28)) := (Below.refl _ _).alloc (Nat.le_refl _) _
  have p13 := (HD.out.below hbv1 HLT.out).cell (i := 3) rfl
  have p14 := (HD.out.below hbv1 HLT.out).cell (i := 4) rfl
  have p15 := (HD.out.below hbv1 HLT.out).cell (i := 5) rfl
  have hbv2 : Below w0.heap.size w0 (w0.alloc (.cells #[.int .u8 0, .int .u8 6, .slice none 0 0] 28)) := (Below.refl _ _).alloc (Nat.le_refl _) _
  have p23 := (HD.out.below hbv2 HLT.out).cell (i := 3) rfl
  have p24 := (HD.out.below hbv2 HLT.out).cell (i := 4) rfl
  have p25 := (HD.out.below hbv2 HLT.out).cell (i := 5) rfl
  have d0a := (HD.out.below hbv2 HLT.out).cell (i := 0) rfl
  clear hbz hb00 hs0 hA0 hsz hDz
  go_enter Try.func19, Try.ntmps19
  have hDi := HD.out.below HS0.out.1 HLT.out
  have d0 := hDi.cell (i := 0) rfl
  have d1 := hDi.cell (i := 1) rfl
  have d2 := hDi.cell (i := 2) rfl
  have d3 := hDi.cell (i := 3) rfl
  have d4 := hDi.cell (i := 4) rfl
  have d5 := hDi.cell (i := 5) rfl
  have d6 := hDi.cell (i := 6) rfl
  clear hDi
  clear d0 d1 d2 d3 d4 d5 d6
  have hp := putR_yes none 0 0 4 x0 [] (w0.alloc (.cells #[.int .u8 0, .int .u8 6, .slice none 0 0] 28)) (Reads.zero _ _) (by omega) h00 rfl
  try simp only [Nat.zero_add, List.nil_append, Nat.reduceAdd] at hp
  have HP1 := Lib.hid hp
  clear hp
  go_wp2_with fail
  refine HP1.out.mono ?_
  rintro e w1 ⟨a1, c1, rfl, hb1, hr1⟩
  have hba : Below w0.heap.size w0 (w0.alloc (.cells #[.int .u8 0, .int .u8 6, .slice none 0 0] 28)) := (Below.refl _ _).alloc (Nat.le_refl _) _
  have HG := Lib.hid ((arr_new w0 28 [.int .u8 0, .int .u8 6, .slice none 0 0]).keep hb1)
  have HS1 := Lib.hid (And.intro (hba.trans (hb1.mono hba.size)) (hr1.lower hba.size))
  have HB1 := Lib.hid (show w1.heap.size = w1.heap.size from rfl)
  clear d0a hba hb1 hr1 HP1 HS0 hbv0 p03 p04 p05 hbv1 p13 p14 p15 hbv2 p23 p24 p25
  have hDi := HD.out.below HS1.out.1 HLT.out
  have d0 := hDi.cell (i := 0) rfl
  have d1 := hDi.cell (i := 1) rfl
  have d2 := hDi.cell (i := 2) rfl
  have d3 := hDi.cell (i := 3) rfl
  have d4 := hDi.cell (i := 4) rfl
  have d5 := hDi.cell (i := 5) rfl
  have d6 := hDi.cell (i := 6) rfl
  clear hDi
  have hp := putR_yes a1 (4) c1 2 (x1) (enc (x0) 4) w1 HS1.out.2.reads (by omega) h10 rfl
  try simp only [Nat.zero_add, List.nil_append, Nat.reduceAdd] at hp
  have HP2 := Lib.hid hp
  clear hp
  go_wp2_with fail
  refine HP2.out.mono ?_
  rintro e w2 ⟨a2, c2, rfl, hb2, hr2⟩
  have HG' := Lib.hid (HG.out.keep hb2)
  clear HG
  have HG := HG'
  clear HG'
  clear d0 d1 d2 d3 d4 d5 d6
  have HS2 := Lib.hid (And.intro (HS1.out.1.trans (hb2.mono HS1.out.1.size)) (hr2.lower HS1.out.1.size))
  clear hb2 hr2 HP2 HS1
  have hDi := HD.out.below HS2.out.1 HLT.out
  have d0 := hDi.cell (i := 0) rfl
  have d1 := hDi.cell (i := 1) rfl
  have d2 := hDi.cell (i := 2) rfl
  have d3 := hDi.cell (i := 3) rfl
  have d4 := hDi.cell (i := 4) rfl
  have d5 := hDi.cell (i := 5) rfl
  have d6 := hDi.cell (i := 6) rfl
  clear hDi
  have hp := putR_yes a2 (6) c2 2 (x2) (enc (x0) 4 ++ enc (x1) 2) w2 HS2.out.2.reads (by omega) h20 rfl
  try simp only [Nat.zero_add, List.nil_append, Nat.reduceAdd] at hp
  have HP3 := Lib.hid hp
  clear hp
  go_wp2_with fail
  refine HP3.out.mono ?_
  rintro e w3 ⟨a3, c3, rfl, hb3, hr3⟩
  have HG' := Lib.hid (HG.out.keep hb3)
  clear HG
  have HG := HG'
  clear HG'
  clear d0 d1 d2 d3 d4 d5 d6
  have HS3 := Lib.hid (And.intro (HS2.out.1.trans (hb3.mono HS2.out.1.size)) (hr3.lower HS2.out.1.size))
  clear hb3 hr3 HP3 HS2
  have hDi := HD.out.below HS3.out.1 HLT.out
  have d0 := hDi.cell (i := 0) rfl
  have d1 := hDi.cell (i := 1) rfl
  have d2 := hDi.cell (i := 2) rfl
  have d3 := hDi.cell (i := 3) rfl
  have d4 := hDi.cell (i := 4) rfl
  have d5 := hDi.cell (i := 5) rfl
  have d6 := hDi.cell (i := 6) rfl
  clear hDi
  have hp := putR_yes a3 (8) c3 4 (0) (enc (x0) 4 ++ enc (x1) 2 ++ enc (x2) 2) w3 HS3.out.2.reads (by omega) (by omega) rfl
  try simp only [Nat.zero_add, List.nil_append, Nat.reduceAdd] at hp
  have HP4 := Lib.hid hp
  clear hp
  have HGLT := Lib.hid (HG.out.lt)
  go_wp2_with fail
  refine HP4.out.mono ?_
  rintro e w4 ⟨a4, c4, rfl, hb4, hr4⟩
  have HG' := Lib.hid (HG.out.keep hb4)
  clear HG
  have HG := HG'
  clear HG'
  have hfresh := hr4
  have HFR := Lib.hid (And.intro hr4 hb4.size)
  clear hfresh
  clear d0 d1 d2 d3 d4 d5 d6
  have HS4 := Lib.hid (And.intro (HS3.out.1.trans (hb4.mono HS3.out.1.size)) (hr4.lower HS3.out.1.size))
  clear hb4 hr4 HP4 HS3
  have hDi := HD.out.below HS4.out.1 HLT.out
  have d0 := hDi.cell (i := 0) rfl
  have d1 := hDi.cell (i := 1) rfl
  have d2 := hDi.cell (i := 2) rfl
  have d3 := hDi.cell (i := 3) rfl
  have d4 := hDi.cell (i := 4) rfl
  have d5 := hDi.cell (i := 5) rfl
  have d6 := hDi.cell (i := 6) rfl
  clear hDi
  obtain ⟨a5, c5, w5, hrun, H5⟩ := HFR.out.1.appends HFR.out.2 q n c bs (HR0.out.below (H0.out.1.trans (HS4.out.1.mono H0.out.1.size))) (by omega)
  have HRUN := Lib.hid hrun
  have hlt0 : w0.heap.size ≤ w3.heap.size := by have := HGLT.out; omega
  have hg5 : Arr w5 w0.heap.size 28 [.int .u8 0, .int .u8 6, .slice none 0 0] := HG.out.below H5.out.2 HGLT.out
  have hB5 : Below w0.heap.size w0 w5 := HS4.out.1.trans (H5.out.2.mono hlt0)
  have hA5 := H0.out.2.2.1.below hB5 (by have := H0.out.2.1; omega)
  obtain ⟨w6, hw6⟩ : ∃ w6, w5.setCell ⟨w0.heap.size, 2, none⟩ (.slice a5 (12 + n) c5) = w6 := ⟨_, rfl⟩
  have hg6 : Arr w6 w0.heap.size 28 [.int .u8 0, .int .u8 6, .slice a5 (12 + n) c5] := by rw [← hw6]; exact hg5.set 2 _
  have hA6 : Arr w6 wz.heap.size 28 [.int .u8 0, .int .u8 0, .slice none 0 0] := by rw [← hw6]; exact hA5.off _ (by have := H0.out.2.1; simp only; omega)
  have hr6 : Row8 w3.heap.size w6 a5 (12 + n) c5 (enc (x0) 4 ++ enc (x1) 2 ++ enc (x2) 2 ++ enc (0) 4 ++ bs) := by rw [← hw6]; exact H5.out.1.turn ((Turn.refl [w0.heap.size] w5).setCell (p := ⟨w0.heap.size, 2, none⟩) (by simp) _) (by simpa using HGLT.out)
  have hB6 : Below w0.heap.size w0 w6 := by rw [← hw6]; exact hB5.setCell (p := ⟨w0.heap.size, 2, none⟩) (Nat.le_refl _) _
  have s2 := hg5.free 2
  have t2 := hg5.cell (i := 2) rfl
  have g0 := hg6.cell (i := 0) rfl
  have g1 := hg6.cell (i := 1) rfl
  have g2 := hg6.cell (i := 2) rfl
  have fr0 := hA6.free 0
  have fr1 := hA6.free 1
  have fr2 := hA6.free 2
  have y0 := hA6.cell (i := 0) rfl
  have y1 := hA6.cell (i := 1) rfl
  have y2 := hA6.cell (i := 2) rfl
  obtain ⟨W3, hW3⟩ : ∃ W3, ((w6.setCell ⟨wz.heap.size, 0, none⟩ (.int .u8 0)).setCell ⟨wz.heap.size, 1, none⟩ (.int .u8 6)).setCell ⟨wz.heap.size, 2, none⟩ (.slice a5 (12 + n) c5) = W3 := ⟨_, rfl⟩
  have hE := puts_end (H0.out.1.trans (hB6.mono H0.out.1.size)) H0.out.2.2.2 (by have := H0.out.2.1; have := HGLT.out; omega) hA6 hr6 hW3
  have z0 := hE.2.2.cell (i := 0) rfl
  have z1 := hE.2.2.cell (i := 1) rfl
  have z2 := hE.2.2.cell (i := 2) rfl
  have HE := Lib.hid (And.intro hE.1 (And.intro hE.2.1 hr6.len))
  clear hrun hE hg5 hB5 hA5 hg6 hA6 hr6 hB6 H5 HG HFR HS4 H0 hlt0
  go_wp2_with (at_builtin; refine wpList_append_run rfl _ _ _ rfl _ _ _ _ rfl rfl HRUN.out ?_)
  have hl := HE.out.2.2
  exact bodyPost_ret (by simp [results, Try.results19, go_sem, z0, z1, z2] <;> rfl) rfl ⟨a5, c5, by rw [hl], HE.out.1, HE.out.2.1⟩

set_option maxRecDepth 100000 in
set_option maxHeartbeats 1600000 in
theorem rputData_111 (x0 x1 x2 : Int) (q : Option Addr) (n c : Nat) (bs : List Int) (w : World) (hr : Reads w q n bs) (hn : n ≤ 281474976) (h00 : 0 ≤ x0) (h01 : x0 < 4294967296) (h10 : 0 ≤ x1) (h11 : x1 < 65536) (h20 : 0 ≤ x2) (h21 : x2 < 65536) : Calls Try.prog 19 #[.agg #[.int .u32 x0, .int .u16 x1, .int .u16 x2, .bool true, .bool true, .bool true, .slice q n c]] w fun e w' => Puts w (0) (7) (enc (x0) 4 ++ enc (x1) 2 ++ enc (x2) 2 ++ enc (0) 4 ++ bs) e w' := by
  have HR0 := Lib.hid hr
  clear hr
  obtain ⟨wz, hwz⟩ : ∃ wz, w.alloc (.cells #[.int .u32 x0, .int .u16 x1, .int .u16 x2, .bool true, .bool true, .bool true, .slice q n c] 26) = wz := ⟨_, rfl⟩
  have hbz : Below w.heap.size w wz := by rw [← hwz]; exact (Below.refl _ _).alloc (Nat.le_refl _) _
  have hsz : wz.heap.size = w.heap.size + 1 := by rw [← hwz]; simp
  have hDz : Arr wz w.heap.size 26 [.int .u32 x0, .int .u16 x1, .int .u16 x2, .bool true, .bool true, .bool true, .slice q n c] := by rw [← hwz]; exact arr_new _ _ _
  obtain ⟨w0, hw0⟩ : ∃ w0, wz.alloc (.cells #[.int .u8 0, .int .u8 0, .slice none 0 0] 28) = w0 := ⟨_, rfl⟩
  have hb00 : Below wz.heap.size wz w0 := by rw [← hw0]; exact chunkBelow _ 0 0 _
  have hs0 : w0.heap.size = wz.heap.size + 1 := by rw [← hw0]; simp
  have hA0 : Arr w0 wz.heap.size 28 [.int .u8 0, .int .u8 0, .slice none 0 0] := by rw [← hw0]; exact chunkBox _ 0 0 _
  have HD := Lib.hid (hDz.keep hb00)
  have H0 := Lib.hid (And.intro (hbz.trans (hb00.mono hbz.size)) (And.intro hs0 (And.intro hA0 hbz.size)))
  have HS0 := Lib.hid (And.intro (Below.refl w0.heap.size w0) (Row8.nil w0.heap.size w0))
  have HLT := Lib.hid (show w.heap.size < w0.heap.size by omega)
  have hbv0 : Below w0.heap.size w0 (w0.alloc (.cells #[.int .u8 0, .int .u8 0, .slice none 0 0] 28)) := (Below.refl _ _).alloc (Nat.le_refl _) _
  have p03 := (HD.out.below hbv0 HLT.out).cell (i := 3) rfl
  have p04 := (HD.out.below hbv0 HLT.out).cell (i := 4) rfl
  have p05 := (HD.out.below hbv0 HLT.out).cell (i := 5) rfl
  have hbv1 : Below w0.heap.size w0 (w0.alloc (.cells #[.int .u8 0, .int .u8 4, .slice none 0 0] 28)) := (Below.refl _ _).alloc (Nat.le_refl _) _
  have p13 := (HD.out.below hbv1 HLT.out).cell (i := 3) rfl
  have p14 := (HD.out.below hbv1 HLT.out).cell (i := 4) rfl
  have p15 := (HD.out.below hbv1 HLT.out).cell (i := 5) rfl
  have hbv2 : Below w0.heap.size w0 (w0.alloc (.cells #[.int .u8 0, .int .u8 6, .slice none 0 0] 28)) := (Below.refl _ _).alloc (Nat.le_refl _) _
  have p23 := (HD.out.below hbv2 HLT.out).cell (i := 3) rfl
  have p24 := (HD.out.below hbv2 HLT.out).cell (i := 4) rfl
  have p25 := (HD.out.below hbv2 HLT.out).cell (i := 5) rfl
  have hbv3 : Below w0.heap.size w0 (w0.alloc (.cells #[.int .u8 0, .int .u8 7, .slice none 0 0] 28)) := (Below.refl _ _).alloc (Nat.le_refl _) _
  have p33 := (HD.out.below hbv3 HLT.out).cell (i := 3) rfl
  have p34 := (HD.out.below hbv3 HLT.out).cell (i := 4) rfl
  have p35 := (HD.out.below hbv3 HLT.out).cell (i := 5) rfl
  have d0a := (HD.out.below hbv3 HLT.out).cell (i := 0) rfl
  clear hbz hb00 hs0 hA0 hsz hDz
  go_enter Try.func19, Try.ntmps19
  have hDi := HD.out.below HS0.out.1 HLT.out
  have d0 := hDi.cell (i := 0) rfl
  have d1 := hDi.cell (i := 1) rfl
  have d2 := hDi.cell (i := 2) rfl
  have d3 := hDi.cell (i := 3) rfl
  have d4 := hDi.cell (i := 4) rfl
  have d5 := hDi.cell (i := 5) rfl
  have d6 := hDi.cell (i := 6) rfl
  clear hDi
  clear d0 d1 d2 d3 d4 d5 d6
  have hp := putR_yes none 0 0 4 x0 [] (w0.alloc (.cells #[.int .u8 0, .int .u8 7, .slice none 0 0] 28)) (Reads.zero _ _) (by omega) h00 rfl
  try simp only [Nat.zero_add, List.nil_append, Nat.reduceAdd] at hp
  have HP1 := Lib.hid hp
  clear hp
  go_wp2_with fail
  refine HP1.out.mono ?_
  rintro e w1 ⟨a1, c1, rfl, hb1, hr1⟩
  have hba : Below w0.heap.size w0 (w0.alloc (.cells #[.int .u8 0, .int .u8 7, .slice none 0 0] 28)) := (Below.refl _ _).alloc (Nat.le_refl _) _
  have HG := Lib.hid ((arr_new w0 28 [.int .u8 0, .int .u8 7, .slice none 0 0]).keep hb1)
  have HS1 := Lib.hid (And.intro (hba.trans (hb1.mono hba.size)) (hr1.lower hba.size))
  have HB1 := Lib.hid (show w1.heap.size = w1.heap.size from rfl)
  clear d0a hba hb1 hr1 HP1 HS0 hbv0 p03 p04 p05 hbv1 p13 p14 p15 hbv2 p23 p24 p25 hbv3 p33 p34 p35
  have hDi := HD.out.below HS1.out.1 HLT.out
  have d0 := hDi.cell (i := 0) rfl
  have d1 := hDi.cell (i := 1) rfl
  have d2 := hDi.cell (i := 2) rfl
  have d3 := hDi.cell (i := 3) rfl
  have d4 := hDi.cell (i := 4) rfl
  have d5 := hDi.cell (i := 5) rfl
  have d6 := hDi.cell (i := 6) rfl
  clear hDi
  have hp := putR_yes a1 (4) c1 2 (x1) (enc (x0) 4) w1 HS1.out.2.reads (by omega) h10 rfl
  try simp only [Nat.zero_add, List.nil_append, Nat.reduceAdd] at hp
  have HP2 := Lib.hid hp
  clear hp
  go_wp2_with fail
  refine HP2.out.mono ?_
  rintro e w2 ⟨a2, c2, rfl, hb2, hr2⟩
  have HG' := Lib.hid (HG.out.keep hb2)
  clear HG
  have HG := HG'
  clear HG'
  clear d0 d1 d2 d3 d4 d5 d6
  have HS2 := Lib.hid (And.intro (HS1.out.1.trans (hb2.mono HS1.out.1.size)) (hr2.lower HS1.out.1.size))
  clear hb2 hr2 HP2 HS1
  have hDi := HD.out.below HS2.out.1 HLT.out
  have d0 := hDi.cell (i := 0) rfl
  have d1 := hDi.cell (i := 1) rfl
  have d2 := hDi.cell (i := 2) rfl
  have d3 := hDi.cell (i := 3) rfl
  have d4 := hDi.cell (i := 4) rfl
  have d5 := hDi.cell (i := 5) rfl
  have d6 := hDi.cell (i := 6) rfl
  clear hDi
  have hp := putR_yes a2 (6) c2 2 (x2) (enc (x0) 4 ++ enc (x1) 2) w2 HS2.out.2.reads (by omega) h20 rfl
  try simp only [Nat.zero_add, List.nil_append, Nat.reduceAdd] at hp
  have HP3 := Lib.hid hp
  clear hp
  go_wp2_with fail
  refine HP3.out.mono ?_
  rintro e w3 ⟨a3, c3, rfl, hb3, hr3⟩
  have HG' := Lib.hid (HG.out.keep hb3)
  clear HG
  have HG := HG'
  clear HG'
  clear d0 d1 d2 d3 d4 d5 d6
  have HS3 := Lib.hid (And.intro (HS2.out.1.trans (hb3.mono HS2.out.1.size)) (hr3.lower HS2.out.1.size))
  clear hb3 hr3 HP3 HS2
  have hDi := HD.out.below HS3.out.1 HLT.out
  have d0 := hDi.cell (i := 0) rfl
  have d1 := hDi.cell (i := 1) rfl
  have d2 := hDi.cell (i := 2) rfl
  have d3 := hDi.cell (i := 3) rfl
  have d4 := hDi.cell (i := 4) rfl
  have d5 := hDi.cell (i := 5) rfl
  have d6 := hDi.cell (i := 6) rfl
  clear hDi
  have hp := putR_yes a3 (8) c3 4 (0) (enc (x0) 4 ++ enc (x1) 2 ++ enc (x2) 2) w3 HS3.out.2.reads (by omega) (by omega) rfl
  try simp only [Nat.zero_add, List.nil_append, Nat.reduceAdd] at hp
  have HP4 := Lib.hid hp
  clear hp
  have HGLT := Lib.hid (HG.out.lt)
  go_wp2_with fail
  refine HP4.out.mono ?_
  rintro e w4 ⟨a4, c4, rfl, hb4, hr4⟩
  have HG' := Lib.hid (HG.out.keep hb4)
  clear HG
  have HG := HG'
  clear HG'
  have hfresh := hr4
  have HFR := Lib.hid (And.intro hr4 hb4.size)
  clear hfresh
  clear d0 d1 d2 d3 d4 d5 d6
  have HS4 := Lib.hid (And.intro (HS3.out.1.trans (hb4.mono HS3.out.1.size)) (hr4.lower HS3.out.1.size))
  clear hb4 hr4 HP4 HS3
  have hDi := HD.out.below HS4.out.1 HLT.out
  have d0 := hDi.cell (i := 0) rfl
  have d1 := hDi.cell (i := 1) rfl
  have d2 := hDi.cell (i := 2) rfl
  have d3 := hDi.cell (i := 3) rfl
  have d4 := hDi.cell (i := 4) rfl
  have d5 := hDi.cell (i := 5) rfl
  have d6 := hDi.cell (i := 6) rfl
  clear hDi
  obtain ⟨a5, c5, w5, hrun, H5⟩ := HFR.out.1.appends HFR.out.2 q n c bs (HR0.out.below (H0.out.1.trans (HS4.out.1.mono H0.out.1.size))) (by omega)
  have HRUN := Lib.hid hrun
  have hlt0 : w0.heap.size ≤ w3.heap.size := by have := HGLT.out; omega
  have hg5 : Arr w5 w0.heap.size 28 [.int .u8 0, .int .u8 7, .slice none 0 0] := HG.out.below H5.out.2 HGLT.out
  have hB5 : Below w0.heap.size w0 w5 := HS4.out.1.trans (H5.out.2.mono hlt0)
  have hA5 := H0.out.2.2.1.below hB5 (by have := H0.out.2.1; omega)
  obtain ⟨w6, hw6⟩ : ∃ w6, w5.setCell ⟨w0.heap.size, 2, none⟩ (.slice a5 (12 + n) c5) = w6 := ⟨_, rfl⟩
  have hg6 : Arr w6 w0.heap.size 28 [.int .u8 0, .int .u8 7, .slice a5 (12 + n) c5] := by rw [← hw6]; exact hg5.set 2 _
  have hA6 : Arr w6 wz.heap.size 28 [.int .u8 0, .int .u8 0, .slice none 0 0] := by rw [← hw6]; exact hA5.off _ (by have := H0.out.2.1; simp only; omega)
  have hr6 : Row8 w3.heap.size w6 a5 (12 + n) c5 (enc (x0) 4 ++ enc (x1) 2 ++ enc (x2) 2 ++ enc (0) 4 ++ bs) := by rw [← hw6]; exact H5.out.1.turn ((Turn.refl [w0.heap.size] w5).setCell (p := ⟨w0.heap.size, 2, none⟩) (by simp) _) (by simpa using HGLT.out)
  have hB6 : Below w0.heap.size w0 w6 := by rw [← hw6]; exact hB5.setCell (p := ⟨w0.heap.size, 2, none⟩) (Nat.le_refl _) _
  have s2 := hg5.free 2
  have t2 := hg5.cell (i := 2) rfl
  have g0 := hg6.cell (i := 0) rfl
  have g1 := hg6.cell (i := 1) rfl
  have g2 := hg6.cell (i := 2) rfl
  have fr0 := hA6.free 0
  have fr1 := hA6.free 1
  have fr2 := hA6.free 2
  have y0 := hA6.cell (i := 0) rfl
  have y1 := hA6.cell (i := 1) rfl
  have y2 := hA6.cell (i := 2) rfl
  obtain ⟨W3, hW3⟩ : ∃ W3, ((w6.setCell ⟨wz.heap.size, 0, none⟩ (.int .u8 0)).setCell ⟨wz.heap.size, 1, none⟩ (.int .u8 7)).setCell ⟨wz.heap.size, 2, none⟩ (.slice a5 (12 + n) c5) = W3 := ⟨_, rfl⟩
  have hE := puts_end (H0.out.1.trans (hB6.mono H0.out.1.size)) H0.out.2.2.2 (by have := H0.out.2.1; have := HGLT.out; omega) hA6 hr6 hW3
  have z0 := hE.2.2.cell (i := 0) rfl
  have z1 := hE.2.2.cell (i := 1) rfl
  have z2 := hE.2.2.cell (i := 2) rfl
  have HE := Lib.hid (And.intro hE.1 (And.intro hE.2.1 hr6.len))
  clear hrun hE hg5 hB5 hA5 hg6 hA6 hr6 hB6 H5 HG HFR HS4 H0 hlt0
  go_wp2_with (at_builtin; refine wpList_append_run rfl _ _ _ rfl _ _ _ _ rfl rfl HRUN.out ?_)
  have hl := HE.out.2.2
  exact bodyPost_ret (by simp [results, Try.results19, go_sem, z0, z1, z2] <;> rfl) rfl ⟨a5, c5, by rw [hl], HE.out.1, HE.out.2.1⟩

theorem rputData (x0 x1 x2 : Int) (u f l : Bool) (q : Option Addr) (n c : Nat) (bs : List Int) (w : World) (hr : Reads w q n bs) (hn : n ≤ 281474976) (h00 : 0 ≤ x0) (h01 : x0 < 4294967296) (h10 : 0 ≤ x1) (h11 : x1 < 65536) (h20 : 0 ≤ x2) (h21 : x2 < 65536) : Calls Try.prog 19 #[.agg #[.int .u32 x0, .int .u16 x1, .int .u16 x2, .bool u, .bool f, .bool l, .slice q n c]] w fun e w' => Puts w 0 (dflags u f l) (dataB x0 x1 x2 bs) e w' := by
  have e : enc (x0) 4 ++ enc (x1) 2 ++ enc (x2) 2 ++ enc (0) 4 ++ bs = dataB x0 x1 x2 bs := rfl
  rw [← e]
  cases u <;> cases f <;> cases l
  · exact rputData_000 x0 x1 x2 q n c bs w hr hn h00 h01 h10 h11 h20 h21
  · exact rputData_001 x0 x1 x2 q n c bs w hr hn h00 h01 h10 h11 h20 h21
  · exact rputData_010 x0 x1 x2 q n c bs w hr hn h00 h01 h10 h11 h20 h21
  · exact rputData_011 x0 x1 x2 q n c bs w hr hn h00 h01 h10 h11 h20 h21
  · exact rputData_100 x0 x1 x2 q n c bs w hr hn h00 h01 h10 h11 h20 h21
  · exact rputData_101 x0 x1 x2 q n c bs w hr hn h00 h01 h10 h11 h20 h21
  · exact rputData_110 x0 x1 x2 q n c bs w hr hn h00 h01 h10 h11 h20 h21
  · exact rputData_111 x0 x1 x2 q n c bs w hr hn h00 h01 h10 h11 h20 h21
end Go.Proofs.Ytlihcckgnnnekaa
