import Derived.Test.YtnndlpbbllmpjaaMgA
import Derived.StillTailTactics
import Derived.Test.YtnndlpbbllmpjaaChecked
/-
  Chunks as bytes: plain mathematics. 'encC' is a chunk's encoding; 'decC' tells the chunk with which bytes begin.
-/
namespace Go.Proofs.Ytnndlpbbllmpjaa
set_option linter.unusedVariables false

/-- The encoding of a chunk of kind k, flags f and this body. -/
def encC (k f : Int) (zs : List Int) : List Int := [k, f] ++ enc (4 + (zs.length : Int)) 2 ++ zs ++ List.replicate (up4 (4 + zs.length) - (4 + zs.length)) 0
theorem encC_len (k f : Int) (zs : List Int) : (encC k f zs).length = up4 (4 + zs.length) := by
  have := up4_ge (4 + zs.length)
  simp [encC]; omega
theorem encC_byt {k f : Int} {zs : List Int} (k0 : 0 ≤ k) (k1 : k < 256) (f0 : 0 ≤ f) (f1 : f < 256) (hz : Byt zs) : Byt (encC k f zs) := by
  unfold encC
  refine (((?_ : Byt [k, f]).append (enc_byt _ _)).append hz).append (Byt.rep (by omega) (by omega) _)
  intro z h
  simp at h
  omega

theorem enc2 (x : Int) : enc x 2 = [x / 256 % 256, x % 256] := by simp [enc]
theorem num2 (x y : Int) : num [x, y] = 256 * x + y := by simp [num]
theorem two_of {ys : List Int} (h : ys.length = 2) : ∃ x y, ys = [x, y] := by
  match ys, h with
  | [x, y], _ => exact ⟨x, y, rfl⟩
theorem four_of {zs : List Int} (h : 4 ≤ zs.length) : ∃ k f x y r, zs = k :: f :: x :: y :: r := by
  match zs, h with
  | k :: f :: x :: y :: r, _ => exact ⟨k, f, x, y, r, rfl⟩
/-- What the third and the fourth byte say. -/
def lenOf (zs : List Int) : Int := num ((zs.drop 2).take 2)
theorem lenOf_in {zs : List Int} (h : Byt zs) : 0 ≤ lenOf zs ∧ lenOf zs < 65536 := by
  have h1 := num_lo _ ((h.drop 2).take 2)
  have h2 := num_hi _ ((h.drop 2).take 2)
  have h3 : (256 : Int) ^ ((zs.drop 2).take 2).length ≤ 65536 := by
    have hl : ((zs.drop 2).take 2).length ≤ 2 := by simp; omega
    generalize ((zs.drop 2).take 2).length = l at *
    match l, hl with
    | 0, _ | 1, _ | 2, _ => decide
  exact ⟨h1, by unfold lenOf; omega⟩

/-- Are all of these 0? -/
def zeroB (zs : List Int) : Bool := zs.all (· == 0)
theorem zeroB_iff (zs : List Int) : zeroB zs = true ↔ zs = List.replicate zs.length 0 := by
  unfold zeroB
  induction zs with
  | nil => simp
  | cons z zs ih =>
    rw [List.all_cons, Bool.and_eq_true, ih, List.length_cons, List.replicate_succ, List.cons.injEq]
    simp
theorem zeroB_take {zs : List Int} {k : Nat} (hk : k < zs.length) (h : zeroB (zs.take k) = true) (x : zs[k]?.getD 0 = 0) : zeroB (zs.take (k + 1)) = true := by
  unfold zeroB at *
  rw [List.take_succ_eq_append_getElem hk, List.all_append, h]
  simp [hk] at x
  simp [x]
theorem zeroB_not {zs : List Int} {k : Nat} (hk : k < zs.length) (x : zs[k]?.getD 0 ≠ 0) : zeroB zs = false := by
  unfold zeroB
  rw [List.all_eq_false]
  simp [hk] at x
  exact ⟨zs[k], List.getElem_mem hk, by simpa using x⟩

/-- The chunk with which bytes begin, in parts. -/
theorem pre_parts {k f : Int} {body zs : List Int} (h : encC k f body <+: zs) (hl : body.length ≤ 65531) :
    4 ≤ zs.length ∧ lenOf zs = 4 + (body.length : Int) ∧ up4 (4 + body.length) ≤ zs.length ∧ zs[0]?.getD 0 = k ∧ zs[1]?.getD 0 = f ∧ (zs.drop 4).take body.length = body ∧
      (zs.drop (4 + body.length)).take (up4 (4 + body.length) - (4 + body.length)) = List.replicate (up4 (4 + body.length) - (4 + body.length)) 0 := by
  obtain ⟨rest, rfl⟩ := h
  have h1 := encC_len k f body
  have h2 := up4_ge (4 + body.length)
  unfold encC lenOf at *
  rw [enc2] at *
  simp only [List.cons_append, List.nil_append, List.append_assoc] at *
  refine ⟨by simp, ?_, by simp; omega, rfl, rfl, by simp, ?_⟩
  · rw [show (k :: f :: ((4 + (body.length : Int)) / 256 % 256) :: ((4 + (body.length : Int)) % 256) :: (body ++ (List.replicate (up4 (4 + body.length) - (4 + body.length)) 0 ++ rest))).drop 2 = ((4 + (body.length : Int)) / 256 % 256) :: ((4 + (body.length : Int)) % 256) :: (body ++ (List.replicate (up4 (4 + body.length) - (4 + body.length)) 0 ++ rest)) from rfl]
    rw [show ∀ (x y : Int) l, (x :: y :: l).take 2 = [x, y] from fun _ _ _ => rfl, num2]
    omega
  · rw [← List.drop_drop]
    rw [show (k :: f :: ((4 + (body.length : Int)) / 256 % 256) :: ((4 + (body.length : Int)) % 256) :: (body ++ (List.replicate (up4 (4 + body.length) - (4 + body.length)) 0 ++ rest))).drop 4 = body ++ (List.replicate (up4 (4 + body.length) - (4 + body.length)) 0 ++ rest) from rfl]
    rw [List.drop_left, List.take_append_of_le_length (by simp), List.take_of_length_le (by simp)]
theorem pre_mk {zs : List Int} (hb : Byt zs) (m : Nat) (h4 : 4 ≤ zs.length) (hL : lenOf zs = 4 + (m : Int)) (hup : up4 (4 + m) ≤ zs.length) (hp : zeroB ((zs.drop (4 + m)).take (up4 (4 + m) - (4 + m))) = true) :
    encC (zs[0]?.getD 0) (zs[1]?.getD 0) ((zs.drop 4).take m) <+: zs := by
  obtain ⟨k, f, x, y, r, rfl⟩ := four_of h4
  have h2 := up4_ge (4 + m)
  have hx := hb x (by simp)
  have hy := hb y (by simp)
  unfold lenOf at hL
  rw [show ((k :: f :: x :: y :: r).drop 2).take 2 = [x, y] from rfl, num2] at hL
  have hrl : (k :: f :: x :: y :: r).length = r.length + 4 := rfl
  have hml : (r.take m).length = m := by simp; omega
  rw [← List.drop_drop, show (k :: f :: x :: y :: r).drop 4 = r from rfl] at hp
  rw [show (k :: f :: x :: y :: r).drop 4 = r from rfl]
  rw [zeroB_iff] at hp
  have hpl : ((r.drop m).take (up4 (4 + m) - (4 + m))).length = up4 (4 + m) - (4 + m) := by simp; omega
  rw [hpl] at hp
  refine ⟨(r.drop m).drop (up4 (4 + m) - (4 + m)), ?_⟩
  unfold encC
  rw [hml, enc2, ← hp, ← hL]
  simp only [List.cons_append, List.nil_append, List.append_assoc]
  rw [show (256 * x + y) / 256 % 256 = x by omega, show (256 * x + y) % 256 = y by omega, List.take_append_drop, List.take_append_drop]
  rfl
end Go.Proofs.Ytnndlpbbllmpjaa

/-
  Contracts of package chunk's isZero and of Read's closure.
-/
namespace Go.Proofs.Ytnndlpbbllmpjaa
open Go.RowKit
set_option linter.unusedVariables false

set_option maxHeartbeats 800000 in
theorem isZero_any (a : Option Addr) (n c : Nat) (zs : List Int) (w : World) (hr : Reads w a n zs) (hb : Byt zs) (hn : n ≤ 140737488355328) :
    Calls Try.prog 66 #[.slice a n c] w fun e w' => e = .returned (.bool (zeroB zs)) ∧ w = w' := by
  have hl := hr.1
  have HR := Lib.hid hr
  have HL := Lib.hid hl
  clear hr hl
  go_enter Try.func66, Try.ntmps66
  go_wp2
  go_loop [7] (fun i => ∃ k : Nat, k ≤ n ∧ i = .int .i64 k ∧ zeroB (zs.take k) = true) (fun i => n - (intOf i).toNat)
  case atStart => exact ⟨0, Nat.zero_le _, rfl, rfl⟩
  case round =>
    obtain ⟨k, hk, rfl, hz⟩ := hrel
    by_cases hlt : k < n
    · obtain ⟨b, off, rfl⟩ := HR.out.some_of (by omega)
      have hc : w.cell? ⟨b, off + k, none⟩ = some (.int .u8 (zs[k]?.getD 0)) := by
        rcases HR.out.2 with h | ⟨b', off', e, _, h⟩
        · omega
        · cases e; exact h k hlt
      by_cases h0 : zs[k]?.getD 0 = 0
      · have HZ := Lib.hid (zeroB_take (by rw [HL.out]; exact hlt) hz h0)
        rw [h0] at hc
        clear hz h0
        go_wp2
        go_round
        case rel => exact ⟨k + 1, by omega, by go_num, HZ.out⟩
        case measure => simp [intOf]; omega
      · have HZ := Lib.hid (zeroB_not (by rw [HL.out]; exact hlt) h0)
        have hne : (zs[k]?.getD 0 == 0) = false := by simpa using h0
        generalize zs[k]?.getD 0 = x at *
        clear hz
        go_wp2
        go_ret
        exact ⟨by rw [HZ.out]; rfl, rfl⟩
    · have HZ := Lib.hid hz
      clear hz
      go_wp2
      go_ret
      refine ⟨?_, rfl⟩
      obtain rfl : k = n := by omega
      have h := HZ.out
      rw [List.take_of_length_le (by rw [HL.out]; exact Nat.le_refl _)] at h
      rw [h]; rfl

/-- The closure, where there are as many bytes. -/
theorem take_yes (gb ga : Nat) (a : Option Addr) (n c i m : Nat) (zs : List Int) (w : World) (hb : Arr w gb 29 [.slice a n c]) (ha : Arr w ga 3 [.int .i64 i]) (hr : Reads w a n zs) (hc : n ≤ c) (hn : n ≤ 140737488355328) (hi : i + m ≤ n) :
    Calls Try.prog 64 #[.int .i64 (m : Int), .pointer (some ⟨gb, 0, none⟩), .pointer (some ⟨ga, 0, none⟩)] w fun e w' =>
      e = .returned (.tuple #[.slice (some ⟨w.heap.size, 0, none⟩) m m, .bool true]) ∧ Blk w' w.heap.size ((zs.drop i).take m) ∧ Arr w' ga 3 [.int .i64 ((i + m : Nat) : Int)] ∧ Turn [ga] w w' := by
  have cb := hb.cell (i := 0) rfl
  have ca := ha.cell (i := 0) rfl
  have hcut := cut_yes a n c i m zs w hr hc hn hi
  have hal := ha.lt
  have HC := Lib.hid hcut
  have HA := Lib.hid ha
  clear hb ha hr hcut
  go_enter Try.func64, Try.ntmps64
  go_wp2_with fail
  refine HC.out.mono ?_
  rintro e w1 ⟨rfl, hb1, hk1⟩
  have ha1 := HA.out.keep hb1
  have ca1 := ha1.cell (i := 0) rfl
  have fa1 := ha1.free 0
  have ha2 := ha1.set 0 (.int .i64 ((i + m : Nat) : Int))
  have hne : w.heap.size ≠ ga := by omega
  have hk2 : Blk (w1.setCell ⟨ga, 0, none⟩ (.int .i64 ((i + m : Nat) : Int))) w.heap.size ((zs.drop i).take m) := (Below.heap_setCell _ _ _ _ (by simpa using hne)).trans hk1
  have ht2 : Turn [ga] w (w1.setCell ⟨ga, 0, none⟩ (.int .i64 ((i + m : Nat) : Int))) := ((Turn.of_below hb1).mono (fun _ h => by cases h)).setCell (by simp) _
  have e2 : ((i + m : Nat) : Int) = (i : Int) + (m : Int) := by omega
  rw [e2] at ha2 hk2 ht2
  have HE := Lib.hid (And.intro hk2 (And.intro ha2 ht2))
  have E2 := Lib.hid e2
  clear hb1 hk1 ha1 ha2 hk2 ht2 e2 HC HA cb ca
  go_wp2
  go_ret2
  rw [E2.out]
  exact ⟨rfl, HE.out⟩

/-- .. where there are not. -/
theorem take_no (gb ga : Nat) (a : Option Addr) (n c i : Nat) (m : Int) (w : World) (hb : Arr w gb 29 [.slice a n c]) (ha : Arr w ga 3 [.int .i64 i]) (hn : n ≤ 140737488355328) (hin : i ≤ 9223372036854775807) (hm : m ≤ 9223372036854775807) (h : hasB n i m = false) :
    Calls Try.prog 64 #[.int .i64 m, .pointer (some ⟨gb, 0, none⟩), .pointer (some ⟨ga, 0, none⟩)] w fun e w' =>
      e = .returned (.tuple #[.slice none 0 0, .bool false]) ∧ Arr w' ga 3 [.int .i64 i] ∧ Turn [ga] w w' := by
  have cb := hb.cell (i := 0) rfl
  have ca := ha.cell (i := 0) rfl
  have hcut := cut_no a n c i m w hn hm h
  have fa := ha.free 0
  have ha2 := ha.set 0 (.int .i64 i)
  have ht2 : Turn [ga] w (w.setCell ⟨ga, 0, none⟩ (.int .i64 i)) := (Turn.refl _ _).setCell (by simp) _
  have HC := Lib.hid hcut
  have HE := Lib.hid (And.intro ha2 ht2)
  clear hb ha hcut h ha2 ht2
  go_enter Try.func64, Try.ntmps64
  go_wp2_with fail
  refine HC.out.mono ?_
  rintro e w1 ⟨rfl, rfl⟩
  go_wp2
  go_ret2
  exact ⟨rfl, HE.out⟩

/-- The piece that was taken, if there was one. -/
def cutV (b : Bool) (g m : Nat) : Value := if b then .slice (some ⟨g, 0, none⟩) m m else .slice none 0 0
def stepTo (b : Bool) (i m : Nat) : Nat := if b then i + m else i
theorem take_any (gb ga : Nat) (a : Option Addr) (n c i m : Nat) (zs : List Int) (w : World) (hb : Arr w gb 29 [.slice a n c]) (ha : Arr w ga 3 [.int .i64 i]) (hr : Reads w a n zs) (hc : n ≤ c) (hn : n ≤ 140737488355328) (hin : i ≤ n) (hm : m ≤ 140737488355328) (b : Bool) (hbb : b = decide (i + m ≤ n)) :
    Calls Try.prog 64 #[.int .i64 (m : Int), .pointer (some ⟨gb, 0, none⟩), .pointer (some ⟨ga, 0, none⟩)] w fun e w' =>
      e = .returned (.tuple #[cutV b w.heap.size m, .bool b]) ∧ (b = true → Blk w' w.heap.size ((zs.drop i).take m)) ∧ Arr w' ga 3 [.int .i64 (stepTo b i m : Nat)] ∧ Turn [ga] w w' := by
  cases b with
  | true =>
    have hi : i + m ≤ n := by simpa using hbb.symm
    exact (take_yes gb ga a n c i m zs w hb ha hr hc hn hi).mono fun e w' ⟨h1, h2, h3, h4⟩ => ⟨h1, fun _ => h2, h3, h4⟩
  | false =>
    have hi : ¬ i + m ≤ n := by simpa using hbb.symm
    exact (take_no gb ga a n c i m w hb ha hn (by omega) (by omega) (by simp [hasB]; omega)).mono fun e w' ⟨h1, h2, h3⟩ => ⟨h1, fun h => (by cases h), h2, h3⟩
end Go.Proofs.Ytnndlpbbllmpjaa

/-
  A chunk in a box of its own (a struct of three cells); a row of bytes lies elsewhere.
-/
namespace Go.Proofs.Ytnndlpbbllmpjaa
open Go.RowKit
set_option linter.unusedVariables false

theorem chunkBox (W : World) (k f : Int) (v : Value) : Arr (W.alloc (.cells #[.int .u8 k, .int .u8 f, v] 41)) W.heap.size 41 [.int .u8 k, .int .u8 f, v] := arr_new _ _ _
theorem chunkBelow (W : World) (k f : Int) (v : Value) : Below W.heap.size W (W.alloc (.cells #[.int .u8 k, .int .u8 f, v] 41)) := (Below.refl _ _).alloc (Nat.le_refl _) _

theorem box3 {w : World} {g : Nat} {T : TypeId} {a0 a1 a2 : Value} (h : Arr w g T [a0, a1, a2]) (b0 b1 b2 : Value) :
    Arr (((w.setCell ⟨g, 0, none⟩ b0).setCell ⟨g, 1, none⟩ b1).setCell ⟨g, 2, none⟩ b2) g T [b0, b1, b2] := ((h.set 0 b0).set 1 b1).set 2 b2
theorem below3 {B : Nat} {a w : World} (h : Below B a w) {g : Nat} (hg : B ≤ g) (b0 b1 b2 : Value) :
    Below B a (((w.setCell ⟨g, 0, none⟩ b0).setCell ⟨g, 1, none⟩ b1).setCell ⟨g, 2, none⟩ b2) := ((h.setCell hg _).setCell hg _).setCell hg _

theorem Blk.ne_arr {w : World} {g' : Nat} {zs : List Int} (h : Blk w g' zs) {g : Nat} {cs : List Value} (hA : Arr w g 41 cs) : g' ≠ g := by
  intro e
  subst e
  unfold Blk at h
  unfold Arr at hA
  rw [hA] at h
  simp at h

theorem Row8.ne_arr {base : Nat} {w : World} {a : Option Addr} {n c : Nat} {zs : List Int} (h : Row8 base w a n c zs) {g : Nat} {cs : List Value} (hA : Arr w g 41 cs) (p : Addr) (hp : a = some p) : p.block ≠ g := by
  obtain ⟨_, _, cs', hk⟩ := h.far p hp
  intro e
  subst e
  unfold Arr at hA
  rw [hA] at hk
  simp at hk
theorem Row8.setAt {base : Nat} {w : World} {a : Option Addr} {n c : Nat} {zs : List Int} (h : Row8 base w a n c zs) {g : Nat} {T : TypeId} {cs : List Value} (hA : Arr w g T cs) (hT : T ≠ 5) (i : Nat) (v : Value) : Row8 base (w.setCell ⟨g, i, none⟩ v) a n c zs := by
  refine h.keep_of (fun g' _ _ cs' hk => Below.heap_setCell _ _ _ _ (fun e => ?_))
  simp only at e
  subst e
  unfold Arr at hA
  rw [hA] at hk
  simp at hk
  exact hT hk.2
theorem Reads.off {w : World} {a : Option Addr} {n : Nat} {zs : List Int} (h : Reads w a n zs) {q : Addr} (u : Value) (hne : ∀ p, a = some p → p.block ≠ q.block) : Reads (w.setCell q u) a n zs := by
  refine ⟨h.1, ?_⟩
  rcases h.2 with h2 | ⟨b, off, ha, hlt, hc⟩
  · exact .inl h2
  · refine .inr ⟨b, off, ha, by simpa [World.setCell] using hlt, fun i hi => ?_⟩
    have h1 : (w.setCell q u).heap[b]? = w.heap[b]? := Below.heap_setCell _ _ _ _ (hne _ ha)
    exact (World.cell?_of_block (w := w) (a := ⟨b, off + i, none⟩) h1).trans (hc i hi)
end Go.Proofs.Ytnndlpbbllmpjaa

/-
  The contract of package chunk's Read.
-/
namespace Go.Proofs.Ytnndlpbbllmpjaa
open Go.RowKit
set_option linter.unusedVariables false

/-- What Read answers where there is no chunk. -/
def noChunk : Value := .tuple #[.agg #[.int .u8 0, .int .u8 0, .slice none 0 0], .int .i64 0, .int .i64 7]

set_option maxHeartbeats 800000 in
theorem read_no1 (a : Option Addr) (n c : Nat) (w : World) (hn : n < 4) :
    Calls Try.prog 57 #[.slice a n c] w fun e w' => e = .returned noChunk ∧ Below w.heap.size w w' := by
  obtain ⟨wA, hwA⟩ : ∃ wA, w.alloc (.cells #[.slice a n c] 29) = wA := ⟨_, rfl⟩
  have hbA : Below w.heap.size w wA := by rw [← hwA]; exact (Below.refl _ _).alloc (Nat.le_refl _) _
  have hsA : wA.heap.size = w.heap.size + 1 := by rw [← hwA]; simp
  have haA : Arr wA w.heap.size 29 [.slice a n c] := by rw [← hwA]; exact arr_new _ _ _
  obtain ⟨wB, hwB⟩ : ∃ wB, wA.alloc (.cells #[.int .u8 0, .int .u8 0, .slice none 0 0] 41) = wB := ⟨_, rfl⟩
  have hbB : Below wA.heap.size wA wB := by rw [← hwB]; exact (Below.refl _ _).alloc (Nat.le_refl _) _
  have hsB : wB.heap.size = wA.heap.size + 1 := by rw [← hwB]; simp
  have hcB : Arr wB (w.heap.size + 1) 41 [.int .u8 0, .int .u8 0, .slice none 0 0] := by rw [← hwB, ← hsA]; exact arr_new _ _ _
  have caB := (haA.keep hbB).cell (i := 0) rfl
  have hget := get_no a n c 2 2 wB (by omega) (by omega) (by unfold sizB hasB; simp; omega)
  have HG := Lib.hid hget
  clear haA hget hn
  go_enter Try.func57, Try.ntmps57
  go_wp2_with fail
  refine HG.out.mono ?_
  rintro e w1 ⟨rfl, rfl⟩
  have f0 := hcB.free 0
  have f1 := hcB.free 1
  have f2 := hcB.free 2
  have c0 := hcB.cell (i := 0) rfl
  have c1 := hcB.cell (i := 1) rfl
  have c2 := hcB.cell (i := 2) rfl
  have hend := box3 hcB (.int .u8 0) (.int .u8 0) (.slice none 0 0)
  have hbl := below3 (hbA.trans (hbB.mono hbA.size)) (by omega) (.int .u8 0) (.int .u8 0) (.slice none 0 0) (g := w.heap.size + 1)
  have HE := Lib.hid (And.intro hend hbl)
  clear hend hbl hbA hbB hcB hsB hsA caB HG
  go_wp2_with fail
  have d0 := HE.out.1.cell (i := 0) rfl
  have d1 := HE.out.1.cell (i := 1) rfl
  have d2 := HE.out.1.cell (i := 2) rfl
  have hbl := HE.out.2
  clear HE c0 c1 c2 f0 f1 f2 hwA hwB
  generalize ((wB.setCell _ _).setCell _ _).setCell _ _ = W at *
  exact bodyPost_ret (by simp [results, Try.results57, go_sem, d0, d1, d2]; rfl) rfl ⟨rfl, hbl⟩
end Go.Proofs.Ytnndlpbbllmpjaa

/-
  The contract of package chunk's Read, where there are four bytes.
-/
namespace Go.Proofs.Ytnndlpbbllmpjaa
open Go.RowKit
set_option linter.unusedVariables false

theorem read_no2 (a : Option Addr) (n c : Nat) (zs : List Int) (w : World) (hr : Reads w a n zs) (hb : Byt zs) (hn4 : 4 ≤ n) (hn : n ≤ 140737488355328) (hL : lenOf zs < 4) :
    Calls Try.prog 57 #[.slice a n c] w fun e w' => e = .returned noChunk ∧ Below w.heap.size w w' := by
  obtain ⟨wA, hwA⟩ : ∃ wA, w.alloc (.cells #[.slice a n c] 29) = wA := ⟨_, rfl⟩
  have hbA : Below w.heap.size w wA := by rw [← hwA]; exact (Below.refl _ _).alloc (Nat.le_refl _) _
  have hsA : wA.heap.size = w.heap.size + 1 := by rw [← hwA]; simp
  have haA : Arr wA w.heap.size 29 [.slice a n c] := by rw [← hwA]; exact arr_new _ _ _
  obtain ⟨wB, hwB⟩ : ∃ wB, wA.alloc (.cells #[.int .u8 0, .int .u8 0, .slice none 0 0] 41) = wB := ⟨_, rfl⟩
  have hbB : Below wA.heap.size wA wB := by rw [← hwB]; exact (Below.refl _ _).alloc (Nat.le_refl _) _
  have hsB : wB.heap.size = wA.heap.size + 1 := by rw [← hwB]; simp
  have hcB : Arr wB (w.heap.size + 1) 41 [.int .u8 0, .int .u8 0, .slice none 0 0] := by rw [← hwB, ← hsA]; exact arr_new _ _ _
  have caB := (haA.keep hbB).cell (i := 0) rfl
  have hget := get_yes a n c 2 2 zs wB ((hr.below hbA).below hbB) hb hn rfl (by omega)
  rw [show num ((zs.drop 2).take 2) = lenOf zs from rfl] at hget
  obtain ⟨l0, l1⟩ := lenOf_in hb
  generalize lenOf zs = L at *
  have HG := Lib.hid hget
  clear haA hget hr hb
  go_enter Try.func57, Try.ntmps57
  go_wp2_with fail
  refine HG.out.mono ?_
  rintro e w1 ⟨rfl, rfl⟩
  have f0 := hcB.free 0
  have f1 := hcB.free 1
  have f2 := hcB.free 2
  have c0 := hcB.cell (i := 0) rfl
  have c1 := hcB.cell (i := 1) rfl
  have c2 := hcB.cell (i := 2) rfl
  have hend := box3 hcB (.int .u8 0) (.int .u8 0) (.slice none 0 0)
  have hbl := below3 (hbA.trans (hbB.mono hbA.size)) (by omega) (.int .u8 0) (.int .u8 0) (.slice none 0 0) (g := w.heap.size + 1)
  have HE := Lib.hid (And.intro hend hbl)
  clear hend hbl hbA hbB hcB hsB hsA caB HG
  go_wp2_with fail
  have d0 := HE.out.1.cell (i := 0) rfl
  have d1 := HE.out.1.cell (i := 1) rfl
  have d2 := HE.out.1.cell (i := 2) rfl
  have hbl := HE.out.2
  clear HE c0 c1 c2 f0 f1 f2 hwA hwB
  generalize ((wB.setCell _ _).setCell _ _).setCell _ _ = W at *
  exact bodyPost_ret (by simp [results, Try.results57, go_sem, d0, d1, d2]; rfl) rfl ⟨rfl, hbl⟩
end Go.Proofs.Ytnndlpbbllmpjaa

/-
  The contract of package chunk's Read, where the length is one.
-/
namespace Go.Proofs.Ytnndlpbbllmpjaa
open Go.RowKit
set_option linter.unusedVariables false

/-- What lies while Read reads: the bytes' box, the result's, the place. -/
structure RSt (w : World) (gb gc ga : Nat) (a : Option Addr) (n c i : Nat) (W : World) : Prop where
  b : Below w.heap.size w W
  eb : Arr W gb 29 [.slice a n c]
  ec : Arr W gc 41 [.int .u8 0, .int .u8 0, .slice none 0 0]
  ea : Arr W ga 3 [.int .i64 i]
  la : w.heap.size ≤ ga
  lc : w.heap.size ≤ gc
  nb : gb ≠ ga
  nc : gc ≠ ga
theorem RSt.turn {w W W' : World} {gb gc ga : Nat} {a : Option Addr} {n c i i' : Nat} (h : RSt w gb gc ga a n c i W) (ht : Turn [ga] W W') (ha : Arr W' ga 3 [.int .i64 i']) : RSt w gb gc ga a n c i' W' :=
  ⟨h.b.trans (ht.below h.b.size (fun k hk => by simp at hk; subst hk; exact h.la)), (ht.block _ h.eb.lt (by simp; exact h.nb)).trans h.eb, (ht.block _ h.ec.lt (by simp; exact h.nc)).trans h.ec, ha, h.la, h.lc, h.nb, h.nc⟩
theorem RSt.drew {w W : World} {gb gc ga : Nat} {a : Option Addr} {n c i : Nat} (h : RSt w gb gc ga a n c i W) : RSt w gb gc ga a n c i W.drew := ⟨h.b.drew, h.eb, h.ec, h.ea, h.la, h.lc, h.nb, h.nc⟩

/-- What Read answers of these bytes. -/
def ReadOk (zs : List Int) (w w' : World) (e : Ending) : Prop :=
  (∃ (k f : Int) (body : List Int) (g : Nat), body.length ≤ 65531 ∧ encC k f body <+: zs ∧ e = .returned (.tuple #[.agg #[.int .u8 k, .int .u8 f, .slice (some ⟨g, 0, none⟩) body.length body.length], .int .i64 (up4 (4 + body.length) : Nat), .int .i64 0]) ∧ w.heap.size ≤ g ∧ Blk w' g body) ∨
  (∀ (k f : Int) (body : List Int), body.length ≤ 65531 → ¬ encC k f body <+: zs) ∧ e = .returned noChunk

set_option maxRecDepth 100000 in
set_option maxHeartbeats 1600000 in
theorem read_main (a : Option Addr) (n c m : Nat) (zs : List Int) (w : World) (hr : Reads w a n zs) (hb : Byt zs) (hc : n ≤ c) (hn4 : 4 ≤ n) (hn : n ≤ 140737488355328) (hL : lenOf zs = 4 + (m : Int)) :
    Calls Try.prog 57 #[.slice a n c] w fun e w' => ReadOk zs w w' e ∧ Below w.heap.size w w' := by
  obtain ⟨wA, hwA⟩ : ∃ wA, w.alloc (.cells #[.slice a n c] 29) = wA := ⟨_, rfl⟩
  have hbA : Below w.heap.size w wA := by rw [← hwA]; exact (Below.refl _ _).alloc (Nat.le_refl _) _
  have hsA : wA.heap.size = w.heap.size + 1 := by rw [← hwA]; simp
  have haA : Arr wA w.heap.size 29 [.slice a n c] := by rw [← hwA]; exact arr_new _ _ _
  obtain ⟨wB, hwB⟩ : ∃ wB, wA.alloc (.cells #[.int .u8 0, .int .u8 0, .slice none 0 0] 41) = wB := ⟨_, rfl⟩
  have hbB : Below wA.heap.size wA wB := by rw [← hwB]; exact (Below.refl _ _).alloc (Nat.le_refl _) _
  have hsB : wB.heap.size = wA.heap.size + 1 := by rw [← hwB]; simp
  have hcB : Arr wB wA.heap.size 41 [.int .u8 0, .int .u8 0, .slice none 0 0] := by rw [← hwB]; exact arr_new _ _ _
  have caB := (haA.keep hbB).cell (i := 0) rfl
  obtain ⟨wC, hwC⟩ : ∃ wC, wB.alloc (.cells #[.int .i64 4] 3) = wC := ⟨_, rfl⟩
  have hbC : Below wB.heap.size wB wC := by rw [← hwC]; exact (Below.refl _ _).alloc (Nat.le_refl _) _
  have haC : Arr wC wB.heap.size 3 [.int .i64 (4 : Nat)] := by rw [← hwC]; exact arr_new _ _ _
  have hget := get_yes a n c 2 2 zs wB ((hr.below hbA).below hbB) hb hn rfl (by omega)
  rw [show num ((zs.drop 2).take 2) = lenOf zs from rfl] at hget
  obtain ⟨l1, l2⟩ := lenOf_in hb
  have l0 : ¬ lenOf zs < 4 := by omega
  have hst : RSt w w.heap.size wA.heap.size wB.heap.size a n c 4 wC :=
    ⟨hbA.trans ((hbB.trans (hbC.mono hbB.size)).mono hbA.size), ((haA.keep hbB).keep hbC), hcB.keep hbC, haC, by omega, by omega, by omega, by omega⟩
  have HG := Lib.hid hget
  have hmf : ∀ (fn : Fn) (first cap : Array Value) (w : World), (Instr.makeFunc fn first cap).run Try.prog w = .ok (.func fn first cap) w := fun _ _ _ _ => rfl
  clear hget
  generalize hLz : lenOf zs = L at *
  have HR := Lib.hid (And.intro hr hb)
  have HL := Lib.hid (show L - 4 = (m : Int) by omega)
  have HLz := Lib.hid (hLz.trans hL)
  have hm : m ≤ 65531 := by omega
  have HS0 := Lib.hid hst
  have HGC := Lib.hid (show wA.heap.size < wC.heap.size ∧ w.heap.size ≤ wC.heap.size from ⟨by have := hst.ec.lt; omega, hst.b.size⟩)
  clear hr hb hL hLz hbA hbB hsA hsB haA hcB hbC haC hst
  go_enter Try.func57, Try.ntmps57
  go_wp2_with fail
  refine HG.out.mono ?_
  rintro e w1 ⟨rfl, rfl⟩
  go_wp2_with fail
  rw [HL.out]
  clear hwA hwB
  generalize hgc : wA.heap.size = gc at *
  generalize hga : wB.heap.size = ga at *
  obtain ⟨b1, hb1⟩ : ∃ b1, b1 = decide (4 + m ≤ n) := ⟨_, rfl⟩
  obtain ⟨V1, hV1⟩ : ∃ V1, V1 = cutV b1 wC.heap.size m := ⟨_, rfl⟩
  have htk := take_any w.heap.size ga a n c 4 m zs wC HS0.out.eb HS0.out.ea (HR.out.1.below HS0.out.b) hc hn hn4 (by omega) b1 hb1
  rw [← hV1] at htk
  refine htk.mono ?_
  rintro e w2 ⟨rfl, hk1, ha2, ht2⟩
  have hst2 := HS0.out.turn ht2 ha2
  obtain ⟨i1, hi1⟩ : ∃ i1, i1 = stepTo b1 4 m := ⟨_, rfl⟩
  rw [← hi1] at hst2
  have i1n : i1 ≤ n := by
    rw [hi1]; unfold stepTo; split
    · rename_i h; rw [h] at hb1; simpa using hb1.symm
    · exact hn4
  have g1 := up4_ge i1
  have g2 := up4_le i1
  obtain ⟨b2, hb2⟩ : ∃ b2, b2 = decide (i1 + (up4 i1 - i1) ≤ n) := ⟨_, rfl⟩
  obtain ⟨V2, hV2⟩ : ∃ V2, V2 = cutV b2 w2.heap.size (up4 i1 - i1) := ⟨_, rfl⟩
  have htk2 := take_any w.heap.size ga a n c i1 (up4 i1 - i1) zs w2.drew hst2.drew.eb hst2.drew.ea (HR.out.1.below hst2.drew.b) hc hn i1n (by omega) b2 hb2
  obtain ⟨F, hF⟩ : ∃ F, F = Value.func (Fn.func 64) #[] #[Value.pointer (some ⟨w.heap.size, 0, none⟩), Value.pointer (some ⟨ga, 0, none⟩)] := ⟨_, rfl⟩
  have hpost : ∀ w', Arr w' ga 3 [.int .i64 (stepTo b2 i1 (up4 i1 - i1) : Nat)] → Turn [ga] w2.drew w' → (b2 = true → Blk w' w2.drew.heap.size ((zs.drop i1).take (up4 i1 - i1))) →
      (RSt w w.heap.size gc ga a n c (stepTo b2 i1 (up4 i1 - i1)) w' ∧ (b1 = true → Blk w' wC.heap.size ((zs.drop 4).take m)) ∧ (b2 = true → Blk w' w2.heap.size ((zs.drop i1).take (up4 i1 - i1)))) := by
    intro w' h1 h2 h3
    refine ⟨hst2.drew.turn h2 h1, fun h => ?_, h3⟩
    have hne : wC.heap.size ≠ ga := by have := HS0.out.ea.lt; omega
    exact (h2.block _ (hk1 h).lt (by simpa using hne)).trans (hk1 h)
  have HS := Lib.hid hst2
  have HTK := Lib.hid htk2
  have HPOST := Lib.hid hpost
  have HV := Lib.hid hV2
  have HF := Lib.hid hF
  have HP := Lib.hid (show ((up4 i1 : Nat) : Int) - ((i1 : Nat) : Int) = ((up4 i1 - i1 : Nat) : Int) by omega)
  have HB := Lib.hid (And.intro hi1 (And.intro hb1 (And.intro hb2 hV1)))
  clear hst2 htk2 hpost hV2 hi1 hb1 hb2 hV1 htk hk1 ha2 ht2 caB
  rw [← hF]
  clear hF
  go_wp2_with fail
  refine wp_region_any (by kernel_rfl) ?_
  refine Vals.wpAny_goodW (fun i v _ => match i with | 0 => v = F | 1 => v = .int .i64 (i1 : Nat) | 2 => v = .int .i64 (up4 i1 : Nat) | 3 => v = .int .i64 (i1 : Nat) | 4 => v = .int .i64 ((up4 i1 - i1 : Nat) : Int) | 5 => v = .tuple #[V2, .bool b2] | 6 => v = .tuple #[V2, .bool b2] | 7 => v = V2 | 8 => v = .bool b2 | 9 => v = V2 | 10 => v = .bool b2 | _ => True) (fun l W => Vals.JR 5 (w2.drew = W) (RSt w w.heap.size gc ga a n c (stepTo b2 i1 (up4 i1 - i1)) W ∧ (b1 = true → Blk W wC.heap.size ((zs.drop 4).take m)) ∧ (b2 = true → Blk W w2.heap.size ((zs.drop i1).take (up4 i1 - i1)))) l) [some 34, some 35, some 36, some 37, some 38, some 39, some 33, some 40, some 41, some 10, some 11] 63 _ _ rfl (by kernel_rfl) (by kernel_rfl) (by decide) ?step ?fin ?h0
  case h0 => exact ⟨fun _ => rfl, fun h => by simp at h⟩
  case step =>
    intro i o d ho hd listed a W hls hun hcl hJ hdf hdep hfr K hK
    match i, ho, hd with
    | 0, ho, hd =>
      have ho' := ho
      simp only [List.getElem?_toArray, List.getElem?_cons_zero, Option.some.injEq] at ho hd
      subst ho hd
      have r7 : a.eval (.tmp 7) = F := hfr 7 (by decide)
      rw [Vals.eval_tmp] at r7
      refine Vals.wpOp_run ho' rfl ?_
      clear hdep hfr ho' hdf hcl
      go_simp
      exact hK _ _ (fun _ _ h => h) (Vals.jkeep hJ (by omega)) (fun _ => rfl)
    | 1, ho, hd =>
      have ho' := ho
      simp only [List.getElem?_toArray, List.getElem?_cons_zero, List.getElem?_cons_succ, Option.some.injEq] at ho hd
      subst ho hd
      have r6 : a.eval (.tmp 6) = .pointer (some ⟨ga, 0, none⟩) := hfr 6 (by decide)
      rw [Vals.eval_tmp] at r6
      obtain rfl := Vals.jpre hJ hun (fun h => hcl 2 _ rfl (hcl 4 _ rfl (hcl 5 _ rfl h ⟨4, .data⟩ (by simp) rfl) ⟨2, .data⟩ (by simp) rfl) ⟨1, .data⟩ (by simp) rfl)
      have ca := HS.out.ea.cell (i := 0) rfl
      have hca : w2.drew.cell? ⟨ga, 0, none⟩ = some (.int .i64 (i1 : Nat)) := ca
      refine Vals.wpOp_run ho' rfl ?_
      clear hdep hfr ho' hdf hcl
      go_simp
      exact hK _ _ (fun _ _ h => h) (Vals.jkeep hJ (by omega)) (fun _ => rfl)
    | 2, ho, hd =>
      have ho' := ho
      simp only [List.getElem?_toArray, List.getElem?_cons_zero, List.getElem?_cons_succ, Option.some.injEq] at ho hd
      subst ho hd
      have r35 : a.eval (.tmp 35) = .int .i64 (i1 : Nat) := (hdep ⟨1, .data⟩ (by simp) rfl).2 35 rfl
      rw [Vals.eval_tmp] at r35
      refine Vals.wpOp_run ho' rfl ?_
      clear hdep hfr ho' hdf hcl
      go_simp
      refine (round_nat i1 W (by omega)).mono ?_
      rintro e w' ⟨rfl, rfl⟩
      exact hK _ _ (fun _ _ h => h) (Vals.jkeep hJ (by omega)) (fun _ => rfl)
    | 3, ho, hd =>
      have ho' := ho
      simp only [List.getElem?_toArray, List.getElem?_cons_zero, List.getElem?_cons_succ, Option.some.injEq] at ho hd
      subst ho hd
      have r6 : a.eval (.tmp 6) = .pointer (some ⟨ga, 0, none⟩) := hfr 6 (by decide)
      rw [Vals.eval_tmp] at r6
      obtain rfl := Vals.jpre hJ hun (fun h => hcl 4 _ rfl (hcl 5 _ rfl h ⟨4, .data⟩ (by simp) rfl) ⟨3, .data⟩ (by simp) rfl)
      have ca := HS.out.ea.cell (i := 0) rfl
      have hca : w2.drew.cell? ⟨ga, 0, none⟩ = some (.int .i64 (i1 : Nat)) := ca
      refine Vals.wpOp_run ho' rfl ?_
      clear hdep hfr ho' hdf hcl
      go_simp
      exact hK _ _ (fun _ _ h => h) (Vals.jkeep hJ (by omega)) (fun _ => rfl)
    | 4, ho, hd =>
      have ho' := ho
      simp only [List.getElem?_toArray, List.getElem?_cons_zero, List.getElem?_cons_succ, Option.some.injEq] at ho hd
      subst ho hd
      have r36 : a.eval (.tmp 36) = .int .i64 (up4 i1 : Nat) := (hdep ⟨2, .data⟩ (by simp) rfl).2 36 rfl
      rw [Vals.eval_tmp] at r36
      have r37 : a.eval (.tmp 37) = .int .i64 (i1 : Nat) := (hdep ⟨3, .data⟩ (by simp) rfl).2 37 rfl
      rw [Vals.eval_tmp] at r37
      have hw : IntKind.i64.wrap ((up4 i1 : Nat) - (i1 : Nat)) = ((up4 i1 - i1 : Nat) : Int) := by rw [IntKind.wrap_i64]; omega
      refine Vals.wpOp_run ho' rfl ?_
      clear hdep hfr ho' hdf hcl
      go_simp
      exact hK _ _ (fun _ _ h => h) (Vals.jkeep hJ (by omega)) (fun _ => rfl)
    | 5, ho, hd =>
      have ho' := ho
      simp only [List.getElem?_toArray, List.getElem?_cons_zero, List.getElem?_cons_succ, Option.some.injEq] at ho hd
      subst ho hd
      have r34 : a.eval (.tmp 34) = F := (hdep ⟨0, .data⟩ (by simp) rfl).2 34 rfl
      rw [Vals.eval_tmp] at r34
      have r38 : a.eval (.tmp 38) = .int .i64 ((up4 i1 - i1 : Nat) : Int) := (hdep ⟨4, .data⟩ (by simp) rfl).2 38 rfl
      rw [Vals.eval_tmp] at r38
      obtain rfl := Vals.jpre hJ hun (fun h => h)
      rw [HF.out] at r34
      refine Vals.wpOp_run ho' rfl ?_
      clear hdep hfr ho' hdf hcl
      go_simp
      refine HTK.out.mono ?_
      rintro e w' ⟨rfl, hk, ha, ht⟩
      rw [show w2.drew.heap.size = w2.heap.size from rfl, ← HV.out]
      exact hK _ _ (fun _ _ h => h) (Vals.jset (by rw [hls]; decide) (HPOST.out w' ha ht hk)) (fun _ => rfl)
    | 6, ho, hd =>
      have ho' := ho
      simp only [List.getElem?_toArray, List.getElem?_cons_zero, List.getElem?_cons_succ, Option.some.injEq] at ho hd
      subst ho hd
      have r39 : a.eval (.tmp 39) = .tuple #[V2, .bool b2] := (hdep ⟨5, .data⟩ (by simp) rfl).2 39 rfl
      rw [Vals.eval_tmp] at r39
      refine Vals.wpOp_run ho' rfl ?_
      clear hdep hfr ho' hdf hcl
      go_simp
      exact hK _ _ (fun _ _ h => h) (Vals.jkeep hJ (by omega)) (fun _ => rfl)
    | 7, ho, hd =>
      have ho' := ho
      simp only [List.getElem?_toArray, List.getElem?_cons_zero, List.getElem?_cons_succ, Option.some.injEq] at ho hd
      subst ho hd
      have r33 : a.eval (.tmp 33) = .tuple #[V2, .bool b2] := (hdep ⟨6, .data⟩ (by simp) rfl).2 33 rfl
      rw [Vals.eval_tmp] at r33
      refine Vals.wpOp_run ho' rfl ?_
      clear hdep hfr ho' hdf hcl
      go_simp
      exact hK _ _ (fun _ _ h => h) (Vals.jkeep hJ (by omega)) (fun _ => rfl)
    | 8, ho, hd =>
      have ho' := ho
      simp only [List.getElem?_toArray, List.getElem?_cons_zero, List.getElem?_cons_succ, Option.some.injEq] at ho hd
      subst ho hd
      have r33 : a.eval (.tmp 33) = .tuple #[V2, .bool b2] := (hdep ⟨6, .data⟩ (by simp) rfl).2 33 rfl
      rw [Vals.eval_tmp] at r33
      refine Vals.wpOp_run ho' rfl ?_
      clear hdep hfr ho' hdf hcl
      go_simp
      exact hK _ _ (fun _ _ h => h) (Vals.jkeep hJ (by omega)) (fun _ => rfl)
    | 9, ho, hd =>
      have ho' := ho
      simp only [List.getElem?_toArray, List.getElem?_cons_zero, List.getElem?_cons_succ, Option.some.injEq] at ho hd
      subst ho hd
      have r40 : a.eval (.tmp 40) = V2 := (hdep ⟨7, .data⟩ (by simp) rfl).2 40 rfl
      rw [Vals.eval_tmp] at r40
      refine Vals.wpOp_run ho' rfl ?_
      clear hdep hfr ho' hdf hcl
      go_simp
      exact hK _ _ (fun _ _ h => h) (Vals.jkeep hJ (by omega)) (fun _ => rfl)
    | 10, ho, hd =>
      have ho' := ho
      simp only [List.getElem?_toArray, List.getElem?_cons_zero, List.getElem?_cons_succ, Option.some.injEq] at ho hd
      subst ho hd
      have r41 : a.eval (.tmp 41) = .bool b2 := (hdep ⟨8, .data⟩ (by simp) rfl).2 41 rfl
      rw [Vals.eval_tmp] at r41
      refine Vals.wpOp_run ho' rfl ?_
      clear hdep hfr ho' hdf hcl
      go_simp
      exact hK _ _ (fun _ _ h => h) (Vals.jkeep hJ (by omega)) (fun _ => rfl)
    | i + 11, ho, hd => simp at ho
  case fin =>
    intro listed W f hall hJ hG
    have q0 : f 34 = F := hG 0 34 rfl
    have q1 : f 35 = .int .i64 (i1 : Nat) := hG 1 35 rfl
    have q2 : f 36 = .int .i64 (up4 i1 : Nat) := hG 2 36 rfl
    have q3 : f 37 = .int .i64 (i1 : Nat) := hG 3 37 rfl
    have q4 : f 38 = .int .i64 ((up4 i1 - i1 : Nat) : Int) := hG 4 38 rfl
    have q5 : f 39 = .tuple #[V2, .bool b2] := hG 5 39 rfl
    have q6 : f 33 = .tuple #[V2, .bool b2] := hG 6 33 rfl
    have q7 : f 40 = V2 := hG 7 40 rfl
    have q8 : f 41 = .bool b2 := hG 8 41 rfl
    have q9 : f 10 = V2 := hG 9 10 rfl
    have q10 : f 11 = .bool b2 := hG 10 11 rfl
    obtain ⟨hst3, hk1, hk2⟩ := hJ.2 (hall 5 (by decide))
    clear hall hJ hG
    simp only [Vals.puts, Vals.pairs, List.filterMap_cons, List.filterMap_nil, id, List.map_cons, List.map_nil, List.foldl_cons, List.foldl_nil, q0, q1, q2, q3, q4, q5, q6, q7, q8, q9, q10]
    clear q0 q1 q2 q3 q4 q5 q6 q7 q8 q9 q10
    go_frame
    have hlen : zs.length = n := HR.out.1.1
    have f0 := hst3.ec.free 0
    have f1 := hst3.ec.free 1
    have f2 := hst3.ec.free 2
    have c0 := hst3.ec.cell (i := 0) rfl
    have c1 := hst3.ec.cell (i := 1) rfl
    have c2 := hst3.ec.cell (i := 2) rfl
    have H3 := Lib.hid (And.intro hst3 (And.intro hk1 (And.intro hk2 hlen)))
    clear hst3 hk1 hk2 hlen HG HTK HPOST HS0 HS
    cases b1 with
    | false =>
      have hno : ∀ (k f : Int) (body : List Int), body.length ≤ 65531 → ¬ encC k f body <+: zs := by
        intro k f body hl hp
        obtain ⟨p1, p2, p3, _⟩ := pre_parts hp hl
        have h1 := HLz.out
        have h2 := HB.out.2.1
        have h3 := H3.out.2.2.2
        have h4 := up4_ge (4 + body.length)
        have h5 : ¬ 4 + m ≤ n := by simpa using h2.symm
        omega
      have hend := box3 H3.out.1.ec (.int .u8 0) (.int .u8 0) (.slice none 0 0)
      have hbl := below3 H3.out.1.b H3.out.1.lc (.int .u8 0) (.int .u8 0) (.slice none 0 0)
      have HE := Lib.hid (And.intro hend (And.intro hbl hno))
      clear hend hbl hno H3 HB HLz HL HR
      go_wp2_with fail
      have d0 := HE.out.1.cell (i := 0) rfl
      have d1 := HE.out.1.cell (i := 1) rfl
      have d2 := HE.out.1.cell (i := 2) rfl
      have hbl := HE.out.2
      clear HE c0 c1 c2 f0 f1 f2
      generalize ((W.setCell _ _).setCell _ _).setCell _ _ = W2 at *
      exact bodyPost_ret (by simp [results, Try.results57, go_sem, d0, d1, d2]; rfl) rfl ⟨.inr ⟨hbl.2, rfl⟩, hbl.1⟩
    | true =>
      cases b2 with
      | false =>
        have hno : ∀ (k f : Int) (body : List Int), body.length ≤ 65531 → ¬ encC k f body <+: zs := by
          intro k f body hl hp
          obtain ⟨p1, p2, p3, p4, p5, p6, p7⟩ := pre_parts hp hl
          have h1 := HLz.out
          have h3 := H3.out.2.2.2
          have h4 := up4_ge (4 + body.length)
          have h2 := HB.out.2.2.1
          have h5 : ¬ i1 + (up4 i1 - i1) ≤ n := by simpa using h2.symm
          have h6 : i1 = 4 + body.length := by have := HB.out.1; unfold stepTo at this; simp at this; omega
          rw [← h6] at p3
          omega
        have hend := box3 H3.out.1.ec (.int .u8 0) (.int .u8 0) (.slice none 0 0)
        have hbl := below3 H3.out.1.b H3.out.1.lc (.int .u8 0) (.int .u8 0) (.slice none 0 0)
        have HE := Lib.hid (And.intro hend (And.intro hbl hno))
        clear hend hbl hno H3 HB HLz HL HR
        go_wp2_with fail
        have d0 := HE.out.1.cell (i := 0) rfl
        have d1 := HE.out.1.cell (i := 1) rfl
        have d2 := HE.out.1.cell (i := 2) rfl
        have hbl := HE.out.2
        clear HE c0 c1 c2 f0 f1 f2
        generalize ((W.setCell _ _).setCell _ _).setCell _ _ = W2 at *
        exact bodyPost_ret (by simp [results, Try.results57, go_sem, d0, d1, d2]; rfl) rfl ⟨.inr ⟨hbl.2, rfl⟩, hbl.1⟩
      | true =>
        have hv1 : V1 = .slice (some ⟨wC.heap.size, 0, none⟩) m m := HB.out.2.2.2
        have hv2 : V2 = .slice (some ⟨w2.heap.size, 0, none⟩) (up4 i1 - i1) (up4 i1 - i1) := HV.out
        have hle : i1 + (up4 i1 - i1) ≤ n := by simpa using HB.out.2.2.1.symm
        have hz := isZero_any (some ⟨w2.heap.size, 0, none⟩) (up4 i1 - i1) (up4 i1 - i1) _ W ((H3.out.2.2.1 rfl).readsAll _ (by simp; have := H3.out.2.2.2; omega)) ((HR.out.2.drop _).take _) (by omega)
        have hup : i1 + (up4 i1 - i1) = up4 i1 := by omega
        clear HV
        subst hv1 hv2
        generalize hp : up4 i1 - i1 = p at *
        have HP := Lib.hid (And.intro hp (And.intro hle hup))
        clear hp hup hle g1 g2
        obtain ⟨zb, hzb⟩ : ∃ zb, zb = zeroB ((zs.drop i1).take p) := ⟨_, rfl⟩
        rw [← hzb] at hz
        cases zb with
        | false =>
          have HZ := Lib.hid hz
          have HZB := Lib.hid (And.intro hzb.symm trivial)
          clear hz hzb
          have hno : ∀ (k f : Int) (body : List Int), body.length ≤ 65531 → ¬ encC k f body <+: zs := by
            intro k f body hl hp
            obtain ⟨p1, p2, p3, p4, p5, p6, p7⟩ := pre_parts hp hl
            have h1 := HLz.out
            have h3 := H3.out.2.2.2
            have h4 := up4_ge (4 + body.length)
            have h2 := HZB.out.1
            have h6 : i1 = 4 + body.length := by have := HB.out.1; unfold stepTo at this; simp at this; omega
            rw [← h6, HP.out.1] at p7
            rw [p7] at h2
            rw [(zeroB_iff _).2 (by simp)] at h2
            cases h2
          have hend := box3 H3.out.1.ec (.int .u8 0) (.int .u8 0) (.slice none 0 0)
          have hbl := below3 H3.out.1.b H3.out.1.lc (.int .u8 0) (.int .u8 0) (.slice none 0 0)
          have HE := Lib.hid (And.intro hend (And.intro hbl hno))
          clear hend hbl hno H3 HB HLz HL HR
          go_wp2_with (go_at_call 66; refine HZ.out.mono ?_; rintro e w' ⟨rfl, rfl⟩)
          have d0 := HE.out.1.cell (i := 0) rfl
          have d1 := HE.out.1.cell (i := 1) rfl
          have d2 := HE.out.1.cell (i := 2) rfl
          have hbl := HE.out.2
          clear HE c0 c1 c2 f0 f1 f2
          generalize ((W.setCell _ _).setCell _ _).setCell _ _ = W2 at *
          exact bodyPost_ret (by simp [results, Try.results57, go_sem, d0, d1, d2]; rfl) rfl ⟨.inr ⟨hbl.2, rfl⟩, hbl.1⟩
        | true =>
          have HZ := Lib.hid hz
          have HZB := Lib.hid hzb.symm
          clear hz hzb
          obtain ⟨b, off, rfl⟩ := HR.out.1.some_of (by omega)
          have hrW := HR.out.1.below H3.out.1.b
          have hcell : ∀ j, j < n → W.cell? ⟨b, off + j, none⟩ = some (.int .u8 (zs[j]?.getD 0)) := by
            rcases hrW.2 with h | ⟨b', off', e, _, h⟩
            · omega
            · cases e; exact h
          have z0 : W.cell? ⟨b, off, none⟩ = some (.int .u8 (zs[0]?.getD 0)) := hcell 0 (by omega)
          have z1 : W.cell? ⟨b, off + 1, none⟩ = some (.int .u8 (zs[1]?.getD 0)) := hcell 1 (by omega)
          have cb := H3.out.1.eb.cell (i := 0) rfl
          have ca := H3.out.1.ea.cell (i := 0) rfl
          have n0 : (0 : Int) < (n : Int) := by omega
          have n1 : (1 : Int) < (n : Int) := by omega
          have m0 : 0 < n := by omega
          have m1 : 1 < n := by omega
          clear hrW hcell
          generalize hk0 : zs[0]?.getD 0 = k0 at *
          generalize hk1 : zs[1]?.getD 0 = k1 at *
          have HK := Lib.hid (And.intro hk0 hk1)
          clear hk0 hk1
          go_wp2_with (go_at_call 66; refine HZ.out.mono ?_; rintro e w' ⟨rfl, rfl⟩)
          have hst4 := H3.out.1.drew
          have hkb : Blk W.drew wC.heap.size ((zs.drop 4).take m) := H3.out.2.1 (by trivial)
          have hpre : encC k0 k1 ((zs.drop 4).take m) <+: zs ∧ ((zs.drop 4).take m).length = m := by
            have h3 := H3.out.2.2.2
            have h6 : i1 = 4 + m := by have := HB.out.1; unfold stepTo at this; simp at this; omega
            have h7 := HP.out
            have h8 := HZB.out
            rw [← h7.1, h6] at h8
            rw [h6] at h7
            refine ⟨?_, by simp; omega⟩
            rw [← HK.out.1, ← HK.out.2]
            exact pre_mk HR.out.2 m (by omega) HLz.out (by omega) h8
          have hi : ((stepTo true i1 p : Nat) : Int) = ((up4 (4 + m) : Nat) : Int) := by
            have h6 : i1 = 4 + m := by have := HB.out.1; unfold stepTo at this; simp at this; omega
            have h7 := HP.out
            rw [h6] at h7
            unfold stepTo
            simp
            omega
          clear f0 f1 f2 c0 c1 c2 cb ca
          refine wp_region_any (by kernel_rfl) ?_
          have z0 : W.drew.cell? ⟨b, off, none⟩ = some (.int .u8 k0) := z0
          have z1 : W.drew.cell? ⟨b, off + 1, none⟩ = some (.int .u8 k1) := z1
          change wpAny _ _ _ _ _ _ _ W.drew
          generalize W.drew = W3 at hst4 hkb z0 z1 ⊢
          have cb := hst4.eb.cell (i := 0) rfl
          have ca := hst4.ea.cell (i := 0) rfl
          obtain ⟨W4, hW4⟩ : ∃ W4, W4 = ((W3.setCell ⟨gc, 0, none⟩ (.int .u8 k0)).setCell ⟨gc, 1, none⟩ (.int .u8 k1)).setCell ⟨gc, 2, none⟩ (.slice (some ⟨wC.heap.size, 0, none⟩) m m) := ⟨_, rfl⟩
          have hend := box3 hst4.ec (.int .u8 k0) (.int .u8 k1) (.slice (some ⟨wC.heap.size, 0, none⟩) m m)
          have hbl := below3 hst4.b hst4.lc (.int .u8 k0) (.int .u8 k1) (.slice (some ⟨wC.heap.size, 0, none⟩) m m)
          have hne : wC.heap.size ≠ gc := by have := HGC.out; omega
          have hkb2 : Blk (((W3.setCell ⟨gc, 0, none⟩ (.int .u8 k0)).setCell ⟨gc, 1, none⟩ (.int .u8 k1)).setCell ⟨gc, 2, none⟩ (.slice (some ⟨wC.heap.size, 0, none⟩) m m)) wC.heap.size ((zs.drop 4).take m) :=
            (Below.heap_setCell _ _ _ _ (by simpa using hne)).trans ((Below.heap_setCell _ _ _ _ (by simpa using hne)).trans ((Below.heap_setCell _ _ _ _ (by simpa using hne)).trans hkb))
          have hea : Arr (((W3.setCell ⟨gc, 0, none⟩ (.int .u8 k0)).setCell ⟨gc, 1, none⟩ (.int .u8 k1)).setCell ⟨gc, 2, none⟩ (.slice (some ⟨wC.heap.size, 0, none⟩) m m)) ga 3 [.int .i64 (stepTo true i1 p : Nat)] :=
            ((hst4.ea.off _ hst4.nc.symm).off _ hst4.nc.symm).off _ hst4.nc.symm
          rw [← hW4] at hend hbl hkb2 hea
          have f0 := hst4.ec.free 0
          have f1 := hst4.ec.free 1
          have f2 := hst4.ec.free 2
          have c0 := hst4.ec.cell (i := 0) rfl
          have c1 := hst4.ec.cell (i := 1) rfl
          have c2 := hst4.ec.cell (i := 2) rfl
          have HE := Lib.hid (And.intro hend (And.intro hbl (And.intro hkb2 (And.intro hpre hi))))
          have HEA := Lib.hid hea
          have HW4 := Lib.hid hW4
          have HC := Lib.hid (And.intro hst4.ec (And.intro cb (And.intro ca (And.intro z0 z1))))
          clear hend hbl hkb hkb2 hpre hi hst4 H3 HB HLz HL HP HZ HZB HK hea hW4 hne f0 f1 f2 c0 c1 c2 cb ca z0 z1
          refine Vals.wpAny_goodW (fun i v _ => match i with | 0 => v = .slice (some ⟨b, off, none⟩) n c | 1 => v = .pointer (some ⟨b, off, none⟩) | 2 => v = .int .u8 k0 | 3 => v = .slice (some ⟨b, off, none⟩) n c | 4 => v = .pointer (some ⟨b, off + 1, none⟩) | 5 => v = .int .u8 k1 | 6 => v = .slice (some ⟨wC.heap.size, 0, none⟩) m m | 7 => v = .agg #[.int .u8 k0, .int .u8 k1, .slice (some ⟨wC.heap.size, 0, none⟩) m m] | 8 => v = .int .i64 (stepTo true i1 p : Nat) | 10 => v = .int .i64 (stepTo true i1 p : Nat) | 11 => v = .int .i64 0 | _ => True) (fun l W' => Vals.JR 9 (W3 = W') (W4 = W') l) [some 54, some 55, some 56, some 57, some 58, some 59, some 60, some 61, some 62, none, some 3, some 4] 63 _ _ rfl (by kernel_rfl) (by kernel_rfl) (by decide) ?step2 ?fin2 ?h02
          case h02 => exact ⟨fun _ => rfl, fun h => by simp at h⟩
          case step2 =>
            intro i o d ho hd listed a W' hls hun hcl hJ hdf hdep hfr K hK
            match i, ho, hd with
            | 0, ho, hd =>
              have ho' := ho
              simp only [List.getElem?_toArray, List.getElem?_cons_zero, Option.some.injEq] at ho hd
              subst ho hd
              have r1 : a.eval (.tmp 1) = .pointer (some ⟨w.heap.size, 0, none⟩) := hfr 1 (by decide)
              rw [Vals.eval_tmp] at r1
              obtain rfl := Vals.jpre hJ hun (fun h => hcl 9 _ rfl h ⟨0, .phase⟩ (by simp) rfl)
              have cb := HC.out.2.1
              have hcb : W3.cell? ⟨w.heap.size, 0, none⟩ = some (.slice (some ⟨b, off, none⟩) n c) := cb
              refine Vals.wpOp_run ho' rfl ?_
              clear hdep hfr ho' hdf hcl
              go_simp
              exact hK _ _ (fun _ _ h => h) (Vals.jkeep hJ (by omega)) (fun _ => rfl)
            | 1, ho, hd =>
              have ho' := ho
              simp only [List.getElem?_toArray, List.getElem?_cons_zero, List.getElem?_cons_succ, Option.some.injEq] at ho hd
              subst ho hd
              have r54 : a.eval (.tmp 54) = .slice (some ⟨b, off, none⟩) n c := (hdep ⟨0, .data⟩ (by simp) rfl).2 54 rfl
              rw [Vals.eval_tmp] at r54
              refine Vals.wpOp_run ho' rfl ?_
              clear hdep hfr ho' hdf hcl
              go_simp
              exact hK _ _ (fun _ _ h => h) (Vals.jkeep hJ (by omega)) (fun _ => rfl)
            | 2, ho, hd =>
              have ho' := ho
              simp only [List.getElem?_toArray, List.getElem?_cons_zero, List.getElem?_cons_succ, Option.some.injEq] at ho hd
              subst ho hd
              have r55 : a.eval (.tmp 55) = .pointer (some ⟨b, off, none⟩) := (hdep ⟨1, .data⟩ (by simp) rfl).2 55 rfl
              rw [Vals.eval_tmp] at r55
              obtain rfl := Vals.jpre hJ hun (fun h => hcl 9 _ rfl h ⟨2, .phase⟩ (by simp) rfl)
              have z0 := HC.out.2.2.2.1
              have hz0 : W3.cell? ⟨b, off, none⟩ = some (.int .u8 k0) := z0
              refine Vals.wpOp_run ho' rfl ?_
              clear hdep hfr ho' hdf hcl
              go_simp
              exact hK _ _ (fun _ _ h => h) (Vals.jkeep hJ (by omega)) (fun _ => rfl)
            | 3, ho, hd =>
              have ho' := ho
              simp only [List.getElem?_toArray, List.getElem?_cons_zero, List.getElem?_cons_succ, Option.some.injEq] at ho hd
              subst ho hd
              have r1 : a.eval (.tmp 1) = .pointer (some ⟨w.heap.size, 0, none⟩) := hfr 1 (by decide)
              rw [Vals.eval_tmp] at r1
              obtain rfl := Vals.jpre hJ hun (fun h => hcl 9 _ rfl h ⟨3, .phase⟩ (by simp) rfl)
              have cb := HC.out.2.1
              have hcb : W3.cell? ⟨w.heap.size, 0, none⟩ = some (.slice (some ⟨b, off, none⟩) n c) := cb
              refine Vals.wpOp_run ho' rfl ?_
              clear hdep hfr ho' hdf hcl
              go_simp
              exact hK _ _ (fun _ _ h => h) (Vals.jkeep hJ (by omega)) (fun _ => rfl)
            | 4, ho, hd =>
              have ho' := ho
              simp only [List.getElem?_toArray, List.getElem?_cons_zero, List.getElem?_cons_succ, Option.some.injEq] at ho hd
              subst ho hd
              have r57 : a.eval (.tmp 57) = .slice (some ⟨b, off, none⟩) n c := (hdep ⟨3, .data⟩ (by simp) rfl).2 57 rfl
              rw [Vals.eval_tmp] at r57
              refine Vals.wpOp_run ho' rfl ?_
              clear hdep hfr ho' hdf hcl
              go_simp
              exact hK _ _ (fun _ _ h => h) (Vals.jkeep hJ (by omega)) (fun _ => rfl)
            | 5, ho, hd =>
              have ho' := ho
              simp only [List.getElem?_toArray, List.getElem?_cons_zero, List.getElem?_cons_succ, Option.some.injEq] at ho hd
              subst ho hd
              have r58 : a.eval (.tmp 58) = .pointer (some ⟨b, off + 1, none⟩) := (hdep ⟨4, .data⟩ (by simp) rfl).2 58 rfl
              rw [Vals.eval_tmp] at r58
              obtain rfl := Vals.jpre hJ hun (fun h => hcl 9 _ rfl h ⟨5, .phase⟩ (by simp) rfl)
              have z1 := HC.out.2.2.2.2
              have hz1 : W3.cell? ⟨b, off + 1, none⟩ = some (.int .u8 k1) := z1
              refine Vals.wpOp_run ho' rfl ?_
              clear hdep hfr ho' hdf hcl
              go_simp
              exact hK _ _ (fun _ _ h => h) (Vals.jkeep hJ (by omega)) (fun _ => rfl)
            | 6, ho, hd =>
              have ho' := ho
              simp only [List.getElem?_toArray, List.getElem?_cons_zero, List.getElem?_cons_succ, Option.some.injEq] at ho hd
              subst ho hd
              have r8 : a.eval (.tmp 8) = .slice (some ⟨wC.heap.size, 0, none⟩) m m := hfr 8 (by decide)
              rw [Vals.eval_tmp] at r8
              refine Vals.wpOp_run ho' rfl ?_
              clear hdep hfr ho' hdf hcl
              go_simp
              exact hK _ _ (fun _ _ h => h) (Vals.jkeep hJ (by omega)) (fun _ => rfl)
            | 7, ho, hd =>
              have ho' := ho
              simp only [List.getElem?_toArray, List.getElem?_cons_zero, List.getElem?_cons_succ, Option.some.injEq] at ho hd
              subst ho hd
              have r56 : a.eval (.tmp 56) = .int .u8 k0 := (hdep ⟨2, .data⟩ (by simp) rfl).2 56 rfl
              rw [Vals.eval_tmp] at r56
              have r59 : a.eval (.tmp 59) = .int .u8 k1 := (hdep ⟨5, .data⟩ (by simp) rfl).2 59 rfl
              rw [Vals.eval_tmp] at r59
              have r60 : a.eval (.tmp 60) = .slice (some ⟨wC.heap.size, 0, none⟩) m m := (hdep ⟨6, .data⟩ (by simp) rfl).2 60 rfl
              rw [Vals.eval_tmp] at r60
              refine Vals.wpOp_run ho' rfl ?_
              clear hdep hfr ho' hdf hcl
              go_simp
              exact hK _ _ (fun _ _ h => h) (Vals.jkeep hJ (by omega)) (fun _ => rfl)
            | 8, ho, hd =>
              have ho' := ho
              simp only [List.getElem?_toArray, List.getElem?_cons_zero, List.getElem?_cons_succ, Option.some.injEq] at ho hd
              subst ho hd
              have r6 : a.eval (.tmp 6) = .pointer (some ⟨ga, 0, none⟩) := hfr 6 (by decide)
              rw [Vals.eval_tmp] at r6
              refine Vals.wpOp_run ho' rfl ?_
              clear hdep hfr ho' hdf hcl
              rcases Vals.jor hJ with rfl | rfl
              · have ca := HC.out.2.2.1
                have hca : W3.cell? ⟨ga, 0, none⟩ = some (.int .i64 (stepTo true i1 p : Nat)) := ca
                go_simp
                exact hK _ _ (fun _ _ h => h) (Vals.jkeep hJ (by omega)) (fun _ => rfl)
              · have ca := HEA.out.cell (i := 0) rfl
                go_simp
                exact hK _ _ (fun _ _ h => h) (Vals.jkeep hJ (by omega)) (fun _ => rfl)
            | 9, ho, hd =>
              have ho' := ho
              simp only [List.getElem?_toArray, List.getElem?_cons_zero, List.getElem?_cons_succ, Option.some.injEq] at ho hd
              subst ho hd
              have r2 : a.eval (.tmp 2) = .pointer (some ⟨gc, 0, none⟩) := hfr 2 (by decide)
              rw [Vals.eval_tmp] at r2
              have r61 : a.eval (.tmp 61) = .agg #[.int .u8 k0, .int .u8 k1, .slice (some ⟨wC.heap.size, 0, none⟩) m m] := (hdep ⟨7, .data⟩ (by simp) rfl).2 61 rfl
              rw [Vals.eval_tmp] at r61
              obtain rfl := Vals.jpre hJ hun (fun h => h)
              have f0 := HC.out.1.free 0
              have f1 := HC.out.1.free 1
              have f2 := HC.out.1.free 2
              have c0 := HC.out.1.cell (i := 0) rfl
              have c1 := HC.out.1.cell (i := 1) rfl
              have c2 := HC.out.1.cell (i := 2) rfl
              refine Vals.wpOp_run ho' rfl ?_
              clear hdep hfr ho' hdf hcl
              go_simp
              exact hK undef _ (fun _ _ h => h) (Vals.jset (by rw [hls]; decide) HW4.out) (fun h => nomatch h)
            | 10, ho, hd =>
              have ho' := ho
              simp only [List.getElem?_toArray, List.getElem?_cons_zero, List.getElem?_cons_succ, Option.some.injEq] at ho hd
              subst ho hd
              have r62 : a.eval (.tmp 62) = .int .i64 (stepTo true i1 p : Nat) := (hdep ⟨8, .data⟩ (by simp) rfl).2 62 rfl
              rw [Vals.eval_tmp] at r62
              refine Vals.wpOp_run ho' rfl ?_
              clear hdep hfr ho' hdf hcl
              go_simp
              exact hK _ _ (fun _ _ h => h) (Vals.jkeep hJ (by omega)) (fun _ => rfl)
            | 11, ho, hd =>
              have ho' := ho
              simp only [List.getElem?_toArray, List.getElem?_cons_zero, List.getElem?_cons_succ, Option.some.injEq] at ho hd
              subst ho hd
              refine Vals.wpOp_run ho' rfl ?_
              clear hdep hfr ho' hdf hcl
              go_simp
              exact hK _ _ (fun _ _ h => h) (Vals.jkeep hJ (by omega)) (fun _ => rfl)
            | i + 12, ho, hd => simp at ho
          case fin2 =>
            intro listed W2 f hall hJ hG
            obtain rfl := hJ.2 (hall 9 (by decide))
            have q0 : f 54 = .slice (some ⟨b, off, none⟩) n c := hG 0 54 rfl
            have q1 : f 55 = .pointer (some ⟨b, off, none⟩) := hG 1 55 rfl
            have q2 : f 56 = .int .u8 k0 := hG 2 56 rfl
            have q3 : f 57 = .slice (some ⟨b, off, none⟩) n c := hG 3 57 rfl
            have q4 : f 58 = .pointer (some ⟨b, off + 1, none⟩) := hG 4 58 rfl
            have q5 : f 59 = .int .u8 k1 := hG 5 59 rfl
            have q6 : f 60 = .slice (some ⟨wC.heap.size, 0, none⟩) m m := hG 6 60 rfl
            have q7 : f 61 = .agg #[.int .u8 k0, .int .u8 k1, .slice (some ⟨wC.heap.size, 0, none⟩) m m] := hG 7 61 rfl
            have q8 : f 62 = .int .i64 (stepTo true i1 p : Nat) := hG 8 62 rfl
            have q10 : f 3 = .int .i64 (stepTo true i1 p : Nat) := hG 10 3 rfl
            have q11 : f 4 = .int .i64 0 := hG 11 4 rfl
            clear hall hJ hG
            simp only [Vals.puts, Vals.pairs, List.filterMap_cons, List.filterMap_nil, id, List.map_cons, List.map_nil, List.foldl_cons, List.foldl_nil, q0, q1, q2, q3, q4, q5, q6, q7, q8, q10, q11]
            clear q0 q1 q2 q3 q4 q5 q6 q7 q8 q10 q11
            go_frame
            go_wp2_with fail
            have d0 := HE.out.1.cell (i := 0) rfl
            have d1 := HE.out.1.cell (i := 1) rfl
            have d2 := HE.out.1.cell (i := 2) rfl
            obtain ⟨_, hbl, hkb, ⟨hp1, hp2⟩, hi⟩ := HE.out
            have hle := HGC.out.2
            clear HE
            refine bodyPost_ret (by simp [results, Try.results57, go_sem, d0, d1, d2]; rfl) rfl ⟨.inl ⟨k0, k1, _, wC.heap.size, by omega, hp1, ?_, hle, hkb⟩, hbl⟩
            rw [hp2, ← hi]
end Go.Proofs.Ytnndlpbbllmpjaa

/-
  The contract of package chunk's Read, whatever the bytes are.
-/
namespace Go.Proofs.Ytnndlpbbllmpjaa
open Go.RowKit
set_option linter.unusedVariables false

theorem read_any (a : Option Addr) (n c : Nat) (zs : List Int) (w : World) (hr : Reads w a n zs) (hb : Byt zs) (hc : n ≤ c) (hn : n ≤ 140737488355328) :
    Calls Try.prog 57 #[.slice a n c] w fun e w' => ReadOk zs w w' e ∧ Below w.heap.size w w' := by
  have hl := hr.1
  by_cases h4 : n < 4
  · exact (read_no1 a n c w h4).mono fun e w' ⟨h1, h2⟩ => ⟨.inr ⟨fun k f body hb' hp => by have := (pre_parts hp hb').1; omega, h1⟩, h2⟩
  · by_cases hL : lenOf zs < 4
    · exact (read_no2 a n c zs w hr hb (by omega) hn hL).mono fun e w' ⟨h1, h2⟩ => ⟨.inr ⟨fun k f body hb' hp => by have := (pre_parts hp hb').2.1; omega, h1⟩, h2⟩
    · exact read_main a n c (lenOf zs - 4).toNat zs w hr hb hc (by omega) hn (by omega)

/-- A chunk with which the bytes begin is read, and no other one. -/
theorem pre_unique {k f k' f' : Int} {body body' zs : List Int} (h : encC k f body <+: zs) (h' : encC k' f' body' <+: zs) (hl : body.length ≤ 65531) (hl' : body'.length ≤ 65531) : k = k' ∧ f = f' ∧ body = body' := by
  obtain ⟨_, a2, _, a4, a5, a6, _⟩ := pre_parts h hl
  obtain ⟨_, b2, _, b4, b5, b6, _⟩ := pre_parts h' hl'
  have e : body.length = body'.length := by omega
  exact ⟨a4.symm.trans b4, a5.symm.trans b5, by rw [← a6, ← b6, e]⟩
theorem ReadOk.yes {zs : List Int} {w w' : World} {e : Ending} (h : ReadOk zs w w' e) {k f : Int} {body : List Int} (hp : encC k f body <+: zs) (hl : body.length ≤ 65531) :
    ∃ g, e = .returned (.tuple #[.agg #[.int .u8 k, .int .u8 f, .slice (some ⟨g, 0, none⟩) body.length body.length], .int .i64 (up4 (4 + body.length) : Nat), .int .i64 0]) ∧ w.heap.size ≤ g ∧ Blk w' g body := by
  rcases h with ⟨k', f', body', g, hl', hp', he, hg, hk⟩ | ⟨hn, _⟩
  · obtain ⟨rfl, rfl, rfl⟩ := pre_unique hp hp' hl hl'
    exact ⟨g, he, hg, hk⟩
  · exact absurd hp (hn k f body hl)
theorem ReadOk.no {zs : List Int} {w w' : World} {e : Ending} (h : ReadOk zs w w' e) (hn : ∀ (k f : Int) (body : List Int), body.length ≤ 65531 → ¬ encC k f body <+: zs) : e = .returned noChunk := by
  rcases h with ⟨k', f', body', g, hl', hp', he, hg, hk⟩ | ⟨_, he⟩
  · exact absurd hp' (hn k' f' body' hl')
  · exact he
end Go.Proofs.Ytnndlpbbllmpjaa

/-
  The contract of the reference's Write (layer 8).
-/
namespace Go.Proofs.Ytnndlpbbllmpjaa
open Go.RowKit
set_option linter.unusedVariables false

set_option maxHeartbeats 800000 in
theorem rwrite_no (k f : Int) (a : Option Addr) (n c : Nat) (w : World) (hn : 65531 < n) :
    Calls Try.prog 53 #[.agg #[.int .u8 k, .int .u8 f, .slice a n c]] w fun e w' => e = .returned (.slice none 0 0) ∧ Below w.heap.size w w' := by
  have hg : (65531 : Int) < n := by omega
  go_enter Try.func53, Try.ntmps53
  go_wp2
  go_ret
  exact ⟨rfl, (Below.refl _ _).alloc (Nat.le_refl _) _⟩

set_option maxHeartbeats 1600000 in
theorem rwrite_yes (k f : Int) (a : Option Addr) (n c : Nat) (zs : List Int) (w : World) (hr : Reads w a n zs) (hn : n ≤ 65531) :
    Calls Try.prog 53 #[.agg #[.int .u8 k, .int .u8 f, .slice a n c]] w fun e w' =>
      ∃ a' c', e = .returned (.slice a' (up4 (4 + n)) c') ∧ Row8 w.heap.size w' a' (up4 (4 + n)) c' (encC k f zs) ∧ Below w.heap.size w w' := by
  have hl := hr.1
  have hg : ¬ (65531 : Int) < n := by omega
  have g0 : (0 : Int) ≤ 4 + (n : Int) := by omega
  obtain ⟨w0, hw0⟩ : ∃ w0, w.alloc (.cells #[.int .u8 k, .int .u8 f, .slice a n c] 41) = w0 := ⟨_, rfl⟩
  have hb0 : Below w.heap.size w w0 := by rw [← hw0]; exact (Below.refl _ _).alloc (Nat.le_refl _) _
  have hs0 : w0.heap.size = w.heap.size + 1 := by rw [← hw0]; simp
  have ha0 : Arr w0 w.heap.size 41 [.int .u8 k, .int .u8 f, .slice a n c] := by rw [← hw0]; exact arr_new _ _ _
  obtain ⟨w1, hw1⟩ : ∃ w1, w0.alloc (.cells #[.int .u8 k, .int .u8 f] 5) = w1 := ⟨_, rfl⟩
  have hb1 : Below w0.heap.size w0 w1 := by rw [← hw1]; exact (Below.refl _ _).alloc (Nat.le_refl _) _
  have hs1 : w1.heap.size = w0.heap.size + 1 := by rw [← hw1]; simp
  have hk1 : Blk w1 w0.heap.size [k, f] := by rw [← hw1]; exact heap_alloc_new _ _
  have c00 := ha0.cell (i := 0) rfl
  have c01 := ha0.cell (i := 1) rfl
  have c02 := ha0.cell (i := 2) rfl
  have c12 := (ha0.keep hb1).cell (i := 2) rfl
  have hput := putR_yes (some ⟨w0.heap.size, 0, none⟩) 2 2 2 (4 + (n : Int)) [k, f] w1 (hk1.readsAll 2 rfl) (by omega) (by omega) rfl
  have HP := Lib.hid hput
  have H0 := Lib.hid (And.intro (hb0.trans (hb1.mono (by omega))) (And.intro (hr.below hb0 |>.below hb1) (ha0.keep hb1)))
  have HS := Lib.hid (And.intro hs0 hs1)
  clear hb0 hb1 hk1 ha0 hput hr hs0 hs1
  go_enter Try.func53, Try.ntmps53
  go_wp2_with fail
  refine HP.out.mono ?_
  rintro e w2 ⟨a2, c2, rfl, hb2, hk2⟩
  have hb2w : Below w.heap.size w w2 := H0.out.1.trans (hb2.mono H0.out.1.size)
  have c22 := (H0.out.2.2.keep hb2).cell (i := 2) rfl
  have hr2 := H0.out.2.1.below hb2
  obtain ⟨a3, c3, w3, happ, H3⟩ := hk2.appends (by have := hb2.size; omega) a n c zs hr2 (by omega)
  have hb3w : Below w.heap.size w w3 := hb2w.trans (H3.out.2.mono H0.out.1.size)
  have hpad := padR_any a3 (2 + 2 + n) c3 _ w3 H3.out.1.reads (by omega)
  have HPA := Lib.hid hpad
  have HB3 := Lib.hid hb3w
  clear hb2 hk2 hb2w hr2 hpad H3 HP c00 c01 c02 c12 hw0 hw1
  go_wp2_with (at_builtin; refine wpList_append_run rfl _ _ _ rfl _ _ _ _ rfl rfl happ ?_)
  clear happ
  refine HPA.out.mono ?_
  rintro e w4 ⟨a4, c4, rfl, hb4, hk4⟩
  have HE := Lib.hid (And.intro HB3.out.size (And.intro hk4 (HB3.out.trans (hb4.mono HB3.out.size))))
  clear hb4 hk4 HPA HB3
  go_wp2
  go_ret
  refine ⟨_, _, rfl, ?_, HE.out.2.2⟩
  have h := HE.out.2.1.lower HE.out.1
  unfold encC
  rw [hl]
  exact h
end Go.Proofs.Ytnndlpbbllmpjaa

/-
  The reference of layer 8: Read.
-/
namespace Go.Proofs.Ytnndlpbbllmpjaa
open Go.RowKit
set_option linter.unusedVariables false

set_option maxHeartbeats 800000 in
theorem rread_no1 (a : Option Addr) (n c : Nat) (zs : List Int) (w : World) (hr : Reads w a n zs) (hc : n ≤ c) (hn : n < 4) :
    Calls Try.prog 45 #[.slice a n c] w fun e w' => e = .returned noChunk ∧ Below w.heap.size w w' := by
  obtain ⟨wB, hwB⟩ : ∃ wB, w.alloc (.cells #[.int .u8 0, .int .u8 0, .slice none 0 0] 41) = wB := ⟨_, rfl⟩
  have hbB : Below w.heap.size w wB := by rw [← hwB]; exact (Below.refl _ _).alloc (Nat.le_refl _) _
  have hcB : Arr wB w.heap.size 41 [.int .u8 0, .int .u8 0, .slice none 0 0] := by rw [← hwB]; exact arr_new _ _ _
  have hget := getR_no a n c 2 2 zs wB (hr.below hbB) hc (by omega) (by omega) (by omega) (by unfold sizB hasB; simp; omega)
  have HG := Lib.hid hget
  have HB := Lib.hid (And.intro hbB hcB)
  clear hget hr hn hbB hcB
  go_enter Try.func45, Try.ntmps45
  go_wp2_with fail
  refine HG.out.mono ?_
  rintro e w1 ⟨rfl, hb1⟩
  have hc1 := HB.out.2.keep hb1
  have f0 := hc1.free 0
  have f1 := hc1.free 1
  have f2 := hc1.free 2
  have c0 := hc1.cell (i := 0) rfl
  have c1 := hc1.cell (i := 1) rfl
  have c2 := hc1.cell (i := 2) rfl
  have hend := box3 hc1 (.int .u8 0) (.int .u8 0) (.slice none 0 0)
  have hbl := below3 (HB.out.1.trans (hb1.mono HB.out.1.size)) (Nat.le_refl _) (.int .u8 0) (.int .u8 0) (.slice none 0 0) (g := w.heap.size)
  have HE := Lib.hid (And.intro hend hbl)
  clear hend hbl hb1 hc1 HG HB
  go_wp2_with fail
  have d0 := HE.out.1.cell (i := 0) rfl
  have d1 := HE.out.1.cell (i := 1) rfl
  have d2 := HE.out.1.cell (i := 2) rfl
  have hbl := HE.out.2
  clear HE c0 c1 c2 f0 f1 f2 hwB
  generalize ((w1.setCell _ _).setCell _ _).setCell _ _ = W at *
  exact bodyPost_ret (by simp [results, Try.results45, go_sem, d0, d1, d2]; rfl) rfl ⟨rfl, hbl⟩

set_option maxHeartbeats 800000 in
theorem rread_no2 (a : Option Addr) (n c : Nat) (zs : List Int) (w : World) (hr : Reads w a n zs) (hb : Byt zs) (hc : n ≤ c) (hn4 : 4 ≤ n) (hn : n ≤ 1099511627776) (hL : lenOf zs < 4 ∨ (n : Int) < lenOf zs) :
    Calls Try.prog 45 #[.slice a n c] w fun e w' => e = .returned noChunk ∧ Below w.heap.size w w' := by
  obtain ⟨wB, hwB⟩ : ∃ wB, w.alloc (.cells #[.int .u8 0, .int .u8 0, .slice none 0 0] 41) = wB := ⟨_, rfl⟩
  have hbB : Below w.heap.size w wB := by rw [← hwB]; exact (Below.refl _ _).alloc (Nat.le_refl _) _
  have hcB : Arr wB w.heap.size 41 [.int .u8 0, .int .u8 0, .slice none 0 0] := by rw [← hwB]; exact arr_new _ _ _
  have hget := getR_yes a n c 2 2 zs wB (hr.below hbB) hb hc (by omega) rfl (by omega)
  rw [show num ((zs.drop 2).take 2) = lenOf zs from rfl] at hget
  obtain ⟨l0, l1⟩ := lenOf_in hb
  generalize lenOf zs = L at *
  have HG := Lib.hid hget
  have HB := Lib.hid (And.intro hbB hcB)
  clear hget hr hb hbB hcB
  by_cases hL4 : L < 4
  all_goals
    first
      | (have hL2 : decide (L < 4) = true := by simpa using hL4)
      | (have hL2 : decide (L < 4) = false := by simpa using hL4
         have hL3 : (n : Int) < L := by omega
         have hL5 : ¬ L < 4 := hL4)
    clear hL
    go_enter Try.func45, Try.ntmps45
    go_wp2_with fail
    refine HG.out.mono ?_
    rintro e w1 ⟨rfl, hb1⟩
    have hc1 := HB.out.2.keep hb1
    have f0 := hc1.free 0
    have f1 := hc1.free 1
    have f2 := hc1.free 2
    have c0 := hc1.cell (i := 0) rfl
    have c1 := hc1.cell (i := 1) rfl
    have c2 := hc1.cell (i := 2) rfl
    have hend := box3 hc1 (.int .u8 0) (.int .u8 0) (.slice none 0 0)
    have hbl := below3 (HB.out.1.trans (hb1.mono HB.out.1.size)) (Nat.le_refl _) (.int .u8 0) (.int .u8 0) (.slice none 0 0) (g := w.heap.size)
    have HE := Lib.hid (And.intro hend hbl)
    clear hend hbl hb1 hc1 HG HB
    go_wp2_with fail
    have d0 := HE.out.1.cell (i := 0) rfl
    have d1 := HE.out.1.cell (i := 1) rfl
    have d2 := HE.out.1.cell (i := 2) rfl
    have hbl := HE.out.2
    clear HE c0 c1 c2 f0 f1 f2 hwB
    generalize ((w1.setCell _ _).setCell _ _).setCell _ _ = W at *
    exact bodyPost_ret (by simp [results, Try.results45, go_sem, d0, d1, d2]; rfl) rfl ⟨rfl, hbl⟩
end Go.Proofs.Ytnndlpbbllmpjaa

/-
  The reference of layer 8: Read, where the length is within.
-/
namespace Go.Proofs.Ytnndlpbbllmpjaa
open Go.RowKit
set_option linter.unusedVariables false

/-- What the reference's Read answers of these bytes. -/
def RefOk (zs : List Int) (w' : World) (e : Ending) : Prop :=
  (∃ (k f : Int) (body : List Int) (a : Option Addr), body.length ≤ 65531 ∧ encC k f body <+: zs ∧ e = .returned (.tuple #[.agg #[.int .u8 k, .int .u8 f, .slice a body.length body.length], .int .i64 (up4 (4 + body.length) : Nat), .int .i64 0]) ∧ Row8 0 w' a body.length body.length body) ∨
  (∀ (k f : Int) (body : List Int), body.length ≤ 65531 → ¬ encC k f body <+: zs) ∧ e = .returned noChunk

/-- What the operations of Read's drawn region leave behind. -/
def RG (w1 : World) (b off n c m : Nat) (L k0 k1 : Int) (zs : List Int) (i : Nat) (v : Value) (W : World) : Prop := match i with | 0 => v = .slice (some ⟨b, off, none⟩) n c | 1 => v = .pointer (some ⟨b, off, none⟩) | 2 => v = .int .u8 k0 | 3 => v = .slice (some ⟨b, off, none⟩) n c | 4 => v = .pointer (some ⟨b, off + 1, none⟩) | 5 => v = .int .u8 k1 | 6 => v = .slice (some ⟨b, off, none⟩) n c | 7 => v = .int .i64 L | 8 => ∃ a2 c2, v = .slice a2 m c2 ∧ Reads W a2 m ((zs.drop 4).take m) | 9 => ∃ a2, v = .slice a2 m m ∧ Row8 w1.heap.size W a2 m m ((zs.drop 4).take m) | 10 => ∃ a2, v = .agg #[.int .u8 k0, .int .u8 k1, .slice a2 m m] ∧ Row8 w1.heap.size W a2 m m ((zs.drop 4).take m) | 11 => ∃ g, v = .pointer (some ⟨g, 0, none⟩) ∧ w1.heap.size ≤ g ∧ Arr W g 41 [.int .u8 0, .int .u8 0, .slice none 0 0]  | _ => True
theorem gmono {w1 W W' : World} {b off n c m : Nat} {L k0 k1 : Int} {zs : List Int} (hb : Below W.heap.size W W') (j : Nat) (x : Value) (h : RG w1 b off n c m L k0 k1 zs j x W) : RG w1 b off n c m L k0 k1 zs j x W' := by
  unfold RG at h ⊢
  split at h <;> try exact h
  · obtain ⟨a2, c2, h1, h2⟩ := h
    exact ⟨a2, c2, h1, h2.below hb⟩
  · obtain ⟨a2, h1, h2⟩ := h
    exact ⟨a2, h1, h2.keep hb⟩
  · obtain ⟨a2, h1, h2⟩ := h
    exact ⟨a2, h1, h2.keep hb⟩
  · obtain ⟨g, h1, h2, h3⟩ := h
    exact ⟨g, h1, h2, h3.keep hb⟩
set_option maxRecDepth 100000 in
set_option maxHeartbeats 1600000 in
theorem rread_main (a : Option Addr) (n c m : Nat) (zs : List Int) (w : World) (hr : Reads w a n zs) (hb : Byt zs) (hc : n ≤ c) (hn : n ≤ 1099511627776) (hL : lenOf zs = 4 + (m : Int)) (hm : 4 + m ≤ n) :
    Calls Try.prog 45 #[.slice a n c] w fun e w' => RefOk zs w' e ∧ Below w.heap.size w w' := by
  obtain ⟨wB, hwB⟩ : ∃ wB, w.alloc (.cells #[.int .u8 0, .int .u8 0, .slice none 0 0] 41) = wB := ⟨_, rfl⟩
  have hbB : Below w.heap.size w wB := by rw [← hwB]; exact (Below.refl _ _).alloc (Nat.le_refl _) _
  have hcB : Arr wB w.heap.size 41 [.int .u8 0, .int .u8 0, .slice none 0 0] := by rw [← hwB]; exact arr_new _ _ _
  have hget := getR_yes a n c 2 2 zs wB (hr.below hbB) hb hc (by omega) rfl (by omega)
  rw [show num ((zs.drop 2).take 2) = lenOf zs from rfl] at hget
  obtain ⟨l1, l2⟩ := lenOf_in hb
  have l0 : ¬ lenOf zs < 4 := by omega
  have l3 : ¬ (n : Int) < lenOf zs := by omega
  have hlz : 4 ≤ zs.length := by rw [hr.1]; omega
  generalize hLz : lenOf zs = L at *
  have HL := Lib.hid (show L = ((4 + m : Nat) : Int) by omega)
  have HLz := Lib.hid (And.intro (hLz.trans hL) (And.intro hb hlz))
  have hm2 : m ≤ 65531 := by omega
  have HG := Lib.hid hget
  have HB := Lib.hid (And.intro hbB hcB)
  have HR0 := Lib.hid hr
  clear hget hr hb hbB hcB hL hLz hlz
  go_enter Try.func45, Try.ntmps45
  go_wp2_with fail
  refine HG.out.mono ?_
  rintro e w1 ⟨rfl, hb1⟩
  have hc1 := HB.out.2.keep hb1
  have hb1w := HB.out.1.trans (hb1.mono HB.out.1.size)
  have hr1 := HR0.out.below hb1w
  obtain ⟨b, off, rfl⟩ := hr1.some_of (by omega)
  have hcell : b < w1.heap.size ∧ ∀ j, j < n → w1.cell? ⟨b, off + j, none⟩ = some (.int .u8 (zs[j]?.getD 0)) := by
    rcases hr1.2 with h | ⟨b', off', e, hlt, h⟩
    · omega
    · cases e; exact ⟨hlt, h⟩
  have z0 : w1.cell? ⟨b, off, none⟩ = some (.int .u8 (zs[0]?.getD 0)) := hcell.2 0 (by omega)
  have z1 : w1.cell? ⟨b, off + 1, none⟩ = some (.int .u8 (zs[1]?.getD 0)) := hcell.2 1 (by omega)
  generalize hk0 : zs[0]?.getD 0 = k0 at *
  generalize hk1 : zs[1]?.getD 0 = k1 at *
  have HK := Lib.hid (And.intro hk0 hk1)
  have HC := Lib.hid (And.intro hcell.1 (And.intro z0 (And.intro z1 trivial)))
  have HR := Lib.hid (And.intro hr1 (And.intro hc1 hb1w))
  have n0 : (0 : Int) < (n : Int) := by omega
  have n1 : (1 : Int) < (n : Int) := by omega
  have m0 : 0 < n := by omega
  have m1 : 1 < n := by omega
  clear hk0 hk1 hcell z0 z1 hr1 hc1 hb1w hb1 HG HB hwB
  go_wp2_with fail
  refine wp_region_any (by kernel_rfl) ?_
  refine Vals.wpAny_goodLast (RG w1 b off n c m L k0 k1 zs) (fun W => Below w1.heap.size w1 W) [some 30, some 31, some 32, some 33, some 34, some 35, some 36, some 37, some 38, some 39, some 40, some 8, none] 12 61 _ _ rfl (by kernel_rfl) (by kernel_rfl) (by kernel_rfl) (by decide) rfl ?step ?fin (Below.refl _ _).drew
  case step =>
    intro i o d ho hd hiN a W hJ hdf hdep hfr K hK
    match i, ho, hd with
      | 0, ho, hd =>
        have ho' := ho
        simp only [List.getElem?_toArray, List.getElem?_cons_zero, Option.some.injEq] at ho hd
        subst ho hd
        have r0 : a.eval (.tmp 0) = .slice (some ⟨b, off, none⟩) n c := hfr 0 (by decide)
        rw [Vals.eval_tmp] at r0
        refine Vals.wpOp_run ho' rfl ?_
        clear hdep hfr ho' hdf
        go_simp
        exact hK _ _ (fun _ _ h => h) hJ (fun _ => rfl)
      | 1, ho, hd =>
        have ho' := ho
        simp only [List.getElem?_toArray, List.getElem?_cons_zero, List.getElem?_cons_succ, Option.some.injEq] at ho hd
        subst ho hd
        have r30 : a.eval (.tmp 30) = .slice (some ⟨b, off, none⟩) n c := hdep ⟨0, .data⟩ (by simp) rfl 30 rfl
        rw [Vals.eval_tmp] at r30
        refine Vals.wpOp_run ho' rfl ?_
        clear hdep hfr ho' hdf
        go_simp
        exact hK _ _ (fun _ _ h => h) hJ (fun _ => rfl)
      | 2, ho, hd =>
        have ho' := ho
        simp only [List.getElem?_toArray, List.getElem?_cons_zero, List.getElem?_cons_succ, Option.some.injEq] at ho hd
        subst ho hd
        have r31 : a.eval (.tmp 31) = .pointer (some ⟨b, off, none⟩) := hdep ⟨1, .data⟩ (by simp) rfl 31 rfl
        rw [Vals.eval_tmp] at r31
        have z0 := HC.out.2.1
        have hz0 : W.cell? ⟨b, off, none⟩ = some (.int .u8 k0) := (hJ.cell (p := ⟨b, off, none⟩) HC.out.1).trans z0
        refine Vals.wpOp_run ho' rfl ?_
        clear hdep hfr ho' hdf
        go_simp
        exact hK _ _ (fun _ _ h => h) hJ (fun _ => rfl)
      | 3, ho, hd =>
        have ho' := ho
        simp only [List.getElem?_toArray, List.getElem?_cons_zero, List.getElem?_cons_succ, Option.some.injEq] at ho hd
        subst ho hd
        have r0 : a.eval (.tmp 0) = .slice (some ⟨b, off, none⟩) n c := hfr 0 (by decide)
        rw [Vals.eval_tmp] at r0
        refine Vals.wpOp_run ho' rfl ?_
        clear hdep hfr ho' hdf
        go_simp
        exact hK _ _ (fun _ _ h => h) hJ (fun _ => rfl)
      | 4, ho, hd =>
        have ho' := ho
        simp only [List.getElem?_toArray, List.getElem?_cons_zero, List.getElem?_cons_succ, Option.some.injEq] at ho hd
        subst ho hd
        have r33 : a.eval (.tmp 33) = .slice (some ⟨b, off, none⟩) n c := hdep ⟨3, .data⟩ (by simp) rfl 33 rfl
        rw [Vals.eval_tmp] at r33
        refine Vals.wpOp_run ho' rfl ?_
        clear hdep hfr ho' hdf
        go_simp
        exact hK _ _ (fun _ _ h => h) hJ (fun _ => rfl)
      | 5, ho, hd =>
        have ho' := ho
        simp only [List.getElem?_toArray, List.getElem?_cons_zero, List.getElem?_cons_succ, Option.some.injEq] at ho hd
        subst ho hd
        have r34 : a.eval (.tmp 34) = .pointer (some ⟨b, off + 1, none⟩) := hdep ⟨4, .data⟩ (by simp) rfl 34 rfl
        rw [Vals.eval_tmp] at r34
        have z1 := HC.out.2.2.1
        have hz1 : W.cell? ⟨b, off + 1, none⟩ = some (.int .u8 k1) := (hJ.cell (p := ⟨b, off + 1, none⟩) HC.out.1).trans z1
        refine Vals.wpOp_run ho' rfl ?_
        clear hdep hfr ho' hdf
        go_simp
        exact hK _ _ (fun _ _ h => h) hJ (fun _ => rfl)
      | 6, ho, hd =>
        have ho' := ho
        simp only [List.getElem?_toArray, List.getElem?_cons_zero, List.getElem?_cons_succ, Option.some.injEq] at ho hd
        subst ho hd
        have r0 : a.eval (.tmp 0) = .slice (some ⟨b, off, none⟩) n c := hfr 0 (by decide)
        rw [Vals.eval_tmp] at r0
        refine Vals.wpOp_run ho' rfl ?_
        clear hdep hfr ho' hdf
        go_simp
        exact hK _ _ (fun _ _ h => h) hJ (fun _ => rfl)
      | 7, ho, hd =>
        have ho' := ho
        simp only [List.getElem?_toArray, List.getElem?_cons_zero, List.getElem?_cons_succ, Option.some.injEq] at ho hd
        subst ho hd
        have r7 : a.eval (.tmp 7) = .int .i64 L := hfr 7 (by decide)
        rw [Vals.eval_tmp] at r7
        refine Vals.wpOp_run ho' rfl ?_
        clear hdep hfr ho' hdf
        go_simp
        exact hK _ _ (fun _ _ h => h) hJ (fun _ => rfl)
      | 8, ho, hd =>
        have ho' := ho
        simp only [List.getElem?_toArray, List.getElem?_cons_zero, List.getElem?_cons_succ, Option.some.injEq] at ho hd
        subst ho hd
        have r36 : a.eval (.tmp 36) = .slice (some ⟨b, off, none⟩) n c := hdep ⟨6, .data⟩ (by simp) rfl 36 rfl
        rw [Vals.eval_tmp] at r36
        have r37 : a.eval (.tmp 37) = .int .i64 L := hdep ⟨7, .data⟩ (by simp) rfl 37 rfl
        rw [Vals.eval_tmp] at r37
        have hcut := cut_lh (some ⟨b, off, none⟩) n c 4 (4 + m) (by omega) (by omega) W
        rw [show (((4 + m : Nat)) : Int) = L from HL.out.symm, show ((4 : Nat) : Int) = 4 from rfl, show 4 + m - 4 = m by omega] at hcut
        have hrd := reads_cut (HR.out.1.below hJ) 4 (4 + m) (by omega) (by omega) hc
        rw [show 4 + m - 4 = m by omega] at hrd
        refine Vals.wpOp_run ho' rfl ?_
        clear hdep hfr ho' hdf
        go_simp
        exact hK _ _ (fun _ _ h => h) hJ (fun _ => ⟨_, _, rfl, hrd⟩)
      | 9, ho, hd =>
        have ho' := ho
        simp only [List.getElem?_toArray, List.getElem?_cons_zero, List.getElem?_cons_succ, Option.some.injEq] at ho hd
        subst ho hd
        have g38 : ∃ a2 c2, (a.eval (.tmp 38)) = .slice a2 m c2 ∧ Reads W a2 m ((zs.drop 4).take m) := hdep ⟨8, .data⟩ (by simp) rfl 38 rfl
        rw [Vals.eval_tmp] at g38
        obtain ⟨a2, c2, r38, hr2⟩ := g38
        refine Vals.wpOp_run ho' rfl ?_
        clear hdep hfr ho' hdf
        go_simp
        refine (copyBytes_any a2 m c2 _ W hr2 (by omega)).mono ?_
        rintro e w' ⟨a3, rfl, hb3, hk3⟩
        exact hK _ _ (gmono hb3) (hJ.trans (hb3.mono hJ.size)) (fun _ => ⟨_, rfl, hk3.lower hJ.size⟩)
      | 10, ho, hd =>
        have ho' := ho
        simp only [List.getElem?_toArray, List.getElem?_cons_zero, List.getElem?_cons_succ, Option.some.injEq] at ho hd
        subst ho hd
        have r32 : a.eval (.tmp 32) = .int .u8 k0 := hdep ⟨2, .data⟩ (by simp) rfl 32 rfl
        rw [Vals.eval_tmp] at r32
        have r35 : a.eval (.tmp 35) = .int .u8 k1 := hdep ⟨5, .data⟩ (by simp) rfl 35 rfl
        rw [Vals.eval_tmp] at r35
        have g39 : ∃ a2, (a.eval (.tmp 39)) = .slice a2 m m ∧ Row8 w1.heap.size W a2 m m ((zs.drop 4).take m) := hdep ⟨9, .data⟩ (by simp) rfl 39 rfl
        rw [Vals.eval_tmp] at g39
        obtain ⟨a2, r39, hr2⟩ := g39
        refine Vals.wpOp_run ho' rfl ?_
        clear hdep hfr ho' hdf
        go_simp
        exact hK _ _ (fun _ _ h => h) hJ (fun _ => ⟨_, rfl, hr2⟩)
      | 11, ho, hd =>
        have ho' := ho
        simp only [List.getElem?_toArray, List.getElem?_cons_zero, List.getElem?_cons_succ, Option.some.injEq] at ho hd
        subst ho hd
        refine Vals.wpOp_run ho' rfl ?_
        clear hdep hfr ho' hdf
        go_simp
        have hb3 : Below W.heap.size W (W.alloc (.cells #[.int .u8 0, .int .u8 0, .slice none 0 0] 41)) := (Below.refl _ _).alloc (Nat.le_refl _) _
        exact hK _ _ (gmono hb3) (hJ.trans (hb3.mono hJ.size)) (fun _ => ⟨_, rfl, hJ.size, arr_new _ _ _⟩)
      | i + 12, ho, hd => omega
  case fin =>
    intro W f hJ hG
    have q0 : f 30 = .slice (some ⟨b, off, none⟩) n c := hG 0 30 rfl
    have q1 : f 31 = .pointer (some ⟨b, off, none⟩) := hG 1 31 rfl
    have q2 : f 32 = .int .u8 k0 := hG 2 32 rfl
    have q3 : f 33 = .slice (some ⟨b, off, none⟩) n c := hG 3 33 rfl
    have q4 : f 34 = .pointer (some ⟨b, off + 1, none⟩) := hG 4 34 rfl
    have q5 : f 35 = .int .u8 k1 := hG 5 35 rfl
    have q6 : f 36 = .slice (some ⟨b, off, none⟩) n c := hG 6 36 rfl
    have q7 : f 37 = .int .i64 L := hG 7 37 rfl
    obtain ⟨a8, c8, q8, r8⟩ : ∃ a2 c2, f 38 = .slice a2 m c2 ∧ Reads W a2 m ((zs.drop 4).take m) := hG 8 38 rfl
    obtain ⟨a9, q9, r9⟩ : ∃ a2, f 39 = .slice a2 m m ∧ Row8 w1.heap.size W a2 m m ((zs.drop 4).take m) := hG 9 39 rfl
    obtain ⟨a10, q10, r10⟩ : ∃ a2, f 40 = .agg #[.int .u8 k0, .int .u8 k1, .slice a2 m m] ∧ Row8 w1.heap.size W a2 m m ((zs.drop 4).take m) := hG 10 40 rfl
    obtain ⟨g, q11, hg, ha⟩ : ∃ g, f 8 = .pointer (some ⟨g, 0, none⟩) ∧ w1.heap.size ≤ g ∧ Arr W g 41 [.int .u8 0, .int .u8 0, .slice none 0 0] := hG 11 8 rfl
    clear hG
    refine Vals.wpOp_run rfl rfl ?_
    simp only [Vals.puts, Vals.pairs, List.filterMap_cons, List.filterMap_nil, id, List.map_cons, List.map_nil, List.foldl_cons, List.foldl_nil, q0, q1, q2, q3, q4, q5, q6, q7, q8, q9, q10, q11]
    clear q0 q1 q2 q3 q4 q5 q6 q7 q8 q9 q10 q11 r8 r9
    go_frame
    have f0 := ha.free 0
    have f1 := ha.free 1
    have f2 := ha.free 2
    have c0 := ha.cell (i := 0) rfl
    have c1 := ha.cell (i := 1) rfl
    have c2 := ha.cell (i := 2) rfl
    obtain ⟨W4, hW4⟩ : ∃ W4, ((W.setCell ⟨g, 0, none⟩ (.int .u8 k0)).setCell ⟨g, 1, none⟩ (.int .u8 k1)).setCell ⟨g, 2, none⟩ (.slice a10 m m) = W4 := ⟨_, rfl⟩
    have h4 := box3 ha (.int .u8 k0) (.int .u8 k1) (.slice a10 m m)
    have hb4 := below3 (hJ : Below w1.heap.size w1 W) hg (.int .u8 k0) (.int .u8 k1) (.slice a10 m m)
    have hr4 := ((r10.setAt ha (by decide) 0 (.int .u8 k0)).setAt (ha.set 0 (.int .u8 k0)) (by decide) 1 (.int .u8 k1)).setAt ((ha.set 0 (.int .u8 k0)).set 1 (.int .u8 k1)) (by decide) 2 (.slice a10 m m)
    rw [hW4] at h4 hb4 hr4
    have H4 := Lib.hid (And.intro h4 (And.intro hb4 hr4))
    have hng : ∀ p, a10 = some p → w1.heap.size ≤ p.block := fun p hp => (r10.far p hp).1
    have HNG := Lib.hid hng
    clear h4 hb4 hr4 ha hg hJ r10 hng
    go_simp
    have d0 := H4.out.1.cell (i := 0) rfl
    have d1 := H4.out.1.cell (i := 1) rfl
    have d2 := H4.out.1.cell (i := 2) rfl
    have hw := rwrite_yes k0 k1 a10 m m _ W4 H4.out.2.2.reads hm2
    generalize hU : up4 (4 + m) = U at hw
    have hUge : 4 + m ≤ U := by have := up4_ge (4 + m); omega
    have hUle : U ≤ 4 + m + 3 := by have := up4_le (4 + m); omega
    have HU := Lib.hid hU
    have HWr := Lib.hid hw
    clear hw hU hW4 f0 f1 f2 c0 c1 c2
    go_wp2_with fail
    refine HWr.out.mono ?_
    rintro e W5 ⟨a5, c5, rfl, hr5, hb5⟩
    have hb51 := H4.out.2.1.trans (hb5.mono H4.out.2.1.size)
    have hc5 := HR.out.2.1.keep hb51
    have hb5w := HR.out.2.2.trans (hb51.mono HR.out.2.2.size)
    have hr5r := hr5.reads
    have ha5 := (H4.out.1.keep hb5)
    have hzr := HR.out.1.below hb51
    by_cases hnu : n < U
    · have hnu2 : (n : Int) < (U : Int) := by omega
      clear d0 d1 d2
      have hno : ∀ (k f : Int) (body : List Int), body.length ≤ 65531 → ¬ encC k f body <+: zs := by
        intro k f body hl hp
        obtain ⟨p1, p2, p3, p4, p5, p6, p7⟩ := pre_parts hp hl
        have h1 := HLz.out.1
        have hlen : zs.length = n := HR.out.1.1
        have h6 : body.length = m := by omega
        rw [h6] at p3 p6
        have hUU := HU.out
        omega
      have f0 := hc5.free 0
      have f1 := hc5.free 1
      have f2 := hc5.free 2
      have c0 := hc5.cell (i := 0) rfl
      have c1 := hc5.cell (i := 1) rfl
      have c2 := hc5.cell (i := 2) rfl
      have hend := box3 hc5 (.int .u8 0) (.int .u8 0) (.slice none 0 0)
      have hbl := below3 hb5w (Nat.le_refl _) (.int .u8 0) (.int .u8 0) (.slice none 0 0) (g := w.heap.size)
      have HE := Lib.hid (And.intro hend (And.intro hbl hno))
      clear hend hbl hno hc5 hb5w
      go_wp2_with fail
      have d0 := HE.out.1.cell (i := 0) rfl
      have d1 := HE.out.1.cell (i := 1) rfl
      have d2 := HE.out.1.cell (i := 2) rfl
      have hbl := HE.out.2
      clear HE c0 c1 c2 f0 f1 f2
      generalize ((W5.setCell _ _).setCell _ _).setCell _ _ = W9 at *
      exact bodyPost_ret (by simp [results, Try.results45, go_sem, d0, d1, d2]; rfl) rfl ⟨.inr ⟨hbl.2, rfl⟩, hbl.1⟩
    · have hnu2 : ¬ (n : Int) < (U : Int) := by omega
      have hcut := fun W => cut_h (some ⟨b, off, none⟩) n c U (by omega) W
      have hrc := reads_cut hzr 0 U (by omega) (by omega) hc
      rw [show U - 0 = U from rfl, List.drop_zero] at hrc
      have heq := eqBytes_any a5 (cutA (some ⟨b, off, none⟩) 0 c) U c5 c U _ _ W5 hr5r hrc (encC_byt (by have := HLz.out.2.1.getD 0; rw [HK.out.1] at this; exact this.1) (by have := HLz.out.2.1.getD 0; rw [HK.out.1] at this; exact this.2) (by have := HLz.out.2.1.getD 1; rw [HK.out.2] at this; exact this.1) (by have := HLz.out.2.1.getD 1; rw [HK.out.2] at this; exact this.2) ((HLz.out.2.1.drop 4).take m)) (HLz.out.2.1.take U) (by omega) (by omega)
      by_cases hD : encC k0 k1 ((zs.drop 4).take m) = zs.take U
      · rw [show decide (encC k0 k1 ((zs.drop 4).take m) = zs.take U) = true from by simpa using hD] at heq
        have hpre : encC k0 k1 ((zs.drop 4).take m) <+: zs ∧ ((zs.drop 4).take m).length = m := by
          have hlen : zs.length = n := HR.out.1.1
          exact ⟨by rw [hD]; exact List.take_prefix _ _, by simp; omega⟩
        have HEQ := Lib.hid heq
        have H5 := Lib.hid (And.intro hc5 (And.intro hb5w (And.intro ha5 (And.intro hpre (H4.out.2.2.keep hb5)))))
        clear heq hD hpre hc5 hb5w ha5 hr5 hr5r hzr hrc hb5 hb51 d0 d1 d2
        go_wp2_with fail
        refine HEQ.out.mono ?_
        rintro e W6 ⟨rfl, hb6, _⟩
        have hc6 := H5.out.1.keep hb6
        have ha6 := H5.out.2.2.1.keep hb6
        have hb6w := H5.out.2.1.trans (hb6.mono H5.out.2.1.size)
        have hrd6 := H5.out.2.2.2.2.keep hb6
        have e0 := ha6.cell (i := 0) rfl
        have e1 := ha6.cell (i := 1) rfl
        have e2 := ha6.cell (i := 2) rfl
        have f0 := hc6.free 0
        have f1 := hc6.free 1
        have f2 := hc6.free 2
        have c0 := hc6.cell (i := 0) rfl
        have c1 := hc6.cell (i := 1) rfl
        have c2 := hc6.cell (i := 2) rfl
        have hend := box3 hc6 (.int .u8 k0) (.int .u8 k1) (.slice a10 m m)
        have hbl := below3 hb6w (Nat.le_refl _) (.int .u8 k0) (.int .u8 k1) (.slice a10 m m) (g := w.heap.size)
        have hre := (((hrd6.setAt hc6 (by decide) 0 (.int .u8 k0)).setAt (hc6.set 0 (.int .u8 k0)) (by decide) 1 (.int .u8 k1)).setAt ((hc6.set 0 (.int .u8 k0)).set 1 (.int .u8 k1)) (by decide) 2 (.slice a10 m m)).lower (Nat.zero_le _)
        have HE := Lib.hid (And.intro hend (And.intro hbl (And.intro hre H5.out.2.2.2.1)))
        clear hend hbl hre hc6 ha6 hb6w hrd6 hb6 HEQ
        go_wp2_with fail
        have d0 := HE.out.1.cell (i := 0) rfl
        have d1 := HE.out.1.cell (i := 1) rfl
        have d2 := HE.out.1.cell (i := 2) rfl
        obtain ⟨_, hbl, hre, hp1, hp2⟩ := HE.out
        clear HE c0 c1 c2 f0 f1 f2 e0 e1 e2
        generalize ((W6.setCell _ _).setCell _ _).setCell _ _ = W9 at *
        refine bodyPost_ret (by simp [results, Try.results45, go_sem, d0, d1, d2]; rfl) rfl ⟨.inl ⟨k0, k1, _, a10, by omega, hp1, ?_, by rw [hp2]; exact hre⟩, hbl⟩
        rw [hp2, HU.out]
      · rw [show decide (encC k0 k1 ((zs.drop 4).take m) = zs.take U) = false from by simpa using hD] at heq
        have HD := Lib.hid hD
        have hno : ∀ (k f : Int) (body : List Int), body.length ≤ 65531 → ¬ encC k f body <+: zs := by
          intro k f body hl hp
          obtain ⟨p1, p2, p3, p4, p5, p6, p7⟩ := pre_parts hp hl
          have h1 := HLz.out.1
          have hlen : zs.length = n := HR.out.1.1
          have h6 : body.length = m := by omega
          rw [h6] at p3 p6
          have hUU := HU.out
          have h8 := HD.out
          apply h8
          rw [← HK.out.1, ← HK.out.2, p4, p5, p6]
          obtain ⟨rest, hrest⟩ := hp
          have h9 := encC_len k f body
          rw [h6] at h9
          rw [← hrest, ← hUU, ← h9]
          simp
        have HEQ := Lib.hid heq
        have H5 := Lib.hid (And.intro hc5 (And.intro hb5w hno))
        clear heq hD hc5 hb5w ha5 hr5 hr5r hzr hrc hb5 hb51 d0 d1 d2 hno
        go_wp2_with fail
        refine HEQ.out.mono ?_
        rintro e W6 ⟨rfl, hb6, _⟩
        have hc5 := H5.out.1.keep hb6
        have hb5w := H5.out.2.1.trans (hb6.mono H5.out.2.1.size)
        have hno := H5.out.2.2
        clear H5 hb6 HEQ
        have f0 := hc5.free 0
        have f1 := hc5.free 1
        have f2 := hc5.free 2
        have c0 := hc5.cell (i := 0) rfl
        have c1 := hc5.cell (i := 1) rfl
        have c2 := hc5.cell (i := 2) rfl
        have hend := box3 hc5 (.int .u8 0) (.int .u8 0) (.slice none 0 0)
        have hbl := below3 hb5w (Nat.le_refl _) (.int .u8 0) (.int .u8 0) (.slice none 0 0) (g := w.heap.size)
        have HE := Lib.hid (And.intro hend (And.intro hbl hno))
        clear hend hbl hno hc5 hb5w
        go_wp2_with fail
        have d0 := HE.out.1.cell (i := 0) rfl
        have d1 := HE.out.1.cell (i := 1) rfl
        have d2 := HE.out.1.cell (i := 2) rfl
        have hbl := HE.out.2
        clear HE c0 c1 c2 f0 f1 f2
        generalize ((W6.setCell _ _).setCell _ _).setCell _ _ = W9 at *
        exact bodyPost_ret (by simp [results, Try.results45, go_sem, d0, d1, d2]; rfl) rfl ⟨.inr ⟨hbl.2, rfl⟩, hbl.1⟩
end Go.Proofs.Ytnndlpbbllmpjaa

/-
  The reference's Read (layer 8) whatever the bytes are.
-/
namespace Go.Proofs.Ytnndlpbbllmpjaa
open Go.RowKit
set_option linter.unusedVariables false

theorem rread_any (a : Option Addr) (n c : Nat) (zs : List Int) (w : World) (hr : Reads w a n zs) (hb : Byt zs) (hc : n ≤ c) (hn : n ≤ 1099511627776) :
    Calls Try.prog 45 #[.slice a n c] w fun e w' => RefOk zs w' e ∧ Below w.heap.size w w' := by
  have hl := hr.1
  by_cases h4 : n < 4
  · exact (rread_no1 a n c zs w hr hc h4).mono fun e w' ⟨h1, h2⟩ => ⟨.inr ⟨fun k f body hb' hp => by have := (pre_parts hp hb').1; omega, h1⟩, h2⟩
  · by_cases hL : lenOf zs < 4 ∨ (n : Int) < lenOf zs
    · refine (rread_no2 a n c zs w hr hb hc (by omega) hn hL).mono fun e w' ⟨h1, h2⟩ => ⟨.inr ⟨fun k f body hb' hp => ?_, h1⟩, h2⟩
      obtain ⟨_, p2, p3, _⟩ := pre_parts hp hb'
      have := up4_ge (4 + body.length)
      omega
    · exact rread_main a n c (lenOf zs - 4).toNat zs w hr hb hc hn (by omega) (by omega)
theorem RefOk.yes {zs : List Int} {w' : World} {e : Ending} (h : RefOk zs w' e) {k f : Int} {body : List Int} (hp : encC k f body <+: zs) (hl : body.length ≤ 65531) :
    ∃ a, e = .returned (.tuple #[.agg #[.int .u8 k, .int .u8 f, .slice a body.length body.length], .int .i64 (up4 (4 + body.length) : Nat), .int .i64 0]) ∧ Reads w' a body.length body := by
  rcases h with ⟨k', f', body', a, hl', hp', he, hk⟩ | ⟨hn, _⟩
  · obtain ⟨rfl, rfl, rfl⟩ := pre_unique hp hp' hl hl'
    exact ⟨a, he, hk.reads⟩
  · exact absurd hp (hn k f body hl)
theorem RefOk.no {zs : List Int} {w' : World} {e : Ending} (h : RefOk zs w' e) (hn : ∀ (k f : Int) (body : List Int), body.length ≤ 65531 → ¬ encC k f body <+: zs) : e = .returned noChunk := by
  rcases h with ⟨k', f', body', a, hl', hp', he, hk⟩ | ⟨_, he⟩
  · exact absurd hp' (hn k' f' body' hl')
  · exact he
theorem no_short {zs : List Int} (h : zs.length < 4) : ∀ (k f : Int) (body : List Int), body.length ≤ 65531 → ¬ encC k f body <+: zs := fun k f body hb' hp => by have := (pre_parts hp hb').1; omega
end Go.Proofs.Ytnndlpbbllmpjaa

/-
  The contract of package chunk's Write.
-/
namespace Go.Proofs.Ytnndlpbbllmpjaa
open Go.RowKit
set_option linter.unusedVariables false

set_option maxHeartbeats 800000 in
theorem write_no (k f : Int) (a : Option Addr) (n c : Nat) (w : World) (hn : 65531 < n) :
    Calls Try.prog 33 #[.agg #[.int .u8 k, .int .u8 f, .slice a n c]] w fun e w' => e = .returned (.slice none 0 0) ∧ Below w.heap.size w w' := by
  have hg : (65531 : Int) < n := by omega
  go_enter Try.func33, Try.ntmps33
  go_wp2
  go_ret
  exact ⟨rfl, (Below.refl _ _).alloc (Nat.le_refl _) _⟩

set_option maxHeartbeats 1600000 in
theorem write_yes (k f : Int) (a : Option Addr) (n c : Nat) (zs : List Int) (w : World) (hr : Reads w a n zs) (hn : n ≤ 65531) :
    Calls Try.prog 33 #[.agg #[.int .u8 k, .int .u8 f, .slice a n c]] w fun e w' =>
      ∃ g, e = .returned (.slice (some ⟨g, 0, none⟩) (up4 (4 + n)) (up4 (4 + n))) ∧ w.heap.size ≤ g ∧ Blk w' g (encC k f zs) ∧ Below w.heap.size w w' := by
  have hl := hr.1
  have hg : ¬ (65531 : Int) < n := by omega
  have g0 : (0 : Int) ≤ 4 + (n : Int) := by omega
  obtain ⟨w0, hw0⟩ : ∃ w0, w.alloc (.cells #[.int .u8 k, .int .u8 f, .slice a n c] 41) = w0 := ⟨_, rfl⟩
  have hb0 : Below w.heap.size w w0 := by rw [← hw0]; exact (Below.refl _ _).alloc (Nat.le_refl _) _
  have hs0 : w0.heap.size = w.heap.size + 1 := by rw [← hw0]; simp
  have ha0 : Arr w0 w.heap.size 41 [.int .u8 k, .int .u8 f, .slice a n c] := by rw [← hw0]; exact arr_new _ _ _
  obtain ⟨w1, hw1⟩ : ∃ w1, w0.alloc (.cells #[.int .u8 k, .int .u8 f] 5) = w1 := ⟨_, rfl⟩
  have hb1 : Below w0.heap.size w0 w1 := by rw [← hw1]; exact (Below.refl _ _).alloc (Nat.le_refl _) _
  have hs1 : w1.heap.size = w0.heap.size + 1 := by rw [← hw1]; simp
  have hk1 : Blk w1 w0.heap.size [k, f] := by rw [← hw1]; exact heap_alloc_new _ _
  have c00 := ha0.cell (i := 0) rfl
  have c01 := ha0.cell (i := 1) rfl
  have c02 := ha0.cell (i := 2) rfl
  have c12 := (ha0.keep hb1).cell (i := 2) rfl
  have hput := put_yes (some ⟨w0.heap.size, 0, none⟩) 2 2 2 (4 + (n : Int)) [k, f] w1 (hk1.readsAll 2 rfl) (by omega) (by omega) (by omega) rfl
  have HP := Lib.hid hput
  have H0 := Lib.hid (And.intro (hb0.trans (hb1.mono (by omega))) (And.intro (hr.below hb0 |>.below hb1) (ha0.keep hb1)))
  have HS := Lib.hid (And.intro hs0 hs1)
  clear hb0 hb1 hk1 ha0 hput hr hs0 hs1
  go_enter Try.func33, Try.ntmps33
  go_wp2_with fail
  refine HP.out.mono ?_
  rintro e w2 ⟨rfl, hb2, hk2⟩
  have hb2w : Below w.heap.size w w2 := H0.out.1.trans (hb2.mono H0.out.1.size)
  have c22 := (H0.out.2.2.keep hb2).cell (i := 2) rfl
  have hr2 := H0.out.2.1.below hb2
  have hrow : Row8 w1.heap.size w2 (some ⟨w1.heap.size, 0, none⟩) 4 4 ([k, f] ++ enc (4 + (n : Int)) 2) := Row8.of_blk hk2 (Nat.le_refl _) (by simp) (by decide)
  obtain ⟨a3, c3, w3, happ, H3⟩ := hrow.appends (by have := hb2.size; omega) a n c zs hr2 (by omega)
  have hb3w : Below w.heap.size w w3 := hb2w.trans (H3.out.2.mono H0.out.1.size)
  have hpad := pad_any a3 (4 + n) c3 _ w3 H3.out.1.reads (by omega)
  have HPA := Lib.hid hpad
  have HB3 := Lib.hid hb3w
  clear hb2 hk2 hb2w hr2 hrow hpad H3 HP c00 c01 c02 c12 hw0 hw1
  go_wp2_with (at_builtin; refine wpList_append_run rfl _ _ _ rfl _ _ _ _ rfl rfl happ ?_)
  clear happ
  refine HPA.out.mono ?_
  rintro e w4 ⟨rfl, hb4, hk4⟩
  have HE := Lib.hid (And.intro HB3.out.size (And.intro hk4 (HB3.out.trans (hb4.mono HB3.out.size))))
  clear hb4 hk4 HPA HB3
  go_wp2
  go_ret
  refine ⟨_, rfl, HE.out.1, ?_, HE.out.2.2⟩
  have h := HE.out.2.1
  unfold encC
  rw [hl]
  exact h
end Go.Proofs.Ytnndlpbbllmpjaa

/-
  The reference of layer 8: Same, where it is true.
-/
namespace Go.Proofs.Ytnndlpbbllmpjaa
open Go.RowKit
set_option linter.unusedVariables false

set_option maxHeartbeats 800000 in
theorem same_yes (k f : Int) (a b : Option Addr) (n ca cb : Nat) (zs : List Int) (w : World) (ha : Reads w a n zs) (hb : Reads w b n zs) (hz : Byt zs) (hn : n ≤ 281474976710656) :
    Calls Try.prog 40 #[.agg #[.int .u8 k, .int .u8 f, .slice a n ca], .agg #[.int .u8 k, .int .u8 f, .slice b n cb]] w fun e w' => e = .returned (.bool true) ∧ Below w.heap.size w w' := by
  obtain ⟨w0, hw0⟩ : ∃ w0, w.alloc (.cells #[.int .u8 k, .int .u8 f, .slice a n ca] 41) = w0 := ⟨_, rfl⟩
  have hb0 : Below w.heap.size w w0 := by rw [← hw0]; exact (Below.refl _ _).alloc (Nat.le_refl _) _
  have hs0 : w0.heap.size = w.heap.size + 1 := by rw [← hw0]; simp
  have ha0 : Arr w0 w.heap.size 41 [.int .u8 k, .int .u8 f, .slice a n ca] := by rw [← hw0]; exact arr_new _ _ _
  obtain ⟨w1, hw1⟩ : ∃ w1, w0.alloc (.cells #[.int .u8 k, .int .u8 f, .slice b n cb] 41) = w1 := ⟨_, rfl⟩
  have hb1 : Below w0.heap.size w0 w1 := by rw [← hw1]; exact (Below.refl _ _).alloc (Nat.le_refl _) _
  have hs1 : w1.heap.size = w0.heap.size + 1 := by rw [← hw1]; simp
  have hk1 : Arr w1 w0.heap.size 41 [.int .u8 k, .int .u8 f, .slice b n cb] := by rw [← hw1]; exact arr_new _ _ _
  have ha1 := ha0.keep hb1
  have c0 := ha1.cell (i := 0) rfl
  have c1 := ha1.cell (i := 1) rfl
  have c2 := ha1.cell (i := 2) rfl
  have d0 := hk1.cell (i := 0) rfl
  have d1 := hk1.cell (i := 1) rfl
  have d2 := hk1.cell (i := 2) rfl
  have heq := eqBytes_yes a b n ca cb n zs zs w1 ((ha.below hb0).below hb1) ((hb.below hb0).below hb1) hz hn rfl
  have HE := Lib.hid heq
  have HB := Lib.hid (And.intro (hb0.trans (hb1.mono hb0.size)) (And.intro hs0 hs1))
  clear ha hb heq hb0 hb1 hs0 hs1 ha0 ha1 hk1
  go_enter Try.func40, Try.ntmps40
  go_wp2_with fail
  refine HE.out.mono ?_
  rintro e w2 ⟨rfl, hb2, _⟩
  have hB := Lib.hid (HB.out.1.trans (hb2.mono HB.out.1.size))
  clear hb2 HE
  go_wp2
  go_ret
  exact ⟨rfl, hB.out⟩
theorem same_any (k f : Int) (a b : Option Addr) (n n' ca cb : Nat) (zs : List Int) (w : World) (ha : Reads w a n zs) (hb : Reads w b n' zs) (hz : Byt zs) (hn : n ≤ 281474976710656) :
    Calls Try.prog 40 #[.agg #[.int .u8 k, .int .u8 f, .slice a n ca], .agg #[.int .u8 k, .int .u8 f, .slice b n' cb]] w fun e w' => e = .returned (.bool true) ∧ Below w.heap.size w w' := by
  obtain rfl : n = n' := ha.1.symm.trans hb.1
  exact same_yes k f a b n ca cb zs w ha hb hz hn
end Go.Proofs.Ytnndlpbbllmpjaa

/-
  Write (layer 8), the program's and the reference's, whatever the body is; rows that were made just now.
-/
namespace Go.Proofs.Ytnndlpbbllmpjaa
open Go.RowKit
set_option linter.unusedVariables false

/-- What Write answers. -/
def encOf (k f : Int) (zs : List Int) : List Int := if zs.length ≤ 65531 then encC k f zs else []
theorem encOf_yes {k f : Int} {zs : List Int} (h : zs.length ≤ 65531) : encOf k f zs = encC k f zs := by unfold encOf; rw [if_pos h]
theorem encOf_no {k f : Int} {zs : List Int} (h : ¬ zs.length ≤ 65531) : encOf k f zs = [] := by unfold encOf; rw [if_neg h]
theorem encOf_byt {k f : Int} {zs : List Int} (k0 : 0 ≤ k) (k1 : k < 256) (f0 : 0 ≤ f) (f1 : f < 256) (hz : Byt zs) : Byt (encOf k f zs) := by
  by_cases h : zs.length ≤ 65531
  · rw [encOf_yes h]; exact encC_byt k0 k1 f0 f1 hz
  · rw [encOf_no h]; exact Byt.nil
theorem encOf_len (k f : Int) (zs : List Int) : (encOf k f zs).length ≤ 65538 := by
  by_cases h : zs.length ≤ 65531
  · rw [encOf_yes h, encC_len]; have := up4_le (4 + zs.length); omega
  · rw [encOf_no h]; simp

/-- A row that holds just these bytes, made behind 'base'. -/
structure Made (base : Nat) (w : World) (r : ARow) (bs : List Int) : Prop where
  ok : r.ok w
  val : r.val = .slice r.addr bs.length bs.length
  far : ∀ b, r.blk = some b → base ≤ b
  reads : Reads w r.addr bs.length bs
theorem Made.keep {base : Nat} {w w' : World} {r : ARow} {bs : List Int} (h : Made base w r bs) (hb : Below w.heap.size w w') : Made base w' r bs :=
  ⟨ARow.ok_of h.ok (fun g hg hl => hb.block g hl), h.val, h.far, h.reads.below hb⟩
theorem Made.lower {base base' : Nat} {w : World} {r : ARow} {bs : List Int} (h : Made base w r bs) (hb : base' ≤ base) : Made base' w r bs := ⟨h.ok, h.val, fun b e => by have := h.far b e; omega, h.reads⟩
theorem Made.lt {base : Nat} {w : World} {r : ARow} {bs : List Int} (h : Made base w r bs) (b : Nat) (e : r.blk = some b) : b < w.heap.size := by
  have h0 := h.ok
  match r, h0, e with
  | some (g, _, _), h0, e => cases e; exact h0.1.lt

theorem write_any (k f : Int) (a : Option Addr) (n c : Nat) (zs : List Int) (w : World) (hr : Reads w a n zs) (hz : Byt zs) (k0 : 0 ≤ k) (k1 : k < 256) (f0 : 0 ≤ f) (f1 : f < 256) :
    Calls Try.prog 33 #[.agg #[.int .u8 k, .int .u8 f, .slice a n c]] w fun e w' =>
      ∃ r : ARow, e = .returned (.slice r.addr (encOf k f zs).length (encOf k f zs).length) ∧ Made w.heap.size w' r (encOf k f zs) ∧ Below w.heap.size w w' := by
  have hl := hr.1
  by_cases hn : n ≤ 65531
  · refine (write_yes k f a n c zs w hr hn).mono ?_
    rintro e w' ⟨g, rfl, hg, hk, hb⟩
    rw [encOf_yes (by omega)]
    have hlen : (encC k f zs).length = up4 (4 + n) := by rw [encC_len, hl]
    have := up4_le (4 + n)
    refine ⟨some (g, (encC k f zs).length, encC k f zs), by rw [hlen]; rfl, ⟨⟨hk, encC_byt k0 k1 f0 f1 hz, Nat.le_refl _, by omega⟩, rfl, ?_, hk.readsAll _ rfl⟩, hb⟩
    intro b e
    cases e
    exact hg
  · refine (write_no k f a n c w (by omega)).mono ?_
    rintro e w' ⟨rfl, hb⟩
    rw [encOf_no (by omega)]
    exact ⟨none, rfl, ⟨trivial, rfl, fun b e => (by cases e), Reads.zero _ _⟩, hb⟩
theorem rwrite_any (k f : Int) (a : Option Addr) (n c : Nat) (zs : List Int) (w : World) (hr : Reads w a n zs) :
    Calls Try.prog 53 #[.agg #[.int .u8 k, .int .u8 f, .slice a n c]] w fun e w' =>
      ∃ a' c', e = .returned (.slice a' (encOf k f zs).length c') ∧ Reads w' a' (encOf k f zs).length (encOf k f zs) ∧ Below w.heap.size w w' := by
  have hl := hr.1
  by_cases hn : n ≤ 65531
  · refine (rwrite_yes k f a n c zs w hr hn).mono ?_
    rintro e w' ⟨a', c', rfl, hrow, hb⟩
    rw [encOf_yes (by omega)]
    have hlen : (encC k f zs).length = up4 (4 + n) := by rw [encC_len, hl]
    rw [hlen]
    exact ⟨a', c', rfl, hrow.reads, hb⟩
  · refine (rwrite_no k f a n c w (by omega)).mono ?_
    rintro e w' ⟨rfl, hb⟩
    rw [encOf_no (by omega)]
    exact ⟨none, 0, rfl, Reads.zero _ _, hb⟩
end Go.Proofs.Ytnndlpbbllmpjaa

/-
  A slice of chunks that came in: its elements, each of them two bytes and a row of bytes.
-/
namespace Go.Proofs.Ytnndlpbbllmpjaa
open Go.ChangeShapes Go.WideShapes Go.Deep Go.RowKit
set_option linter.unusedVariables false

section
variable {H : Type} {enc : TypeId × Value → H} {P : Program} {w : World} {base : Nat} {spare : Nat → Bool} {held : Bool}
/-- A slice of structs whose fields are one cell each: its cells, and what each of them leads to. -/
theorem open_cell_structs {t e : TypeId} {fs : Array Field} {fuel : Nat} {cs : List Value} {x : DataW H × List MemPlace} (ht : P.underlying t = some (.slice e)) (he : P.underlying e = some (.struct fs))
    (hone : oneCellFields P fs = true) (hC : P.cellsOf e = fs.size) (h : DataW.trod enc P w base spare held fuel t cs = some x) :
    cs = [.slice none 0 0] ∨ ∃ (a : Addr) (len cap m : Nat), cs = [.slice (some a) len cap] ∧ len ≤ cap ∧ cap ≤ maxLen ∧ len ≤ m ∧
      ∀ i, i < m → ∃ cs' : List Value, cs'.length = fs.size ∧ ∀ (j : Nat) f v, fs[j]? = some f → cs'[j]? = some v → w.cell? (a.add (i * fs.size + j)) = some v ∧ ∃ n y, DataW.trod enc P w base spare held n f.type [v] = some y := by
  rcases open_slice ht h with h0 | ⟨a, len, cap, m, n, D, Pl, hcs, hb, hl, hm, hmm, hx, hi⟩
  · exact .inl h0.1
  refine .inr ⟨a, len, cap, m, hcs, hl, hm, by rw [hmm]; split <;> omega, fun i him => ?_⟩
  obtain ⟨cs', hc, ht'⟩ := hi i him
  rw [hC] at hc
  obtain ⟨_, hlen, hcell⟩ := World.cells?_some hc
  refine ⟨cs', hlen, fun j f v hf hv => ?_⟩
  obtain ⟨hjc, rfl⟩ := List.getElem?_eq_some_iff.1 hv
  obtain ⟨ys, n', _, _, _, _, hfld⟩ := DataW.trod_struct he ht'
  obtain ⟨ho, h1⟩ := hone_of hone j f hf
  have h2 := hfld j f hf
  rw [ho, h1] at h2
  have h3 : (cs'.drop j).take 1 = [cs'[j]] := by
    rw [List.drop_eq_getElem_cons hjc]; rfl
  rw [h3] at h2
  refine ⟨by rw [← add_add, hcell j (by omega)]; simp [hjc], n', ?_⟩
  cases hy : DataW.trod enc P w base spare held n' f.type [cs'[j]] with
  | none =>
    rw [hy] at h2
    have : j < ys.length := by have := (Array.getElem?_eq_some_iff.1 hf).1; omega
    simp [this] at h2
  | some y => exact ⟨y, rfl⟩
end

/-- A chunk as it lies in a slice. -/
structure Ck where
  k : Int
  f : Int
  a : Option Addr
  n : Nat
  c : Nat
  zs : List Int
deriving Inhabited
structure CkOk (w : World) (r : Ck) : Prop where
  k : 0 ≤ r.k ∧ r.k < 256
  f : 0 ≤ r.f ∧ r.f < 256
  reads : Reads w r.a r.n r.zs
  byt : Byt r.zs
  le : r.n ≤ r.c
  cap : r.c ≤ maxLen
theorem CkOk.below {w w' : World} {r : Ck} (h : CkOk w r) (hb : Below w.heap.size w w') : CkOk w' r := ⟨h.k, h.f, h.reads.below hb, h.byt, h.le, h.cap⟩
structure RowsCk (w : World) (a : Option Addr) (len cap : Nat) (L : List Ck) : Prop where
  hlen : L.length = len
  hle : len ≤ cap
  hcap : cap ≤ maxLen
  at' : len = 0 ∨ ∃ b off, a = some ⟨b, off, none⟩ ∧ b < w.heap.size ∧ ∀ (i : Nat) r, L[i]? = some r → w.cell? ⟨b, off + i * 3, none⟩ = some (.int .u8 r.k) ∧ w.cell? ⟨b, off + i * 3 + 1, none⟩ = some (.int .u8 r.f) ∧ w.cell? ⟨b, off + i * 3 + 2, none⟩ = some (.slice r.a r.n r.c)
  row : ∀ r ∈ L, CkOk w r
theorem RowsCk.below {w w' : World} {a : Option Addr} {len cap : Nat} {L : List Ck} (h : RowsCk w a len cap L) (hb : Below w.heap.size w w') : RowsCk w' a len cap L := by
  refine ⟨h.hlen, h.hle, h.hcap, ?_, fun r hr => (h.row r hr).below hb⟩
  rcases h.at' with h0 | ⟨b, off, ha, hlt, hc⟩
  · exact .inl h0
  · refine .inr ⟨b, off, ha, Nat.lt_of_lt_of_le hlt hb.size, fun i r hr => ?_⟩
    obtain ⟨h1, h2, h3⟩ := hc i r hr
    exact ⟨(hb.cell (p := ⟨b, off + i * 3, none⟩) hlt).trans h1, (hb.cell (p := ⟨b, off + i * 3 + 1, none⟩) hlt).trans h2, (hb.cell (p := ⟨b, off + i * 3 + 2, none⟩) hlt).trans h3⟩
theorem RowsCk.get {w : World} {a : Option Addr} {len cap : Nat} {L : List Ck} (h : RowsCk w a len cap L) {i : Nat} (hi : i < len) : ∃ b off r, a = some ⟨b, off, none⟩ ∧ L[i]? = some r ∧ CkOk w r ∧
    w.cell? ⟨b, off + i * 3, none⟩ = some (.int .u8 r.k) ∧ w.cell? ⟨b, off + i * 3 + 1, none⟩ = some (.int .u8 r.f) ∧ w.cell? ⟨b, off + i * 3 + 2, none⟩ = some (.slice r.a r.n r.c) := by
  have hl : i < L.length := by rw [h.hlen]; exact hi
  rcases h.at' with h0 | ⟨b, off, ha, hlt, hc⟩
  · omega
  · exact ⟨b, off, L[i], ha, by simp [hl], h.row _ (List.getElem_mem hl), hc i _ (by simp [hl])⟩

theorem chunkFields : ∃ f0 f1 f2 : Field, Try.prog.underlying 41 = some (.struct #[f0, f1, f2]) ∧ f0.type = 5 ∧ f1.type = 5 ∧ f2.type = 29 :=
  ⟨_, _, _, Try.underlying41, rfl, rfl, rfl⟩

theorem rowsck_in {H : Type} {enc : TypeId × Value → H} {w : World} {base : Nat} {spare : Nat → Bool} {held : Bool} {fuel : Nat} {a : Option Addr} {len cap : Nat} {x : DataW H × List MemPlace}
    (h : DataW.trod enc Try.prog w base spare held fuel 23 [.slice a len cap] = some x) : ∃ L, RowsCk w a len cap L := by
  obtain ⟨f0, f1, f2, hu, t0, t1, t2⟩ := chunkFields
  have hone : oneCellFields Try.prog #[f0, f1, f2] = true := by
    have h1 : (match Try.prog.underlying 41 with | some (.struct fs) => oneCellFields Try.prog fs | _ => false) = true := by kernel_rfl
    rw [hu] at h1
    exact h1
  rcases open_cell_structs Try.underlying23 hu hone (by kernel_rfl) h with h0 | ⟨y, l, c, m, h0, hl, hm, hlm, hall⟩
  · simp only [List.cons.injEq, and_true, Value.slice.injEq] at h0
    obtain ⟨rfl, rfl, rfl⟩ := h0
    exact ⟨[], rfl, Nat.le_refl _, Nat.zero_le _, .inl rfl, fun r hr => by cases hr⟩
  · simp only [List.cons.injEq, and_true, Value.slice.injEq] at h0
    obtain ⟨rfl, rfl, rfl⟩ := h0
    have each : ∀ i, i < len → ∃ r : Ck, w.cell? (y.add (i * 3 + 0)) = some (.int .u8 r.k) ∧ w.cell? (y.add (i * 3 + 1)) = some (.int .u8 r.f) ∧ w.cell? (y.add (i * 3 + 2)) = some (.slice r.a r.n r.c) ∧ CkOk w r := by
      intro i hi
      obtain ⟨cs', hlen, hc⟩ := hall i (by omega)
      obtain ⟨v0, v1, v2, rfl⟩ : ∃ v0 v1 v2, cs' = [v0, v1, v2] := by
        match cs', hlen with
        | [v0, v1, v2], _ => exact ⟨v0, v1, v2, rfl⟩
      obtain ⟨d0, n0, y0, q0⟩ := hc 0 f0 v0 rfl rfl
      obtain ⟨d1, n1, y1, q1⟩ := hc 1 f1 v1 rfl rfl
      obtain ⟨d2, n2, y2, q2⟩ := hc 2 f2 v2 rfl rfl
      rw [t0] at q0
      rw [t1] at q1
      rw [t2] at q2
      obtain ⟨k, hk, _, hkw⟩ := DataW.trod_int Try.underlying5 q0
      obtain ⟨f, hf, _, hfw⟩ := DataW.trod_int Try.underlying5 q1
      simp only [List.cons.injEq, and_true] at hk hf
      subst hk hf
      have hk2 := wf_u8_in hkw
      have hf2 := wf_u8_in hfw
      rcases open_ints Try.underlying29 Try.underlying5 (by kernel_rfl) q2 with ⟨hv, _⟩ | ⟨x2, l', c', zs, hv, _, hl', hm', hz, _, hcell, hwz⟩
      · simp only [List.cons.injEq, and_true] at hv
        subst hv
        exact ⟨⟨k, f, none, 0, 0, []⟩, d0, d1, d2, ⟨hk2.1, Int.lt_of_le_of_lt hk2.2 (by decide)⟩, ⟨hf2.1, Int.lt_of_le_of_lt hf2.2 (by decide)⟩, ⟨rfl, .inl rfl⟩, Byt.nil, Nat.le_refl _, Nat.zero_le _⟩
      · simp only [List.cons.injEq, and_true] at hv
        subst hv
        have hzl : l' ≤ zs.length := by rw [hz]; split <;> omega
        exact ⟨⟨k, f, some x2, l', c', zs.take l'⟩, d0, d1, d2, ⟨hk2.1, Int.lt_of_le_of_lt hk2.2 (by decide)⟩, ⟨hf2.1, Int.lt_of_le_of_lt hf2.2 (by decide)⟩, reads_of_cells hzl hcell, byt_of_wf hwz l', hl', hm'⟩
    obtain ⟨L, hL, hp⟩ := choose_below len each
    refine ⟨L, hL, hl, hm, ?_, fun r hr => ?_⟩
    · by_cases h0 : len = 0
      · exact .inl h0
      · obtain ⟨r0, hr0⟩ : ∃ r, L[0]? = some r := ⟨L[0]'(by omega), by simp [show 0 < L.length by omega]⟩
        have h1 := (hp 0 r0 hr0).1
        obtain ⟨b, off, spot⟩ := y
        have hspot : spot = none := by simpa [Addr.add] using World.cell?_spot h1
        subst hspot
        have hadd : ∀ i, (⟨b, off, none⟩ : Addr).add i = ⟨b, off + i, none⟩ := by intro i; unfold Addr.add; split <;> simp_all
        rw [hadd] at h1
        refine .inr ⟨b, off, rfl, World.block_lt_of_cell? w _ h1, fun i r hr => ?_⟩
        obtain ⟨p0, p1, p2, _⟩ := hp i r hr
        rw [hadd] at p0 p1 p2
        exact ⟨p0, by rw [Nat.add_assoc]; exact p1, by rw [Nat.add_assoc]; exact p2⟩
    · obtain ⟨i, hi'⟩ := List.mem_iff_getElem?.1 hr
      exact (hp i r hi').2.2.2
end Go.Proofs.Ytnndlpbbllmpjaa
