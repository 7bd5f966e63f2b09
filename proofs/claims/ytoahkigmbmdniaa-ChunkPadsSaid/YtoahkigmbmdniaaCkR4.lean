/-
  The contract of package chunk's Read, where the length is one.
-/
import Derived.Test.YtoahkigmbmdniaaCkR3
import Derived.StillTailTactics
namespace Go.Proofs.Ytoahkigmbmdniaa
open Go.RowKit
set_option linter.unusedVariables false

/-- What lies while Read reads: the bytes' box, the result's, the place. -/
structure RSt (w : World) (gb gc ga : Nat) (a : Option Addr) (n c i : Nat) (W : World) : Prop where
  b : Below w.heap.size w W
  eb : Arr W gb 22 [.slice a n c]
  ec : Arr W gc 24 [.int .u8 0, .int .u8 0, .slice none 0 0]
  ea : Arr W ga 3 [.int .i64 i]
  la : w.heap.size ≤ ga
  lc : w.heap.size ≤ gc
  nb : gb ≠ ga
  nc : gc ≠ ga
theorem RSt.turn {w W W' : World} {gb gc ga : Nat} {a : Option Addr} {n c i i' : Nat} (h : RSt w gb gc ga a n c i W) (ht : Turn [ga] W W') (ha : Arr W' ga 3 [.int .i64 i']) : RSt w gb gc ga a n c i' W' :=
  ⟨h.b.trans (ht.below h.b.size (fun k hk => by simp at hk; subst hk; exact h.la)), (ht.block _ h.eb.lt (by simp; exact h.nb)).trans h.eb, (ht.block _ h.ec.lt (by simp; exact h.nc)).trans h.ec, ha, h.la, h.lc, h.nb, h.nc⟩
theorem RSt.drew {w W : World} {gb gc ga : Nat} {a : Option Addr} {n c i : Nat} (h : RSt w gb gc ga a n c i W) : RSt w gb gc ga a n c i W.drew := ⟨h.b.drew, h.eb, h.ec, h.ea, h.la, h.lc, h.nb, h.nc⟩

/-- What is so while a region runs: as before till operation q has run. -/
def JR (q : Nat) (A : Prop) (B : Prop) (l : Array Bool) : Prop := (l.getD q false = false → A) ∧ (l.getD q false = true → B)
theorem jkeep {q : Nat} {A B : Prop} {l : Array Bool} (h : JR q A B l) {i : Nat} (hi : i ≠ q) : JR q A B (l.setIfInBounds i true) := by
  unfold JR
  rw [getD_set_ne false hi]
  exact h
theorem jset {q : Nat} {A B : Prop} {l : Array Bool} (hls : q < l.size) (h : B) : JR q A B (l.setIfInBounds q true) := by
  have e : (l.setIfInBounds q true).getD q false = true := by simp [hls]
  unfold JR
  rw [e]
  exact ⟨fun h => (by cases h), fun _ => h⟩
theorem jpre {q : Nat} {A B : Prop} {l : Array Bool} (h : JR q A B l) {i : Nat} (hun : l.getD i true = false) (hi : l.getD q false = true → l.getD i false = true) : A := by
  have h0 := Vals.getD_true_false hun
  refine h.1 ?_
  cases h5 : l.getD q false with
  | false => rfl
  | true => rw [hi h5] at h0; cases h0
theorem jor {q : Nat} {A B : Prop} {l : Array Bool} (h : JR q A B l) : A ∨ B := by
  cases h5 : l.getD q false with
  | false => exact .inl (h.1 h5)
  | true => exact .inr (h.2 h5)

/-- What Read answers of these bytes. -/
def ReadOk (zs : List Int) (w w' : World) (e : Ending) : Prop :=
  (∃ (k f : Int) (body : List Int) (g : Nat), body.length ≤ 65531 ∧ encC k f body <+: zs ∧ e = .returned (.tuple #[.agg #[.int .u8 k, .int .u8 f, .slice (some ⟨g, 0, none⟩) body.length body.length], .int .i64 (up4 (4 + body.length) : Nat), .int .i64 0]) ∧ w.heap.size ≤ g ∧ Blk w' g body) ∨
  (∀ (k f : Int) (body : List Int), body.length ≤ 65531 → ¬ encC k f body <+: zs) ∧ e = .returned noChunk

set_option maxRecDepth 100000 in
set_option maxHeartbeats 1600000 in
theorem read_main (a : Option Addr) (n c m : Nat) (zs : List Int) (w : World) (hr : Reads w a n zs) (hb : Byt zs) (hc : n ≤ c) (hn4 : 4 ≤ n) (hn : n ≤ 140737488355328) (hL : lenOf zs = 4 + (m : Int)) :
    Calls Try.prog 18 #[.slice a n c] w fun e w' => ReadOk zs w w' e ∧ Below w.heap.size w w' := by
  obtain ⟨wA, hwA⟩ : ∃ wA, w.alloc (.cells #[.slice a n c] 22) = wA := ⟨_, rfl⟩
  have hbA : Below w.heap.size w wA := by rw [← hwA]; exact (Below.refl _ _).alloc (Nat.le_refl _) _
  have hsA : wA.heap.size = w.heap.size + 1 := by rw [← hwA]; simp
  have haA : Arr wA w.heap.size 22 [.slice a n c] := by rw [← hwA]; exact arr_new _ _ _
  obtain ⟨wB, hwB⟩ : ∃ wB, wA.alloc (.cells #[.int .u8 0, .int .u8 0, .slice none 0 0] 24) = wB := ⟨_, rfl⟩
  have hbB : Below wA.heap.size wA wB := by rw [← hwB]; exact (Below.refl _ _).alloc (Nat.le_refl _) _
  have hsB : wB.heap.size = wA.heap.size + 1 := by rw [← hwB]; simp
  have hcB : Arr wB wA.heap.size 24 [.int .u8 0, .int .u8 0, .slice none 0 0] := by rw [← hwB]; exact arr_new _ _ _
  have caB := (haA.keep hbB).cell (i := 0) rfl
  obtain ⟨wC, hwC⟩ : ∃ wC, wB.alloc (.cells #[.int .i64 4] 3) = wC := ⟨_, rfl⟩
  have hbC : Below wB.heap.size wB wC := by rw [← hwC]; exact (Below.refl _ _).alloc (Nat.le_refl _) _
  have haC : Arr wC wB.heap.size 3 [.int .i64 (4 : Nat)] := by rw [← hwC]; exact arr_new _ _ _
  have hget := get_yes a n c 2 2 zs wB ((hr.below hbA).below hbB) hb hn rfl (by omega)
  rw [show num ((zs.drop 2).take 2) = lenOf zs from rfl] at hget
  obtain ⟨l1, l2⟩ := lenOf_in hb
  have l0 : ¬ lenOf zs < 4 := by omega
  have hst : RSt w w.heap.size wA.heap.size wB.heap.size a n c 4 wC :=
    ⟨hbA.trans ((hbB.trans (hbC.mono hbB.size)).mono hbA.size), ((haA.keep hbB).keep hbC), hcB.keep hbC, haC, by omega, by omega, by omega, by omega⟩
  have HG := Lib.hid hget
  have hmf : ∀ (fn : Fn) (first cap : Array Value) (w : World), (Instr.makeFunc fn first cap).run Try.prog w = .ok (.func fn first cap) w := fun _ _ _ _ => rfl
  clear hget
  generalize hLz : lenOf zs = L at *
  have HR := Lib.hid (And.intro hr hb)
  have HL := Lib.hid (show L - 4 = (m : Int) by omega)
  have HLz := Lib.hid (hLz.trans hL)
  have hm : m ≤ 65531 := by omega
  have HS0 := Lib.hid hst
  have HGC := Lib.hid (show wA.heap.size < wC.heap.size ∧ w.heap.size ≤ wC.heap.size from ⟨by have := hst.ec.lt; omega, hst.b.size⟩)
  clear hr hb hL hLz hbA hbB hsA hsB haA hcB hbC haC hst
  go_enter Try.func18, Try.ntmps18
  go_wp2_with fail
  refine HG.out.mono ?_
  rintro e w1 ⟨rfl, rfl⟩
  go_wp2_with fail
  rw [HL.out]
  clear hwA hwB
  generalize hgc : wA.heap.size = gc at *
  generalize hga : wB.heap.size = ga at *
  obtain ⟨b1, hb1⟩ : ∃ b1, b1 = decide (4 + m ≤ n) := ⟨_, rfl⟩
  obtain ⟨V1, hV1⟩ : ∃ V1, V1 = cutV b1 wC.heap.size m := ⟨_, rfl⟩
  have htk := take_any w.heap.size ga a n c 4 m zs wC HS0.out.eb HS0.out.ea (HR.out.1.below HS0.out.b) hc hn hn4 (by omega) b1 hb1
  rw [← hV1] at htk
  refine htk.mono ?_
  rintro e w2 ⟨rfl, hk1, ha2, ht2⟩
  have hst2 := HS0.out.turn ht2 ha2
  obtain ⟨i1, hi1⟩ : ∃ i1, i1 = stepTo b1 4 m := ⟨_, rfl⟩
  rw [← hi1] at hst2
  have i1n : i1 ≤ n := by
    rw [hi1]; unfold stepTo; split
    · rename_i h; rw [h] at hb1; simpa using hb1.symm
    · exact hn4
  have g1 := up4_ge i1
  have g2 := up4_le i1
  obtain ⟨b2, hb2⟩ : ∃ b2, b2 = decide (i1 + (up4 i1 - i1) ≤ n) := ⟨_, rfl⟩
  obtain ⟨V2, hV2⟩ : ∃ V2, V2 = cutV b2 w2.heap.size (up4 i1 - i1) := ⟨_, rfl⟩
  have htk2 := take_any w.heap.size ga a n c i1 (up4 i1 - i1) zs w2.drew hst2.drew.eb hst2.drew.ea (HR.out.1.below hst2.drew.b) hc hn i1n (by omega) b2 hb2
  obtain ⟨F, hF⟩ : ∃ F, F = Value.func (Fn.func 27) #[] #[Value.pointer (some ⟨w.heap.size, 0, none⟩), Value.pointer (some ⟨ga, 0, none⟩)] := ⟨_, rfl⟩
  have hpost : ∀ w', Arr w' ga 3 [.int .i64 (stepTo b2 i1 (up4 i1 - i1) : Nat)] → Turn [ga] w2.drew w' → (b2 = true → Blk w' w2.drew.heap.size ((zs.drop i1).take (up4 i1 - i1))) →
      (RSt w w.heap.size gc ga a n c (stepTo b2 i1 (up4 i1 - i1)) w' ∧ (b1 = true → Blk w' wC.heap.size ((zs.drop 4).take m)) ∧ (b2 = true → Blk w' w2.heap.size ((zs.drop i1).take (up4 i1 - i1)))) := by
    intro w' h1 h2 h3
    refine ⟨hst2.drew.turn h2 h1, fun h => ?_, h3⟩
    have hne : wC.heap.size ≠ ga := by have := HS0.out.ea.lt; omega
    exact (h2.block _ (hk1 h).lt (by simpa using hne)).trans (hk1 h)
  have HS := Lib.hid hst2
  have HTK := Lib.hid htk2
  have HPOST := Lib.hid hpost
  have HV := Lib.hid hV2
  have HF := Lib.hid hF
  have HP := Lib.hid (show ((up4 i1 : Nat) : Int) - ((i1 : Nat) : Int) = ((up4 i1 - i1 : Nat) : Int) by omega)
  have HB := Lib.hid (And.intro hi1 (And.intro hb1 (And.intro hb2 hV1)))
  clear hst2 htk2 hpost hV2 hi1 hb1 hb2 hV1 htk hk1 ha2 ht2 caB
  rw [← hF]
  clear hF
  go_wp2_with fail
  refine wp_region_any (by kernel_rfl) ?_
  refine Vals.wpAny_goodW (fun i v _ => match i with | 0 => v = F | 1 => v = .int .i64 (i1 : Nat) | 2 => v = .int .i64 (up4 i1 : Nat) | 3 => v = .int .i64 (i1 : Nat) | 4 => v = .int .i64 ((up4 i1 - i1 : Nat) : Int) | 5 => v = .tuple #[V2, .bool b2] | 6 => v = .tuple #[V2, .bool b2] | 7 => v = V2 | 8 => v = .bool b2 | 9 => v = V2 | 10 => v = .bool b2 | _ => True) (fun l W => JR 5 (w2.drew = W) (RSt w w.heap.size gc ga a n c (stepTo b2 i1 (up4 i1 - i1)) W ∧ (b1 = true → Blk W wC.heap.size ((zs.drop 4).take m)) ∧ (b2 = true → Blk W w2.heap.size ((zs.drop i1).take (up4 i1 - i1)))) l) [some 34, some 35, some 36, some 37, some 38, some 39, some 33, some 40, some 41, some 10, some 11] 63 _ _ rfl (by kernel_rfl) (by kernel_rfl) (by decide) ?step ?fin ?h0
  case h0 => exact ⟨fun _ => rfl, fun h => by simp at h⟩
  case step =>
    intro i o d ho hd listed a W hls hun hcl hJ hdf hdep hfr K hK
    match i, ho, hd with
    | 0, ho, hd =>
      have ho' := ho
      simp only [List.getElem?_toArray, List.getElem?_cons_zero, Option.some.injEq] at ho hd
      subst ho hd
      have r7 : a.eval (.tmp 7) = F := hfr 7 (by decide)
      rw [Vals.eval_tmp] at r7
      refine Vals.wpOp_run ho' rfl ?_
      clear hdep hfr ho' hdf hcl
      go_simp
      exact hK _ _ (fun _ _ h => h) (jkeep hJ (by omega)) (fun _ => rfl)
    | 1, ho, hd =>
      have ho' := ho
      simp only [List.getElem?_toArray, List.getElem?_cons_zero, List.getElem?_cons_succ, Option.some.injEq] at ho hd
      subst ho hd
      have r6 : a.eval (.tmp 6) = .pointer (some ⟨ga, 0, none⟩) := hfr 6 (by decide)
      rw [Vals.eval_tmp] at r6
      obtain rfl := jpre hJ hun (fun h => hcl 2 _ rfl (hcl 4 _ rfl (hcl 5 _ rfl h ⟨4, .data⟩ (by simp) rfl) ⟨2, .data⟩ (by simp) rfl) ⟨1, .data⟩ (by simp) rfl)
      have ca := HS.out.ea.cell (i := 0) rfl
      have hca : w2.drew.cell? ⟨ga, 0, none⟩ = some (.int .i64 (i1 : Nat)) := ca
      refine Vals.wpOp_run ho' rfl ?_
      clear hdep hfr ho' hdf hcl
      go_simp
      exact hK _ _ (fun _ _ h => h) (jkeep hJ (by omega)) (fun _ => rfl)
    | 2, ho, hd =>
      have ho' := ho
      simp only [List.getElem?_toArray, List.getElem?_cons_zero, List.getElem?_cons_succ, Option.some.injEq] at ho hd
      subst ho hd
      have r35 : a.eval (.tmp 35) = .int .i64 (i1 : Nat) := (hdep ⟨1, .data⟩ (by simp) rfl).2 35 rfl
      rw [Vals.eval_tmp] at r35
      refine Vals.wpOp_run ho' rfl ?_
      clear hdep hfr ho' hdf hcl
      go_simp
      refine (round_nat i1 W (by omega)).mono ?_
      rintro e w' ⟨rfl, rfl⟩
      exact hK _ _ (fun _ _ h => h) (jkeep hJ (by omega)) (fun _ => rfl)
    | 3, ho, hd =>
      have ho' := ho
      simp only [List.getElem?_toArray, List.getElem?_cons_zero, List.getElem?_cons_succ, Option.some.injEq] at ho hd
      subst ho hd
      have r6 : a.eval (.tmp 6) = .pointer (some ⟨ga, 0, none⟩) := hfr 6 (by decide)
      rw [Vals.eval_tmp] at r6
      obtain rfl := jpre hJ hun (fun h => hcl 4 _ rfl (hcl 5 _ rfl h ⟨4, .data⟩ (by simp) rfl) ⟨3, .data⟩ (by simp) rfl)
      have ca := HS.out.ea.cell (i := 0) rfl
      have hca : w2.drew.cell? ⟨ga, 0, none⟩ = some (.int .i64 (i1 : Nat)) := ca
      refine Vals.wpOp_run ho' rfl ?_
      clear hdep hfr ho' hdf hcl
      go_simp
      exact hK _ _ (fun _ _ h => h) (jkeep hJ (by omega)) (fun _ => rfl)
    | 4, ho, hd =>
      have ho' := ho
      simp only [List.getElem?_toArray, List.getElem?_cons_zero, List.getElem?_cons_succ, Option.some.injEq] at ho hd
      subst ho hd
      have r36 : a.eval (.tmp 36) = .int .i64 (up4 i1 : Nat) := (hdep ⟨2, .data⟩ (by simp) rfl).2 36 rfl
      rw [Vals.eval_tmp] at r36
      have r37 : a.eval (.tmp 37) = .int .i64 (i1 : Nat) := (hdep ⟨3, .data⟩ (by simp) rfl).2 37 rfl
      rw [Vals.eval_tmp] at r37
      have hw : IntKind.i64.wrap ((up4 i1 : Nat) - (i1 : Nat)) = ((up4 i1 - i1 : Nat) : Int) := by rw [IntKind.wrap_i64]; omega
      refine Vals.wpOp_run ho' rfl ?_
      clear hdep hfr ho' hdf hcl
      go_simp
      exact hK _ _ (fun _ _ h => h) (jkeep hJ (by omega)) (fun _ => rfl)
    | 5, ho, hd =>
      have ho' := ho
      simp only [List.getElem?_toArray, List.getElem?_cons_zero, List.getElem?_cons_succ, Option.some.injEq] at ho hd
      subst ho hd
      have r34 : a.eval (.tmp 34) = F := (hdep ⟨0, .data⟩ (by simp) rfl).2 34 rfl
      rw [Vals.eval_tmp] at r34
      have r38 : a.eval (.tmp 38) = .int .i64 ((up4 i1 - i1 : Nat) : Int) := (hdep ⟨4, .data⟩ (by simp) rfl).2 38 rfl
      rw [Vals.eval_tmp] at r38
      obtain rfl := jpre hJ hun (fun h => h)
      rw [HF.out] at r34
      refine Vals.wpOp_run ho' rfl ?_
      clear hdep hfr ho' hdf hcl
      go_simp
      refine HTK.out.mono ?_
      rintro e w' ⟨rfl, hk, ha, ht⟩
      rw [show w2.drew.heap.size = w2.heap.size from rfl, ← HV.out]
      exact hK _ _ (fun _ _ h => h) (jset (by rw [hls]; decide) (HPOST.out w' ha ht hk)) (fun _ => rfl)
    | 6, ho, hd =>
      have ho' := ho
      simp only [List.getElem?_toArray, List.getElem?_cons_zero, List.getElem?_cons_succ, Option.some.injEq] at ho hd
      subst ho hd
      have r39 : a.eval (.tmp 39) = .tuple #[V2, .bool b2] := (hdep ⟨5, .data⟩ (by simp) rfl).2 39 rfl
      rw [Vals.eval_tmp] at r39
      refine Vals.wpOp_run ho' rfl ?_
      clear hdep hfr ho' hdf hcl
      go_simp
      exact hK _ _ (fun _ _ h => h) (jkeep hJ (by omega)) (fun _ => rfl)
    | 7, ho, hd =>
      have ho' := ho
      simp only [List.getElem?_toArray, List.getElem?_cons_zero, List.getElem?_cons_succ, Option.some.injEq] at ho hd
      subst ho hd
      have r33 : a.eval (.tmp 33) = .tuple #[V2, .bool b2] := (hdep ⟨6, .data⟩ (by simp) rfl).2 33 rfl
      rw [Vals.eval_tmp] at r33
      refine Vals.wpOp_run ho' rfl ?_
      clear hdep hfr ho' hdf hcl
      go_simp
      exact hK _ _ (fun _ _ h => h) (jkeep hJ (by omega)) (fun _ => rfl)
    | 8, ho, hd =>
      have ho' := ho
      simp only [List.getElem?_toArray, List.getElem?_cons_zero, List.getElem?_cons_succ, Option.some.injEq] at ho hd
      subst ho hd
      have r33 : a.eval (.tmp 33) = .tuple #[V2, .bool b2] := (hdep ⟨6, .data⟩ (by simp) rfl).2 33 rfl
      rw [Vals.eval_tmp] at r33
      refine Vals.wpOp_run ho' rfl ?_
      clear hdep hfr ho' hdf hcl
      go_simp
      exact hK _ _ (fun _ _ h => h) (jkeep hJ (by omega)) (fun _ => rfl)
    | 9, ho, hd =>
      have ho' := ho
      simp only [List.getElem?_toArray, List.getElem?_cons_zero, List.getElem?_cons_succ, Option.some.injEq] at ho hd
      subst ho hd
      have r40 : a.eval (.tmp 40) = V2 := (hdep ⟨7, .data⟩ (by simp) rfl).2 40 rfl
      rw [Vals.eval_tmp] at r40
      refine Vals.wpOp_run ho' rfl ?_
      clear hdep hfr ho' hdf hcl
      go_simp
      exact hK _ _ (fun _ _ h => h) (jkeep hJ (by omega)) (fun _ => rfl)
    | 10, ho, hd =>
      have ho' := ho
      simp only [List.getElem?_toArray, List.getElem?_cons_zero, List.getElem?_cons_succ, Option.some.injEq] at ho hd
      subst ho hd
      have r41 : a.eval (.tmp 41) = .bool b2 := (hdep ⟨8, .data⟩ (by simp) rfl).2 41 rfl
      rw [Vals.eval_tmp] at r41
      refine Vals.wpOp_run ho' rfl ?_
      clear hdep hfr ho' hdf hcl
      go_simp
      exact hK _ _ (fun _ _ h => h) (jkeep hJ (by omega)) (fun _ => rfl)
    | i + 11, ho, hd => simp at ho
  case fin =>
    intro listed W f hall hJ hG
    have q0 : f 34 = F := hG 0 34 rfl
    have q1 : f 35 = .int .i64 (i1 : Nat) := hG 1 35 rfl
    have q2 : f 36 = .int .i64 (up4 i1 : Nat) := hG 2 36 rfl
    have q3 : f 37 = .int .i64 (i1 : Nat) := hG 3 37 rfl
    have q4 : f 38 = .int .i64 ((up4 i1 - i1 : Nat) : Int) := hG 4 38 rfl
    have q5 : f 39 = .tuple #[V2, .bool b2] := hG 5 39 rfl
    have q6 : f 33 = .tuple #[V2, .bool b2] := hG 6 33 rfl
    have q7 : f 40 = V2 := hG 7 40 rfl
    have q8 : f 41 = .bool b2 := hG 8 41 rfl
    have q9 : f 10 = V2 := hG 9 10 rfl
    have q10 : f 11 = .bool b2 := hG 10 11 rfl
    obtain ⟨hst3, hk1, hk2⟩ := hJ.2 (hall 5 (by decide))
    clear hall hJ hG
    simp only [Vals.puts, Vals.pairs, List.filterMap_cons, List.filterMap_nil, id, List.map_cons, List.map_nil, List.foldl_cons, List.foldl_nil, q0, q1, q2, q3, q4, q5, q6, q7, q8, q9, q10]
    clear q0 q1 q2 q3 q4 q5 q6 q7 q8 q9 q10
    go_frame
    have hlen : zs.length = n := HR.out.1.1
    have f0 := hst3.ec.free 0
    have f1 := hst3.ec.free 1
    have f2 := hst3.ec.free 2
    have c0 := hst3.ec.cell (i := 0) rfl
    have c1 := hst3.ec.cell (i := 1) rfl
    have c2 := hst3.ec.cell (i := 2) rfl
    have H3 := Lib.hid (And.intro hst3 (And.intro hk1 (And.intro hk2 hlen)))
    clear hst3 hk1 hk2 hlen HG HTK HPOST HS0 HS
    cases b1 with
    | false =>
      have hno : ∀ (k f : Int) (body : List Int), body.length ≤ 65531 → ¬ encC k f body <+: zs := by
        intro k f body hl hp
        obtain ⟨p1, p2, p3, _⟩ := pre_parts hp hl
        have h1 := HLz.out
        have h2 := HB.out.2.1
        have h3 := H3.out.2.2.2
        have h4 := up4_ge (4 + body.length)
        have h5 : ¬ 4 + m ≤ n := by simpa using h2.symm
        omega
      have hend := box3 H3.out.1.ec (.int .u8 0) (.int .u8 0) (.slice none 0 0)
      have hbl := below3 H3.out.1.b H3.out.1.lc (.int .u8 0) (.int .u8 0) (.slice none 0 0)
      have HE := Lib.hid (And.intro hend (And.intro hbl hno))
      clear hend hbl hno H3 HB HLz HL HR
      go_wp2_with fail
      have d0 := HE.out.1.cell (i := 0) rfl
      have d1 := HE.out.1.cell (i := 1) rfl
      have d2 := HE.out.1.cell (i := 2) rfl
      have hbl := HE.out.2
      clear HE c0 c1 c2 f0 f1 f2
      generalize ((W.setCell _ _).setCell _ _).setCell _ _ = W2 at *
      exact bodyPost_ret (by simp [results, Try.results18, go_sem, d0, d1, d2]; rfl) rfl ⟨.inr ⟨hbl.2, rfl⟩, hbl.1⟩
    | true =>
      cases b2 with
      | false =>
        have hno : ∀ (k f : Int) (body : List Int), body.length ≤ 65531 → ¬ encC k f body <+: zs := by
          intro k f body hl hp
          obtain ⟨p1, p2, p3, p4, p5, p6, p7⟩ := pre_parts hp hl
          have h1 := HLz.out
          have h3 := H3.out.2.2.2
          have h4 := up4_ge (4 + body.length)
          have h2 := HB.out.2.2.1
          have h5 : ¬ i1 + (up4 i1 - i1) ≤ n := by simpa using h2.symm
          have h6 : i1 = 4 + body.length := by have := HB.out.1; unfold stepTo at this; simp at this; omega
          rw [← h6] at p3
          omega
        have hend := box3 H3.out.1.ec (.int .u8 0) (.int .u8 0) (.slice none 0 0)
        have hbl := below3 H3.out.1.b H3.out.1.lc (.int .u8 0) (.int .u8 0) (.slice none 0 0)
        have HE := Lib.hid (And.intro hend (And.intro hbl hno))
        clear hend hbl hno H3 HB HLz HL HR
        go_wp2_with fail
        have d0 := HE.out.1.cell (i := 0) rfl
        have d1 := HE.out.1.cell (i := 1) rfl
        have d2 := HE.out.1.cell (i := 2) rfl
        have hbl := HE.out.2
        clear HE c0 c1 c2 f0 f1 f2
        generalize ((W.setCell _ _).setCell _ _).setCell _ _ = W2 at *
        exact bodyPost_ret (by simp [results, Try.results18, go_sem, d0, d1, d2]; rfl) rfl ⟨.inr ⟨hbl.2, rfl⟩, hbl.1⟩
      | true =>
        have hv1 : V1 = .slice (some ⟨wC.heap.size, 0, none⟩) m m := HB.out.2.2.2
        have hv2 : V2 = .slice (some ⟨w2.heap.size, 0, none⟩) (up4 i1 - i1) (up4 i1 - i1) := HV.out
        have hle : i1 + (up4 i1 - i1) ≤ n := by simpa using HB.out.2.2.1.symm
        have hz := isZero_any (some ⟨w2.heap.size, 0, none⟩) (up4 i1 - i1) (up4 i1 - i1) _ W ((H3.out.2.2.1 rfl).readsAll _ (by simp; have := H3.out.2.2.2; omega)) ((HR.out.2.drop _).take _) (by omega)
        have hup : i1 + (up4 i1 - i1) = up4 i1 := by omega
        clear HV
        subst hv1 hv2
        generalize hp : up4 i1 - i1 = p at *
        have HP := Lib.hid (And.intro hp (And.intro hle hup))
        clear hp hup hle g1 g2
        obtain ⟨zb, hzb⟩ : ∃ zb, zb = zeroB ((zs.drop i1).take p) := ⟨_, rfl⟩
        rw [← hzb] at hz
        cases zb with
        | false =>
          have HZ := Lib.hid hz
          have HZB := Lib.hid (And.intro hzb.symm trivial)
          clear hz hzb
          have hno : ∀ (k f : Int) (body : List Int), body.length ≤ 65531 → ¬ encC k f body <+: zs := by
            intro k f body hl hp
            obtain ⟨p1, p2, p3, p4, p5, p6, p7⟩ := pre_parts hp hl
            have h1 := HLz.out
            have h3 := H3.out.2.2.2
            have h4 := up4_ge (4 + body.length)
            have h2 := HZB.out.1
            have h6 : i1 = 4 + body.length := by have := HB.out.1; unfold stepTo at this; simp at this; omega
            rw [← h6, HP.out.1] at p7
            rw [p7] at h2
            rw [(zeroB_iff _).2 (by simp)] at h2
            cases h2
          have hend := box3 H3.out.1.ec (.int .u8 0) (.int .u8 0) (.slice none 0 0)
          have hbl := below3 H3.out.1.b H3.out.1.lc (.int .u8 0) (.int .u8 0) (.slice none 0 0)
          have HE := Lib.hid (And.intro hend (And.intro hbl hno))
          clear hend hbl hno H3 HB HLz HL HR
          go_wp2_with (go_at_call 30; refine HZ.out.mono ?_; rintro e w' ⟨rfl, rfl⟩)
          have d0 := HE.out.1.cell (i := 0) rfl
          have d1 := HE.out.1.cell (i := 1) rfl
          have d2 := HE.out.1.cell (i := 2) rfl
          have hbl := HE.out.2
          clear HE c0 c1 c2 f0 f1 f2
          generalize ((W.setCell _ _).setCell _ _).setCell _ _ = W2 at *
          exact bodyPost_ret (by simp [results, Try.results18, go_sem, d0, d1, d2]; rfl) rfl ⟨.inr ⟨hbl.2, rfl⟩, hbl.1⟩
        | true =>
          have HZ := Lib.hid hz
          have HZB := Lib.hid hzb.symm
          clear hz hzb
          obtain ⟨b, off, rfl⟩ := HR.out.1.some_of (by omega)
          have hrW := HR.out.1.below H3.out.1.b
          have hcell : ∀ j, j < n → W.cell? ⟨b, off + j, none⟩ = some (.int .u8 (zs[j]?.getD 0)) := by
            rcases hrW.2 with h | ⟨b', off', e, _, h⟩
            · omega
            · cases e; exact h
          have z0 : W.cell? ⟨b, off, none⟩ = some (.int .u8 (zs[0]?.getD 0)) := hcell 0 (by omega)
          have z1 : W.cell? ⟨b, off + 1, none⟩ = some (.int .u8 (zs[1]?.getD 0)) := hcell 1 (by omega)
          have cb := H3.out.1.eb.cell (i := 0) rfl
          have ca := H3.out.1.ea.cell (i := 0) rfl
          have n0 : (0 : Int) < (n : Int) := by omega
          have n1 : (1 : Int) < (n : Int) := by omega
          have m0 : 0 < n := by omega
          have m1 : 1 < n := by omega
          clear hrW hcell
          generalize hk0 : zs[0]?.getD 0 = k0 at *
          generalize hk1 : zs[1]?.getD 0 = k1 at *
          have HK := Lib.hid (And.intro hk0 hk1)
          clear hk0 hk1
          go_wp2_with (go_at_call 30; refine HZ.out.mono ?_; rintro e w' ⟨rfl, rfl⟩)
          have hst4 := H3.out.1.drew
          have hkb : Blk W.drew wC.heap.size ((zs.drop 4).take m) := H3.out.2.1 (by trivial)
          have hpre : encC k0 k1 ((zs.drop 4).take m) <+: zs ∧ ((zs.drop 4).take m).length = m := by
            have h3 := H3.out.2.2.2
            have h6 : i1 = 4 + m := by have := HB.out.1; unfold stepTo at this; simp at this; omega
            have h7 := HP.out
            have h8 := HZB.out
            rw [← h7.1, h6] at h8
            rw [h6] at h7
            refine ⟨?_, by simp; omega⟩
            rw [← HK.out.1, ← HK.out.2]
            exact pre_mk HR.out.2 m (by omega) HLz.out (by omega) h8
          have hi : ((stepTo true i1 p : Nat) : Int) = ((up4 (4 + m) : Nat) : Int) := by
            have h6 : i1 = 4 + m := by have := HB.out.1; unfold stepTo at this; simp at this; omega
            have h7 := HP.out
            rw [h6] at h7
            unfold stepTo
            simp
            omega
          clear f0 f1 f2 c0 c1 c2 cb ca
          refine wp_region_any (by kernel_rfl) ?_
          have z0 : W.drew.cell? ⟨b, off, none⟩ = some (.int .u8 k0) := z0
          have z1 : W.drew.cell? ⟨b, off + 1, none⟩ = some (.int .u8 k1) := z1
          change wpAny _ _ _ _ _ _ _ W.drew
          generalize W.drew = W3 at hst4 hkb z0 z1 ⊢
          have cb := hst4.eb.cell (i := 0) rfl
          have ca := hst4.ea.cell (i := 0) rfl
          obtain ⟨W4, hW4⟩ : ∃ W4, W4 = ((W3.setCell ⟨gc, 0, none⟩ (.int .u8 k0)).setCell ⟨gc, 1, none⟩ (.int .u8 k1)).setCell ⟨gc, 2, none⟩ (.slice (some ⟨wC.heap.size, 0, none⟩) m m) := ⟨_, rfl⟩
          have hend := box3 hst4.ec (.int .u8 k0) (.int .u8 k1) (.slice (some ⟨wC.heap.size, 0, none⟩) m m)
          have hbl := below3 hst4.b hst4.lc (.int .u8 k0) (.int .u8 k1) (.slice (some ⟨wC.heap.size, 0, none⟩) m m)
          have hne : wC.heap.size ≠ gc := by have := HGC.out; omega
          have hkb2 : Blk (((W3.setCell ⟨gc, 0, none⟩ (.int .u8 k0)).setCell ⟨gc, 1, none⟩ (.int .u8 k1)).setCell ⟨gc, 2, none⟩ (.slice (some ⟨wC.heap.size, 0, none⟩) m m)) wC.heap.size ((zs.drop 4).take m) :=
            (Below.heap_setCell _ _ _ _ (by simpa using hne)).trans ((Below.heap_setCell _ _ _ _ (by simpa using hne)).trans ((Below.heap_setCell _ _ _ _ (by simpa using hne)).trans hkb))
          have hea : Arr (((W3.setCell ⟨gc, 0, none⟩ (.int .u8 k0)).setCell ⟨gc, 1, none⟩ (.int .u8 k1)).setCell ⟨gc, 2, none⟩ (.slice (some ⟨wC.heap.size, 0, none⟩) m m)) ga 3 [.int .i64 (stepTo true i1 p : Nat)] :=
            ((hst4.ea.off _ hst4.nc.symm).off _ hst4.nc.symm).off _ hst4.nc.symm
          rw [← hW4] at hend hbl hkb2 hea
          have f0 := hst4.ec.free 0
          have f1 := hst4.ec.free 1
          have f2 := hst4.ec.free 2
          have c0 := hst4.ec.cell (i := 0) rfl
          have c1 := hst4.ec.cell (i := 1) rfl
          have c2 := hst4.ec.cell (i := 2) rfl
          have HE := Lib.hid (And.intro hend (And.intro hbl (And.intro hkb2 (And.intro hpre hi))))
          have HEA := Lib.hid hea
          have HW4 := Lib.hid hW4
          have HC := Lib.hid (And.intro hst4.ec (And.intro cb (And.intro ca (And.intro z0 z1))))
          clear hend hbl hkb hkb2 hpre hi hst4 H3 HB HLz HL HP HZ HZB HK hea hW4 hne f0 f1 f2 c0 c1 c2 cb ca z0 z1
          refine Vals.wpAny_goodW (fun i v _ => match i with | 0 => v = .slice (some ⟨b, off, none⟩) n c | 1 => v = .pointer (some ⟨b, off, none⟩) | 2 => v = .int .u8 k0 | 3 => v = .slice (some ⟨b, off, none⟩) n c | 4 => v = .pointer (some ⟨b, off + 1, none⟩) | 5 => v = .int .u8 k1 | 6 => v = .slice (some ⟨wC.heap.size, 0, none⟩) m m | 7 => v = .agg #[.int .u8 k0, .int .u8 k1, .slice (some ⟨wC.heap.size, 0, none⟩) m m] | 8 => v = .int .i64 (stepTo true i1 p : Nat) | 10 => v = .int .i64 (stepTo true i1 p : Nat) | 11 => v = .int .i64 0 | _ => True) (fun l W' => JR 9 (W3 = W') (W4 = W') l) [some 54, some 55, some 56, some 57, some 58, some 59, some 60, some 61, some 62, none, some 3, some 4] 63 _ _ rfl (by kernel_rfl) (by kernel_rfl) (by decide) ?step2 ?fin2 ?h02
          case h02 => exact ⟨fun _ => rfl, fun h => by simp at h⟩
          case step2 =>
            intro i o d ho hd listed a W' hls hun hcl hJ hdf hdep hfr K hK
            match i, ho, hd with
            | 0, ho, hd =>
              have ho' := ho
              simp only [List.getElem?_toArray, List.getElem?_cons_zero, Option.some.injEq] at ho hd
              subst ho hd
              have r1 : a.eval (.tmp 1) = .pointer (some ⟨w.heap.size, 0, none⟩) := hfr 1 (by decide)
              rw [Vals.eval_tmp] at r1
              obtain rfl := jpre hJ hun (fun h => hcl 9 _ rfl h ⟨0, .phase⟩ (by simp) rfl)
              have cb := HC.out.2.1
              have hcb : W3.cell? ⟨w.heap.size, 0, none⟩ = some (.slice (some ⟨b, off, none⟩) n c) := cb
              refine Vals.wpOp_run ho' rfl ?_
              clear hdep hfr ho' hdf hcl
              go_simp
              exact hK _ _ (fun _ _ h => h) (jkeep hJ (by omega)) (fun _ => rfl)
            | 1, ho, hd =>
              have ho' := ho
              simp only [List.getElem?_toArray, List.getElem?_cons_zero, List.getElem?_cons_succ, Option.some.injEq] at ho hd
              subst ho hd
              have r54 : a.eval (.tmp 54) = .slice (some ⟨b, off, none⟩) n c := (hdep ⟨0, .data⟩ (by simp) rfl).2 54 rfl
              rw [Vals.eval_tmp] at r54
              refine Vals.wpOp_run ho' rfl ?_
              clear hdep hfr ho' hdf hcl
              go_simp
              exact hK _ _ (fun _ _ h => h) (jkeep hJ (by omega)) (fun _ => rfl)
            | 2, ho, hd =>
              have ho' := ho
              simp only [List.getElem?_toArray, List.getElem?_cons_zero, List.getElem?_cons_succ, Option.some.injEq] at ho hd
              subst ho hd
              have r55 : a.eval (.tmp 55) = .pointer (some ⟨b, off, none⟩) := (hdep ⟨1, .data⟩ (by simp) rfl).2 55 rfl
              rw [Vals.eval_tmp] at r55
              obtain rfl := jpre hJ hun (fun h => hcl 9 _ rfl h ⟨2, .phase⟩ (by simp) rfl)
              have z0 := HC.out.2.2.2.1
              have hz0 : W3.cell? ⟨b, off, none⟩ = some (.int .u8 k0) := z0
              refine Vals.wpOp_run ho' rfl ?_
              clear hdep hfr ho' hdf hcl
              go_simp
              exact hK _ _ (fun _ _ h => h) (jkeep hJ (by omega)) (fun _ => rfl)
            | 3, ho, hd =>
              have ho' := ho
              simp only [List.getElem?_toArray, List.getElem?_cons_zero, List.getElem?_cons_succ, Option.some.injEq] at ho hd
              subst ho hd
              have r1 : a.eval (.tmp 1) = .pointer (some ⟨w.heap.size, 0, none⟩) := hfr 1 (by decide)
              rw [Vals.eval_tmp] at r1
              obtain rfl := jpre hJ hun (fun h => hcl 9 _ rfl h ⟨3, .phase⟩ (by simp) rfl)
              have cb := HC.out.2.1
              have hcb : W3.cell? ⟨w.heap.size, 0, none⟩ = some (.slice (some ⟨b, off, none⟩) n c) := cb
              refine Vals.wpOp_run ho' rfl ?_
              clear hdep hfr ho' hdf hcl
              go_simp
              exact hK _ _ (fun _ _ h => h) (jkeep hJ (by omega)) (fun _ => rfl)
            | 4, ho, hd =>
              have ho' := ho
              simp only [List.getElem?_toArray, List.getElem?_cons_zero, List.getElem?_cons_succ, Option.some.injEq] at ho hd
              subst ho hd
              have r57 : a.eval (.tmp 57) = .slice (some ⟨b, off, none⟩) n c := (hdep ⟨3, .data⟩ (by simp) rfl).2 57 rfl
              rw [Vals.eval_tmp] at r57
              refine Vals.wpOp_run ho' rfl ?_
              clear hdep hfr ho' hdf hcl
              go_simp
              exact hK _ _ (fun _ _ h => h) (jkeep hJ (by omega)) (fun _ => rfl)
            | 5, ho, hd =>
              have ho' := ho
              simp only [List.getElem?_toArray, List.getElem?_cons_zero, List.getElem?_cons_succ, Option.some.injEq] at ho hd
              subst ho hd
              have r58 : a.eval (.tmp 58) = .pointer (some ⟨b, off + 1, none⟩) := (hdep ⟨4, .data⟩ (by simp) rfl).2 58 rfl
              rw [Vals.eval_tmp] at r58
              obtain rfl := jpre hJ hun (fun h => hcl 9 _ rfl h ⟨5, .phase⟩ (by simp) rfl)
              have z1 := HC.out.2.2.2.2
              have hz1 : W3.cell? ⟨b, off + 1, none⟩ = some (.int .u8 k1) := z1
              refine Vals.wpOp_run ho' rfl ?_
              clear hdep hfr ho' hdf hcl
              go_simp
              exact hK _ _ (fun _ _ h => h) (jkeep hJ (by omega)) (fun _ => rfl)
            | 6, ho, hd =>
              have ho' := ho
              simp only [List.getElem?_toArray, List.getElem?_cons_zero, List.getElem?_cons_succ, Option.some.injEq] at ho hd
              subst ho hd
              have r8 : a.eval (.tmp 8) = .slice (some ⟨wC.heap.size, 0, none⟩) m m := hfr 8 (by decide)
              rw [Vals.eval_tmp] at r8
              refine Vals.wpOp_run ho' rfl ?_
              clear hdep hfr ho' hdf hcl
              go_simp
              exact hK _ _ (fun _ _ h => h) (jkeep hJ (by omega)) (fun _ => rfl)
            | 7, ho, hd =>
              have ho' := ho
              simp only [List.getElem?_toArray, List.getElem?_cons_zero, List.getElem?_cons_succ, Option.some.injEq] at ho hd
              subst ho hd
              have r56 : a.eval (.tmp 56) = .int .u8 k0 := (hdep ⟨2, .data⟩ (by simp) rfl).2 56 rfl
              rw [Vals.eval_tmp] at r56
              have r59 : a.eval (.tmp 59) = .int .u8 k1 := (hdep ⟨5, .data⟩ (by simp) rfl).2 59 rfl
              rw [Vals.eval_tmp] at r59
              have r60 : a.eval (.tmp 60) = .slice (some ⟨wC.heap.size, 0, none⟩) m m := (hdep ⟨6, .data⟩ (by simp) rfl).2 60 rfl
              rw [Vals.eval_tmp] at r60
              refine Vals.wpOp_run ho' rfl ?_
              clear hdep hfr ho' hdf hcl
              go_simp
              exact hK _ _ (fun _ _ h => h) (jkeep hJ (by omega)) (fun _ => rfl)
            | 8, ho, hd =>
              have ho' := ho
              simp only [List.getElem?_toArray, List.getElem?_cons_zero, List.getElem?_cons_succ, Option.some.injEq] at ho hd
              subst ho hd
              have r6 : a.eval (.tmp 6) = .pointer (some ⟨ga, 0, none⟩) := hfr 6 (by decide)
              rw [Vals.eval_tmp] at r6
              refine Vals.wpOp_run ho' rfl ?_
              clear hdep hfr ho' hdf hcl
              rcases jor hJ with rfl | rfl
              · have ca := HC.out.2.2.1
                have hca : W3.cell? ⟨ga, 0, none⟩ = some (.int .i64 (stepTo true i1 p : Nat)) := ca
                go_simp
                exact hK _ _ (fun _ _ h => h) (jkeep hJ (by omega)) (fun _ => rfl)
              · have ca := HEA.out.cell (i := 0) rfl
                go_simp
                exact hK _ _ (fun _ _ h => h) (jkeep hJ (by omega)) (fun _ => rfl)
            | 9, ho, hd =>
              have ho' := ho
              simp only [List.getElem?_toArray, List.getElem?_cons_zero, List.getElem?_cons_succ, Option.some.injEq] at ho hd
              subst ho hd
              have r2 : a.eval (.tmp 2) = .pointer (some ⟨gc, 0, none⟩) := hfr 2 (by decide)
              rw [Vals.eval_tmp] at r2
              have r61 : a.eval (.tmp 61) = .agg #[.int .u8 k0, .int .u8 k1, .slice (some ⟨wC.heap.size, 0, none⟩) m m] := (hdep ⟨7, .data⟩ (by simp) rfl).2 61 rfl
              rw [Vals.eval_tmp] at r61
              obtain rfl := jpre hJ hun (fun h => h)
              have f0 := HC.out.1.free 0
              have f1 := HC.out.1.free 1
              have f2 := HC.out.1.free 2
              have c0 := HC.out.1.cell (i := 0) rfl
              have c1 := HC.out.1.cell (i := 1) rfl
              have c2 := HC.out.1.cell (i := 2) rfl
              refine Vals.wpOp_run ho' rfl ?_
              clear hdep hfr ho' hdf hcl
              go_simp
              exact hK undef _ (fun _ _ h => h) (jset (by rw [hls]; decide) HW4.out) (fun h => nomatch h)
            | 10, ho, hd =>
              have ho' := ho
              simp only [List.getElem?_toArray, List.getElem?_cons_zero, List.getElem?_cons_succ, Option.some.injEq] at ho hd
              subst ho hd
              have r62 : a.eval (.tmp 62) = .int .i64 (stepTo true i1 p : Nat) := (hdep ⟨8, .data⟩ (by simp) rfl).2 62 rfl
              rw [Vals.eval_tmp] at r62
              refine Vals.wpOp_run ho' rfl ?_
              clear hdep hfr ho' hdf hcl
              go_simp
              exact hK _ _ (fun _ _ h => h) (jkeep hJ (by omega)) (fun _ => rfl)
            | 11, ho, hd =>
              have ho' := ho
              simp only [List.getElem?_toArray, List.getElem?_cons_zero, List.getElem?_cons_succ, Option.some.injEq] at ho hd
              subst ho hd
              refine Vals.wpOp_run ho' rfl ?_
              clear hdep hfr ho' hdf hcl
              go_simp
              exact hK _ _ (fun _ _ h => h) (jkeep hJ (by omega)) (fun _ => rfl)
            | i + 12, ho, hd => simp at ho
          case fin2 =>
            intro listed W2 f hall hJ hG
            obtain rfl := hJ.2 (hall 9 (by decide))
            have q0 : f 54 = .slice (some ⟨b, off, none⟩) n c := hG 0 54 rfl
            have q1 : f 55 = .pointer (some ⟨b, off, none⟩) := hG 1 55 rfl
            have q2 : f 56 = .int .u8 k0 := hG 2 56 rfl
            have q3 : f 57 = .slice (some ⟨b, off, none⟩) n c := hG 3 57 rfl
            have q4 : f 58 = .pointer (some ⟨b, off + 1, none⟩) := hG 4 58 rfl
            have q5 : f 59 = .int .u8 k1 := hG 5 59 rfl
            have q6 : f 60 = .slice (some ⟨wC.heap.size, 0, none⟩) m m := hG 6 60 rfl
            have q7 : f 61 = .agg #[.int .u8 k0, .int .u8 k1, .slice (some ⟨wC.heap.size, 0, none⟩) m m] := hG 7 61 rfl
            have q8 : f 62 = .int .i64 (stepTo true i1 p : Nat) := hG 8 62 rfl
            have q10 : f 3 = .int .i64 (stepTo true i1 p : Nat) := hG 10 3 rfl
            have q11 : f 4 = .int .i64 0 := hG 11 4 rfl
            clear hall hJ hG
            simp only [Vals.puts, Vals.pairs, List.filterMap_cons, List.filterMap_nil, id, List.map_cons, List.map_nil, List.foldl_cons, List.foldl_nil, q0, q1, q2, q3, q4, q5, q6, q7, q8, q10, q11]
            clear q0 q1 q2 q3 q4 q5 q6 q7 q8 q10 q11
            go_frame
            go_wp2_with fail
            have d0 := HE.out.1.cell (i := 0) rfl
            have d1 := HE.out.1.cell (i := 1) rfl
            have d2 := HE.out.1.cell (i := 2) rfl
            obtain ⟨_, hbl, hkb, ⟨hp1, hp2⟩, hi⟩ := HE.out
            have hle := HGC.out.2
            clear HE
            refine bodyPost_ret (by simp [results, Try.results18, go_sem, d0, d1, d2]; rfl) rfl ⟨.inl ⟨k0, k1, _, wC.heap.size, by omega, hp1, ?_, hle, hkb⟩, hbl⟩
            rw [hp2, ← hi]
end Go.Proofs.Ytoahkigmbmdniaa
