/-
  The program's sha: a state's memory; its words.
-/
import Derived.Test.YtcmaclaiholpfaaDoorShaSum
import Derived.Test.YtcmaclaiholpfaaDoorTab
import Derived.Test.YtcmaclaiholpfaaDoorShaP1
import Derived.Test.YtcmaclaiholpfaaDoorMgA
import Derived.Deep.WholeRow
namespace Go.Proofs.YtcmaclaiholpfaaDoor
open Go.RowKit
set_option linter.unusedVariables false

/-- The cells of a state: what the blocks have added, the block, how many bytes. -/
def stCells (A : List Nat) (B : List Int) (n : Nat) : List Value := A.map word ++ (B.map (Value.int .u8) ++ [.int .u64 (n : Int)])
/-- Block sb is a state of these. -/
structure Raw (w : World) (sb : Nat) (A : List Nat) (B : List Int) (n : Nat) : Prop where
  row : w.heap[sb]? = some (.cells (stCells A B n).toArray 77 (0, 0))
  a : Eight A
  b : B.length = 64
  byt : Byt B
section
variable {w w' : World} {sb : Nat} {A : List Nat} {B : List Int} {n : Nat}
theorem Raw.lt (h : Raw w sb A B n) : sb < w.heap.size := (Array.getElem?_eq_some_iff.1 h.row).1
theorem Raw.turn (h : Raw w sb A B n) {bs : List Nat} (ht : Turn bs w w') (hn : sb ∉ bs) : Raw w' sb A B n := ⟨(ht.block sb h.lt hn).trans h.row, h.a, h.b, h.byt⟩
theorem Raw.below (h : Raw w sb A B n) (hb : Below w.heap.size w w') : Raw w' sb A B n := ⟨(hb.block sb h.lt).trans h.row, h.a, h.b, h.byt⟩
theorem Raw.belowAt (h : Raw w sb A B n) {k : Nat} (hb : Below k w w') (hk : sb < k) : Raw w' sb A B n := ⟨(hb.block sb hk).trans h.row, h.a, h.b, h.byt⟩
theorem Raw.cell (h : Raw w sb A B n) {i : Nat} {v : Value} (hi : (stCells A B n)[i]? = some v) : w.cell? ⟨sb, i, none⟩ = some v := by
  rw [cell_of_row w sb i _ _ (0, 0) h.row]
  simpa using hi
theorem Raw.free (h : Raw w sb A B n) (i : Nat) : w.frozen? ⟨sb, i, none⟩ = false := by simp [World.frozen?, h.row]
theorem stCells_a {i x : Nat} (h8 : A.length = 8) (hi : A[i]? = some x) : (stCells A B n)[i]? = some (word x) := by
  have : i < A.length := (List.getElem?_eq_some_iff.1 hi).1
  unfold stCells
  rw [List.getElem?_append_left (by simpa using this), List.getElem?_map, hi]; rfl
theorem stCells_b {i : Nat} {x : Int} (h8 : A.length = 8) (hi : B[i]? = some x) : (stCells A B n)[8 + i]? = some (.int .u8 x) := by
  have : i < B.length := (List.getElem?_eq_some_iff.1 hi).1
  unfold stCells
  rw [List.getElem?_append_right (by simp; omega), List.length_map, h8, Nat.add_sub_cancel_left, List.getElem?_append_left (by simpa using this), List.getElem?_map, hi]; rfl
theorem stCells_n (h8 : A.length = 8) (h64 : B.length = 64) : (stCells A B n)[72]? = some (.int .u64 (n : Int)) := by
  unfold stCells
  rw [List.getElem?_append_right (by simp; omega), List.length_map, h8, List.getElem?_append_right (by simp; omega), List.length_map, h64]; rfl
theorem Raw.rangeA (h : Raw w sb A B n) : w.rangeAt sb 0 (A.map word) := fun j v hv => by
  rw [Nat.zero_add]
  rw [List.getElem?_map] at hv
  obtain ⟨x, hx, rfl⟩ := Option.map_eq_some_iff.1 hv
  exact h.cell (stCells_a h.a.len hx)
theorem Raw.rangeB (h : Raw w sb A B n) : w.rangeAt sb 8 (B.map (Value.int .u8)) := fun j v hv => by
  rw [List.getElem?_map] at hv
  obtain ⟨x, hx, rfl⟩ := Option.map_eq_some_iff.1 hv
  exact h.cell (stCells_b h.a.len hx)
theorem Raw.count (h : Raw w sb A B n) : w.cell? ⟨sb, 72, none⟩ = some (.int .u64 (n : Int)) := h.cell (stCells_n h.a.len h.b)
end

/-- A whole row of one's own that was made last is written over. -/
theorem wpList_store_fresh {P : Program} {ops : Array Oper} {rest : List Oper} {op : Oper} {a : Act} {Q : Exit → Act → World → Prop} (hgd : op.guard = none) (T : TypeId) (x y : Operand) (ho : op.op = .store T x y)
    (w1 : World) (g : Nat) (hg : g = w1.heap.size) (Z D : Array Value) (hx : a.eval x = .pointer (some ⟨g, 0, none⟩)) (hy : a.eval y = .agg D) (hi : (P.info? T).map (·.size) = some D.size) (hz : Z.size = D.size) (h1 : D.all (·.oneCell') = true)
    (h : wpList P ops Q rest (a.put op.dst undef) (w1.alloc (.cells D T))) : wpList P ops Q (op :: rest) a (w1.alloc (.cells Z T)) := by
  subst hg
  refine wpList_plain hgd fun K hK => ?_
  have hst := run_storeAt_new (P := P) w1 T Z D hi hz h1
  unfold Oper.wp execOp
  simp only [ho, hx, hy, Sem.run_bind, Sem.run_pure, Result.andThen_ok, hst]
  exact hK _ _ h

/-- An array of one-cell elements at an index. -/
theorem run_index_row {P : Program} (T e : TypeId) (N : Nat) (hT : P.underlying T = some (.array N e)) (he : (P.underlying e).map (fun d => match d with | .struct _ => false | .array _ _ => false | _ => true) = some true) (hs : (P.info? e).map (·.size) = some 1)
    (cs : Array Value) (k : Nat) (hk : k < N) (v : Value) (hv : cs[k]? = some v) (W : World) : (Instr.index T (.agg cs) (.int .i64 (k : Int))).run P W = .ok v W := by
  have h1 : (sizeOf e).run P W = .ok 1 W := by
    cases hq : P.info? e with
    | none => simp [hq] at hs
    | some i => simp [hq] at hs; simp [sizeOf, typeInfo, hq, hs]
  have h2 : (isAgg e).run P W = .ok false W := by
    cases hq : P.underlying e with
    | none => simp [hq] at he
    | some d =>
      unfold isAgg
      rw [Sem.run_bind, run_underlying hq W]
      cases d <;> simp_all
  have g1 : (0 : Int) ≤ (k : Int) := by omega
  have g2 : (k : Int) < (N : Int) := by omega
  simp [Instr.index, asIntOf, run_underlying hT, part, h1, h2, hv, hk]
theorem word_one (zs : List Nat) : (zs.map word).toArray.all (·.oneCell') = true := all_oneCell_toArray (by intro v hv; obtain ⟨z, _, rfl⟩ := List.mem_map.1 hv; rfl)
theorem info8 : (Tryd.prog.info? 75).map (·.size) = some 8 := by kernel_rfl
theorem idx8 (A : List Nat) (k x : Nat) (hk : k < 8) (hx : A[k]? = some x) (W : World) : (Instr.index 75 (.agg (A.map word).toArray) (.int .i64 (k : Int))).run Tryd.prog W = .ok (.int .u32 (x : Int)) W :=
  run_index_row (P := Tryd.prog) 75 23 8 (by kernel_rfl) (by kernel_rfl) (by kernel_rfl) _ k hk _ (by simp [hx, word]) W
theorem there_of_arr {w : World} {g n : Nat} {T : TypeId} {cs : List Value} (h : Arr w g T cs) (hn : n = cs.length) : w.there g 0 n := by
  subst hn
  intro j hj
  rw [Nat.zero_add, h.cell (i := j) (v := cs[j]) (by simp [hj])]
  exact ⟨rfl, h.free j⟩
theorem Tab.range {w : World} (h : Tab w) : w.rangeAt 1 0 (H0s.map word) := fun j v hv => by
  rw [Nat.zero_add]
  rw [List.getElem?_map] at hv
  obtain ⟨x, hx, rfl⟩ := Option.map_eq_some_iff.1 hv
  exact h.2 j x hx

set_option maxRecDepth 100000 in
set_option maxHeartbeats 1600000 in
theorem pwords_any (w : World) (sb : Nat) (A : List Nat) (B : List Int) (n : Nat) (hr : Raw w sb A B n) (ht : Tab w) :
    Calls Tryd.prog 57 #[.pointer (some ⟨sb, 0, none⟩)] w fun e w' => e = .returned (.agg ((addL H0s A).map word).toArray) ∧ Below w.heap.size w w' := by
  have HR := Lib.hid hr
  have HT := Lib.hid ht
  have hlt := hr.lt
  have hl := hr.a.len
  have infoA : (Tryd.prog.info? 75).map (·.size) = some (A.map word).length := by rw [List.length_map, hl]; exact info8
  have infoH : (Tryd.prog.info? 75).map (·.size) = some (H0s.map word).length := info8
  clear hr ht
  obtain ⟨X, hX⟩ : ∃ X, X = (H0s.map word) := ⟨_, rfl⟩
  obtain ⟨Y, hY⟩ : ∃ Y, Y = (A.map word) := ⟨_, rfl⟩
  rw [← hX] at infoH
  rw [← hY] at infoA
  have HX := Lib.hid (And.intro hX hY)
  clear hX hY
  go_enter Tryd.func57, Tryd.ntmps57
  go_wp2_with (first
    | refine wpList_load_mid rfl 75 (.global 1) rfl 1 0 rfl X (.array 8 23) (by rw [HX.out.1]; exact (HT.out.below ((Below.refl _ _).alloc (Nat.le_refl _) _) HT.out.lt).range) (by kernel_rfl) rfl infoH ?_
    | refine wpList_store_fresh rfl 75 (.tmp 3) (.tmp 6) rfl _ _ (by simp) _ X.toArray rfl rfl (by simpa using infoH) (by rw [HX.out.1]; rfl) (by rw [HX.out.1]; exact word_one _) ?_
    | refine wpList_load_mid rfl 75 (.tmp 9) rfl sb 0 rfl Y (.array 8 23) (by rw [HX.out.2]; exact (HR.out.below (((Below.refl _ _).alloc (Nat.le_refl _) _).alloc (by simp) _)).rangeA) (by kernel_rfl) rfl infoA ?_)
  go_loopw [11] (fun i wr => ∃ k : Nat, k ≤ 8 ∧ i = .int .i64 k ∧ Arr wr (w.heap.size + 1) 75 ((mix H0s A k).map word) ∧ Arr wr w.heap.size 75 (List.replicate 8 (.int .u32 0)) ∧ Below w.heap.size w wr) (fun i _ => 8 - (intOf i).toNat)
  case atStart =>
    have hb0 : Below w.heap.size w ((w.alloc (.cells (List.replicate 8 (Value.int .u32 0)).toArray 75)).alloc (.cells X.toArray 75)) := ((Below.refl _ _).alloc (Nat.le_refl _) _).alloc (by simp) _
    refine ⟨0, by omega, rfl, ?_, ?_, hb0⟩
    · rw [mix_zero eight_H0, ← HX.out.1]
      have := arr_new (w.alloc (.cells (List.replicate 8 (Value.int .u32 0)).toArray 75)) 75 X
      simpa using this
    · have := arr_new w 75 (List.replicate 8 (Value.int .u32 0))
      exact this.below ((Below.refl (w.heap.size + 1) _).alloc (by simp) _) (by omega)
  case round =>
    obtain ⟨k, hk, rfl, hl1, hr1, hb⟩ := hrel
    by_cases hk8 : k < 8
    · obtain ⟨x, y, gx, gy, hset⟩ := mix_step eight_H0 HR.out.a hk8
      have cx := hl1.cell (i := k) (v := word x) (by rw [List.getElem?_map, gx]; rfl)
      have fx := hl1.free k
      have hix := idx8 A k y hk8 gy
      rw [← HX.out.2] at hix
      have hs2 := hl1.set k (word ((x + y) % 4294967296))
      have hr2 : Arr (wr.setCell ⟨w.heap.size + 1, k, none⟩ (word ((x + y) % 4294967296))) w.heap.size 75 (List.replicate 8 (.int .u32 0)) := hr1.off _ (by simp)
      have hb2 : Below w.heap.size w (wr.setCell ⟨w.heap.size + 1, k, none⟩ (word ((x + y) % 4294967296))) := hb.setCell (by simp) _
      rw [← List.map_set, hset] at hs2
      unfold word at cx
      rw [show word ((x + y) % 4294967296) = Value.int .u32 (((x : Int) + (y : Int)) % 4294967296) by unfold word; rw [cast_two]] at hs2 hr2 hb2
      have gk : (k : Int) < 8 := by omega
      have HS := Lib.hid (And.intro hs2 (And.intro hr2 hb2))
      clear hl1 hr1 hb gx gy hset hs2 hr2 hb2
      go_wp2
      go_roundw
      case rel => exact ⟨k + 1, by omega, by go_num, HS.out.1, HS.out.2.1, HS.out.2.2⟩
      case measure => simp [intOf]; omega
    · obtain rfl : k = 8 := by omega
      rw [show ((8 : Nat) : Int) = 8 from rfl]
      rw [mix_all eight_H0 HR.out.a] at hl1
      have hlen : (addL H0s A).length = 8 := (eight_add eight_H0 HR.out.a).len
      obtain ⟨Z, hZ⟩ : ∃ Z, Z = (addL H0s A).map word := ⟨_, rfl⟩
      have infoZ : (Tryd.prog.info? 75).map (·.size) = some Z.length := by rw [hZ, List.length_map, hlen]; exact info8
      have hone : Z.toArray.all (·.oneCell') = true := by rw [hZ]; exact word_one _
      rw [← hZ] at hl1
      have hzl : Z.length = 8 := by rw [hZ, List.length_map, hlen]
      have HZ := Lib.hid hZ
      have HM := Lib.hid (And.intro hl1 (And.intro hr1 (And.intro hb hzl)))
      clear hl1 hr1 hb hZ hzl hlen
      go_upto_region 7 with fail
      refine wp_region_lit ?_
      refine wpList_load_mid rfl 75 (.tmp 3) rfl (w.heap.size + 1) 0 rfl Z (.array 8 23) HM.out.1.range (by kernel_rfl) rfl infoZ ?_
      refine wpList_store_mid rfl 75 (.tmp 2) (.tmp 22) rfl w.heap.size 0 Z.toArray rfl (Vals.eval_put_self _ _ _ (show 22 < 23 by decide)) (there_of_arr HM.out.2.1 (by simp [HM.out.2.2.2])) (by simpa using infoZ) hone ?_
      have hend := World.rangeAt_setCells_same wr w.heap.size 0 Z (there_of_arr HM.out.2.1 (by simp [HM.out.2.2.2]))
      have hbl := below_setCells w.heap.size w.heap.size (Nat.le_refl _) Z 0 w wr HM.out.2.2.1
      have HEND := Lib.hid (And.intro hend hbl)
      clear hend hbl
      rw [show Z.toArray.toList = Z from rfl]
      generalize wr.setCells w.heap.size 0 Z = wend at *
      go_wp2
      refine bodyPost_ret (v := .agg Z.toArray) ?_ rfl ⟨by rw [HZ.out], HEND.out.2⟩
      rw [results_one rfl]
      show Result.andThen ((asAddr (.pointer (some ⟨w.heap.size, 0, none⟩))).run Tryd.prog wend) _ = _
      simp only [asAddr, Sem.run_pure, Result.andThen_ok]
      exact run_loadVar_mid wend w.heap.size 0 75 Z (.array 8 23) HEND.out.1 (by kernel_rfl) rfl infoZ
end Go.Proofs.YtcmaclaiholpfaaDoor
