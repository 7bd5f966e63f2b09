/-
  The program's sha: New, Sum of a state, nil states.
-/
import Derived.Test.YtcmaclaiholpfaaDoorShaP8
import Derived.Test.YtcmaclaiholpfaaDoorShaSt
namespace Go.Proofs.YtcmaclaiholpfaaDoor
open Go.RowKit
set_option linter.unusedVariables false

theorem infoS : (Tryd.prog.info? 77).map (·.size) = some 73 := by kernel_rfl
theorem stCells_len {A : List Nat} {B : List Int} {n : Nat} (h8 : A.length = 8) (h64 : B.length = 64) : (stCells A B n).length = 73 := by simp [stCells]; omega
theorem stCells_one (A : List Nat) (B : List Int) (n : Nat) : (stCells A B n).toArray.all (·.oneCell') = true := by
  refine all_oneCell_toArray fun v hv => ?_
  unfold stCells at hv
  rcases List.mem_append.1 hv with hv | hv
  · obtain ⟨x, _, rfl⟩ := List.mem_map.1 hv; rfl
  · rcases List.mem_append.1 hv with hv | hv
    · obtain ⟨x, _, rfl⟩ := List.mem_map.1 hv; rfl
    · rw [List.mem_singleton.1 hv]; rfl
theorem Raw.range {w : World} {sb : Nat} {A : List Nat} {B : List Int} {n : Nat} (h : Raw w sb A B n) : w.rangeAt sb 0 (stCells A B n) := fun j v hv => by
  rw [Nat.zero_add]
  exact h.cell hv
theorem zero_eight : Eight (List.replicate 8 0) := ⟨0, 0, 0, 0, 0, 0, 0, 0, rfl, by omega, by omega, by omega, by omega, by omega, by omega, by omega, by omega⟩
theorem stv_zero (w : World) : StV (w.alloc (.cells (stCells (List.replicate 8 0) (List.replicate 64 0) 0).toArray 77)) w.heap.size [] :=
  ⟨_, _, ⟨heap_alloc_new _ _, zero_eight, by simp, Byt.rep (by omega) (by omega) _⟩, inv_nil⟩

/-- The cells of no bytes. -/
def Z0 : List Value := stCells (List.replicate 8 0) (List.replicate 64 0) 0
theorem z0_len : Z0.length = 73 := by simp [Z0, stCells]
set_option maxRecDepth 100000 in
theorem zero_run (W : World) : (zeroValue 77).run Tryd.prog W = .ok (.agg Z0.toArray) W := by
  have h : (Tryd.prog.info? 77).map (·.zero) = some (some (.agg Z0.toArray)) := by kernel_rfl
  cases hq : Tryd.prog.info? 77 with
  | none => simp [hq] at h
  | some i => simp [hq] at h; simp [zeroValue, typeInfo, hq, h]

set_option maxRecDepth 100000 in
theorem pnew_any (w : World) : Calls Tryd.prog 42 #[] w fun e w' => e = .returned (.pointer (some ⟨w.heap.size, 0, none⟩)) ∧ StV w' w.heap.size [] ∧ Below w.heap.size w w' := by
  have HZ := Lib.hid (stv_zero w)
  have hz := zero_run
  obtain ⟨Z, hZ⟩ : ∃ Z, Z = Z0.toArray := ⟨_, rfl⟩
  rw [← hZ] at hz
  have HE := Lib.hid hZ
  clear hZ
  go_enter Tryd.func42, Tryd.ntmps42
  go_wp2
  go_ret
  exact ⟨rfl, by rw [HE.out]; exact HZ.out, (Below.refl _ _).alloc (Nat.le_refl _) _⟩

set_option maxRecDepth 100000 in
theorem pwrite_nil (w : World) (a : Option Addr) (len cap : Nat) : Calls Tryd.prog 43 #[.pointer none, .slice a len cap] w fun e w' => e = .returned (.tuple #[]) ∧ Below w.heap.size w w' := by
  go_enter Tryd.func43, Tryd.ntmps43
  go_wp2
  exact bodyPost_ret (results_none rfl _ _ _) rfl ⟨rfl, Below.refl _ _⟩

theorem infoD : (Tryd.prog.info? 46).map (·.size) = some (((List.replicate 32 (0 : Int)).map (Value.int .u8)).toArray).size := by kernel_rfl
set_option maxRecDepth 100000 in
theorem psum_nil (w : World) : Calls Tryd.prog 44 #[.pointer none] w fun e w' => e = .returned (dv (List.replicate 32 0)) ∧ Below w.heap.size w w' := by
  go_enter Tryd.func44, Tryd.ntmps44
  go_wp2_with (refine wpList_store_fresh rfl 46 (.tmp 2) (.tmp 6) rfl w _ rfl _ ((List.replicate 32 (0 : Int)).map (Value.int .u8)).toArray rfl rfl infoD rfl (dv_one _) ?_)
  refine bodyPost_ret (v := dv (List.replicate 32 0)) ?_ rfl ⟨rfl, (Below.refl _ _).alloc (Nat.le_refl _) _⟩
  rw [results_one rfl]
  show Result.andThen ((asAddr (.pointer (some ⟨w.heap.size, 0, none⟩))).run Tryd.prog _) _ = _
  simp only [asAddr, Sem.run_pure, Result.andThen_ok]
  exact run_loadVar_new w 46 _ 32 5 (by kernel_rfl) infoD
end Go.Proofs.YtcmaclaiholpfaaDoor
