/-
  What the laws of layer 6 lean on, as contracts of package sha (to be proved of its functions as they land), and what the anchor gives.
-/
import Derived.Test.YtcmaclaiholpfaaDoorShaSum
import Derived.Test.YtcmaclaiholpfaaDoorTab
import Derived.Test.YtcmaclaiholpfaaDoorRef00c
import Derived.Test.YtcmaclaiholpfaaDoorMgA
import Derived.Deep.WholeRow
import Derived.Stop.BytesEq
namespace Go.Proofs.YtcmaclaiholpfaaDoor
open Go.RowKit
set_option linter.unusedVariables false

/-- A sum as the program hands it back. -/
abbrev dv (zs : List Int) : Value := .agg (zs.map (Value.int .u8)).toArray
/-- Sum does as the document says. -/
def SumOk : Prop := ∀ (a : Option Addr) (len cap : Nat) (zs : List Int) (w : World), Reads w a len zs → Byt zs → len ≤ 1099511627776 → len ≤ cap → Tab w →
  Calls Tryd.prog 53 #[.slice a len cap] w fun e w' => e = .returned (dv (sha zs)) ∧ Below w.heap.size w w'
theorem sha_len (zs : List Int) : (sha zs).length = 32 := digest_len _
theorem dv_one (zs : List Int) : (zs.map (Value.int .u8)).toArray.all (·.oneCell') = true := all_oneCell_toArray (by intro v hv; obtain ⟨z, _, rfl⟩ := List.mem_map.1 hv; rfl)
set_option maxRecDepth 100000 in
theorem sha_abc' : (sha [97, 98, 99])[0]? = some 186 ∧ (sha [97, 98, 99])[1]? = some 120 ∧ (sha [97, 98, 99])[31]? = some 173 := by decide +kernel
theorem there_new (w : World) (n : Nat) (T : TypeId) (v : Value) : (w.alloc (.cells (List.replicate n v).toArray T)).there w.heap.size 0 n := by
  intro j hj
  have h := arr_new w T (List.replicate n v)
  rw [Nat.zero_add, h.cell (i := j) (v := v) (by rw [List.getElem?_replicate, if_pos hj])]
  exact ⟨rfl, h.free j⟩

/-- A whole array into the block that was made last. -/
theorem wpList_store_new {P : Program} {ops : Array Oper} {rest : List Oper} {op : Oper} {a : Act} {Q : Exit → Act → World → Prop} (hgd : op.guard = none) (T : TypeId) (x y : Operand) (ho : op.op = .store T x y)
    (w1 : World) (Z : Array Value) (D : List Int) (hx : a.eval x = .pointer (some ⟨w1.heap.size, 0, none⟩)) (hy : a.eval y = dv D) (hi : (P.info? T).map (·.size) = some 32) (hl : D.length = 32) (hz : Z.size = 32)
    (h : wpList P ops Q rest (a.put op.dst undef) (w1.alloc (.cells (D.map (Value.int .u8)).toArray T))) : wpList P ops Q (op :: rest) a (w1.alloc (.cells Z T)) := by
  refine wpList_plain hgd fun K hK => ?_
  have hst := run_storeAt_new (P := P) w1 T Z (D.map (Value.int .u8)).toArray (by rw [hi]; simp [hl]) (by simp [hl, hz]) (dv_one D)
  unfold Oper.wp execOp
  simp only [ho, hx, hy, dv, Sem.run_bind, Sem.run_pure, Result.andThen_ok, hst]
  exact hK _ _ h
theorem Reads.mark {w : World} {a : Option Addr} {n : Nat} {zs : List Int} (h : Reads w a n zs) (g : Nat) : Reads (markW w g) a n zs := by
  refine ⟨h.1, ?_⟩
  rcases h.2 with h0 | ⟨b, off, ha, hlt, hc⟩
  · exact .inl h0
  · exact .inr ⟨b, off, ha, by rw [markW_size]; exact hlt, fun i hi => by rw [markW_cell]; exact hc i hi⟩
theorem sha_byt (zs : List Int) : Byt (sha zs) := by
  intro z hz
  unfold sha digest at hz
  obtain ⟨i, _, rfl⟩ := List.mem_map.1 hz
  have := Nat.mod_lt ((absorb H0s (padded zs) ((padded zs).length / 64))[i / 4]?.getD 0 / 2 ^ (24 - 8 * (i % 4))) (show 256 > 0 by omega)
  omega
/-- Bytes as the library writes them. -/
def octs (zs : List Int) : List UInt8 := zs.map fun z => UInt8.ofNat z.toNat
theorem octs_cells {zs : List Int} (h : Byt zs) : (octs zs).map Extern.Stop.cell = zs.map (Value.int .u8) := by
  unfold octs
  rw [List.map_map]
  refine List.map_congr_left fun z hz => ?_
  obtain ⟨h0, h1⟩ := h z hz
  show Value.int .u8 ((UInt8.ofNat z.toNat).toNat : Int) = _
  have : (UInt8.ofNat z.toNat).toNat = z.toNat := by rw [UInt8.toNat_ofNat']; omega
  rw [this]
  congr 1
  omega
theorem int_inj : ∀ {xs ys : List Int}, xs.map (Value.int .u8) = ys.map (Value.int .u8) → xs = ys
  | [], [], _ => rfl
  | x :: xs, y :: ys, h => by
    simp only [List.map_cons, List.cons.injEq, Value.int.injEq, true_and] at h
    rw [h.1, int_inj h.2]
  | [], y :: ys, h => by simp at h
  | x :: xs, [], h => by simp at h
theorem octs_eq {xs ys : List Int} (bx : Byt xs) (bz : Byt ys) : (octs xs == octs ys) = decide (xs = ys) := by
  by_cases h : xs = ys
  · subst h; simp
  · rw [decide_eq_false h, beq_eq_false_iff_ne]
    intro e
    refine h (int_inj ?_)
    rw [← octs_cells bx, ← octs_cells bz, e]
theorem cell_size (W : World) : (sizeOf 5).run Tryd.prog W = .ok 1 W := by
  have h : (Tryd.prog.info? 5).map (·.size) = some 1 := by kernel_rfl
  cases hq : Tryd.prog.info? 5 with
  | none => simp [hq] at h
  | some i => simp [hq] at h; simp [sizeOf, typeInfo, hq, h]
/-- Two sums compared. -/
theorem eql_dv (W : World) {xs ys : List Int} (hx : xs.length = 32) (hy : ys.length = 32) (bx : Byt xs) (bz : Byt ys) : (binOp .eql 46 (dv xs) (dv ys)).run Tryd.prog W = .ok (.bool (decide (xs = ys))) W := by
  have := run_eql_bytes (P := Tryd.prog) W 46 5 32 (by kernel_rfl) (by kernel_rfl) cell_size (octs xs) (octs ys) (by simp [octs, hx]) (by simp [octs, hy])
  rw [octs_cells bx, octs_cells bz, octs_eq bx bz] at this
  exact this
theorem guard_dv (W : World) (x y : Operand) (xs ys : Array Value) : (eqGuard .eql 46 x y (.agg xs) (.agg ys)).run Tryd.prog W = .ok () W :=
  run_eqGuard_agg (P := Tryd.prog) W .eql _ x y xs ys (by kernel_rfl)
theorem eql_sha (W : World) (xs : List Int) : (binOp .eql 46 (dv (sha xs)) (dv (sha xs))).run Tryd.prog W = .ok (.bool true) W := by
  rw [eql_dv W (sha_len _) (sha_len _) (sha_byt _) (sha_byt _)]
  simp
theorem neq_sha (W : World) (xs : List Int) : (binOp .neq 46 (dv (sha xs)) (dv (sha xs))).run Tryd.prog W = .ok (.bool false) W := by
  have h := eql_sha W xs
  rw [run_eql_struct] at h
  rw [run_neq_struct]
  cases hq : (Op.equalIn 10000 46 (dv (sha xs)) (dv (sha xs))).run Tryd.prog W with
  | ok b W' => rw [hq] at h; simp only [Result.andThen_ok, Result.ok.injEq, Value.bool.injEq] at h ⊢; obtain ⟨rfl, rfl⟩ := h; exact ⟨rfl, rfl⟩
  | halt x W' => rw [hq] at h; simp [Result.andThen] at h
theorem guard_neq (W : World) (x y : Operand) (xs ys : Array Value) : (eqGuard .neq 46 x y (.agg xs) (.agg ys)).run Tryd.prog W = .ok () W :=
  run_eqGuard_agg (P := Tryd.prog) W .neq _ x y xs ys (by kernel_rfl)
theorem at_get {D : List Int} {i : Nat} {x : Int} (h : D[i]? = some x) {hi : i < D.length} : D[i] = x := by
  simpa [hi] using h
theorem infoA : (Tryd.prog.info? 46).map (·.size) = some 32 := by kernel_rfl
end Go.Proofs.YtcmaclaiholpfaaDoor
