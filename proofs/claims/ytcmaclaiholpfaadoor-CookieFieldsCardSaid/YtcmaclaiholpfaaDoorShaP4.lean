/-
  The program's sha: the words of a block.
-/
import Derived.Test.YtcmaclaiholpfaaDoorShaP3
namespace Go.Proofs.YtcmaclaiholpfaaDoor
open Go.RowKit
set_option linter.unusedVariables false

/-- The first m bytes of word j. -/
def accW (blk : List Int) (j : Nat) : Nat → Nat
  | 0 => 0
  | m + 1 => accW blk j m * 256 + (blk[4 * j + m]?.getD 0).toNat
def part1 (blk : List Int) (i : Nat) : List Nat := (List.range 64).map fun j => accW blk j (min 4 (i - 4 * j))
theorem accW_four (blk : List Int) (j : Nat) : accW blk j 4 = be32 blk j := by
  simp only [accW, be32, Nat.add_zero, Nat.zero_mul, Nat.zero_add]
  generalize (blk[4 * j]?.getD 0).toNat = a
  generalize (blk[4 * j + 1]?.getD 0).toNat = b
  generalize (blk[4 * j + 2]?.getD 0).toNat = c
  generalize (blk[4 * j + 3]?.getD 0).toNat = d
  omega
theorem accW_lt {blk : List Int} (hz : Byt blk) (j : Nat) : ∀ m, accW blk j m < 256 ^ m
  | 0 => by simp [accW]
  | m + 1 => by
    have h := accW_lt hz j m
    obtain ⟨b, hb, _, e⟩ := byte_nat hz (4 * j + m)
    rw [accW, e, Nat.pow_succ]
    omega
theorem part1_len (blk : List Int) (i : Nat) : (part1 blk i).length = 64 := by simp [part1]
theorem part1_at {blk : List Int} {i j : Nat} (hj : j < 64) : (part1 blk i)[j]? = some (accW blk j (min 4 (i - 4 * j))) := by
  unfold part1
  rw [List.getElem?_map, List.getElem?_range hj]; rfl
theorem part1_zero (blk : List Int) : part1 blk 0 = List.replicate 64 0 := by
  refine List.ext_getElem? fun j => ?_
  by_cases hj : j < 64
  · rw [part1_at hj, List.getElem?_replicate, if_pos hj]
    simp [accW]
  · rw [List.getElem?_eq_none (by rw [part1_len]; omega), List.getElem?_eq_none (by simp; omega)]
theorem part1_step (blk : List Int) {i : Nat} (hi : i < 64) : (part1 blk i).set (i / 4) (accW blk (i / 4) (i % 4 + 1)) = part1 blk (i + 1) := by
  refine List.ext_getElem? fun j => ?_
  by_cases hj : j < 64
  · rw [part1_at hj, List.getElem?_set]
    by_cases e : i / 4 = j
    · rw [if_pos e, if_pos (by rw [part1_len]; omega)]
      subst e
      congr 2
      omega
    · rw [if_neg e, part1_at hj]
      congr 2
      omega
  · rw [List.getElem?_eq_none (by rw [List.length_set, part1_len]; omega), List.getElem?_eq_none (by rw [part1_len]; omega)]
theorem wlist_low (blk : List Int) : ∀ t, t ≤ 16 → ∀ j, j < t → (wlist blk t)[j]? = some (be32 blk j)
  | 0, _, j, h => by omega
  | t + 1, ht, j, h => by
    rw [wlist]
    by_cases e : j = t
    · subst e
      rw [List.getElem?_append_right (by rw [wlist_len]; exact Nat.le_refl _), wlist_len, Nat.sub_self]
      simp only [List.getElem?_cons_zero, wnext, if_pos (show j < 16 by omega)]
    · rw [List.getElem?_append_left (by rw [wlist_len]; omega)]
      exact wlist_low blk t (by omega) j (by omega)
theorem part1_all (blk : List Int) : part1 blk 64 = wlist blk 16 ++ List.replicate 48 0 := by
  refine List.ext_getElem? fun j => ?_
  by_cases hj : j < 64
  · rw [part1_at hj]
    by_cases h16 : j < 16
    · rw [List.getElem?_append_left (by rw [wlist_len]; exact h16), wlist_low blk 16 (by omega) j h16, ← accW_four]
      congr 2
      omega
    · rw [List.getElem?_append_right (by rw [wlist_len]; omega), wlist_len, List.getElem?_replicate, if_pos (by omega)]
      rw [show min 4 (64 - 4 * j) = 0 by omega]; rfl
  · rw [List.getElem?_eq_none (by rw [part1_len]; omega), List.getElem?_eq_none (by simp [wlist_len]; omega)]
theorem or_byte {x b : Nat} (hx : x < 16777216) (hb : b < 256) : (x * 256) % 4294967296 ||| b = x * 256 + b := by
  rw [Nat.mod_eq_of_lt (by omega)]
  have := Nat.shiftLeft_add_eq_or_of_lt (i := 8) (b := b) (by simpa using hb) x
  rw [Nat.shiftLeft_eq] at this
  exact this.symm
theorem acc_cast {x b : Nat} (hx : x < 16777216) (hb : b < 256) : bits .or .u32 ((x : Int) * 256 % 4294967296) (b : Int) = ((x * 256 + b : Nat) : Int) := by
  have e1 : ((x : Int) * 256 % 4294967296) = ((x * 256 % 4294967296 : Nat) : Int) := cast_pow_mod x 8 4294967296
  rw [e1, u32_or_nat _ _ (Nat.mod_lt _ (by omega)) (by omega), or_byte hx hb]
theorem info64 : (Tryd.prog.info? 80).map (·.size) = some 64 := by kernel_rfl
theorem infoB64 : (Tryd.prog.info? 58).map (·.size) = some 64 := by kernel_rfl
theorem idx64 (A : List Nat) (k x : Nat) (hk : k < 64) (hx : A[k]? = some x) (W : World) : (Instr.index 80 (.agg (A.map word).toArray) (.int .i64 (k : Int))).run Tryd.prog W = .ok (.int .u32 (x : Int)) W :=
  run_index_row (P := Tryd.prog) 80 23 64 (by kernel_rfl) (by kernel_rfl) (by kernel_rfl) _ k hk _ (by simp [hx, word]) W
theorem idxB (A : List Int) (k : Nat) (x : Int) (hk : k < 64) (hx : A[k]? = some x) (W : World) : (Instr.index 58 (.agg (A.map (Value.int .u8)).toArray) (.int .i64 (k : Int))).run Tryd.prog W = .ok (.int .u8 x) W :=
  run_index_row (P := Tryd.prog) 58 5 64 (by kernel_rfl) (by kernel_rfl) (by kernel_rfl) _ k hk _ (by simp [hx]) W

set_option maxRecDepth 100000 in
set_option maxHeartbeats 3200000 in
theorem psched_any (w : World) (blk : List Int) (hl : blk.length = 64) (hby : Byt blk) :
    Calls Tryd.prog 58 #[.agg (blk.map (Value.int .u8)).toArray] w fun e w' => e = .returned (.agg ((wlist blk 64).map word).toArray) ∧ Below w.heap.size w w' := by
  have HB := Lib.hid (And.intro hl hby)
  obtain ⟨X, hX⟩ : ∃ X, X = (blk.map (Value.int .u8)) := ⟨_, rfl⟩
  have infoX : (Tryd.prog.info? 58).map (·.size) = some X.length := by rw [hX, List.length_map, hl]; exact infoB64
  have HX := Lib.hid hX
  rw [← hX]
  clear hl hby hX
  go_enter Tryd.func58, Tryd.ntmps58
  go_wp2_with (refine wpList_load_mid rfl 58 (.tmp 1) rfl w.heap.size 0 rfl X (.array 64 5) (((arr_new w 58 X).below (((Below.refl (w.heap.size + 1) _).alloc (by simp) _).alloc (by simp) _) (by omega)).range) (by kernel_rfl) rfl infoX ?_)
  go_loopw [10] (fun i wr => ∃ k : Nat, k ≤ 64 ∧ i = .int .i64 k ∧ Arr wr (w.heap.size + 2) 80 ((part1 blk k).map word) ∧ Arr wr (w.heap.size + 1) 80 (List.replicate 64 (.int .u32 0)) ∧ Below w.heap.size w wr) (fun i _ => 64 - (intOf i).toNat)
  case atStart =>
    have hb0 : Below w.heap.size w (((w.alloc (.cells X.toArray 58)).alloc (.cells (List.replicate 64 (Value.int .u32 0)).toArray 80)).alloc (.cells (List.replicate 64 (Value.int .u32 0)).toArray 80)) := (((Below.refl _ _).alloc (Nat.le_refl _) _).alloc (by simp) _).alloc (by simp; omega) _
    refine ⟨0, by omega, rfl, ?_, ?_, hb0⟩
    · rw [part1_zero]
      have := arr_new ((w.alloc (.cells X.toArray 58)).alloc (.cells (List.replicate 64 (Value.int .u32 0)).toArray 80)) 80 (List.replicate 64 (Value.int .u32 0))
      simpa [word] using this
    · have := (arr_new (w.alloc (.cells X.toArray 58)) 80 (List.replicate 64 (Value.int .u32 0))).below ((Below.refl (w.heap.size + 2) _).alloc (by simp) (.cells (List.replicate 64 (Value.int .u32 0)).toArray 80)) (by simp)
      simpa using this
  case round =>
    obtain ⟨k, hk, rfl, hl1, hr1, hb⟩ := hrel
    by_cases hk64 : k < 64
    · obtain ⟨b, lb, eb, _⟩ := byte_nat HB.out.2 k
      have gb : blk[k]? = some (b : Int) := by
        have : k < blk.length := by rw [HB.out.1]; exact hk64
        rw [← eb]
        simp [this]
      have hix := idxB blk k b hk64 gb
      rw [← HX.out] at hix
      have hw3 : accW blk (k / 4) (k % 4) < 16777216 := Nat.lt_of_lt_of_le (accW_lt HB.out.2 (k / 4) (k % 4)) (Nat.pow_le_pow_right (show 0 < 256 by omega) (show k % 4 ≤ 3 by omega))
      have gx : (part1 blk k)[k / 4]? = some (accW blk (k / 4) (k % 4)) := by rw [part1_at (by omega)]; congr 2; omega
      have hset := part1_step blk hk64
      have hnx : accW blk (k / 4) (k % 4 + 1) = accW blk (k / 4) (k % 4) * 256 + b := by
        rw [accW, show 4 * (k / 4) + k % 4 = k by omega, eb]; rfl
      rw [hnx] at hset
      generalize accW blk (k / 4) (k % 4) = x at *
      have cx := hl1.cell (i := k / 4) (v := .int .u32 (x : Int)) (by rw [List.getElem?_map, gx]; rfl)
      have fx := hl1.free (k / 4)
      have hs2 := hl1.set (k / 4) (word (x * 256 + b))
      have hr2 : Arr (wr.setCell ⟨w.heap.size + 2, k / 4, none⟩ (word (x * 256 + b))) (w.heap.size + 1) 80 (List.replicate 64 (.int .u32 0)) := hr1.off _ (by simp)
      have hb2 : Below w.heap.size w (wr.setCell ⟨w.heap.size + 2, k / 4, none⟩ (word (x * 256 + b))) := hb.setCell (by simp) _
      rw [← List.map_set, hset] at hs2
      have hor := acc_cast hw3 lb
      rw [show word (x * 256 + b) = Value.int .u32 ((x * 256 + b : Nat) : Int) from rfl] at hs2 hr2 hb2
      have gk : (k : Int) < 64 := by omega
      have q0 : (k : Int) / 4 < 64 := by omega
      have q1 : (0 : Int) ≤ (k : Int) / 4 := by omega
      have q2 : ((k : Int) / 4).toNat = k / 4 := by omega
      have q3 : IntKind.i64.wrap ((k : Int) / 4) = (k : Int) / 4 := by rw [IntKind.wrap_i64]; omega
      have HS := Lib.hid (And.intro hs2 (And.intro hr2 hb2))
      clear hl1 hr1 hb gx hset hs2 hr2 hb2 hnx eb gb hw3
      go_wp2
      go_roundw
      case rel => exact ⟨k + 1, by omega, by go_num, HS.out.1, HS.out.2.1, HS.out.2.2⟩
      case measure => simp [intOf]; omega
    · obtain rfl : k = 64 := by omega
      rw [show ((64 : Nat) : Int) = 64 from rfl]
      rw [part1_all] at hl1
      have HS := Lib.hid (And.intro hl1 (And.intro hr1 hb))
      clear hl1 hr1 hb
      go_wp2
      go_loopw [6] (fun i wr => ∃ t : Nat, 16 ≤ t ∧ t ≤ 64 ∧ i = .int .i64 t ∧ Arr wr (w.heap.size + 2) 80 ((wlist blk t ++ List.replicate (64 - t) 0).map word) ∧ Arr wr (w.heap.size + 1) 80 (List.replicate 64 (.int .u32 0)) ∧ Below w.heap.size w wr) (fun i _ => 64 - (intOf i).toNat)
      case atStart => exact ⟨16, by omega, by omega, rfl, HS.out.1, HS.out.2.1, HS.out.2.2⟩
      case round =>
        obtain ⟨t, h16, ht, rfl, hw, hr1, hb⟩ := hrel
        by_cases hlt : t < 64
        · have hlen := wlist_len blk t
          have hself : (wlist blk t ++ List.replicate (64 - t) 0)[t]? = some 0 := by
            rw [List.getElem?_append_right (by omega), hlen, Nat.sub_self, List.getElem?_replicate, if_pos (by omega)]
          have hcell : ∀ {i x : Nat}, (wlist blk t ++ List.replicate (64 - t) 0)[i]? = some x → wr.cell? ⟨w.heap.size + 2, i, none⟩ = some (.int .u32 (x : Int)) := fun {i x} h => hw.cell (by rw [List.getElem?_map, h]; rfl)
          have ct := hcell hself
          have ft := hw.free t
          obtain ⟨x16, l16, v16, g16⟩ := wlist_at HB.out.2 (t := t) (i := t - 16) (by omega) (64 - t)
          obtain ⟨x15, l15, v15, g15⟩ := wlist_at HB.out.2 (t := t) (i := t - 15) (by omega) (64 - t)
          obtain ⟨x7, l7, v7, g7⟩ := wlist_at HB.out.2 (t := t) (i := t - 7) (by omega) (64 - t)
          obtain ⟨x2, l2, v2, g2⟩ := wlist_at HB.out.2 (t := t) (i := t - 2) (by omega) (64 - t)
          have c16 := hcell g16
          have c15 := hcell g15
          have c7 := hcell g7
          have c2 := hcell g2
          have hbe : wnext blk (wlist blk t) t = (x16 + x7 + sig0 x15 + sig1 x2) % 4294967296 := by
            unfold wnext
            rw [if_neg (by omega), v16, v15, v7, v2]
          have HBE := Lib.hid hbe
          have gt2 : (16 : Int) ≤ t := by omega
          have gt7 : (7 : Int) ≤ t := by omega
          have gt15 : (15 : Int) ≤ t := by omega
          have gt3 : (2 : Int) ≤ t := by omega
          have glt : (t : Int) < 64 := by omega
          have w16 : IntKind.i64.wrap ((t : Int) - 16) = (t : Int) - 16 := by rw [IntKind.wrap_i64]; omega
          have w15 : IntKind.i64.wrap ((t : Int) - 15) = (t : Int) - 15 := by rw [IntKind.wrap_i64]; omega
          have w7 : IntKind.i64.wrap ((t : Int) - 7) = (t : Int) - 7 := by rw [IntKind.wrap_i64]; omega
          have w2 : IntKind.i64.wrap ((t : Int) - 2) = (t : Int) - 2 := by rw [IntKind.wrap_i64]; omega
          have n16 : ((t : Int) - 16).toNat = t - 16 := by omega
          have n15 : ((t : Int) - 15).toNat = t - 15 := by omega
          have n7 : ((t : Int) - 7).toNat = t - 7 := by omega
          have n2 : ((t : Int) - 2).toNat = t - 2 := by omega
          have p16 : (0 : Int) ≤ (t : Int) - 16 := by omega
          have q16 : (t : Int) - 16 < 64 := by omega
          have p15 : (0 : Int) ≤ (t : Int) - 15 := by omega
          have q15 : (t : Int) - 15 < 64 := by omega
          have p7 : (0 : Int) ≤ (t : Int) - 7 := by omega
          have q7 : (t : Int) - 7 < 64 := by omega
          have p2 : (0 : Int) ≤ (t : Int) - 2 := by omega
          have q2 : (t : Int) - 2 < 64 := by omega
          have r1 : ∀ q j, Calls Tryd.prog 59 #[.int .u32 (x15 : Int), .int .i64 7] (wr.drewN (q + j)) fun e w' => e = .returned (.int .u32 (rotr x15 7 : Nat)) ∧ ∃ m, w' = wr.drewN (q + m) := fun q j => pright_q2 wr q j x15 7 l15 (by omega) (by omega)
          have r2 : ∀ q j, Calls Tryd.prog 59 #[.int .u32 (x15 : Int), .int .i64 18] (wr.drewN (q + j)) fun e w' => e = .returned (.int .u32 (rotr x15 18 : Nat)) ∧ ∃ m, w' = wr.drewN (q + m) := fun q j => pright_q2 wr q j x15 18 l15 (by omega) (by omega)
          have r3 : ∀ j, Calls Tryd.prog 59 #[.int .u32 (x2 : Int), .int .i64 17] (wr.drewN j) fun e w' => e = .returned (.int .u32 (rotr x2 17 : Nat)) ∧ ∃ m, w' = wr.drewN m := fun j => pright_q wr j x2 17 l2 (by omega) (by omega)
          have r4 : ∀ j, Calls Tryd.prog 59 #[.int .u32 (x2 : Int), .int .i64 19] (wr.drewN j) fun e w' => e = .returned (.int .u32 (rotr x2 19 : Nat)) ∧ ∃ m, w' = wr.drewN m := fun j => pright_q wr j x2 19 l2 (by omega) (by omega)
          have RR := Lib.hid (And.intro r1 (And.intro r2 (And.intro r3 r4)))
          clear r1 r2 r3 r4
          have LL := Lib.hid (And.intro l15 l2)
          have HW := Lib.hid (And.intro hw (And.intro hr1 hb))
          clear hw hr1 hb hself hcell hbe v16 v15 v7 v2 g16 g15 g7 g2 hlen
          go_wp2
          go_quiet (first | with_reducible exact RR.out.2.2.1 _ | with_reducible exact RR.out.2.2.2 _)
          generalize nq = n1 at *
          go_wp2
          go_quiet (first | with_reducible exact RR.out.1 _ _ | with_reducible exact RR.out.2.1 _ _)
          generalize hwr2 : (wr.drewN n1).drewN nq = wr2
          have d16 : wr2.cell? ⟨w.heap.size + 2, t - 16, none⟩ = some (.int .u32 (x16 : Int)) := by rw [← hwr2]; exact c16
          have d7 : wr2.cell? ⟨w.heap.size + 2, t - 7, none⟩ = some (.int .u32 (x7 : Int)) := by rw [← hwr2]; exact c7
          have dt : wr2.cell? ⟨w.heap.size + 2, t, none⟩ = some (.int .u32 0) := by rw [← hwr2]; exact ct
          have gt : wr2.frozen? ⟨w.heap.size + 2, t, none⟩ = false := by rw [← hwr2]; exact ft
          have HW2 := Lib.hid (show Arr wr2 (w.heap.size + 2) 80 ((wlist blk t ++ List.replicate (64 - t) 0).map word) ∧ Arr wr2 (w.heap.size + 1) 80 (List.replicate 64 (.int .u32 0)) ∧ Below w.heap.size w wr2 by
            rw [← hwr2]; exact ⟨HW.out.1, HW.out.2.1, (below_drewN (below_drewN HW.out.2.2 n1) nq)⟩)
          clear hwr2 c16 c7 ct ft c15 c2 HW
          go_wp2
          go_still_tail 15, (by kernel_rfl)
          change wpList _ _ _ _ _ wr2.drew
          go_wp2
          go_roundw
          case rel =>
            refine ⟨t + 1, by omega, by omega, by go_num, ?_, ?_, ?_⟩
            · have h1 := HW2.out.1.set t (word ((x16 + x7 + sig0 x15 + sig1 x2) % 4294967296))
              rw [← List.map_set, ← HBE.out, wset blk t hlt, HBE.out] at h1
              rw [show word ((x16 + x7 + sig0 x15 + sig1 x2) % 4294967296) = Value.int .u32 (((x16 + x7 + sig0 x15 + sig1 x2) % 4294967296 : Nat) : Int) from rfl, ← cast_sum4 x16 x7 (sig0 x15) (sig1 x2) 4294967296, ← sig0_cast LL.out.1, ← sig1_cast LL.out.2] at h1
              exact h1
            · exact HW2.out.2.1.off _ (by simp)
            · exact (HW2.out.2.2.setCell (by simp; omega) _).drew
          case measure => simp [intOf]; omega
        · obtain rfl : t = 64 := by omega
          rw [show ((64 : Nat) : Int) = 64 from rfl]
          obtain ⟨Z, hZ⟩ : ∃ Z, Z = (wlist blk 64).map word := ⟨_, rfl⟩
          have hzl : Z.length = 64 := by rw [hZ, List.length_map, wlist_len]
          have infoZ : (Tryd.prog.info? 80).map (·.size) = some Z.length := by rw [hzl]; exact info64
          have hone : Z.toArray.all (·.oneCell') = true := by rw [hZ]; exact word_one _
          rw [Nat.sub_self, List.replicate_zero, List.append_nil, ← hZ] at hw
          have HZ := Lib.hid hZ
          have HM := Lib.hid (And.intro hw (And.intro hr1 (And.intro hb hzl)))
          clear hw hr1 hb hZ hzl
          go_upto_region 13 with fail
          refine wp_region_lit ?_
          refine wpList_load_mid rfl 80 (.tmp 3) rfl (w.heap.size + 2) 0 rfl Z (.array 64 23) HM.out.1.range (by kernel_rfl) rfl infoZ ?_
          refine wpList_store_mid rfl 80 (.tmp 2) (.tmp 79) rfl (w.heap.size + 1) 0 Z.toArray rfl (Vals.eval_put_self _ _ _ (show 79 < 80 by decide)) (there_of_arr HM.out.2.1 (by simp [HM.out.2.2.2])) (by simpa using infoZ) hone ?_
          have hend := World.rangeAt_setCells_same wr (w.heap.size + 1) 0 Z (there_of_arr HM.out.2.1 (by simp [HM.out.2.2.2]))
          have hbl := below_setCells w.heap.size (w.heap.size + 1) (by omega) Z 0 w wr HM.out.2.2.1
          have HEND := Lib.hid (And.intro hend hbl)
          clear hend hbl
          rw [show Z.toArray.toList = Z from rfl]
          generalize wr.setCells (w.heap.size + 1) 0 Z = wend at *
          go_wp2
          refine bodyPost_ret (v := .agg Z.toArray) ?_ rfl ⟨by rw [HZ.out], HEND.out.2⟩
          rw [results_one rfl]
          show Result.andThen ((asAddr (.pointer (some ⟨w.heap.size + 1, 0, none⟩))).run Tryd.prog wend) _ = _
          simp only [asAddr, Sem.run_pure, Result.andThen_ok]
          exact run_loadVar_mid wend (w.heap.size + 1) 0 80 Z (.array 64 23) HEND.out.1 (by kernel_rfl) rfl infoZ
end Go.Proofs.YtcmaclaiholpfaaDoor
