/-
  The reference of layer 6: the constants and the words of a block.
-/
import Derived.Test.YtcmaclaiholpfaaDoorShaRef
import Derived.Test.YtcmaclaiholpfaaDoorMgA
import Derived.RegionTactic
namespace Go.Proofs.YtcmaclaiholpfaaDoor
open Go.RowKit
set_option linter.unusedVariables false

theorem right_still (w : World) (x n : Nat) (hx : x < 4294967296) (h1 : 1 ≤ n) (h2 : n ≤ 31) :
    Calls Tryd.prog 50 #[.int .u32 x, .int .i64 n] w fun e w' => e = .returned (.int .u32 (rotr x n : Nat)) ∧ w' = w :=
  (right_any w x n hx h1 h2).mono fun e w' ⟨h, hw⟩ => ⟨h, hw.symm⟩

theorem wlist_len (blk : List Int) : ∀ t, (wlist blk t).length = t
  | 0 => rfl
  | t + 1 => by simp [wlist, wlist_len blk t]

/-- Bytes as Nat. -/
theorem byte_nat {zs : List Int} (hz : Byt zs) (i : Nat) : ∃ b : Nat, b < 256 ∧ zs[i]?.getD 0 = (b : Int) ∧ (zs[i]?.getD 0).toNat = b := by
  obtain ⟨h0, h1⟩ := hz.getD i
  exact ⟨(zs[i]?.getD 0).toNat, by omega, by omega, rfl⟩

theorem cast4 (b0 b1 b2 b3 k0 k1 k2 : Nat) : ((b0 * k0 + b1 * k1 + b2 * k2 + b3 : Nat) : Int) = (b0 : Int) * (k0 : Int) + (b1 : Int) * (k1 : Int) + (b2 : Int) * (k2 : Int) + (b3 : Int) := by push_cast; rfl
theorem wset (blk : List Int) (t : Nat) (ht : t < 64) : (wlist blk t ++ List.replicate (64 - t) 0).set t (wnext blk (wlist blk t) t) = wlist blk (t + 1) ++ List.replicate (64 - (t + 1)) 0 := by
  rw [List.set_append, if_neg (by rw [wlist_len]; omega), wlist_len, Nat.sub_self, show 64 - t = (64 - (t + 1)) + 1 by omega, List.replicate_succ, List.set_cons_zero]
  simp [wlist]
theorem be32_lt {blk : List Int} (hz : Byt blk) (t : Nat) : be32 blk t < 4294967296 := by
  obtain ⟨b0, l0, _, e0⟩ := byte_nat hz (4 * t)
  obtain ⟨b1, l1, _, e1⟩ := byte_nat hz (4 * t + 1)
  obtain ⟨b2, l2, _, e2⟩ := byte_nat hz (4 * t + 2)
  obtain ⟨b3, l3, _, e3⟩ := byte_nat hz (4 * t + 3)
  unfold be32
  rw [e0, e1, e2, e3]
  omega
theorem wnext_lt {blk : List Int} (hz : Byt blk) (ws : List Nat) (t : Nat) : wnext blk ws t < 4294967296 := by
  unfold wnext
  split
  · exact be32_lt hz t
  · exact Nat.mod_lt _ (by omega)
theorem wlist_lt {blk : List Int} (hz : Byt blk) : ∀ (t : Nat) (x : Nat), x ∈ wlist blk t → x < 4294967296
  | 0, x, h => by cases h
  | t + 1, x, h => by
    rcases List.mem_append.1 h with h | h
    · exact wlist_lt hz t x h
    · simp at h; subst h; exact wnext_lt hz _ _
/-- A word that has been reckoned. -/
theorem wlist_at {blk : List Int} (hz : Byt blk) {t i : Nat} (hi : i < t) (m : Nat) : ∃ x : Nat, x < 4294967296 ∧ (wlist blk t)[i]?.getD 0 = x ∧ (wlist blk t ++ List.replicate m 0)[i]? = some x := by
  have hl : i < (wlist blk t).length := by rw [wlist_len]; exact hi
  refine ⟨(wlist blk t)[i], wlist_lt hz t _ (List.getElem_mem hl), by simp [hl], ?_⟩
  rw [List.getElem?_append_left hl]
  simp [hl]

set_option maxRecDepth 100000 in
set_option maxHeartbeats 3200000 in
theorem words_any (w : World) (g off c : Nat) (blk : List Int) (hr : Reads w (some ⟨g, off, none⟩) 64 blk) (hb : Byt blk) :
    Calls Tryd.prog 49 #[.slice (some ⟨g, off, none⟩) 64 c] w fun e w' => e = .returned (.slice (some ⟨w.heap.size, 0, none⟩) 64 64) ∧ Blk32 w' w.heap.size (wlist blk 64) ∧ Below w.heap.size w w' := by
  have infoW : (Tryd.prog.info? 23).map (fun i => (i.zero, i.size, i.bytes)) = some (some (.int .u32 0), 1, 4) := by kernel_rfl
  have hmk := fun W => run_make_row' (P := Tryd.prog) 54 23 (.int .u32 0) 4 Tryd.underlying54 infoW rfl .i64 .i64 64 (by omega) (by omega) W
  rw [show ((64 : Nat) : Int) = 64 from rfl] at hmk
  have H0 := Lib.hid (blk32_made w 64)
  have HR := Lib.hid hr
  have HB := Lib.hid hb
  clear hr hb infoW
  go_enter Tryd.func49, Tryd.ntmps49
  go_wp2
  clear hmk
  go_loopw [4] (fun i wr => ∃ t : Nat, t ≤ 64 ∧ i = .int .i64 t ∧ Blk32 wr w.heap.size (wlist blk t ++ List.replicate (64 - t) 0) ∧ Below w.heap.size w wr) (fun i _ => 64 - (intOf i).toNat)
  case atStart => exact ⟨0, by omega, rfl, H0.out, (Below.refl _ _).alloc (Nat.le_refl _) _⟩
  case round =>
    obtain ⟨t, ht, rfl, hw, hb⟩ := hrel
    by_cases hlt : t < 64
    · have hlen := wlist_len blk t
      have hself : (wlist blk t ++ List.replicate (64 - t) 0)[t]? = some 0 := by
        rw [List.getElem?_append_right (by omega), hlen, Nat.sub_self, List.getElem?_replicate, if_pos (by omega)]
      have ct := hw.cell hself
      have ft := hw.free t
      have HW := Lib.hid hw
      have HBW := Lib.hid hb
      have HRW := Lib.hid (HR.out.below hb)
      by_cases h16 : t < 16
      · have hcell : ∀ i, i < 64 → wr.cell? ⟨g, off + i, none⟩ = some (.int .u8 (blk[i]?.getD 0)) := by
          intro i hi
          rcases HRW.out.2 with h | ⟨g', off', e, _, h⟩
          · omega
          · cases e; exact h i hi
        obtain ⟨b0, l0, e0, _⟩ := byte_nat HB.out (4 * t)
        obtain ⟨b1, l1, e1, _⟩ := byte_nat HB.out (4 * t + 1)
        obtain ⟨b2, l2, e2, _⟩ := byte_nat HB.out (4 * t + 2)
        obtain ⟨b3, l3, e3, _⟩ := byte_nat HB.out (4 * t + 3)
        have c0 := hcell (4 * t) (by omega)
        have c1 := hcell (4 * t + 1) (by omega)
        have c2 := hcell (4 * t + 2) (by omega)
        have c3 := hcell (4 * t + 3) (by omega)
        rw [e0] at c0
        rw [e1] at c1
        rw [e2] at c2
        rw [e3] at c3
        have hbe : wnext blk (wlist blk t) t = b0 * 16777216 + b1 * 65536 + b2 * 256 + b3 := by
          unfold wnext be32
          rw [if_pos h16, e0, e1, e2, e3]
          simp
        have HBE := Lib.hid hbe
        have HE := Lib.hid (And.intro e0 (And.intro e1 (And.intro e2 e3)))
        have gt : (t : Int) < 16 := by omega
        have gt0 : (0 : Int) ≤ t := by omega
        have w0 : IntKind.i64.wrap (4 * (t : Int)) = 4 * (t : Int) := by rw [IntKind.wrap_i64]; omega
        have w1 : IntKind.i64.wrap (4 * (t : Int) + 1) = 4 * (t : Int) + 1 := by rw [IntKind.wrap_i64]; omega
        have w2 : IntKind.i64.wrap (4 * (t : Int) + 2) = 4 * (t : Int) + 2 := by rw [IntKind.wrap_i64]; omega
        have w3 : IntKind.i64.wrap (4 * (t : Int) + 3) = 4 * (t : Int) + 3 := by rw [IntKind.wrap_i64]; omega
        have p0 : (0 : Int) ≤ 4 * (t : Int) := by omega
        have q0 : 4 * (t : Int) < 64 := by omega
        have n0 : (4 * (t : Int)).toNat = 4 * t := by omega
        have p1 : (0 : Int) ≤ 4 * (t : Int) + 1 := by omega
        have q1 : 4 * (t : Int) + 1 < 64 := by omega
        have n1 : (4 * (t : Int) + 1).toNat = 4 * t + 1 := by omega
        have p2 : (0 : Int) ≤ 4 * (t : Int) + 2 := by omega
        have q2 : 4 * (t : Int) + 2 < 64 := by omega
        have n2 : (4 * (t : Int) + 2).toNat = 4 * t + 2 := by omega
        have p3 : (0 : Int) ≤ 4 * (t : Int) + 3 := by omega
        have q3 : 4 * (t : Int) + 3 < 64 := by omega
        have n3 : (4 * (t : Int) + 3).toNat = 4 * t + 3 := by omega
        clear hcell hw hb hself hbe e0 e1 e2 e3
        go_wp2
        go_still_tail 35, (by kernel_rfl)
        change wpList _ _ _ _ _ wr.drew
        go_wp2
        go_roundw
        case rel =>
          refine ⟨t + 1, by omega, by go_num, ?_, ?_⟩
          · have h1 := HW.out.set t (b0 * 16777216 + b1 * 65536 + b2 * 256 + b3)
            rw [cast4, ← HBE.out, wset blk t hlt] at h1
            exact h1.drewN 1
          · exact (HBW.out.setCell (by simp) _).drew
        case measure => simp [intOf]; omega
      · obtain ⟨x16, l16, v16, g16⟩ := wlist_at HB.out (t := t) (i := t - 16) (by omega) (64 - t)
        obtain ⟨x15, l15, v15, g15⟩ := wlist_at HB.out (t := t) (i := t - 15) (by omega) (64 - t)
        obtain ⟨x7, l7, v7, g7⟩ := wlist_at HB.out (t := t) (i := t - 7) (by omega) (64 - t)
        obtain ⟨x2, l2, v2, g2⟩ := wlist_at HB.out (t := t) (i := t - 2) (by omega) (64 - t)
        have c16 := hw.cell g16
        have c15 := hw.cell g15
        have c7 := hw.cell g7
        have c2 := hw.cell g2
        have hbe : wnext blk (wlist blk t) t = (x16 + x7 + sig0 x15 + sig1 x2) % 4294967296 := by
          unfold wnext
          rw [if_neg h16, v16, v15, v7, v2]
        have HBE := Lib.hid hbe
        have gt : ¬ (t : Int) < 16 := by omega
        have gt2 : (16 : Int) ≤ t := by omega
        have gt7 : (7 : Int) ≤ t := by omega
        have gt15 : (15 : Int) ≤ t := by omega
        have gt3 : (2 : Int) ≤ t := by omega
        have w16 : IntKind.i64.wrap ((t : Int) - 16) = (t : Int) - 16 := by rw [IntKind.wrap_i64]; omega
        have w7 : IntKind.i64.wrap ((t : Int) - 7) = (t : Int) - 7 := by rw [IntKind.wrap_i64]; omega
        have n16 : ((t : Int) - 16).toNat = t - 16 := by omega
        have n15 : ((t : Int) - 15).toNat = t - 15 := by omega
        have n7 : ((t : Int) - 7).toNat = t - 7 := by omega
        have n2 : ((t : Int) - 2).toNat = t - 2 := by omega
        have p16 : (0 : Int) ≤ (t : Int) - 16 := by omega
        have q16 : (t : Int) - 16 < 64 := by omega
        have p7 : (0 : Int) ≤ (t : Int) - 7 := by omega
        have q7 : (t : Int) - 7 < 64 := by omega
        have r1 := fun W => right_still W x15 7 l15 (by omega) (by omega)
        have r2 := fun W => right_still W x15 18 l15 (by omega) (by omega)
        have r3 := fun W => right_still W x2 17 l2 (by omega) (by omega)
        have r4 := fun W => right_still W x2 19 l2 (by omega) (by omega)
        have RR := Lib.hid (And.intro r1 (And.intro r2 (And.intro r3 r4)))
        clear r1 r2 r3 r4 hw hb hself hbe v16 v15 v7 v2 g16 g15 g7 g2
        go_wp2
        go_still_tail 31, (by kernel_rfl)
        still_call (RR.out.1 _)
        repeat still_step
        still_call (RR.out.2.1 _)
        repeat still_step
        still_call (RR.out.2.2.1 _)
        repeat still_step
        still_call (RR.out.2.2.2 _)
        repeat still_step
        refine wpStill_nil ?_
        change wpList _ _ _ _ _ wr.drew
        go_wp2
        go_roundw
        case rel =>
          refine ⟨t + 1, by omega, by go_num, ?_, ?_⟩
          · have h1 := HW.out.set t ((x16 + x7 + sig0 x15 + sig1 x2) % 4294967296)
            rw [← cast_sum4 x16 x7 (sig0 x15) (sig1 x2) 4294967296, ← sig0_cast l15, ← sig1_cast l2] at h1
            rw [← wset blk t hlt, HBE.out]
            exact h1.drewN 1
          · exact (HBW.out.setCell (by simp) _).drew
        case measure => simp [intOf]; omega
    · obtain rfl : t = 64 := by omega
      have HW := Lib.hid hw
      have HBW := Lib.hid hb
      clear hw hb
      go_wp2
      go_ret
      exact ⟨rfl, by simpa using HW.out, HBW.out⟩
end Go.Proofs.YtcmaclaiholpfaaDoor
