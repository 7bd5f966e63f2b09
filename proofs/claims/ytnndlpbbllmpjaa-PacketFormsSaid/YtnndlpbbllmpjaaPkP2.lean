/-
  Stage 10: the program's number and checksum. Written by genpkp2.py.
-/
import Derived.Test.YtnndlpbbllmpjaaPkP1
import Derived.Test.YtnndlpbbllmpjaaMgA
import Derived.Deep.DeepCutAuto
namespace Go.Proofs.Ytnndlpbbllmpjaa
open Go.RowKit
set_option linter.unusedVariables false
set_option linter.unusedSimpArgs false

set_option maxHeartbeats 800000 in
theorem pnum_any (a : Option Addr) (n c i k : Nat) (b : List Int) (w : World) (hr : Reads w a n b) (hz : Byt b) (hn : n ≤ 140737488355328) (hk : sizB (k : Int) = true) (hk4 : k ≤ 4) (hi : i + k ≤ n) :
    Calls Try.prog 42 #[.slice a n c, .int .i64 (i : Int), .int .i64 (k : Int)] w fun e w' => e = .returned (.int .u32 (num ((b.drop i).take k))) ∧ w = w' := by
  have H := Lib.hid (get_yes a n c i k b w hr hz hn hk hi)
  have h0 := num_lo _ ((hz.drop i).take k)
  have h1 := num_hi _ ((hz.drop i).take k)
  have h2 : num ((b.drop i).take k) < 4294967296 := by
    have hl : ((b.drop i).take k).length ≤ 4 := by simp; omega
    have hp : (256 : Int) ^ ((b.drop i).take k).length ≤ 4294967296 := by
      match ((b.drop i).take k).length, hl with
      | 0, _ | 1, _ | 2, _ | 3, _ | 4, _ => decide
    omega
  clear h1 hr hz hk hi
  generalize num ((b.drop i).take k) = x at *
  go_enter Try.func42, Try.ntmps42
  go_wp2_with fail
  refine H.out.mono ?_
  rintro e w' ⟨rfl, rfl⟩
  go_wp2
  go_ret
  exact ⟨rfl, rfl⟩

theorem zero4_parts {b : List Int} (h : 12 ≤ b.length) : zero4 b = b.take 8 ++ List.replicate 4 0 ++ b.drop 12 := rfl
theorem ext_zero4 (b : List Int) (h : 12 ≤ b.length) : ext (ext (ext 0 (b.take 8)) (List.replicate 4 0)) (b.drop 12) = ext 0 (zero4 b) := by
  rw [zero4_parts h, ext_append, ext_append]

/-- What the operations of the drawn region leave behind. -/
def PkSmP (w : World) (a0 : Option Addr) (n c : Nat) (b : List Int) (i : Nat) (v : Value) (W : World) : Prop := match i with | 0 => v = .slice a0 n c | 1 => v = .slice (cutA a0 0 c) 8 c | 2 => v = .int .u32 ((ext 0 (b.take 8) : Nat) : Int) | 3 => ∃ gz, v = .slice (some ⟨gz, 0, none⟩) 4 4 ∧ Blk W gz (List.replicate 4 0) | 4 => v = .int .u32 ((ext (ext 0 (b.take 8)) (List.replicate 4 0) : Nat) : Int) | 5 => v = .int .u32 ((ext (ext 0 (b.take 8)) (List.replicate 4 0) : Nat) : Int) | _ => True
theorem PkSmP_mono {w : World} {a0 : Option Addr} {n c : Nat} {b : List Int} {W W' : World} (hb : Below W.heap.size W W') (jo : Nat) (xo : Value) (h : PkSmP w a0 n c b jo xo W) : PkSmP w a0 n c b jo xo W' := by
  unfold PkSmP at h ⊢
  split at h <;> try exact h
  · obtain ⟨gz, e0, h0_0⟩ := h
    exact ⟨gz, e0, h0_0.below hb⟩

set_option maxRecDepth 100000 in
set_option maxHeartbeats 3200000 in
theorem pchk_any (a0 : Option Addr) (n c : Nat) (b : List Int) (w : World) (hr : Reads w a0 n b) (hz : Byt b) (hc : n ≤ c) (hn : n ≤ 140737488355328) (h12 : 12 ≤ n) :
    Calls Try.prog 34 #[.slice a0 n c] w fun e w' => e = .returned (.int .u32 ((ext 0 (zero4 b) : Nat) : Int)) ∧ Below w.heap.size w w' := by
  have h8 := reads_cut hr 0 8 (by omega) (by omega) hc
  simp only [List.drop_zero, Nat.sub_zero] at h8
  have h9 := reads_cut hr 12 n (by omega) (Nat.le_refl _) hc
  have hlb : b.length = n := hr.1
  rw [List.take_of_length_le (by rw [List.length_drop, hlb]; exact Nat.le_refl _)] at h9
  have HRD := Lib.hid h8
  have HRE := Lib.hid h9
  have HBY := Lib.hid hz
  have HX := Lib.hid (ext_zero4 b (by omega))
  have HLT := Lib.hid (ext_lt (s := ext 0 (b.take 8)) (List.replicate 4 0) (ext_lt _ (by decide)))
  clear h8 h9 hr hz hlb
  go_enter Try.func34, Try.ntmps34
  go_upto_region 1 with fail
  refine wp_region_any (by kernel_rfl) ?_
  refine Vals.wpAny_goodW (PkSmP w a0 n c b) (fun _ => (fun W => Below w.heap.size w W)) [some 4, some 5, some 6, some 7, some 8, some 3] 13 _ _ rfl (by kernel_rfl) (by kernel_rfl) (by decide) ?step ?fin (Below.refl _ _).drew
  case step =>
    intro i o d ho hd listed a W hls hun hcl hJ hdf hdep hfr K hK
    match i, ho, hd with
    | 0, ho, hd =>
      have ho' := ho
      simp only [List.getElem?_toArray, List.getElem?_cons_zero, Option.some.injEq] at ho hd
      subst ho hd
      have r0 : a.eval (.tmp 0) = .slice a0 n c := hfr 0 (by decide)
      rw [Vals.eval_tmp] at r0
      refine Vals.wpOp_run ho' rfl ?_
      clear hdep hfr ho' hdf hcl
      go_simp
      exact hK _ _ (fun _ _ h => h) hJ (fun _ => rfl)
    | 1, ho, hd =>
      have ho' := ho
      simp only [List.getElem?_toArray, List.getElem?_cons_zero, List.getElem?_cons_succ, Option.some.injEq] at ho hd
      subst ho hd
      have r4 : a.eval (.tmp 4) = .slice a0 n c := (hdep ⟨0, .data⟩ (by simp) rfl).2 4 rfl
      rw [Vals.eval_tmp] at r4
      have hcut : (Instr.slice 29 (.slice a0 n c) none (some (.int .i64 8)) none).run Try.prog W = .ok (.slice (cutA a0 0 c) 8 c) W := cut_h a0 n c 8 (by omega) W
      refine Vals.wpOp_run ho' rfl ?_
      clear hdep hfr ho' hdf hcl
      go_simp
      exact hK _ _ (fun _ _ h => h) hJ (fun _ => rfl)
    | 2, ho, hd =>
      have ho' := ho
      simp only [List.getElem?_toArray, List.getElem?_cons_zero, List.getElem?_cons_succ, Option.some.injEq] at ho hd
      subst ho hd
      have r5 : a.eval (.tmp 5) = .slice (cutA a0 0 c) 8 c := (hdep ⟨1, .data⟩ (by simp) rfl).2 5 rfl
      rw [Vals.eval_tmp] at r5
      refine Vals.wpOp_run ho' rfl ?_
      clear hdep hfr ho' hdf hcl
      go_simp
      refine (sum_crc (cutA a0 0 c) 8 c (b.take 8) W (HRD.out.below hJ) (HBY.out.take 8) (by omega)).mono ?_
      rintro e w' ⟨rfl, rfl⟩
      exact hK _ _ (fun _ _ h => h) hJ (fun _ => rfl)
    | 3, ho, hd =>
      have ho' := ho
      simp only [List.getElem?_toArray, List.getElem?_cons_zero, List.getElem?_cons_succ, Option.some.injEq] at ho hd
      subst ho hd
      have hmk := run_make_row' (P := Try.prog) 29 5 (.int .u8 0) 1 Try.underlying29 Try.infoB rfl .i64 .i64 4 (by omega) (by omega) W
      refine Vals.wpOp_run ho' rfl ?_
      clear hdep hfr ho' hdf hcl
      go_simp
      have hb3 : Below W.heap.size W (W.alloc (.cells (madeCells #[Value.int .u8 0] 4) 5)) := (Below.refl _ _).alloc (Nat.le_refl _) _
      exact hK _ _ (PkSmP_mono hb3) (hJ.trans (hb3.mono hJ.size)) (fun _ => ⟨_, rfl, blk_made W 4⟩)
    | 4, ho, hd =>
      have ho' := ho
      simp only [List.getElem?_toArray, List.getElem?_cons_zero, List.getElem?_cons_succ, Option.some.injEq] at ho hd
      subst ho hd
      have r6 : a.eval (.tmp 6) = .int .u32 ((ext 0 (b.take 8) : Nat) : Int) := (hdep ⟨2, .data⟩ (by simp) rfl).2 6 rfl
      rw [Vals.eval_tmp] at r6
      have g7 : ∃ gz_7, a.eval (.tmp 7) = .slice (some ⟨gz_7, 0, none⟩) 4 4 ∧ Blk W gz_7 (List.replicate 4 0) := (hdep ⟨3, .data⟩ (by simp) rfl).2 7 rfl
      rw [Vals.eval_tmp] at g7
      obtain ⟨gz_7, r7, h7_0⟩ := g7
      refine Vals.wpOp_run ho' rfl ?_
      clear hdep hfr ho' hdf hcl
      go_simp
      refine (extend_crc _ (some ⟨gz_7, 0, none⟩) 4 4 (List.replicate 4 0) W (ext_lt _ (by decide)) (h7_0.readsAll 4 rfl) (Byt.rep (by omega) (by omega) _) (by omega)).mono ?_
      rintro e w' ⟨rfl, rfl⟩
      exact hK _ _ (fun _ _ h => h) hJ (fun _ => rfl)
    | 5, ho, hd =>
      have ho' := ho
      simp only [List.getElem?_toArray, List.getElem?_cons_zero, List.getElem?_cons_succ, Option.some.injEq] at ho hd
      subst ho hd
      have r8 : a.eval (.tmp 8) = .int .u32 ((ext (ext 0 (b.take 8)) (List.replicate 4 0) : Nat) : Int) := (hdep ⟨4, .data⟩ (by simp) rfl).2 8 rfl
      rw [Vals.eval_tmp] at r8
      refine Vals.wpOp_run ho' rfl ?_
      clear hdep hfr ho' hdf hcl
      go_simp
      exact hK _ _ (fun _ _ h => h) hJ (fun _ => rfl)
    | i + 6, ho, hd => simp at ho
  case fin =>
    intro listed W fq hall hJ hG
    have q0 : fq 4 = .slice a0 n c := hG 0 4 rfl
    have q1 : fq 5 = .slice (cutA a0 0 c) 8 c := hG 1 5 rfl
    have q2 : fq 6 = .int .u32 ((ext 0 (b.take 8) : Nat) : Int) := hG 2 6 rfl
    obtain ⟨gz_7, q3, hq7_0⟩ : ∃ gz_7, fq 7 = .slice (some ⟨gz_7, 0, none⟩) 4 4 ∧ Blk W gz_7 (List.replicate 4 0) := hG 3 7 rfl
    have q4 : fq 8 = .int .u32 ((ext (ext 0 (b.take 8)) (List.replicate 4 0) : Nat) : Int) := hG 4 8 rfl
    have q5 : fq 3 = .int .u32 ((ext (ext 0 (b.take 8)) (List.replicate 4 0) : Nat) : Int) := hG 5 3 rfl
    clear hG hall
    simp only [Vals.puts, Vals.pairs, List.filterMap_cons, List.filterMap_nil, id, List.map_cons, List.map_nil, List.foldl_cons, List.foldl_nil, q0, q1, q2, q3, q4, q5]
    clear q0 q1 q2 q3 q4 q5
    go_frame
    have hcut : (Instr.slice 29 (.slice a0 n c) (some (.int .i64 12)) none none).run Try.prog W = .ok (.slice (cutA a0 12 c) (n - 12) (c - 12)) W := cut_l a0 n c 12 h12 W
    have HE := Lib.hid (extend_crc _ (cutA a0 12 c) (n - 12) (c - 12) (b.drop 12) W HLT.out (HRE.out.below hJ) (HBY.out.drop 12) (by omega))
    have HJ := Lib.hid hJ
    clear hJ hq7_0
    generalize (ext (ext 0 (b.take 8)) (List.replicate 4 0)) = E2 at *
    go_wp2_with fail
    refine HE.out.mono ?_
    rintro e w' ⟨rfl, rfl⟩
    go_wp2
    go_ret
    exact ⟨by rw [HX.out]; rfl, HJ.out⟩
end Go.Proofs.Ytnndlpbbllmpjaa
