/-
  Contracts of the reference package 00: CopyBytes, Roomy, Kept.
-/
import Derived.Test.YtlihcckgnnnekaaRef00
namespace Go.Proofs.Ytlihcckgnnnekaa
open Go.RowKit
set_option linter.unusedVariables false

theorem Try.infoR : (Try.prog.info? 5).map (fun i => (i.zero, i.size, i.bytes)) = some (some (.int .u8 0), 1, 1) := by kernel_rfl
/-- 'append' of bytes that are there onto a row of the call's own: it is one again. -/
theorem Row8.grow {base : Nat} {w : World} {a : Option Addr} {n c : Nat} {zs : List Int} (h : Row8 base w a n c zs) (hb : base ≤ w.heap.size) (ad : Addr) (m c2 : Nat) (ys : List Int) (hl : ys.length = m) (hy : ∀ j u, (ys.map (Value.int .u8))[j]? = some u → w.cell? (ad.add j) = some u) (h0 : 0 < m) (hn : n + m ≤ 140737488355328) :
    ∃ a' c' W3, (Builtin.append_ #[24, 24] 24 #[.slice a n c, .slice (some ad) m c2]).run Try.prog w = .ok (.slice a' (n + m) c') W3 ∧ Row8 base W3 a' (n + m) c' (zs ++ ys) ∧ w.grownBy W3 (Value.slice a n c).ownBlock := by
  obtain ⟨i0, hi0, hz⟩ := Option.map_eq_some_iff.1 Try.infoR
  simp only [Prod.mk.injEq] at hz
  obtain ⟨hz0, hz1, hz2⟩ := hz
  have hsmall : n + m ≤ maxLen := by unfold maxLen; omega
  have hyl : (ys.map (Value.int .u8)).length = m * i0.size := by rw [hz1, List.length_map]; omega
  have hone : ∀ u ∈ ys.map (Value.int .u8), u.oneCell' = true := by intro u hu; obtain ⟨y, _, rfl⟩ := List.mem_map.1 hu; rfl
  have hzc : ∀ k, (Builtin.zeroCells (Value.int .u8 0).cells k) = ((List.replicate k (0 : Int)).map (Value.int .u8)).toArray := by
    intro k
    apply Array.toList_inj.1
    rw [List.map_replicate]
    simp [Builtin.zeroCells, Value.cells]
    exact List.ext_getElem (by simp) (by intro i h1 h2; simp [Nat.mod_one])
  obtain ⟨hz, h2⟩ := id h
  rcases h2 with ⟨rfl, rfl, rfl⟩ | ⟨g, sp, rfl, hbg, hk, hs, hc, hcm⟩
  · have e0 : zs = [] := List.eq_nil_of_length_eq_zero hz
    subst e0
    have hge := grownCap_ge w m 0 5
    have hcm := grownCap_le_maxLen w m 0 5 (by omega)
    have hr := run_append_nil (P := Try.prog) w 24 24 5 i0 (.int .u8 0) Try.underlying24 hi0 hz0 ad m c2 (ys.map (Value.int .u8)) hyl hy h0 (by omega) (by rw [hz2]; omega)
    rw [hzc, List.append_toArray, ← List.map_append] at hr
    rw [Nat.zero_add]
    refine ⟨_, _, _, hr, ⟨by simpa using hl, .inr ⟨w.heap.size, List.replicate (grownCap w m 0 5 - m) 0, rfl, hb, heap_alloc_new w.drew _, Byt.rep (by omega) (by omega) _, by simp; omega, hcm⟩⟩, ⟨rfl, rfl, rfl, by simp, fun k hk _ => (World.grownBy_alloc w.drew _ none).block k hk (by simp)⟩⟩
  · by_cases hroom : n + m ≤ c
    · have hsz : (zs ++ sp).length = c := by rw [List.length_append]; exact hc
      have hr := run_append_room (P := Try.prog) w 24 24 5 i0 Try.underlying24 hi0 g n c _ hk ad m c2 (ys.map (Value.int .u8)) hyl hy hone hroom (by rw [hz1]; simp; omega)
      refine ⟨some ⟨g, 0, none⟩, c, _, hr, ⟨by rw [List.length_append]; omega, .inr ⟨g, sp.drop m, rfl, hbg, ?_, hs.drop m, by simp; omega, hcm⟩⟩, ⟨rfl, rfl, rfl, by simp [World.setRow], fun k _ hk => setRow_other w g k _ (fun e => hk (by simp [Value.ownBlock, e]))⟩⟩
      have ea : ((List.map (Value.int .u8) (zs ++ sp)).toArray.toList.take (n * i0.size) ++ ys.map (Value.int .u8) ++ (List.map (Value.int .u8) (zs ++ sp)).toArray.toList.drop (n * i0.size + (ys.map (Value.int .u8)).length)) = (zs ++ ys ++ sp.drop m).map (Value.int .u8) := by
        rw [hz1, Nat.mul_one, List.length_map, hl, ← hz]
        simp [List.drop_append, List.drop_of_length_le]
      exact ea ▸ setRow_heap w g _ _ _ _ hk
    · have holds : ∀ j u, (zs.map (Value.int .u8))[j]? = some u → w.cell? ((⟨g, 0, none⟩ : Addr).add j) = some u := h.owns.cells (g := g) rfl
      have hge := grownCap_ge w (n + m) c 5
      have hcm2 := grownCap_le_maxLen w (n + m) c 5 hsmall
      have hr := run_append_grow (P := Try.prog) w 24 24 5 i0 (.int .u8 0) Try.underlying24 hi0 hz0 ⟨g, 0, none⟩ n c (zs.map (Value.int .u8)) (by rw [hz1, List.length_map]; omega) holds ad m c2 (ys.map (Value.int .u8)) hyl hy (by omega) (by omega) (growslice_fits (by omega) (by rw [hz2]; omega))
      rw [hzc, List.append_toArray, List.append_toArray, ← List.map_append, ← List.map_append] at hr
      exact ⟨_, _, _, hr, ⟨by rw [List.length_append]; omega, .inr ⟨w.heap.size, List.replicate (grownCap w (n + m) c 5 - (n + m)) 0, rfl, hb, heap_alloc_new w.drew _, Byt.rep (by omega) (by omega) _, by simp; omega, hcm2⟩⟩, ⟨rfl, rfl, rfl, by simp, fun k hk _ => (World.grownBy_alloc w.drew _ none).block k hk (by simp)⟩⟩

set_option maxHeartbeats 400000 in
theorem copyBytes_pos (a : Option Addr) (len cap : Nat) (zs : List Int) (w : World) (hr : Reads w a len zs) (h0 : 0 < len) (hl : len ≤ 140737488355328) :
    Calls Try.prog 54 #[.slice a len cap] w fun e w' =>
      e = .returned (.slice (some ⟨w.heap.size, 0, none⟩) len len) ∧ Below w.heap.size w w' ∧ Blk w' w.heap.size zs := by
  have hmk := fun W => run_make_row' (P := Try.prog) 24 5 (.int .u8 0) 1 Try.underlying24 Try.infoR rfl .i64 .i64 len (by omega) (by omega) W
  have H0 := Lib.hid (blk_made w len)
  obtain ⟨b, off, rfl⟩ := hr.some_of h0
  have HR := Lib.hid hr
  have HL := Lib.hid hr.1
  have hne : ((len : Int) == 0) = false := by simp; omega
  clear hr
  go_enter Try.func54, Try.ntmps54
  go_wp2
  go_loopw [4] (fun i wr => ∃ k : Nat, k ≤ len ∧ i = .int .i64 k ∧ Below w.heap.size w wr ∧ Blk wr w.heap.size (zs.take k ++ (List.replicate (len - k) 0 ++ []))) (fun i _ => len - (intOf i).toNat)
  case atStart => exact ⟨0, Nat.zero_le _, rfl, (Below.refl _ _).alloc (Nat.le_refl _) _, by simpa using H0.out⟩
  case round =>
    obtain ⟨k, hk, rfl, hb, hblk⟩ := hrel
    by_cases hlt : k < len
    · have hc : wr.cell? ⟨w.heap.size, k, none⟩ = some (.int .u8 ((zs.take k ++ (List.replicate (len - k) 0 ++ []))[k]?.getD 0)) := hblk.cell (by have := HL.out; simp; omega)
      have hf := hblk.free k
      have hs : wr.cell? ⟨b, off + k, none⟩ = some (.int .u8 (zs[k]?.getD 0)) := by
        rcases HR.out.2 with h | ⟨b', off', e, hlt', h⟩
        · omega
        · cases e; exact (hb.cell (p := ⟨b, off + k, none⟩) hlt').trans (h k hlt)
      have HBl := Lib.hid hblk
      clear hblk
      go_wp2
      go_roundw
      case rel =>
        refine ⟨k + 1, by omega, by go_num, hb.setCell (Nat.le_refl _) _, ?_⟩
        have h := HBl.out.set k (zs[k]?.getD 0)
        rw [show len - k = (len - (k + 1)) + 1 from by omega, copy_step zs [] 0 k _ k rfl (by rw [HL.out]; exact hlt)] at h
        exact h
      case measure => simp [intOf]; omega
    · go_wp2
      go_ret
      obtain rfl : k = len := by omega
      refine ⟨rfl, hb, ?_⟩
      have e : zs.take k = zs := List.take_of_length_le (Nat.le_of_eq HL.out)
      rw [e] at hblk
      simpa using hblk

theorem copyBytes_zero (a : Option Addr) (cap : Nat) (w : World) :
    Calls Try.prog 54 #[.slice a 0 cap] w fun e w' => e = .returned (.slice none 0 0) ∧ w = w' := by
  go_enter Try.func54, Try.ntmps54
  go_wp2
  go_ret
  exact ⟨rfl, rfl⟩

theorem copyBytes_any (a : Option Addr) (len cap : Nat) (zs : List Int) (w : World) (hr : Reads w a len zs) (hl : len ≤ 140737488355328) :
    Calls Try.prog 54 #[.slice a len cap] w fun e w' => ∃ a', e = .returned (.slice a' len len) ∧ Below w.heap.size w w' ∧ Row8 w.heap.size w' a' len len zs := by
  by_cases h0 : len = 0
  · subst h0
    obtain rfl : zs = [] := List.eq_nil_of_length_eq_zero hr.1
    exact (copyBytes_zero a cap w).mono fun e w' ⟨h1, h2⟩ => ⟨none, h1, h2 ▸ Below.refl _ _, Row8.nil _ _⟩
  · exact (copyBytes_pos a len cap zs w hr (by omega) hl).mono fun e w' ⟨h1, h2, h3⟩ => ⟨_, h1, h2, Row8.of_blk h3 (Nat.le_refl _) hr.1.symm (by unfold maxLen; omega)⟩

set_option maxHeartbeats 800000 in
theorem roomy_any (a : Option Addr) (len cap : Nat) (zs : List Int) (w : World) (hr : Reads w a len zs) (hl : len ≤ 140737488355328) :
    Calls Try.prog 14 #[.slice a len cap] w fun e w' =>
      e = .returned (.slice (some ⟨w.heap.size, 0, none⟩) len (len + 16)) ∧ Below w.heap.size w w' ∧ Blk w' w.heap.size (zs ++ List.replicate 16 90) := by
  have hmk := fun W => run_make_row' (P := Try.prog) 24 5 (.int .u8 0) 1 Try.underlying24 Try.infoR rfl .i64 .i64 (len + 16) (by omega) (by omega) W
  have ec : ((len + 16 : Nat) : Int) = (len : Int) + 16 := by omega
  rw [ec] at hmk
  clear ec
  have H0 := Lib.hid (show Blk _ _ (List.replicate (len + 16) 0) from blk_made w (len + 16))
  have HR := Lib.hid hr
  have HL := Lib.hid hr.1
  clear hr
  go_enter Try.func14, Try.ntmps14
  go_wp2
  go_loopw [4] (fun i wr => ∃ k : Nat, k ≤ 16 ∧ i = .int .i64 ((len + k : Nat) : Int) ∧ Below w.heap.size w wr ∧ Blk wr w.heap.size (List.replicate len 0 ++ List.replicate k 90 ++ (List.replicate (16 - k) 0 ++ []))) (fun i _ => len + 16 - (intOf i).toNat)
  case atStart =>
    refine ⟨0, Nat.zero_le _, rfl, (Below.refl _ _).alloc (Nat.le_refl _) _, ?_⟩
    have h := H0.out
    rw [← List.replicate_append_replicate] at h
    simpa using h
  case round =>
    obtain ⟨k, hk, rfl, hb, hblk⟩ := hrel
    by_cases hlt : k < 16
    · have hc : wr.cell? ⟨w.heap.size, len + k, none⟩ = some (.int .u8 ((List.replicate len 0 ++ List.replicate k 90 ++ (List.replicate (16 - k) 0 ++ []))[len + k]?.getD 0)) := hblk.cell (by simp; omega)
      have hf := hblk.free (len + k)
      have HBl := Lib.hid hblk
      clear hblk
      go_wp2
      go_roundw
      case rel =>
        refine ⟨k + 1, by omega, by go_num, hb.setCell (Nat.le_refl _) _, ?_⟩
        have h := HBl.out.set (len + k) 90
        rw [show 16 - k = (16 - (k + 1)) + 1 from by omega, fill_step (List.replicate len 0) [] 90 0 k _ (len + k) (by simp)] at h
        exact h
      case measure => simp [intOf]; omega
    · obtain rfl : k = 16 := by omega
      have hblk : Blk wr w.heap.size (List.replicate len 0 ++ List.replicate 16 90) := by simpa using hblk
      have HBl := Lib.hid hblk
      clear hblk
      go_wp2
      obtain ⟨w0, HW⟩ : ∃ x, x = wr := ⟨_, rfl⟩
      subst HW
      go_loopw [5] (fun i wr => ∃ k : Nat, k ≤ len ∧ i = .int .i64 k ∧ Below w.heap.size w wr ∧ Blk wr w.heap.size (zs.take k ++ (List.replicate (len - k) 0 ++ List.replicate 16 90))) (fun i _ => len - (intOf i).toNat)
      case atStart => exact ⟨0, Nat.zero_le _, rfl, hb, by simpa using HBl.out⟩
      case round =>
        obtain ⟨k, hk, rfl, hb, hblk⟩ := hrel
        by_cases hlt : k < len
        · have hc : wr.cell? ⟨w.heap.size, k, none⟩ = some (.int .u8 ((zs.take k ++ (List.replicate (len - k) 0 ++ List.replicate 16 90))[k]?.getD 0)) := hblk.cell (by have := HL.out; simp; omega)
          have hf := hblk.free k
          obtain ⟨b, off, rfl⟩ := HR.out.some_of (by omega)
          have hs : wr.cell? ⟨b, off + k, none⟩ = some (.int .u8 (zs[k]?.getD 0)) := by
            rcases HR.out.2 with h | ⟨b', off', e, hlt', h⟩
            · omega
            · cases e; exact (hb.cell (p := ⟨b, off + k, none⟩) hlt').trans (h k hlt)
          have HBl := Lib.hid hblk
          clear hblk
          go_wp2
          go_roundw
          case rel =>
            refine ⟨k + 1, by omega, by go_num, hb.setCell (Nat.le_refl _) _, ?_⟩
            have h := HBl.out.set k (zs[k]?.getD 0)
            rw [show len - k = (len - (k + 1)) + 1 from by omega, copy_step zs _ 0 k _ k rfl (by rw [HL.out]; exact hlt)] at h
            exact h
          case measure => simp [intOf]; omega
        · go_wp2
          go_ret
          obtain rfl : k = len := by omega
          refine ⟨rfl, hb, ?_⟩
          have e : zs.take k = zs := List.take_of_length_le (Nat.le_of_eq HL.out)
          rw [e] at hblk
          simpa using hblk
end Go.Proofs.Ytlihcckgnnnekaa
