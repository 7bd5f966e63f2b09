/-
  Stage 9: isInit, the closure of GetInit; the cookie's bytes.
-/
import Derived.Test.YtlihcckgnnnekaaBdSet
namespace Go.Proofs.Ytlihcckgnnnekaa
open Go.RowKit
set_option linter.unusedVariables false
set_option linter.unusedSimpArgs false

def initOk (k x0 x2 x3 : Int) (l : Nat) : Bool := decide (x0 ≠ 0) && (decide (x2 ≠ 0) && (decide (x3 ≠ 0) && (decide (k = 1) || (decide (k = 2) && decide (0 < l)))))

set_option maxRecDepth 100000 in
set_option maxHeartbeats 1600000 in
theorem isInit_any (k x0 x1 x2 x3 x4 : Int) (q : Option Addr) (n c : Nat) (w : World) :
    Calls Try.prog 60 #[.int .u8 k, .agg #[.int .u32 x0, .int .u32 x1, .int .u16 x2, .int .u16 x3, .int .u32 x4, .slice q n c]] w fun e w' => e = .returned (.bool (initOk k x0 x2 x3 n)) ∧ Below w.heap.size w w' := by
  obtain ⟨w0, hw0⟩ : ∃ w0, w.alloc (.cells #[.int .u32 x0, .int .u32 x1, .int .u16 x2, .int .u16 x3, .int .u32 x4, .slice q n c] 43) = w0 := ⟨_, rfl⟩
  have hb0 : Below w.heap.size w w0 := by rw [← hw0]; exact (Below.refl _ _).alloc (Nat.le_refl _) _
  have hA0 : Arr w0 w.heap.size 43 [.int .u32 x0, .int .u32 x1, .int .u16 x2, .int .u16 x3, .int .u32 x4, .slice q n c] := by rw [← hw0]; exact arr_new _ _ _
  have d0 := hA0.cell (i := 0) rfl
  have d2 := hA0.cell (i := 2) rfl
  have d3 := hA0.cell (i := 3) rfl
  have d5 := hA0.cell (i := 5) rfl
  have HB := Lib.hid hb0
  clear hb0 hA0
  by_cases h0 : x0 = 0
  · have e : initOk k x0 x2 x3 n = false := by simp [initOk, h0]
    rw [e]; clear e; subst h0
    go_enter Try.func60, Try.ntmps60
    go_wp2; go_ret; exact ⟨rfl, HB.out⟩
  have e0 : (x0 == 0) = false := by simpa using h0
  by_cases h2 : x2 = 0
  · have e : initOk k x0 x2 x3 n = false := by simp [initOk, h2]
    rw [e]; clear e; subst h2; clear h0
    go_enter Try.func60, Try.ntmps60
    go_wp2; go_ret; exact ⟨rfl, HB.out⟩
  have e2 : (x2 == 0) = false := by simpa using h2
  by_cases h3 : x3 = 0
  · have e : initOk k x0 x2 x3 n = false := by simp [initOk, h3]
    rw [e]; clear e; subst h3; clear h0 h2
    go_enter Try.func60, Try.ntmps60
    go_wp2; go_ret; exact ⟨rfl, HB.out⟩
  have e3 : (x3 == 0) = false := by simpa using h3
  by_cases hk1 : k = 1
  · have e : initOk k x0 x2 x3 n = true := by simp [initOk, h0, h2, h3, hk1]
    rw [e]; clear e; subst hk1; clear h0 h2 h3
    go_enter Try.func60, Try.ntmps60
    go_wp2; go_ret; exact ⟨rfl, HB.out⟩
  have ek1 : (k == 1) = false := by simpa using hk1
  by_cases hk2 : k = 2
  · subst hk2
    by_cases hn : 0 < n
    · have e : initOk 2 x0 x2 x3 n = true := by simp [initOk, h0, h2, h3, hn]
      rw [e]; clear e h0 h2 h3 hk1
      have hni : (0 : Int) < (n : Int) := by omega
      go_enter Try.func60, Try.ntmps60
      go_wp2; go_ret; exact ⟨rfl, HB.out⟩
    · have e : initOk 2 x0 x2 x3 n = false := by simp [initOk, hn]
      rw [e]; clear e h0 h2 h3 hk1
      have hni : ¬ (0 : Int) < (n : Int) := by omega
      go_enter Try.func60, Try.ntmps60
      go_wp2; go_ret; exact ⟨rfl, HB.out⟩
  · have e : initOk k x0 x2 x3 n = false := by simp [initOk, hk1, hk2]
    have ek2 : (k == 2) = false := by simpa using hk2
    rw [e]; clear e h0 h2 h3 hk1 hk2
    go_enter Try.func60, Try.ntmps60
    go_wp2; go_ret; exact ⟨rfl, HB.out⟩

def initB (k x0 x1 x2 x3 x4 : Int) (ck : List Int) : List Int := if k = 2 then initA x0 x1 x2 x3 x4 ck else initH x0 x1 x2 x3 x4
theorem initB_byt (k x0 x1 x2 x3 x4 : Int) {ck : List Int} (h : Byt ck) : Byt (initB k x0 x1 x2 x3 x4 ck) := by unfold initB; split; exact initA_byt _ _ _ _ _ h; exact initH_byt _ _ _ _ _
theorem initB_len (k x0 x1 x2 x3 x4 : Int) (ck : List Int) : (initB k x0 x1 x2 x3 x4 ck).length ≤ 23 + ck.length := by unfold initB; split; rw [initA_len]; have := up4_le (20 + ck.length); omega; rw [initH_len]; omega
theorem pputInit (k x0 x1 x2 x3 x4 : Int) (a : Option Addr) (n c : Nat) (ck : List Int) (w : World) (hr : Reads w a n ck) (hn : n ≤ 281474976) (h00 : 0 ≤ x0) (h01 : x0 < 4294967296) (h10 : 0 ≤ x1) (h11 : x1 < 4294967296) (h20 : 0 ≤ x2) (h21 : x2 < 65536) (h30 : 0 ≤ x3) (h31 : x3 < 65536) (h40 : 0 ≤ x4) (h41 : x4 < 4294967296) :
    Calls Try.prog 23 #[.int .u8 k, .agg #[.int .u32 x0, .int .u32 x1, .int .u16 x2, .int .u16 x3, .int .u32 x4, .slice a n c]] w fun e w' => Puts w k 0 (initB k x0 x1 x2 x3 x4 ck) e w' := by
  by_cases hk : k = 2
  · subst hk; exact pputInit_ack x0 x1 x2 x3 x4 a n c ck w hr hn h00 h01 h10 h11 h20 h21 h30 h31 h40 h41
  · unfold initB; rw [if_neg hk]; exact pputInit_no k hk x0 x1 x2 x3 x4 a n c ck w hr hn h00 h01 h10 h11 h20 h21 h30 h31 h40 h41
theorem rputInit (k x0 x1 x2 x3 x4 : Int) (a : Option Addr) (n c : Nat) (ck : List Int) (w : World) (hr : Reads w a n ck) (hn : n ≤ 281474976) (h00 : 0 ≤ x0) (h01 : x0 < 4294967296) (h10 : 0 ≤ x1) (h11 : x1 < 4294967296) (h20 : 0 ≤ x2) (h21 : x2 < 65536) (h30 : 0 ≤ x3) (h31 : x3 < 65536) (h40 : 0 ≤ x4) (h41 : x4 < 4294967296) :
    Calls Try.prog 26 #[.int .u8 k, .agg #[.int .u32 x0, .int .u32 x1, .int .u16 x2, .int .u16 x3, .int .u32 x4, .slice a n c]] w fun e w' => Puts w k 0 (initB k x0 x1 x2 x3 x4 ck) e w' := by
  by_cases hk : k = 2
  · subst hk; exact rputInit_ack x0 x1 x2 x3 x4 a n c ck w hr hn h00 h01 h10 h11 h20 h21 h30 h31 h40 h41
  · unfold initB; rw [if_neg hk]; exact rputInit_no k hk x0 x1 x2 x3 x4 a n c ck w hr hn h00 h01 h10 h11 h20 h21 h30 h31 h40 h41

set_option maxRecDepth 100000 in
set_option maxHeartbeats 1600000 in
theorem pclInit (k x0 x1 x2 x3 x4 : Int) (a : Option Addr) (n c : Nat) (ck : List Int) (B : Nat) (w : World) (hB : B < w.heap.size) (hc : w.cell? ⟨B, 0, none⟩ = some (.int .u8 k)) (hr : Reads w a n ck) (hn : n ≤ 281474976) (h00 : 0 ≤ x0) (h01 : x0 < 4294967296) (h10 : 0 ≤ x1) (h11 : x1 < 4294967296) (h20 : 0 ≤ x2) (h21 : x2 < 65536) (h30 : 0 ≤ x3) (h31 : x3 < 65536) (h40 : 0 ≤ x4) (h41 : x4 < 4294967296) :
    Calls Try.prog 61 #[.agg #[.int .u32 x0, .int .u32 x1, .int .u16 x2, .int .u16 x3, .int .u32 x4, .slice a n c], .pointer (some ⟨B, 0, none⟩)] w fun e w' => Puts w k 0 (initB k x0 x1 x2 x3 x4 ck) e w' := by
  obtain ⟨wz, hwz⟩ : ∃ wz, w.alloc (.cells #[.int .u32 x0, .int .u32 x1, .int .u16 x2, .int .u16 x3, .int .u32 x4, .slice a n c] 43) = wz := ⟨_, rfl⟩
  have hbz : Below w.heap.size w wz := by rw [← hwz]; exact (Below.refl _ _).alloc (Nat.le_refl _) _
  have hsz : wz.heap.size = w.heap.size + 1 := by rw [← hwz]; simp
  have hAz : Arr wz w.heap.size 43 [.int .u32 x0, .int .u32 x1, .int .u16 x2, .int .u16 x3, .int .u32 x4, .slice a n c] := by rw [← hwz]; exact arr_new _ _ _
  obtain ⟨w0, hw0⟩ : ∃ w0, wz.alloc (.cells #[.int .u8 0, .int .u8 0, .slice none 0 0] 28) = w0 := ⟨_, rfl⟩
  have hb0 : Below wz.heap.size wz w0 := by rw [← hw0]; exact chunkBelow wz 0 0 _
  have hs0 : w0.heap.size = w.heap.size + 2 := by rw [← hw0]; simp; omega
  have hA0 : Arr w0 (w.heap.size + 1) 28 [.int .u8 0, .int .u8 0, .slice none 0 0] := by rw [← hw0, ← hsz]; exact chunkBox wz 0 0 _
  have hbw := hbz.trans (hb0.mono hbz.size)
  have hc0 : w0.cell? ⟨B, 0, none⟩ = some (.int .u8 k) := (hbw.cell (p := ⟨B, 0, none⟩) hB).trans hc
  have hd := hAz.keep hb0
  have d0 := hd.cell (i := 0) rfl
  have d1 := hd.cell (i := 1) rfl
  have d2 := hd.cell (i := 2) rfl
  have d3 := hd.cell (i := 3) rfl
  have d4 := hd.cell (i := 4) rfl
  have d5 := hd.cell (i := 5) rfl
  have HP := Lib.hid (pputInit k x0 x1 x2 x3 x4 a n c ck w0 (hr.below hbw) hn h00 h01 h10 h11 h20 h21 h30 h31 h40 h41)
  have H0 := Lib.hid (And.intro hbw (And.intro hs0 hA0))
  clear hbz hAz hb0 hA0 hbw hc hB hd hr
  go_enter Try.func61, Try.ntmps61
  go_wp2_with fail
  refine HP.out.mono ?_
  rintro e w2 ⟨a', c', rfl, hb2, hr2⟩
  have hA2 := H0.out.2.2.keep hb2
  have fr0 := hA2.free 0
  have fr1 := hA2.free 1
  have fr2 := hA2.free 2
  have y0 := hA2.cell (i := 0) rfl
  have y1 := hA2.cell (i := 1) rfl
  have y2 := hA2.cell (i := 2) rfl
  generalize (initB k x0 x1 x2 x3 x4 ck).length = len at hr2 ⊢
  obtain ⟨W3, hW3⟩ : ∃ W3, ((w2.setCell ⟨w.heap.size + 1, 0, none⟩ (.int .u8 k)).setCell ⟨w.heap.size + 1, 1, none⟩ (.int .u8 0)).setCell ⟨w.heap.size + 1, 2, none⟩ (.slice a' len c') = W3 := ⟨_, rfl⟩
  have hE := puts_end (H0.out.1.trans (hb2.mono H0.out.1.size)) (Nat.le_succ _) (by have := H0.out.2.1; omega) hA2 hr2 hW3
  have z0 := hE.2.2.cell (i := 0) rfl
  have z1 := hE.2.2.cell (i := 1) rfl
  have z2 := hE.2.2.cell (i := 2) rfl
  have HE := Lib.hid (And.intro hE.1 (And.intro hE.2.1 hr2.len))
  clear hE hA2 hr2 hb2 HP H0 d0 d1 d2 d3 d4 d5 hc0
  go_wp2
  have hl := HE.out.2.2
  exact bodyPost_ret (by simp [results, Try.results61, go_sem, z0, z1, z2] <;> rfl) rfl ⟨a', c', by rw [hl], HE.out.1, HE.out.2.1⟩

/-- The cookie that the bytes from 20 on hold, by its length x5 at 18. -/
def ckOf (zs : List Int) (x5 : Int) : List Int := if 4 ≤ x5 ∧ 20 + (x5 - 4).toNat ≤ zs.length then (zs.drop 20).take (x5 - 4).toNat else []
theorem ckOf_byt {zs : List Int} (h : Byt zs) (x5 : Int) : Byt (ckOf zs x5) := by unfold ckOf; split; exact (h.drop 20).take _; exact Byt.nil
theorem ckOf_len (zs : List Int) (x5 : Int) : (ckOf zs x5).length ≤ zs.length := by unfold ckOf; split; simp; omega; simp
theorem cut20 (p : Option Addr) (n c : Nat) (zs : List Int) (x5 : Int) (h5 : x5 < 65536) (W : World) (hr : Reads W p n zs) (hc : n ≤ c) (hn : n ≤ 281474976) (h50 : 0 ≤ x5) :
    Calls Try.prog 51 #[.slice p n c, .int .i64 20, .int .i64 (x5 - 4)] W fun e w' => ∃ a1 c1 b, e = .returned (.tuple #[.slice a1 (ckOf zs x5).length c1, .bool b]) ∧ Below W.heap.size W w' ∧ Row8 W.heap.size w' a1 (ckOf zs x5).length c1 (ckOf zs x5) := by
  by_cases h : 4 ≤ x5 ∧ 20 + (x5 - 4).toNat ≤ zs.length
  · have hl : (ckOf zs x5).length = (x5 - 4).toNat := by unfold ckOf; rw [if_pos h]; simp; omega
    have h1 := cut_yes p n c 20 (x5 - 4).toNat zs W hr hc (by omega) (by have := hr.1; omega)
    rw [show (((x5 - 4).toNat : Nat) : Int) = x5 - 4 by omega] at h1
    rw [hl]
    refine h1.mono ?_
    rintro e w' ⟨rfl, hb, hk⟩
    have e : ckOf zs x5 = (zs.drop 20).take (x5 - 4).toNat := by unfold ckOf; rw [if_pos h]
    rw [e] at hl ⊢
    exact ⟨_, _, _, rfl, hb, Row8.of_blk hk (Nat.le_refl _) hl.symm (by unfold maxLen; omega)⟩
  · have e : ckOf zs x5 = [] := by unfold ckOf; rw [if_neg h]
    rw [e]
    refine (cut_no p n c 20 (x5 - 4) W (by omega) (by omega) ?_).mono ?_
    · cases hh : hasB n 20 (x5 - 4) with
      | false => rfl
      | true => have := (hasB_iff n 20 (x5 - 4)).1 hh; have := hr.1; omega
    · rintro e w' ⟨rfl, rfl⟩
      exact ⟨none, 0, false, rfl, Below.refl _ _, Row8.nil _ _⟩
end Go.Proofs.Ytlihcckgnnnekaa
