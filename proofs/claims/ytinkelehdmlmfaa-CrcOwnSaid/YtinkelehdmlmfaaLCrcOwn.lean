/-
  The walk of CrcOwn.
-/
import Derived.Test.YtinkelehdmlmfaaCrc1
import Derived.Test.YtinkelehdmlmfaaFrame
import Derived.Test.YtinkelehdmlmfaaRef00b
import Derived.WalkLawsBesides
namespace Go.Proofs.Ytinkelehdmlmfaa
open Go.RowKit
set_option linter.unusedVariables false

/-- An operation whose guard lets it run. -/
theorem wpList_if {P : Program} {ops : Array Oper} {Q : Exit → Act → World → Prop} {rest : List Oper} {o : Oper} {a : Act} {w : World} (hw : Region.wanted o (yielded ops a.tmps) = true)
    (h : ∀ K : Act → World → Prop, (∀ a w, wpList P ops Q rest a w → K a w) → o.wp P a w K Q) : wpList P ops Q (o :: rest) a w :=
  wpList_step fun K hK => by rw [if_pos hw]; exact h K hK

/-- A number's four bytes, the lowest first. -/
def four4 (v : Nat) : List Int := [((v % 256 : Nat) : Int), ((v / 256 % 256 : Nat) : Int), ((v / 65536 % 256 : Nat) : Int), ((v / 16777216 % 256 : Nat) : Int)]
theorem four4_byt (v : Nat) : Byt (four4 v) := by intro z hz; simp [four4] at hz; omega

theorem bitAt_four (v p : Nat) (hp : p < 32) : bitAt (four4 v) p = v.testBit p := by
  have h1 : ∀ q j : Nat, j < 8 → (v / 2 ^ (8 * q) % 2 ^ 8).testBit j = v.testBit (8 * q + j) := by
    intro q j hj
    rw [Nat.testBit_mod_two_pow, Nat.testBit_div_two_pow]
    simp [hj, Nat.add_comm]
  obtain ⟨q, j, hj, rfl⟩ : ∃ q j, j < 8 ∧ p = 8 * q + j := ⟨p / 8, p % 8, by omega, by omega⟩
  rw [bitAt_mk _ _ _ hj, ← h1 q j hj]
  have hq : q < 4 := by omega
  match q, hq with
  | 0, _ => show Nat.testBit (((v % 256 : Nat) : Int)).toNat j = _; rw [Int.toNat_natCast]; simp
  | 1, _ => show Nat.testBit (((v / 256 % 256 : Nat) : Int)).toNat j = _; rw [Int.toNat_natCast]
  | 2, _ => show Nat.testBit (((v / 65536 % 256 : Nat) : Int)).toNat j = _; rw [Int.toNat_natCast]
  | 3, _ => show Nat.testBit (((v / 16777216 % 256 : Nat) : Int)).toNat j = _; rw [Int.toNat_natCast]

theorem own_sum (zs : List Int) (t : Nat) (ht : t < 4294967296) : ext 0 (zs ++ four4 (ext 0 zs ^^^ t)) = ext 0 (four4 t) := by
  rw [ext_append]
  have he := ext_lt (s := 0) zs (by omega)
  generalize ext 0 zs = e at *
  unfold ext
  have l : ∀ v, 8 * (four4 v).length = 32 := fun v => rfl
  rw [l, l, run_congr (fun i hi => bitAt_four (e ^^^ t) i hi), run_congr (fun i hi => bitAt_four t i hi)]
  congr 1
  refine run_word (Nat.xor_lt_two_pow (n := 32) he (by omega)) (by decide) ?_
  rw [Nat.zero_xor, xor_back, xor_back]
theorem own_zero : ext 0 (four4 0) = 1214729159 := by decide +kernel

theorem four_any (v : Nat) (w : World) (hv : v < 4294967296) :
    Calls Try.prog 17 #[.int .u32 (v : Int)] w fun e w' => e = .returned (.slice (some ⟨w.heap.size, 0, none⟩) 4 4) ∧ w' = w.alloc (.cells ((four4 v).map (Value.int .u8)).toArray 5) := by
  go_enter Try.func17, Try.ntmps17
  go_wp2
  go_ret
  have e : v / 16777216 % 256 = v / 16777216 := by omega
  exact ⟨rfl, by simp [four4, e]⟩

theorem crcOwn_long (WK : WorksOk) (a : Option Addr) (len cap : Nat) (x : Int) (w : World) (h : 8192 < len) (hm : len ≤ 9223372036854775807) :
    Calls Try.prog 8 #[.slice a len cap, .int .u32 x] w fun e w' => e = .returned (.bool true) ∧ Below w.heap.size w w' := by
  go_enter Try.func8, Try.ntmps8
  go_wp2_with (go_at_call 9; refine (WK _).mono ?_; rintro e w' ⟨rfl, hb⟩)
  go_ret
  exact ⟨rfl, hb⟩

/-- The four bytes behind the text's copy: the sum of all that. -/
theorem cells_four (v : Nat) (W : World) : ∀ i u, ((four4 v).map (Value.int .u8))[i]? = some u → (W.alloc (.cells ((four4 v).map (Value.int .u8)).toArray 5)).cell? ((⟨W.heap.size, 0, none⟩ : Addr).add i) = some u := by
  intro i u h
  have hadd : (⟨W.heap.size, 0, none⟩ : Addr).add i = ⟨W.heap.size, i, none⟩ := by unfold Addr.add; split <;> simp_all
  rw [hadd, cell_of_row _ _ _ _ _ (0, 0) (heap_alloc_new W _)]
  simpa using h
theorem one_four (v : Nat) : ∀ u ∈ (four4 v).map (Value.int .u8), u.oneCell' = true := by
  intro u hu
  obtain ⟨z, _, rfl⟩ := List.mem_map.1 hu
  rfl

set_option maxHeartbeats 1600000 in
set_option maxRecDepth 100000 in
theorem crcOwn_of (WK : WorksOk) (a0 : Option Addr) (len0 cap0 : Nat) (z0 : List Int) (a1 : Int) (w : World) (w0 : IsRow .u8 w a0 len0 cap0 z0) (w1 : (Lit.int .u32 a1).wf = true) :
    Calls Try.prog 8 #[.slice a0 len0 cap0, .int .u32 a1] w fun e w' => e = .returned (.bool true) ∧ Below w.heap.size w w' := by
  obtain ⟨hr, hbyt, hcap, hmax⟩ := w0.reads
  obtain ⟨x0, x1⟩ := wf_u32_in w1
  unfold maxLen at hmax
  clear w0 w1
  by_cases hlong : 8192 < len0
  · exact crcOwn_long WK a0 len0 cap0 a1 w hlong (by omega)
  have hshort : (len0 : Int) ≤ 8192 := by omega
  generalize z0.take len0 = zs at hr hbyt
  obtain ⟨t, rfl⟩ := Int.eq_ofNat_of_zero_le x0
  have ht : t < 4294967296 := by omega
  obtain ⟨i0, hi0, hz0, hz1, hz2⟩ := info_parts Try.infoR
  have HR := Lib.hid hr
  have HB := Lib.hid hbyt
  have HWK := Lib.hid WK
  have HO := Lib.hid (own_sum zs t ht)
  have HO0 := Lib.hid (own_sum zs 0 (by omega))
  have he := ext_lt (s := 0) zs (by omega)
  have HX := Lib.hid (u32_xor_nat _ _ he ht)
  have HXl := Lib.hid (show ext 0 zs ^^^ t < 4294967296 from Nat.xor_lt_two_pow (n := 32) he ht)
  clear hr hbyt WK
  go_enter Try.func8, Try.ntmps8
  go_wp2_with fail
  refine (copyBytes_any a0 len0 cap0 zs w HR.out (by omega)).mono ?_
  rintro e w1 ⟨b1, rfl, hb1, hk1⟩
  have HB1 := Lib.hid hb1
  have HK1 := Lib.hid hk1
  clear hb1 hk1
  go_wp2_with fail
  refine (sum_crc a0 len0 cap0 zs w1 (HR.out.below HB1.out) HB.out (by omega)).mono ?_
  rintro e w' ⟨rfl, rfl⟩
  go_wp2_with fail
  rw [HX.out]
  refine (four_any (ext 0 zs ^^^ t) w1 HXl.out).mono ?_
  rintro e w2 ⟨rfl, rfl⟩
  generalize hv : ext 0 zs ^^^ t = v at *
  have HO2 := Lib.hid (World.ownsRow.alloc HK1.out (.cells ((four4 v).map (Value.int .u8)).toArray 5))
  go_wp2_with (at_builtin; refine wpList_append_own _ rfl (.tmp 11) (.tmp 16) 22 rfl w.heap.size 5 i0 (.int .u8 0) 1 1 Try.underlying22 hi0 hz0 hz1 hz2 rfl (by decide) _ _ _ rfl HO2.out ⟨w1.heap.size, 0, none⟩ 4 4 ((four4 v).map (Value.int .u8)) rfl rfl (cells_four v w1) (one_four v) ?c3 ?c4 ?c5 ?_)
  case c3 => unfold maxLen; omega
  case c4 => omega
  case c5 => have := HB1.out.size; simp; omega
  intro v' w3 hown' hgrow _
  have hgr : Below w.heap.size w w3 := (HB1.out.alloc HB1.out.size _).grown hgrow (by have := HB1.out.size; simp; omega) (fun g hg => (HO2.out.lt g hg).1)
  obtain ⟨a3, c3, rfl, hrow⟩ := Row8.of_owns (zs := zs ++ four4 v) hown' (by simp)
  have HB3 := Lib.hid hgr
  have HK3 := Lib.hid hrow.reads
  clear hown' hgrow hgr hrow
  go_wp2_with fail
  refine (sum_crc _ (len0 + 4) _ (zs ++ four4 v) w3 HK3.out (HB.out.append (four4_byt _)) (by omega)).mono ?_
  rintro e w' ⟨rfl, rfl⟩
  rw [HO.out]
  go_wp2_with fail
  refine (four_any t w3 ht).mono ?_
  rintro e w4 ⟨rfl, rfl⟩
  have HB4 := Lib.hid (show Below w.heap.size w (w3.alloc (.cells ((four4 t).map (Value.int .u8)).toArray 5)) from HB3.out.alloc HB3.out.size _)
  have HK4 := Lib.hid (show Blk (w3.alloc (.cells ((four4 t).map (Value.int .u8)).toArray 5)) w3.heap.size (four4 t) from heap_alloc_new w3 _)
  generalize w3.alloc (.cells ((four4 t).map (Value.int .u8)).toArray 5) = w4 at *
  go_wp2_with fail
  refine (sum_crc _ 4 _ (four4 t) w4 (HK4.out.readsAll 4 rfl) (four4_byt _) (by omega)).mono ?_
  rintro e w' ⟨rfl, rfl⟩
  go_wp2_with fail
  refine (copyBytes_any a0 len0 cap0 zs w4 (HR.out.below HB4.out) (by omega)).mono ?_
  rintro e w5 ⟨b5, rfl, hb5, hk5⟩
  have HB5 := Lib.hid (HB4.out.trans (hb5.mono HB4.out.size))
  have HK5 := Lib.hid (hk5.lower HB4.out.size)
  clear hb5 hk5
  go_wp2_with fail
  refine (sum_crc a0 len0 cap0 zs w5 (HR.out.below HB5.out) HB.out (by omega)).mono ?_
  rintro e w' ⟨rfl, rfl⟩
  go_wp2_with fail
  refine (four_any (ext 0 zs) w5 he).mono ?_
  rintro e w6 ⟨rfl, rfl⟩
  have HO6 := Lib.hid (World.ownsRow.alloc HK5.out (.cells ((four4 (ext 0 zs)).map (Value.int .u8)).toArray 5))
  have HZ := HO0.out
  rw [Nat.xor_zero, own_zero] at HZ
  have HZ' := Lib.hid HZ
  clear HZ
  generalize hv2 : ext 0 zs = v2 at *
  go_wp2_with (at_builtin; refine wpList_if (by rfl) (fun K hK => wp_append_own _ (.tmp 26) (.tmp 29) 22 rfl w.heap.size 5 i0 (.int .u8 0) 1 1 Try.underlying22 hi0 hz0 hz1 hz2 rfl (by decide) _ _ _ rfl HO6.out ⟨w5.heap.size, 0, none⟩ 4 4 ((four4 v2).map (Value.int .u8)) rfl rfl (cells_four v2 w5) (one_four v2) ?d3 ?d4 ?d5 (fun v' w7 hown' hgrow hnn => hK _ _ ?_)))
  case d3 => unfold maxLen; omega
  case d4 => omega
  case d5 => have := HB5.out.size; simp; omega
  have hgr : Below w.heap.size w w7 := (HB5.out.alloc HB5.out.size _).grown hgrow (by have := HB5.out.size; simp; omega) (fun g hg => (HO6.out.lt g hg).1)
  obtain ⟨a7, c7, rfl, hrow⟩ := Row8.of_owns (zs := zs ++ four4 v2) hown' (by simp)
  have HB7 := Lib.hid hgr
  have HK7 := Lib.hid hrow.reads
  clear hown' hgrow hgr hrow hnn
  go_wp2_with fail
  refine (sum_crc _ (len0 + 4) _ (zs ++ four4 v2) w7 HK7.out (HB.out.append (four4_byt _)) (by omega)).mono ?_
  rintro e w' ⟨rfl, rfl⟩
  rw [HZ'.out]
  go_wp2_with (go_at_call 9; refine (HWK.out _).mono ?_; rintro e w' ⟨rfl, hb⟩)
  go_ret
  exact ⟨rfl, HB7.out.trans (hb.mono HB7.out.size)⟩
end Go.Proofs.Ytinkelehdmlmfaa
