/-
  Stage 10: summed: bytes with their right sum.
-/
import Derived.Test.YtnndlpbbllmpjaaPkSpec
namespace Go.Proofs.Ytnndlpbbllmpjaa
open Go.RowKit
set_option linter.unusedVariables false
set_option linter.unusedSimpArgs false

/-- The bytes with this number from 8 on. -/
def withSum (b : List Int) (x : Int) : List Int := b.take 8 ++ enc x 4 ++ b.drop 12
/-- The first j bytes of it stand. -/
def withTo (b : List Int) (x : Int) (j : Nat) : List Int := b.take 8 ++ (enc x 4).take j ++ (List.replicate (4 - j) 0 ++ b.drop 12)
theorem withTo_0 (b : List Int) (x : Int) : withTo b x 0 = zero4 b := by simp [withTo, zero4, zeroTo]
theorem withTo_4 (b : List Int) (x : Int) : withTo b x 4 = withSum b x := by
  unfold withTo withSum
  have e : (enc x 4).take 4 = enc x 4 := List.take_of_length_le (by simp)
  rw [e]
  simp
theorem withTo_len {b : List Int} (x : Int) {j : Nat} (hj : j ≤ 4) (hb : 12 ≤ b.length) : (withTo b x j).length = b.length := by simp [withTo]; omega
theorem withTo_set {b : List Int} {x : Int} {j : Nat} (hj : j < 4) (hb : 12 ≤ b.length) : (withTo b x j).set (8 + j) ((enc x 4)[j]?.getD 0) = withTo b x (j + 1) := by
  have hl : j < (enc x 4).length := by simp; exact hj
  have eg : (enc x 4)[j]?.getD 0 = (enc x 4)[j] := by rw [List.getElem?_eq_getElem hl]; rfl
  have e := List.take_succ_eq_append_getElem hl
  unfold withTo
  rw [show 4 - j = (4 - (j + 1)) + 1 by omega, List.replicate_succ, List.cons_append, set_mid (b.take 8 ++ (enc x 4).take j) (List.replicate (4 - (j + 1)) 0 ++ b.drop 12) _ _ _ (by simp; omega), e, eg]
  simp only [List.append_assoc, List.cons_append, List.nil_append]

set_option maxRecDepth 100000 in
set_option maxHeartbeats 1600000 in
theorem summed_any (aq : Option Addr) (n c : Nat) (b : List Int) (w : World) (hr : Reads w aq n b) (hz : Byt b) (h12 : 12 ≤ n) (hn : n ≤ 1099511627776) :
    Calls Try.prog 29 #[.slice aq n c] w fun e w' => e = .returned (.slice (some ⟨w.heap.size, 0, none⟩) n n) ∧ Below w.heap.size w w' ∧ Blk w' w.heap.size (withSum b ((ext 0 (zero4 b) : Nat) : Int)) := by
  have hbl : b.length = n := hr.1
  have HL := Lib.hid hbl
  have HZ := Lib.hid hz
  have HCB := Lib.hid (copyBytes_pos aq n c b w hr (by omega) (by omega))
  obtain ⟨X, hX⟩ : ∃ X : Int, ((ext 0 (zero4 b) : Nat) : Int) = X := ⟨_, rfl⟩
  obtain ⟨lX, hX1⟩ : 0 ≤ X ∧ X < 4294967296 := by have := ext_lt (s := 0) (zero4 b) (by decide); omega
  rw [hX]
  have HX := Lib.hid hX
  clear hbl hX hr hz
  go_enter Try.func29, Try.ntmps29
  go_wp2_with fail
  refine HCB.out.mono ?_
  rintro e w2 ⟨rfl, hb2, hk2⟩
  have HB2 := Lib.hid hb2
  have HK2 := Lib.hid hk2
  obtain ⟨g, hg⟩ : ∃ g, w.heap.size = g := ⟨_, rfl⟩
  rw [hg] at HB2 HK2 ⊢
  clear hb2 hk2 HCB
  go_wp2_with fail
  go_loopw [4] (fun ii wr => ∃ j : Nat, 8 ≤ j ∧ j ≤ 12 ∧ ii = .int .i64 (j : Int) ∧ Blk wr g (zeroTo b j) ∧ Below g w wr) (fun ii _ => 12 - (intOf ii).toNat)
  case atStart => exact ⟨8, Nat.le_refl _, by omega, rfl, by rw [zeroTo_8]; exact HK2.out, HB2.out⟩
  case round =>
    obtain ⟨j, hj8, hj, rfl, hk, hbw⟩ := hrel
    by_cases hjn : j < 12
    · have hzl : (zeroTo b j).length = n := by rw [zeroTo_len hj8 (by have := HL.out; omega)]; exact HL.out
      have e0 := hk.cell (i := j) (by omega)
      have f0 := hk.free j
      have hk' : Blk (wr.setCell ⟨g, j, none⟩ (.int .u8 0)) g (zeroTo b (j + 1)) := by rw [← zeroTo_set hj8 (by have := HL.out; omega)]; exact hk.set j 0
      have hb' : Below g w (wr.setCell ⟨g, j, none⟩ (.int .u8 0)) := hbw.setCell (p := ⟨g, j, none⟩) (Nat.le_refl _) _
      have HN := Lib.hid (And.intro hk' hb')
      have hj0 : (0 : Int) ≤ (j : Int) := by omega
      have hj1 : (j : Int) < (n : Int) := by omega
      have hj12 : (j : Int) < 12 := by omega
      clear hk hbw hk' hb' hzl
      go_wp2
      exact ⟨⟨j + 1, by omega, by omega, congrArg (Value.int .i64) (by omega), HN.out.1, HN.out.2⟩, by simp [intOf]; omega⟩
    have hj12 : decide ((j : Int) < 12) = false := by simp; omega
    have e12 : zeroTo b j = zero4 b := by unfold zero4; rw [show j = 12 by omega]
    rw [e12] at hk
    have hs := sum_ref (some ⟨g, 0, none⟩) n n (zero4 b) wr (hk.readsAll n (by unfold zero4; rw [zeroTo_len (by omega) (by have := HL.out; omega)]; exact HL.out.symm)) (zeroTo_byt HZ.out 12) (by omega)
    rw [HX.out] at hs
    have HS2 := Lib.hid hs
    have HB3 := Lib.hid hbw
    have HK3 := Lib.hid hk
    have hp := putR_yes none 0 0 4 X [] wr (Reads.zero _ _) (by omega) lX rfl
    try simp only [Nat.zero_add, List.nil_append, Nat.reduceAdd] at hp
    have HP := Lib.hid hp
    have hgw : g < wr.heap.size := hk.lt
    clear hk hbw hs hp e12 HB2 HK2
    go_wp2_with fail
    refine HS2.out.mono ?_
    rintro e w' ⟨rfl, rfl⟩
    clear HS2
    go_wp2_with fail
    refine HP.out.mono ?_
    rintro e w4 ⟨a5, c5, rfl, hb4, hr5⟩
    have HB4 := Lib.hid (HB3.out.trans (hb4.mono (by omega)))
    have HK4 := Lib.hid (HK3.out.below hb4)
    have HR5 := Lib.hid hr5
    have hgw4 : wr.heap.size ≤ w4.heap.size := hb4.size
    obtain ⟨wo, hwo⟩ : ∃ wo, wr = wo := ⟨_, rfl⟩
    rw [hwo] at HR5 hgw hgw4
    clear hb4 hr5 HP HB3 HK3
    go_wp2_with fail
    go_loopw [6] (fun ii wr => ∃ j : Nat, j ≤ 4 ∧ ii = .int .i64 (j : Int) ∧ Blk wr g (withTo b X j) ∧ Below g w wr ∧ Row8 wo.heap.size wr a5 4 c5 (enc X 4)) (fun ii _ => 4 - (intOf ii).toNat)
    case atStart => exact ⟨0, Nat.zero_le _, rfl, by rw [withTo_0]; exact HK4.out, HB4.out, HR5.out⟩
    case round =>
      obtain ⟨j, hj, rfl, hk, hbw, hrow⟩ := hrel
      by_cases hjn : j < 4
      · have hwl : (withTo b X j).length = n := by rw [withTo_len X hj (by have := HL.out; omega)]; exact HL.out
        rcases hrow.reads.2 with h0 | ⟨q, off, ha, hq, hc⟩
        · omega
        obtain ⟨y, hy⟩ : ∃ y, (enc X 4)[j]?.getD 0 = y := ⟨_, rfl⟩
        have s0 := hc j (by omega)
        rw [hy] at s0
        have hqg : q ≠ g := by
          have := (hrow.far ⟨q, off, none⟩ ha).1
          simp at this
          omega
        have e0 := hk.cell (i := 8 + j) (by omega)
        have f0 := hk.free (8 + j)
        have hk' : Blk (wr.setCell ⟨g, 8 + j, none⟩ (.int .u8 y)) g (withTo b X (j + 1)) := by rw [← withTo_set hjn (by have := HL.out; omega), hy]; exact hk.set (8 + j) _
        have hb' : Below g w (wr.setCell ⟨g, 8 + j, none⟩ (.int .u8 y)) := hbw.setCell (p := ⟨g, 8 + j, none⟩) (Nat.le_refl _) _
        have hrow' : Row8 wo.heap.size (wr.setCell ⟨g, 8 + j, none⟩ (.int .u8 y)) a5 4 c5 (enc X 4) := hrow.keep_of (fun g' _ hbg cs _ => Below.heap_setCell _ _ _ _ (by show g' ≠ g; omega))
        have HN := Lib.hid (And.intro hk' (And.intro hb' hrow'))
        have hj0 : (0 : Int) ≤ (j : Int) := by omega
        have hj4 : (j : Int) < 4 := by omega
        have hj8 : (0 : Int) ≤ 8 + (j : Int) := by omega
        have hj9 : 8 + (j : Int) < (n : Int) := by omega
        subst ha
        clear hk hbw hk' hb' hwl hrow hrow' hc hq hy
        go_wp2
        exact ⟨⟨j + 1, by omega, congrArg (Value.int .i64) (by omega), HN.out.1, HN.out.2.1, HN.out.2.2⟩, by simp [intOf]; omega⟩
      have hj4 : decide ((j : Int) < 4) = false := by simp; omega
      have e4 : withTo b X j = withSum b X := by rw [show j = 4 by omega, withTo_4]
      rw [e4] at hk
      have HE := Lib.hid (And.intro hbw hk)
      clear hk hbw hrow e4
      go_wp2
      go_ret
      exact ⟨by rw [hg]; rfl, by rw [hg]; exact HE.out.1, by rw [hg]; exact HE.out.2⟩
end Go.Proofs.Ytnndlpbbllmpjaa
