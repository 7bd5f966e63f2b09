/-
  Contracts of the reference package 00: EqBytes.
-/
import Derived.Test.YtlihcckgnnnekaaChecked
import Derived.Test.YtlihcckgnnnekaaBase
import Derived.Laws.BitsAllLaws
import Derived.Handy
import Derived.BigQuiet
import Derived.Deep.QuietTactic
import Derived.Outline
namespace Go.Proofs.Ytlihcckgnnnekaa
open Go.RowKit
set_option linter.unusedVariables false

theorem u8_or_xor (u x y : Int) (hu0 : 0 ≤ u) (hu1 : u < 256) (hx0 : 0 ≤ x) (hx1 : x < 256) (hy0 : 0 ≤ y) (hy1 : y < 256) :
    0 ≤ bits .or .u8 u (bits .xor .u8 x y) ∧ bits .or .u8 u (bits .xor .u8 x y) < 256 ∧ (bits .or .u8 u (bits .xor .u8 x y) = 0 ↔ u = 0 ∧ x = y) := by
  rw [u8_xor x y hx0 hx1 hy0 hy1]
  have hlt : x.toNat ^^^ y.toNat < 256 := Nat.xor_lt_two_pow (n := 8) (by omega) (by omega)
  rw [u8_or u _ hu0 hu1 (by omega) (by omega)]
  have hor : u.toNat ||| (((x.toNat ^^^ y.toNat : Nat) : Int)).toNat < 256 := Nat.or_lt_two_pow (n := 8) (by omega) (by omega)
  refine ⟨by omega, by omega, ?_⟩
  rw [Int.toNat_natCast]
  constructor
  · intro h
    have h' : u.toNat ||| (x.toNat ^^^ y.toNat) = 0 := by omega
    rw [Nat.or_eq_zero_iff] at h'
    have h2 : x.toNat = y.toNat := by
      have e : x.toNat = (x.toNat ^^^ y.toNat) ^^^ y.toNat := by rw [Nat.xor_assoc, Nat.xor_self, Nat.xor_zero]
      rw [h'.2, Nat.zero_xor] at e
      exact e
    omega
  · rintro ⟨rfl, rfl⟩
    simp

/-- Are the first k numbers the same? -/
def same (zs ys : List Int) (k : Nat) : Prop := zs.take k = ys.take k

theorem same_succ {zs ys : List Int} {k : Nat} (h1 : k < zs.length) (h2 : k < ys.length) : same zs ys (k + 1) ↔ same zs ys k ∧ zs[k]?.getD 0 = ys[k]?.getD 0 := by
  unfold same
  rw [List.take_succ_eq_append_getElem h1, List.take_succ_eq_append_getElem h2]
  constructor
  · intro h
    have := List.append_inj' h rfl
    exact ⟨this.1, by simp at this; simp [h1, h2, this.2]⟩
  · rintro ⟨e1, e2⟩
    simp [h1, h2] at e2
    rw [e1, e2]

set_option maxHeartbeats 400000 in
theorem eqBytes_drawn (a b : Option Addr) (n ca cb m : Nat) (zs ys : List Int) (w : World) (ha : Reads w a n zs) (hb : Reads w b m ys) (za : Byt zs) (zb : Byt ys) (hn : n ≤ 281474976710656) (hm : m ≤ 281474976710656) :
    Calls Try.prog 55 #[.slice a n ca, .slice b m cb] w fun e w' => e = .returned (.bool (decide (zs = ys))) ∧ ∃ k, w.drewN k = w' := by
  obtain ⟨la, ha⟩ := ha
  obtain ⟨lb, hb⟩ := hb
  by_cases hnm : n = m
  · subst hnm
    have HL := Lib.hid la
    have HM := Lib.hid lb
    clear la lb
    have hCa : ∀ i, i < n → ∃ ba oa, a = some ⟨ba, oa, none⟩ ∧ w.cell? ⟨ba, oa + i, none⟩ = some (.int .u8 (zs[i]?.getD 0)) := by
      intro i hi
      rcases ha with h | ⟨ba, oa, e, _, h⟩
      · omega
      · exact ⟨ba, oa, e, h i hi⟩
    have hCb : ∀ i, i < n → ∃ ba oa, b = some ⟨ba, oa, none⟩ ∧ w.cell? ⟨ba, oa + i, none⟩ = some (.int .u8 (ys[i]?.getD 0)) := by
      intro i hi
      rcases hb with h | ⟨ba, oa, e, _, h⟩
      · omega
      · exact ⟨ba, oa, e, h i hi⟩
    have HA := Lib.hid hCa
    have HB := Lib.hid hCb
    clear hCa hCb ha hb
    go_enter Try.func55, Try.ntmps55
    go_wp2
    go_loopw [6, 7] (fun u i wr => ∃ (k j : Nat) (v : Int), k ≤ n ∧ i = .int .i64 k ∧ u = .int .u8 v ∧ 0 ≤ v ∧ v < 256 ∧ Hid (v = 0 ↔ same zs ys k) ∧ wr = w.drewN j) (fun _ i _ => n - (intOf i).toNat)
    case atStart => exact ⟨0, 0, 0, Nat.zero_le _, rfl, rfl, by omega, by omega, show _ ↔ _ by simp [same], rfl⟩
    case round =>
      obtain ⟨k, j, v, hk, rfl, rfl, v0, v1, hv, rfl⟩ := hrel
      by_cases hlt : k < n
      · obtain ⟨ba, oa, rfl, hca⟩ := HA.out k hlt
        obtain ⟨bb, ob, rfl, hcb⟩ := HB.out k hlt
        obtain ⟨x0, x1⟩ := za.getD k
        obtain ⟨y0, y1⟩ := zb.getD k
        have HX := Lib.hid (u8_or_xor v _ _ v0 v1 x0 x1 y0 y1)
        have HS := Lib.hid (same_succ (zs := zs) (ys := ys) (k := k) (by rw [HL.out]; exact hlt) (by rw [HM.out]; exact hlt))
        go_wp2
        go_quiet (fail)
        go_wp2
        go_roundw
        case rel => exact ⟨k + 1, _, _, by omega, by go_num, rfl, HX.out.1, HX.out.2.1, HX.out.2.2.trans ((and_congr_left fun _ => hv.out).trans HS.out.symm), rfl⟩
        case measure => simp [intOf]; omega
      · go_wp2
        go_ret
        obtain rfl : k = n := by omega
        refine ⟨?_, _, rfl⟩
        have e : decide (zs = ys) = (v == 0) := by
          have h1 := hv.out
          unfold same at h1
          rw [List.take_of_length_le (by rw [HL.out]; exact Nat.le_refl _), List.take_of_length_le (by rw [HM.out]; exact Nat.le_refl _)] at h1
          by_cases h0 : v = 0
          · simp [h0, h1.1 h0]
          · have : ¬ zs = ys := fun h => h0 (h1.2 h)
            simp [h0, this]
        rw [e]
        rfl
  · have e : decide (zs = ys) = false := by
      simp only [decide_eq_false_iff_not]
      intro h
      rw [h] at la
      exact hnm (la.symm.trans lb)
    have hne : ((n : Int) == (m : Int)) = false := by simp; omega
    have hne' : ((n : Int) != (m : Int)) = true := by simp; omega
    have E := Lib.hid e
    clear e la lb ha hb
    go_enter Try.func55, Try.ntmps55
    go_wp2
    go_ret
    exact ⟨by rw [E.out]; rfl, 0, rfl⟩

theorem eqBytes_any (a b : Option Addr) (n ca cb m : Nat) (zs ys : List Int) (w : World) (ha : Reads w a n zs) (hb : Reads w b m ys) (za : Byt zs) (zb : Byt ys) (hn : n ≤ 281474976710656) (hm : m ≤ 281474976710656) :
    Calls Try.prog 55 #[.slice a n ca, .slice b m cb] w fun e w' => e = .returned (.bool (decide (zs = ys))) ∧ Below w.heap.size w w' ∧ w'.heap.size = w.heap.size :=
  (eqBytes_drawn a b n ca cb m zs ys w ha hb za zb hn hm).mono fun e w' ⟨h1, k, h2⟩ => ⟨h1, by rw [← h2]; exact Below.of_drewN w k, by rw [← h2]; rfl⟩

theorem eqBytes_yes (a b : Option Addr) (n ca cb m : Nat) (zs ys : List Int) (w : World) (ha : Reads w a n zs) (hb : Reads w b m ys) (za : Byt zs) (hn : n ≤ 281474976710656) (e : zs = ys) :
    Calls Try.prog 55 #[.slice a n ca, .slice b m cb] w fun e w' => e = .returned (.bool true) ∧ Below w.heap.size w w' ∧ w'.heap.size = w.heap.size := by
  subst e
  have := eqBytes_any a b n ca cb m zs zs w ha hb za za hn (by rw [← hb.1, ha.1]; exact hn)
  simpa using this
end Go.Proofs.Ytlihcckgnnnekaa
