/-
  Stage 11: what the laws lean on, and the laws' own helpers twin and same.
-/
import Derived.Test.YtcmaclaiholpfaaDoorKRef5
import Derived.Test.YtcmaclaiholpfaaDoorKRef3
import Derived.Test.YtcmaclaiholpfaaDoorTab
import Derived.Test.YtcmaclaiholpfaaDoorMgA
namespace Go.Proofs.YtcmaclaiholpfaaDoor
open Go.RowKit
set_option linter.unusedVariables false

/-- Write does as the document says. -/
def KWriteOk : Prop := ∀ (a : Option Addr) (len cap : Nat) (zs : List Int) (k : KV) (w : World), Reads w a len zs → Byt zs → len ≤ 1073741824 → len ≤ cap → k.ok → Tab w →
  Calls Tryd.prog 12 #[.slice a len cap, k.val] w fun e w' => ∃ a' c', e = .returned (.slice a' 64 c') ∧ Reads w' a' 64 (writeK zs k) ∧ 64 ≤ c' ∧ c' ≤ maxLen ∧ Below w.heap.size w w'
/-- Read does. -/
def KReadOk : Prop := ∀ (a : Option Addr) (len cap : Nat) (zs : List Int) (b : Option Addr) (len2 cap2 : Nat) (ys : List Int) (w : World), Reads w a len zs → Byt zs → len ≤ 1073741824 → len ≤ cap → Reads w b len2 ys → Byt ys → len2 ≤ 1073741824 → len2 ≤ cap2 → cap2 ≤ maxLen → Tab w →
  Calls Tryd.prog 14 #[.slice a len cap, .slice b len2 cap2] w fun e w' => e = .returned (.tuple #[(readK zs ys).1.val, .int .i64 (readK zs ys).2]) ∧ Below w.heap.size w w'
/-- Fresh does. -/
def KFreshOk : Prop := ∀ (k : KV) (now life : Int) (w : World), k.ok → -9223372036854775808 ≤ now ∧ now < 9223372036854775808 → -9223372036854775808 ≤ life ∧ life < 9223372036854775808 →
  Calls Tryd.prog 16 #[k.val, .int .i64 now, .int .i64 life] w fun e w' => e = .returned (.bool (freshK k now life)) ∧ Below w.heap.size w w'
/-- Derive does. -/
def KDeriveOk : Prop := ∀ (a : Option Addr) (len cap : Nat) (zs : List Int) (b : Option Addr) (len2 cap2 : Nat) (ys : List Int) (w : World), Reads w a len zs → Byt zs → len ≤ 1073741824 → len ≤ cap → Reads w b len2 ys → Byt ys → len2 ≤ 1073741824 → len2 ≤ cap2 → Tab w →
  Calls Tryd.prog 18 #[.slice a len cap, .slice b len2 cap2] w fun e w' => e = .returned (.tuple #[.int .u32 (deriveK zs ys).1, .int .u32 (deriveK zs ys).2]) ∧ Below w.heap.size w w'
/-- The anchor. -/
def KWorks : Prop := ∀ (w : World), Tab w → Calls Tryd.prog 9 #[] w fun e w' => e = .returned (.bool true) ∧ Below w.heap.size w w'

theorem Row8.max {base : Nat} {w : World} {a : Option Addr} {n c : Nat} {zs : List Int} (h : Row8 base w a n c zs) : c ≤ maxLen := by
  rcases h.2 with ⟨_, _, hv⟩ | ⟨g, sp, hv, hb, hg, _, hc, hm⟩
  · rw [hv]; unfold maxLen; omega
  · exact hm

theorem twinK_any (a : Option Addr) (len cap : Nat) (zs : List Int) (w : World) (hr : Reads w a len zs) (hl : len ≤ 1099511627776) :
    Calls Tryd.prog 10 #[.slice a len cap] w fun e w' => ∃ a' c', e = .returned (.slice a' len c') ∧ Row8 w.heap.size w' a' len c' zs ∧ Below w.heap.size w w' := by
  obtain ⟨w0, hw0⟩ : ∃ w0, w0 = w.alloc (.cells #[] 5) := ⟨_, rfl⟩
  have hb0 : Below w.heap.size w w0 := by rw [hw0]; exact (Below.refl _ _).alloc (Nat.le_refl _) _
  have h0 : Row8 w.heap.size w0 (some ⟨w.heap.size, 0, none⟩) 0 0 [] := by
    rw [hw0]
    exact Row8.of_blk (by unfold Blk; exact heap_alloc_new _ _) (Nat.le_refl _) rfl (Nat.zero_le _)
  obtain ⟨a', c', w1, happ, H⟩ := h0.appends hb0.size a len cap zs (hr.below hb0) (by omega)
  rw [Nat.zero_add, List.nil_append] at H
  rw [Nat.zero_add, hw0] at happ
  have HB := Lib.hid (hb0.trans H.out.2)
  have HR := Lib.hid H.out.1
  clear hr hl hb0 h0 hw0 H
  go_enter Tryd.func10, Tryd.ntmps10
  go_wp2_with (at_builtin; refine wpList_append_run rfl _ _ _ rfl _ _ _ _ rfl rfl happ ?_)
  go_ret
  exact ⟨a', c', rfl, HR.out, HB.out⟩

theorem sameK_any (a b : Option Addr) (n ca cb m : Nat) (zs ys : List Int) (w : World) (ha : Reads w a n zs) (hb : Reads w b m ys) (za : Byt zs) (zb : Byt ys) :
    Calls Tryd.prog 11 #[.slice a n ca, .slice b m cb] w fun e w' => e = .returned (.bool (decide (zs = ys))) ∧ w = w' := by
  have h1 := conv_reads (c := ca) ha
  have h2 := conv_reads (c := cb) hb
  rw [← strOfNums_beq za zb]
  clear ha hb
  go_enter Tryd.func11, Tryd.ntmps11
  go_wp2
  go_ret
  exact ⟨rfl, rfl⟩
end Go.Proofs.YtcmaclaiholpfaaDoor
