/-
  The walk of PacketShort.
-/
import Derived.Test.YtnndlpbbllmpjaaPkApi
import Derived.Deep.DeepCutAuto
namespace Go.Proofs.Ytnndlpbbllmpjaa
open Go.RowKit
set_option linter.unusedVariables false
set_option linter.unusedSimpArgs false

theorem Reads.front {w : World} {a : Option Addr} {n : Nat} {zs : List Int} (h : Reads w a n zs) (k : Nat) (hk : k ≤ n) : Reads w a k (zs.take k) := by
  refine ⟨by simp [h.1]; omega, ?_⟩
  rcases h.2 with h2 | ⟨b, off, e, hlt, h2⟩
  · exact .inl (by omega)
  · exact .inr ⟨b, off, e, hlt, fun i hi => by rw [h2 i (by omega), List.getElem?_take]; simp [hi]⟩

set_option maxRecDepth 100000 in
set_option maxHeartbeats 800000 in
theorem packetShort_of (RD : PkReadOk) (WK : PkWorks) (a : Option Addr) (len cap : Nat) (z : List Int) (w : World) (w0 : IsRow .u8 w a len cap z) :
    Calls Try.prog 10 #[.slice a len cap] w fun e w' => e = .returned (.bool true) ∧ Below w.heap.size w w' := by
  obtain ⟨hr, hbyt, hcap, hmax⟩ := w0.reads
  generalize z.take len = zs at hr hbyt
  clear w0
  have key : ∀ m, m ≤ len → m < 12 → Calls Try.prog 22 #[.slice a m cap] w fun e w' => e = .returned (rdNo 7) ∧ Below w.heap.size w w' := by
    intro m hml hm
    refine (RD a m cap (zs.take m) w (hr.front m hml) (hbyt.take m) (by omega) (by omega)).mono ?_
    rintro e w1 ⟨hrd, hb1⟩
    have hl : (zs.take m).length < 12 := by rw [List.length_take]; omega
    refine ⟨?_, hb1⟩
    rcases hrd with ⟨_, h⟩ | ⟨h, _⟩ | ⟨h, _⟩ | ⟨h, _⟩
    · exact h
    · omega
    · omega
    · omega
  unfold rdNo at key
  by_cases hle : len ≤ 11
  · have hli : (len : Int) ≤ 11 := by omega
    have HRD := Lib.hid (key len (Nat.le_refl _) (by omega))
    clear key hr hbyt
    go_enter Try.func10, Try.ntmps10
    go_wp2_with fail
    refine HRD.out.mono ?_
    rintro e w1 ⟨rfl, hb1⟩
    have hb2 : Below w1.heap.size w1 (w1.alloc (.cells #[.int .u32 0, .slice none 0 0] 25)) := (Below.refl _ _).alloc (Nat.le_refl _) _
    have hA : Arr (w1.alloc (.cells #[.int .u32 0, .slice none 0 0] 25)) w1.heap.size 25 [.int .u32 0, .slice none 0 0] := arr_new _ _ _
    go_upto_region 3 with fail
    generalize (w1.alloc (.cells #[.int .u32 0, .slice none 0 0] 25)) = w2 at *
    have c0 := hA.cell (i := 0) rfl
    have c1 := hA.cell (i := 1) rfl
    have HB := Lib.hid (hb1.trans (hb2.mono hb1.size))
    have HW := Lib.hid (WK w2)
    clear hb1 hb2 hA HRD
    go_wp2_with fail
    refine HW.out.mono ?_
    rintro e w3 ⟨rfl, hb3⟩
    have HB3 := Lib.hid (HB.out.trans (hb3.mono HB.out.size))
    clear hb3 HW HB
    go_wp2
    go_ret
    exact ⟨rfl, HB3.out⟩
  · have hli : ¬ (len : Int) ≤ 11 := by omega
    have HRD := Lib.hid (key 11 (by omega) (by omega))
    clear key hr hbyt
    go_enter Try.func10, Try.ntmps10
    go_wp2_with fail
    refine HRD.out.mono ?_
    rintro e w1 ⟨rfl, hb1⟩
    have hb2 : Below w1.heap.size w1 (w1.alloc (.cells #[.int .u32 0, .slice none 0 0] 25)) := (Below.refl _ _).alloc (Nat.le_refl _) _
    have hA : Arr (w1.alloc (.cells #[.int .u32 0, .slice none 0 0] 25)) w1.heap.size 25 [.int .u32 0, .slice none 0 0] := arr_new _ _ _
    go_upto_region 3 with fail
    generalize (w1.alloc (.cells #[.int .u32 0, .slice none 0 0] 25)) = w2 at *
    have c0 := hA.cell (i := 0) rfl
    have c1 := hA.cell (i := 1) rfl
    have HB := Lib.hid (hb1.trans (hb2.mono hb1.size))
    have HW := Lib.hid (WK w2)
    clear hb1 hb2 hA HRD
    go_wp2_with fail
    refine HW.out.mono ?_
    rintro e w3 ⟨rfl, hb3⟩
    have HB3 := Lib.hid (HB.out.trans (hb3.mono HB.out.size))
    clear hb3 HW HB
    go_wp2
    go_ret
    exact ⟨rfl, HB3.out⟩
end Go.Proofs.Ytnndlpbbllmpjaa
