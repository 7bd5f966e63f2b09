/-
  The reference's Read whatever the bytes are; the anchor of stage 8's laws.
-/
import Derived.Test.YtoahkigmbmdniaaCkRR2
import Derived.Test.YtoahkigmbmdniaaCkW
import Derived.Test.YtoahkigmbmdniaaCkSame
namespace Go.Proofs.Ytoahkigmbmdniaa
open Go.RowKit
set_option linter.unusedVariables false

theorem rread_any (a : Option Addr) (n c : Nat) (zs : List Int) (w : World) (hr : Reads w a n zs) (hb : Byt zs) (hc : n ≤ c) (hn : n ≤ 1099511627776) :
    Calls Try.prog 19 #[.slice a n c] w fun e w' => RefOk zs w' e ∧ Below w.heap.size w w' := by
  have hl := hr.1
  by_cases h4 : n < 4
  · exact (rread_no1 a n c zs w hr hc h4).mono fun e w' ⟨h1, h2⟩ => ⟨.inr ⟨fun k f body hb' hp => by have := (pre_parts hp hb').1; omega, h1⟩, h2⟩
  · by_cases hL : lenOf zs < 4 ∨ (n : Int) < lenOf zs
    · refine (rread_no2 a n c zs w hr hb hc (by omega) hn hL).mono fun e w' ⟨h1, h2⟩ => ⟨.inr ⟨fun k f body hb' hp => ?_, h1⟩, h2⟩
      obtain ⟨_, p2, p3, _⟩ := pre_parts hp hb'
      have := up4_ge (4 + body.length)
      omega
    · exact rread_main a n c (lenOf zs - 4).toNat zs w hr hb hc hn (by omega) (by omega)
theorem RefOk.yes {zs : List Int} {w' : World} {e : Ending} (h : RefOk zs w' e) {k f : Int} {body : List Int} (hp : encC k f body <+: zs) (hl : body.length ≤ 65531) :
    ∃ a, e = .returned (.tuple #[.agg #[.int .u8 k, .int .u8 f, .slice a body.length body.length], .int .i64 (up4 (4 + body.length) : Nat), .int .i64 0]) ∧ Reads w' a body.length body := by
  rcases h with ⟨k', f', body', a, hl', hp', he, hk⟩ | ⟨hn, _⟩
  · obtain ⟨rfl, rfl, rfl⟩ := pre_unique hp hp' hl hl'
    exact ⟨a, he, hk⟩
  · exact absurd hp (hn k f body hl)
theorem RefOk.no {zs : List Int} {w' : World} {e : Ending} (h : RefOk zs w' e) (hn : ∀ (k f : Int) (body : List Int), body.length ≤ 65531 → ¬ encC k f body <+: zs) : e = .returned noChunk := by
  rcases h with ⟨k', f', body', a, hl', hp', he, hk⟩ | ⟨_, he⟩
  · exact absurd hp' (hn k' f' body' hl')
  · exact he
theorem no_short {zs : List Int} (h : zs.length < 4) : ∀ (k f : Int) (body : List Int), body.length ≤ 65531 → ¬ encC k f body <+: zs := fun k f body hb' hp => by have := (pre_parts hp hb').1; omega

set_option maxRecDepth 100000 in
set_option maxHeartbeats 1600000 in
theorem works_any (w : World) : Calls Try.prog 11 #[] w fun e w' => e = .returned (.bool true) ∧ Below w.heap.size w w' := by
  obtain ⟨w0, hw0⟩ : ∃ w0, w.alloc (.cells #[.int .u8 170] 5) = w0 := ⟨_, rfl⟩
  have hb0 : Below w.heap.size w w0 := by rw [← hw0]; exact (Below.refl _ _).alloc (Nat.le_refl _) _
  have hk0 : Blk w0 w.heap.size [170] := by rw [← hw0]; exact heap_alloc_new _ _
  have hwr := write_yes 10 0 (some ⟨w.heap.size, 0, none⟩) 1 1 [170] w0 (hk0.readsAll 1 rfl) (by omega)
  rw [show up4 (4 + 1) = 8 from rfl] at hwr
  have HW := Lib.hid hwr
  have H0 := Lib.hid hb0
  clear hwr hb0 hk0
  go_enter Try.func11, Try.ntmps11
  go_wp2_with fail
  refine HW.out.mono ?_
  rintro e w1 ⟨g, rfl, hg, hk1, hb1⟩
  have hbz : Byt (encC 10 0 [170]) := encC_byt (by omega) (by omega) (by omega) (by omega) (Byt.one (by omega) (by omega))
  have hrd := read_any (some ⟨g, 0, none⟩) 8 8 (encC 10 0 [170]) w1 (hk1.readsAll 8 (by rw [encC_len]; rfl)) hbz (Nat.le_refl _) (by omega)
  have H1 := Lib.hid (And.intro (H0.out.trans (hb1.mono H0.out.size)) hk1)
  have HR := Lib.hid hrd
  clear hb1 hk1 hrd hbz HW H0 hw0
  go_wp2_with fail
  refine HR.out.mono ?_
  rintro e w2 ⟨hok, hb2⟩
  obtain ⟨g2, rfl, hg2, hk2⟩ := hok.yes (k := 10) (f := 0) (body := [170]) (List.prefix_refl _) (by simp)
  rw [show up4 (4 + [(170 : Int)].length) = 8 from rfl, show [(170 : Int)].length = 1 from rfl]
  obtain ⟨w3, hw3⟩ : ∃ w3, w2.alloc (.cells #[.int .u8 10, .int .u8 0, .slice (some ⟨g2, 0, none⟩) 1 1] 24) = w3 := ⟨_, rfl⟩
  have hb3 : Below w2.heap.size w2 w3 := by rw [← hw3]; exact (Below.refl _ _).alloc (Nat.le_refl _) _
  have ha3 : Arr w3 w2.heap.size 24 [.int .u8 10, .int .u8 0, .slice (some ⟨g2, 0, none⟩) 1 1] := by rw [← hw3]; exact arr_new _ _ _
  have hrd := read_any none 0 0 [] w3 (Reads.zero _ _) Byt.nil (Nat.le_refl _) (by omega)
  have H3 := Lib.hid (And.intro (H1.out.1.trans ((hb2.trans (hb3.mono hb2.size)).mono H1.out.1.size)) (And.intro ha3 (hk2.below hb3)))
  have HR2 := Lib.hid hrd
  clear hb2 hk2 hb3 ha3 hrd hok H1 HR
  go_wp2_with fail
  refine HR2.out.mono ?_
  rintro e w4 ⟨hok, hb4⟩
  obtain rfl := hok.no (no_short (by simp))
  unfold noChunk
  have hb5 : Below w4.heap.size w4 (w4.alloc (.cells #[.int .u8 0, .int .u8 0, .slice none 0 0] 24)) := (Below.refl _ _).alloc (Nat.le_refl _) _
  have hb35 := hb4.trans (hb5.mono hb4.size)
  have ha5 := H3.out.2.1.keep hb35
  have hk5 := H3.out.2.2.below hb35
  have c0 := ha5.cell (i := 0) rfl
  have c1 := ha5.cell (i := 1) rfl
  have c2 := ha5.cell (i := 2) rfl
  have d0 : (w4.alloc (.cells #[.int .u8 0, .int .u8 0, .slice none 0 0] 24)).cell? ⟨g2, 0, none⟩ = some (.int .u8 170) := hk5.cell (i := 0) (by simp)
  have H5 := Lib.hid (H3.out.1.trans (hb35.mono H3.out.1.size))
  clear hb4 hb5 hb35 ha5 hk5 hok H3 HR2 hw3
  go_wp2_with fail
  go_ret
  exact ⟨rfl, H5.out⟩
end Go.Proofs.Ytoahkigmbmdniaa
