/-
  Stage 9: got: by how many Gets a chunk is taken, and whether what is got is put again as that chunk. Written by gengot.py.
-/
import Derived.Test.YtlihcckgnnnekaaBdOne
import Derived.Test.YtlihcckgnnnekaaGoodF
namespace Go.Proofs.Ytlihcckgnnnekaa
open Go.RowKit
set_option linter.unusedVariables false
set_option linter.unusedSimpArgs false
set_option linter.unnecessarySimpa false

set_option maxRecDepth 100000 in
set_option maxHeartbeats 1600000 in
theorem got_N (k f : Int) (p : Option Addr) (n c : Nat) (zs : List Int) (w : World) (hr : Reads w p n zs) (hz : Byt zs) (hc : n ≤ c) (hn : n ≤ 200000) (hD : okData k f zs = false) (hI : okInit k f zs = false) (hS : okSack k f zs = false) (hF : okFwd k f zs = false) (hT : okTime k f zs = false) (hC : okCum k f zs = false) :
    Calls Try.prog 47 #[.agg #[.int .u8 k, .int .u8 f, .slice p n c]] w fun e w' => e = .returned (.tuple #[.int .i64 0, .bool true]) ∧ Below w.heap.size w w' := by
  obtain ⟨w0, hw0⟩ : ∃ w0, w.alloc (.cells #[.int .u8 k, .int .u8 f, .slice p n c] 28) = w0 := ⟨_, rfl⟩
  have hb0 : Below w.heap.size w w0 := by rw [← hw0]; exact chunkBelow _ _ _ _
  have hs0 : w0.heap.size = w.heap.size + 1 := by rw [← hw0]; simp
  have hC0 : Arr w0 w.heap.size 28 [.int .u8 k, .int .u8 f, .slice p n c] := by rw [← hw0]; exact chunkBox _ _ _ _
  have HC0 := Lib.hid hC0
  have HB0 := Lib.hid (And.intro hb0 hs0)
  have HR0 := Lib.hid (show ∀ W, Below w0.heap.size w0 W → Reads W p n zs from fun W h => (hr.below hb0).below h)
  have HL := Lib.hid hr.1
  have HGD := Lib.hid (show ∀ W, Below w0.heap.size w0 W → Calls Try.prog 16 #[.agg #[.int .u8 k, .int .u8 f, .slice p n c]] W (GotD W k f zs) from fun W h => pgetData k f p n c zs W (HR0.out W h) hz hc hn)
  have HGI := Lib.hid (show ∀ W, Below w0.heap.size w0 W → Calls Try.prog 24 #[.agg #[.int .u8 k, .int .u8 f, .slice p n c]] W (GotI W k f zs) from fun W h => pgetInit k f p n c zs W (HR0.out W h) hz hc hn)
  have HGS := Lib.hid (show ∀ W, Below w0.heap.size w0 W → Calls Try.prog 30 #[.agg #[.int .u8 k, .int .u8 f, .slice p n c]] W (GotS W (okSack k f zs) (natAt zs 0 4) (natAt zs 4 4) (sackG zs) (sackD zs)) from fun W h => pgetSack k f p n c zs W (HR0.out W h) hz hc hn)
  have HGF := Lib.hid (show ∀ W, Below w0.heap.size w0 W → Calls Try.prog 35 #[.agg #[.int .u8 k, .int .u8 f, .slice p n c]] W (GotF W (okFwd k f zs) (natAt zs 0 4) (pairsAt zs 4 ((zs.length - 4 + 3) / 4))) from fun W h => pgetForward k f p n c zs W (HR0.out W h) hz hc hn)
  have HGT := Lib.hid (show ∀ W, Below w0.heap.size w0 W → Calls Try.prog 39 #[.agg #[.int .u8 k, .int .u8 f, .slice p n c]] W (fun e w' => Chose (okTime k f zs) (.int .i64 (timeV zs)) (.int .i64 0) e ∧ Below W.heap.size W w') from fun W h => pgetTime k f p n c zs W (HR0.out W h) hz hc hn)
  have HGC := Lib.hid (show ∀ W, Below w0.heap.size w0 W → Calls Try.prog 41 #[.agg #[.int .u8 k, .int .u8 f, .slice p n c]] W (fun e w' => Chose (okCum k f zs) (.int .u32 (natAt zs 0 4)) (.int .u32 0) e ∧ Below W.heap.size W w') from fun W h => pgetCum k f p n c zs W (HR0.out W h) hz hc hn)
  have HOK := Lib.hid (And.intro hD (And.intro hI (And.intro hS (And.intro hF (And.intro hT hC)))))
  clear hb0 hC0 hr hD hI hS hF hT hC
  have d0 := HC0.out.cell (i := 0) rfl
  have d1 := HC0.out.cell (i := 1) rfl
  have d2 := HC0.out.cell (i := 2) rfl
  go_enter Try.func47, Try.ntmps47
  go_wp2_with fail
  refine (HGD.out _ (Below.refl w0.heap.size w0)).mono ?_
  rintro e w1 ⟨a1, c1, hch, hbx, hrow⟩
  obtain rfl : e = .returned (.tuple #[.agg #[.int .u32 0, .int .u16 0, .int .u16 0, .bool false, .bool false, .bool false, .slice none 0 0], .int .i64 7]) := by
    rw [HOK.out.1] at hch
    rcases hch with ⟨h, _⟩ | ⟨_, h⟩
    · cases h
    · exact h
  have hbw := (Below.refl w0.heap.size w0).trans (hbx.mono (Below.refl w0.heap.size w0).size)
  have hba : Below w1.heap.size w1 (w1.alloc (.cells #[.int .u32 0, .int .u16 0, .int .u16 0, .bool false, .bool false, .bool false, .slice none 0 0] 26)) := (Below.refl _ _).alloc (Nat.le_refl _) _
  have hbn := hbw.trans (hba.mono hbw.size)
  have HB1 := Lib.hid hbn
  clear d0 d1 d2
  have d0 := (HC0.out.keep hbn).cell (i := 0) rfl
  have d1 := (HC0.out.keep hbn).cell (i := 1) rfl
  have d2 := (HC0.out.keep hbn).cell (i := 2) rfl
  clear hbn hba hbw hch hbx hrow
  go_wp2_with fail
  refine (HGI.out _ HB1.out).mono ?_
  rintro e w2 ⟨a1, c1, hch, hbx, hrow⟩
  obtain rfl : e = .returned (.tuple #[.agg #[.int .u32 0, .int .u32 0, .int .u16 0, .int .u16 0, .int .u32 0, .slice none 0 0], .int .i64 7]) := by
    rw [HOK.out.2.1] at hch
    rcases hch with ⟨h, _⟩ | ⟨_, h⟩
    · cases h
    · exact h
  have hbw := HB1.out.trans (hbx.mono HB1.out.size)
  have hba : Below w2.heap.size w2 (w2.alloc (.cells #[.int .u32 0, .int .u32 0, .int .u16 0, .int .u16 0, .int .u32 0, .slice none 0 0] 43)) := (Below.refl _ _).alloc (Nat.le_refl _) _
  have hbn := hbw.trans (hba.mono hbw.size)
  have HB2 := Lib.hid hbn
  clear d0 d1 d2
  have d0 := (HC0.out.keep hbn).cell (i := 0) rfl
  have d1 := (HC0.out.keep hbn).cell (i := 1) rfl
  have d2 := (HC0.out.keep hbn).cell (i := 2) rfl
  clear hbn hba hbw hch hbx hrow
  go_wp2_with fail
  refine (HGS.out _ HB2.out).mono ?_
  rintro e w3 ⟨a1, c1, a2, c2, hch, hbx, hrow, hrow2⟩
  obtain rfl : e = .returned (.tuple #[.agg #[.int .u32 0, .int .u32 0, .slice none 0 0, .slice none 0 0], .int .i64 7]) := by
    rw [HOK.out.2.2.1] at hch
    rcases hch with ⟨h, _⟩ | ⟨_, h⟩
    · cases h
    · exact h
  have hbw := HB2.out.trans (hbx.mono HB2.out.size)
  have hba : Below w3.heap.size w3 (w3.alloc (.cells #[.int .u32 0, .int .u32 0, .slice none 0 0, .slice none 0 0] 52)) := (Below.refl _ _).alloc (Nat.le_refl _) _
  have hbn := hbw.trans (hba.mono hbw.size)
  have HB3 := Lib.hid hbn
  clear d0 d1 d2
  have d0 := (HC0.out.keep hbn).cell (i := 0) rfl
  have d1 := (HC0.out.keep hbn).cell (i := 1) rfl
  have d2 := (HC0.out.keep hbn).cell (i := 2) rfl
  clear hbn hba hbw hch hbx hrow hrow2
  go_wp2_with fail
  refine (HGF.out _ HB3.out).mono ?_
  rintro e w4 ⟨a1, c1, hch, hbx, hrow⟩
  obtain rfl : e = .returned (.tuple #[.agg #[.int .u32 0, .slice none 0 0], .int .i64 7]) := by
    rw [HOK.out.2.2.2.1] at hch
    rcases hch with ⟨h, _⟩ | ⟨_, h⟩
    · cases h
    · exact h
  have hbw := HB3.out.trans (hbx.mono HB3.out.size)
  have hba : Below w4.heap.size w4 (w4.alloc (.cells #[.int .u32 0, .slice none 0 0] 56)) := (Below.refl _ _).alloc (Nat.le_refl _) _
  have hbn := hbw.trans (hba.mono hbw.size)
  have HB4 := Lib.hid hbn
  clear d0 d1 d2
  have d0 := (HC0.out.keep hbn).cell (i := 0) rfl
  have d1 := (HC0.out.keep hbn).cell (i := 1) rfl
  have d2 := (HC0.out.keep hbn).cell (i := 2) rfl
  clear hbn hba hbw hch hbx hrow
  go_wp2_with fail
  refine (HGT.out _ HB4.out).mono ?_
  rintro e w5 ⟨hch, hbx⟩
  obtain rfl := hch.int
  rw [HOK.out.2.2.2.2.1]
  have HB5 := Lib.hid (HB4.out.trans (hbx.mono HB4.out.size))
  clear hch hbx d0 d1 d2
  have d0 := (HC0.out.keep HB5.out).cell (i := 0) rfl
  have d1 := (HC0.out.keep HB5.out).cell (i := 1) rfl
  have d2 := (HC0.out.keep HB5.out).cell (i := 2) rfl
  simp only [Bool.false_eq_true, if_false]
  go_wp2_with fail
  refine (HGC.out _ HB5.out).mono ?_
  rintro e w6 ⟨hch, hbx⟩
  obtain rfl := hch.int
  rw [HOK.out.2.2.2.2.2]
  have HB6 := Lib.hid (HB5.out.trans (hbx.mono HB5.out.size))
  clear hch hbx d0 d1 d2
  have d0 := (HC0.out.keep HB6.out).cell (i := 0) rfl
  have d1 := (HC0.out.keep HB6.out).cell (i := 1) rfl
  have d2 := (HC0.out.keep HB6.out).cell (i := 2) rfl
  simp only [Bool.false_eq_true, if_false]
  go_wp2
  go_ret2
  exact ⟨rfl, HB0.out.1.trans (HB6.out.mono HB0.out.1.size)⟩

/-- What the operations of the drawn region leave behind. -/
def GoRegD (w wr : World) (k f : Int) (p : Option Addr) (n c : Nat) (zs : List Int) (g : Nat) (x0 x1 x2 : Int) (u fi l : Bool) (a1 : Option Addr) (l1 c1 : Nat) (i : Nat) (v : Value) (W : World) : Prop := match i with | 0 => v = .bool true | 1 => v = .bool true | 2 => v = .agg #[.int .u32 x0, .int .u16 x1, .int .u16 x2, .bool u, .bool fi, .bool l, .slice a1 l1 c1] | 3 => ∃ b1 e1, v = .agg #[.int .u8 k, .int .u8 f, .slice b1 zs.length e1] ∧ Reads W b1 zs.length zs | 4 => v = .agg #[.int .u8 k, .int .u8 f, .slice p n c] | 5 => v = .bool true | 6 => v = .bool true | 7 => v = .bool true | _ => True
theorem GoRegD_mono {w wr : World} {k f : Int} {p : Option Addr} {n c : Nat} {zs : List Int} {g : Nat} {x0 x1 x2 : Int} {u fi l : Bool} {a1 : Option Addr} {l1 c1 : Nat} {W W' : World} (hb : Below W.heap.size W W') (jo : Nat) (xo : Value) (h : GoRegD w wr k f p n c zs g x0 x1 x2 u fi l a1 l1 c1 jo xo W) : GoRegD w wr k f p n c zs g x0 x1 x2 u fi l a1 l1 c1 jo xo W' := by
  unfold GoRegD at h ⊢
  split at h <;> try exact h
  · obtain ⟨b1, e1, e0, h0_0⟩ := h
    exact ⟨b1, e1, e0, h0_0.below hb⟩

set_option maxRecDepth 100000 in
set_option maxHeartbeats 1600000 in
theorem got_D (k f : Int) (p : Option Addr) (n c : Nat) (zs : List Int) (w : World) (hr : Reads w p n zs) (hz : Byt zs) (hc : n ≤ c) (hn : n ≤ 200000) (hD : okData k f zs = true) (hI : okInit k f zs = false) (hS : okSack k f zs = false) (hF : okFwd k f zs = false) (hT : okTime k f zs = false) (hC : okCum k f zs = false) :
    Calls Try.prog 47 #[.agg #[.int .u8 k, .int .u8 f, .slice p n c]] w fun e w' => e = .returned (.tuple #[.int .i64 1, .bool true]) ∧ Below w.heap.size w w' := by
  obtain ⟨w0, hw0⟩ : ∃ w0, w.alloc (.cells #[.int .u8 k, .int .u8 f, .slice p n c] 28) = w0 := ⟨_, rfl⟩
  have hb0 : Below w.heap.size w w0 := by rw [← hw0]; exact chunkBelow _ _ _ _
  have hs0 : w0.heap.size = w.heap.size + 1 := by rw [← hw0]; simp
  have hC0 : Arr w0 w.heap.size 28 [.int .u8 k, .int .u8 f, .slice p n c] := by rw [← hw0]; exact chunkBox _ _ _ _
  have HC0 := Lib.hid hC0
  have HB0 := Lib.hid (And.intro hb0 hs0)
  have HR0 := Lib.hid (show ∀ W, Below w0.heap.size w0 W → Reads W p n zs from fun W h => (hr.below hb0).below h)
  have HL := Lib.hid hr.1
  have HGD := Lib.hid (show ∀ W, Below w0.heap.size w0 W → Calls Try.prog 16 #[.agg #[.int .u8 k, .int .u8 f, .slice p n c]] W (GotD W k f zs) from fun W h => pgetData k f p n c zs W (HR0.out W h) hz hc hn)
  have HGI := Lib.hid (show ∀ W, Below w0.heap.size w0 W → Calls Try.prog 24 #[.agg #[.int .u8 k, .int .u8 f, .slice p n c]] W (GotI W k f zs) from fun W h => pgetInit k f p n c zs W (HR0.out W h) hz hc hn)
  have HGS := Lib.hid (show ∀ W, Below w0.heap.size w0 W → Calls Try.prog 30 #[.agg #[.int .u8 k, .int .u8 f, .slice p n c]] W (GotS W (okSack k f zs) (natAt zs 0 4) (natAt zs 4 4) (sackG zs) (sackD zs)) from fun W h => pgetSack k f p n c zs W (HR0.out W h) hz hc hn)
  have HGF := Lib.hid (show ∀ W, Below w0.heap.size w0 W → Calls Try.prog 35 #[.agg #[.int .u8 k, .int .u8 f, .slice p n c]] W (GotF W (okFwd k f zs) (natAt zs 0 4) (pairsAt zs 4 ((zs.length - 4 + 3) / 4))) from fun W h => pgetForward k f p n c zs W (HR0.out W h) hz hc hn)
  have HGT := Lib.hid (show ∀ W, Below w0.heap.size w0 W → Calls Try.prog 39 #[.agg #[.int .u8 k, .int .u8 f, .slice p n c]] W (fun e w' => Chose (okTime k f zs) (.int .i64 (timeV zs)) (.int .i64 0) e ∧ Below W.heap.size W w') from fun W h => pgetTime k f p n c zs W (HR0.out W h) hz hc hn)
  have HGC := Lib.hid (show ∀ W, Below w0.heap.size w0 W → Calls Try.prog 41 #[.agg #[.int .u8 k, .int .u8 f, .slice p n c]] W (fun e w' => Chose (okCum k f zs) (.int .u32 (natAt zs 0 4)) (.int .u32 0) e ∧ Below W.heap.size W w') from fun W h => pgetCum k f p n c zs W (HR0.out W h) hz hc hn)
  have HOK := Lib.hid (And.intro hD (And.intro hI (And.intro hS (And.intro hF (And.intro hT hC)))))
  clear hb0 hC0 hr hD hI hS hF hT hC
  have d0 := HC0.out.cell (i := 0) rfl
  have d1 := HC0.out.cell (i := 1) rfl
  have d2 := HC0.out.cell (i := 2) rfl
  go_enter Try.func47, Try.ntmps47
  go_wp2_with fail
  refine (HGD.out _ (Below.refl w0.heap.size w0)).mono ?_
  rintro e w1 ⟨a1, c1, hch, hbx, hrow⟩
  obtain ⟨x0, hx0⟩ : ∃ x, natAt zs 0 4 = x := ⟨_, rfl⟩
  obtain ⟨x1, hx1⟩ : ∃ x, natAt zs 4 2 = x := ⟨_, rfl⟩
  obtain ⟨x2, hx2⟩ : ∃ x, natAt zs 6 2 = x := ⟨_, rfl⟩
  obtain ⟨u, hu⟩ : ∃ x, bitB f 4 = x := ⟨_, rfl⟩
  obtain ⟨fi, hfi⟩ : ∃ x, bitB f 2 = x := ⟨_, rfl⟩
  obtain ⟨l, hl⟩ : ∃ x, bitB f 1 = x := ⟨_, rfl⟩
  obtain ⟨l1, hl1⟩ : ∃ x, zs.length - 12 = x := ⟨_, rfl⟩
  rw [hl1] at hrow
  obtain rfl : e = .returned (.tuple #[.agg #[.int .u32 x0, .int .u16 x1, .int .u16 x2, .bool u, .bool fi, .bool l, .slice a1 l1 c1], .int .i64 0]) := by
    rw [HOK.out.1] at hch
    rcases hch with ⟨_, h⟩ | ⟨h, _⟩
    · rw [h]; simp only [dataV, hx0, hx1, hx2, hu, hfi, hl, hl1]
    · cases h
  have hbw := (Below.refl w0.heap.size w0).trans (hbx.mono (Below.refl w0.heap.size w0).size)
  have hba : Below w1.heap.size w1 (w1.alloc (.cells #[.int .u32 x0, .int .u16 x1, .int .u16 x2, .bool u, .bool fi, .bool l, .slice a1 l1 c1] 26)) := (Below.refl _ _).alloc (Nat.le_refl _) _
  have hbn := hbw.trans (hba.mono hbw.size)
  have HB1 := Lib.hid hbn
  clear d0 d1 d2
  have d0 := (HC0.out.keep hbn).cell (i := 0) rfl
  have d1 := (HC0.out.keep hbn).cell (i := 1) rfl
  have d2 := (HC0.out.keep hbn).cell (i := 2) rfl
  have hpe := okData_eq HOK.out.1
  have hHP : ∀ W, Below (w1.alloc (.cells #[.int .u32 x0, .int .u16 x1, .int .u16 x2, .bool u, .bool fi, .bool l, .slice a1 l1 c1] 26)).heap.size (w1.alloc (.cells #[.int .u32 x0, .int .u16 x1, .int .u16 x2, .bool u, .bool fi, .bool l, .slice a1 l1 c1] 26)) W → Calls Try.prog 15 #[.agg #[.int .u32 x0, .int .u16 x1, .int .u16 x2, .bool u, .bool fi, .bool l, .slice a1 l1 c1]] W fun e w' => Puts W k f zs e w' := by
    intro W h
    have h2 := (pputData x0 x1 x2 u fi l a1 l1 c1 (zs.drop 12) W ((hrow.keep hba).reads.below h) (by have := HL.out; omega) (hx0 ▸ (natAt4 hz 0).1) (hx0 ▸ (natAt4 hz 0).2) (hx1 ▸ (natAt2 hz 4).1) (hx1 ▸ (natAt2 hz 4).2) (hx2 ▸ (natAt2 hz 6).1) (hx2 ▸ (natAt2 hz 6).2))
    simp only [hx0, hx1, hx2, hu, hfi, hl] at hpe
    obtain ⟨q1, q2, q3⟩ := hpe
    rw [← q3] at h2
    try rw [← q1] at h2
    try rw [← q2] at h2
    exact h2
  have hVr : Arr (w1.alloc (.cells #[.int .u32 x0, .int .u16 x1, .int .u16 x2, .bool u, .bool fi, .bool l, .slice a1 l1 c1] 26)) w1.heap.size 26 [.int .u32 x0, .int .u16 x1, .int .u16 x2, .bool u, .bool fi, .bool l, .slice a1 l1 c1] := arr_new _ _ _
  have hCr := HC0.out.keep hbn
  have HPUT := Lib.hid hHP
  have HVr := Lib.hid hVr
  have HCr := Lib.hid hCr
  clear hHP hVr hCr hpe hbn hba hbw hch hbx hrow hx0 hx1 hx2 hu hfi hl hl1
  go_wp2_with fail
  generalize (w1.alloc (.cells #[.int .u32 x0, .int .u16 x1, .int .u16 x2, .bool u, .bool fi, .bool l, .slice a1 l1 c1] 26)) = wr at HPUT HVr HCr HB1 ⊢
  generalize w1.heap.size = g at *
  clear d0 d1 d2
  have HRr := Lib.hid (show ∀ W, Below wr.heap.size wr W → Reads W p n zs from fun W h => HR0.out W (HB1.out.trans (h.mono HB1.out.size)))
  refine wp_region_any (by kernel_rfl) ?_
  refine Vals.wpAny_goodF (GoRegD w wr k f p n c zs g x0 x1 x2 u fi l a1 l1 c1) (fun _ => (fun W => Below wr.heap.size wr W)) [some 22, some 23, some 24, some 25, some 26, some 27, some 28, some 5] 115 _ _ rfl (by kernel_rfl) (by kernel_rfl) (by decide) ?step1 ?fin1 (Below.refl _ _).drew
  case step1 =>
    intro i o d ho hd listed a W hls hun hcl hJ hdf hdep hfr K hK
    match i, ho, hd with
    | 0, ho, hd =>
      have ho' := ho
      simp only [List.getElem?_toArray, List.getElem?_cons_zero, Option.some.injEq] at ho hd
      subst ho hd
      have r5 : a.eval (.tmp 5) = .bool true := hfr 5 (fun q hq => match q, hq with | 0, hq => by simp at hq | 1, hq => by simp at hq | 2, hq => by simp at hq | 3, hq => by simp at hq | 4, hq => by simp at hq | 5, hq => by simp at hq | 6, hq => by simp at hq | 7, _ => Vals.jnot hun (fun h => hcl 7 _ rfl h ⟨0, .phase⟩ (by simp) rfl) | q + 8, hq => by simp at hq)
      rw [Vals.eval_tmp] at r5
      refine Vals.wpOp_run ho' rfl ?_
      clear hdep hfr ho' hdf hcl
      go_simp
      exact hK _ _ (fun _ _ h => h) hJ (fun _ => rfl)
    | 1, ho, hd =>
      have ho' := ho
      simp only [List.getElem?_toArray, List.getElem?_cons_zero, List.getElem?_cons_succ, Option.some.injEq] at ho hd
      subst ho hd
      have r22 : a.eval (.tmp 22) = .bool true := (hdep ⟨0, .data⟩ (by simp) rfl).2 22 rfl
      rw [Vals.eval_tmp] at r22
      refine Vals.wpOp_run ho' rfl ?_
      clear hdep hfr ho' hdf hcl
      go_simp
      exact hK _ _ (fun _ _ h => h) hJ (fun _ => rfl)
    | 2, ho, hd =>
      have ho' := ho
      simp only [List.getElem?_toArray, List.getElem?_cons_zero, List.getElem?_cons_succ, Option.some.injEq] at ho hd
      subst ho hd
      have hgd : a.eval (.tmp 23) = .bool true := (hdep ⟨1, .guard⟩ (by simp) rfl).2 23 rfl
      have r6 : a.eval (.tmp 6) = .pointer (some ⟨g, 0, none⟩) := hfr 6 (fun q hq => absurd (List.mem_of_getElem? hq) (by decide))
      rw [Vals.eval_tmp] at r6
      have c0 := (HVr.out.keep hJ).cell (i := 0) rfl
      have c1 := (HVr.out.keep hJ).cell (i := 1) rfl
      have c2 := (HVr.out.keep hJ).cell (i := 2) rfl
      have c3 := (HVr.out.keep hJ).cell (i := 3) rfl
      have c4 := (HVr.out.keep hJ).cell (i := 4) rfl
      have c5 := (HVr.out.keep hJ).cell (i := 5) rfl
      have c6 := (HVr.out.keep hJ).cell (i := 6) rfl
      refine Vals.wpOp_run ho' (by unfold Region.wanted; simp only []; rw [Vals.yielded_of (d := 23) rfl hgd]; rfl) ?_
      clear hdep hfr ho' hdf hgd hcl
      go_simp
      exact hK _ _ (fun _ _ h => h) hJ (fun _ => rfl)
    | 3, ho, hd =>
      have ho' := ho
      simp only [List.getElem?_toArray, List.getElem?_cons_zero, List.getElem?_cons_succ, Option.some.injEq] at ho hd
      subst ho hd
      have hgd : a.eval (.tmp 23) = .bool true := (hdep ⟨1, .guard⟩ (by simp) rfl).2 23 rfl
      have r24 : a.eval (.tmp 24) = .agg #[.int .u32 x0, .int .u16 x1, .int .u16 x2, .bool u, .bool fi, .bool l, .slice a1 l1 c1] := (hdep ⟨2, .data⟩ (by simp) rfl).2 24 rfl
      rw [Vals.eval_tmp] at r24
      refine Vals.wpOp_run ho' (by unfold Region.wanted; simp only []; rw [Vals.yielded_of (d := 23) rfl hgd]; rfl) ?_
      clear hdep hfr ho' hdf hgd hcl
      go_simp
      refine (HPUT.out W hJ).mono ?_
      rintro e w' ⟨b1, e1, rfl, hb3, hr3⟩
      exact hK _ _ (GoRegD_mono hb3) (hJ.trans (hb3.mono hJ.size)) (fun _ => ⟨_, _, rfl, hr3.reads⟩)
    | 4, ho, hd =>
      have ho' := ho
      simp only [List.getElem?_toArray, List.getElem?_cons_zero, List.getElem?_cons_succ, Option.some.injEq] at ho hd
      subst ho hd
      have hgd : a.eval (.tmp 23) = .bool true := (hdep ⟨1, .guard⟩ (by simp) rfl).2 23 rfl
      have r1 : a.eval (.tmp 1) = .pointer (some ⟨w.heap.size, 0, none⟩) := hfr 1 (fun q hq => absurd (List.mem_of_getElem? hq) (by decide))
      rw [Vals.eval_tmp] at r1
      have c0 := (HCr.out.keep hJ).cell (i := 0) rfl
      have c1 := (HCr.out.keep hJ).cell (i := 1) rfl
      have c2 := (HCr.out.keep hJ).cell (i := 2) rfl
      refine Vals.wpOp_run ho' (by unfold Region.wanted; simp only []; rw [Vals.yielded_of (d := 23) rfl hgd]; rfl) ?_
      clear hdep hfr ho' hdf hgd hcl
      go_simp
      exact hK _ _ (fun _ _ h => h) hJ (fun _ => rfl)
    | 5, ho, hd =>
      have ho' := ho
      simp only [List.getElem?_toArray, List.getElem?_cons_zero, List.getElem?_cons_succ, Option.some.injEq] at ho hd
      subst ho hd
      have hgd : a.eval (.tmp 23) = .bool true := (hdep ⟨1, .guard⟩ (by simp) rfl).2 23 rfl
      have g25 : ∃ b1_25 e1_25, a.eval (.tmp 25) = .agg #[.int .u8 k, .int .u8 f, .slice b1_25 zs.length e1_25] ∧ Reads W b1_25 zs.length zs := (hdep ⟨3, .data⟩ (by simp) rfl).2 25 rfl
      rw [Vals.eval_tmp] at g25
      obtain ⟨b1_25, e1_25, r25, h25_0⟩ := g25
      have r26 : a.eval (.tmp 26) = .agg #[.int .u8 k, .int .u8 f, .slice p n c] := (hdep ⟨4, .data⟩ (by simp) rfl).2 26 rfl
      rw [Vals.eval_tmp] at r26
      refine Vals.wpOp_run ho' (by unfold Region.wanted; simp only []; rw [Vals.yielded_of (d := 23) rfl hgd]; rfl) ?_
      clear hdep hfr ho' hdf hgd hcl
      go_simp
      refine (rsame_yes k f b1_25 p zs.length n e1_25 c zs W h25_0 (HRr.out W hJ) hz (by have := (HRr.out W hJ).1; omega)).mono ?_
      rintro e w' ⟨rfl, hb3⟩
      exact hK _ _ (GoRegD_mono hb3) (hJ.trans (hb3.mono hJ.size)) (fun _ => rfl)
    | 6, ho, hd =>
      have ho' := ho
      simp only [List.getElem?_toArray, List.getElem?_cons_zero, List.getElem?_cons_succ, Option.some.injEq] at ho hd
      subst ho hd
      have r23 : a.eval (.tmp 23) = .bool true := (hdep ⟨1, .data⟩ (by simp) rfl).2 23 rfl
      rw [Vals.eval_tmp] at r23
      have r27 : a.eval (.tmp 27) = .bool true := (hdep ⟨5, .data⟩ (by simp) rfl).2 27 rfl
      rw [Vals.eval_tmp] at r27
      refine Vals.wpOp_run ho' rfl ?_
      clear hdep hfr ho' hdf hcl
      go_simp
      exact hK _ _ (fun _ _ h => h) hJ (fun _ => rfl)
    | 7, ho, hd =>
      have ho' := ho
      simp only [List.getElem?_toArray, List.getElem?_cons_zero, List.getElem?_cons_succ, Option.some.injEq] at ho hd
      subst ho hd
      have r28 : a.eval (.tmp 28) = .bool true := (hdep ⟨6, .data⟩ (by simp) rfl).2 28 rfl
      rw [Vals.eval_tmp] at r28
      refine Vals.wpOp_run ho' rfl ?_
      clear hdep hfr ho' hdf hcl
      go_simp
      exact hK _ _ (fun _ _ h => h) hJ (fun _ => rfl)
    | i + 8, ho, hd => simp at ho
  case fin1 =>
    intro listed W fq hall hJ hG
    have q0 : fq 22 = .bool true := hG 0 22 rfl
    have q1 : fq 23 = .bool true := hG 1 23 rfl
    have q2 : fq 24 = .agg #[.int .u32 x0, .int .u16 x1, .int .u16 x2, .bool u, .bool fi, .bool l, .slice a1 l1 c1] := hG 2 24 rfl
    obtain ⟨b1_25, e1_25, q3, hq25_0⟩ : ∃ b1_25 e1_25, fq 25 = .agg #[.int .u8 k, .int .u8 f, .slice b1_25 zs.length e1_25] ∧ Reads W b1_25 zs.length zs := hG 3 25 rfl
    have q4 : fq 26 = .agg #[.int .u8 k, .int .u8 f, .slice p n c] := hG 4 26 rfl
    have q5 : fq 27 = .bool true := hG 5 27 rfl
    have q6 : fq 28 = .bool true := hG 6 28 rfl
    have q7 : fq 5 = .bool true := hG 7 5 rfl
    clear hG hall
    simp only [Vals.puts, Vals.pairs, List.filterMap_cons, List.filterMap_nil, id, List.map_cons, List.map_nil, List.foldl_cons, List.foldl_nil, q0, q1, q2, q3, q4, q5, q6, q7]
    clear q0 q1 q2 q3 q4 q5 q6 q7
    go_frame
    have HBn1 := Lib.hid (HB1.out.trans (hJ.mono HB1.out.size))
    clear hJ HPUT HVr HCr HRr
    have d0 := (HC0.out.keep HBn1.out).cell (i := 0) rfl
    have d1 := (HC0.out.keep HBn1.out).cell (i := 1) rfl
    have d2 := (HC0.out.keep HBn1.out).cell (i := 2) rfl
    go_wp2_with fail
    refine (HGI.out _ HBn1.out).mono ?_
    rintro e w2 ⟨a1, c1, hch, hbx, hrow⟩
    obtain rfl : e = .returned (.tuple #[.agg #[.int .u32 0, .int .u32 0, .int .u16 0, .int .u16 0, .int .u32 0, .slice none 0 0], .int .i64 7]) := by
      rw [HOK.out.2.1] at hch
      rcases hch with ⟨h, _⟩ | ⟨_, h⟩
      · cases h
      · exact h
    have hbw := HBn1.out.trans (hbx.mono HBn1.out.size)
    have hba : Below w2.heap.size w2 (w2.alloc (.cells #[.int .u32 0, .int .u32 0, .int .u16 0, .int .u16 0, .int .u32 0, .slice none 0 0] 43)) := (Below.refl _ _).alloc (Nat.le_refl _) _
    have hbn := hbw.trans (hba.mono hbw.size)
    have HB2 := Lib.hid hbn
    clear d0 d1 d2
    have d0 := (HC0.out.keep hbn).cell (i := 0) rfl
    have d1 := (HC0.out.keep hbn).cell (i := 1) rfl
    have d2 := (HC0.out.keep hbn).cell (i := 2) rfl
    clear hbn hba hbw hch hbx hrow
    go_wp2_with fail
    refine (HGS.out _ HB2.out).mono ?_
    rintro e w3 ⟨a1, c1, a2, c2, hch, hbx, hrow, hrow2⟩
    obtain rfl : e = .returned (.tuple #[.agg #[.int .u32 0, .int .u32 0, .slice none 0 0, .slice none 0 0], .int .i64 7]) := by
      rw [HOK.out.2.2.1] at hch
      rcases hch with ⟨h, _⟩ | ⟨_, h⟩
      · cases h
      · exact h
    have hbw := HB2.out.trans (hbx.mono HB2.out.size)
    have hba : Below w3.heap.size w3 (w3.alloc (.cells #[.int .u32 0, .int .u32 0, .slice none 0 0, .slice none 0 0] 52)) := (Below.refl _ _).alloc (Nat.le_refl _) _
    have hbn := hbw.trans (hba.mono hbw.size)
    have HB3 := Lib.hid hbn
    clear d0 d1 d2
    have d0 := (HC0.out.keep hbn).cell (i := 0) rfl
    have d1 := (HC0.out.keep hbn).cell (i := 1) rfl
    have d2 := (HC0.out.keep hbn).cell (i := 2) rfl
    clear hbn hba hbw hch hbx hrow hrow2
    go_wp2_with fail
    refine (HGF.out _ HB3.out).mono ?_
    rintro e w4 ⟨a1, c1, hch, hbx, hrow⟩
    obtain rfl : e = .returned (.tuple #[.agg #[.int .u32 0, .slice none 0 0], .int .i64 7]) := by
      rw [HOK.out.2.2.2.1] at hch
      rcases hch with ⟨h, _⟩ | ⟨_, h⟩
      · cases h
      · exact h
    have hbw := HB3.out.trans (hbx.mono HB3.out.size)
    have hba : Below w4.heap.size w4 (w4.alloc (.cells #[.int .u32 0, .slice none 0 0] 56)) := (Below.refl _ _).alloc (Nat.le_refl _) _
    have hbn := hbw.trans (hba.mono hbw.size)
    have HB4 := Lib.hid hbn
    clear d0 d1 d2
    have d0 := (HC0.out.keep hbn).cell (i := 0) rfl
    have d1 := (HC0.out.keep hbn).cell (i := 1) rfl
    have d2 := (HC0.out.keep hbn).cell (i := 2) rfl
    clear hbn hba hbw hch hbx hrow
    go_wp2_with fail
    refine (HGT.out _ HB4.out).mono ?_
    rintro e w5 ⟨hch, hbx⟩
    obtain rfl := hch.int
    rw [HOK.out.2.2.2.2.1]
    have HB5 := Lib.hid (HB4.out.trans (hbx.mono HB4.out.size))
    clear hch hbx d0 d1 d2
    have d0 := (HC0.out.keep HB5.out).cell (i := 0) rfl
    have d1 := (HC0.out.keep HB5.out).cell (i := 1) rfl
    have d2 := (HC0.out.keep HB5.out).cell (i := 2) rfl
    simp only [Bool.false_eq_true, if_false]
    go_wp2_with fail
    refine (HGC.out _ HB5.out).mono ?_
    rintro e w6 ⟨hch, hbx⟩
    obtain rfl := hch.int
    rw [HOK.out.2.2.2.2.2]
    have HB6 := Lib.hid (HB5.out.trans (hbx.mono HB5.out.size))
    clear hch hbx d0 d1 d2
    have d0 := (HC0.out.keep HB6.out).cell (i := 0) rfl
    have d1 := (HC0.out.keep HB6.out).cell (i := 1) rfl
    have d2 := (HC0.out.keep HB6.out).cell (i := 2) rfl
    simp only [Bool.false_eq_true, if_false]
    go_wp2
    go_ret2
    exact ⟨rfl, HB0.out.1.trans (HB6.out.mono HB0.out.1.size)⟩

/-- What the operations of the drawn region leave behind. -/
def GoRegI (w wr : World) (k f : Int) (p : Option Addr) (n c : Nat) (zs : List Int) (g : Nat) (x0 x1 x2 x3 x4 : Int) (a1 : Option Addr) (l1 c1 : Nat) (i : Nat) (v : Value) (W : World) : Prop := match i with | 0 => v = .bool true | 1 => v = .bool true | 2 => v = .pointer (some ⟨w.heap.size, 0, none⟩) | 3 => v = .int .u8 k | 4 => v = .agg #[.int .u32 x0, .int .u32 x1, .int .u16 x2, .int .u16 x3, .int .u32 x4, .slice a1 l1 c1] | 5 => ∃ b1 e1, v = .agg #[.int .u8 k, .int .u8 f, .slice b1 zs.length e1] ∧ Reads W b1 zs.length zs | 6 => v = .agg #[.int .u8 k, .int .u8 f, .slice p n c] | 7 => v = .bool true | 8 => v = .bool true | 9 => v = .bool true | _ => True
theorem GoRegI_mono {w wr : World} {k f : Int} {p : Option Addr} {n c : Nat} {zs : List Int} {g : Nat} {x0 x1 x2 x3 x4 : Int} {a1 : Option Addr} {l1 c1 : Nat} {W W' : World} (hb : Below W.heap.size W W') (jo : Nat) (xo : Value) (h : GoRegI w wr k f p n c zs g x0 x1 x2 x3 x4 a1 l1 c1 jo xo W) : GoRegI w wr k f p n c zs g x0 x1 x2 x3 x4 a1 l1 c1 jo xo W' := by
  unfold GoRegI at h ⊢
  split at h <;> try exact h
  · obtain ⟨b1, e1, e0, h0_0⟩ := h
    exact ⟨b1, e1, e0, h0_0.below hb⟩

set_option maxRecDepth 100000 in
set_option maxHeartbeats 1600000 in
theorem got_I (k f : Int) (p : Option Addr) (n c : Nat) (zs : List Int) (w : World) (hr : Reads w p n zs) (hz : Byt zs) (hc : n ≤ c) (hn : n ≤ 200000) (hD : okData k f zs = false) (hI : okInit k f zs = true) (hS : okSack k f zs = false) (hF : okFwd k f zs = false) (hT : okTime k f zs = false) (hC : okCum k f zs = false) :
    Calls Try.prog 47 #[.agg #[.int .u8 k, .int .u8 f, .slice p n c]] w fun e w' => e = .returned (.tuple #[.int .i64 1, .bool true]) ∧ Below w.heap.size w w' := by
  obtain ⟨w0, hw0⟩ : ∃ w0, w.alloc (.cells #[.int .u8 k, .int .u8 f, .slice p n c] 28) = w0 := ⟨_, rfl⟩
  have hb0 : Below w.heap.size w w0 := by rw [← hw0]; exact chunkBelow _ _ _ _
  have hs0 : w0.heap.size = w.heap.size + 1 := by rw [← hw0]; simp
  have hC0 : Arr w0 w.heap.size 28 [.int .u8 k, .int .u8 f, .slice p n c] := by rw [← hw0]; exact chunkBox _ _ _ _
  have HC0 := Lib.hid hC0
  have HB0 := Lib.hid (And.intro hb0 hs0)
  have HR0 := Lib.hid (show ∀ W, Below w0.heap.size w0 W → Reads W p n zs from fun W h => (hr.below hb0).below h)
  have HL := Lib.hid hr.1
  have HGD := Lib.hid (show ∀ W, Below w0.heap.size w0 W → Calls Try.prog 16 #[.agg #[.int .u8 k, .int .u8 f, .slice p n c]] W (GotD W k f zs) from fun W h => pgetData k f p n c zs W (HR0.out W h) hz hc hn)
  have HGI := Lib.hid (show ∀ W, Below w0.heap.size w0 W → Calls Try.prog 24 #[.agg #[.int .u8 k, .int .u8 f, .slice p n c]] W (GotI W k f zs) from fun W h => pgetInit k f p n c zs W (HR0.out W h) hz hc hn)
  have HGS := Lib.hid (show ∀ W, Below w0.heap.size w0 W → Calls Try.prog 30 #[.agg #[.int .u8 k, .int .u8 f, .slice p n c]] W (GotS W (okSack k f zs) (natAt zs 0 4) (natAt zs 4 4) (sackG zs) (sackD zs)) from fun W h => pgetSack k f p n c zs W (HR0.out W h) hz hc hn)
  have HGF := Lib.hid (show ∀ W, Below w0.heap.size w0 W → Calls Try.prog 35 #[.agg #[.int .u8 k, .int .u8 f, .slice p n c]] W (GotF W (okFwd k f zs) (natAt zs 0 4) (pairsAt zs 4 ((zs.length - 4 + 3) / 4))) from fun W h => pgetForward k f p n c zs W (HR0.out W h) hz hc hn)
  have HGT := Lib.hid (show ∀ W, Below w0.heap.size w0 W → Calls Try.prog 39 #[.agg #[.int .u8 k, .int .u8 f, .slice p n c]] W (fun e w' => Chose (okTime k f zs) (.int .i64 (timeV zs)) (.int .i64 0) e ∧ Below W.heap.size W w') from fun W h => pgetTime k f p n c zs W (HR0.out W h) hz hc hn)
  have HGC := Lib.hid (show ∀ W, Below w0.heap.size w0 W → Calls Try.prog 41 #[.agg #[.int .u8 k, .int .u8 f, .slice p n c]] W (fun e w' => Chose (okCum k f zs) (.int .u32 (natAt zs 0 4)) (.int .u32 0) e ∧ Below W.heap.size W w') from fun W h => pgetCum k f p n c zs W (HR0.out W h) hz hc hn)
  have HOK := Lib.hid (And.intro hD (And.intro hI (And.intro hS (And.intro hF (And.intro hT hC)))))
  clear hb0 hC0 hr hD hI hS hF hT hC
  have d0 := HC0.out.cell (i := 0) rfl
  have d1 := HC0.out.cell (i := 1) rfl
  have d2 := HC0.out.cell (i := 2) rfl
  go_enter Try.func47, Try.ntmps47
  go_wp2_with fail
  refine (HGD.out _ (Below.refl w0.heap.size w0)).mono ?_
  rintro e w1 ⟨a1, c1, hch, hbx, hrow⟩
  obtain rfl : e = .returned (.tuple #[.agg #[.int .u32 0, .int .u16 0, .int .u16 0, .bool false, .bool false, .bool false, .slice none 0 0], .int .i64 7]) := by
    rw [HOK.out.1] at hch
    rcases hch with ⟨h, _⟩ | ⟨_, h⟩
    · cases h
    · exact h
  have hbw := (Below.refl w0.heap.size w0).trans (hbx.mono (Below.refl w0.heap.size w0).size)
  have hba : Below w1.heap.size w1 (w1.alloc (.cells #[.int .u32 0, .int .u16 0, .int .u16 0, .bool false, .bool false, .bool false, .slice none 0 0] 26)) := (Below.refl _ _).alloc (Nat.le_refl _) _
  have hbn := hbw.trans (hba.mono hbw.size)
  have HB1 := Lib.hid hbn
  clear d0 d1 d2
  have d0 := (HC0.out.keep hbn).cell (i := 0) rfl
  have d1 := (HC0.out.keep hbn).cell (i := 1) rfl
  have d2 := (HC0.out.keep hbn).cell (i := 2) rfl
  clear hbn hba hbw hch hbx hrow
  go_wp2_with fail
  refine (HGI.out _ HB1.out).mono ?_
  rintro e w2 ⟨a1, c1, hch, hbx, hrow⟩
  obtain ⟨x0, hx0⟩ : ∃ x, natAt zs 0 4 = x := ⟨_, rfl⟩
  obtain ⟨x1, hx1⟩ : ∃ x, natAt zs 4 4 = x := ⟨_, rfl⟩
  obtain ⟨x2, hx2⟩ : ∃ x, natAt zs 8 2 = x := ⟨_, rfl⟩
  obtain ⟨x3, hx3⟩ : ∃ x, natAt zs 10 2 = x := ⟨_, rfl⟩
  obtain ⟨x4, hx4⟩ : ∃ x, natAt zs 12 4 = x := ⟨_, rfl⟩
  obtain ⟨l1, hl1⟩ : ∃ x, (ckK k zs).length = x := ⟨_, rfl⟩
  rw [hl1] at hrow
  obtain rfl : e = .returned (.tuple #[.agg #[.int .u32 x0, .int .u32 x1, .int .u16 x2, .int .u16 x3, .int .u32 x4, .slice a1 l1 c1], .int .i64 0]) := by
    rw [HOK.out.2.1] at hch
    rcases hch with ⟨_, h⟩ | ⟨h, _⟩
    · rw [h]; simp only [initV, hx0, hx1, hx2, hx3, hx4, hl1]
    · cases h
  have hbw := HB1.out.trans (hbx.mono HB1.out.size)
  have hba : Below w2.heap.size w2 (w2.alloc (.cells #[.int .u32 x0, .int .u32 x1, .int .u16 x2, .int .u16 x3, .int .u32 x4, .slice a1 l1 c1] 43)) := (Below.refl _ _).alloc (Nat.le_refl _) _
  have hbn := hbw.trans (hba.mono hbw.size)
  have HB2 := Lib.hid hbn
  clear d0 d1 d2
  have d0 := (HC0.out.keep hbn).cell (i := 0) rfl
  have d1 := (HC0.out.keep hbn).cell (i := 1) rfl
  have d2 := (HC0.out.keep hbn).cell (i := 2) rfl
  have hpe := okInit_eq HOK.out.2.1
  have hHP : ∀ W, Below (w2.alloc (.cells #[.int .u32 x0, .int .u32 x1, .int .u16 x2, .int .u16 x3, .int .u32 x4, .slice a1 l1 c1] 43)).heap.size (w2.alloc (.cells #[.int .u32 x0, .int .u32 x1, .int .u16 x2, .int .u16 x3, .int .u32 x4, .slice a1 l1 c1] 43)) W → Calls Try.prog 23 #[.int .u8 k, .agg #[.int .u32 x0, .int .u32 x1, .int .u16 x2, .int .u16 x3, .int .u32 x4, .slice a1 l1 c1]] W fun e w' => Puts W k f zs e w' := by
    intro W h
    have h2 := (pputInit k x0 x1 x2 x3 x4 a1 l1 c1 (ckK k zs) W ((hrow.keep hba).reads.below h) (by have := ckK_len k zs; have := HL.out; omega) (hx0 ▸ (natAt4 hz 0).1) (hx0 ▸ (natAt4 hz 0).2) (hx1 ▸ (natAt4 hz 4).1) (hx1 ▸ (natAt4 hz 4).2) (hx2 ▸ (natAt2 hz 8).1) (hx2 ▸ (natAt2 hz 8).2) (hx3 ▸ (natAt2 hz 10).1) (hx3 ▸ (natAt2 hz 10).2) (hx4 ▸ (natAt4 hz 12).1) (hx4 ▸ (natAt4 hz 12).2))
    simp only [initBk, hx0, hx1, hx2, hx3, hx4] at hpe
    obtain ⟨q1, q2, q3⟩ := hpe
    rw [← q3] at h2
    try rw [← q2] at h2
    exact h2
  have hVr : Arr (w2.alloc (.cells #[.int .u32 x0, .int .u32 x1, .int .u16 x2, .int .u16 x3, .int .u32 x4, .slice a1 l1 c1] 43)) w2.heap.size 43 [.int .u32 x0, .int .u32 x1, .int .u16 x2, .int .u16 x3, .int .u32 x4, .slice a1 l1 c1] := arr_new _ _ _
  have hCr := HC0.out.keep hbn
  have HPUT := Lib.hid hHP
  have HVr := Lib.hid hVr
  have HCr := Lib.hid hCr
  clear hHP hVr hCr hpe hbn hba hbw hch hbx hrow hx0 hx1 hx2 hx3 hx4 hl1
  go_wp2_with fail
  generalize (w2.alloc (.cells #[.int .u32 x0, .int .u32 x1, .int .u16 x2, .int .u16 x3, .int .u32 x4, .slice a1 l1 c1] 43)) = wr at HPUT HVr HCr HB2 ⊢
  generalize w2.heap.size = g at *
  clear d0 d1 d2
  have HRr := Lib.hid (show ∀ W, Below wr.heap.size wr W → Reads W p n zs from fun W h => HR0.out W (HB2.out.trans (h.mono HB2.out.size)))
  refine wp_region_any (by kernel_rfl) ?_
  refine Vals.wpAny_goodF (GoRegI w wr k f p n c zs g x0 x1 x2 x3 x4 a1 l1 c1) (fun _ => (fun W => Below wr.heap.size wr W)) [some 38, some 39, some 40, some 41, some 42, some 43, some 44, some 45, some 46, some 5] 115 _ _ rfl (by kernel_rfl) (by kernel_rfl) (by decide) ?step2 ?fin2 (Below.refl _ _).drew
  case step2 =>
    intro i o d ho hd listed a W hls hun hcl hJ hdf hdep hfr K hK
    match i, ho, hd with
    | 0, ho, hd =>
      have ho' := ho
      simp only [List.getElem?_toArray, List.getElem?_cons_zero, Option.some.injEq] at ho hd
      subst ho hd
      have r5 : a.eval (.tmp 5) = .bool true := hfr 5 (fun q hq => match q, hq with | 0, hq => by simp at hq | 1, hq => by simp at hq | 2, hq => by simp at hq | 3, hq => by simp at hq | 4, hq => by simp at hq | 5, hq => by simp at hq | 6, hq => by simp at hq | 7, hq => by simp at hq | 8, hq => by simp at hq | 9, _ => Vals.jnot hun (fun h => hcl 9 _ rfl h ⟨0, .phase⟩ (by simp) rfl) | q + 10, hq => by simp at hq)
      rw [Vals.eval_tmp] at r5
      refine Vals.wpOp_run ho' rfl ?_
      clear hdep hfr ho' hdf hcl
      go_simp
      exact hK _ _ (fun _ _ h => h) hJ (fun _ => rfl)
    | 1, ho, hd =>
      have ho' := ho
      simp only [List.getElem?_toArray, List.getElem?_cons_zero, List.getElem?_cons_succ, Option.some.injEq] at ho hd
      subst ho hd
      have r38 : a.eval (.tmp 38) = .bool true := (hdep ⟨0, .data⟩ (by simp) rfl).2 38 rfl
      rw [Vals.eval_tmp] at r38
      refine Vals.wpOp_run ho' rfl ?_
      clear hdep hfr ho' hdf hcl
      go_simp
      exact hK _ _ (fun _ _ h => h) hJ (fun _ => rfl)
    | 2, ho, hd =>
      have ho' := ho
      simp only [List.getElem?_toArray, List.getElem?_cons_zero, List.getElem?_cons_succ, Option.some.injEq] at ho hd
      subst ho hd
      have hgd : a.eval (.tmp 39) = .bool true := (hdep ⟨1, .guard⟩ (by simp) rfl).2 39 rfl
      have r1 : a.eval (.tmp 1) = .pointer (some ⟨w.heap.size, 0, none⟩) := hfr 1 (fun q hq => absurd (List.mem_of_getElem? hq) (by decide))
      rw [Vals.eval_tmp] at r1
      refine Vals.wpOp_run ho' (by unfold Region.wanted; simp only []; rw [Vals.yielded_of (d := 39) rfl hgd]; rfl) ?_
      clear hdep hfr ho' hdf hgd hcl
      go_simp
      exact hK _ _ (fun _ _ h => h) hJ (fun _ => rfl)
    | 3, ho, hd =>
      have ho' := ho
      simp only [List.getElem?_toArray, List.getElem?_cons_zero, List.getElem?_cons_succ, Option.some.injEq] at ho hd
      subst ho hd
      have hgd : a.eval (.tmp 39) = .bool true := (hdep ⟨1, .guard⟩ (by simp) rfl).2 39 rfl
      have r40 : a.eval (.tmp 40) = .pointer (some ⟨w.heap.size, 0, none⟩) := (hdep ⟨2, .data⟩ (by simp) rfl).2 40 rfl
      rw [Vals.eval_tmp] at r40
      have c0 := (HCr.out.keep hJ).cell (i := 0) rfl
      refine Vals.wpOp_run ho' (by unfold Region.wanted; simp only []; rw [Vals.yielded_of (d := 39) rfl hgd]; rfl) ?_
      clear hdep hfr ho' hdf hgd hcl
      go_simp
      exact hK _ _ (fun _ _ h => h) hJ (fun _ => rfl)
    | 4, ho, hd =>
      have ho' := ho
      simp only [List.getElem?_toArray, List.getElem?_cons_zero, List.getElem?_cons_succ, Option.some.injEq] at ho hd
      subst ho hd
      have hgd : a.eval (.tmp 39) = .bool true := (hdep ⟨1, .guard⟩ (by simp) rfl).2 39 rfl
      have r8 : a.eval (.tmp 8) = .pointer (some ⟨g, 0, none⟩) := hfr 8 (fun q hq => absurd (List.mem_of_getElem? hq) (by decide))
      rw [Vals.eval_tmp] at r8
      have c0 := (HVr.out.keep hJ).cell (i := 0) rfl
      have c1 := (HVr.out.keep hJ).cell (i := 1) rfl
      have c2 := (HVr.out.keep hJ).cell (i := 2) rfl
      have c3 := (HVr.out.keep hJ).cell (i := 3) rfl
      have c4 := (HVr.out.keep hJ).cell (i := 4) rfl
      have c5 := (HVr.out.keep hJ).cell (i := 5) rfl
      refine Vals.wpOp_run ho' (by unfold Region.wanted; simp only []; rw [Vals.yielded_of (d := 39) rfl hgd]; rfl) ?_
      clear hdep hfr ho' hdf hgd hcl
      go_simp
      exact hK _ _ (fun _ _ h => h) hJ (fun _ => rfl)
    | 5, ho, hd =>
      have ho' := ho
      simp only [List.getElem?_toArray, List.getElem?_cons_zero, List.getElem?_cons_succ, Option.some.injEq] at ho hd
      subst ho hd
      have hgd : a.eval (.tmp 39) = .bool true := (hdep ⟨1, .guard⟩ (by simp) rfl).2 39 rfl
      have r41 : a.eval (.tmp 41) = .int .u8 k := (hdep ⟨3, .data⟩ (by simp) rfl).2 41 rfl
      rw [Vals.eval_tmp] at r41
      have r42 : a.eval (.tmp 42) = .agg #[.int .u32 x0, .int .u32 x1, .int .u16 x2, .int .u16 x3, .int .u32 x4, .slice a1 l1 c1] := (hdep ⟨4, .data⟩ (by simp) rfl).2 42 rfl
      rw [Vals.eval_tmp] at r42
      refine Vals.wpOp_run ho' (by unfold Region.wanted; simp only []; rw [Vals.yielded_of (d := 39) rfl hgd]; rfl) ?_
      clear hdep hfr ho' hdf hgd hcl
      go_simp
      refine (HPUT.out W hJ).mono ?_
      rintro e w' ⟨b1, e1, rfl, hb3, hr3⟩
      exact hK _ _ (GoRegI_mono hb3) (hJ.trans (hb3.mono hJ.size)) (fun _ => ⟨_, _, rfl, hr3.reads⟩)
    | 6, ho, hd =>
      have ho' := ho
      simp only [List.getElem?_toArray, List.getElem?_cons_zero, List.getElem?_cons_succ, Option.some.injEq] at ho hd
      subst ho hd
      have hgd : a.eval (.tmp 39) = .bool true := (hdep ⟨1, .guard⟩ (by simp) rfl).2 39 rfl
      have r1 : a.eval (.tmp 1) = .pointer (some ⟨w.heap.size, 0, none⟩) := hfr 1 (fun q hq => absurd (List.mem_of_getElem? hq) (by decide))
      rw [Vals.eval_tmp] at r1
      have c0 := (HCr.out.keep hJ).cell (i := 0) rfl
      have c1 := (HCr.out.keep hJ).cell (i := 1) rfl
      have c2 := (HCr.out.keep hJ).cell (i := 2) rfl
      refine Vals.wpOp_run ho' (by unfold Region.wanted; simp only []; rw [Vals.yielded_of (d := 39) rfl hgd]; rfl) ?_
      clear hdep hfr ho' hdf hgd hcl
      go_simp
      exact hK _ _ (fun _ _ h => h) hJ (fun _ => rfl)
    | 7, ho, hd =>
      have ho' := ho
      simp only [List.getElem?_toArray, List.getElem?_cons_zero, List.getElem?_cons_succ, Option.some.injEq] at ho hd
      subst ho hd
      have hgd : a.eval (.tmp 39) = .bool true := (hdep ⟨1, .guard⟩ (by simp) rfl).2 39 rfl
      have g43 : ∃ b1_43 e1_43, a.eval (.tmp 43) = .agg #[.int .u8 k, .int .u8 f, .slice b1_43 zs.length e1_43] ∧ Reads W b1_43 zs.length zs := (hdep ⟨5, .data⟩ (by simp) rfl).2 43 rfl
      rw [Vals.eval_tmp] at g43
      obtain ⟨b1_43, e1_43, r43, h43_0⟩ := g43
      have r44 : a.eval (.tmp 44) = .agg #[.int .u8 k, .int .u8 f, .slice p n c] := (hdep ⟨6, .data⟩ (by simp) rfl).2 44 rfl
      rw [Vals.eval_tmp] at r44
      refine Vals.wpOp_run ho' (by unfold Region.wanted; simp only []; rw [Vals.yielded_of (d := 39) rfl hgd]; rfl) ?_
      clear hdep hfr ho' hdf hgd hcl
      go_simp
      refine (rsame_yes k f b1_43 p zs.length n e1_43 c zs W h43_0 (HRr.out W hJ) hz (by have := (HRr.out W hJ).1; omega)).mono ?_
      rintro e w' ⟨rfl, hb3⟩
      exact hK _ _ (GoRegI_mono hb3) (hJ.trans (hb3.mono hJ.size)) (fun _ => rfl)
    | 8, ho, hd =>
      have ho' := ho
      simp only [List.getElem?_toArray, List.getElem?_cons_zero, List.getElem?_cons_succ, Option.some.injEq] at ho hd
      subst ho hd
      have r39 : a.eval (.tmp 39) = .bool true := (hdep ⟨1, .data⟩ (by simp) rfl).2 39 rfl
      rw [Vals.eval_tmp] at r39
      have r45 : a.eval (.tmp 45) = .bool true := (hdep ⟨7, .data⟩ (by simp) rfl).2 45 rfl
      rw [Vals.eval_tmp] at r45
      refine Vals.wpOp_run ho' rfl ?_
      clear hdep hfr ho' hdf hcl
      go_simp
      exact hK _ _ (fun _ _ h => h) hJ (fun _ => rfl)
    | 9, ho, hd =>
      have ho' := ho
      simp only [List.getElem?_toArray, List.getElem?_cons_zero, List.getElem?_cons_succ, Option.some.injEq] at ho hd
      subst ho hd
      have r46 : a.eval (.tmp 46) = .bool true := (hdep ⟨8, .data⟩ (by simp) rfl).2 46 rfl
      rw [Vals.eval_tmp] at r46
      refine Vals.wpOp_run ho' rfl ?_
      clear hdep hfr ho' hdf hcl
      go_simp
      exact hK _ _ (fun _ _ h => h) hJ (fun _ => rfl)
    | i + 10, ho, hd => simp at ho
  case fin2 =>
    intro listed W fq hall hJ hG
    have q0 : fq 38 = .bool true := hG 0 38 rfl
    have q1 : fq 39 = .bool true := hG 1 39 rfl
    have q2 : fq 40 = .pointer (some ⟨w.heap.size, 0, none⟩) := hG 2 40 rfl
    have q3 : fq 41 = .int .u8 k := hG 3 41 rfl
    have q4 : fq 42 = .agg #[.int .u32 x0, .int .u32 x1, .int .u16 x2, .int .u16 x3, .int .u32 x4, .slice a1 l1 c1] := hG 4 42 rfl
    obtain ⟨b1_43, e1_43, q5, hq43_0⟩ : ∃ b1_43 e1_43, fq 43 = .agg #[.int .u8 k, .int .u8 f, .slice b1_43 zs.length e1_43] ∧ Reads W b1_43 zs.length zs := hG 5 43 rfl
    have q6 : fq 44 = .agg #[.int .u8 k, .int .u8 f, .slice p n c] := hG 6 44 rfl
    have q7 : fq 45 = .bool true := hG 7 45 rfl
    have q8 : fq 46 = .bool true := hG 8 46 rfl
    have q9 : fq 5 = .bool true := hG 9 5 rfl
    clear hG hall
    simp only [Vals.puts, Vals.pairs, List.filterMap_cons, List.filterMap_nil, id, List.map_cons, List.map_nil, List.foldl_cons, List.foldl_nil, q0, q1, q2, q3, q4, q5, q6, q7, q8, q9]
    clear q0 q1 q2 q3 q4 q5 q6 q7 q8 q9
    go_frame
    have HBn2 := Lib.hid (HB2.out.trans (hJ.mono HB2.out.size))
    clear hJ HPUT HVr HCr HRr
    have d0 := (HC0.out.keep HBn2.out).cell (i := 0) rfl
    have d1 := (HC0.out.keep HBn2.out).cell (i := 1) rfl
    have d2 := (HC0.out.keep HBn2.out).cell (i := 2) rfl
    go_wp2_with fail
    refine (HGS.out _ HBn2.out).mono ?_
    rintro e w3 ⟨a1, c1, a2, c2, hch, hbx, hrow, hrow2⟩
    obtain rfl : e = .returned (.tuple #[.agg #[.int .u32 0, .int .u32 0, .slice none 0 0, .slice none 0 0], .int .i64 7]) := by
      rw [HOK.out.2.2.1] at hch
      rcases hch with ⟨h, _⟩ | ⟨_, h⟩
      · cases h
      · exact h
    have hbw := HBn2.out.trans (hbx.mono HBn2.out.size)
    have hba : Below w3.heap.size w3 (w3.alloc (.cells #[.int .u32 0, .int .u32 0, .slice none 0 0, .slice none 0 0] 52)) := (Below.refl _ _).alloc (Nat.le_refl _) _
    have hbn := hbw.trans (hba.mono hbw.size)
    have HB3 := Lib.hid hbn
    clear d0 d1 d2
    have d0 := (HC0.out.keep hbn).cell (i := 0) rfl
    have d1 := (HC0.out.keep hbn).cell (i := 1) rfl
    have d2 := (HC0.out.keep hbn).cell (i := 2) rfl
    clear hbn hba hbw hch hbx hrow hrow2
    go_wp2_with fail
    refine (HGF.out _ HB3.out).mono ?_
    rintro e w4 ⟨a1, c1, hch, hbx, hrow⟩
    obtain rfl : e = .returned (.tuple #[.agg #[.int .u32 0, .slice none 0 0], .int .i64 7]) := by
      rw [HOK.out.2.2.2.1] at hch
      rcases hch with ⟨h, _⟩ | ⟨_, h⟩
      · cases h
      · exact h
    have hbw := HB3.out.trans (hbx.mono HB3.out.size)
    have hba : Below w4.heap.size w4 (w4.alloc (.cells #[.int .u32 0, .slice none 0 0] 56)) := (Below.refl _ _).alloc (Nat.le_refl _) _
    have hbn := hbw.trans (hba.mono hbw.size)
    have HB4 := Lib.hid hbn
    clear d0 d1 d2
    have d0 := (HC0.out.keep hbn).cell (i := 0) rfl
    have d1 := (HC0.out.keep hbn).cell (i := 1) rfl
    have d2 := (HC0.out.keep hbn).cell (i := 2) rfl
    clear hbn hba hbw hch hbx hrow
    go_wp2_with fail
    refine (HGT.out _ HB4.out).mono ?_
    rintro e w5 ⟨hch, hbx⟩
    obtain rfl := hch.int
    rw [HOK.out.2.2.2.2.1]
    have HB5 := Lib.hid (HB4.out.trans (hbx.mono HB4.out.size))
    clear hch hbx d0 d1 d2
    have d0 := (HC0.out.keep HB5.out).cell (i := 0) rfl
    have d1 := (HC0.out.keep HB5.out).cell (i := 1) rfl
    have d2 := (HC0.out.keep HB5.out).cell (i := 2) rfl
    simp only [Bool.false_eq_true, if_false]
    go_wp2_with fail
    refine (HGC.out _ HB5.out).mono ?_
    rintro e w6 ⟨hch, hbx⟩
    obtain rfl := hch.int
    rw [HOK.out.2.2.2.2.2]
    have HB6 := Lib.hid (HB5.out.trans (hbx.mono HB5.out.size))
    clear hch hbx d0 d1 d2
    have d0 := (HC0.out.keep HB6.out).cell (i := 0) rfl
    have d1 := (HC0.out.keep HB6.out).cell (i := 1) rfl
    have d2 := (HC0.out.keep HB6.out).cell (i := 2) rfl
    simp only [Bool.false_eq_true, if_false]
    go_wp2
    go_ret2
    exact ⟨rfl, HB0.out.1.trans (HB6.out.mono HB0.out.1.size)⟩

/-- What the operations of the drawn region leave behind. -/
def GoRegS (w wr : World) (k f : Int) (p : Option Addr) (n c : Nat) (zs : List Int) (g : Nat) (x0 x1 : Int) (a1 : Option Addr) (l1 c1 : Nat) (a2 : Option Addr) (l2 c2 : Nat) (i : Nat) (v : Value) (W : World) : Prop := match i with | 0 => v = .bool true | 1 => v = .bool true | 2 => v = .agg #[.int .u32 x0, .int .u32 x1, .slice a1 l1 c1, .slice a2 l2 c2] | 3 => ∃ b1 e1, v = .agg #[.int .u8 k, .int .u8 f, .slice b1 zs.length e1] ∧ Reads W b1 zs.length zs | 4 => v = .agg #[.int .u8 k, .int .u8 f, .slice p n c] | 5 => v = .bool true | 6 => v = .bool true | 7 => v = .bool true | _ => True
theorem GoRegS_mono {w wr : World} {k f : Int} {p : Option Addr} {n c : Nat} {zs : List Int} {g : Nat} {x0 x1 : Int} {a1 : Option Addr} {l1 c1 : Nat} {a2 : Option Addr} {l2 c2 : Nat} {W W' : World} (hb : Below W.heap.size W W') (jo : Nat) (xo : Value) (h : GoRegS w wr k f p n c zs g x0 x1 a1 l1 c1 a2 l2 c2 jo xo W) : GoRegS w wr k f p n c zs g x0 x1 a1 l1 c1 a2 l2 c2 jo xo W' := by
  unfold GoRegS at h ⊢
  split at h <;> try exact h
  · obtain ⟨b1, e1, e0, h0_0⟩ := h
    exact ⟨b1, e1, e0, h0_0.below hb⟩

set_option maxRecDepth 100000 in
set_option maxHeartbeats 1600000 in
theorem got_S (k f : Int) (p : Option Addr) (n c : Nat) (zs : List Int) (w : World) (hr : Reads w p n zs) (hz : Byt zs) (hc : n ≤ c) (hn : n ≤ 200000) (hD : okData k f zs = false) (hI : okInit k f zs = false) (hS : okSack k f zs = true) (hF : okFwd k f zs = false) (hT : okTime k f zs = false) (hC : okCum k f zs = false) :
    Calls Try.prog 47 #[.agg #[.int .u8 k, .int .u8 f, .slice p n c]] w fun e w' => e = .returned (.tuple #[.int .i64 1, .bool true]) ∧ Below w.heap.size w w' := by
  obtain ⟨w0, hw0⟩ : ∃ w0, w.alloc (.cells #[.int .u8 k, .int .u8 f, .slice p n c] 28) = w0 := ⟨_, rfl⟩
  have hb0 : Below w.heap.size w w0 := by rw [← hw0]; exact chunkBelow _ _ _ _
  have hs0 : w0.heap.size = w.heap.size + 1 := by rw [← hw0]; simp
  have hC0 : Arr w0 w.heap.size 28 [.int .u8 k, .int .u8 f, .slice p n c] := by rw [← hw0]; exact chunkBox _ _ _ _
  have HC0 := Lib.hid hC0
  have HB0 := Lib.hid (And.intro hb0 hs0)
  have HR0 := Lib.hid (show ∀ W, Below w0.heap.size w0 W → Reads W p n zs from fun W h => (hr.below hb0).below h)
  have HL := Lib.hid hr.1
  have HGD := Lib.hid (show ∀ W, Below w0.heap.size w0 W → Calls Try.prog 16 #[.agg #[.int .u8 k, .int .u8 f, .slice p n c]] W (GotD W k f zs) from fun W h => pgetData k f p n c zs W (HR0.out W h) hz hc hn)
  have HGI := Lib.hid (show ∀ W, Below w0.heap.size w0 W → Calls Try.prog 24 #[.agg #[.int .u8 k, .int .u8 f, .slice p n c]] W (GotI W k f zs) from fun W h => pgetInit k f p n c zs W (HR0.out W h) hz hc hn)
  have HGS := Lib.hid (show ∀ W, Below w0.heap.size w0 W → Calls Try.prog 30 #[.agg #[.int .u8 k, .int .u8 f, .slice p n c]] W (GotS W (okSack k f zs) (natAt zs 0 4) (natAt zs 4 4) (sackG zs) (sackD zs)) from fun W h => pgetSack k f p n c zs W (HR0.out W h) hz hc hn)
  have HGF := Lib.hid (show ∀ W, Below w0.heap.size w0 W → Calls Try.prog 35 #[.agg #[.int .u8 k, .int .u8 f, .slice p n c]] W (GotF W (okFwd k f zs) (natAt zs 0 4) (pairsAt zs 4 ((zs.length - 4 + 3) / 4))) from fun W h => pgetForward k f p n c zs W (HR0.out W h) hz hc hn)
  have HGT := Lib.hid (show ∀ W, Below w0.heap.size w0 W → Calls Try.prog 39 #[.agg #[.int .u8 k, .int .u8 f, .slice p n c]] W (fun e w' => Chose (okTime k f zs) (.int .i64 (timeV zs)) (.int .i64 0) e ∧ Below W.heap.size W w') from fun W h => pgetTime k f p n c zs W (HR0.out W h) hz hc hn)
  have HGC := Lib.hid (show ∀ W, Below w0.heap.size w0 W → Calls Try.prog 41 #[.agg #[.int .u8 k, .int .u8 f, .slice p n c]] W (fun e w' => Chose (okCum k f zs) (.int .u32 (natAt zs 0 4)) (.int .u32 0) e ∧ Below W.heap.size W w') from fun W h => pgetCum k f p n c zs W (HR0.out W h) hz hc hn)
  have HOK := Lib.hid (And.intro hD (And.intro hI (And.intro hS (And.intro hF (And.intro hT hC)))))
  clear hb0 hC0 hr hD hI hS hF hT hC
  have d0 := HC0.out.cell (i := 0) rfl
  have d1 := HC0.out.cell (i := 1) rfl
  have d2 := HC0.out.cell (i := 2) rfl
  go_enter Try.func47, Try.ntmps47
  go_wp2_with fail
  refine (HGD.out _ (Below.refl w0.heap.size w0)).mono ?_
  rintro e w1 ⟨a1, c1, hch, hbx, hrow⟩
  obtain rfl : e = .returned (.tuple #[.agg #[.int .u32 0, .int .u16 0, .int .u16 0, .bool false, .bool false, .bool false, .slice none 0 0], .int .i64 7]) := by
    rw [HOK.out.1] at hch
    rcases hch with ⟨h, _⟩ | ⟨_, h⟩
    · cases h
    · exact h
  have hbw := (Below.refl w0.heap.size w0).trans (hbx.mono (Below.refl w0.heap.size w0).size)
  have hba : Below w1.heap.size w1 (w1.alloc (.cells #[.int .u32 0, .int .u16 0, .int .u16 0, .bool false, .bool false, .bool false, .slice none 0 0] 26)) := (Below.refl _ _).alloc (Nat.le_refl _) _
  have hbn := hbw.trans (hba.mono hbw.size)
  have HB1 := Lib.hid hbn
  clear d0 d1 d2
  have d0 := (HC0.out.keep hbn).cell (i := 0) rfl
  have d1 := (HC0.out.keep hbn).cell (i := 1) rfl
  have d2 := (HC0.out.keep hbn).cell (i := 2) rfl
  clear hbn hba hbw hch hbx hrow
  go_wp2_with fail
  refine (HGI.out _ HB1.out).mono ?_
  rintro e w2 ⟨a1, c1, hch, hbx, hrow⟩
  obtain rfl : e = .returned (.tuple #[.agg #[.int .u32 0, .int .u32 0, .int .u16 0, .int .u16 0, .int .u32 0, .slice none 0 0], .int .i64 7]) := by
    rw [HOK.out.2.1] at hch
    rcases hch with ⟨h, _⟩ | ⟨_, h⟩
    · cases h
    · exact h
  have hbw := HB1.out.trans (hbx.mono HB1.out.size)
  have hba : Below w2.heap.size w2 (w2.alloc (.cells #[.int .u32 0, .int .u32 0, .int .u16 0, .int .u16 0, .int .u32 0, .slice none 0 0] 43)) := (Below.refl _ _).alloc (Nat.le_refl _) _
  have hbn := hbw.trans (hba.mono hbw.size)
  have HB2 := Lib.hid hbn
  clear d0 d1 d2
  have d0 := (HC0.out.keep hbn).cell (i := 0) rfl
  have d1 := (HC0.out.keep hbn).cell (i := 1) rfl
  have d2 := (HC0.out.keep hbn).cell (i := 2) rfl
  clear hbn hba hbw hch hbx hrow
  go_wp2_with fail
  refine (HGS.out _ HB2.out).mono ?_
  rintro e w3 ⟨a1, c1, a2, c2, hch, hbx, hrow, hrow2⟩
  obtain ⟨x0, hx0⟩ : ∃ x, natAt zs 0 4 = x := ⟨_, rfl⟩
  obtain ⟨x1, hx1⟩ : ∃ x, natAt zs 4 4 = x := ⟨_, rfl⟩
  obtain ⟨l1, hl1⟩ : ∃ x, (sackG zs).length = x := ⟨_, rfl⟩
  obtain ⟨l2, hl2⟩ : ∃ x, (sackD zs).length = x := ⟨_, rfl⟩
  rw [hl1] at hrow
  rw [hl2] at hrow2
  obtain rfl : e = .returned (.tuple #[.agg #[.int .u32 x0, .int .u32 x1, .slice a1 l1 c1, .slice a2 l2 c2], .int .i64 0]) := by
    rw [HOK.out.2.2.1] at hch
    rcases hch with ⟨_, h⟩ | ⟨h, _⟩
    · rw [h]; simp only [hx0, hx1, hl1, hl2]
    · cases h
  have hbw := HB2.out.trans (hbx.mono HB2.out.size)
  have hba : Below w3.heap.size w3 (w3.alloc (.cells #[.int .u32 x0, .int .u32 x1, .slice a1 l1 c1, .slice a2 l2 c2] 52)) := (Below.refl _ _).alloc (Nat.le_refl _) _
  have hbn := hbw.trans (hba.mono hbw.size)
  have HB3 := Lib.hid hbn
  clear d0 d1 d2
  have d0 := (HC0.out.keep hbn).cell (i := 0) rfl
  have d1 := (HC0.out.keep hbn).cell (i := 1) rfl
  have d2 := (HC0.out.keep hbn).cell (i := 2) rfl
  have hpe := okSack_eq HOK.out.2.2.1
  have hHP : ∀ W, Below (w3.alloc (.cells #[.int .u32 x0, .int .u32 x1, .slice a1 l1 c1, .slice a2 l2 c2] 52)).heap.size (w3.alloc (.cells #[.int .u32 x0, .int .u32 x1, .slice a1 l1 c1, .slice a2 l2 c2] 52)) W → Calls Try.prog 29 #[.agg #[.int .u32 x0, .int .u32 x1, .slice a1 l1 c1, .slice a2 l2 c2]] W fun e w' => Puts W k f zs e w' := by
    intro W h
    have h2 := (pputSack x0 x1 a1 l1 c1 (sackG zs) a2 l2 c2 (sackD zs) W ((hrow.below hba (Nat.le_refl _)).below h (Nat.le_refl _)) ((hrow2.below hba (Nat.le_refl _)).below h (Nat.le_refl _)) (by have := sackG_len zs; have := HL.out; omega) (by have := sackD_len zs; have := HL.out; omega) (hx0 ▸ (natAt4 hz 0).1) (hx0 ▸ (natAt4 hz 0).2) (hx1 ▸ (natAt4 hz 4).1) (hx1 ▸ (natAt4 hz 4).2))
    simp only [hx0, hx1] at hpe
    obtain ⟨q1, q2, q3⟩ := hpe
    rw [← q3] at h2
    try rw [← q1] at h2
    try rw [← q2] at h2
    exact h2
  have hVr : Arr (w3.alloc (.cells #[.int .u32 x0, .int .u32 x1, .slice a1 l1 c1, .slice a2 l2 c2] 52)) w3.heap.size 52 [.int .u32 x0, .int .u32 x1, .slice a1 l1 c1, .slice a2 l2 c2] := arr_new _ _ _
  have hCr := HC0.out.keep hbn
  have HPUT := Lib.hid hHP
  have HVr := Lib.hid hVr
  have HCr := Lib.hid hCr
  clear hHP hVr hCr hpe hbn hba hbw hch hbx hrow hrow2 hx0 hx1 hl1 hl2
  go_wp2_with fail
  generalize (w3.alloc (.cells #[.int .u32 x0, .int .u32 x1, .slice a1 l1 c1, .slice a2 l2 c2] 52)) = wr at HPUT HVr HCr HB3 ⊢
  generalize w3.heap.size = g at *
  clear d0 d1 d2
  have HRr := Lib.hid (show ∀ W, Below wr.heap.size wr W → Reads W p n zs from fun W h => HR0.out W (HB3.out.trans (h.mono HB3.out.size)))
  refine wp_region_any (by kernel_rfl) ?_
  refine Vals.wpAny_goodF (GoRegS w wr k f p n c zs g x0 x1 a1 l1 c1 a2 l2 c2) (fun _ => (fun W => Below wr.heap.size wr W)) [some 56, some 57, some 58, some 59, some 60, some 61, some 62, some 5] 115 _ _ rfl (by kernel_rfl) (by kernel_rfl) (by decide) ?step3 ?fin3 (Below.refl _ _).drew
  case step3 =>
    intro i o d ho hd listed a W hls hun hcl hJ hdf hdep hfr K hK
    match i, ho, hd with
    | 0, ho, hd =>
      have ho' := ho
      simp only [List.getElem?_toArray, List.getElem?_cons_zero, Option.some.injEq] at ho hd
      subst ho hd
      have r5 : a.eval (.tmp 5) = .bool true := hfr 5 (fun q hq => match q, hq with | 0, hq => by simp at hq | 1, hq => by simp at hq | 2, hq => by simp at hq | 3, hq => by simp at hq | 4, hq => by simp at hq | 5, hq => by simp at hq | 6, hq => by simp at hq | 7, _ => Vals.jnot hun (fun h => hcl 7 _ rfl h ⟨0, .phase⟩ (by simp) rfl) | q + 8, hq => by simp at hq)
      rw [Vals.eval_tmp] at r5
      refine Vals.wpOp_run ho' rfl ?_
      clear hdep hfr ho' hdf hcl
      go_simp
      exact hK _ _ (fun _ _ h => h) hJ (fun _ => rfl)
    | 1, ho, hd =>
      have ho' := ho
      simp only [List.getElem?_toArray, List.getElem?_cons_zero, List.getElem?_cons_succ, Option.some.injEq] at ho hd
      subst ho hd
      have r56 : a.eval (.tmp 56) = .bool true := (hdep ⟨0, .data⟩ (by simp) rfl).2 56 rfl
      rw [Vals.eval_tmp] at r56
      refine Vals.wpOp_run ho' rfl ?_
      clear hdep hfr ho' hdf hcl
      go_simp
      exact hK _ _ (fun _ _ h => h) hJ (fun _ => rfl)
    | 2, ho, hd =>
      have ho' := ho
      simp only [List.getElem?_toArray, List.getElem?_cons_zero, List.getElem?_cons_succ, Option.some.injEq] at ho hd
      subst ho hd
      have hgd : a.eval (.tmp 57) = .bool true := (hdep ⟨1, .guard⟩ (by simp) rfl).2 57 rfl
      have r9 : a.eval (.tmp 9) = .pointer (some ⟨g, 0, none⟩) := hfr 9 (fun q hq => absurd (List.mem_of_getElem? hq) (by decide))
      rw [Vals.eval_tmp] at r9
      have c0 := (HVr.out.keep hJ).cell (i := 0) rfl
      have c1 := (HVr.out.keep hJ).cell (i := 1) rfl
      have c2 := (HVr.out.keep hJ).cell (i := 2) rfl
      have c3 := (HVr.out.keep hJ).cell (i := 3) rfl
      refine Vals.wpOp_run ho' (by unfold Region.wanted; simp only []; rw [Vals.yielded_of (d := 57) rfl hgd]; rfl) ?_
      clear hdep hfr ho' hdf hgd hcl
      go_simp
      exact hK _ _ (fun _ _ h => h) hJ (fun _ => rfl)
    | 3, ho, hd =>
      have ho' := ho
      simp only [List.getElem?_toArray, List.getElem?_cons_zero, List.getElem?_cons_succ, Option.some.injEq] at ho hd
      subst ho hd
      have hgd : a.eval (.tmp 57) = .bool true := (hdep ⟨1, .guard⟩ (by simp) rfl).2 57 rfl
      have r58 : a.eval (.tmp 58) = .agg #[.int .u32 x0, .int .u32 x1, .slice a1 l1 c1, .slice a2 l2 c2] := (hdep ⟨2, .data⟩ (by simp) rfl).2 58 rfl
      rw [Vals.eval_tmp] at r58
      refine Vals.wpOp_run ho' (by unfold Region.wanted; simp only []; rw [Vals.yielded_of (d := 57) rfl hgd]; rfl) ?_
      clear hdep hfr ho' hdf hgd hcl
      go_simp
      refine (HPUT.out W hJ).mono ?_
      rintro e w' ⟨b1, e1, rfl, hb3, hr3⟩
      exact hK _ _ (GoRegS_mono hb3) (hJ.trans (hb3.mono hJ.size)) (fun _ => ⟨_, _, rfl, hr3.reads⟩)
    | 4, ho, hd =>
      have ho' := ho
      simp only [List.getElem?_toArray, List.getElem?_cons_zero, List.getElem?_cons_succ, Option.some.injEq] at ho hd
      subst ho hd
      have hgd : a.eval (.tmp 57) = .bool true := (hdep ⟨1, .guard⟩ (by simp) rfl).2 57 rfl
      have r1 : a.eval (.tmp 1) = .pointer (some ⟨w.heap.size, 0, none⟩) := hfr 1 (fun q hq => absurd (List.mem_of_getElem? hq) (by decide))
      rw [Vals.eval_tmp] at r1
      have c0 := (HCr.out.keep hJ).cell (i := 0) rfl
      have c1 := (HCr.out.keep hJ).cell (i := 1) rfl
      have c2 := (HCr.out.keep hJ).cell (i := 2) rfl
      refine Vals.wpOp_run ho' (by unfold Region.wanted; simp only []; rw [Vals.yielded_of (d := 57) rfl hgd]; rfl) ?_
      clear hdep hfr ho' hdf hgd hcl
      go_simp
      exact hK _ _ (fun _ _ h => h) hJ (fun _ => rfl)
    | 5, ho, hd =>
      have ho' := ho
      simp only [List.getElem?_toArray, List.getElem?_cons_zero, List.getElem?_cons_succ, Option.some.injEq] at ho hd
      subst ho hd
      have hgd : a.eval (.tmp 57) = .bool true := (hdep ⟨1, .guard⟩ (by simp) rfl).2 57 rfl
      have g59 : ∃ b1_59 e1_59, a.eval (.tmp 59) = .agg #[.int .u8 k, .int .u8 f, .slice b1_59 zs.length e1_59] ∧ Reads W b1_59 zs.length zs := (hdep ⟨3, .data⟩ (by simp) rfl).2 59 rfl
      rw [Vals.eval_tmp] at g59
      obtain ⟨b1_59, e1_59, r59, h59_0⟩ := g59
      have r60 : a.eval (.tmp 60) = .agg #[.int .u8 k, .int .u8 f, .slice p n c] := (hdep ⟨4, .data⟩ (by simp) rfl).2 60 rfl
      rw [Vals.eval_tmp] at r60
      refine Vals.wpOp_run ho' (by unfold Region.wanted; simp only []; rw [Vals.yielded_of (d := 57) rfl hgd]; rfl) ?_
      clear hdep hfr ho' hdf hgd hcl
      go_simp
      refine (rsame_yes k f b1_59 p zs.length n e1_59 c zs W h59_0 (HRr.out W hJ) hz (by have := (HRr.out W hJ).1; omega)).mono ?_
      rintro e w' ⟨rfl, hb3⟩
      exact hK _ _ (GoRegS_mono hb3) (hJ.trans (hb3.mono hJ.size)) (fun _ => rfl)
    | 6, ho, hd =>
      have ho' := ho
      simp only [List.getElem?_toArray, List.getElem?_cons_zero, List.getElem?_cons_succ, Option.some.injEq] at ho hd
      subst ho hd
      have r57 : a.eval (.tmp 57) = .bool true := (hdep ⟨1, .data⟩ (by simp) rfl).2 57 rfl
      rw [Vals.eval_tmp] at r57
      have r61 : a.eval (.tmp 61) = .bool true := (hdep ⟨5, .data⟩ (by simp) rfl).2 61 rfl
      rw [Vals.eval_tmp] at r61
      refine Vals.wpOp_run ho' rfl ?_
      clear hdep hfr ho' hdf hcl
      go_simp
      exact hK _ _ (fun _ _ h => h) hJ (fun _ => rfl)
    | 7, ho, hd =>
      have ho' := ho
      simp only [List.getElem?_toArray, List.getElem?_cons_zero, List.getElem?_cons_succ, Option.some.injEq] at ho hd
      subst ho hd
      have r62 : a.eval (.tmp 62) = .bool true := (hdep ⟨6, .data⟩ (by simp) rfl).2 62 rfl
      rw [Vals.eval_tmp] at r62
      refine Vals.wpOp_run ho' rfl ?_
      clear hdep hfr ho' hdf hcl
      go_simp
      exact hK _ _ (fun _ _ h => h) hJ (fun _ => rfl)
    | i + 8, ho, hd => simp at ho
  case fin3 =>
    intro listed W fq hall hJ hG
    have q0 : fq 56 = .bool true := hG 0 56 rfl
    have q1 : fq 57 = .bool true := hG 1 57 rfl
    have q2 : fq 58 = .agg #[.int .u32 x0, .int .u32 x1, .slice a1 l1 c1, .slice a2 l2 c2] := hG 2 58 rfl
    obtain ⟨b1_59, e1_59, q3, hq59_0⟩ : ∃ b1_59 e1_59, fq 59 = .agg #[.int .u8 k, .int .u8 f, .slice b1_59 zs.length e1_59] ∧ Reads W b1_59 zs.length zs := hG 3 59 rfl
    have q4 : fq 60 = .agg #[.int .u8 k, .int .u8 f, .slice p n c] := hG 4 60 rfl
    have q5 : fq 61 = .bool true := hG 5 61 rfl
    have q6 : fq 62 = .bool true := hG 6 62 rfl
    have q7 : fq 5 = .bool true := hG 7 5 rfl
    clear hG hall
    simp only [Vals.puts, Vals.pairs, List.filterMap_cons, List.filterMap_nil, id, List.map_cons, List.map_nil, List.foldl_cons, List.foldl_nil, q0, q1, q2, q3, q4, q5, q6, q7]
    clear q0 q1 q2 q3 q4 q5 q6 q7
    go_frame
    have HBn3 := Lib.hid (HB3.out.trans (hJ.mono HB3.out.size))
    clear hJ HPUT HVr HCr HRr
    have d0 := (HC0.out.keep HBn3.out).cell (i := 0) rfl
    have d1 := (HC0.out.keep HBn3.out).cell (i := 1) rfl
    have d2 := (HC0.out.keep HBn3.out).cell (i := 2) rfl
    go_wp2_with fail
    refine (HGF.out _ HBn3.out).mono ?_
    rintro e w4 ⟨a1, c1, hch, hbx, hrow⟩
    obtain rfl : e = .returned (.tuple #[.agg #[.int .u32 0, .slice none 0 0], .int .i64 7]) := by
      rw [HOK.out.2.2.2.1] at hch
      rcases hch with ⟨h, _⟩ | ⟨_, h⟩
      · cases h
      · exact h
    have hbw := HBn3.out.trans (hbx.mono HBn3.out.size)
    have hba : Below w4.heap.size w4 (w4.alloc (.cells #[.int .u32 0, .slice none 0 0] 56)) := (Below.refl _ _).alloc (Nat.le_refl _) _
    have hbn := hbw.trans (hba.mono hbw.size)
    have HB4 := Lib.hid hbn
    clear d0 d1 d2
    have d0 := (HC0.out.keep hbn).cell (i := 0) rfl
    have d1 := (HC0.out.keep hbn).cell (i := 1) rfl
    have d2 := (HC0.out.keep hbn).cell (i := 2) rfl
    clear hbn hba hbw hch hbx hrow
    go_wp2_with fail
    refine (HGT.out _ HB4.out).mono ?_
    rintro e w5 ⟨hch, hbx⟩
    obtain rfl := hch.int
    rw [HOK.out.2.2.2.2.1]
    have HB5 := Lib.hid (HB4.out.trans (hbx.mono HB4.out.size))
    clear hch hbx d0 d1 d2
    have d0 := (HC0.out.keep HB5.out).cell (i := 0) rfl
    have d1 := (HC0.out.keep HB5.out).cell (i := 1) rfl
    have d2 := (HC0.out.keep HB5.out).cell (i := 2) rfl
    simp only [Bool.false_eq_true, if_false]
    go_wp2_with fail
    refine (HGC.out _ HB5.out).mono ?_
    rintro e w6 ⟨hch, hbx⟩
    obtain rfl := hch.int
    rw [HOK.out.2.2.2.2.2]
    have HB6 := Lib.hid (HB5.out.trans (hbx.mono HB5.out.size))
    clear hch hbx d0 d1 d2
    have d0 := (HC0.out.keep HB6.out).cell (i := 0) rfl
    have d1 := (HC0.out.keep HB6.out).cell (i := 1) rfl
    have d2 := (HC0.out.keep HB6.out).cell (i := 2) rfl
    simp only [Bool.false_eq_true, if_false]
    go_wp2
    go_ret2
    exact ⟨rfl, HB0.out.1.trans (HB6.out.mono HB0.out.1.size)⟩

/-- What the operations of the drawn region leave behind. -/
def GoRegF (w wr : World) (k f : Int) (p : Option Addr) (n c : Nat) (zs : List Int) (g : Nat) (x0 : Int) (a1 : Option Addr) (l1 c1 : Nat) (i : Nat) (v : Value) (W : World) : Prop := match i with | 0 => v = .bool true | 1 => v = .bool true | 2 => v = .agg #[.int .u32 x0, .slice a1 l1 c1] | 3 => ∃ b1 e1, v = .agg #[.int .u8 k, .int .u8 f, .slice b1 zs.length e1] ∧ Reads W b1 zs.length zs | 4 => v = .agg #[.int .u8 k, .int .u8 f, .slice p n c] | 5 => v = .bool true | 6 => v = .bool true | 7 => v = .bool true | _ => True
theorem GoRegF_mono {w wr : World} {k f : Int} {p : Option Addr} {n c : Nat} {zs : List Int} {g : Nat} {x0 : Int} {a1 : Option Addr} {l1 c1 : Nat} {W W' : World} (hb : Below W.heap.size W W') (jo : Nat) (xo : Value) (h : GoRegF w wr k f p n c zs g x0 a1 l1 c1 jo xo W) : GoRegF w wr k f p n c zs g x0 a1 l1 c1 jo xo W' := by
  unfold GoRegF at h ⊢
  split at h <;> try exact h
  · obtain ⟨b1, e1, e0, h0_0⟩ := h
    exact ⟨b1, e1, e0, h0_0.below hb⟩

set_option maxRecDepth 100000 in
set_option maxHeartbeats 1600000 in
theorem got_F (k f : Int) (p : Option Addr) (n c : Nat) (zs : List Int) (w : World) (hr : Reads w p n zs) (hz : Byt zs) (hc : n ≤ c) (hn : n ≤ 200000) (hD : okData k f zs = false) (hI : okInit k f zs = false) (hS : okSack k f zs = false) (hF : okFwd k f zs = true) (hT : okTime k f zs = false) (hC : okCum k f zs = false) :
    Calls Try.prog 47 #[.agg #[.int .u8 k, .int .u8 f, .slice p n c]] w fun e w' => e = .returned (.tuple #[.int .i64 1, .bool true]) ∧ Below w.heap.size w w' := by
  obtain ⟨w0, hw0⟩ : ∃ w0, w.alloc (.cells #[.int .u8 k, .int .u8 f, .slice p n c] 28) = w0 := ⟨_, rfl⟩
  have hb0 : Below w.heap.size w w0 := by rw [← hw0]; exact chunkBelow _ _ _ _
  have hs0 : w0.heap.size = w.heap.size + 1 := by rw [← hw0]; simp
  have hC0 : Arr w0 w.heap.size 28 [.int .u8 k, .int .u8 f, .slice p n c] := by rw [← hw0]; exact chunkBox _ _ _ _
  have HC0 := Lib.hid hC0
  have HB0 := Lib.hid (And.intro hb0 hs0)
  have HR0 := Lib.hid (show ∀ W, Below w0.heap.size w0 W → Reads W p n zs from fun W h => (hr.below hb0).below h)
  have HL := Lib.hid hr.1
  have HGD := Lib.hid (show ∀ W, Below w0.heap.size w0 W → Calls Try.prog 16 #[.agg #[.int .u8 k, .int .u8 f, .slice p n c]] W (GotD W k f zs) from fun W h => pgetData k f p n c zs W (HR0.out W h) hz hc hn)
  have HGI := Lib.hid (show ∀ W, Below w0.heap.size w0 W → Calls Try.prog 24 #[.agg #[.int .u8 k, .int .u8 f, .slice p n c]] W (GotI W k f zs) from fun W h => pgetInit k f p n c zs W (HR0.out W h) hz hc hn)
  have HGS := Lib.hid (show ∀ W, Below w0.heap.size w0 W → Calls Try.prog 30 #[.agg #[.int .u8 k, .int .u8 f, .slice p n c]] W (GotS W (okSack k f zs) (natAt zs 0 4) (natAt zs 4 4) (sackG zs) (sackD zs)) from fun W h => pgetSack k f p n c zs W (HR0.out W h) hz hc hn)
  have HGF := Lib.hid (show ∀ W, Below w0.heap.size w0 W → Calls Try.prog 35 #[.agg #[.int .u8 k, .int .u8 f, .slice p n c]] W (GotF W (okFwd k f zs) (natAt zs 0 4) (pairsAt zs 4 ((zs.length - 4 + 3) / 4))) from fun W h => pgetForward k f p n c zs W (HR0.out W h) hz hc hn)
  have HGT := Lib.hid (show ∀ W, Below w0.heap.size w0 W → Calls Try.prog 39 #[.agg #[.int .u8 k, .int .u8 f, .slice p n c]] W (fun e w' => Chose (okTime k f zs) (.int .i64 (timeV zs)) (.int .i64 0) e ∧ Below W.heap.size W w') from fun W h => pgetTime k f p n c zs W (HR0.out W h) hz hc hn)
  have HGC := Lib.hid (show ∀ W, Below w0.heap.size w0 W → Calls Try.prog 41 #[.agg #[.int .u8 k, .int .u8 f, .slice p n c]] W (fun e w' => Chose (okCum k f zs) (.int .u32 (natAt zs 0 4)) (.int .u32 0) e ∧ Below W.heap.size W w') from fun W h => pgetCum k f p n c zs W (HR0.out W h) hz hc hn)
  have HOK := Lib.hid (And.intro hD (And.intro hI (And.intro hS (And.intro hF (And.intro hT hC)))))
  clear hb0 hC0 hr hD hI hS hF hT hC
  have d0 := HC0.out.cell (i := 0) rfl
  have d1 := HC0.out.cell (i := 1) rfl
  have d2 := HC0.out.cell (i := 2) rfl
  go_enter Try.func47, Try.ntmps47
  go_wp2_with fail
  refine (HGD.out _ (Below.refl w0.heap.size w0)).mono ?_
  rintro e w1 ⟨a1, c1, hch, hbx, hrow⟩
  obtain rfl : e = .returned (.tuple #[.agg #[.int .u32 0, .int .u16 0, .int .u16 0, .bool false, .bool false, .bool false, .slice none 0 0], .int .i64 7]) := by
    rw [HOK.out.1] at hch
    rcases hch with ⟨h, _⟩ | ⟨_, h⟩
    · cases h
    · exact h
  have hbw := (Below.refl w0.heap.size w0).trans (hbx.mono (Below.refl w0.heap.size w0).size)
  have hba : Below w1.heap.size w1 (w1.alloc (.cells #[.int .u32 0, .int .u16 0, .int .u16 0, .bool false, .bool false, .bool false, .slice none 0 0] 26)) := (Below.refl _ _).alloc (Nat.le_refl _) _
  have hbn := hbw.trans (hba.mono hbw.size)
  have HB1 := Lib.hid hbn
  clear d0 d1 d2
  have d0 := (HC0.out.keep hbn).cell (i := 0) rfl
  have d1 := (HC0.out.keep hbn).cell (i := 1) rfl
  have d2 := (HC0.out.keep hbn).cell (i := 2) rfl
  clear hbn hba hbw hch hbx hrow
  go_wp2_with fail
  refine (HGI.out _ HB1.out).mono ?_
  rintro e w2 ⟨a1, c1, hch, hbx, hrow⟩
  obtain rfl : e = .returned (.tuple #[.agg #[.int .u32 0, .int .u32 0, .int .u16 0, .int .u16 0, .int .u32 0, .slice none 0 0], .int .i64 7]) := by
    rw [HOK.out.2.1] at hch
    rcases hch with ⟨h, _⟩ | ⟨_, h⟩
    · cases h
    · exact h
  have hbw := HB1.out.trans (hbx.mono HB1.out.size)
  have hba : Below w2.heap.size w2 (w2.alloc (.cells #[.int .u32 0, .int .u32 0, .int .u16 0, .int .u16 0, .int .u32 0, .slice none 0 0] 43)) := (Below.refl _ _).alloc (Nat.le_refl _) _
  have hbn := hbw.trans (hba.mono hbw.size)
  have HB2 := Lib.hid hbn
  clear d0 d1 d2
  have d0 := (HC0.out.keep hbn).cell (i := 0) rfl
  have d1 := (HC0.out.keep hbn).cell (i := 1) rfl
  have d2 := (HC0.out.keep hbn).cell (i := 2) rfl
  clear hbn hba hbw hch hbx hrow
  go_wp2_with fail
  refine (HGS.out _ HB2.out).mono ?_
  rintro e w3 ⟨a1, c1, a2, c2, hch, hbx, hrow, hrow2⟩
  obtain rfl : e = .returned (.tuple #[.agg #[.int .u32 0, .int .u32 0, .slice none 0 0, .slice none 0 0], .int .i64 7]) := by
    rw [HOK.out.2.2.1] at hch
    rcases hch with ⟨h, _⟩ | ⟨_, h⟩
    · cases h
    · exact h
  have hbw := HB2.out.trans (hbx.mono HB2.out.size)
  have hba : Below w3.heap.size w3 (w3.alloc (.cells #[.int .u32 0, .int .u32 0, .slice none 0 0, .slice none 0 0] 52)) := (Below.refl _ _).alloc (Nat.le_refl _) _
  have hbn := hbw.trans (hba.mono hbw.size)
  have HB3 := Lib.hid hbn
  clear d0 d1 d2
  have d0 := (HC0.out.keep hbn).cell (i := 0) rfl
  have d1 := (HC0.out.keep hbn).cell (i := 1) rfl
  have d2 := (HC0.out.keep hbn).cell (i := 2) rfl
  clear hbn hba hbw hch hbx hrow hrow2
  go_wp2_with fail
  refine (HGF.out _ HB3.out).mono ?_
  rintro e w4 ⟨a1, c1, hch, hbx, hrow⟩
  obtain ⟨x0, hx0⟩ : ∃ x, natAt zs 0 4 = x := ⟨_, rfl⟩
  obtain ⟨l1, hl1⟩ : ∃ x, (pairsAt zs 4 ((zs.length - 4 + 3) / 4)).length = x := ⟨_, rfl⟩
  rw [hl1] at hrow
  obtain rfl : e = .returned (.tuple #[.agg #[.int .u32 x0, .slice a1 l1 c1], .int .i64 0]) := by
    rw [HOK.out.2.2.2.1] at hch
    rcases hch with ⟨_, h⟩ | ⟨h, _⟩
    · rw [h]; simp only [hx0, hl1]
    · cases h
  have hbw := HB3.out.trans (hbx.mono HB3.out.size)
  have hba : Below w4.heap.size w4 (w4.alloc (.cells #[.int .u32 x0, .slice a1 l1 c1] 56)) := (Below.refl _ _).alloc (Nat.le_refl _) _
  have hbn := hbw.trans (hba.mono hbw.size)
  have HB4 := Lib.hid hbn
  clear d0 d1 d2
  have d0 := (HC0.out.keep hbn).cell (i := 0) rfl
  have d1 := (HC0.out.keep hbn).cell (i := 1) rfl
  have d2 := (HC0.out.keep hbn).cell (i := 2) rfl
  have hpe := okFwd_eq HOK.out.2.2.2.1
  have hHP : ∀ W, Below (w4.alloc (.cells #[.int .u32 x0, .slice a1 l1 c1] 56)).heap.size (w4.alloc (.cells #[.int .u32 x0, .slice a1 l1 c1] 56)) W → Calls Try.prog 34 #[.agg #[.int .u32 x0, .slice a1 l1 c1]] W fun e w' => Puts W k f zs e w' := by
    intro W h
    have h2 := (pputForward x0 a1 l1 c1 (pairsAt zs 4 ((zs.length - 4 + 3) / 4)) W ((hrow.below hba (Nat.le_refl _)).below h (Nat.le_refl _)) (by rw [pairsAt_len] at hl1; have := HL.out; omega) (hx0 ▸ (natAt4 hz 0).1) (hx0 ▸ (natAt4 hz 0).2))
    simp only [hx0] at hpe
    obtain ⟨q1, q2, q3⟩ := hpe
    rw [← q3] at h2
    try rw [← q1] at h2
    try rw [← q2] at h2
    exact h2
  have hVr : Arr (w4.alloc (.cells #[.int .u32 x0, .slice a1 l1 c1] 56)) w4.heap.size 56 [.int .u32 x0, .slice a1 l1 c1] := arr_new _ _ _
  have hCr := HC0.out.keep hbn
  have HPUT := Lib.hid hHP
  have HVr := Lib.hid hVr
  have HCr := Lib.hid hCr
  clear hHP hVr hCr hpe hbn hba hbw hch hbx hrow hx0 hl1
  go_wp2_with fail
  generalize (w4.alloc (.cells #[.int .u32 x0, .slice a1 l1 c1] 56)) = wr at HPUT HVr HCr HB4 ⊢
  generalize w4.heap.size = g at *
  clear d0 d1 d2
  have HRr := Lib.hid (show ∀ W, Below wr.heap.size wr W → Reads W p n zs from fun W h => HR0.out W (HB4.out.trans (h.mono HB4.out.size)))
  refine wp_region_any (by kernel_rfl) ?_
  refine Vals.wpAny_goodF (GoRegF w wr k f p n c zs g x0 a1 l1 c1) (fun _ => (fun W => Below wr.heap.size wr W)) [some 72, some 73, some 74, some 75, some 76, some 77, some 78, some 5] 115 _ _ rfl (by kernel_rfl) (by kernel_rfl) (by decide) ?step4 ?fin4 (Below.refl _ _).drew
  case step4 =>
    intro i o d ho hd listed a W hls hun hcl hJ hdf hdep hfr K hK
    match i, ho, hd with
    | 0, ho, hd =>
      have ho' := ho
      simp only [List.getElem?_toArray, List.getElem?_cons_zero, Option.some.injEq] at ho hd
      subst ho hd
      have r5 : a.eval (.tmp 5) = .bool true := hfr 5 (fun q hq => match q, hq with | 0, hq => by simp at hq | 1, hq => by simp at hq | 2, hq => by simp at hq | 3, hq => by simp at hq | 4, hq => by simp at hq | 5, hq => by simp at hq | 6, hq => by simp at hq | 7, _ => Vals.jnot hun (fun h => hcl 7 _ rfl h ⟨0, .phase⟩ (by simp) rfl) | q + 8, hq => by simp at hq)
      rw [Vals.eval_tmp] at r5
      refine Vals.wpOp_run ho' rfl ?_
      clear hdep hfr ho' hdf hcl
      go_simp
      exact hK _ _ (fun _ _ h => h) hJ (fun _ => rfl)
    | 1, ho, hd =>
      have ho' := ho
      simp only [List.getElem?_toArray, List.getElem?_cons_zero, List.getElem?_cons_succ, Option.some.injEq] at ho hd
      subst ho hd
      have r72 : a.eval (.tmp 72) = .bool true := (hdep ⟨0, .data⟩ (by simp) rfl).2 72 rfl
      rw [Vals.eval_tmp] at r72
      refine Vals.wpOp_run ho' rfl ?_
      clear hdep hfr ho' hdf hcl
      go_simp
      exact hK _ _ (fun _ _ h => h) hJ (fun _ => rfl)
    | 2, ho, hd =>
      have ho' := ho
      simp only [List.getElem?_toArray, List.getElem?_cons_zero, List.getElem?_cons_succ, Option.some.injEq] at ho hd
      subst ho hd
      have hgd : a.eval (.tmp 73) = .bool true := (hdep ⟨1, .guard⟩ (by simp) rfl).2 73 rfl
      have r10 : a.eval (.tmp 10) = .pointer (some ⟨g, 0, none⟩) := hfr 10 (fun q hq => absurd (List.mem_of_getElem? hq) (by decide))
      rw [Vals.eval_tmp] at r10
      have c0 := (HVr.out.keep hJ).cell (i := 0) rfl
      have c1 := (HVr.out.keep hJ).cell (i := 1) rfl
      refine Vals.wpOp_run ho' (by unfold Region.wanted; simp only []; rw [Vals.yielded_of (d := 73) rfl hgd]; rfl) ?_
      clear hdep hfr ho' hdf hgd hcl
      go_simp
      exact hK _ _ (fun _ _ h => h) hJ (fun _ => rfl)
    | 3, ho, hd =>
      have ho' := ho
      simp only [List.getElem?_toArray, List.getElem?_cons_zero, List.getElem?_cons_succ, Option.some.injEq] at ho hd
      subst ho hd
      have hgd : a.eval (.tmp 73) = .bool true := (hdep ⟨1, .guard⟩ (by simp) rfl).2 73 rfl
      have r74 : a.eval (.tmp 74) = .agg #[.int .u32 x0, .slice a1 l1 c1] := (hdep ⟨2, .data⟩ (by simp) rfl).2 74 rfl
      rw [Vals.eval_tmp] at r74
      refine Vals.wpOp_run ho' (by unfold Region.wanted; simp only []; rw [Vals.yielded_of (d := 73) rfl hgd]; rfl) ?_
      clear hdep hfr ho' hdf hgd hcl
      go_simp
      refine (HPUT.out W hJ).mono ?_
      rintro e w' ⟨b1, e1, rfl, hb3, hr3⟩
      exact hK _ _ (GoRegF_mono hb3) (hJ.trans (hb3.mono hJ.size)) (fun _ => ⟨_, _, rfl, hr3.reads⟩)
    | 4, ho, hd =>
      have ho' := ho
      simp only [List.getElem?_toArray, List.getElem?_cons_zero, List.getElem?_cons_succ, Option.some.injEq] at ho hd
      subst ho hd
      have hgd : a.eval (.tmp 73) = .bool true := (hdep ⟨1, .guard⟩ (by simp) rfl).2 73 rfl
      have r1 : a.eval (.tmp 1) = .pointer (some ⟨w.heap.size, 0, none⟩) := hfr 1 (fun q hq => absurd (List.mem_of_getElem? hq) (by decide))
      rw [Vals.eval_tmp] at r1
      have c0 := (HCr.out.keep hJ).cell (i := 0) rfl
      have c1 := (HCr.out.keep hJ).cell (i := 1) rfl
      have c2 := (HCr.out.keep hJ).cell (i := 2) rfl
      refine Vals.wpOp_run ho' (by unfold Region.wanted; simp only []; rw [Vals.yielded_of (d := 73) rfl hgd]; rfl) ?_
      clear hdep hfr ho' hdf hgd hcl
      go_simp
      exact hK _ _ (fun _ _ h => h) hJ (fun _ => rfl)
    | 5, ho, hd =>
      have ho' := ho
      simp only [List.getElem?_toArray, List.getElem?_cons_zero, List.getElem?_cons_succ, Option.some.injEq] at ho hd
      subst ho hd
      have hgd : a.eval (.tmp 73) = .bool true := (hdep ⟨1, .guard⟩ (by simp) rfl).2 73 rfl
      have g75 : ∃ b1_75 e1_75, a.eval (.tmp 75) = .agg #[.int .u8 k, .int .u8 f, .slice b1_75 zs.length e1_75] ∧ Reads W b1_75 zs.length zs := (hdep ⟨3, .data⟩ (by simp) rfl).2 75 rfl
      rw [Vals.eval_tmp] at g75
      obtain ⟨b1_75, e1_75, r75, h75_0⟩ := g75
      have r76 : a.eval (.tmp 76) = .agg #[.int .u8 k, .int .u8 f, .slice p n c] := (hdep ⟨4, .data⟩ (by simp) rfl).2 76 rfl
      rw [Vals.eval_tmp] at r76
      refine Vals.wpOp_run ho' (by unfold Region.wanted; simp only []; rw [Vals.yielded_of (d := 73) rfl hgd]; rfl) ?_
      clear hdep hfr ho' hdf hgd hcl
      go_simp
      refine (rsame_yes k f b1_75 p zs.length n e1_75 c zs W h75_0 (HRr.out W hJ) hz (by have := (HRr.out W hJ).1; omega)).mono ?_
      rintro e w' ⟨rfl, hb3⟩
      exact hK _ _ (GoRegF_mono hb3) (hJ.trans (hb3.mono hJ.size)) (fun _ => rfl)
    | 6, ho, hd =>
      have ho' := ho
      simp only [List.getElem?_toArray, List.getElem?_cons_zero, List.getElem?_cons_succ, Option.some.injEq] at ho hd
      subst ho hd
      have r73 : a.eval (.tmp 73) = .bool true := (hdep ⟨1, .data⟩ (by simp) rfl).2 73 rfl
      rw [Vals.eval_tmp] at r73
      have r77 : a.eval (.tmp 77) = .bool true := (hdep ⟨5, .data⟩ (by simp) rfl).2 77 rfl
      rw [Vals.eval_tmp] at r77
      refine Vals.wpOp_run ho' rfl ?_
      clear hdep hfr ho' hdf hcl
      go_simp
      exact hK _ _ (fun _ _ h => h) hJ (fun _ => rfl)
    | 7, ho, hd =>
      have ho' := ho
      simp only [List.getElem?_toArray, List.getElem?_cons_zero, List.getElem?_cons_succ, Option.some.injEq] at ho hd
      subst ho hd
      have r78 : a.eval (.tmp 78) = .bool true := (hdep ⟨6, .data⟩ (by simp) rfl).2 78 rfl
      rw [Vals.eval_tmp] at r78
      refine Vals.wpOp_run ho' rfl ?_
      clear hdep hfr ho' hdf hcl
      go_simp
      exact hK _ _ (fun _ _ h => h) hJ (fun _ => rfl)
    | i + 8, ho, hd => simp at ho
  case fin4 =>
    intro listed W fq hall hJ hG
    have q0 : fq 72 = .bool true := hG 0 72 rfl
    have q1 : fq 73 = .bool true := hG 1 73 rfl
    have q2 : fq 74 = .agg #[.int .u32 x0, .slice a1 l1 c1] := hG 2 74 rfl
    obtain ⟨b1_75, e1_75, q3, hq75_0⟩ : ∃ b1_75 e1_75, fq 75 = .agg #[.int .u8 k, .int .u8 f, .slice b1_75 zs.length e1_75] ∧ Reads W b1_75 zs.length zs := hG 3 75 rfl
    have q4 : fq 76 = .agg #[.int .u8 k, .int .u8 f, .slice p n c] := hG 4 76 rfl
    have q5 : fq 77 = .bool true := hG 5 77 rfl
    have q6 : fq 78 = .bool true := hG 6 78 rfl
    have q7 : fq 5 = .bool true := hG 7 5 rfl
    clear hG hall
    simp only [Vals.puts, Vals.pairs, List.filterMap_cons, List.filterMap_nil, id, List.map_cons, List.map_nil, List.foldl_cons, List.foldl_nil, q0, q1, q2, q3, q4, q5, q6, q7]
    clear q0 q1 q2 q3 q4 q5 q6 q7
    go_frame
    have HBn4 := Lib.hid (HB4.out.trans (hJ.mono HB4.out.size))
    clear hJ HPUT HVr HCr HRr
    have d0 := (HC0.out.keep HBn4.out).cell (i := 0) rfl
    have d1 := (HC0.out.keep HBn4.out).cell (i := 1) rfl
    have d2 := (HC0.out.keep HBn4.out).cell (i := 2) rfl
    go_wp2_with fail
    refine (HGT.out _ HBn4.out).mono ?_
    rintro e w5 ⟨hch, hbx⟩
    obtain rfl := hch.int
    rw [HOK.out.2.2.2.2.1]
    have HB5 := Lib.hid (HBn4.out.trans (hbx.mono HBn4.out.size))
    clear hch hbx d0 d1 d2
    have d0 := (HC0.out.keep HB5.out).cell (i := 0) rfl
    have d1 := (HC0.out.keep HB5.out).cell (i := 1) rfl
    have d2 := (HC0.out.keep HB5.out).cell (i := 2) rfl
    simp only [Bool.false_eq_true, if_false]
    go_wp2_with fail
    refine (HGC.out _ HB5.out).mono ?_
    rintro e w6 ⟨hch, hbx⟩
    obtain rfl := hch.int
    rw [HOK.out.2.2.2.2.2]
    have HB6 := Lib.hid (HB5.out.trans (hbx.mono HB5.out.size))
    clear hch hbx d0 d1 d2
    have d0 := (HC0.out.keep HB6.out).cell (i := 0) rfl
    have d1 := (HC0.out.keep HB6.out).cell (i := 1) rfl
    have d2 := (HC0.out.keep HB6.out).cell (i := 2) rfl
    simp only [Bool.false_eq_true, if_false]
    go_wp2
    go_ret2
    exact ⟨rfl, HB0.out.1.trans (HB6.out.mono HB0.out.1.size)⟩

/-- What the operations of the drawn region leave behind. -/
def GoRegT (w wr : World) (k f : Int) (p : Option Addr) (n c : Nat) (zs : List Int) (g : Nat) (x0 : Int) (i : Nat) (v : Value) (W : World) : Prop := match i with | 0 => v = .bool true | 1 => v = .bool true | 2 => v = .pointer (some ⟨w.heap.size, 0, none⟩) | 3 => v = .int .u8 k | 4 => v = .int .i64 x0 | 5 => ∃ b1 e1, v = .agg #[.int .u8 k, .int .u8 f, .slice b1 zs.length e1] ∧ Reads W b1 zs.length zs | 6 => v = .agg #[.int .u8 k, .int .u8 f, .slice p n c] | 7 => v = .bool true | 8 => v = .bool true | 9 => v = .bool true | _ => True
theorem GoRegT_mono {w wr : World} {k f : Int} {p : Option Addr} {n c : Nat} {zs : List Int} {g : Nat} {x0 : Int} {W W' : World} (hb : Below W.heap.size W W') (jo : Nat) (xo : Value) (h : GoRegT w wr k f p n c zs g x0 jo xo W) : GoRegT w wr k f p n c zs g x0 jo xo W' := by
  unfold GoRegT at h ⊢
  split at h <;> try exact h
  · obtain ⟨b1, e1, e0, h0_0⟩ := h
    exact ⟨b1, e1, e0, h0_0.below hb⟩

set_option maxRecDepth 100000 in
set_option maxHeartbeats 1600000 in
theorem got_T (k f : Int) (p : Option Addr) (n c : Nat) (zs : List Int) (w : World) (hr : Reads w p n zs) (hz : Byt zs) (hc : n ≤ c) (hn : n ≤ 200000) (hD : okData k f zs = false) (hI : okInit k f zs = false) (hS : okSack k f zs = false) (hF : okFwd k f zs = false) (hT : okTime k f zs = true) (hC : okCum k f zs = false) :
    Calls Try.prog 47 #[.agg #[.int .u8 k, .int .u8 f, .slice p n c]] w fun e w' => e = .returned (.tuple #[.int .i64 1, .bool true]) ∧ Below w.heap.size w w' := by
  obtain ⟨w0, hw0⟩ : ∃ w0, w.alloc (.cells #[.int .u8 k, .int .u8 f, .slice p n c] 28) = w0 := ⟨_, rfl⟩
  have hb0 : Below w.heap.size w w0 := by rw [← hw0]; exact chunkBelow _ _ _ _
  have hs0 : w0.heap.size = w.heap.size + 1 := by rw [← hw0]; simp
  have hC0 : Arr w0 w.heap.size 28 [.int .u8 k, .int .u8 f, .slice p n c] := by rw [← hw0]; exact chunkBox _ _ _ _
  have HC0 := Lib.hid hC0
  have HB0 := Lib.hid (And.intro hb0 hs0)
  have HR0 := Lib.hid (show ∀ W, Below w0.heap.size w0 W → Reads W p n zs from fun W h => (hr.below hb0).below h)
  have HL := Lib.hid hr.1
  have HGD := Lib.hid (show ∀ W, Below w0.heap.size w0 W → Calls Try.prog 16 #[.agg #[.int .u8 k, .int .u8 f, .slice p n c]] W (GotD W k f zs) from fun W h => pgetData k f p n c zs W (HR0.out W h) hz hc hn)
  have HGI := Lib.hid (show ∀ W, Below w0.heap.size w0 W → Calls Try.prog 24 #[.agg #[.int .u8 k, .int .u8 f, .slice p n c]] W (GotI W k f zs) from fun W h => pgetInit k f p n c zs W (HR0.out W h) hz hc hn)
  have HGS := Lib.hid (show ∀ W, Below w0.heap.size w0 W → Calls Try.prog 30 #[.agg #[.int .u8 k, .int .u8 f, .slice p n c]] W (GotS W (okSack k f zs) (natAt zs 0 4) (natAt zs 4 4) (sackG zs) (sackD zs)) from fun W h => pgetSack k f p n c zs W (HR0.out W h) hz hc hn)
  have HGF := Lib.hid (show ∀ W, Below w0.heap.size w0 W → Calls Try.prog 35 #[.agg #[.int .u8 k, .int .u8 f, .slice p n c]] W (GotF W (okFwd k f zs) (natAt zs 0 4) (pairsAt zs 4 ((zs.length - 4 + 3) / 4))) from fun W h => pgetForward k f p n c zs W (HR0.out W h) hz hc hn)
  have HGT := Lib.hid (show ∀ W, Below w0.heap.size w0 W → Calls Try.prog 39 #[.agg #[.int .u8 k, .int .u8 f, .slice p n c]] W (fun e w' => Chose (okTime k f zs) (.int .i64 (timeV zs)) (.int .i64 0) e ∧ Below W.heap.size W w') from fun W h => pgetTime k f p n c zs W (HR0.out W h) hz hc hn)
  have HGC := Lib.hid (show ∀ W, Below w0.heap.size w0 W → Calls Try.prog 41 #[.agg #[.int .u8 k, .int .u8 f, .slice p n c]] W (fun e w' => Chose (okCum k f zs) (.int .u32 (natAt zs 0 4)) (.int .u32 0) e ∧ Below W.heap.size W w') from fun W h => pgetCum k f p n c zs W (HR0.out W h) hz hc hn)
  have HOK := Lib.hid (And.intro hD (And.intro hI (And.intro hS (And.intro hF (And.intro hT hC)))))
  clear hb0 hC0 hr hD hI hS hF hT hC
  have d0 := HC0.out.cell (i := 0) rfl
  have d1 := HC0.out.cell (i := 1) rfl
  have d2 := HC0.out.cell (i := 2) rfl
  go_enter Try.func47, Try.ntmps47
  go_wp2_with fail
  refine (HGD.out _ (Below.refl w0.heap.size w0)).mono ?_
  rintro e w1 ⟨a1, c1, hch, hbx, hrow⟩
  obtain rfl : e = .returned (.tuple #[.agg #[.int .u32 0, .int .u16 0, .int .u16 0, .bool false, .bool false, .bool false, .slice none 0 0], .int .i64 7]) := by
    rw [HOK.out.1] at hch
    rcases hch with ⟨h, _⟩ | ⟨_, h⟩
    · cases h
    · exact h
  have hbw := (Below.refl w0.heap.size w0).trans (hbx.mono (Below.refl w0.heap.size w0).size)
  have hba : Below w1.heap.size w1 (w1.alloc (.cells #[.int .u32 0, .int .u16 0, .int .u16 0, .bool false, .bool false, .bool false, .slice none 0 0] 26)) := (Below.refl _ _).alloc (Nat.le_refl _) _
  have hbn := hbw.trans (hba.mono hbw.size)
  have HB1 := Lib.hid hbn
  clear d0 d1 d2
  have d0 := (HC0.out.keep hbn).cell (i := 0) rfl
  have d1 := (HC0.out.keep hbn).cell (i := 1) rfl
  have d2 := (HC0.out.keep hbn).cell (i := 2) rfl
  clear hbn hba hbw hch hbx hrow
  go_wp2_with fail
  refine (HGI.out _ HB1.out).mono ?_
  rintro e w2 ⟨a1, c1, hch, hbx, hrow⟩
  obtain rfl : e = .returned (.tuple #[.agg #[.int .u32 0, .int .u32 0, .int .u16 0, .int .u16 0, .int .u32 0, .slice none 0 0], .int .i64 7]) := by
    rw [HOK.out.2.1] at hch
    rcases hch with ⟨h, _⟩ | ⟨_, h⟩
    · cases h
    · exact h
  have hbw := HB1.out.trans (hbx.mono HB1.out.size)
  have hba : Below w2.heap.size w2 (w2.alloc (.cells #[.int .u32 0, .int .u32 0, .int .u16 0, .int .u16 0, .int .u32 0, .slice none 0 0] 43)) := (Below.refl _ _).alloc (Nat.le_refl _) _
  have hbn := hbw.trans (hba.mono hbw.size)
  have HB2 := Lib.hid hbn
  clear d0 d1 d2
  have d0 := (HC0.out.keep hbn).cell (i := 0) rfl
  have d1 := (HC0.out.keep hbn).cell (i := 1) rfl
  have d2 := (HC0.out.keep hbn).cell (i := 2) rfl
  clear hbn hba hbw hch hbx hrow
  go_wp2_with fail
  refine (HGS.out _ HB2.out).mono ?_
  rintro e w3 ⟨a1, c1, a2, c2, hch, hbx, hrow, hrow2⟩
  obtain rfl : e = .returned (.tuple #[.agg #[.int .u32 0, .int .u32 0, .slice none 0 0, .slice none 0 0], .int .i64 7]) := by
    rw [HOK.out.2.2.1] at hch
    rcases hch with ⟨h, _⟩ | ⟨_, h⟩
    · cases h
    · exact h
  have hbw := HB2.out.trans (hbx.mono HB2.out.size)
  have hba : Below w3.heap.size w3 (w3.alloc (.cells #[.int .u32 0, .int .u32 0, .slice none 0 0, .slice none 0 0] 52)) := (Below.refl _ _).alloc (Nat.le_refl _) _
  have hbn := hbw.trans (hba.mono hbw.size)
  have HB3 := Lib.hid hbn
  clear d0 d1 d2
  have d0 := (HC0.out.keep hbn).cell (i := 0) rfl
  have d1 := (HC0.out.keep hbn).cell (i := 1) rfl
  have d2 := (HC0.out.keep hbn).cell (i := 2) rfl
  clear hbn hba hbw hch hbx hrow hrow2
  go_wp2_with fail
  refine (HGF.out _ HB3.out).mono ?_
  rintro e w4 ⟨a1, c1, hch, hbx, hrow⟩
  obtain rfl : e = .returned (.tuple #[.agg #[.int .u32 0, .slice none 0 0], .int .i64 7]) := by
    rw [HOK.out.2.2.2.1] at hch
    rcases hch with ⟨h, _⟩ | ⟨_, h⟩
    · cases h
    · exact h
  have hbw := HB3.out.trans (hbx.mono HB3.out.size)
  have hba : Below w4.heap.size w4 (w4.alloc (.cells #[.int .u32 0, .slice none 0 0] 56)) := (Below.refl _ _).alloc (Nat.le_refl _) _
  have hbn := hbw.trans (hba.mono hbw.size)
  have HB4 := Lib.hid hbn
  clear d0 d1 d2
  have d0 := (HC0.out.keep hbn).cell (i := 0) rfl
  have d1 := (HC0.out.keep hbn).cell (i := 1) rfl
  have d2 := (HC0.out.keep hbn).cell (i := 2) rfl
  clear hbn hba hbw hch hbx hrow
  go_wp2_with fail
  refine (HGT.out _ HB4.out).mono ?_
  rintro e w5 ⟨hch, hbx⟩
  obtain rfl := hch.int
  rw [HOK.out.2.2.2.2.1]
  have HB5 := Lib.hid (HB4.out.trans (hbx.mono HB4.out.size))
  clear hch hbx d0 d1 d2
  have d0 := (HC0.out.keep HB5.out).cell (i := 0) rfl
  have d1 := (HC0.out.keep HB5.out).cell (i := 1) rfl
  have d2 := (HC0.out.keep HB5.out).cell (i := 2) rfl
  simp only [if_true]
  obtain ⟨x0, hx0⟩ : ∃ x, timeV zs = x := ⟨_, rfl⟩
  rw [hx0]
  have hpe := okTime_eq HOK.out.2.2.2.2.1
  rw [hx0] at hpe
  have HPUT := Lib.hid (show ∀ W, Below w5.heap.size w5 W → Calls Try.prog 43 #[.int .u8 k, .int .i64 x0] W fun e w' => Puts W k f zs e w' from by
    intro W h
    have h2 := pputTime k x0 W
    obtain ⟨q1, q2, q3⟩ := hpe
    rw [q3, q2]
    exact h2)
  clear hpe hx0
  go_wp2_with fail
  have HCr := Lib.hid (HC0.out.keep HB5.out)
  clear d0 d1 d2
  have HRr := Lib.hid (show ∀ W, Below w5.heap.size w5 W → Reads W p n zs from fun W h => HR0.out W (HB5.out.trans (h.mono HB5.out.size)))
  obtain ⟨g, hg⟩ : ∃ g : Nat, g = 0 := ⟨_, rfl⟩
  clear hg
  refine wp_region_any (by kernel_rfl) ?_
  refine Vals.wpAny_goodF (GoRegT w w5 k f p n c zs g x0) (fun _ => (fun W => Below w5.heap.size w5 W)) [some 88, some 89, some 90, some 91, some 92, some 93, some 94, some 95, some 96, some 5] 115 _ _ rfl (by kernel_rfl) (by kernel_rfl) (by decide) ?step5 ?fin5 (Below.refl _ _).drew
  case step5 =>
    intro i o d ho hd listed a W hls hun hcl hJ hdf hdep hfr K hK
    match i, ho, hd with
    | 0, ho, hd =>
      have ho' := ho
      simp only [List.getElem?_toArray, List.getElem?_cons_zero, Option.some.injEq] at ho hd
      subst ho hd
      have r5 : a.eval (.tmp 5) = .bool true := hfr 5 (fun q hq => match q, hq with | 0, hq => by simp at hq | 1, hq => by simp at hq | 2, hq => by simp at hq | 3, hq => by simp at hq | 4, hq => by simp at hq | 5, hq => by simp at hq | 6, hq => by simp at hq | 7, hq => by simp at hq | 8, hq => by simp at hq | 9, _ => Vals.jnot hun (fun h => hcl 9 _ rfl h ⟨0, .phase⟩ (by simp) rfl) | q + 10, hq => by simp at hq)
      rw [Vals.eval_tmp] at r5
      refine Vals.wpOp_run ho' rfl ?_
      clear hdep hfr ho' hdf hcl
      go_simp
      exact hK _ _ (fun _ _ h => h) hJ (fun _ => rfl)
    | 1, ho, hd =>
      have ho' := ho
      simp only [List.getElem?_toArray, List.getElem?_cons_zero, List.getElem?_cons_succ, Option.some.injEq] at ho hd
      subst ho hd
      have r88 : a.eval (.tmp 88) = .bool true := (hdep ⟨0, .data⟩ (by simp) rfl).2 88 rfl
      rw [Vals.eval_tmp] at r88
      refine Vals.wpOp_run ho' rfl ?_
      clear hdep hfr ho' hdf hcl
      go_simp
      exact hK _ _ (fun _ _ h => h) hJ (fun _ => rfl)
    | 2, ho, hd =>
      have ho' := ho
      simp only [List.getElem?_toArray, List.getElem?_cons_zero, List.getElem?_cons_succ, Option.some.injEq] at ho hd
      subst ho hd
      have hgd : a.eval (.tmp 89) = .bool true := (hdep ⟨1, .guard⟩ (by simp) rfl).2 89 rfl
      have r1 : a.eval (.tmp 1) = .pointer (some ⟨w.heap.size, 0, none⟩) := hfr 1 (fun q hq => absurd (List.mem_of_getElem? hq) (by decide))
      rw [Vals.eval_tmp] at r1
      refine Vals.wpOp_run ho' (by unfold Region.wanted; simp only []; rw [Vals.yielded_of (d := 89) rfl hgd]; rfl) ?_
      clear hdep hfr ho' hdf hgd hcl
      go_simp
      exact hK _ _ (fun _ _ h => h) hJ (fun _ => rfl)
    | 3, ho, hd =>
      have ho' := ho
      simp only [List.getElem?_toArray, List.getElem?_cons_zero, List.getElem?_cons_succ, Option.some.injEq] at ho hd
      subst ho hd
      have hgd : a.eval (.tmp 89) = .bool true := (hdep ⟨1, .guard⟩ (by simp) rfl).2 89 rfl
      have r90 : a.eval (.tmp 90) = .pointer (some ⟨w.heap.size, 0, none⟩) := (hdep ⟨2, .data⟩ (by simp) rfl).2 90 rfl
      rw [Vals.eval_tmp] at r90
      have c0 := (HCr.out.keep hJ).cell (i := 0) rfl
      refine Vals.wpOp_run ho' (by unfold Region.wanted; simp only []; rw [Vals.yielded_of (d := 89) rfl hgd]; rfl) ?_
      clear hdep hfr ho' hdf hgd hcl
      go_simp
      exact hK _ _ (fun _ _ h => h) hJ (fun _ => rfl)
    | 4, ho, hd =>
      have ho' := ho
      simp only [List.getElem?_toArray, List.getElem?_cons_zero, List.getElem?_cons_succ, Option.some.injEq] at ho hd
      subst ho hd
      have hgd : a.eval (.tmp 89) = .bool true := (hdep ⟨1, .guard⟩ (by simp) rfl).2 89 rfl
      have r11 : a.eval (.tmp 11) = .int .i64 x0 := hfr 11 (fun q hq => absurd (List.mem_of_getElem? hq) (by decide))
      rw [Vals.eval_tmp] at r11
      refine Vals.wpOp_run ho' (by unfold Region.wanted; simp only []; rw [Vals.yielded_of (d := 89) rfl hgd]; rfl) ?_
      clear hdep hfr ho' hdf hgd hcl
      go_simp
      exact hK _ _ (fun _ _ h => h) hJ (fun _ => rfl)
    | 5, ho, hd =>
      have ho' := ho
      simp only [List.getElem?_toArray, List.getElem?_cons_zero, List.getElem?_cons_succ, Option.some.injEq] at ho hd
      subst ho hd
      have hgd : a.eval (.tmp 89) = .bool true := (hdep ⟨1, .guard⟩ (by simp) rfl).2 89 rfl
      have r91 : a.eval (.tmp 91) = .int .u8 k := (hdep ⟨3, .data⟩ (by simp) rfl).2 91 rfl
      rw [Vals.eval_tmp] at r91
      have r92 : a.eval (.tmp 92) = .int .i64 x0 := (hdep ⟨4, .data⟩ (by simp) rfl).2 92 rfl
      rw [Vals.eval_tmp] at r92
      refine Vals.wpOp_run ho' (by unfold Region.wanted; simp only []; rw [Vals.yielded_of (d := 89) rfl hgd]; rfl) ?_
      clear hdep hfr ho' hdf hgd hcl
      go_simp
      refine (HPUT.out W hJ).mono ?_
      rintro e w' ⟨b1, e1, rfl, hb3, hr3⟩
      exact hK _ _ (GoRegT_mono hb3) (hJ.trans (hb3.mono hJ.size)) (fun _ => ⟨_, _, rfl, hr3.reads⟩)
    | 6, ho, hd =>
      have ho' := ho
      simp only [List.getElem?_toArray, List.getElem?_cons_zero, List.getElem?_cons_succ, Option.some.injEq] at ho hd
      subst ho hd
      have hgd : a.eval (.tmp 89) = .bool true := (hdep ⟨1, .guard⟩ (by simp) rfl).2 89 rfl
      have r1 : a.eval (.tmp 1) = .pointer (some ⟨w.heap.size, 0, none⟩) := hfr 1 (fun q hq => absurd (List.mem_of_getElem? hq) (by decide))
      rw [Vals.eval_tmp] at r1
      have c0 := (HCr.out.keep hJ).cell (i := 0) rfl
      have c1 := (HCr.out.keep hJ).cell (i := 1) rfl
      have c2 := (HCr.out.keep hJ).cell (i := 2) rfl
      refine Vals.wpOp_run ho' (by unfold Region.wanted; simp only []; rw [Vals.yielded_of (d := 89) rfl hgd]; rfl) ?_
      clear hdep hfr ho' hdf hgd hcl
      go_simp
      exact hK _ _ (fun _ _ h => h) hJ (fun _ => rfl)
    | 7, ho, hd =>
      have ho' := ho
      simp only [List.getElem?_toArray, List.getElem?_cons_zero, List.getElem?_cons_succ, Option.some.injEq] at ho hd
      subst ho hd
      have hgd : a.eval (.tmp 89) = .bool true := (hdep ⟨1, .guard⟩ (by simp) rfl).2 89 rfl
      have g93 : ∃ b1_93 e1_93, a.eval (.tmp 93) = .agg #[.int .u8 k, .int .u8 f, .slice b1_93 zs.length e1_93] ∧ Reads W b1_93 zs.length zs := (hdep ⟨5, .data⟩ (by simp) rfl).2 93 rfl
      rw [Vals.eval_tmp] at g93
      obtain ⟨b1_93, e1_93, r93, h93_0⟩ := g93
      have r94 : a.eval (.tmp 94) = .agg #[.int .u8 k, .int .u8 f, .slice p n c] := (hdep ⟨6, .data⟩ (by simp) rfl).2 94 rfl
      rw [Vals.eval_tmp] at r94
      refine Vals.wpOp_run ho' (by unfold Region.wanted; simp only []; rw [Vals.yielded_of (d := 89) rfl hgd]; rfl) ?_
      clear hdep hfr ho' hdf hgd hcl
      go_simp
      refine (rsame_yes k f b1_93 p zs.length n e1_93 c zs W h93_0 (HRr.out W hJ) hz (by have := (HRr.out W hJ).1; omega)).mono ?_
      rintro e w' ⟨rfl, hb3⟩
      exact hK _ _ (GoRegT_mono hb3) (hJ.trans (hb3.mono hJ.size)) (fun _ => rfl)
    | 8, ho, hd =>
      have ho' := ho
      simp only [List.getElem?_toArray, List.getElem?_cons_zero, List.getElem?_cons_succ, Option.some.injEq] at ho hd
      subst ho hd
      have r89 : a.eval (.tmp 89) = .bool true := (hdep ⟨1, .data⟩ (by simp) rfl).2 89 rfl
      rw [Vals.eval_tmp] at r89
      have r95 : a.eval (.tmp 95) = .bool true := (hdep ⟨7, .data⟩ (by simp) rfl).2 95 rfl
      rw [Vals.eval_tmp] at r95
      refine Vals.wpOp_run ho' rfl ?_
      clear hdep hfr ho' hdf hcl
      go_simp
      exact hK _ _ (fun _ _ h => h) hJ (fun _ => rfl)
    | 9, ho, hd =>
      have ho' := ho
      simp only [List.getElem?_toArray, List.getElem?_cons_zero, List.getElem?_cons_succ, Option.some.injEq] at ho hd
      subst ho hd
      have r96 : a.eval (.tmp 96) = .bool true := (hdep ⟨8, .data⟩ (by simp) rfl).2 96 rfl
      rw [Vals.eval_tmp] at r96
      refine Vals.wpOp_run ho' rfl ?_
      clear hdep hfr ho' hdf hcl
      go_simp
      exact hK _ _ (fun _ _ h => h) hJ (fun _ => rfl)
    | i + 10, ho, hd => simp at ho
  case fin5 =>
    intro listed W fq hall hJ hG
    have q0 : fq 88 = .bool true := hG 0 88 rfl
    have q1 : fq 89 = .bool true := hG 1 89 rfl
    have q2 : fq 90 = .pointer (some ⟨w.heap.size, 0, none⟩) := hG 2 90 rfl
    have q3 : fq 91 = .int .u8 k := hG 3 91 rfl
    have q4 : fq 92 = .int .i64 x0 := hG 4 92 rfl
    obtain ⟨b1_93, e1_93, q5, hq93_0⟩ : ∃ b1_93 e1_93, fq 93 = .agg #[.int .u8 k, .int .u8 f, .slice b1_93 zs.length e1_93] ∧ Reads W b1_93 zs.length zs := hG 5 93 rfl
    have q6 : fq 94 = .agg #[.int .u8 k, .int .u8 f, .slice p n c] := hG 6 94 rfl
    have q7 : fq 95 = .bool true := hG 7 95 rfl
    have q8 : fq 96 = .bool true := hG 8 96 rfl
    have q9 : fq 5 = .bool true := hG 9 5 rfl
    clear hG hall
    simp only [Vals.puts, Vals.pairs, List.filterMap_cons, List.filterMap_nil, id, List.map_cons, List.map_nil, List.foldl_cons, List.foldl_nil, q0, q1, q2, q3, q4, q5, q6, q7, q8, q9]
    clear q0 q1 q2 q3 q4 q5 q6 q7 q8 q9
    go_frame
    have HBn5 := Lib.hid (HB5.out.trans (hJ.mono HB5.out.size))
    clear hJ HPUT HCr HRr
    have d0 := (HC0.out.keep HBn5.out).cell (i := 0) rfl
    have d1 := (HC0.out.keep HBn5.out).cell (i := 1) rfl
    have d2 := (HC0.out.keep HBn5.out).cell (i := 2) rfl
    go_wp2_with fail
    refine (HGC.out _ HBn5.out).mono ?_
    rintro e w6 ⟨hch, hbx⟩
    obtain rfl := hch.int
    rw [HOK.out.2.2.2.2.2]
    have HB6 := Lib.hid (HBn5.out.trans (hbx.mono HBn5.out.size))
    clear hch hbx d0 d1 d2
    have d0 := (HC0.out.keep HB6.out).cell (i := 0) rfl
    have d1 := (HC0.out.keep HB6.out).cell (i := 1) rfl
    have d2 := (HC0.out.keep HB6.out).cell (i := 2) rfl
    simp only [Bool.false_eq_true, if_false]
    go_wp2
    go_ret2
    exact ⟨rfl, HB0.out.1.trans (HB6.out.mono HB0.out.1.size)⟩

/-- What the operations of the drawn region leave behind. -/
def GoRegC (w wr : World) (k f : Int) (p : Option Addr) (n c : Nat) (zs : List Int) (g : Nat) (x0 : Int) (i : Nat) (v : Value) (W : World) : Prop := match i with | 0 => v = .bool true | 1 => v = .bool true | 2 => v = .int .u32 x0 | 3 => ∃ b1 e1, v = .agg #[.int .u8 k, .int .u8 f, .slice b1 zs.length e1] ∧ Reads W b1 zs.length zs | 4 => v = .agg #[.int .u8 k, .int .u8 f, .slice p n c] | 5 => v = .bool true | 6 => v = .bool true | 7 => v = .bool true | _ => True
theorem GoRegC_mono {w wr : World} {k f : Int} {p : Option Addr} {n c : Nat} {zs : List Int} {g : Nat} {x0 : Int} {W W' : World} (hb : Below W.heap.size W W') (jo : Nat) (xo : Value) (h : GoRegC w wr k f p n c zs g x0 jo xo W) : GoRegC w wr k f p n c zs g x0 jo xo W' := by
  unfold GoRegC at h ⊢
  split at h <;> try exact h
  · obtain ⟨b1, e1, e0, h0_0⟩ := h
    exact ⟨b1, e1, e0, h0_0.below hb⟩

set_option maxRecDepth 100000 in
set_option maxHeartbeats 1600000 in
theorem got_C (k f : Int) (p : Option Addr) (n c : Nat) (zs : List Int) (w : World) (hr : Reads w p n zs) (hz : Byt zs) (hc : n ≤ c) (hn : n ≤ 200000) (hD : okData k f zs = false) (hI : okInit k f zs = false) (hS : okSack k f zs = false) (hF : okFwd k f zs = false) (hT : okTime k f zs = false) (hC : okCum k f zs = true) :
    Calls Try.prog 47 #[.agg #[.int .u8 k, .int .u8 f, .slice p n c]] w fun e w' => e = .returned (.tuple #[.int .i64 1, .bool true]) ∧ Below w.heap.size w w' := by
  obtain ⟨w0, hw0⟩ : ∃ w0, w.alloc (.cells #[.int .u8 k, .int .u8 f, .slice p n c] 28) = w0 := ⟨_, rfl⟩
  have hb0 : Below w.heap.size w w0 := by rw [← hw0]; exact chunkBelow _ _ _ _
  have hs0 : w0.heap.size = w.heap.size + 1 := by rw [← hw0]; simp
  have hC0 : Arr w0 w.heap.size 28 [.int .u8 k, .int .u8 f, .slice p n c] := by rw [← hw0]; exact chunkBox _ _ _ _
  have HC0 := Lib.hid hC0
  have HB0 := Lib.hid (And.intro hb0 hs0)
  have HR0 := Lib.hid (show ∀ W, Below w0.heap.size w0 W → Reads W p n zs from fun W h => (hr.below hb0).below h)
  have HL := Lib.hid hr.1
  have HGD := Lib.hid (show ∀ W, Below w0.heap.size w0 W → Calls Try.prog 16 #[.agg #[.int .u8 k, .int .u8 f, .slice p n c]] W (GotD W k f zs) from fun W h => pgetData k f p n c zs W (HR0.out W h) hz hc hn)
  have HGI := Lib.hid (show ∀ W, Below w0.heap.size w0 W → Calls Try.prog 24 #[.agg #[.int .u8 k, .int .u8 f, .slice p n c]] W (GotI W k f zs) from fun W h => pgetInit k f p n c zs W (HR0.out W h) hz hc hn)
  have HGS := Lib.hid (show ∀ W, Below w0.heap.size w0 W → Calls Try.prog 30 #[.agg #[.int .u8 k, .int .u8 f, .slice p n c]] W (GotS W (okSack k f zs) (natAt zs 0 4) (natAt zs 4 4) (sackG zs) (sackD zs)) from fun W h => pgetSack k f p n c zs W (HR0.out W h) hz hc hn)
  have HGF := Lib.hid (show ∀ W, Below w0.heap.size w0 W → Calls Try.prog 35 #[.agg #[.int .u8 k, .int .u8 f, .slice p n c]] W (GotF W (okFwd k f zs) (natAt zs 0 4) (pairsAt zs 4 ((zs.length - 4 + 3) / 4))) from fun W h => pgetForward k f p n c zs W (HR0.out W h) hz hc hn)
  have HGT := Lib.hid (show ∀ W, Below w0.heap.size w0 W → Calls Try.prog 39 #[.agg #[.int .u8 k, .int .u8 f, .slice p n c]] W (fun e w' => Chose (okTime k f zs) (.int .i64 (timeV zs)) (.int .i64 0) e ∧ Below W.heap.size W w') from fun W h => pgetTime k f p n c zs W (HR0.out W h) hz hc hn)
  have HGC := Lib.hid (show ∀ W, Below w0.heap.size w0 W → Calls Try.prog 41 #[.agg #[.int .u8 k, .int .u8 f, .slice p n c]] W (fun e w' => Chose (okCum k f zs) (.int .u32 (natAt zs 0 4)) (.int .u32 0) e ∧ Below W.heap.size W w') from fun W h => pgetCum k f p n c zs W (HR0.out W h) hz hc hn)
  have HOK := Lib.hid (And.intro hD (And.intro hI (And.intro hS (And.intro hF (And.intro hT hC)))))
  clear hb0 hC0 hr hD hI hS hF hT hC
  have d0 := HC0.out.cell (i := 0) rfl
  have d1 := HC0.out.cell (i := 1) rfl
  have d2 := HC0.out.cell (i := 2) rfl
  go_enter Try.func47, Try.ntmps47
  go_wp2_with fail
  refine (HGD.out _ (Below.refl w0.heap.size w0)).mono ?_
  rintro e w1 ⟨a1, c1, hch, hbx, hrow⟩
  obtain rfl : e = .returned (.tuple #[.agg #[.int .u32 0, .int .u16 0, .int .u16 0, .bool false, .bool false, .bool false, .slice none 0 0], .int .i64 7]) := by
    rw [HOK.out.1] at hch
    rcases hch with ⟨h, _⟩ | ⟨_, h⟩
    · cases h
    · exact h
  have hbw := (Below.refl w0.heap.size w0).trans (hbx.mono (Below.refl w0.heap.size w0).size)
  have hba : Below w1.heap.size w1 (w1.alloc (.cells #[.int .u32 0, .int .u16 0, .int .u16 0, .bool false, .bool false, .bool false, .slice none 0 0] 26)) := (Below.refl _ _).alloc (Nat.le_refl _) _
  have hbn := hbw.trans (hba.mono hbw.size)
  have HB1 := Lib.hid hbn
  clear d0 d1 d2
  have d0 := (HC0.out.keep hbn).cell (i := 0) rfl
  have d1 := (HC0.out.keep hbn).cell (i := 1) rfl
  have d2 := (HC0.out.keep hbn).cell (i := 2) rfl
  clear hbn hba hbw hch hbx hrow
  go_wp2_with fail
  refine (HGI.out _ HB1.out).mono ?_
  rintro e w2 ⟨a1, c1, hch, hbx, hrow⟩
  obtain rfl : e = .returned (.tuple #[.agg #[.int .u32 0, .int .u32 0, .int .u16 0, .int .u16 0, .int .u32 0, .slice none 0 0], .int .i64 7]) := by
    rw [HOK.out.2.1] at hch
    rcases hch with ⟨h, _⟩ | ⟨_, h⟩
    · cases h
    · exact h
  have hbw := HB1.out.trans (hbx.mono HB1.out.size)
  have hba : Below w2.heap.size w2 (w2.alloc (.cells #[.int .u32 0, .int .u32 0, .int .u16 0, .int .u16 0, .int .u32 0, .slice none 0 0] 43)) := (Below.refl _ _).alloc (Nat.le_refl _) _
  have hbn := hbw.trans (hba.mono hbw.size)
  have HB2 := Lib.hid hbn
  clear d0 d1 d2
  have d0 := (HC0.out.keep hbn).cell (i := 0) rfl
  have d1 := (HC0.out.keep hbn).cell (i := 1) rfl
  have d2 := (HC0.out.keep hbn).cell (i := 2) rfl
  clear hbn hba hbw hch hbx hrow
  go_wp2_with fail
  refine (HGS.out _ HB2.out).mono ?_
  rintro e w3 ⟨a1, c1, a2, c2, hch, hbx, hrow, hrow2⟩
  obtain rfl : e = .returned (.tuple #[.agg #[.int .u32 0, .int .u32 0, .slice none 0 0, .slice none 0 0], .int .i64 7]) := by
    rw [HOK.out.2.2.1] at hch
    rcases hch with ⟨h, _⟩ | ⟨_, h⟩
    · cases h
    · exact h
  have hbw := HB2.out.trans (hbx.mono HB2.out.size)
  have hba : Below w3.heap.size w3 (w3.alloc (.cells #[.int .u32 0, .int .u32 0, .slice none 0 0, .slice none 0 0] 52)) := (Below.refl _ _).alloc (Nat.le_refl _) _
  have hbn := hbw.trans (hba.mono hbw.size)
  have HB3 := Lib.hid hbn
  clear d0 d1 d2
  have d0 := (HC0.out.keep hbn).cell (i := 0) rfl
  have d1 := (HC0.out.keep hbn).cell (i := 1) rfl
  have d2 := (HC0.out.keep hbn).cell (i := 2) rfl
  clear hbn hba hbw hch hbx hrow hrow2
  go_wp2_with fail
  refine (HGF.out _ HB3.out).mono ?_
  rintro e w4 ⟨a1, c1, hch, hbx, hrow⟩
  obtain rfl : e = .returned (.tuple #[.agg #[.int .u32 0, .slice none 0 0], .int .i64 7]) := by
    rw [HOK.out.2.2.2.1] at hch
    rcases hch with ⟨h, _⟩ | ⟨_, h⟩
    · cases h
    · exact h
  have hbw := HB3.out.trans (hbx.mono HB3.out.size)
  have hba : Below w4.heap.size w4 (w4.alloc (.cells #[.int .u32 0, .slice none 0 0] 56)) := (Below.refl _ _).alloc (Nat.le_refl _) _
  have hbn := hbw.trans (hba.mono hbw.size)
  have HB4 := Lib.hid hbn
  clear d0 d1 d2
  have d0 := (HC0.out.keep hbn).cell (i := 0) rfl
  have d1 := (HC0.out.keep hbn).cell (i := 1) rfl
  have d2 := (HC0.out.keep hbn).cell (i := 2) rfl
  clear hbn hba hbw hch hbx hrow
  go_wp2_with fail
  refine (HGT.out _ HB4.out).mono ?_
  rintro e w5 ⟨hch, hbx⟩
  obtain rfl := hch.int
  rw [HOK.out.2.2.2.2.1]
  have HB5 := Lib.hid (HB4.out.trans (hbx.mono HB4.out.size))
  clear hch hbx d0 d1 d2
  have d0 := (HC0.out.keep HB5.out).cell (i := 0) rfl
  have d1 := (HC0.out.keep HB5.out).cell (i := 1) rfl
  have d2 := (HC0.out.keep HB5.out).cell (i := 2) rfl
  simp only [Bool.false_eq_true, if_false]
  go_wp2_with fail
  refine (HGC.out _ HB5.out).mono ?_
  rintro e w6 ⟨hch, hbx⟩
  obtain rfl := hch.int
  rw [HOK.out.2.2.2.2.2]
  have HB6 := Lib.hid (HB5.out.trans (hbx.mono HB5.out.size))
  clear hch hbx d0 d1 d2
  have d0 := (HC0.out.keep HB6.out).cell (i := 0) rfl
  have d1 := (HC0.out.keep HB6.out).cell (i := 1) rfl
  have d2 := (HC0.out.keep HB6.out).cell (i := 2) rfl
  simp only [if_true]
  obtain ⟨x0, hx0⟩ : ∃ x, natAt zs 0 4 = x := ⟨_, rfl⟩
  rw [hx0]
  have hpe := okCum_eq HOK.out.2.2.2.2.2
  rw [hx0] at hpe
  have HPUT := Lib.hid (show ∀ W, Below w6.heap.size w6 W → Calls Try.prog 45 #[.int .u32 x0] W fun e w' => Puts W k f zs e w' from by
    intro W h
    have h2 := pputCum x0 W (hx0 ▸ (natAt4 hz 0).1) (hx0 ▸ (natAt4 hz 0).2)
    obtain ⟨q1, q2, q3⟩ := hpe
    rw [q3, q2]; rw [q1]
    exact h2)
  clear hpe hx0
  go_wp2_with fail
  have HCr := Lib.hid (HC0.out.keep HB6.out)
  clear d0 d1 d2
  have HRr := Lib.hid (show ∀ W, Below w6.heap.size w6 W → Reads W p n zs from fun W h => HR0.out W (HB6.out.trans (h.mono HB6.out.size)))
  obtain ⟨g, hg⟩ : ∃ g : Nat, g = 0 := ⟨_, rfl⟩
  clear hg
  refine wp_region_any (by kernel_rfl) ?_
  refine Vals.wpAny_goodF (GoRegC w w6 k f p n c zs g x0) (fun _ => (fun W => Below w6.heap.size w6 W)) [some 106, some 107, some 108, some 109, some 110, some 111, some 112, some 5] 115 _ _ rfl (by kernel_rfl) (by kernel_rfl) (by decide) ?step6 ?fin6 (Below.refl _ _).drew
  case step6 =>
    intro i o d ho hd listed a W hls hun hcl hJ hdf hdep hfr K hK
    match i, ho, hd with
    | 0, ho, hd =>
      have ho' := ho
      simp only [List.getElem?_toArray, List.getElem?_cons_zero, Option.some.injEq] at ho hd
      subst ho hd
      have r5 : a.eval (.tmp 5) = .bool true := hfr 5 (fun q hq => match q, hq with | 0, hq => by simp at hq | 1, hq => by simp at hq | 2, hq => by simp at hq | 3, hq => by simp at hq | 4, hq => by simp at hq | 5, hq => by simp at hq | 6, hq => by simp at hq | 7, _ => Vals.jnot hun (fun h => hcl 7 _ rfl h ⟨0, .phase⟩ (by simp) rfl) | q + 8, hq => by simp at hq)
      rw [Vals.eval_tmp] at r5
      refine Vals.wpOp_run ho' rfl ?_
      clear hdep hfr ho' hdf hcl
      go_simp
      exact hK _ _ (fun _ _ h => h) hJ (fun _ => rfl)
    | 1, ho, hd =>
      have ho' := ho
      simp only [List.getElem?_toArray, List.getElem?_cons_zero, List.getElem?_cons_succ, Option.some.injEq] at ho hd
      subst ho hd
      have r106 : a.eval (.tmp 106) = .bool true := (hdep ⟨0, .data⟩ (by simp) rfl).2 106 rfl
      rw [Vals.eval_tmp] at r106
      refine Vals.wpOp_run ho' rfl ?_
      clear hdep hfr ho' hdf hcl
      go_simp
      exact hK _ _ (fun _ _ h => h) hJ (fun _ => rfl)
    | 2, ho, hd =>
      have ho' := ho
      simp only [List.getElem?_toArray, List.getElem?_cons_zero, List.getElem?_cons_succ, Option.some.injEq] at ho hd
      subst ho hd
      have hgd : a.eval (.tmp 107) = .bool true := (hdep ⟨1, .guard⟩ (by simp) rfl).2 107 rfl
      have r12 : a.eval (.tmp 12) = .int .u32 x0 := hfr 12 (fun q hq => absurd (List.mem_of_getElem? hq) (by decide))
      rw [Vals.eval_tmp] at r12
      refine Vals.wpOp_run ho' (by unfold Region.wanted; simp only []; rw [Vals.yielded_of (d := 107) rfl hgd]; rfl) ?_
      clear hdep hfr ho' hdf hgd hcl
      go_simp
      exact hK _ _ (fun _ _ h => h) hJ (fun _ => rfl)
    | 3, ho, hd =>
      have ho' := ho
      simp only [List.getElem?_toArray, List.getElem?_cons_zero, List.getElem?_cons_succ, Option.some.injEq] at ho hd
      subst ho hd
      have hgd : a.eval (.tmp 107) = .bool true := (hdep ⟨1, .guard⟩ (by simp) rfl).2 107 rfl
      have r108 : a.eval (.tmp 108) = .int .u32 x0 := (hdep ⟨2, .data⟩ (by simp) rfl).2 108 rfl
      rw [Vals.eval_tmp] at r108
      refine Vals.wpOp_run ho' (by unfold Region.wanted; simp only []; rw [Vals.yielded_of (d := 107) rfl hgd]; rfl) ?_
      clear hdep hfr ho' hdf hgd hcl
      go_simp
      refine (HPUT.out W hJ).mono ?_
      rintro e w' ⟨b1, e1, rfl, hb3, hr3⟩
      exact hK _ _ (GoRegC_mono hb3) (hJ.trans (hb3.mono hJ.size)) (fun _ => ⟨_, _, rfl, hr3.reads⟩)
    | 4, ho, hd =>
      have ho' := ho
      simp only [List.getElem?_toArray, List.getElem?_cons_zero, List.getElem?_cons_succ, Option.some.injEq] at ho hd
      subst ho hd
      have hgd : a.eval (.tmp 107) = .bool true := (hdep ⟨1, .guard⟩ (by simp) rfl).2 107 rfl
      have r1 : a.eval (.tmp 1) = .pointer (some ⟨w.heap.size, 0, none⟩) := hfr 1 (fun q hq => absurd (List.mem_of_getElem? hq) (by decide))
      rw [Vals.eval_tmp] at r1
      have c0 := (HCr.out.keep hJ).cell (i := 0) rfl
      have c1 := (HCr.out.keep hJ).cell (i := 1) rfl
      have c2 := (HCr.out.keep hJ).cell (i := 2) rfl
      refine Vals.wpOp_run ho' (by unfold Region.wanted; simp only []; rw [Vals.yielded_of (d := 107) rfl hgd]; rfl) ?_
      clear hdep hfr ho' hdf hgd hcl
      go_simp
      exact hK _ _ (fun _ _ h => h) hJ (fun _ => rfl)
    | 5, ho, hd =>
      have ho' := ho
      simp only [List.getElem?_toArray, List.getElem?_cons_zero, List.getElem?_cons_succ, Option.some.injEq] at ho hd
      subst ho hd
      have hgd : a.eval (.tmp 107) = .bool true := (hdep ⟨1, .guard⟩ (by simp) rfl).2 107 rfl
      have g109 : ∃ b1_109 e1_109, a.eval (.tmp 109) = .agg #[.int .u8 k, .int .u8 f, .slice b1_109 zs.length e1_109] ∧ Reads W b1_109 zs.length zs := (hdep ⟨3, .data⟩ (by simp) rfl).2 109 rfl
      rw [Vals.eval_tmp] at g109
      obtain ⟨b1_109, e1_109, r109, h109_0⟩ := g109
      have r110 : a.eval (.tmp 110) = .agg #[.int .u8 k, .int .u8 f, .slice p n c] := (hdep ⟨4, .data⟩ (by simp) rfl).2 110 rfl
      rw [Vals.eval_tmp] at r110
      refine Vals.wpOp_run ho' (by unfold Region.wanted; simp only []; rw [Vals.yielded_of (d := 107) rfl hgd]; rfl) ?_
      clear hdep hfr ho' hdf hgd hcl
      go_simp
      refine (rsame_yes k f b1_109 p zs.length n e1_109 c zs W h109_0 (HRr.out W hJ) hz (by have := (HRr.out W hJ).1; omega)).mono ?_
      rintro e w' ⟨rfl, hb3⟩
      exact hK _ _ (GoRegC_mono hb3) (hJ.trans (hb3.mono hJ.size)) (fun _ => rfl)
    | 6, ho, hd =>
      have ho' := ho
      simp only [List.getElem?_toArray, List.getElem?_cons_zero, List.getElem?_cons_succ, Option.some.injEq] at ho hd
      subst ho hd
      have r107 : a.eval (.tmp 107) = .bool true := (hdep ⟨1, .data⟩ (by simp) rfl).2 107 rfl
      rw [Vals.eval_tmp] at r107
      have r111 : a.eval (.tmp 111) = .bool true := (hdep ⟨5, .data⟩ (by simp) rfl).2 111 rfl
      rw [Vals.eval_tmp] at r111
      refine Vals.wpOp_run ho' rfl ?_
      clear hdep hfr ho' hdf hcl
      go_simp
      exact hK _ _ (fun _ _ h => h) hJ (fun _ => rfl)
    | 7, ho, hd =>
      have ho' := ho
      simp only [List.getElem?_toArray, List.getElem?_cons_zero, List.getElem?_cons_succ, Option.some.injEq] at ho hd
      subst ho hd
      have r112 : a.eval (.tmp 112) = .bool true := (hdep ⟨6, .data⟩ (by simp) rfl).2 112 rfl
      rw [Vals.eval_tmp] at r112
      refine Vals.wpOp_run ho' rfl ?_
      clear hdep hfr ho' hdf hcl
      go_simp
      exact hK _ _ (fun _ _ h => h) hJ (fun _ => rfl)
    | i + 8, ho, hd => simp at ho
  case fin6 =>
    intro listed W fq hall hJ hG
    have q0 : fq 106 = .bool true := hG 0 106 rfl
    have q1 : fq 107 = .bool true := hG 1 107 rfl
    have q2 : fq 108 = .int .u32 x0 := hG 2 108 rfl
    obtain ⟨b1_109, e1_109, q3, hq109_0⟩ : ∃ b1_109 e1_109, fq 109 = .agg #[.int .u8 k, .int .u8 f, .slice b1_109 zs.length e1_109] ∧ Reads W b1_109 zs.length zs := hG 3 109 rfl
    have q4 : fq 110 = .agg #[.int .u8 k, .int .u8 f, .slice p n c] := hG 4 110 rfl
    have q5 : fq 111 = .bool true := hG 5 111 rfl
    have q6 : fq 112 = .bool true := hG 6 112 rfl
    have q7 : fq 5 = .bool true := hG 7 5 rfl
    clear hG hall
    simp only [Vals.puts, Vals.pairs, List.filterMap_cons, List.filterMap_nil, id, List.map_cons, List.map_nil, List.foldl_cons, List.foldl_nil, q0, q1, q2, q3, q4, q5, q6, q7]
    clear q0 q1 q2 q3 q4 q5 q6 q7
    go_frame
    have HBn6 := Lib.hid (HB6.out.trans (hJ.mono HB6.out.size))
    clear hJ HPUT HCr HRr
    have d0 := (HC0.out.keep HBn6.out).cell (i := 0) rfl
    have d1 := (HC0.out.keep HBn6.out).cell (i := 1) rfl
    have d2 := (HC0.out.keep HBn6.out).cell (i := 2) rfl
    go_wp2
    go_ret2
    exact ⟨rfl, HB0.out.1.trans (HBn6.out.mono HB0.out.1.size)⟩


/-- Is the chunk taken by a Get? -/
def okAny (k f : Int) (zs : List Int) : Bool := okData k f zs || okInit k f zs || okSack k f zs || okFwd k f zs || okTime k f zs || okCum k f zs
/-- The kinds that a Get takes. -/
def knownK (k : Int) : Bool := decide (k = 0) || (decide (k = 1) || (decide (k = 2) || (decide (k = 3) || (decide (k = 4) || (decide (k = 5) || (decide (k = 7) || decide (k = 192)))))))
theorem okAny_known {k f : Int} {zs : List Int} (h : okAny k f zs = true) : knownK k = true := by
  unfold okAny at h
  simp only [Bool.or_eq_true] at h
  have hk : k = 0 ∨ k = 1 ∨ k = 2 ∨ k = 3 ∨ k = 4 ∨ k = 5 ∨ k = 7 ∨ k = 192 := by
    rcases h with ((((h | h) | h) | h) | h) | h
    · have := (okData_eq h).1; omega
    · have := okInit_kind h; omega
    · have := (okSack_eq h).1; omega
    · have := (okFwd_eq h).1; omega
    · have := okTime_kind h; omega
    · have := (okCum_eq h).1; omega
  rcases hk with rfl | rfl | rfl | rfl | rfl | rfl | rfl | rfl <;> decide
theorem got_any (k f : Int) (p : Option Addr) (n c : Nat) (zs : List Int) (w : World) (hr : Reads w p n zs) (hz : Byt zs) (hc : n ≤ c) (hn : n ≤ 200000) :
    Calls Try.prog 47 #[.agg #[.int .u8 k, .int .u8 f, .slice p n c]] w fun e w' => e = .returned (.tuple #[.int .i64 (if okAny k f zs = true then 1 else 0), .bool true]) ∧ Below w.heap.size w w' := by
  have fls : ∀ {b : Bool}, ¬ b = true → b = false := fun h => by simpa using h
  by_cases hD : okData k f zs = true
  · have hk := (okData_eq hD).1
    have h := got_D k f p n c zs w hr hz hc hn hD (fls fun h => by have := okInit_kind h; omega) (fls fun h => by have := (okSack_eq h).1; omega) (fls fun h => by have := (okFwd_eq h).1; omega) (fls fun h => by have := okTime_kind h; omega) (fls fun h => by have := (okCum_eq h).1; omega)
    rw [if_pos (by unfold okAny; simp [hD])]; exact h
  by_cases hI : okInit k f zs = true
  · have hk := okInit_kind hI
    have h := got_I k f p n c zs w hr hz hc hn (fls hD) hI (fls fun h => by have := (okSack_eq h).1; omega) (fls fun h => by have := (okFwd_eq h).1; omega) (fls fun h => by have := okTime_kind h; omega) (fls fun h => by have := (okCum_eq h).1; omega)
    rw [if_pos (by unfold okAny; simp [hI])]; exact h
  by_cases hS : okSack k f zs = true
  · have hk := (okSack_eq hS).1
    have h := got_S k f p n c zs w hr hz hc hn (fls hD) (fls hI) hS (fls fun h => by have := (okFwd_eq h).1; omega) (fls fun h => by have := okTime_kind h; omega) (fls fun h => by have := (okCum_eq h).1; omega)
    rw [if_pos (by unfold okAny; simp [hS])]; exact h
  by_cases hF : okFwd k f zs = true
  · have hk := (okFwd_eq hF).1
    have h := got_F k f p n c zs w hr hz hc hn (fls hD) (fls hI) (fls hS) hF (fls fun h => by have := okTime_kind h; omega) (fls fun h => by have := (okCum_eq h).1; omega)
    rw [if_pos (by unfold okAny; simp [hF])]; exact h
  by_cases hT : okTime k f zs = true
  · have hk := okTime_kind hT
    have h := got_T k f p n c zs w hr hz hc hn (fls hD) (fls hI) (fls hS) (fls hF) hT (fls fun h => by have := (okCum_eq h).1; omega)
    rw [if_pos (by unfold okAny; simp [hT])]; exact h
  by_cases hC : okCum k f zs = true
  · have h := got_C k f p n c zs w hr hz hc hn (fls hD) (fls hI) (fls hS) (fls hF) (fls hT) hC
    rw [if_pos (by unfold okAny; simp [hC])]; exact h
  · have h := got_N k f p n c zs w hr hz hc hn (fls hD) (fls hI) (fls hS) (fls hF) (fls hT) (fls hC)
    rw [if_neg (by unfold okAny; simp [hD, hI, hS, hF, hT, hC])]; exact h
end Go.Proofs.Ytlihcckgnnnekaa
