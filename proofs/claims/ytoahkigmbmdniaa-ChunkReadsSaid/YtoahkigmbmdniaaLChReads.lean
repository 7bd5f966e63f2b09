/-
  The walk of ChunkReads.
-/
import Derived.Test.YtoahkigmbmdniaaCkWorks
import Derived.Test.YtoahkigmbmdniaaRef00c
import Derived.Test.YtoahkigmbmdniaaApart
import Derived.Test.YtoahkigmbmdniaaFrame
namespace Go.Proofs.Ytoahkigmbmdniaa
open Go.RowKit
set_option linter.unusedVariables false

/-- Two rows in a slice that was built of them just now. -/
theorem apart_2 (r0 r1 : ARow) (T : TypeId) (W : World) (o0 : r0.ok W) (o1 : r1.ok W) (d01 : r0.blk = none ∨ r0.blk ≠ r1.blk) :
    Calls Try.prog 17 #[.slice (some ⟨W.heap.size, 0, none⟩) 2 2] (W.alloc (.cells #[r0.val, r1.val] T)) fun e w' => e = .returned (.bool true) ∧ Below W.heap.size W w' := by
  have lt : ∀ r : ARow, r.ok W → r.blk ≠ some W.heap.size := by
    intro r h e
    match r, h, e with
    | some (g, _, _), h, e =>
      have eg : g = W.heap.size := by simpa [ARow.blk] using e
      have := h.1.lt
      omega
  have keep : ∀ r : ARow, r.ok W → r.ok (W.alloc (.cells #[r0.val, r1.val] T)) := fun r h => ARow.ok_of h (fun g _ hg => Below.heap_alloc _ _ _ hg)
  refine (apart_yes W.heap.size 0 2 [r0, r1] _ (by simp) (by simp) ?_ ?_ ?_ ?_).mono fun e w' ⟨h1, h2⟩ => ⟨h1, ((Below.refl _ _).alloc (Nat.le_refl _) _).trans (h2.mono (by simp))⟩
  · intro k r h
    match k, h with
    | 0, h => simp at h; subst h; simp
    | 1, h => simp at h; subst h; simp
  · intro k r h
    match k, h with
    | 0, h => simp at h; subst h; exact keep _ o0
    | 1, h => simp at h; subst h; exact keep _ o1
  · intro k r h
    match k, h with
    | 0, h => simp at h; subst h; exact lt _ o0
    | 1, h => simp at h; subst h; exact lt _ o1
  · intro j k r s hr hs hjk
    match j, k, hr, hs with
    | 0, 0, _, _ => exact absurd rfl hjk
    | 1, 1, _, _ => exact absurd rfl hjk
    | 0, 1, hr, hs => simp at hr hs; subst hr hs; exact d01
    | 1, 0, hr, hs => simp at hr hs; subst hr hs; exact ARow.ne_symm d01

theorem chunkBox (W : World) (k f : Int) (v : Value) : Arr (W.alloc (.cells #[.int .u8 k, .int .u8 f, v] 24)) W.heap.size 24 [.int .u8 k, .int .u8 f, v] := arr_new _ _ _
theorem chunkBelow (W : World) (k f : Int) (v : Value) : Below W.heap.size W (W.alloc (.cells #[.int .u8 k, .int .u8 f, v] 24)) := (Below.refl _ _).alloc (Nat.le_refl _) _

set_option maxRecDepth 100000 in
set_option maxHeartbeats 3200000 in
theorem chunkReads_walk (a : Option Addr) (len cap : Nat) (z : List Int) (w : World) (w0 : IsRow .u8 w a len cap z) :
    Calls Try.prog 4 #[.slice a len cap] w fun e w' => e = .returned (.bool true) ∧ Below w.heap.size w w' := by
  obtain ⟨hr, hbyt, hcap, hmax⟩ := w0.reads
  clear w0
  generalize z.take len = zs at hr hbyt
  unfold maxLen at hmax
  by_cases hlong : 131072 < len
  · have hg : (131072 : Int) < len := by omega
    go_enter Try.func4, Try.ntmps4
    go_wp2_with (go_at_call 11; refine (works_any _).mono ?_; rintro e w' ⟨rfl, hb⟩)
    go_ret
    exact ⟨rfl, hb⟩
  have hg : ¬ (131072 : Int) < len := by omega
  have HR := Lib.hid (And.intro hr hbyt)
  have hroom := roomy_any a len cap zs w hr (by omega)
  have HRo := Lib.hid hroom
  clear hr hbyt hroom
  go_enter Try.func4, Try.ntmps4
  go_wp2_with fail
  refine HRo.out.mono ?_
  rintro e w1 ⟨rfl, hb1, hk1⟩
  have hin : Reads w1 (some ⟨w.heap.size, 0, none⟩) len zs := by
    have := hk1.reads 0 len (by simp [HR.out.1.1])
    simpa [HR.out.1.1] using this
  have hrd := read_any (some ⟨w.heap.size, 0, none⟩) len (len + 16) zs w1 hin HR.out.2 (by omega) (by omega)
  have H1 := Lib.hid (And.intro hb1 hk1)
  have HRD := Lib.hid hrd
  clear hb1 hk1 hin hrd HRo
  go_wp2_with fail
  refine HRD.out.mono ?_
  rintro e w2 ⟨hok, hb2⟩
  have hb2w := H1.out.1.trans (hb2.mono H1.out.1.size)
  have hk2 := H1.out.2.below hb2
  clear HRD
  by_cases hp : ∃ (k f : Int) (body : List Int), body.length ≤ 65531 ∧ encC k f body <+: zs
  · obtain ⟨k, f, body, hl, hp⟩ := hp
    obtain ⟨g, rfl, hg2, hkg⟩ := hok.yes hp hl
    have hbody : Byt body := by
      obtain ⟨_, _, _, _, _, p6, _⟩ := pre_parts hp hl
      rw [← p6]
      exact (HR.out.2.drop _).take _
    have hb3 := chunkBelow w2 k f (.slice (some ⟨g, 0, none⟩) body.length body.length)
    have ha3 := chunkBox w2 k f (.slice (some ⟨g, 0, none⟩) body.length body.length)
    have hb3w := hb2w.trans (hb3.mono hb2w.size)
    have hrr := rread_any a len cap zs _ (HR.out.1.below hb3w) HR.out.2 hcap (by omega)
    have hng : w.heap.size ≠ g := by have := hk2.lt; have := H1.out.2.lt; omega
    have H3 := Lib.hid (And.intro hb3w (And.intro ha3 (And.intro (hkg.below hb3) (And.intro (hk2.below hb3) hng))))
    have HRR := Lib.hid hrr
    have HP := Lib.hid (And.intro hp hbody)
    clear hb2 hb2w hk2 hok hkg hb3 ha3 hb3w hrr hp hbody hng H1
    go_wp2_with fail
    refine HRR.out.mono ?_
    rintro e w4 ⟨hok, hb4⟩
    obtain ⟨a5, rfl, hr5⟩ := hok.yes HP.out.1 hl
    have hb5 := chunkBelow w4 k f (.slice a5 body.length body.length)
    have ha5 := chunkBox w4 k f (.slice a5 body.length body.length)
    have hb45 := hb4.trans (hb5.mono hb4.size)
    have ha3 := H3.out.2.1.keep hb45
    have hk3 := H3.out.2.2.1.below hb45
    have hin3 := H3.out.2.2.2.1.below hb45
    have hb5w := H3.out.1.trans (hb45.mono H3.out.1.size)
    have hsame := same_yes k f (some ⟨g, 0, none⟩) a5 body.length body.length body.length body _ (hk3.readsAll _ rfl) (hr5.below hb5) HP.out.2 (by omega)
    have c0 := ha3.cell (i := 0) rfl
    have c1 := ha3.cell (i := 1) rfl
    have c2 := ha3.cell (i := 2) rfl
    have d0 := ha5.cell (i := 0) rfl
    have d1 := ha5.cell (i := 1) rfl
    have d2 := ha5.cell (i := 2) rfl
    have H5 := Lib.hid (And.intro hb5w (And.intro ha3 (And.intro hk3 (And.intro hin3 H3.out.2.2.2.2))))
    have HS := Lib.hid hsame
    clear hb4 hok hr5 hb5 ha5 hb45 ha3 hk3 hin3 hb5w hsame H3 HRR
    go_wp2_with fail
    refine HS.out.mono ?_
    rintro e w6 ⟨rfl, hb6⟩
    clear c0 c1 c2 d0 d1 d2 HS
    have hb6w := H5.out.1.trans (hb6.mono H5.out.1.size)
    have ha6 := H5.out.2.1.keep hb6
    have hk6 := H5.out.2.2.1.below hb6
    have hin6 := H5.out.2.2.2.1.below hb6
    have hkp := kept_yes a w.heap.size len cap zs w6 hin6 (HR.out.1.below hb6w) HR.out.2 (by omega)
    have H6 := Lib.hid (And.intro hb6w (And.intro ha6 (And.intro hk6 (And.intro hin6 H5.out.2.2.2.2))))
    have HKP := Lib.hid hkp
    clear hb6 hb6w ha6 hk6 hin6 hkp H5
    go_wp2_with fail
    refine HKP.out.mono ?_
    rintro e w7 ⟨rfl, hb7⟩
    have hb7w := H6.out.1.trans (hb7.mono H6.out.1.size)
    have ha7 := H6.out.2.1.keep hb7
    have hk7 := H6.out.2.2.1.below hb7
    have hin7 := H6.out.2.2.2.1.below hb7
    have c2 := ha7.cell (i := 2) rfl
    have hlz := HR.out.1.1
    have hap := apart_2 (some (g, body.length, body)) (some (w.heap.size, len, zs ++ List.replicate 16 90)) 22 w7 ⟨hk7, HP.out.2, Nat.le_refl _, by omega⟩ ⟨hin7, HR.out.2.append (Byt.rep (by omega) (by omega) _), by simp; omega, by simp; omega⟩
      (.inr (by simp [ARow.blk]; exact fun e => H6.out.2.2.2.2 e.symm))
    simp only [ARow.val, List.length_append, List.length_replicate, hlz] at hap
    have HB7 := Lib.hid hb7w
    have HA := Lib.hid hap
    clear hb7 hb7w ha7 hk7 hin7 hap hlz HKP H6
    go_wp2_with fail
    refine HA.out.mono ?_
    rintro e w8 ⟨rfl, hb8⟩
    have HB8 := Lib.hid (HB7.out.trans (hb8.mono HB7.out.size))
    clear hb8 HA HB7 c2
    go_wp2_with fail
    refine (works_any w8).mono ?_
    rintro e w9 ⟨rfl, hb9⟩
    have HB9 := Lib.hid (HB8.out.trans (hb9.mono HB8.out.size))
    clear hb9 HB8
    go_wp2
    go_ret
    exact ⟨rfl, HB9.out⟩
  · have hno : ∀ (k f : Int) (body : List Int), body.length ≤ 65531 → ¬ encC k f body <+: zs := fun k f body hl h => hp ⟨k, f, body, hl, h⟩
    clear hp
    obtain rfl := hok.no hno
    unfold noChunk
    have hb3 := chunkBelow w2 0 0 (.slice none 0 0)
    have ha3 := chunkBox w2 0 0 (.slice none 0 0)
    have hb3w := hb2w.trans (hb3.mono hb2w.size)
    have hrr := rread_any a len cap zs _ (HR.out.1.below hb3w) HR.out.2 hcap (by omega)
    have H3 := Lib.hid (And.intro hb3w (And.intro ha3 (hk2.below hb3)))
    have HRR := Lib.hid hrr
    have HNO := Lib.hid hno
    clear hb2 hb2w hk2 hok hb3 ha3 hb3w hrr hno H1
    go_wp2_with fail
    refine HRR.out.mono ?_
    rintro e w4 ⟨hok, hb4⟩
    obtain rfl := hok.no HNO.out
    unfold noChunk
    have hb5 := chunkBelow w4 0 0 (.slice none 0 0)
    have ha5 := chunkBox w4 0 0 (.slice none 0 0)
    have hb45 := hb4.trans (hb5.mono hb4.size)
    have ha3 := H3.out.2.1.keep hb45
    have hin3 := H3.out.2.2.below hb45
    have hb5w := H3.out.1.trans (hb45.mono H3.out.1.size)
    have hsame := same_yes 0 0 none none 0 0 0 [] (w4.alloc (.cells #[.int .u8 0, .int .u8 0, .slice none 0 0] 24)) (Reads.zero _ _) (Reads.zero _ _) Byt.nil (by omega)
    have c0 := ha3.cell (i := 0) rfl
    have c1 := ha3.cell (i := 1) rfl
    have c2 := ha3.cell (i := 2) rfl
    have d0 := ha5.cell (i := 0) rfl
    have d1 := ha5.cell (i := 1) rfl
    have d2 := ha5.cell (i := 2) rfl
    have H5 := Lib.hid (And.intro hb5w (And.intro ha3 hin3))
    have HS := Lib.hid hsame
    clear hb4 hok hb5 ha5 hb45 ha3 hin3 hb5w hsame H3 HRR
    go_wp2_with fail
    refine HS.out.mono ?_
    rintro e w6 ⟨rfl, hb6⟩
    clear c0 c1 c2 d0 d1 d2 HS
    have hb6w := H5.out.1.trans (hb6.mono H5.out.1.size)
    have ha6 := H5.out.2.1.keep hb6
    have hin6 := H5.out.2.2.below hb6
    have hkp := kept_yes a w.heap.size len cap zs w6 hin6 (HR.out.1.below hb6w) HR.out.2 (by omega)
    have H6 := Lib.hid (And.intro hb6w (And.intro ha6 hin6))
    have HKP := Lib.hid hkp
    clear hb6 hb6w ha6 hin6 hkp H5
    go_wp2_with fail
    refine HKP.out.mono ?_
    rintro e w7 ⟨rfl, hb7⟩
    have hb7w := H6.out.1.trans (hb7.mono H6.out.1.size)
    have ha7 := H6.out.2.1.keep hb7
    have hin7 := H6.out.2.2.below hb7
    have c2 := ha7.cell (i := 2) rfl
    have hlz := HR.out.1.1
    have hap := apart_2 none (some (w.heap.size, len, zs ++ List.replicate 16 90)) 22 w7 trivial ⟨hin7, HR.out.2.append (Byt.rep (by omega) (by omega) _), by simp; omega, by simp; omega⟩ (.inl rfl)
    simp only [ARow.val, List.length_append, List.length_replicate, hlz] at hap
    have HB7 := Lib.hid hb7w
    have HA := Lib.hid hap
    clear hb7 hb7w ha7 hin7 hap hlz HKP H6
    go_wp2_with fail
    refine HA.out.mono ?_
    rintro e w8 ⟨rfl, hb8⟩
    have HB8 := Lib.hid (HB7.out.trans (hb8.mono HB7.out.size))
    clear hb8 HA HB7 c2
    go_wp2_with fail
    refine (works_any w8).mono ?_
    rintro e w9 ⟨rfl, hb9⟩
    have HB9 := Lib.hid (HB8.out.trans (hb9.mono HB8.out.size))
    clear hb9 HB8
    go_wp2
    go_ret
    exact ⟨rfl, HB9.out⟩
end Go.Proofs.Ytoahkigmbmdniaa
