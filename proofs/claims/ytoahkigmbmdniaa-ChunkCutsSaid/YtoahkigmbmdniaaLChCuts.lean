/-
  The walk of ChunkCuts.
-/
import Derived.Test.YtoahkigmbmdniaaLChCom
import Derived.Test.YtoahkigmbmdniaaCutRun
namespace Go.Proofs.Ytoahkigmbmdniaa
open Go.RowKit
set_option linter.unusedVariables false

theorem cut_none {k f : Int} {zs : List Int} (hl : zs.length ≤ 65531) {c : Nat} (hc : c < (encC k f zs).length) : ∀ (k' f' : Int) (body : List Int), body.length ≤ 65531 → ¬ encC k' f' body <+: (encC k f zs).take c := by
  intro k' f' body hb hp
  have h1 := hp.trans (List.take_prefix _ _)
  obtain ⟨rfl, rfl, rfl⟩ := pre_unique h1 (List.prefix_refl (encC k f zs)) hb hl
  have := hp.length_le
  rw [List.length_take] at this
  omega

set_option maxRecDepth 100000 in
set_option maxHeartbeats 3200000 in
theorem chunkCuts_walk (k f : Int) (a : Option Addr) (len cap : Nat) (z : List Int) (cut : Int) (w : World) (wk : (Lit.int .u8 k).wf = true) (wf : (Lit.int .u8 f).wf = true) (w0 : IsRow .u8 w a len cap z) (wc : (Lit.int .i64 cut).wf = true) :
    Calls Try.prog 7 #[.agg #[.int .u8 k, .int .u8 f, .slice a len cap], .int .i64 cut] w fun e w' => e = .returned (.bool true) ∧ Below w.heap.size w w' := by
  obtain ⟨hr, hbyt, hcap, hmax⟩ := w0.reads
  obtain ⟨k0, k1⟩ := wf_u8_in wk
  obtain ⟨f0, f1⟩ := wf_u8_in wf
  obtain ⟨cut0, cut1⟩ := wf_i64_in wc
  clear w0 wk wf wc
  generalize z.take len = zs at hr hbyt
  unfold maxLen at hmax
  obtain ⟨w0, hw0⟩ : ∃ w0, w.alloc (.cells #[.int .u8 k, .int .u8 f, .slice a len cap] 24) = w0 := ⟨_, rfl⟩
  have hb0 : Below w.heap.size w w0 := by rw [← hw0]; exact chunkBelow w k f _
  have ha0 : Arr w0 w.heap.size 24 [.int .u8 k, .int .u8 f, .slice a len cap] := by rw [← hw0]; exact chunkBox w k f _
  have c0 := ha0.cell (i := 0) rfl
  have c1 := ha0.cell (i := 1) rfl
  have c2 := ha0.cell (i := 2) rfl
  obtain ⟨lg, hlg⟩ : ∃ lg, lg = decide (131072 < len) := ⟨_, rfl⟩
  have hla := large_any k f a len cap w0 lg hlg
  have HR := Lib.hid (And.intro hr (And.intro hbyt hr.1))
  have H0 := Lib.hid (And.intro hb0 ha0)
  have HLA := Lib.hid hla
  have HK := Lib.hid (And.intro k0 (And.intro k1 (And.intro f0 f1)))
  clear hr hbyt hb0 ha0 hla k0 k1 f0 f1
  go_enter Try.func7, Try.ntmps7
  go_wp2_with fail
  refine HLA.out.mono ?_
  rintro e w1 ⟨rfl, hb1⟩
  have hb1w := H0.out.1.trans (hb1.mono H0.out.1.size)
  have ha1 := H0.out.2.keep hb1
  have H1 := Lib.hid (And.intro hb1w ha1)
  clear HLA hb1 hb1w ha1 c0 c1 c2 hw0 H0
  cases lg with
  | true =>
    clear hlg
    go_wp2_with (go_at_call 11; refine (works_any _).mono ?_; rintro e w' ⟨rfl, hb⟩)
    go_ret
    exact ⟨rfl, H1.out.1.trans (hb.mono H1.out.1.size)⟩
  | false =>
    have hlen : len ≤ 131072 := by simpa using hlg.symm
    clear hlg
    have c0 := H1.out.2.cell (i := 0) rfl
    have c1 := H1.out.2.cell (i := 1) rfl
    have c2 := H1.out.2.cell (i := 2) rfl
    have hwr := write_any k f a len cap zs w1 (HR.out.1.below H1.out.1) HR.out.2.1 HK.out.1 (by have := HK.out.2.1; omega) HK.out.2.2.1 (by have := HK.out.2.2.2; omega)
    have HW := Lib.hid hwr
    clear hwr
    go_wp2_with fail
    refine HW.out.mono ?_
    rintro e w2 ⟨r, rfl, hm2, hb2⟩
    have hb2w := H1.out.1.trans (hb2.mono H1.out.1.size)
    have hlo := encOf_len k f zs
    have H2 := Lib.hid (And.intro hb2w hm2)
    generalize hE : (encOf k f zs).length = E at *
    have HE := Lib.hid hE
    clear hm2 hb2 hb2w HW H1 c0 c1 c2 hE
    by_cases hneg : cut < 0
    · go_wp2_with (go_at_call 11; refine (works_any _).mono ?_; rintro e w' ⟨rfl, hb⟩)
      go_ret
      exact ⟨rfl, H2.out.1.trans (hb.mono H2.out.1.size)⟩
    by_cases hbig : (E : Int) ≤ cut
    · go_wp2_with (go_at_call 11; refine (works_any _).mono ?_; rintro e w' ⟨rfl, hb⟩)
      go_ret
      exact ⟨rfl, H2.out.1.trans (hb.mono H2.out.1.size)⟩
    obtain ⟨m, rfl⟩ := Int.eq_ofNat_of_zero_le (show 0 ≤ cut by omega)
    have hmE : m < E := by omega
    have hl5 : zs.length ≤ 65531 := by
      by_cases h : zs.length ≤ 65531
      · exact h
      · have := HE.out; rw [encOf_no h] at this; simp at this; omega
    have hcut := fun W => cut_h r.addr E E m (by omega) W
    have hrd := reads_cut (c := E) (by have := H2.out.2.reads; rw [HE.out] at this; exact this) 0 m (by omega) (by omega) (Nat.le_refl _)
    rw [show m - 0 = m from rfl, List.drop_zero] at hrd
    have hbE : Byt (encOf k f zs) := encOf_byt HK.out.1 (by have := HK.out.2.1; omega) HK.out.2.2.1 (by have := HK.out.2.2.2; omega) HR.out.2.1
    have hread := read_any (cutA r.addr 0 E) m E _ w2 hrd (hbE.take m) (by omega) (by omega)
    have hno : ∀ (k' f' : Int) (body : List Int), body.length ≤ 65531 → ¬ encC k' f' body <+: (encOf k f zs).take m := by
      rw [encOf_yes hl5]
      exact cut_none hl5 (by have := HE.out; rw [encOf_yes hl5] at this; omega)
    have HRD := Lib.hid hread
    have HNO := Lib.hid hno
    clear hrd hbE hread hno hlo
    go_wp2_with fail
    refine HRD.out.mono ?_
    rintro e w3 ⟨hok, hb3⟩
    obtain rfl := hok.no HNO.out
    unfold noChunk
    have hb4 := chunkBelow w3 0 0 (.slice none 0 0)
    have ha4 := chunkBox w3 0 0 (.slice none 0 0)
    have c0 := ha4.cell (i := 0) rfl
    have c1 := ha4.cell (i := 1) rfl
    have c2 := ha4.cell (i := 2) rfl
    have hsame := same_yes 0 0 none none 0 0 0 [] (w3.alloc (.cells #[.int .u8 0, .int .u8 0, .slice none 0 0] 24)) (Reads.zero _ _) (Reads.zero _ _) Byt.nil (by omega)
    have H4 := Lib.hid (H2.out.1.trans ((hb3.trans (hb4.mono hb3.size)).mono H2.out.1.size))
    have HS := Lib.hid hsame
    clear hok hb3 hb4 ha4 hsame H2 HRD HNO hcut
    go_wp2_with fail
    refine HS.out.mono ?_
    rintro e w5 ⟨rfl, hb5⟩
    have H5 := Lib.hid (H4.out.trans (hb5.mono H4.out.size))
    clear hb5 HS H4 c0 c1 c2
    go_wp2_with (go_at_call 11; refine (works_any _).mono ?_; rintro e w' ⟨rfl, hb⟩)
    go_ret
    exact ⟨rfl, H5.out.trans (hb.mono H5.out.size)⟩
end Go.Proofs.Ytoahkigmbmdniaa
