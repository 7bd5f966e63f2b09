/-
  The walk of ShaTwo, from the contracts.
-/
import Derived.Test.YthekihginpodmaaDoorShaTwoH
import Derived.Test.YthekihginpodmaaDoorShaLong
import Derived.Test.YthekihginpodmaaDoorBools
namespace Go.Proofs.YthekihginpodmaaDoor
open Go.RowKit
set_option linter.unusedVariables false

set_option maxHeartbeats 25600000 in
set_option maxRecDepth 100000 in
theorem shaTwo_of {St : World → Addr → List Nat → List Int → Prop} (SO : SumOk) (KO : StOk St) (a : Option Addr) (len cap : Nat) (L : List Sl) (a1 : Option Addr) (m cap1 : Nat) (bs : List Bool) (w : World) (w0 : Rows8 w a len cap L) (w1 : IsBools w a1 m cap1 bs) (ht : Tab w) :
    Calls Tryd.prog 7 #[.slice a len cap, .slice a1 m cap1] w fun e w' => e = .returned (.bool true) ∧ Below w.heap.size w w' := by
  have hlong := long_any w a len cap L w0
  have hmax := w0.hcap
  have hle := w0.hle
  have hmax1 := w1.hcap
  have hle1 := w1.hle
  unfold maxLen at hmax hmax1
  have HL := Lib.hid w0
  have HBS := Lib.hid w1
  have HT := Lib.hid ht
  clear w0 w1 ht
  by_cases hm50 : 50 < m
  · have gm : (50 : Int) < m := by omega
    go_enter Tryd.func7, Tryd.ntmps7
    go_wp2_with fail
    refine hlong.mono ?_
    rintro e w1 ⟨b, rfl, rfl, _⟩
    clear hlong
    cases b with
    | true =>
      go_wp2_with fail
      refine (works_any SO _ HT.out).mono ?_
      rintro e w3 ⟨rfl, hb⟩
      go_wp2
      go_ret
      exact ⟨rfl, hb⟩
    | false =>
      go_wp2_with fail
      refine (works_any SO _ HT.out).mono ?_
      rintro e w3 ⟨rfl, hb⟩
      go_wp2
      go_ret
      exact ⟨rfl, hb⟩
  have gm : ¬ (50 : Int) < m := by omega
  go_enter Tryd.func7, Tryd.ntmps7
  go_wp2_with fail
  refine hlong.mono ?_
  rintro e w1 ⟨b, rfl, rfl, hshort⟩
  clear hlong
  cases b with
  | true =>
    go_wp2_with fail
    refine (works_any SO _ HT.out).mono ?_
    rintro e w3 ⟨rfl, hb⟩
    go_wp2
    go_ret
    exact ⟨rfl, hb⟩
  | false =>
    obtain ⟨hl50, hl1024⟩ := hshort rfl
    have HS := Lib.hid hl1024
    clear hshort hl1024
    go_wp2_with fail
    refine (own_new KO w1 w1 (Below.refl _ _) HT.out).mono ?_
    rintro e w2 ⟨p, rfl, ho⟩
    go_wp2_with fail
    refine (two_new KO ho HT.out).mono ?_
    rintro e w3 ⟨q, rfl, h2⟩
    have H2 := Lib.hid h2
    clear ho h2
    go_wp2
    go_loopw [7, 8, 9] (fun av bv i W => ∃ (k : Nat) (a' : Option Addr) (c' : Nat) (xs : List Int) (b' : Option Addr) (d' : Nat) (ys : List Int), k ≤ len ∧ i = .int .i64 k ∧ av = .slice a' xs.length c' ∧ bv = .slice b' ys.length d' ∧ Byt xs ∧ Byt ys ∧ xs.length ≤ 1024 * k ∧ ys.length ≤ 1024 * k ∧
      Two St w1 ⟨p, a', c', xs⟩ ⟨q, b', d', ys⟩ W) (fun av bv i _ => len - (intOf i).toNat)
    case atStart => exact ⟨0, none, 0, [], none, 0, [], Nat.zero_le _, rfl, rfl, rfl, Byt.nil, Byt.nil, by simp, by simp, H2.out⟩
    case round =>
      obtain ⟨k, a', c', xs, b', d', ys, hk, rfl, rfl, rfl, bx, bz, lx, ly, h2⟩ := hrel
      have HB := Lib.hid (And.intro bx bz)
      clear bx bz
      by_cases hlt : k < len
      · obtain ⟨b, off, r, rfl, hbl, hr, hc, hrr, hrb, hrc, hrm⟩ := HL.out.get hlt
        have hrn : r.n ≤ 1024 := HS.out r (List.mem_of_getElem? hr)
        have HR := Lib.hid (And.intro hrr (And.intro hrb (And.intro hrc hrm)))
        have g1 : (k : Int) < len := by omega
        have HC := Lib.hid (And.intro hbl hc)
        have hcr := h2.below.cell (p := ⟨b, off + k, none⟩) hbl
        rw [hc] at hcr
        have H2 := Lib.hid h2
        have hn1 : (xs ++ r.zs).length = xs.length + r.n := by rw [List.length_append, HR.out.1.1]
        have hn2 : (ys ++ r.zs).length = ys.length + r.n := by rw [List.length_append, HR.out.1.1]
        have HN := Lib.hid (And.intro hn1 hn2)
        clear hr hc hrr hrb hrc hrm h2 hn1 hn2
        by_cases hturn : ∃ hkm : k < m, bs[k]? = some true
        · obtain ⟨hkm, hbk⟩ := hturn
          obtain ⟨b2, off2, x, rfl, hbl2, hx, hcb⟩ := HBS.out.get hkm
          rw [hbk] at hx
          cases hx
          have gk : (k : Int) < m := by omega
          have hcb2 := H2.out.below.cell (p := ⟨b2, off2 + k, none⟩) hbl2
          rw [hcb] at hcb2
          clear hcb hbk
          go_wp2_with fail
          refine (two_write KO H2.out HB.out.1 r.a r.n r.c r.zs HR.out.1 HR.out.2.1 HR.out.2.2.1 HR.out.2.2.2 (by simp only []; omega) HT.out).mono ?_
          rintro e w4 ⟨rfl, hb4, a3, c3, w5, hrun, h5⟩
          have hcr4 := hb4.cell (p := ⟨b, off + k, none⟩) HC.out.1
          rw [HC.out.2] at hcr4
          have HRUN := Lib.hid hrun
          clear hrun hcr hcb2 hb4
          go_wp2_with (refine wpList_append_run rfl (.tmp 48) (.tmp 52) 22 rfl _ _ _ _ rfl rfl HRUN.out ?_)
          clear hcr4
          go_roundw
          case rel => exact ⟨k + 1, a3, c3, xs ++ r.zs, b', d', ys, by omega, by go_num, by rw [HN.out.1], rfl, HB.out.1.append HR.out.2.1, HB.out.2, by rw [HN.out.1]; omega, by omega, h5.out⟩
          case measure => simp [intOf]; omega
        · by_cases hkm : k < m
          · obtain ⟨b2, off2, x, rfl, hbl2, hx, hcb⟩ := HBS.out.get hkm
            cases x with
            | true => exact absurd ⟨hkm, hx⟩ hturn
            | false =>
              have gk : (k : Int) < m := by omega
              have hcb2 := H2.out.below.cell (p := ⟨b2, off2 + k, none⟩) hbl2
              rw [hcb] at hcb2
              clear hcb hx hturn
              go_wp2_with fail
              refine (two_write KO H2.out.swap HB.out.2 r.a r.n r.c r.zs HR.out.1 HR.out.2.1 HR.out.2.2.1 HR.out.2.2.2 (by simp only []; omega) HT.out).mono ?_
              rintro e w4 ⟨rfl, hb4, a3, c3, w5, hrun, h5⟩
              have hcr4 := hb4.cell (p := ⟨b, off + k, none⟩) HC.out.1
              rw [HC.out.2] at hcr4
              have HRUN := Lib.hid hrun
              clear hrun hcr hb4
              go_wp2_with (refine wpList_append_run rfl (.tmp 60) (.tmp 64) 22 rfl _ _ _ _ rfl rfl HRUN.out ?_)
              clear hcr4
              go_roundw
              case rel => exact ⟨k + 1, a', c', xs, a3, c3, ys ++ r.zs, by omega, by go_num, rfl, by rw [HN.out.2], HB.out.1, HB.out.2.append HR.out.2.1, by omega, by rw [HN.out.2]; omega, h5.out.swap⟩
              case measure => simp [intOf]; omega
          · have gk : ¬ (k : Int) < m := by omega
            clear hturn
            go_wp2_with fail
            refine (two_write KO H2.out.swap HB.out.2 r.a r.n r.c r.zs HR.out.1 HR.out.2.1 HR.out.2.2.1 HR.out.2.2.2 (by simp only []; omega) HT.out).mono ?_
            rintro e w4 ⟨rfl, hb4, a3, c3, w5, hrun, h5⟩
            have hcr4 := hb4.cell (p := ⟨b, off + k, none⟩) HC.out.1
            rw [HC.out.2] at hcr4
            have HRUN := Lib.hid hrun
            clear hrun hcr hb4
            go_wp2_with (refine wpList_append_run rfl (.tmp 60) (.tmp 64) 22 rfl _ _ _ _ rfl rfl HRUN.out ?_)
            clear hcr4
            go_roundw
            case rel => exact ⟨k + 1, a', c', xs, a3, c3, ys ++ r.zs, by omega, by go_num, rfl, by rw [HN.out.2], HB.out.1, HB.out.2.append HR.out.2.1, by omega, by rw [HN.out.2]; omega, h5.out.swap⟩
            case measure => simp [intOf]; omega
      · obtain rfl : k = len := by omega
        have hs := two_sum KO h2 HB.out.1 (by simp only []; omega) HT.out
        have HS1 := Lib.hid hs
        have heq1 := fun W => eql_sha W xs
        have heq2 := fun W => eql_sha W ys
        have hgd := fun W x y A B => guard_dv W x y A B
        clear hs h2
        go_wp2_with fail
        refine HS1.out.mono ?_
        rintro e w4 ⟨rfl, h4⟩
        have H4 := Lib.hid h4
        clear h4
        go_wp2_with fail
        refine (SO a' xs.length c' xs w4 H4.out.reads HB.out.1 (by omega) H4.out.le (HT.out.below H4.out.below HT.out.lt)).mono ?_
        rintro e w5 ⟨rfl, hb5⟩
        have H5 := Lib.hid (H4.out.keep KO hb5)
        clear hb5
        go_wp2_with fail
        refine (two_sum KO H5.out.swap HB.out.2 (by simp only []; omega) HT.out).mono ?_
        rintro e w6 ⟨rfl, h6⟩
        have H6 := Lib.hid h6
        clear h6
        go_wp2_with fail
        refine (SO b' ys.length d' ys w6 H6.out.reads HB.out.2 (by omega) H6.out.le (HT.out.below H6.out.below HT.out.lt)).mono ?_
        rintro e w7 ⟨rfl, hb7⟩
        have HB7 := Lib.hid ((H6.out.keep KO hb7).below)
        clear hb7
        go_wp2_with fail
        clear heq1 heq2 hgd
        refine (works_any SO w7 (HT.out.below HB7.out HT.out.lt)).mono ?_
        rintro e w8 ⟨rfl, hb8⟩
        go_wp2
        go_ret
        exact ⟨rfl, HB7.out.trans (hb8.mono HB7.out.size)⟩
end Go.Proofs.YthekihginpodmaaDoor
