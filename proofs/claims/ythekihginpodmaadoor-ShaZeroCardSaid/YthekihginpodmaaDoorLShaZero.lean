/-
  The walk of ShaZero: a state that nobody made, beside one that New made.
-/
import Derived.Test.YthekihginpodmaaDoorShaP11
import Derived.Test.YthekihginpodmaaDoorShaLong
import Derived.Test.YthekihginpodmaaDoorRows8
namespace Go.Proofs.YthekihginpodmaaDoor
open Go.RowKit
set_option linter.unusedVariables false

/-- Two states, apart, made since w0. -/
structure PZ (w0 W : World) (sb tb : Nat) (xs ys : List Int) : Prop where
  s : StV W sb xs
  t : StV W tb ys
  ne : sb ≠ tb
  ls : w0.heap.size ≤ sb
  lt : w0.heap.size ≤ tb
  b : Below w0.heap.size w0 W
section
variable {w0 W W' : World} {sb tb : Nat} {xs ys zs : List Int}
theorem PZ.swap (h : PZ w0 W sb tb xs ys) : PZ w0 W tb sb ys xs := ⟨h.t, h.s, h.ne.symm, h.lt, h.ls, h.b⟩
theorem PZ.keep (h : PZ w0 W sb tb xs ys) (hb : Below W.heap.size W W') : PZ w0 W' sb tb xs ys :=
  ⟨h.s.turn (Turn.of_below hb) (by simp), h.t.turn (Turn.of_below hb) (by simp), h.ne, h.ls, h.lt, h.b.trans (hb.mono h.b.size)⟩
theorem pz_write (h : PZ w0 W sb tb xs ys) (a2 : Option Addr) (m c2 : Nat) (hr : Reads w0 a2 m zs) (hy : Byt zs) (hc : m ≤ c2) (hl : xs.length + m ≤ 2199023255552) (ht : Tab w0) :
    Calls Tryd.prog 17 #[.pointer (some ⟨sb, 0, none⟩), .slice a2 m c2] W fun e W' => e = .returned (.tuple #[]) ∧ PZ w0 W' sb tb (xs ++ zs) ys := by
  have hls := h.ls
  refine (pwrite_any W sb xs a2 m c2 zs h.s hy (hr.below h.b) hc hl (ht.below h.b ht.lt) (fun g hg hn => by have := ht.lt g hg; simp at hn; omega) (fun h0 q hq hn => ?_)).mono ?_
  · rcases hr.2 with h1 | ⟨b, off, hb, hlt, _⟩
    · omega
    · rw [hb] at hq; cases hq; simp at hn; omega
  · rintro e W' ⟨rfl, h1, h2⟩
    exact ⟨rfl, h1, h.t.turn h2 (by simp; exact h.ne.symm), h.ne, h.ls, h.lt, h.b.trans (h2.below h.b.size (by simp; exact hls))⟩
theorem pz_sum (h : PZ w0 W sb tb xs ys) (hz : Byt xs) (hl : xs.length ≤ 1099511627776) (ht : Tab w0) :
    Calls Tryd.prog 18 #[.pointer (some ⟨sb, 0, none⟩)] W fun e W' => e = .returned (dv (sha xs)) ∧ PZ w0 W' sb tb xs ys :=
  (psum_any W sb xs h.s hz hl (ht.below h.b ht.lt)).mono fun e W' ⟨h1, h2⟩ => ⟨h1, h.keep h2⟩
theorem pz_new (w0 : World) : Calls Tryd.prog 16 #[] (w0.alloc (.cells Z0.toArray 42)) fun e W' => ∃ tb, e = .returned (.pointer (some ⟨tb, 0, none⟩)) ∧ PZ w0 W' w0.heap.size tb [] [] := by
  refine (pnew_any _).mono ?_
  rintro e W' ⟨rfl, h1, h2⟩
  refine ⟨_, rfl, (stv_zero w0).turn (Turn.of_below h2) (by simp), h1, by simp, Nat.le_refl _, by simp, ?_⟩
  exact ((Below.refl _ _).alloc (Nat.le_refl _) _).trans (h2.mono (by simp))
end

set_option maxHeartbeats 6400000 in
set_option maxRecDepth 100000 in
theorem shaZero_of (SO : SumOk) (a : Option Addr) (len cap : Nat) (L : List Sl) (w : World) (w0 : Rows8 w a len cap L) (ht : Tab w) :
    Calls Tryd.prog 8 #[.slice a len cap] w fun e w' => e = .returned (.bool true) ∧ Below w.heap.size w w' := by
  have hlong := long_any w a len cap L w0
  have hmax := w0.hcap
  have hle := w0.hle
  unfold maxLen at hmax
  have hzr := zero_run
  obtain ⟨Z, hZ⟩ : ∃ Z, Z = Z0.toArray := ⟨_, rfl⟩
  rw [← hZ] at hzr
  have HZ := Lib.hid hZ
  have HL := Lib.hid w0
  have HT := Lib.hid ht
  clear w0 ht hZ
  go_enter Tryd.func8, Tryd.ntmps8
  go_wp2_with fail
  refine hlong.mono ?_
  rintro e w1 ⟨b, rfl, rfl, hshort⟩
  clear hlong
  cases b with
  | true =>
    go_wp2_with fail
    refine (works_any SO _ HT.out).mono ?_
    rintro e w3 ⟨rfl, hb⟩
    go_wp2
    go_ret
    exact ⟨rfl, hb⟩
  | false =>
    obtain ⟨hl50, hl1024⟩ := hshort rfl
    have HS := Lib.hid hl1024
    clear hshort hl1024
    go_wp2_with fail
    have hnew := pz_new w1
    rw [← HZ.out] at hnew
    refine hnew.mono ?_
    rintro e w2 ⟨tb, rfl, h2⟩
    have H2 := Lib.hid h2
    have heq := fun W => neq_sha W ([] : List Int)
    have hgd := fun W x y A B => guard_neq W x y A B
    clear hnew h2 hzr
    generalize hsb : w1.heap.size = sb at *
    have HSB := Lib.hid hsb
    clear hsb
    go_wp2_with fail
    refine (pz_sum H2.out Byt.nil (by simp) HT.out).mono ?_
    rintro e w3 ⟨rfl, h3⟩
    have H3 := Lib.hid h3
    clear h3
    go_wp2_with fail
    refine (SO none 0 0 [] w3 (Reads.zero _ _) Byt.nil (by omega) (Nat.le_refl _) (HT.out.below H3.out.b HT.out.lt)).mono ?_
    rintro e w4 ⟨rfl, hb4⟩
    have H4 := Lib.hid (H3.out.keep hb4)
    clear hb4
    go_wp2_with fail
    refine (pz_sum H4.out.swap Byt.nil (by simp) HT.out).mono ?_
    rintro e w5 ⟨rfl, h5⟩
    have H5 := Lib.hid h5.swap
    clear h5
    go_wp2_with fail
    refine (SO none 0 0 [] w5 (Reads.zero _ _) Byt.nil (by omega) (Nat.le_refl _) (HT.out.below H5.out.b HT.out.lt)).mono ?_
    rintro e w6 ⟨rfl, hb6⟩
    have H6 := Lib.hid (H5.out.keep hb6)
    clear hb6
    go_wp2
    clear heq hgd
    go_loopw [5] (fun i W => ∃ k : Nat, k ≤ len ∧ i = .int .i64 k ∧ PZ w1 W sb tb (cat L k) (cat L k)) (fun i _ => len - (intOf i).toNat)
    case atStart => exact ⟨0, Nat.zero_le _, rfl, H6.out⟩
    case round =>
      obtain ⟨k, hk, rfl, hh⟩ := hrel
      have hbyt := cat_byt HL.out k
      have hcl := cat_len HL.out HS.out k hk
      by_cases hlt : k < len
      · obtain ⟨b, off, r, rfl, hbl, hr, hc, hrr, hrb, hrc, hrm⟩ := HL.out.get hlt
        have hcs : cat L (k + 1) = cat L k ++ r.zs := cat_succ hr
        have hrn : r.n ≤ 1024 := HS.out r (List.mem_of_getElem? hr)
        have hb5 : Byt (cat L (k + 1)) := cat_byt HL.out (k + 1)
        have HC := Lib.hid (And.intro hcs (And.intro hb5 hc))
        have HR := Lib.hid (And.intro hrr (And.intro hrb (And.intro hrc hrm)))
        have g1 : (k : Int) < len := by omega
        have hcr := hh.b.cell (p := ⟨b, off + k, none⟩) hbl
        rw [hc] at hcr
        have HH := Lib.hid hh
        have heq := fun W => neq_sha W (cat L (k + 1))
        have hgd := fun W x y A B => guard_neq W x y A B
        have hlen5 : (cat L (k + 1)).length = (cat L k).length + r.n := by rw [hcs, List.length_append, hrr.1]
        clear hr hrr hrb hrc hrm hcs hh hb5 hc
        go_wp2_with fail
        refine (pz_write HH.out r.a r.n r.c HR.out.1 HR.out.2.1 HR.out.2.2.1 (by omega) HT.out).mono ?_
        rintro e w7 ⟨rfl, h7⟩
        have hcr7 := h7.b.cell (p := ⟨b, off + k, none⟩) hbl
        rw [HC.out.2.2] at hcr7
        have H7 := Lib.hid h7
        clear hcr h7
        go_wp2_with fail
        refine (pz_write H7.out.swap r.a r.n r.c HR.out.1 HR.out.2.1 HR.out.2.2.1 (by omega) HT.out).mono ?_
        rintro e w8 ⟨rfl, h8⟩
        have h8' := h8.swap
        rw [← HC.out.1] at h8'
        have H8 := Lib.hid h8'
        clear h8 h8' hcr7
        go_wp2_with fail
        refine (pz_sum H8.out HC.out.2.1 (by omega) HT.out).mono ?_
        rintro e w9 ⟨rfl, h9⟩
        have H9 := Lib.hid h9
        clear h9
        go_wp2_with fail
        refine (pz_sum H9.out.swap HC.out.2.1 (by omega) HT.out).mono ?_
        rintro e w10 ⟨rfl, h10⟩
        have H10 := Lib.hid h10.swap
        clear h10
        go_wp2_with fail
        clear heq hgd
        go_roundw
        case rel => exact ⟨k + 1, by omega, by go_num, H10.out⟩
        case measure => simp [intOf]; omega
      · obtain rfl : k = len := by omega
        have HB := Lib.hid hh.b
        clear hh hbyt
        go_wp2_with fail
        refine (works_any SO _ (HT.out.below HB.out HT.out.lt)).mono ?_
        rintro e w5 ⟨rfl, hb5⟩
        go_wp2
        go_ret
        exact ⟨rfl, HB.out.trans (hb5.mono HB.out.size)⟩
end Go.Proofs.YthekihginpodmaaDoor
