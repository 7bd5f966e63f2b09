/-
  Stage 10: the reference's laid and Write. Written by genpk2.py.
-/
import Derived.Test.YtnndlpbbllmpjaaPkRef1
import Derived.Test.YtnndlpbbllmpjaaMgA
namespace Go.Proofs.Ytnndlpbbllmpjaa
open Go.RowKit
set_option linter.unusedVariables false
set_option linter.unusedSimpArgs false

theorem laidP_next {tag sum : Int} {L : List PC} {i : Nat} {c : PC} (h : L[i]? = some c) : laidP tag sum (L.take (i + 1)) = laidP tag sum (L.take i) ++ encOf c.k c.f c.zs := by
  unfold laidP
  rw [bodyP_next h, List.append_assoc]
theorem laidP_zero (tag sum : Int) (L : List PC) : laidP tag sum (L.take 0) = enc 5000 2 ++ enc 5000 2 ++ enc tag 4 ++ enc sum 4 := by simp [laidP, bodyP, headP]
theorem laidP_take (tag sum : Int) (L : List PC) (i : Nat) : (laidP tag sum (L.take i)).length ≤ (laidP tag sum L).length := by
  unfold laidP
  rw [List.length_append, List.length_append]
  conv => rhs; rw [← List.take_append_drop i L, bodyP_app, List.length_append]
  omega
theorem encOf_byt' {r : Ck} {w : World} (h : CkOk w r) : Byt (encOf r.k r.f r.zs) := encOf_byt h.k.1 h.k.2 h.f.1 h.f.2 h.byt
theorem pcs_ok {w : World} {a : Option Addr} {n c : Nat} {L : List Ck} (h : RowsCk w a n c L) : ∀ p ∈ pcs L, p.ok := by
  intro p hp
  obtain ⟨r, hr, rfl⟩ := List.mem_map.1 hp
  exact ⟨(h.row r hr).k, (h.row r hr).f, (h.row r hr).byt⟩

/-- 'append' onto a row of the call's own, beside a box of another type. -/
theorem appends_box {base : Nat} {w : World} {a : Option Addr} {n c : Nat} {zs : List Int} (h : Row8 base w a n c zs) (hb : base ≤ w.heap.size) (b : Option Addr) (m c2 : Nat) (ys : List Int) (hr : Reads w b m ys) (hn : n + m ≤ 2199023255552) {g : Nat} {T : TypeId} {cs : List Value} (hA : Arr w g T cs) (hT : T ≠ 5 := by decide) :
    ∃ a' c' W3, (Builtin.append_ #[29, 29] 29 #[.slice a n c, .slice b m c2]).run Try.prog w = .ok (.slice a' (n + m) c') W3 ∧
      RowKit.Hid (Row8 base W3 a' (n + m) c' (zs ++ ys) ∧ Below base w W3 ∧ Arr W3 g T cs) := by
  by_cases hm : m = 0
  · obtain ⟨a', c', W3, hrun, H⟩ := h.appends hb b m c2 ys hr hn
    subst hm
    have hy : ys = [] := List.eq_nil_of_length_eq_zero hr.1
    subst hy
    obtain ⟨i0, hi0, _⟩ := Option.map_eq_some_iff.1 Try.infoR
    have h0 := run_append_zero w _ _ i0 Try.underlying29 hi0 a b n c c2 h.le
    exact ⟨a, c, w, h0, Lib.hid ⟨by simpa using h, Below.refl _ _, hA⟩⟩
  · rcases hr.2 with h0 | ⟨bk, off, rfl, hlt, hc⟩
    · omega
    · have hlen : ys.length = m := hr.1
      obtain ⟨a', c', W3, hrun, hrow, hg⟩ := h.grow hb ⟨bk, off, none⟩ m c2 ys hlen (fun j u hu => by
          rw [List.getElem?_map] at hu
          obtain ⟨y, hy, rfl⟩ := Option.map_eq_some_iff.1 hu
          have hj : j < m := by have := (List.getElem?_eq_some_iff.1 hy).1; omega
          rw [show (⟨bk, off, none⟩ : Addr).add j = ⟨bk, off + j, none⟩ from Addr.add_mid _ _ _, hc j hj, hy, Option.getD_some]) (by omega) (by omega)
      refine ⟨a', c', W3, hrun, Lib.hid ⟨hrow, ⟨hg.os, hg.tape, hg.output, hg.size, fun k hk => hg.block k (by omega) (fun e => by have := (h.lt k e.symm).1; omega)⟩, (hg.block g hA.lt (fun e => ?_)).trans hA⟩⟩
      cases a with
      | none => simp [Value.ownBlock] at e
      | some p =>
        simp [Value.ownBlock] at e
        subst e
        obtain ⟨_, _, cs', hk⟩ := h.far p rfl
        unfold Arr at hA
        rw [hA] at hk
        simp at hk
        exact hT hk.2

set_option maxRecDepth 100000 in
set_option maxHeartbeats 3200000 in
theorem rlaid_any (tag sum : Int) (a : Option Addr) (n c : Nat) (L : List Ck) (w : World) (h : RowsCk w a n c L) (hn : n ≤ 1099511627776) (ht : 0 ≤ tag) (ht1 : tag < 4294967296) (hs : 0 ≤ sum) (hs1 : sum < 4294967296) (hz : (laidP tag sum (pcs L)).length ≤ 1099511627776) :
    Calls Try.prog 37 #[.agg #[.int .u32 tag, .slice a n c], .int .u32 sum] w fun e w' => ∃ a' c', e = .returned (.slice a' (laidP tag sum (pcs L)).length c') ∧ Below w.heap.size w w' ∧ Row8 w.heap.size w' a' (laidP tag sum (pcs L)).length c' (laidP tag sum (pcs L)) := by
  obtain ⟨w0, hw0⟩ : ∃ w0, w.alloc (.cells #[.int .u32 tag, .slice a n c] 25) = w0 := ⟨_, rfl⟩
  have hb0 : Below w.heap.size w w0 := by rw [← hw0]; exact (Below.refl _ _).alloc (Nat.le_refl _) _
  have hA : Arr w0 w.heap.size 25 [.int .u32 tag, .slice a n c] := by rw [← hw0]; exact arr_new _ _ _
  have hl : (pcs L).length = n := by rw [pcs_len]; exact h.hlen
  have HL := Lib.hid hl
  have HR := Lib.hid h
  have H0 := Lib.hid (And.intro hb0 hA)
  have HZ := Lib.hid hz
  clear h hl hb0 hA hz
  go_enter Try.func37, Try.ntmps37
  have hp := putR_yes none 0 0 2 5000 ([]) w0 (Reads.zero _ _) (by omega) (by omega) rfl
  try simp only [Nat.zero_add, List.nil_append, Nat.reduceAdd] at hp
  have HP := Lib.hid hp
  clear hp
  go_wp2_with fail
  refine HP.out.mono ?_
  rintro e w1 ⟨a1, c1, rfl, hb1, hr1⟩
  have HS1 := Lib.hid (And.intro (H0.out.1.trans (hb1.mono H0.out.1.size)) (And.intro hr1 (H0.out.2.keep hb1)))
  clear hb1 hr1 HP H0
  have hp := putR_yes a1 2 c1 2 5000 (enc 5000 2) w1 (HS1.out.2.1.reads) (by omega) (by omega) rfl
  try simp only [Nat.zero_add, List.nil_append, Nat.reduceAdd] at hp
  have HP := Lib.hid hp
  clear hp
  go_wp2_with fail
  refine HP.out.mono ?_
  rintro e w2 ⟨a2, c2, rfl, hb2, hr2⟩
  have HS2 := Lib.hid (And.intro (HS1.out.1.trans (hb2.mono HS1.out.1.size)) (And.intro hr2 (HS1.out.2.2.keep hb2)))
  clear hb2 hr2 HP HS1
  have d0 := HS2.out.2.2.cell (i := 0) rfl
  have hp := putR_yes a2 4 c2 4 tag (enc 5000 2 ++ enc 5000 2) w2 (HS2.out.2.1.reads) (by omega) (ht) rfl
  try simp only [Nat.zero_add, List.nil_append, Nat.reduceAdd] at hp
  have HP := Lib.hid hp
  clear hp
  go_wp2_with fail
  refine HP.out.mono ?_
  rintro e w3 ⟨a3, c3, rfl, hb3, hr3⟩
  have HS3 := Lib.hid (And.intro (HS2.out.1.trans (hb3.mono HS2.out.1.size)) (And.intro hr3 (HS2.out.2.2.keep hb3)))
  clear hb3 hr3 HP HS2 d0
  have hp := putR_yes a3 8 c3 4 sum (enc 5000 2 ++ enc 5000 2 ++ enc tag 4) w3 (HS3.out.2.1.reads) (by omega) (hs) rfl
  try simp only [Nat.zero_add, List.nil_append, Nat.reduceAdd] at hp
  have HP := Lib.hid hp
  clear hp
  go_wp2_with fail
  refine HP.out.mono ?_
  rintro e w4 ⟨a4, c4, rfl, hb4, hr4⟩
  have HS4 := Lib.hid (And.intro (HS3.out.1.trans (hb4.mono HS3.out.1.size)) (And.intro (hr4.lower HS3.out.1.size) (HS3.out.2.2.keep hb4)))
  clear hb4 hr4 HP HS3
  have HX := HS4.out.2.2
  have d1 := HX.cell (i := 1) rfl
  clear HX
  go_wp2_with fail
  go_loopw [5, 6] (fun v i wr => ∃ (j : Nat) (a2 : Option Addr) (c2 : Nat), j ≤ n ∧ i = .int .i64 (j : Int) ∧ v = .slice a2 (laidP tag sum ((pcs L).take j)).length c2 ∧ Row8 w.heap.size wr a2 (laidP tag sum ((pcs L).take j)).length c2 (laidP tag sum ((pcs L).take j)) ∧ Below w.heap.size w wr ∧ Arr wr w.heap.size 25 [.int .u32 tag, .slice a n c]) (fun _ i _ => n - (intOf i).toNat)
  case atStart =>
    have e0 : (laidP tag sum ((pcs L).take 0)).length = 12 := by rw [laidP_zero]; simp
    exact ⟨0, a4, c4, Nat.zero_le _, rfl, by rw [e0], by rw [e0, laidP_zero]; exact HS4.out.2.1, HS4.out.1, HS4.out.2.2⟩
  case round =>
    obtain ⟨j, a5, c5, hj, rfl, rfl, hrow, hbl, hA5⟩ := hrel
    have HROW := Lib.hid hrow
    have HBW := Lib.hid hbl
    have e1 := hA5.cell (i := 1) rfl
    have HA5 := Lib.hid hA5
    clear hrow hbl hA5 d1
    by_cases hjn : j < n
    · obtain ⟨b, off, r, ha, hr, hk, h0, h1, h2⟩ := (HR.out.below HBW.out).get hjn
      have hlt := laidP_take tag sum (pcs L) (j + 1)
      have hnx := laidP_next (tag := tag) (sum := sum) (pcs_at hr)
      have hlen : (laidP tag sum ((pcs L).take (j + 1))).length = (laidP tag sum ((pcs L).take j)).length + (encOf r.k r.f r.zs).length := by rw [hnx, List.length_append]; rfl
      have HNX := Lib.hid hnx
      have HLN := Lib.hid hlen
      have HLT := Lib.hid (Nat.le_trans hlt HZ.out)
      have HWR := Lib.hid (rwrite_any r.k r.f r.a r.n r.c r.zs wr hk.reads)
      have hszw : w.heap.size ≤ wr.heap.size := HBW.out.size
      have HM := Lib.hid (show ∀ W ax cx, Below wr.heap.size wr W → Reads W ax (encOf r.k r.f r.zs).length (encOf r.k r.f r.zs) → ∃ a' c' W3, (Builtin.append_ #[29, 29] 29 #[.slice a5 (laidP tag sum ((pcs L).take j)).length c5, .slice ax (encOf r.k r.f r.zs).length cx]).run Try.prog W = .ok (.slice a' (laidP tag sum ((pcs L).take (j + 1))).length c') W3 ∧ RowKit.Hid (Row8 w.heap.size W3 a' (laidP tag sum ((pcs L).take (j + 1))).length c' (laidP tag sum ((pcs L).take (j + 1))) ∧ Below w.heap.size w W3 ∧ Arr W3 w.heap.size 25 [.int .u32 tag, .slice a n c]) from by
        intro W ax cx hbW hrx
        obtain ⟨a6, c6, W3, hrun, H6⟩ := appends_box (HROW.out.keep hbW) (Nat.le_trans hszw hbW.size) ax _ cx _ hrx (by have := HLT.out; have := HLN.out; omega) (HA5.out.keep hbW)
        rw [← HLN.out] at hrun H6
        refine ⟨a6, c6, W3, hrun, Lib.hid ⟨?_, ?_⟩⟩
        · have hh := H6.out.1
          rw [HNX.out]
          have e : (laidP tag sum ((pcs L).take j) ++ encOf r.pc.k r.pc.f r.pc.zs).length = (laidP tag sum ((pcs L).take (j + 1))).length := by rw [HNX.out]
          rw [e]
          exact hh
        · exact ⟨HBW.out.trans ((hbW.mono hszw).trans H6.out.2.1), H6.out.2.2⟩)
      subst ha
      clear hnx hlen hlt hk hr
      have hj0 : (0 : Int) ≤ (j : Int) := by omega
      have hj1 : (j : Int) < (n : Int) := by omega
      go_wp2_with (first
        | (go_at_call 53; refine HWR.out.mono ?_; rintro e w6 ⟨ax, cx, rfl, hrx, hb6⟩; obtain ⟨a6, c6, W3, hrun, H6⟩ := HM.out w6 ax cx hb6 hrx; have HRUN := Lib.hid hrun; clear hb6 hrx hrun)
        | (at_builtin; refine wpList_append_run rfl (.tmp 26) (.tmp 32) 29 rfl _ _ _ _ rfl rfl HRUN.out ?_))
      exact ⟨⟨j + 1, a6, c6, by omega, congrArg (Value.int .i64) (by omega), rfl, H6.out.1, H6.out.2.1, H6.out.2.2⟩, by simp [intOf]; omega⟩
    · obtain rfl : n = j := by omega
      go_wp2
      go_ret
      have e : (pcs L).take n = pcs L := List.take_of_length_le (by rw [HL.out]; exact Nat.le_refl _)
      have hh := HROW.out
      rw [e] at hh
      exact ⟨a5, c5, by rw [e]; rfl, HBW.out, hh⟩

end Go.Proofs.Ytnndlpbbllmpjaa
