/-
  The walk of PacketReads.
-/
import Derived.Test.YtnndlpbbllmpjaaPkApi
import Derived.Test.YtnndlpbbllmpjaaPkTie
import Derived.Test.YtnndlpbbllmpjaaPkRef6
import Derived.Test.YtnndlpbbllmpjaaMgA
import Derived.Deep.DeepCutAuto
namespace Go.Proofs.Ytnndlpbbllmpjaa
open Go.RowKit
set_option linter.unusedVariables false
set_option linter.unusedSimpArgs false

/-- What both answer of the same bytes. -/
theorem RdPr.both {z : List Int} {w w1 : World} {e : Ending} (h : RdPr z w w1 e) : ∃ (er T : Int) (L : List Ck) (a : Option Addr) (n c : Nat), e = .returned (.tuple #[.agg #[.int .u32 T, .slice a n c], .int .i64 er]) ∧ RowsCk w1 a n c L ∧ OwnBodies w.heap.size w1 L ∧ n ≤ 1048576 ∧ (∀ r ∈ L, r.n ≤ 65531) ∧
    ∀ (v0 w2 : World) (e' : Ending), RdP z v0 w2 e' → ∃ L' a' c', e' = .returned (.tuple #[.agg #[.int .u32 T, .slice a' n c'], .int .i64 er]) ∧ RowsCk w2 a' n c' L' ∧ pcs L = pcs L' := by
  have nil : ∀ W : World, RowsCk W none 0 0 [] := fun W => ⟨rfl, Nat.le_refl _, Nat.zero_le _, .inl rfl, fun r hr => (by cases hr)⟩
  have nob : OwnBodies w.heap.size w1 [] := ⟨fun r hr => (by cases hr), fun i j ri rj hi => (by simp at hi)⟩
  have nle : ∀ r ∈ ([] : List Ck), r.n ≤ 65531 := fun r hr => (by cases hr)
  rcases h with ⟨h1, rfl⟩ | ⟨h0, h1, rfl⟩ | ⟨h0, h1, h2, rfl⟩ | ⟨h0, h1, L, a, n, c, hp, rfl, hr, hn, ho⟩
  · refine ⟨7, 0, [], none, 0, 0, rfl, nil _, nob, by omega, nle, fun v0 w2 e' h' => ?_⟩
    rcases h' with ⟨_, rfl⟩ | ⟨h', _⟩ | ⟨h', _⟩ | ⟨h', _⟩
    · exact ⟨[], none, 0, rfl, nil _, rfl⟩
    · omega
    · omega
    · omega
  · refine ⟨8, 0, [], none, 0, 0, rfl, nil _, nob, by omega, nle, fun v0 w2 e' h' => ?_⟩
    rcases h' with ⟨h', _⟩ | ⟨_, _, rfl⟩ | ⟨_, h', _⟩ | ⟨_, h', _⟩
    · omega
    · exact ⟨[], none, 0, rfl, nil _, rfl⟩
    · rw [h1] at h'; cases h'
    · rw [h1] at h'; cases h'
  · refine ⟨7, 0, [], none, 0, 0, rfl, nil _, nob, by omega, nle, fun v0 w2 e' h' => ?_⟩
    rcases h' with ⟨h', _⟩ | ⟨_, h', _⟩ | ⟨_, _, _, rfl⟩ | ⟨_, _, L', a', n', c', h', _⟩
    · omega
    · rw [h1] at h'; cases h'
    · exact ⟨[], none, 0, rfl, nil _, rfl⟩
    · exact absurd h' (h2 _)
  · refine ⟨0, tagB z, L, a, n, c, rfl, hr, ho, hn, fun r hr' => ?_, fun v0 w2 e' h' => ?_⟩
    · have h3 := hp.le r.pc (List.mem_map_of_mem hr')
      rw [← (hr.row r hr').reads.1]
      exact h3
    rcases h' with ⟨h', _⟩ | ⟨_, h', _⟩ | ⟨_, _, h', _⟩ | ⟨_, _, L', a', n', c', h', rfl, hr', _⟩
    · omega
    · rw [h1] at h'; cases h'
    · exact absurd hp (h' _)
    · have e1 : pcs L = pcs L' := hp.one h'
      have e2 : n' = n := by
        have h3 := congrArg List.length e1
        rw [pcs_len, pcs_len, hr.hlen, hr'.hlen] at h3
        exact h3.symm
      subst e2
      exact ⟨L', a', c', rfl, hr', e1⟩

def bodyV (r : Ck) : Value := .slice r.a r.n r.c
theorem Try.infoBs : (Try.prog.info? 29).map (fun i => (i.zero, i.size, i.bytes)) = some (some (.slice none 0 0), 1, 24) := by kernel_rfl
/-- A row of one cell each. -/
theorem owns_one (w : World) (T : TypeId) (v : Value) : (w.alloc (.cells #[v] T)).ownsRow w.heap.size T 1 (.slice (some ⟨w.heap.size, 0, none⟩) 1 1) 1 [v] :=
  ⟨rfl, .inr ⟨w.heap.size, 1, #[v], rfl, Nat.le_refl _, heap_alloc_new _ _, Nat.le_refl _, by decide, rfl, rfl⟩⟩
/-- The bodies, and a row of one's own ahead of them, are all apart. -/
theorem apart_bodies {base B : Nat} {W : World} {g n c : Nat} {zs : List Int} {L : List Ck} (hg : Blk W g zs) (hz : Byt zs) (hn : n ≤ zs.length) (hn2 : n ≤ 1073741824) (hc : zs.length = c) (hcm : c ≤ 9223372036854775807) (hgb : g < base) (ho : OwnBodies base W L) (hok : ∀ r ∈ L, Byt r.zs ∧ r.n ≤ 65531) (hL : L.length ≤ 1048576)
    {a8 : Option Addr} {c8 : Nat} (hrow : W.ownsRow B 29 1 (.slice a8 (L.length + 1) c8) (L.length + 1) (.slice (some ⟨g, 0, none⟩) n c :: L.map bodyV)) (hB : ∀ r ∈ L, ∀ p, r.a = some p → p.block < B) (hgB : g < B) :
    Calls Try.prog 20 #[.slice a8 (L.length + 1) c8] W fun e w' => e = .returned (.bool true) ∧ Below W.heap.size W w' := by
  obtain ⟨qs, hql, hq⟩ := choose_below (α := ARow) (p := fun i q => ∃ r, L[i]? = some r ∧ q.val = bodyV r ∧ q.ok W ∧ (∀ b, q.blk = some b → base ≤ b ∧ b < W.heap.size) ∧ (∀ b, q.blk = some b → r.a = some ⟨b, 0, none⟩)) L.length (fun i hi => by
    obtain ⟨r, hr⟩ : ∃ r, L[i]? = some r := ⟨L[i], by simp [hi]⟩
    have hm := List.mem_of_getElem? hr
    obtain ⟨q, q1, q2, q3, q4⟩ := (ho.1 r hm).arow (hok r hm).1 (by have := (hok r hm).2; omega)
    exact ⟨q, r, hr, q1, q2, q3, q4⟩)
  obtain ⟨rs, hrs⟩ : ∃ rs : List ARow, (some (g, n, zs) : ARow) :: qs = rs := ⟨_, rfl⟩
  have hlen : rs.length = L.length + 1 := by rw [← hrs, List.length_cons, hql]
  rcases hrow.2 with ⟨hv, h0⟩ | ⟨rb, cap, cur, hv, hb, hk, hnc, hm, hcs, htk⟩
  · omega
  cases hv
  have hcell : ∀ (k : Nat) (r : ARow), rs[k]? = some r → W.cell? ⟨rb, 0 + k, none⟩ = some r.val := by
    intro k r hr
    have hx : (Value.slice (some ⟨g, 0, none⟩) n c :: L.map bodyV)[k]? = some r.val := by
      rw [← hrs] at hr
      cases k with
      | zero => simp at hr; subst hr; simp [ARow.val, hc]
      | succ k =>
        simp at hr
        obtain ⟨r', h1, h2, _⟩ := hq k r hr
        simp [h1, h2]
    have h2 := hrow.cells (g := rb) rfl _ _ hx
    rwa [Addr.add_mid] at h2
  refine (show Calls Try.prog 20 #[.slice (some ⟨rb, 0, none⟩) (L.length + 1) c8] W fun e w' => e = .returned (.bool true) ∧ Below W.heap.size W w' from ?_)
  rw [← hlen]
  refine apart_yes rb 0 c8 rs W (by omega) (Array.getElem?_eq_some_iff.1 hk).1 hcell ?_ ?_ ?_
  · intro k r hr
    rw [← hrs] at hr
    cases k with
    | zero => simp at hr; subst hr; exact ⟨hg, hz, hn, hn2, by omega⟩
    | succ k => simp at hr; exact (hq k r hr).choose_spec.2.2.1
  · intro k r hr e
    rw [← hrs] at hr
    cases k with
    | zero => simp at hr; subst hr; simp [ARow.blk] at e; omega
    | succ k =>
      simp at hr
      obtain ⟨r', h1, _, _, _, h5⟩ := hq k r hr
      have := hB r' (List.mem_of_getElem? h1) _ (h5 _ e)
      simp at this
      omega
  · intro j k r s hr hs hjk
    rw [← hrs] at hr hs
    cases j with
    | zero =>
      cases k with
      | zero => exact absurd rfl hjk
      | succ k =>
        simp at hr hs
        subst hr
        obtain ⟨_, _, _, _, h4, _⟩ := hq k s hs
        refine .inr fun e => ?_
        have := (h4 g (by rw [← e]; rfl)).1
        omega
    | succ j =>
      simp at hr
      obtain ⟨rj, j1, _, _, j4, j5⟩ := hq j r hr
      cases hb : r.blk with
      | none => exact .inl rfl
      | some bj =>
        refine .inr fun e => ?_
        cases k with
        | zero =>
          simp at hs
          subst hs
          simp [ARow.blk] at e
          have := (j4 bj hb).1
          omega
        | succ k =>
          simp at hs
          obtain ⟨rk, k1, _, _, _, k5⟩ := hq k s hs
          have hj := j5 bj hb
          have hk' := k5 bj e.symm
          rcases ho.2 j k rj rk j1 k1 (by omega) with h | h
          · rw [h] at hj; cases hj
          · exact h (hj.trans hk'.symm)

set_option maxRecDepth 100000 in
set_option maxHeartbeats 1600000 in
theorem packetReads_of (PR : PkReadOk) (WK : PkWorks) (a : Option Addr) (len cap : Nat) (z0 : List Int) (w : World) (wb : IsRow .u8 w a len cap z0) :
    Calls Try.prog 4 #[.slice a len cap] w fun e w' => e = .returned (.bool true) ∧ Below w.heap.size w w' := by
  obtain ⟨hr, hbyt, hcap, hmax⟩ := wb.reads
  generalize z0.take len = z at hr hbyt
  clear wb
  by_cases hbig : 4096 < len
  · have hbi : (4096 : Int) < (len : Int) := by omega
    have HW := Lib.hid (WK w)
    go_enter Try.func4, Try.ntmps4
    go_wp2_with fail
    refine HW.out.mono ?_
    rintro e w1 ⟨rfl, hb1⟩
    have HB := Lib.hid hb1
    clear hb1
    go_wp2
    go_ret
    exact ⟨rfl, HB.out⟩
  have hbi : decide ((4096 : Int) < (len : Int)) = false := by simp; omega
  have hzl : z.length = len := hr.1
  have HRM := Lib.hid (roomy_any a len cap z w hr (by omega))
  have HR := Lib.hid (And.intro hr (And.intro hbyt hzl))
  clear hr hbyt hzl
  go_enter Try.func4, Try.ntmps4
  go_wp2_with fail
  refine HRM.out.mono ?_
  rintro e w1 ⟨rfl, hb1, hk1⟩
  have hgr : w.heap.size < w1.heap.size := hk1.lt
  have HK1 := Lib.hid hk1
  have HB1 := Lib.hid hb1
  have hin : Reads w1 (some ⟨w.heap.size, 0, none⟩) len z := by
    have h := hk1.reads 0 len (by rw [List.length_append, HR.out.2.2]; omega)
    rwa [List.drop_zero, List.take_left' HR.out.2.2] at h
  have HPR := Lib.hid (PR (some ⟨w.heap.size, 0, none⟩) len (len + 16) z w1 hin HR.out.2.1 (by omega) (by omega))
  clear hb1 hk1 hin HRM
  go_wp2_with fail
  refine HPR.out.mono ?_
  rintro e w2 ⟨hrd, hb2⟩
  obtain ⟨er, T, L, ap, n, c, rfl, hrow, hown, hn, hbd, hnext⟩ := hrd.both
  have HRW2 := Lib.hid hrow
  have HOW2 := Lib.hid hown
  have HBD := Lib.hid hbd
  have HNX := Lib.hid hnext
  have HB2 := Lib.hid (HB1.out.trans (hb2.mono HB1.out.size))
  have HK2 := Lib.hid (HK1.out.below hb2)
  have hs12 : w1.heap.size ≤ w2.heap.size := hb2.size
  clear hrow hown hbd hnext hrd hb2 HPR
  have hb3 : Below w2.heap.size w2 (w2.alloc (.cells #[.int .u32 T, .slice ap n c] 25)) := (Below.refl _ _).alloc (Nat.le_refl _) _
  have hA3 : Arr (w2.alloc (.cells #[.int .u32 T, .slice ap n c] 25)) w2.heap.size 25 [.int .u32 T, .slice ap n c] := arr_new _ _ _
  have HA3 := Lib.hid hA3
  have HB3 := Lib.hid (HB2.out.trans (hb3.mono HB2.out.size))
  have HK3 := Lib.hid (HK2.out.below hb3)
  have HRW3 := Lib.hid (HRW2.out.below hb3)
  have HOW3 := Lib.hid (show OwnBodies w1.heap.size (w2.alloc (.cells #[.int .u32 T, .slice ap n c] 25)) L from ⟨fun r hr => (HOW2.out.1 r hr).keep hb3, HOW2.out.2⟩)
  have HS3 := Lib.hid (show (w2.alloc (.cells #[.int .u32 T, .slice ap n c] 25)).heap.size = w2.heap.size + 1 by simp)
  go_upto_region 5 with fail
  generalize (w2.alloc (.cells #[.int .u32 T, .slice ap n c] 25)) = w3 at *
  clear hb3 hA3 HB2 HK2 HRW2 HOW2
  have HRF := Lib.hid (rreadP_any a len cap z w3 (HR.out.1.below HB3.out) HR.out.2.1 hcap (by omega))
  go_wp2_with fail
  refine HRF.out.mono ?_
  rintro e w4 ⟨hrd, hb4⟩
  obtain ⟨L', aq, cq, rfl, hrow', hpc⟩ := HNX.out _ _ _ hrd
  have HRW' := Lib.hid hrow'
  have HPC := Lib.hid hpc
  have HA4 := Lib.hid (HA3.out.keep hb4)
  have HB4 := Lib.hid (HB3.out.trans (hb4.mono HB3.out.size))
  have HK4 := Lib.hid (HK3.out.below hb4)
  have HRW4 := Lib.hid (HRW3.out.below hb4)
  have HOW4 := Lib.hid (show OwnBodies w1.heap.size w4 L from ⟨fun r hr => (HOW3.out.1 r hr).keep hb4, HOW3.out.2⟩)
  have hs34 : w3.heap.size ≤ w4.heap.size := hb4.size
  clear hrow' hpc hrd hb4 HRF HNX HA3 HB3 HK3 HRW3 HOW3
  have hb5 : Below w4.heap.size w4 (w4.alloc (.cells #[.int .u32 T, .slice aq n cq] 25)) := (Below.refl _ _).alloc (Nat.le_refl _) _
  have hA5 : Arr (w4.alloc (.cells #[.int .u32 T, .slice aq n cq] 25)) w4.heap.size 25 [.int .u32 T, .slice aq n cq] := arr_new _ _ _
  have HQ5 := Lib.hid hA5
  have HA5 := Lib.hid (HA4.out.keep hb5)
  have HB5 := Lib.hid (HB4.out.trans (hb5.mono HB4.out.size))
  have HK5 := Lib.hid (HK4.out.below hb5)
  have HRW5 := Lib.hid (HRW4.out.below hb5)
  have HRV5 := Lib.hid (HRW'.out.below hb5)
  have HOW5 := Lib.hid (show OwnBodies w1.heap.size (w4.alloc (.cells #[.int .u32 T, .slice aq n cq] 25)) L from ⟨fun r hr => (HOW4.out.1 r hr).keep hb5, HOW4.out.2⟩)
  go_upto_region 6 with fail
  generalize (w4.alloc (.cells #[.int .u32 T, .slice aq n cq] 25)) = w5 at *
  generalize w4.heap.size = gq at *
  clear hb5 hA5 HA4 HB4 HK4 HRW4 HOW4 HRW' hs34
  have HSM := Lib.hid (psame_yes T ap n c L aq cq L' w5 HRW5.out HRV5.out HPC.out (fun r hr => by have := HBD.out r hr; omega))
  have p0 := HA5.out.cell (i := 0) rfl
  have p1 := HA5.out.cell (i := 1) rfl
  have q0 := HQ5.out.cell (i := 0) rfl
  have q1 := HQ5.out.cell (i := 1) rfl
  have hee : (er != er) = false := by simp
  go_wp2_with fail
  refine HSM.out.mono ?_
  rintro e w6 ⟨rfl, hb6⟩
  have HA6 := Lib.hid (HA5.out.keep hb6)
  have HB6 := Lib.hid (HB5.out.trans (hb6.mono HB5.out.size))
  have HK6 := Lib.hid (HK5.out.below hb6)
  have HRW6 := Lib.hid (HRW5.out.below hb6)
  have HOW6 := Lib.hid (show OwnBodies w1.heap.size w6 L from ⟨fun r hr => (HOW5.out.1 r hr).keep hb6, HOW5.out.2⟩)
  clear hb6 HSM HA5 HB5 HK5 HRW5 HRV5 HOW5 HQ5 p0 p1 q0 q1
  have HKP := Lib.hid (kept_yes a w.heap.size len cap z w6 HK6.out (HR.out.1.below HB6.out) HR.out.2.1 (by omega))
  go_wp2_with fail
  refine HKP.out.mono ?_
  rintro e w7 ⟨rfl, hb7⟩
  have HA7 := Lib.hid (HA6.out.keep hb7)
  have HB7 := Lib.hid (HB6.out.trans (hb7.mono HB6.out.size))
  have HK7 := Lib.hid (HK6.out.below hb7)
  have HRW7 := Lib.hid (HRW6.out.below hb7)
  have HOW7 := Lib.hid (show OwnBodies w1.heap.size w7 L from ⟨fun r hr => (HOW6.out.1 r hr).keep hb7, HOW6.out.2⟩)
  clear hb7 HKP HA6 HB6 HK6 HRW6 HOW6
  have hb8 : Below w7.heap.size w7 (w7.alloc (.cells #[.slice (some ⟨w.heap.size, 0, none⟩) len (len + 16)] 29)) := (Below.refl _ _).alloc (Nat.le_refl _) _
  have ho8 := owns_one w7 29 (.slice (some ⟨w.heap.size, 0, none⟩) len (len + 16))
  have hg7 : w2.heap.size < w7.heap.size := HA7.out.lt
  have HO8 := Lib.hid (And.intro hb8 ho8)
  go_upto_region 9 with fail
  generalize (w7.alloc (.cells #[.slice (some ⟨w.heap.size, 0, none⟩) len (len + 16)] 29)) = w8 at *
  clear hb8 ho8
  have HL := Lib.hid HRW7.out.hlen
  go_wp2_with fail
  go_loopw [8, 9] (fun v ii wr => ∃ (k : Nat) (a8 : Option Addr) (c8 : Nat), k ≤ n ∧ ii = .int .i64 (k : Int) ∧ v = .slice a8 (k + 1) c8 ∧ wr.ownsRow w7.heap.size 29 1 (.slice a8 (k + 1) c8) (k + 1) (.slice (some ⟨w.heap.size, 0, none⟩) len (len + 16) :: (L.take k).map bodyV) ∧ Below w7.heap.size w7 wr) (fun _ ii _ => n - (intOf ii).toNat)
  case atStart => exact ⟨0, _, _, Nat.zero_le _, rfl, rfl, by simpa using HO8.out.2, HO8.out.1⟩
  case round =>
    obtain ⟨k, a8, c8, hk, rfl, rfl, hrow, hbw⟩ := hrel
    have HROW := Lib.hid hrow
    have HBW := Lib.hid hbw
    have p1 := (HA7.out.keep hbw).cell (i := 1) rfl
    clear hrow hbw
    by_cases hkn : k < n
    · obtain ⟨b, off, r, ha, hr, hck, h0, h1, h2⟩ := (HRW7.out.below HBW.out).get hkn
      subst ha
      have hki : (k : Int) < (n : Int) := by omega
      have hk0 : (0 : Int) ≤ (k : Int) := by omega
      have hb9 : Below wr.heap.size wr (wr.alloc (.cells #[.slice r.a r.n r.c] 29)) := (Below.refl _ _).alloc (Nat.le_refl _) _
      have hA9 : Arr (wr.alloc (.cells #[.slice r.a r.n r.c] 29)) wr.heap.size 29 [bodyV r] := arr_new _ _ _
      have hrow9 := owns_keep HROW.out hb9
      obtain ⟨a9, c9, W9, hrun, H9⟩ := owns_append1 (ST := 35) Try.infoBs Try.underlying35 rfl (by decide) (by decide) hrow9 (Nat.le_trans HBW.out.size hb9.size) (by omega) wr.heap.size [bodyV r] rfl hA9 (by simp [bodyV, Value.oneCell'])
      have HRUN := Lib.hid hrun
      have hb79 := HBW.out.trans (hb9.mono HBW.out.size)
      have hbel : Below w7.heap.size w7 W9 := ⟨H9.out.2.os.trans hb79.os, H9.out.2.tape.trans hb79.tape, H9.out.2.output.trans hb79.output, Nat.le_trans hb79.size H9.out.2.size, fun q hq => (H9.out.2.block q (Nat.lt_of_lt_of_le hq hb79.size) (fun e => by have := (World.ownsRow.lt hrow9 q e.symm).1; omega)).trans (hb79.block q hq)⟩
      have htk : (L.take (k + 1)).map bodyV = (L.take k).map bodyV ++ [bodyV r] := by rw [List.take_add_one, hr]; simp
      have HN := Lib.hid (show W9.ownsRow w7.heap.size 29 1 (.slice a9 (k + 1 + 1) c9) (k + 1 + 1) (.slice (some ⟨w.heap.size, 0, none⟩) len (len + 16) :: (L.take (k + 1)).map bodyV) ∧ Below w7.heap.size w7 W9 from ⟨by rw [htk]; exact H9.out.1, hbel⟩)
      clear hb9 hA9 hrow9 hrun H9 hb79 hbel htk hck hr
      go_wp2_with (at_builtin; refine wpList_append_run rfl _ _ _ rfl _ _ _ _ rfl rfl HRUN.out ?_)
      exact ⟨⟨k + 1, a9, c9, by omega, congrArg (Value.int .i64) (by omega), rfl, HN.out.1, HN.out.2⟩, by simp [intOf]; omega⟩
    · obtain rfl : n = k := by omega
      have hap := HROW.out
      rw [List.take_of_length_le (by rw [HL.out]; exact Nat.le_refl _), ← HL.out] at hap
      have hkw := (HK7.out.below HBW.out)
      have how : OwnBodies w1.heap.size wr L := ⟨fun r hr => (HOW7.out.1 r hr).keep HBW.out, HOW7.out.2⟩
      have HAP := Lib.hid (apart_bodies (base := w1.heap.size) (B := w7.heap.size) hkw (HR.out.2.1.append (Byt.rep (by omega) (by omega) _)) (by rw [List.length_append, HR.out.2.2]; omega) (by omega) (by rw [List.length_append, HR.out.2.2, List.length_replicate]) (by omega) hgr how (fun r hr => ⟨(HRW7.out.row r hr).byt, HBD.out r hr⟩) (by rw [HL.out]; exact hn) hap (fun r hr p hp => ((HOW7.out.1 r hr).far p hp).2.1) HK7.out.lt)
      have hHL := HL.out
      rw [hHL] at HAP
      clear hap hkw how hHL
      go_wp2_with fail
      refine HAP.out.mono ?_
      rintro e w9 ⟨rfl, hb9⟩
      have HB9 := Lib.hid ((HB7.out.trans (HBW.out.mono HB7.out.size)).trans (hb9.mono (HB7.out.trans (HBW.out.mono HB7.out.size)).size))
      clear hb9 HAP
      go_wp2_with fail
      refine (WK w9).mono ?_
      rintro e w' ⟨rfl, hb'⟩
      have HF := Lib.hid (HB9.out.trans (hb'.mono HB9.out.size))
      clear hb'
      go_wp2
      go_ret
      exact ⟨rfl, HF.out⟩
end Go.Proofs.Ytnndlpbbllmpjaa
