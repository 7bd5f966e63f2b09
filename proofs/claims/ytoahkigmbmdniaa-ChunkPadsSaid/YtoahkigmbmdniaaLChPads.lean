/-
  The walk of ChunkPads.
-/
import Derived.Test.YtoahkigmbmdniaaLChCom
namespace Go.Proofs.Ytoahkigmbmdniaa
open Go.RowKit
set_option linter.unusedVariables false

theorem encC_cons (k f : Int) (zs : List Int) : encC k f zs = k :: f :: ((4 + (zs.length : Int)) / 256 % 256) :: ((4 + (zs.length : Int)) % 256) :: (zs ++ List.replicate (up4 (4 + zs.length) - (4 + zs.length)) 0) := by
  unfold encC
  rw [enc2]
  simp
theorem encC_set0 (k f v : Int) (zs : List Int) : (encC k f zs).set 0 v = encC v f zs := by rw [encC_cons, encC_cons]; rfl
theorem encC_set1 (k f v : Int) (zs : List Int) : (encC k f zs).set 1 v = encC k v zs := by rw [encC_cons, encC_cons]; rfl
theorem encC_setB (k f v : Int) (zs : List Int) (j : Nat) (hj : j < zs.length) : (encC k f zs).set (4 + j) v = encC k f (zs.set j v) := by
  rw [encC_cons, encC_cons, List.length_set, show 4 + j = j + 1 + 1 + 1 + 1 by omega]
  simp only [List.set_cons_succ]
  rw [List.set_append_left _ _ hj]
theorem encC_setP (k f v : Int) (zs : List Int) (j : Nat) : (encC k f zs).set (4 + zs.length + j) v = k :: f :: ((4 + (zs.length : Int)) / 256 % 256) :: ((4 + (zs.length : Int)) % 256) :: (zs ++ (List.replicate (up4 (4 + zs.length) - (4 + zs.length)) 0).set j v) := by
  rw [encC_cons, show 4 + zs.length + j = zs.length + j + 1 + 1 + 1 + 1 by omega]
  simp only [List.set_cons_succ]
  rw [List.set_append_right _ _ (by omega), Nat.add_sub_cancel_left]
theorem encC_pad0 (k f : Int) (zs : List Int) (j : Nat) : (encC k f zs).set (4 + zs.length + j) 0 = encC k f zs := by
  rw [encC_setP, encC_cons]
  have e : ∀ (p : Nat), (List.replicate p (0 : Int)).set j 0 = List.replicate p 0 := by
    intro p
    apply List.ext_getElem?
    intro i
    rw [List.getElem?_set]
    split
    · rename_i h
      subst h
      by_cases hj : j < p
      · simp [hj]
      · simp [hj]
    · rfl
  rw [e]
theorem encC_padv (k f v : Int) (zs : List Int) (hv : v ≠ 0) (j : Nat) (hj : j < up4 (4 + zs.length) - (4 + zs.length)) : ∀ (k' f' : Int) (body : List Int), body.length ≤ 65531 → zs.length ≤ 65531 → ¬ encC k' f' body <+: (encC k f zs).set (4 + zs.length + j) v := by
  intro k' f' body hb hz hp
  obtain ⟨_, p2, _, _, _, _, p7⟩ := pre_parts hp hb
  rw [encC_setP] at p2 p7
  have hl : lenOf (k :: f :: ((4 + (zs.length : Int)) / 256 % 256) :: ((4 + (zs.length : Int)) % 256) :: (zs ++ (List.replicate (up4 (4 + zs.length) - (4 + zs.length)) 0).set j v)) = 4 + (zs.length : Int) := by
    have e : ((k :: f :: ((4 + (zs.length : Int)) / 256 % 256) :: ((4 + (zs.length : Int)) % 256) :: (zs ++ (List.replicate (up4 (4 + zs.length) - (4 + zs.length)) 0).set j v)).drop 2).take 2 = [(4 + (zs.length : Int)) / 256 % 256, (4 + (zs.length : Int)) % 256] := rfl
    unfold lenOf
    rw [e, num2]
    omega
  rw [hl] at p2
  have e : body.length = zs.length := by omega
  rw [e, ← List.drop_drop] at p7
  generalize up4 (4 + zs.length) - (4 + zs.length) = p at *
  rw [show ∀ (a b c d : Int) r, (a :: b :: c :: d :: r).drop 4 = r from fun _ _ _ _ _ => rfl, List.drop_left, List.take_of_length_le (by simp)] at p7
  have := congrArg (fun l => l[j]?) p7
  simp [hj] at this
  exact hv this

set_option maxRecDepth 100000 in
set_option maxHeartbeats 3200000 in
theorem chunkPads_walk (k f : Int) (a : Option Addr) (len cap : Nat) (z : List Int) (at_ v : Int) (w : World) (wk : (Lit.int .u8 k).wf = true) (wf : (Lit.int .u8 f).wf = true) (w0 : IsRow .u8 w a len cap z) (wa : (Lit.int .u16 at_).wf = true) (wv : (Lit.int .u8 v).wf = true) :
    Calls Try.prog 8 #[.agg #[.int .u8 k, .int .u8 f, .slice a len cap], .int .u16 at_, .int .u8 v] w fun e w' => e = .returned (.bool true) ∧ Below w.heap.size w w' := by
  obtain ⟨hr, hbyt, hcap, hmax⟩ := w0.reads
  obtain ⟨k0, k1⟩ := wf_u8_in wk
  obtain ⟨f0, f1⟩ := wf_u8_in wf
  obtain ⟨v0, v1⟩ := wf_u8_in wv
  obtain ⟨t0, t1⟩ := wf_u16_in wa
  clear w0 wk wf wa wv
  generalize z.take len = zs at hr hbyt
  unfold maxLen at hmax
  obtain ⟨A, rfl⟩ := Int.eq_ofNat_of_zero_le t0
  obtain ⟨w0, hw0⟩ : ∃ w0, w.alloc (.cells #[.int .u8 k, .int .u8 f, .slice a len cap] 24) = w0 := ⟨_, rfl⟩
  have hb0 : Below w.heap.size w w0 := by rw [← hw0]; exact chunkBelow w k f _
  have ha0 : Arr w0 w.heap.size 24 [.int .u8 k, .int .u8 f, .slice a len cap] := by rw [← hw0]; exact chunkBox w k f _
  have c0 := ha0.cell (i := 0) rfl
  have c1 := ha0.cell (i := 1) rfl
  have c2 := ha0.cell (i := 2) rfl
  have HR := Lib.hid (And.intro hr (And.intro hbyt hr.1))
  have H0 := Lib.hid (And.intro hb0 ha0)
  have HK := Lib.hid (And.intro k0 (And.intro (show k < 256 by omega) (And.intro f0 (show f < 256 by omega))))
  clear k0 k1 f0 f1
  by_cases hlen : 65531 < len
  · have hwr := write_no k f a len cap w0 hlen
    have HW := Lib.hid hwr
    clear hr hbyt hb0 ha0 hwr
    go_enter Try.func8, Try.ntmps8
    go_wp2_with fail
    refine HW.out.mono ?_
    rintro e w1 ⟨rfl, hb1⟩
    have hb1w := H0.out.1.trans (hb1.mono H0.out.1.size)
    have ha1 := H0.out.2.keep hb1
    have d0 := ha1.cell (i := 0) rfl
    have d1 := ha1.cell (i := 1) rfl
    have d2 := ha1.cell (i := 2) rfl
    obtain ⟨lg, hlg⟩ : ∃ lg, lg = decide (131072 < len) := ⟨_, rfl⟩
    have hla := large_any k f a len cap w1 lg hlg
    have HLA := Lib.hid hla
    have H1 := Lib.hid hb1w
    clear hb1 hb1w ha1 hla hlg HW H0 c0 c1 c2 hw0
    go_wp2_with fail
    refine HLA.out.mono ?_
    rintro e w2 ⟨rfl, hb2⟩
    have H2 := Lib.hid (H1.out.trans (hb2.mono H1.out.size))
    clear hb2 HLA H1 d0 d1 d2
    cases lg
    all_goals
      go_wp2_with (go_at_call 11; refine (works_any _).mono ?_; rintro e w' ⟨rfl, hb⟩)
      go_ret
      exact ⟨rfl, H2.out.trans (hb.mono H2.out.size)⟩
  · have hwr := write_yes k f a len cap zs w0 (hr.below hb0) (by omega)
    have hge := up4_ge (4 + len)
    have hle := up4_le (4 + len)
    generalize hE : up4 (4 + len) = E at *
    have HW := Lib.hid hwr
    have HE := Lib.hid hE
    clear hr hbyt hb0 ha0 hwr hE
    go_enter Try.func8, Try.ntmps8
    go_wp2_with fail
    refine HW.out.mono ?_
    rintro e w1 ⟨g, rfl, hg, hk1, hb1⟩
    have hb1w := H0.out.1.trans (hb1.mono H0.out.1.size)
    have ha1 := H0.out.2.keep hb1
    have d0 := ha1.cell (i := 0) rfl
    have d1 := ha1.cell (i := 1) rfl
    have d2 := ha1.cell (i := 2) rfl
    have hla := large_any k f a len cap w1 false (by simp; omega)
    have hgw : w.heap.size < g := by have := H0.out.2.lt; omega
    have HLA := Lib.hid hla
    have H1 := Lib.hid (And.intro hb1w (And.intro ha1 (And.intro hk1 hgw)))
    clear hb1 hb1w ha1 hla hk1 hg hgw HW H0 c0 c1 c2 hw0
    go_wp2_with fail
    refine HLA.out.mono ?_
    rintro e w2 ⟨rfl, hb2⟩
    have hb2w := H1.out.1.trans (hb2.mono H1.out.1.size)
    have ha2 := H1.out.2.1.keep hb2
    have hk2 := H1.out.2.2.1.below hb2
    have H2 := Lib.hid (And.intro hb2w (And.intro ha2 (And.intro hk2 H1.out.2.2.2)))
    clear hb2 hb2w ha2 hk2 HLA H1 d0 d1 d2
    have hE0 : (0 : Int) < (E : Int) := by omega
    obtain ⟨i, hi⟩ : ∃ i, i = A % E := ⟨_, rfl⟩
    have hiE : i < E := by rw [hi]; exact Nat.mod_lt _ (by omega)
    have hmod : (A : Int) % (E : Int) = (i : Int) := by rw [hi]; simp
    clear hi
    by_cases i2 : i = 2
    · subst i2
      rw [show ((2 : Nat) : Int) = 2 from rfl] at hmod
      go_wp2_with (go_at_call 11; refine (works_any _).mono ?_; rintro e w' ⟨rfl, hb⟩)
      go_ret
      exact ⟨rfl, H2.out.1.trans (hb.mono H2.out.1.size)⟩
    by_cases i3 : i = 3
    · subst i3
      rw [show ((3 : Nat) : Int) = 3 from rfl] at hmod
      go_wp2_with (go_at_call 11; refine (works_any _).mono ?_; rintro e w' ⟨rfl, hb⟩)
      go_ret
      exact ⟨rfl, H2.out.1.trans (hb.mono H2.out.1.size)⟩
    have e2 : ((i : Int) == 2) = false := by simp; omega
    have e3 : ((i : Int) == 3) = false := by simp; omega
    have e2' : ((i : Int) != 2) = true := by simp; omega
    have g0 : (0 : Int) ≤ (i : Int) := by omega
    have gE : (i : Int) < (E : Int) := by omega
    have hlz := HR.out.2.2
    have hlE : (encC k f zs).length = E := by rw [encC_len, hlz]; exact HE.out
    have hc : w2.cell? ⟨g, i, none⟩ = some (.int .u8 ((encC k f zs)[i]?.getD 0)) := H2.out.2.2.1.cell (by omega)
    have hf := H2.out.2.2.1.free i
    have hk3 := H2.out.2.2.1.set i v
    have hne : w.heap.size ≠ g := by have := H2.out.2.2.2; omega
    have ha3 : Arr (w2.setCell ⟨g, i, none⟩ (.int .u8 v)) w.heap.size 24 [.int .u8 k, .int .u8 f, .slice a len cap] := H2.out.2.1.off _ (by simpa using hne)
    have hb3 : Below w.heap.size w (w2.setCell ⟨g, i, none⟩ (.int .u8 v)) := H2.out.1.setCell (by have := H2.out.2.2.2; simp only; omega) _
    have hbz : Byt ((encC k f zs).set i v) := (encC_byt HK.out.1 HK.out.2.1 HK.out.2.2.1 HK.out.2.2.2 HR.out.2.1).set i v0 (by omega)
    have hrd := read_any (some ⟨g, 0, none⟩) E E _ (w2.setCell ⟨g, i, none⟩ (.int .u8 v)) (hk3.readsAll E (by rw [List.length_set, hlE])) hbz (Nat.le_refl _) (by omega)
    have H3 := Lib.hid (And.intro hb3 ha3)
    have HRD := Lib.hid hrd
    clear hk3 hne ha3 hb3 hbz hrd H2
    go_wp2_with fail
    clear hc hf
    refine HRD.out.mono ?_
    rintro e w4 ⟨hok, hb4⟩
    have hb4w := H3.out.1.trans (hb4.mono H3.out.1.size)
    have ha4 := H3.out.2.keep hb4
    have H4 := Lib.hid (And.intro hb4w ha4)
    have HLZ := Lib.hid hlz
    clear hb4 hb4w ha4 HRD H3 hlz
    by_cases hpad : 4 + len ≤ i
    · obtain ⟨j, rfl⟩ : ∃ j, i = 4 + zs.length + j := ⟨i - (4 + len), by have := HLZ.out; omega⟩
      have gp : 4 + (len : Int) ≤ ((4 + zs.length + j : Nat) : Int) := by omega
      by_cases hv : v = 0
      · subst hv
        obtain ⟨g5, rfl, hg5, hk5⟩ := hok.yes (k := k) (f := f) (body := zs) (by rw [encC_pad0]; exact List.prefix_refl _) (by have := HLZ.out; omega)
        have hb5 := chunkBelow w4 k f (.slice (some ⟨g5, 0, none⟩) zs.length zs.length)
        have c2 := (H4.out.2.keep hb5).cell (i := 2) rfl
        have H5 := Lib.hid (H4.out.1.trans (hb5.mono H4.out.1.size))
        clear hok hg5 hk5 hb5 H4
        generalize 4 + zs.length + j = i at *
        go_wp2_with (go_at_call 11; refine (works_any _).mono ?_; rintro e w' ⟨rfl, hb⟩)
        go_ret
        exact ⟨rfl, H5.out.trans (hb.mono H5.out.size)⟩
      · have hj : j < up4 (4 + zs.length) - (4 + zs.length) := by have := HLZ.out; have := HE.out; rw [HLZ.out]; omega
        obtain rfl := hok.no (fun k' f' body hb => encC_padv k f v zs hv j hj k' f' body hb (by have := HLZ.out; omega))
        unfold noChunk
        have hb5 := chunkBelow w4 0 0 (.slice none 0 0)
        have c2 := (H4.out.2.keep hb5).cell (i := 2) rfl
        have H5 := Lib.hid (H4.out.1.trans (hb5.mono H4.out.1.size))
        have hv0 : (v == 0) = false := by simpa using hv
        clear hok hb5 H4 hj
        generalize 4 + zs.length + j = i at *
        go_wp2_with (go_at_call 11; refine (works_any _).mono ?_; rintro e w' ⟨rfl, hb⟩)
        go_ret
        exact ⟨rfl, H5.out.trans (hb.mono H5.out.size)⟩
    · have gp : ¬ 4 + (len : Int) ≤ (i : Int) := by omega
      have hcase : ∃ (k' f' : Int) (body : List Int), (encC k f zs).set i v = encC k' f' body ∧ body.length = len ∧ (i = 0 → k' = v) ∧ (i = 1 → f' = v) ∧ (4 ≤ i → body[i - 4]?.getD 0 = v) := by
        by_cases h0 : i = 0
        · subst h0; exact ⟨v, f, zs, encC_set0 _ _ _ _, HLZ.out, fun _ => rfl, fun h => by omega, fun h => by omega⟩
        by_cases h1 : i = 1
        · subst h1; exact ⟨k, v, zs, encC_set1 _ _ _ _, HLZ.out, fun h => by omega, fun _ => rfl, fun h => by omega⟩
        · obtain ⟨j, rfl⟩ : ∃ j, i = 4 + j := ⟨i - 4, by omega⟩
          have hj : j < zs.length := by have := HLZ.out; omega
          refine ⟨k, f, zs.set j v, encC_setB _ _ _ _ _ hj, by simpa using HLZ.out, fun h => by omega, fun h => by omega, fun h => ?_⟩
          rw [Nat.add_sub_cancel_left]
          simp [hj]
      obtain ⟨k', f', body, hset, hbl, hk', hf', hbd⟩ := hcase
      obtain ⟨g5, rfl, hg5, hk5⟩ := hok.yes (k := k') (f := f') (body := body) (by rw [hset]; exact List.prefix_refl _) (by omega)
      rw [hbl, HE.out]
      have hb5 := chunkBelow w4 k' f' (.slice (some ⟨g5, 0, none⟩) len len)
      have ha5 := chunkBox w4 k' f' (.slice (some ⟨g5, 0, none⟩) len len)
      have c2 := (H4.out.2.keep hb5).cell (i := 2) rfl
      have d0 := ha5.cell (i := 0) rfl
      have d1 := ha5.cell (i := 1) rfl
      have d2 := ha5.cell (i := 2) rfl
      have hk6 := hk5.below hb5
      have H5 := Lib.hid (H4.out.1.trans (hb5.mono H4.out.1.size))
      clear hok hg5 hb5 ha5 H4 hset hk5
      by_cases h0 : i = 0
      · obtain rfl := hk' h0
        subst h0
        rw [show ((0 : Nat) : Int) = 0 from rfl] at *
        clear hk' hf' hbd hk6
        go_wp2_with (go_at_call 11; refine (works_any _).mono ?_; rintro e w' ⟨rfl, hb⟩)
        go_ret
        exact ⟨rfl, H5.out.trans (hb.mono H5.out.size)⟩
      by_cases h1 : i = 1
      · obtain rfl := hf' h1
        subst h1
        rw [show ((1 : Nat) : Int) = 1 from rfl] at *
        clear hk' hf' hbd hk6
        go_wp2_with (go_at_call 11; refine (works_any _).mono ?_; rintro e w' ⟨rfl, hb⟩)
        go_ret
        exact ⟨rfl, H5.out.trans (hb.mono H5.out.size)⟩
      · have q0 : ((i : Int) == 0) = false := by simp; omega
        have q1 : ((i : Int) == 1) = false := by simp; omega
        have q0' : ((i : Int) != 0) = true := by simp; omega
        have q1' : ((i : Int) != 1) = true := by simp; omega
        have q4 : ¬ (i : Int) < 4 := by omega
        have q4' : decide ((i : Int) < 4) = false := by simp; omega
        have hj := hbd (by omega)
        have hcell := hk6.cell (i := i - 4) (by omega)
        rw [hj] at hcell
        have hsub : (i : Int) - 4 = ((i - 4 : Nat) : Int) := by omega
        have hjl : ((i - 4 : Nat) : Int) < (len : Int) := by omega
        have hjn : i - 4 < len := by omega
        clear hk' hf' hbd hk6 hj
        generalize i - 4 = j at *
        go_wp2_with (go_at_call 11; refine (works_any _).mono ?_; rintro e w' ⟨rfl, hb⟩)
        go_ret
        exact ⟨rfl, H5.out.trans (hb.mono H5.out.size)⟩
end Go.Proofs.Ytoahkigmbmdniaa
