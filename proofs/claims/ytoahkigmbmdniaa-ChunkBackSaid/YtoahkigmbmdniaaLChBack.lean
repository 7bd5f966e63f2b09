/-
  The walk of ChunkBack.
-/
import Derived.Test.YtoahkigmbmdniaaLChCom
import Derived.Test.YtoahkigmbmdniaaCutRun
import Derived.Test.YtoahkigmbmdniaaGoodW
namespace Go.Proofs.Ytoahkigmbmdniaa
open Go.RowKit
set_option linter.unusedVariables false

/-- 'append' of bytes onto a full row. -/
theorem blk_appends {w : World} {g l : Nat} {zs : List Int} (h : Blk w g zs) (hl : zs.length = l) (b : Option Addr) (m c2 : Nat) (ys : List Int) (hr : Reads w b m ys) (hn : l + m ≤ 1099511627776) :
    ∃ a' c' W3, (Builtin.append_ #[22, 22] 22 #[.slice (some ⟨g, 0, none⟩) l l, .slice b m c2]).run Try.prog w = .ok (.slice a' (l + m) c') W3 ∧
      RowKit.Hid (Reads W3 a' (l + m) (zs ++ ys) ∧ l + m ≤ c' ∧ Turn [g] w W3) := by
  obtain ⟨i0, hi0, hz⟩ := Option.map_eq_some_iff.1 Try.infoR
  simp only [Prod.mk.injEq] at hz
  obtain ⟨hz0, hz1, hz2⟩ := hz
  have hrow : Row8 0 w (some ⟨g, 0, none⟩) l l zs := Row8.of_blk h (Nat.zero_le _) hl.symm (by unfold maxLen; omega)
  have hlen : ys.length = m := hr.1
  by_cases hm : m = 0
  · subst hm
    have hy : ys = [] := List.eq_nil_of_length_eq_zero hlen
    subst hy
    exact ⟨_, l, w, run_append_zero w _ _ i0 Try.underlying22 hi0 _ b l l c2 (Nat.le_refl _), Lib.hid ⟨by simpa using hrow.reads, Nat.le_refl _, Turn.refl _ _⟩⟩
  · rcases hr.2 with h0 | ⟨bk, off, rfl, hlt, hc⟩
    · omega
    · obtain ⟨v', W3, hrun, ho, hg, _⟩ := run_append_own (P := Try.prog) w 0 22 22 5 i0 (.int .u8 0) 1 1 Try.underlying22 hi0 hz0 hz1 hz2 rfl (by decide) (.slice (some ⟨g, 0, none⟩) l l) l _ hrow ⟨bk, off, none⟩ m c2 (ys.map (Value.int .u8)) (by simp [hlen])
        (fun j u hu => by
          rw [List.getElem?_map] at hu
          obtain ⟨y, hy, rfl⟩ := Option.map_eq_some_iff.1 hu
          have hj : j < m := by have := (List.getElem?_eq_some_iff.1 hy).1; omega
          rw [show (⟨bk, off, none⟩ : Addr).add j = ⟨bk, off + j, none⟩ from Addr.add_mid _ _ _, hc j hj, hy, Option.getD_some])
        (by intro u hu; obtain ⟨y, _, rfl⟩ := List.mem_map.1 hu; rfl) (by unfold maxLen; omega) (by omega) (Nat.zero_le _)
      obtain ⟨a', c', rfl, hrow'⟩ := Row8.of_owns (zs := zs ++ ys) ho (by simp)
      refine ⟨a', c', W3, hrun, Lib.hid ⟨hrow'.reads, hrow'.le, (Turn.refl _ _).grown hg (fun k hk => ?_)⟩⟩
      simp [Value.ownBlock] at hk
      subst hk
      exact .inl (by simp)

/-- What the operations of the last region leave behind. -/
def BG (b2 : Option Addr) (len2 cap2 U g9 m : Nat) (k' f' : Int) (body : List Int) (i : Nat) (v : Value) (W : World) : Prop := match i with | 0 => v = .int .i64 (U : Nat) | 1 => v = .slice b2 len2 cap2 | 2 => v = .int .i64 (len2 : Nat) | 3 => v = .bool true | 4 => v = .bool true | 5 => v = .agg #[.int .u8 k', .int .u8 f', .slice (some ⟨g9, 0, none⟩) m m] | 6 => ∃ a9, v = .slice a9 U U ∧ Reads W a9 U (encC k' f' body) | 7 => v = .slice b2 len2 cap2 | 8 => v = .int .i64 (U : Nat) | 9 => v = .slice (cutA b2 0 cap2) U cap2 | 10 => v = .bool true | 11 => v = .bool true | 12 => v = .bool true | 13 => v = .bool true | 14 => v = .bool true | 15 => v = .bool true | _ => True
theorem bgmono {W W' : World} {b2 : Option Addr} {len2 cap2 U g9 m : Nat} {k' f' : Int} {body : List Int} (hb : Below W.heap.size W W') (j : Nat) (x : Value) (h : BG b2 len2 cap2 U g9 m k' f' body j x W) : BG b2 len2 cap2 U g9 m k' f' body j x W' := by
  unfold BG at h ⊢
  split at h <;> try exact h
  · obtain ⟨a9, h1, h2⟩ := h
    exact ⟨a9, h1, h2.below hb⟩

set_option maxRecDepth 100000 in
set_option maxHeartbeats 3200000 in
theorem chunkBack_walk (k f : Int) (p : Option Addr) (len cap : Nat) (z : List Int) (b2 : Option Addr) (len2 cap2 : Nat) (z2 : List Int) (w : World) (wk : (Lit.int .u8 k).wf = true) (wf : (Lit.int .u8 f).wf = true) (w0 : IsRow .u8 w p len cap z) (w1 : IsRow .u8 w b2 len2 cap2 z2) :
    Calls Try.prog 5 #[.agg #[.int .u8 k, .int .u8 f, .slice p len cap], .slice b2 len2 cap2] w fun e w' => e = .returned (.bool true) ∧ Below w.heap.size w w' := by
  obtain ⟨hr, hbyt, hcap, hmax⟩ := w0.reads
  obtain ⟨hr2, hbyt2, hcap2, hmax2⟩ := w1.reads
  obtain ⟨k0, k1⟩ := wf_u8_in wk
  obtain ⟨f0, f1⟩ := wf_u8_in wf
  clear w0 w1 wk wf
  generalize z.take len = zs at hr hbyt
  generalize z2.take len2 = ys at hr2 hbyt2
  unfold maxLen at hmax hmax2
  obtain ⟨w0, hw0⟩ : ∃ w0, w.alloc (.cells #[.int .u8 k, .int .u8 f, .slice p len cap] 24) = w0 := ⟨_, rfl⟩
  have hb0 : Below w.heap.size w w0 := by rw [← hw0]; exact chunkBelow w k f _
  have ha0 : Arr w0 w.heap.size 24 [.int .u8 k, .int .u8 f, .slice p len cap] := by rw [← hw0]; exact chunkBox w k f _
  have c0 := ha0.cell (i := 0) rfl
  have c1 := ha0.cell (i := 1) rfl
  have c2 := ha0.cell (i := 2) rfl
  obtain ⟨lg, hlg⟩ : ∃ lg, lg = decide (131072 < len) := ⟨_, rfl⟩
  have hla := large_any k f p len cap w0 lg hlg
  have HR := Lib.hid (And.intro hr (And.intro hbyt hr.1))
  have HR2 := Lib.hid (And.intro hr2 (And.intro hbyt2 hr2.1))
  have H0 := Lib.hid (And.intro hb0 ha0)
  have HLA := Lib.hid hla
  have HK := Lib.hid (And.intro k0 (And.intro (show k < 256 by omega) (And.intro f0 (show f < 256 by omega))))
  clear hr hbyt hr2 hbyt2 hb0 ha0 hla k0 k1 f0 f1
  go_enter Try.func5, Try.ntmps5
  go_wp2_with fail
  refine HLA.out.mono ?_
  rintro e w1 ⟨rfl, hb1⟩
  have hb1w := H0.out.1.trans (hb1.mono H0.out.1.size)
  have ha1 := H0.out.2.keep hb1
  have H1 := Lib.hid (And.intro hb1w ha1)
  clear HLA hb1 hb1w ha1 c0 c1 c2 hw0 H0
  cases lg with
  | true =>
    clear hlg
    go_wp2_with (go_at_call 11; refine (works_any _).mono ?_; rintro e w' ⟨rfl, hb⟩)
    go_ret
    exact ⟨rfl, H1.out.1.trans (hb.mono H1.out.1.size)⟩
  | false =>
  have hlen : len ≤ 131072 := by simpa using hlg.symm
  clear hlg
  by_cases hm4 : 4096 < len2
  · have hg : (4096 : Int) < len2 := by omega
    go_wp2_with (go_at_call 11; refine (works_any _).mono ?_; rintro e w' ⟨rfl, hb⟩)
    go_ret
    exact ⟨rfl, H1.out.1.trans (hb.mono H1.out.1.size)⟩
  have hg4 : ¬ (4096 : Int) < len2 := by omega
  have c0 := H1.out.2.cell (i := 0) rfl
  have c1 := H1.out.2.cell (i := 1) rfl
  have c2 := H1.out.2.cell (i := 2) rfl
  by_cases hbig : 65531 < len
  · have hgb : (65531 : Int) < len := by omega
    have hwr := write_no k f p len cap w1 hbig
    have HW := Lib.hid hwr
    clear hwr
    go_wp2_with fail
    refine HW.out.mono ?_
    rintro e w2 ⟨rfl, hb2⟩
    have ha2 := H1.out.2.keep hb2
    have d2 := ha2.cell (i := 2) rfl
    have H2 := Lib.hid (H1.out.1.trans (hb2.mono H1.out.1.size))
    clear hb2 ha2 HW H1 c0 c1 c2
    go_wp2_with (go_at_call 11; refine (works_any _).mono ?_; rintro e w' ⟨rfl, hb⟩)
    go_ret
    exact ⟨rfl, H2.out.trans (hb.mono H2.out.size)⟩
  have hgb : ¬ (65531 : Int) < len := by omega
  have hwr := write_yes k f p len cap zs w1 (HR.out.1.below H1.out.1) (by omega)
  have hge := up4_ge (4 + len)
  have hle := up4_le (4 + len)
  have hmo : ((up4 (4 + len) : Nat) : Int) % 4 = 0 := by unfold up4; omega
  generalize hE : up4 (4 + len) = E at *
  have HW := Lib.hid hwr
  have HE := Lib.hid hE
  clear hwr hE
  go_wp2_with fail
  refine HW.out.mono ?_
  rintro e w2 ⟨g, rfl, hg, hk2, hb2⟩
  have hb2w := H1.out.1.trans (hb2.mono H1.out.1.size)
  have ha2 := H1.out.2.keep hb2
  have hgw : w.heap.size < g := by have := H1.out.2.lt; omega
  have hlE : (encC k f zs).length = E := by rw [encC_len, HR.out.2.2]; exact HE.out
  have hbe : Byt (encC k f zs) := encC_byt HK.out.1 HK.out.2.1 HK.out.2.2.1 HK.out.2.2.2 HR.out.2.1
  have hrd := read_any (some ⟨g, 0, none⟩) E E _ w2 (hk2.readsAll E hlE.symm) hbe (Nat.le_refl _) (by omega)
  have d2 := ha2.cell (i := 2) rfl
  have H2 := Lib.hid (And.intro hb2w (And.intro ha2 (And.intro hk2 hgw)))
  have HRD := Lib.hid hrd
  have HBE := Lib.hid (And.intro hbe hlE)
  clear hb2 hb2w ha2 hk2 hg hgw hlE hbe hrd HW H1 c0 c1 c2
  go_wp2_with fail
  refine HRD.out.mono ?_
  rintro e w3 ⟨hok, hb3⟩
  obtain ⟨g4, rfl, hg4', hk4⟩ := hok.yes (k := k) (f := f) (body := zs) (List.prefix_refl _) (by have := HR.out.2.2; omega)
  rw [HR.out.2.2, HE.out]
  obtain ⟨w4, hw4⟩ : ∃ w4, w3.alloc (.cells #[.int .u8 k, .int .u8 f, .slice (some ⟨g4, 0, none⟩) len len] 24) = w4 := ⟨_, rfl⟩
  have hb34 : Below w3.heap.size w3 w4 := by rw [← hw4]; exact chunkBelow w3 k f _
  have hx4 : Arr w4 w3.heap.size 24 [.int .u8 k, .int .u8 f, .slice (some ⟨g4, 0, none⟩) len len] := by rw [← hw4]; exact chunkBox w3 k f _
  have hb24 := hb3.trans (hb34.mono hb3.size)
  have hb4w := H2.out.1.trans (hb24.mono H2.out.1.size)
  have ha4 := H2.out.2.1.keep hb24
  have hkg := H2.out.2.2.1.below hb24
  have hk44 := hk4.below hb34
  have hng4 : g4 ≠ g := by have := H2.out.2.2.1.lt; omega
  have hnx : w3.heap.size ≠ g := by have := H2.out.2.2.1.lt; have := hb3.size; omega
  have hnp : w.heap.size ≠ g := by have := H2.out.2.2.2; omega
  obtain ⟨a5, c5, w5, happ, H5⟩ := blk_appends hkg HBE.out.2 b2 len2 cap2 ys (HR2.out.1.below hb4w) (by omega)
  have hb5w : Below w.heap.size w w5 := hb4w.trans (H5.out.2.2.below hb4w.size (fun k hk => by simp at hk; subst hk; have := H2.out.2.2.2; omega))
  have ha5 : Arr w5 w.heap.size 24 [.int .u8 k, .int .u8 f, .slice p len cap] := (H5.out.2.2.block _ ha4.lt (by simpa using hnp)).trans ha4
  have hx5 : Arr w5 w3.heap.size 24 [.int .u8 k, .int .u8 f, .slice (some ⟨g4, 0, none⟩) len len] := (H5.out.2.2.block _ hx4.lt (by simpa using hnx)).trans hx4
  have hk5 : Blk w5 g4 zs := (H5.out.2.2.block _ hk44.lt (by simpa using hng4)).trans hk44
  have hrd := read_any a5 (E + len2) c5 _ w5 H5.out.1 (HBE.out.1.append HR2.out.2.1) H5.out.2.1 (by omega)
  have H6 := Lib.hid (And.intro hb5w (And.intro ha5 (And.intro hx5 hk5)))
  have HRD2 := Lib.hid hrd
  clear hok hg4' hk4 hb3 hb34 hx4 hb24 hb4w ha4 hkg hk44 hng4 hnx hnp H5 hb5w ha5 hx5 hk5 hrd HRD H2 d2
  go_wp2_with (at_builtin; refine wpList_append_run rfl _ _ _ rfl _ _ _ _ rfl rfl happ ?_)
  clear happ hw4
  refine HRD2.out.mono ?_
  rintro e w6 ⟨hok, hb6⟩
  obtain ⟨g7, rfl, hg7, hk7⟩ := hok.yes (k := k) (f := f) (body := zs) (List.prefix_append _ _) (by have := HR.out.2.2; omega)
  rw [HR.out.2.2, HE.out]
  obtain ⟨w7, hw7⟩ : ∃ w7, w6.alloc (.cells #[.int .u8 k, .int .u8 f, .slice (some ⟨g7, 0, none⟩) len len] 24) = w7 := ⟨_, rfl⟩
  have hb67 : Below w6.heap.size w6 w7 := by rw [← hw7]; exact chunkBelow w6 k f _
  have hx7 : Arr w7 w6.heap.size 24 [.int .u8 k, .int .u8 f, .slice (some ⟨g7, 0, none⟩) len len] := by rw [← hw7]; exact chunkBox w6 k f _
  have hb57 := hb6.trans (hb67.mono hb6.size)
  have hb7w := H6.out.1.trans (hb57.mono H6.out.1.size)
  have ha7 := H6.out.2.1.keep hb57
  have hd7 := H6.out.2.2.1.keep hb57
  have hk57 := H6.out.2.2.2.below hb57
  have hk77 := hk7.below hb67
  have hlz := HR.out.2.2
  have hsame := same_yes k f p (some ⟨g4, 0, none⟩) len cap len zs w7 (HR.out.1.below hb7w) (hk57.readsAll _ hlz.symm) HR.out.2.1 (by omega)
  have c0 := ha7.cell (i := 0) rfl
  have c1 := ha7.cell (i := 1) rfl
  have c2 := ha7.cell (i := 2) rfl
  have d0 := hd7.cell (i := 0) rfl
  have d1 := hd7.cell (i := 1) rfl
  have d2 := hd7.cell (i := 2) rfl
  have s1 : 4 + (len : Int) ≤ (E : Int) := by omega
  have s2 : (E : Int) ≤ 7 + (len : Int) := by omega
  have s3 : ¬ (E : Int) < 4 + (len : Int) := by omega
  have s4 : ¬ 7 + (len : Int) < (E : Int) := by omega
  have H7 := Lib.hid (And.intro hb7w (And.intro ha7 (And.intro hx7 hk77)))
  have HS := Lib.hid hsame
  have HLZ := Lib.hid hlz
  clear hok hg7 hk7 hb6 hb67 hx7 hb57 hb7w ha7 hd7 hk57 hk77 hlz hsame HRD2 H6
  go_wp2_with fail
  refine HS.out.mono ?_
  rintro e w8 ⟨rfl, hb8⟩
  have hb8w := H7.out.1.trans (hb8.mono H7.out.1.size)
  have ha8 := H7.out.2.1.keep hb8
  have hx8 := H7.out.2.2.1.keep hb8
  have hk8 := H7.out.2.2.2.below hb8
  have hsame := same_yes k f p (some ⟨g7, 0, none⟩) len cap len zs w8 (HR.out.1.below hb8w) (hk8.readsAll _ HLZ.out.symm) HR.out.2.1 (by omega)
  have e0 := ha8.cell (i := 0) rfl
  have e1 := ha8.cell (i := 1) rfl
  have e2 := ha8.cell (i := 2) rfl
  have x0 := hx8.cell (i := 0) rfl
  have x1 := hx8.cell (i := 1) rfl
  have x2 := hx8.cell (i := 2) rfl
  have H8 := Lib.hid hb8w
  have HS2 := Lib.hid hsame
  clear hb8 hb8w ha8 hx8 hk8 hsame HS H7 c0 c1 c2 d0 d1 d2 hw7
  go_wp2_with fail
  refine HS2.out.mono ?_
  rintro e w9 ⟨rfl, hb9⟩
  have hb9w := H8.out.trans (hb9.mono H8.out.size)
  have hrd := read_any b2 len2 cap2 ys w9 (HR2.out.1.below hb9w) HR2.out.2.1 hcap2 (by omega)
  have H9 := Lib.hid hb9w
  have HRD3 := Lib.hid hrd
  clear hb9 hb9w hrd HS2 H8 e0 e1 e2 x0 x1 x2
  go_wp2_with fail
  refine HRD3.out.mono ?_
  rintro e w10 ⟨hok, hb10⟩
  have hb10w := H9.out.trans (hb10.mono H9.out.size)
  by_cases hp : ∃ (k' f' : Int) (body : List Int), body.length ≤ 65531 ∧ encC k' f' body <+: ys
  · obtain ⟨k', f', body, hl, hp⟩ := hp
    obtain ⟨g9, rfl, hg9, hk9⟩ := hok.yes hp hl
    obtain ⟨p1, p2, p3, p4, p5, p6, p7⟩ := pre_parts hp hl
    have hbody : Byt body := by rw [← p6]; exact (HR2.out.2.1.drop _).take _
    have hk0 : 0 ≤ k' ∧ k' < 256 := by have := HR2.out.2.1.getD 0; rw [p4] at this; exact this
    have hf0 : 0 ≤ f' ∧ f' < 256 := by have := HR2.out.2.1.getD 1; rw [p5] at this; exact this
    have hb11 := chunkBelow w10 k' f' (.slice (some ⟨g9, 0, none⟩) body.length body.length)
    have hx11 := chunkBox w10 k' f' (.slice (some ⟨g9, 0, none⟩) body.length body.length)
    have hk11 := hk9.below hb11
    have hb11w := hb10w.trans (hb11.mono hb10w.size)
    generalize hm : body.length = m at *
    generalize hU : up4 (4 + m) = U at *
    have hUl : U ≤ len2 := by have := HR2.out.2.2; omega
    have hdU : decide ((U : Int) ≤ (len2 : Int)) = true := by simpa using hUl
    have hcut := fun W => cut_h b2 len2 cap2 U (by omega) W
    obtain ⟨gx, hgx⟩ : ∃ gx, gx = w10.heap.size := ⟨_, rfl⟩
    obtain ⟨w11, hw11⟩ : ∃ w11, w11 = w10.alloc (.cells #[.int .u8 k', .int .u8 f', .slice (some ⟨g9, 0, none⟩) m m] 24) := ⟨_, rfl⟩
    rw [← hw11] at hb11 hx11 hk11 hb11w
    rw [← hgx] at hx11
    have hrc := reads_cut (HR2.out.1.below hb11w) 0 U (by omega) hUl hcap2
    rw [show U - 0 = U from rfl, List.drop_zero] at hrc
    have htk : ys.take U = encC k' f' body := by
      obtain ⟨rest, hrest⟩ := hp
      have h9 := encC_len k' f' body
      rw [hm, hU] at h9
      rw [← hrest, ← h9]
      simp
    rw [htk] at hrc
    have HX := Lib.hid (And.intro hx11 hk11)
    have HM := Lib.hid (And.intro hm (And.intro hl (And.intro hU (And.intro hrc (encC_byt hk0.1 hk0.2 hf0.1 hf0.2 hbody)))))
    have H11 := Lib.hid hb11w
    have HW11 := Lib.hid (And.intro hgx hw11)
    clear hok hp hg9 hk9 p1 p2 p3 p4 p5 p6 p7 hbody hk0 hf0 hb11 hx11 hk11 hb11w hb10w hb10 hm hl hU hrc htk H9 HRD3 hgx hw11
    go_wp2_with fail
    rw [← HW11.out.2, ← HW11.out.1]
    refine wp_region_any (by kernel_rfl) ?_
    refine Vals.wpAny_goodW (BG b2 len2 cap2 U g9 m k' f' body) (fun _ W => Below w11.heap.size w11 W) [some 111, some 112, some 113, some 114, some 115, some 116, some 117, some 118, some 119, some 120, some 121, some 122, some 123, some 124, some 125, some 4] 126 _ _ rfl (by kernel_rfl) (by kernel_rfl) (by decide) ?step ?fin (Below.refl _ _).drew
    case step =>
      intro i o d ho hd listed a W hls hun hcl hJ hdf hdep hfr K hK
      match i, ho, hd with
      | 0, ho, hd =>
        have ho' := ho
        simp only [List.getElem?_toArray, List.getElem?_cons_zero, Option.some.injEq] at ho hd
        subst ho hd
        have r14 : a.eval (.tmp 14) = .int .i64 (U : Nat) := hfr 14 (by decide)
        rw [Vals.eval_tmp] at r14
        refine Vals.wpOp_run ho' rfl ?_
        clear hdep hfr ho' hdf hcl
        go_simp
        exact hK _ _ (fun _ _ h => h) hJ (fun _ => rfl)
      | 1, ho, hd =>
        have ho' := ho
        simp only [List.getElem?_toArray, List.getElem?_cons_zero, List.getElem?_cons_succ, Option.some.injEq] at ho hd
        subst ho hd
        have r1 : a.eval (.tmp 1) = .slice b2 len2 cap2 := hfr 1 (by decide)
        rw [Vals.eval_tmp] at r1
        refine Vals.wpOp_run ho' rfl ?_
        clear hdep hfr ho' hdf hcl
        go_simp
        exact hK _ _ (fun _ _ h => h) hJ (fun _ => rfl)
      | 2, ho, hd =>
        have ho' := ho
        simp only [List.getElem?_toArray, List.getElem?_cons_zero, List.getElem?_cons_succ, Option.some.injEq] at ho hd
        subst ho hd
        have r112 : a.eval (.tmp 112) = .slice b2 len2 cap2 := (hdep ⟨1, .data⟩ (by simp) rfl).2 112 rfl
        rw [Vals.eval_tmp] at r112
        refine Vals.wpOp_run ho' rfl ?_
        clear hdep hfr ho' hdf hcl
        go_simp
        exact hK _ _ (fun _ _ h => h) hJ (fun _ => rfl)
      | 3, ho, hd =>
        have ho' := ho
        simp only [List.getElem?_toArray, List.getElem?_cons_zero, List.getElem?_cons_succ, Option.some.injEq] at ho hd
        subst ho hd
        have r111 : a.eval (.tmp 111) = .int .i64 (U : Nat) := (hdep ⟨0, .data⟩ (by simp) rfl).2 111 rfl
        rw [Vals.eval_tmp] at r111
        have r113 : a.eval (.tmp 113) = .int .i64 (len2 : Nat) := (hdep ⟨2, .data⟩ (by simp) rfl).2 113 rfl
        rw [Vals.eval_tmp] at r113
        refine Vals.wpOp_run ho' rfl ?_
        clear hdep hfr ho' hdf hcl
        go_simp
        exact hK _ _ (fun _ _ h => h) hJ (fun _ => rfl)
      | 4, ho, hd =>
        have ho' := ho
        simp only [List.getElem?_toArray, List.getElem?_cons_zero, List.getElem?_cons_succ, Option.some.injEq] at ho hd
        subst ho hd
        have r114 : a.eval (.tmp 114) = .bool true := (hdep ⟨3, .data⟩ (by simp) rfl).2 114 rfl
        rw [Vals.eval_tmp] at r114
        refine Vals.wpOp_run ho' rfl ?_
        clear hdep hfr ho' hdf hcl
        go_simp
        exact hK _ _ (fun _ _ h => h) hJ (fun _ => rfl)
      | 5, ho, hd =>
        have ho' := ho
        simp only [List.getElem?_toArray, List.getElem?_cons_zero, List.getElem?_cons_succ, Option.some.injEq] at ho hd
        subst ho hd
        have hgd : a.eval (.tmp 115) = .bool true := (hdep ⟨4, .guard⟩ (by simp) rfl).2 115 rfl
        have r13 : a.eval (.tmp 13) = .pointer (some ⟨gx, 0, none⟩) := hfr 13 (by decide)
        rw [Vals.eval_tmp] at r13
        have x0 := (HX.out.1.below hJ HX.out.1.lt).cell (i := 0) rfl
        have x1 := (HX.out.1.below hJ HX.out.1.lt).cell (i := 1) rfl
        have x2 := (HX.out.1.below hJ HX.out.1.lt).cell (i := 2) rfl
        refine Vals.wpOp_run ho' (by unfold Region.wanted; simp only []; rw [Vals.yielded_of (d := 115) rfl hgd]; rfl) ?_
        clear hdep hfr ho' hdf hcl hgd
        go_simp
        exact hK _ _ (fun _ _ h => h) hJ (fun _ => rfl)
      | 6, ho, hd =>
        have ho' := ho
        simp only [List.getElem?_toArray, List.getElem?_cons_zero, List.getElem?_cons_succ, Option.some.injEq] at ho hd
        subst ho hd
        have hgd : a.eval (.tmp 115) = .bool true := (hdep ⟨4, .guard⟩ (by simp) rfl).2 115 rfl
        have r116 : a.eval (.tmp 116) = .agg #[.int .u8 k', .int .u8 f', .slice (some ⟨g9, 0, none⟩) m m] := (hdep ⟨5, .data⟩ (by simp) rfl).2 116 rfl
        rw [Vals.eval_tmp] at r116
        refine Vals.wpOp_run ho' (by unfold Region.wanted; simp only []; rw [Vals.yielded_of (d := 115) rfl hgd]; rfl) ?_
        clear hdep hfr ho' hdf hcl hgd
        go_simp
        refine (write_yes k' f' (some ⟨g9, 0, none⟩) m m body W ((HX.out.2.below hJ).readsAll _ HM.out.1.symm) HM.out.2.1).mono ?_
        rintro e w' ⟨ga, rfl, hga, hka, hb⟩
        rw [HM.out.2.2.1]
        exact hK _ _ (bgmono hb) (hJ.trans (hb.mono hJ.size)) (fun _ => ⟨_, rfl, hka.readsAll U (by rw [encC_len, HM.out.1, HM.out.2.2.1])⟩)
      | 7, ho, hd =>
        have ho' := ho
        simp only [List.getElem?_toArray, List.getElem?_cons_zero, List.getElem?_cons_succ, Option.some.injEq] at ho hd
        subst ho hd
        have hgd : a.eval (.tmp 115) = .bool true := (hdep ⟨4, .guard⟩ (by simp) rfl).2 115 rfl
        have r1 : a.eval (.tmp 1) = .slice b2 len2 cap2 := hfr 1 (by decide)
        rw [Vals.eval_tmp] at r1
        refine Vals.wpOp_run ho' (by unfold Region.wanted; simp only []; rw [Vals.yielded_of (d := 115) rfl hgd]; rfl) ?_
        clear hdep hfr ho' hdf hcl hgd
        go_simp
        exact hK _ _ (fun _ _ h => h) hJ (fun _ => rfl)
      | 8, ho, hd =>
        have ho' := ho
        simp only [List.getElem?_toArray, List.getElem?_cons_zero, List.getElem?_cons_succ, Option.some.injEq] at ho hd
        subst ho hd
        have hgd : a.eval (.tmp 115) = .bool true := (hdep ⟨4, .guard⟩ (by simp) rfl).2 115 rfl
        have r14 : a.eval (.tmp 14) = .int .i64 (U : Nat) := hfr 14 (by decide)
        rw [Vals.eval_tmp] at r14
        refine Vals.wpOp_run ho' (by unfold Region.wanted; simp only []; rw [Vals.yielded_of (d := 115) rfl hgd]; rfl) ?_
        clear hdep hfr ho' hdf hcl hgd
        go_simp
        exact hK _ _ (fun _ _ h => h) hJ (fun _ => rfl)
      | 9, ho, hd =>
        have ho' := ho
        simp only [List.getElem?_toArray, List.getElem?_cons_zero, List.getElem?_cons_succ, Option.some.injEq] at ho hd
        subst ho hd
        have hgd : a.eval (.tmp 115) = .bool true := (hdep ⟨4, .guard⟩ (by simp) rfl).2 115 rfl
        have r118 : a.eval (.tmp 118) = .slice b2 len2 cap2 := (hdep ⟨7, .data⟩ (by simp) rfl).2 118 rfl
        rw [Vals.eval_tmp] at r118
        have r119 : a.eval (.tmp 119) = .int .i64 (U : Nat) := (hdep ⟨8, .data⟩ (by simp) rfl).2 119 rfl
        rw [Vals.eval_tmp] at r119
        refine Vals.wpOp_run ho' (by unfold Region.wanted; simp only []; rw [Vals.yielded_of (d := 115) rfl hgd]; rfl) ?_
        clear hdep hfr ho' hdf hcl hgd
        go_simp
        exact hK _ _ (fun _ _ h => h) hJ (fun _ => rfl)
      | 10, ho, hd =>
        have ho' := ho
        simp only [List.getElem?_toArray, List.getElem?_cons_zero, List.getElem?_cons_succ, Option.some.injEq] at ho hd
        subst ho hd
        have hgd : a.eval (.tmp 115) = .bool true := (hdep ⟨4, .guard⟩ (by simp) rfl).2 115 rfl
        have g117 : ∃ a9, (a.eval (.tmp 117)) = .slice a9 U U ∧ Reads W a9 U (encC k' f' body) := (hdep ⟨6, .data⟩ (by simp) rfl).2 117 rfl
        rw [Vals.eval_tmp] at g117
        obtain ⟨a9, r117, hr9⟩ := g117
        have r120 : a.eval (.tmp 120) = .slice (cutA b2 0 cap2) U cap2 := (hdep ⟨9, .data⟩ (by simp) rfl).2 120 rfl
        rw [Vals.eval_tmp] at r120
        refine Vals.wpOp_run ho' (by unfold Region.wanted; simp only []; rw [Vals.yielded_of (d := 115) rfl hgd]; rfl) ?_
        clear hdep hfr ho' hdf hcl hgd
        go_simp
        refine (eqBytes_yes a9 _ U U cap2 U _ _ W hr9 (HM.out.2.2.2.1.below hJ) HM.out.2.2.2.2 (by omega) rfl).mono ?_
        rintro e w' ⟨rfl, hb, _⟩
        exact hK _ _ (bgmono hb) (hJ.trans (hb.mono hJ.size)) (fun _ => rfl)
      | 11, ho, hd =>
        have ho' := ho
        simp only [List.getElem?_toArray, List.getElem?_cons_zero, List.getElem?_cons_succ, Option.some.injEq] at ho hd
        subst ho hd
        have r115 : a.eval (.tmp 115) = .bool true := (hdep ⟨4, .data⟩ (by simp) rfl).2 115 rfl
        rw [Vals.eval_tmp] at r115
        have r121 : a.eval (.tmp 121) = .bool true := (hdep ⟨10, .data⟩ (by simp) rfl).2 121 rfl
        rw [Vals.eval_tmp] at r121
        refine Vals.wpOp_run ho' rfl ?_
        clear hdep hfr ho' hdf hcl
        go_simp
        exact hK _ _ (fun _ _ h => h) hJ (fun _ => rfl)
      | 12, ho, hd =>
        have ho' := ho
        simp only [List.getElem?_toArray, List.getElem?_cons_zero, List.getElem?_cons_succ, Option.some.injEq] at ho hd
        subst ho hd
        have r122 : a.eval (.tmp 122) = .bool true := (hdep ⟨11, .data⟩ (by simp) rfl).2 122 rfl
        rw [Vals.eval_tmp] at r122
        refine Vals.wpOp_run ho' rfl ?_
        clear hdep hfr ho' hdf hcl
        go_simp
        exact hK _ _ (fun _ _ h => h) hJ (fun _ => rfl)
      | 13, ho, hd =>
        have ho' := ho
        simp only [List.getElem?_toArray, List.getElem?_cons_zero, List.getElem?_cons_succ, Option.some.injEq] at ho hd
        subst ho hd
        have hgd : a.eval (.tmp 123) = .bool true := (hdep ⟨12, .guard⟩ (by simp) rfl).2 123 rfl
        refine Vals.wpOp_run ho' (by unfold Region.wanted; simp only []; rw [Vals.yielded_of (d := 123) rfl hgd]; rfl) ?_
        clear hdep hfr ho' hdf hcl hgd
        go_simp
        refine (works_any W).mono ?_
        rintro e w' ⟨rfl, hb⟩
        exact hK _ _ (bgmono hb) (hJ.trans (hb.mono hJ.size)) (fun _ => rfl)
      | 14, ho, hd =>
        have ho' := ho
        simp only [List.getElem?_toArray, List.getElem?_cons_zero, List.getElem?_cons_succ, Option.some.injEq] at ho hd
        subst ho hd
        have r123 : a.eval (.tmp 123) = .bool true := (hdep ⟨12, .data⟩ (by simp) rfl).2 123 rfl
        rw [Vals.eval_tmp] at r123
        have r124 : a.eval (.tmp 124) = .bool true := (hdep ⟨13, .data⟩ (by simp) rfl).2 124 rfl
        rw [Vals.eval_tmp] at r124
        refine Vals.wpOp_run ho' rfl ?_
        clear hdep hfr ho' hdf hcl
        go_simp
        exact hK _ _ (fun _ _ h => h) hJ (fun _ => rfl)
      | 15, ho, hd =>
        have ho' := ho
        simp only [List.getElem?_toArray, List.getElem?_cons_zero, List.getElem?_cons_succ, Option.some.injEq] at ho hd
        subst ho hd
        have r125 : a.eval (.tmp 125) = .bool true := (hdep ⟨14, .data⟩ (by simp) rfl).2 125 rfl
        rw [Vals.eval_tmp] at r125
        refine Vals.wpOp_run ho' rfl ?_
        clear hdep hfr ho' hdf hcl
        go_simp
        exact hK _ _ (fun _ _ h => h) hJ (fun _ => rfl)
      | i + 16, ho, hd => simp at ho
    case fin =>
      intro listed W f hall hJ hG
      have q : f 4 = .bool true := hG 15 4 rfl
      have hJ2 : Below w11.heap.size w11 W := hJ
      have HF := Lib.hid (H11.out.trans (hJ2.mono H11.out.size))
      clear hall hJ hG hJ2
      simp only [Vals.puts, Vals.pairs, List.filterMap_cons, List.filterMap_nil, id, List.map_cons, List.map_nil, List.foldl_cons, List.foldl_nil, q]
      clear q
      go_frame
      go_wp2
      go_ret
      exact ⟨rfl, HF.out⟩
  · have hno : ∀ (k f : Int) (body : List Int), body.length ≤ 65531 → ¬ encC k f body <+: ys := fun k f body hl h => hp ⟨k, f, body, hl, h⟩
    clear hp
    obtain rfl := hok.no hno
    unfold noChunk
    have HB := Lib.hid (hb10w.trans ((chunkBelow w10 0 0 (.slice none 0 0)).mono hb10w.size))
    clear hok hb10 hb10w hno HRD3 H9
    go_wp2_with (go_at_call 11; refine (works_any _).mono ?_; rintro e w' ⟨rfl, hb⟩)
    go_ret
    exact ⟨rfl, HB.out.trans (hb.mono HB.out.size)⟩
end Go.Proofs.Ytoahkigmbmdniaa
