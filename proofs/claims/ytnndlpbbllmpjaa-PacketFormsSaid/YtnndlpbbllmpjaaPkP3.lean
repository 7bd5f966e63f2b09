/-
  Stage 10: the program's Write. Written by genpkp3.py.
-/
import Derived.Test.YtnndlpbbllmpjaaPkP2
import Derived.Test.YtnndlpbbllmpjaaPkTie
import Derived.Test.YtnndlpbbllmpjaaMgA
import Derived.Laws.CopyOwn
namespace Go.Proofs.Ytnndlpbbllmpjaa
open Go.RowKit
set_option linter.unusedVariables false
set_option linter.unusedSimpArgs false

theorem oper_of_step {P : Program} {o : Oper} {a : Act} {w : World} {K : Act → World → Prop} {Q : Exit → Act → World → Prop} {c : Bool} {E : Prop} (hc : c = true) (h : if c = true then Oper.wp P o a w K Q else E) : Oper.wp P o a w K Q := by rwa [if_pos hc] at h
theorem splice_bytes (xs sp ys : List Int) (k : Nat) (h : k + ys.length ≤ xs.length) : splice ((xs ++ sp).map (Value.int .u8)) k (ys.map (Value.int .u8)) = ((xs.take k ++ ys ++ xs.drop (k + ys.length)) ++ sp).map (Value.int .u8) := by
  unfold splice
  rw [← List.map_take, ← List.map_drop, List.length_map, List.take_append_of_le_length (by omega), List.drop_append_of_le_length h]
  simp
theorem laidP_sum (tag s : Int) (M : List PC) : (laidP tag 0 M).take 8 ++ enc s 4 ++ (laidP tag 0 M).drop 12 = laidP tag s M := by
  have h := (laidP_parts tag 0 M).1
  rw [h, laidP_drop]
  rfl
/-- The sum is laid into the row. -/
theorem row_sum {base : Nat} {w w' : World} {g c : Nat} {xs ys zs sp : List Int} (hk : Blk w g (xs ++ sp)) (hb : base ≤ g) (hs : Byt sp) (hc : xs.length + sp.length = c) (hm : c ≤ maxLen) (h8 : 8 + ys.length ≤ xs.length) (hz : zs = xs.take 8 ++ ys ++ xs.drop (8 + ys.length))
    (h : w'.heap[g]? = some (.cells (splice ((xs ++ sp).map (Value.int .u8)) 8 (ys.map (Value.int .u8))).toArray 5 (0, 0))) : Row8 base w' (some ⟨g, 0, none⟩) xs.length c zs := by
  rw [splice_bytes _ _ _ _ h8, ← hz] at h
  have hl : zs.length = xs.length := by rw [hz]; simp; omega
  exact Row8.of_part h hb hl hs (by omega) hm

/-- What the operations of the drawn region leave behind. -/
def PkCs (wr : World) (g N c5 : Nat) (Sx : Int) (i : Nat) (v : Value) (W : World) : Prop := match i with | 0 => v = .slice (some ⟨g, 0, none⟩) N c5 | 1 => v = .slice (some ⟨g, 8, none⟩) (N - 8) (c5 - 8) | 2 => v = .slice (some ⟨g, 0, none⟩) N c5 | 3 => v = .int .u32 Sx | 4 => v = .int .u64 Sx | 5 => ∃ gp, v = .slice (some ⟨gp, 0, none⟩) 4 4 ∧ Blk W gp (enc Sx 4) | _ => True
theorem PkCs_mono {wr : World} {g N c5 : Nat} {Sx : Int} {W W' : World} (hb : Below W.heap.size W W') (jo : Nat) (xo : Value) (h : PkCs wr g N c5 Sx jo xo W) : PkCs wr g N c5 Sx jo xo W' := by
  unfold PkCs at h ⊢
  split at h <;> try exact h
  · obtain ⟨gp, e0, h0_0⟩ := h
    exact ⟨gp, e0, h0_0.below hb⟩

set_option maxRecDepth 100000 in
set_option maxHeartbeats 3200000 in
theorem pwriteP_any (tag : Int) (a : Option Addr) (n c : Nat) (L : List Ck) (w : World) (h : RowsCk w a n c L) (hn : n ≤ 1099511627776) (ht : 0 ≤ tag) (ht1 : tag < 4294967296) (hz : 12 + (bodyP (pcs L)).length ≤ 1099511627776) :
    Calls Try.prog 14 #[.agg #[.int .u32 tag, .slice a n c]] w fun e w' => ∃ a' c', e = .returned (.slice a' (writeP tag (pcs L)).length c') ∧ Below w.heap.size w w' ∧ Row8 w.heap.size w' a' (writeP tag (pcs L)).length c' (writeP tag (pcs L)) := by
  obtain ⟨w0, hw0⟩ : ∃ w0, w.alloc (.cells #[.int .u32 tag, .slice a n c] 25) = w0 := ⟨_, rfl⟩
  have hb0 : Below w.heap.size w w0 := by rw [← hw0]; exact (Below.refl _ _).alloc (Nat.le_refl _) _
  have hA : Arr w0 w.heap.size 25 [.int .u32 tag, .slice a n c] := by rw [← hw0]; exact arr_new _ _ _
  have d1 := hA.cell (i := 1) rfl
  have hl : (pcs L).length = n := by rw [pcs_len]; exact h.hlen
  have hzl : (laidP tag 0 (pcs L)).length ≤ 1099511627776 := by rw [laidP_len']; exact hz
  have HL := Lib.hid hl
  have HMAY := Lib.hid (pmay_any a n c L w0 (h.below hb0) hn)
  have HR := Lib.hid h
  have H0 := Lib.hid (And.intro hb0 hA)
  have HZ := Lib.hid hzl
  have HSL := Lib.hid (sumP_lt tag (pcs L))
  clear h hl hb0 hA hz hzl
  cases hm : mayB (pcs L) with
  | false =>
    rw [hm] at HMAY
    have e : writeP tag (pcs L) = [] := by unfold writeP; rw [hm]; rfl
    rw [e]
    clear hm e
    go_enter Try.func14, Try.ntmps14
    go_wp2_with fail
    refine HMAY.out.mono ?_
    rintro e wm ⟨rfl, hbm⟩
    have HBM := Lib.hid (H0.out.1.trans (hbm.mono H0.out.1.size))
    clear hbm d1
    go_wp2
    go_ret
    exact ⟨none, 0, rfl, HBM.out, Row8.nil _ _⟩
  | true =>
  rw [hm] at HMAY
  have e : writeP tag (pcs L) = laidP tag ((sumP tag (pcs L) : Nat) : Int) (pcs L) := by unfold writeP; rw [if_pos hm]
  rw [e]
  clear hm e
  go_enter Try.func14, Try.ntmps14
  go_wp2_with fail
  refine HMAY.out.mono ?_
  rintro e wm ⟨rfl, hbm⟩
  have HS0 := Lib.hid (And.intro (H0.out.1.trans (hbm.mono H0.out.1.size)) (H0.out.2.keep hbm))
  clear hbm d1
  have hp := put_yes none 0 0 2 5000 ([]) wm (Reads.zero _ _) (by omega) (by omega) (by omega) rfl
  try simp only [Nat.zero_add, List.nil_append, Nat.reduceAdd] at hp
  have HP := Lib.hid hp
  clear hp
  go_wp2_with fail
  refine HP.out.mono ?_
  rintro e w1 ⟨rfl, hb1, hr1⟩
  have hsz1 : w.heap.size ≤ wm.heap.size := HS0.out.1.size
  have HS1 := Lib.hid (And.intro (HS0.out.1.trans (hb1.mono HS0.out.1.size)) (And.intro hr1 (HS0.out.2.keep hb1)))
  clear hb1 hr1 HP HS0
  have hlt1 := HS1.out.2.1.lt
  obtain ⟨g1, hg1⟩ : ∃ g1, wm.heap.size = g1 := ⟨_, rfl⟩
  rw [hg1] at HS1 hlt1 ⊢
  clear hsz1
  have hp := put_yes (some ⟨g1, 0, none⟩) 2 2 2 5000 (enc 5000 2) w1 (HS1.out.2.1.readsAll 2 (by simp)) (by omega) (by omega) (by omega) rfl
  try simp only [Nat.zero_add, List.nil_append, Nat.reduceAdd] at hp
  have HP := Lib.hid hp
  clear hp
  go_wp2_with fail
  refine HP.out.mono ?_
  rintro e w2 ⟨rfl, hb2, hr2⟩
  have hsz2 : w.heap.size ≤ w1.heap.size := HS1.out.1.size
  have HS2 := Lib.hid (And.intro (HS1.out.1.trans (hb2.mono HS1.out.1.size)) (And.intro hr2 (HS1.out.2.2.keep hb2)))
  clear hb2 hr2 HP HS1 hlt1
  obtain ⟨g2, hg2⟩ : ∃ g2, w1.heap.size = g2 := ⟨_, rfl⟩
  rw [hg2] at HS2 ⊢
  clear hsz2
  have d0 := HS2.out.2.2.cell (i := 0) rfl
  have hp := put_yes (some ⟨g2, 0, none⟩) 4 4 4 tag (enc 5000 2 ++ enc 5000 2) w2 (HS2.out.2.1.readsAll 4 (by simp)) (by omega) (by omega) (by omega) rfl
  try simp only [Nat.zero_add, List.nil_append, Nat.reduceAdd] at hp
  have HP := Lib.hid hp
  clear hp
  go_wp2_with fail
  refine HP.out.mono ?_
  rintro e w3 ⟨rfl, hb3, hr3⟩
  have hsz3 : w.heap.size ≤ w2.heap.size := HS2.out.1.size
  have HS3 := Lib.hid (And.intro (HS2.out.1.trans (hb3.mono HS2.out.1.size)) (And.intro hr3 (HS2.out.2.2.keep hb3)))
  clear hb3 hr3 HP HS2 d0
  obtain ⟨g3, hg3⟩ : ∃ g3, w2.heap.size = g3 := ⟨_, rfl⟩
  rw [hg3] at HS3 ⊢
  clear hsz3
  have hp := put_yes (some ⟨g3, 0, none⟩) 8 8 4 0 (enc 5000 2 ++ enc 5000 2 ++ enc tag 4) w3 (HS3.out.2.1.readsAll 8 (by simp)) (by omega) (by omega) (by omega) rfl
  try simp only [Nat.zero_add, List.nil_append, Nat.reduceAdd] at hp
  have HP := Lib.hid hp
  clear hp
  go_wp2_with fail
  refine HP.out.mono ?_
  rintro e w4 ⟨rfl, hb4, hr4⟩
  have hsz4 : w.heap.size ≤ w3.heap.size := HS3.out.1.size
  have HS4 := Lib.hid (And.intro (HS3.out.1.trans (hb4.mono HS3.out.1.size)) (And.intro hr4 (HS3.out.2.2.keep hb4)))
  clear hb4 hr4 HP HS3
  obtain ⟨g4, hg4⟩ : ∃ g4, w3.heap.size = g4 := ⟨_, rfl⟩
  rw [hg4] at HS4 hsz4 ⊢
  have HG4 := Lib.hid hsz4
  clear hsz4
  have HX := HS4.out.2.2
  have d1 := HX.cell (i := 1) rfl
  clear HX
  go_wp2_with fail
  go_loopw [3, 23] (fun v i wr => ∃ (j : Nat) (a2 : Option Addr) (c2 : Nat), j ≤ n ∧ i = .int .i64 (j : Int) ∧ v = .slice a2 (laidP tag 0 ((pcs L).take j)).length c2 ∧ Row8 w.heap.size wr a2 (laidP tag 0 ((pcs L).take j)).length c2 (laidP tag 0 ((pcs L).take j)) ∧ Below w.heap.size w wr ∧ Arr wr w.heap.size 25 [.int .u32 tag, .slice a n c]) (fun _ i _ => n - (intOf i).toNat)
  case atStart =>
    have e0 : (laidP tag 0 ((pcs L).take 0)).length = 12 := by rw [laidP_zero]; simp
    exact ⟨0, some ⟨g4, 0, none⟩, 12, Nat.zero_le _, rfl, by rw [e0], by rw [e0, laidP_zero]; exact Row8.of_blk HS4.out.2.1 HG4.out (by simp) (by decide), HS4.out.1, HS4.out.2.2⟩
  case round =>
    obtain ⟨j, a5, c5, hj, rfl, rfl, hrow, hbl, hA5⟩ := hrel
    have HROW := Lib.hid hrow
    have HBW := Lib.hid hbl
    have e1 := hA5.cell (i := 1) rfl
    have HA5 := Lib.hid hA5
    clear hrow hbl hA5 d1
    by_cases hjn : j < n
    · obtain ⟨b, off, r, ha, hr, hk, h0, h1, h2⟩ := (HR.out.below HBW.out).get hjn
      have hlt := laidP_take tag 0 (pcs L) (j + 1)
      have hnx := laidP_next (tag := tag) (sum := 0) (pcs_at hr)
      have hlen : (laidP tag 0 ((pcs L).take (j + 1))).length = (laidP tag 0 ((pcs L).take j)).length + (encOf r.k r.f r.zs).length := by rw [hnx, List.length_append]; rfl
      obtain ⟨wc, hwc⟩ : ∃ wc, wr.alloc (.cells #[.int .u8 r.k, .int .u8 r.f, .slice r.a r.n r.c] 41) = wc := ⟨_, rfl⟩
      have hbc : Below wr.heap.size wr wc := by rw [← hwc]; exact (Below.refl _ _).alloc (Nat.le_refl _) _
      have hAc : Arr wc wr.heap.size 41 [.int .u8 r.k, .int .u8 r.f, .slice r.a r.n r.c] := by rw [← hwc]; exact arr_new _ _ _
      have f0 := hAc.cell (i := 0) rfl
      have f1 := hAc.cell (i := 1) rfl
      have f2 := hAc.cell (i := 2) rfl
      have HNX := Lib.hid hnx
      have HLN := Lib.hid hlen
      have HLT := Lib.hid (Nat.le_trans hlt HZ.out)
      have HWR := Lib.hid (write_any r.k r.f r.a r.n r.c r.zs wc (hk.reads.below hbc) hk.byt hk.k.1 hk.k.2 hk.f.1 hk.f.2)
      have hszw : w.heap.size ≤ wr.heap.size := HBW.out.size
      have HBC := Lib.hid hbc
      have HM := Lib.hid (show ∀ W ax cx, Below wc.heap.size wc W → Reads W ax (encOf r.k r.f r.zs).length (encOf r.k r.f r.zs) → ∃ a' c' W3, (Builtin.append_ #[29, 29] 29 #[.slice a5 (laidP tag 0 ((pcs L).take j)).length c5, .slice ax (encOf r.k r.f r.zs).length cx]).run Try.prog W = .ok (.slice a' (laidP tag 0 ((pcs L).take (j + 1))).length c') W3 ∧ RowKit.Hid (Row8 w.heap.size W3 a' (laidP tag 0 ((pcs L).take (j + 1))).length c' (laidP tag 0 ((pcs L).take (j + 1))) ∧ Below w.heap.size w W3 ∧ Arr W3 w.heap.size 25 [.int .u32 tag, .slice a n c]) from by
        intro W ax cx hbW0 hrx
        have hbW := HBC.out.trans (hbW0.mono HBC.out.size)
        obtain ⟨a6, c6, W3, hrun, H6⟩ := appends_box (HROW.out.keep hbW) (Nat.le_trans hszw hbW.size) ax _ cx _ hrx (by have := HLT.out; have := HLN.out; omega) (HA5.out.keep hbW)
        rw [← HLN.out] at hrun H6
        refine ⟨a6, c6, W3, hrun, Lib.hid ⟨?_, ?_⟩⟩
        · have hh := H6.out.1
          rw [HNX.out]
          have e : (laidP tag 0 ((pcs L).take j) ++ encOf r.pc.k r.pc.f r.pc.zs).length = (laidP tag 0 ((pcs L).take (j + 1))).length := by rw [HNX.out]
          rw [e]
          exact hh
        · exact ⟨HBW.out.trans ((hbW.mono hszw).trans H6.out.2.1), H6.out.2.2⟩)
      subst ha
      clear hnx hlen hlt hk hr hbc hAc
      have hj0 : (0 : Int) ≤ (j : Int) := by omega
      have hj1 : (j : Int) < (n : Int) := by omega
      go_wp2_with (first
        | (go_at_call 33; refine HWR.out.mono ?_; rintro e w6 ⟨r6, rfl, hm6, hb6⟩; obtain ⟨a6, c6, W3, hrun, H6⟩ := HM.out w6 r6.addr (encOf r.k r.f r.zs).length hb6 hm6.reads; have HRUN := Lib.hid hrun; clear hb6 hm6 hrun)
        | (at_builtin; refine wpList_append_run rfl (.tmp 27) (.tmp 29) 29 rfl _ _ _ _ rfl rfl HRUN.out ?_))
      exact ⟨⟨j + 1, a6, c6, by omega, congrArg (Value.int .i64) (by omega), rfl, H6.out.1, H6.out.2.1, H6.out.2.2⟩, by simp [intOf]; omega⟩
    · obtain rfl : n = j := by omega
      have e : (pcs L).take n = pcs L := List.take_of_length_le (by rw [HL.out]; exact Nat.le_refl _)
      have hrow := HROW.out
      rw [e] at hrow ⊢
      have hll : (laidP tag 0 (pcs L)).length = (laidP tag ((sumP tag (pcs L) : Nat) : Int) (pcs L)).length := by rw [laidP_len', laidP_len']
      have h12 : 12 ≤ (laidP tag 0 (pcs L)).length := by rw [laidP_len']; omega
      obtain ⟨hl0, hcase⟩ := hrow
      obtain ⟨g, sp, rfl, hbg, hblk, hsp, hcc, hcm⟩ : ∃ g sp, a5 = some ⟨g, 0, none⟩ ∧ w.heap.size ≤ g ∧ Blk wr g (laidP tag 0 (pcs L) ++ sp) ∧ Byt sp ∧ (laidP tag 0 (pcs L)).length + sp.length = c5 ∧ c5 ≤ maxLen := by
        rcases hcase with ⟨_, h0, _⟩ | h
        · omega
        · exact h
      have hrd : Reads wr (some ⟨g, 0, none⟩) (laidP tag 0 (pcs L)).length (laidP tag 0 (pcs L)) := by
        have hh := hblk.reads 0 (laidP tag 0 (pcs L)).length (by rw [List.length_append]; omega)
        rwa [List.drop_zero, List.take_left] at hh
      have HCHK := Lib.hid (show ∀ W, Below wr.heap.size wr W → Calls Try.prog 34 #[.slice (some ⟨g, 0, none⟩) (laidP tag 0 (pcs L)).length c5] W fun e w' => e = .returned (.int .u32 ((sumP tag (pcs L) : Nat) : Int)) ∧ Below W.heap.size W w' from fun W hW => by
        have hh := pchk_any (some ⟨g, 0, none⟩) (laidP tag 0 (pcs L)).length c5 (laidP tag 0 (pcs L)) W (hrd.below hW) (laidP_byt (pcs_ok HR.out)) (by omega) (by have := HZ.out; omega) h12
        rw [laidP_zero4] at hh
        exact hh)
      have HPT := Lib.hid (show ∀ W, Calls Try.prog 32 #[.slice none 0 0, .int .u64 ((sumP tag (pcs L) : Nat) : Int), .int .i64 4] W fun e w' => e = .returned (.slice (some ⟨W.heap.size, 0, none⟩) 4 4) ∧ Below W.heap.size W w' ∧ Blk w' W.heap.size (enc ((sumP tag (pcs L) : Nat) : Int) 4) from fun W => by
        have hh := put_yes none 0 0 4 ((sumP tag (pcs L) : Nat) : Int) [] W (Reads.zero _ _) (by omega) (Int.natCast_nonneg _) (by have := HSL.out; omega) rfl
        simpa using hh)
      have HCUT := Lib.hid (show ∀ W, (Instr.slice 29 (.slice (some ⟨g, 0, none⟩) (laidP tag 0 (pcs L)).length c5) (some (.int .i64 8)) none none).run Try.prog W = .ok (.slice (some ⟨g, 8, none⟩) ((laidP tag 0 (pcs L)).length - 8) (c5 - 8)) W from fun W => by
        have hh := cut_l (some ⟨g, 0, none⟩) (laidP tag 0 (pcs L)).length c5 8 (by omega) W
        unfold cutA at hh
        rw [if_neg (by omega)] at hh
        simpa [Addr.add_mid] using hh)
      have HF := Lib.hid (And.intro hbg (And.intro hblk (And.intro hsp (And.intro hcc (And.intro hcm (And.intro h12 hll))))))
      have HXS := Lib.hid (laidP_sum tag ((sumP tag (pcs L) : Nat) : Int) (pcs L))
      have hs0 : (0 : Int) ≤ ((sumP tag (pcs L) : Nat) : Int) := Int.natCast_nonneg _
      have hs1 : ((sumP tag (pcs L) : Nat) : Int) < 4294967296 := by have := HSL.out; omega
      clear hl0 hcase hbg hblk hsp hcc hcm hrd h12 hll e e1 HROW HSL
      generalize (laidP tag 0 (pcs L)) = Z at *
      generalize hLS : (laidP tag ((sumP tag (pcs L) : Nat) : Int) (pcs L)) = ZS at *
      generalize hSX : ((sumP tag (pcs L) : Nat) : Int) = Sx at *
      have HLS := Lib.hid hLS
      have HSX := Lib.hid hSX
      clear hLS hSX
      obtain ⟨N, hN⟩ : ∃ N, Z.length = N := ⟨_, rfl⟩
      have HNN := Lib.hid hN
      rw [hN] at HCHK HCUT ⊢
      clear hN
      go_upto_region 12 with fail
      refine wp_region_any (by kernel_rfl) ?_
      refine Vals.wpAny_goodLastT (PkCs wr g N c5 Sx) (fun _ W => Below wr.heap.size wr W) [some 32, some 33, some 34, some 35, some 36, some 37] 6 40 _ _ rfl (by kernel_rfl) (by kernel_rfl) (by kernel_rfl) (by decide) ?step ?fin (Below.refl _ _).drew
      case step =>
        intro i o d ho hd hiN listed a W hls hun hcl hJ hdf hdep hfr K hK
        match i, ho, hd with
        | 0, ho, hd =>
          have ho' := ho
          simp only [List.getElem?_toArray, List.getElem?_cons_zero, Option.some.injEq] at ho hd
          subst ho hd
          have r3 : a.eval (.tmp 3) = .slice (some ⟨g, 0, none⟩) N c5 := hfr 3 (by decide)
          rw [Vals.eval_tmp] at r3
          refine Vals.wpOp_run ho' rfl ?_
          clear hdep hfr ho' hdf
          go_simp
          exact hK _ _ (fun _ _ _ _ h => h) hJ (fun _ => rfl)
        | 1, ho, hd =>
          have ho' := ho
          simp only [List.getElem?_toArray, List.getElem?_cons_zero, List.getElem?_cons_succ, Option.some.injEq] at ho hd
          subst ho hd
          have r32 : a.eval (.tmp 32) = .slice (some ⟨g, 0, none⟩) N c5 := hdep ⟨0, .data⟩ (by simp) rfl 32 rfl
          rw [Vals.eval_tmp] at r32
          have hcut := HCUT.out W
          refine Vals.wpOp_run ho' rfl ?_
          clear hdep hfr ho' hdf
          go_simp
          exact hK _ _ (fun _ _ _ _ h => h) hJ (fun _ => rfl)
        | 2, ho, hd =>
          have ho' := ho
          simp only [List.getElem?_toArray, List.getElem?_cons_zero, List.getElem?_cons_succ, Option.some.injEq] at ho hd
          subst ho hd
          have r3 : a.eval (.tmp 3) = .slice (some ⟨g, 0, none⟩) N c5 := hfr 3 (by decide)
          rw [Vals.eval_tmp] at r3
          refine Vals.wpOp_run ho' rfl ?_
          clear hdep hfr ho' hdf
          go_simp
          exact hK _ _ (fun _ _ _ _ h => h) hJ (fun _ => rfl)
        | 3, ho, hd =>
          have ho' := ho
          simp only [List.getElem?_toArray, List.getElem?_cons_zero, List.getElem?_cons_succ, Option.some.injEq] at ho hd
          subst ho hd
          have r34 : a.eval (.tmp 34) = .slice (some ⟨g, 0, none⟩) N c5 := hdep ⟨2, .data⟩ (by simp) rfl 34 rfl
          rw [Vals.eval_tmp] at r34
          refine Vals.wpOp_run ho' rfl ?_
          clear hdep hfr ho' hdf
          go_simp
          refine (HCHK.out W hJ).mono ?_
          rintro e w' ⟨rfl, hb3⟩
          exact hK _ _ (fun j x _ _ h => PkCs_mono hb3 j x h) (hJ.trans (hb3.mono hJ.size)) (fun _ => rfl)
        | 4, ho, hd =>
          have ho' := ho
          simp only [List.getElem?_toArray, List.getElem?_cons_zero, List.getElem?_cons_succ, Option.some.injEq] at ho hd
          subst ho hd
          have r35 : a.eval (.tmp 35) = .int .u32 Sx := hdep ⟨3, .data⟩ (by simp) rfl 35 rfl
          rw [Vals.eval_tmp] at r35
          refine Vals.wpOp_run ho' rfl ?_
          clear hdep hfr ho' hdf
          go_simp
          exact hK _ _ (fun _ _ _ _ h => h) hJ (fun _ => by first | rfl | exact congrArg (Value.int .u64) (by rw [IntKind.wrap_u64]; omega) | exact congrArg (Value.int .u64) (Int.emod_eq_of_lt hs0 (by omega)))
        | 5, ho, hd =>
          have ho' := ho
          simp only [List.getElem?_toArray, List.getElem?_cons_zero, List.getElem?_cons_succ, Option.some.injEq] at ho hd
          subst ho hd
          have r36 : a.eval (.tmp 36) = .int .u64 Sx := hdep ⟨4, .data⟩ (by simp) rfl 36 rfl
          rw [Vals.eval_tmp] at r36
          refine Vals.wpOp_run ho' rfl ?_
          clear hdep hfr ho' hdf
          go_simp
          refine (HPT.out W).mono ?_
          rintro e w' ⟨rfl, hb3, hk3⟩
          exact hK _ _ (fun j x _ _ h => PkCs_mono hb3 j x h) (hJ.trans (hb3.mono hJ.size)) (fun _ => ⟨_, rfl, hk3⟩)
        | i + 6, ho, hd => omega
      case fin =>
        intro listed W fq hall hJ hG
        have q0 : fq 32 = .slice (some ⟨g, 0, none⟩) N c5 := hG 0 32 rfl
        have q1 : fq 33 = .slice (some ⟨g, 8, none⟩) (N - 8) (c5 - 8) := hG 1 33 rfl
        have q2 : fq 34 = .slice (some ⟨g, 0, none⟩) N c5 := hG 2 34 rfl
        have q3 : fq 35 = .int .u32 Sx := hG 3 35 rfl
        have q4 : fq 36 = .int .u64 Sx := hG 4 36 rfl
        obtain ⟨gp_37, q5, hq37_0⟩ : ∃ gp_37, fq 37 = .slice (some ⟨gp_37, 0, none⟩) 4 4 ∧ Blk W gp_37 (enc Sx 4) := hG 5 37 rfl
        clear hG hall
        refine Vals.wpOp_run rfl rfl ?_
        simp only [Vals.puts, Vals.pairs, List.filterMap_cons, List.filterMap_nil, id, List.map_cons, List.map_nil, List.foldl_cons, List.foldl_nil, q0, q1, q2, q3, q4, q5]
        clear q0 q1 q2 q3 q4 q5
        go_frame
        have hl4 : (enc Sx 4).length = 4 := by simp
        have hz12 := HF.out.2.2.2.2.2.1
        have hgW := (hJ.block g HF.out.2.1.lt).trans HF.out.2.1
        refine oper_of_step (c := Region.wanted _ (yielded #[] _)) (E := True) rfl (step_copy_splice (ops := #[]) rfl (.tmp 33) (.tmp 37) 29 29 rfl 5 Try.underlying29 Try.sizeB (some ⟨g, 8, none⟩) (some ⟨gp_37, 0, none⟩) (N - 8) (c5 - 8) 4 4 rfl rfl g 8 ((Z ++ sp).map (Value.int .u8)) 5 hgW ((enc Sx 4).map (Value.int .u8)) (by rw [List.length_map, hl4]; have := HNN.out; exact (Nat.min_eq_left (by omega)).symm)
          (fun _ => ⟨rfl, _, rfl, fun j v hv => ?_⟩) (by rw [List.length_map, List.length_map, List.length_append, hl4]; omega) (oneByte _) w.heap.size w (HBW.out.trans (hJ.mono HBW.out.size)) HF.out.1 ?_)
        · rw [List.getElem?_map] at hv
          obtain ⟨y, hy, rfl⟩ := Option.map_eq_some_iff.1 hv
          have hjl := (List.getElem?_eq_some_iff.1 hy).1
          have hcc := hq37_0.cell hjl
          rw [hy, Option.getD_some] at hcc
          rw [Addr.add_mid, Nat.zero_add]
          exact hcc
        intro w7 hg7 hb7
        have HE := Lib.hid (And.intro hg7.out hb7)
        clear hg7 hb7 hgW hq37_0 hJ
        go_frame
        go_wp2
        go_ret
        have hrow7 := row_sum HF.out.2.1 HF.out.1 HF.out.2.2.1 HF.out.2.2.2.1 HF.out.2.2.2.2.1 (by rw [hl4]; omega) (by rw [hl4, HXS.out]) HE.out.1
        have hlz := HF.out.2.2.2.2.2.2
        rw [← HLS.out, ← HSX.out] at hlz hrow7
        exact ⟨some ⟨g, 0, none⟩, c5, by rw [← hlz, HNN.out]; rfl, HE.out.2, by rw [← hlz]; exact hrow7⟩

theorem pw_ok : PkWriteOk := fun tag a n c L w h hn h0 h1 hz => pwriteP_any tag a n c L w h (by omega) h0 h1 hz
end Go.Proofs.Ytnndlpbbllmpjaa
