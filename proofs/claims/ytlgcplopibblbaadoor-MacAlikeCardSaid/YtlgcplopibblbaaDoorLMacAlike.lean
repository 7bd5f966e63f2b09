/-
  The walk of MacAlike.
-/
import Derived.Test.YtlgcplopibblbaaDoorMacWorks
import Derived.Deep.Cut
namespace Go.Proofs.YtlgcplopibblbaaDoor
open Go.RowKit
set_option linter.unusedVariables false

/-- A byte with a bit turned. -/
theorem bit_turned {x : Int} (h0 : 0 ≤ x) (h1 : x < 256) {s : Nat} (hs : s < 8) : bits .xor .u8 x (2 ^ s % 256) ≠ x ∧ 0 ≤ bits .xor .u8 x (2 ^ s % 256) ∧ bits .xor .u8 x (2 ^ s % 256) < 256 := by
  have hp : (2 : Int) ^ s % 256 = ((2 ^ s : Nat) : Int) ∧ 0 < 2 ^ s ∧ 2 ^ s < 256 := by
    rcases s with _ | _ | _ | _ | _ | _ | _ | _ | s
    all_goals first | decide | omega
  obtain ⟨e, p0, p1⟩ := hp
  rw [e]
  generalize 2 ^ s = y at p0 p1
  refine ⟨?_, xor_byt h0 h1 (by omega) (by omega)⟩
  rw [u8_xor x _ h0 h1 (by omega) (by omega)]
  intro h
  have h2 : x.toNat ^^^ y = x.toNat := by
    rw [Int.toNat_natCast] at h
    omega
  have h3 : x.toNat ^^^ (x.toNat ^^^ y) = x.toNat ^^^ x.toNat := by rw [h2]
  rw [← Nat.xor_assoc, Nat.xor_self, Nat.zero_xor] at h3
  omega

set_option maxRecDepth 100000 in
set_option maxHeartbeats 6400000 in
theorem macAlike_walk (a : Option Addr) (len cap : Nat) (z : List Int) (b : Option Addr) (len2 cap2 : Nat) (z2 : List Int) (c : Option Addr) (len3 cap3 : Nat) (z3 : List Int) (at_ : Int) (w : World)
    (w0 : IsRow .u8 w a len cap z) (w1 : IsRow .u8 w b len2 cap2 z2) (w2 : IsRow .u8 w c len3 cap3 z3) (w3 : (Lit.int .i64 at_).wf = true) (ht : Tab w) :
    Calls Tryd.prog 6 #[.agg #[.slice a len cap, .slice b len2 cap2, .slice c len3 cap3, .int .i64 at_]] w fun e w' => e = .returned (.bool true) ∧ Below w.heap.size w w' := by
  obtain ⟨hr, hbyt, hcap, hmax⟩ := w0.reads
  obtain ⟨hr2, hbyt2, hcap2, hmax2⟩ := w1.reads
  obtain ⟨hr3, hbyt3, hcap3, hmax3⟩ := w2.reads
  obtain ⟨at0, at1⟩ := wf_i64_in w3
  clear w0 w1 w2 w3
  generalize z.take len = zs at hr hbyt
  generalize z2.take len2 = ys at hr2 hbyt2
  generalize z3.take len3 = os at hr3 hbyt3
  obtain ⟨wb, hwb⟩ : ∃ wb, w.alloc (.cells #[.slice a len cap, .slice b len2 cap2, .slice c len3 cap3, .int .i64 at_] 31) = wb := ⟨_, rfl⟩
  have hbw : Below w.heap.size w wb := by rw [← hwb]; exact (Below.refl _ _).alloc (Nat.le_refl _) _
  have hsz : wb.heap.size = w.heap.size + 1 := by rw [← hwb]; simp
  have p0 : wb.cell? ⟨w.heap.size, 0, none⟩ = some (.slice a len cap) := by rw [← hwb]; simp
  have p1 : wb.cell? ⟨w.heap.size, 1, none⟩ = some (.slice b len2 cap2) := by rw [← hwb]; simp
  have p2 : wb.cell? ⟨w.heap.size, 2, none⟩ = some (.slice c len3 cap3) := by rw [← hwb]; simp
  have p3 : wb.cell? ⟨w.heap.size, 3, none⟩ = some (.int .i64 at_) := by rw [← hwb]; simp
  have HT := Lib.hid (ht.below hbw ht.lt)
  have HR := Lib.hid (And.intro (hr.below hbw) (And.intro hbyt (And.intro hcap hmax)))
  have HR2 := Lib.hid (And.intro (hr2.below hbw) (And.intro hbyt2 (And.intro hcap2 hmax2)))
  have HR3 := Lib.hid (And.intro (hr3.below hbw) (And.intro hbyt3 (And.intro hcap3 hmax3)))
  have HBW := Lib.hid (And.intro hbw (And.intro hsz (And.intro p0 (And.intro p1 (And.intro p2 p3)))))
  clear hr hbyt hr2 hbyt2 hr3 hbyt3 ht hcap hcap2 hcap3 hbw hsz
  unfold maxLen at hmax hmax2 hmax3
  by_cases hlong : 4096 < len
  · have hg : (4096 : Int) < len := by omega
    go_enter Tryd.func6, Tryd.ntmps6
    go_wp2_with (go_at_call 8; refine (works_any _ HT.out).mono ?_; rintro e w' ⟨rfl, hb⟩)
    go_ret
    exact ⟨rfl, HBW.out.1.trans (hb.mono HBW.out.1.size)⟩
  by_cases hlong2 : 4096 < len2
  · have hg : ¬ (4096 : Int) < len := by omega
    have hg2 : (4096 : Int) < len2 := by omega
    go_enter Tryd.func6, Tryd.ntmps6
    go_wp2_with (go_at_call 8; refine (works_any _ HT.out).mono ?_; rintro e w' ⟨rfl, hb⟩)
    go_ret
    exact ⟨rfl, HBW.out.1.trans (hb.mono HBW.out.1.size)⟩
  by_cases hlong3 : 4096 < len3
  · have hg : ¬ (4096 : Int) < len := by omega
    have hg2 : ¬ (4096 : Int) < len2 := by omega
    have hg3 : (4096 : Int) < len3 := by omega
    go_enter Tryd.func6, Tryd.ntmps6
    go_wp2_with (go_at_call 8; refine (works_any _ HT.out).mono ?_; rintro e w' ⟨rfl, hb⟩)
    go_ret
    exact ⟨rfl, HBW.out.1.trans (hb.mono HBW.out.1.size)⟩
  have hg : ¬ (4096 : Int) < len := by omega
  have hg2 : ¬ (4096 : Int) < len2 := by omega
  have hg3 : ¬ (4096 : Int) < len3 := by omega
  -- what Same tells of the three
  have cab := msame_any a b len cap cap2 len2 zs ys wb HR.out.1 HR2.out.1 HR.out.2.1 HR2.out.2.1 (by omega) (by omega)
  have cba := msame_any b a len2 cap2 cap len ys zs wb HR2.out.1 HR.out.1 HR2.out.2.1 HR.out.2.1 (by omega) (by omega)
  have caa := msame_any a a len cap cap len zs zs wb HR.out.1 HR.out.1 HR.out.2.1 HR.out.2.1 (by omega) (by omega)
  have cbc := msame_any b c len2 cap2 cap3 len3 ys os wb HR2.out.1 HR3.out.1 HR2.out.2.1 HR3.out.2.1 (by omega) (by omega)
  have cac := msame_any a c len cap cap3 len3 zs os wb HR.out.1 HR3.out.1 HR.out.2.1 HR3.out.2.1 (by omega) (by omega)
  rw [show decide (ys = zs) = decide (zs = ys) by simp [eq_comm]] at cba
  rw [show decide (zs = zs) = true by simp] at caa
  have hx : decide (zs = ys) = true → len = len2 := fun h => by rw [← HR.out.1.1, ← HR2.out.1.1, of_decide_eq_true h]
  have hxy : decide (zs = ys) = true → decide (ys = os) = true → decide (zs = os) = true := fun h1 h2 => by rw [of_decide_eq_true h1]; exact h2
  generalize decide (zs = ys) = x at *
  generalize decide (ys = os) = y at *
  generalize decide (zs = os) = v at *
  have HC := Lib.hid (And.intro cab (And.intro cba (And.intro caa (And.intro cbc cac))))
  have HX := Lib.hid (And.intro hx hxy)
  clear cab cba caa cbc cac hx hxy
  go_enter Tryd.func6, Tryd.ntmps6
  go_wp2_with fail
  refine HC.out.1.mono ?_
  rintro e w' ⟨rfl, rfl⟩
  go_upto_region 5 with fail
  go_cut [67] from 23 (fun s wx => s = .bool false ∧ wb = wx)
  case first =>
    cases x with
    | false =>
      go_wp2_with fail
      refine HC.out.2.1.mono ?_
      rintro e w' ⟨rfl, rfl⟩
      go_wp2_with fail
      refine HC.out.2.2.1.mono ?_
      rintro e w' ⟨rfl, rfl⟩
      go_wp2
      go_meet
      case rel => exact ⟨rfl, rfl⟩
    | true =>
      obtain rfl := HX.out.1 rfl
      cases y with
      | false =>
        go_wp2_with fail
        refine HC.out.2.1.mono ?_
        rintro e w' ⟨rfl, rfl⟩
        go_wp2_with fail
        refine HC.out.2.2.1.mono ?_
        rintro e w' ⟨rfl, rfl⟩
        go_wp2_with fail
        refine HC.out.2.2.2.1.mono ?_
        rintro e w' ⟨rfl, rfl⟩
        go_wp2
        go_meet
        case rel => exact ⟨rfl, rfl⟩
      | true =>
        obtain rfl := HX.out.2 rfl rfl
        go_wp2_with fail
        refine HC.out.2.1.mono ?_
        rintro e w' ⟨rfl, rfl⟩
        go_wp2_with fail
        refine HC.out.2.2.1.mono ?_
        rintro e w' ⟨rfl, rfl⟩
        go_wp2_with fail
        refine HC.out.2.2.2.1.mono ?_
        rintro e w' ⟨rfl, rfl⟩
        go_wp2_with fail
        refine HC.out.2.2.2.2.mono ?_
        rintro e w' ⟨rfl, rfl⟩
        go_wp2
        go_meet
        case rel => exact ⟨rfl, rfl⟩
  case rest =>
    obtain ⟨rfl, rfl⟩ := hcut
    clear hwb HC HX
    have hcp := copyBytes_any a len cap zs wb HR.out.1 (by omega)
    have HCP := Lib.hid hcp
    clear hcp
    go_wp2_with fail
    refine HCP.out.mono ?_
    rintro e w1 ⟨a5, rfl, hb1, hr1⟩
    have c0 := (hb1.cell (p := ⟨w.heap.size, 0, none⟩) (by have := HBW.out.2.1; simp; omega)).trans HBW.out.2.2.1
    have c3 := (hb1.cell (p := ⟨w.heap.size, 3, none⟩) (by have := HBW.out.2.1; simp; omega)).trans HBW.out.2.2.2.2.2
    clear p0 p1 p2 p3
    have H1 := Lib.hid (And.intro hb1 hr1)
    have hlz : zs.length = len := HR.out.1.1
    clear hb1 hr1 HCP
    by_cases hat : 0 ≤ at_ ∧ at_ < 8 * len
    · obtain ⟨q1, q2⟩ := hat
      obtain ⟨p, rfl⟩ := Int.eq_ofNat_of_zero_le q1
      have hw8 : IntKind.i64.wrap (8 * (len : Int)) = 8 * (len : Int) := by rw [IntKind.wrap_i64]; omega
      obtain ⟨q, hqd⟩ : ∃ q, q = p / 8 := ⟨_, rfl⟩
      obtain ⟨s, hsd⟩ : ∃ s, s = p % 8 := ⟨_, rfl⟩
      have hql : q < len := by omega
      have hsl : s < 8 := by omega
      obtain ⟨g, rfl, hbg, hnc, hgl⟩ := H1.out.2.some_of (by omega)
      obtain ⟨x0, gx0⟩ : ∃ x0, zs[q]? = some x0 := ⟨zs[q]'(by omega), by simp⟩
      have ca := H1.out.2.cell8 gx0
      have cf := H1.out.2.free8 q
      have e1 : (p : Int) / 8 = (q : Int) := by omega
      have e2 : (p : Int) % 8 = (s : Int) := by omega
      have e3 : (p : Int).tdiv 8 = (q : Int) := by rw [Int.tdiv_eq_ediv_of_nonneg (by omega)]; exact e1
      have e4 : (p : Int).tmod 8 = (s : Int) := by rw [Int.tmod_eq_emod_of_nonneg (by omega)]; exact e2
      have g1 : (q : Int) < (len : Int) := by omega
      have g2 : (0 : Int) ≤ (q : Int) := by omega
      have g3 : (s : Int) < 8 := by omega
      have g4 : (0 : Int) ≤ (s : Int) := by omega
      have GX := Lib.hid (And.intro gx0 (And.intro hqd hsd))
      clear gx0 hqd hsd
      go_upto_region 9 with fail
      obtain ⟨b0, o0, rfl⟩ := HR.out.1.some_of (by omega)
      have hby := bit_turned (HR.out.2.1 x0 (List.mem_of_getElem? GX.out.1)).1 (HR.out.2.1 x0 (List.mem_of_getElem? GX.out.1)).2 hsl
      obtain ⟨w2, hw2⟩ : ∃ w2, (w1.setCell ⟨g, q, none⟩ (.int .u8 (bits .xor .u8 x0 (2 ^ s % 256)))).drew = w2 := ⟨_, rfl⟩
      have hrow2 : Row8 wb.heap.size w2 (some ⟨g, 0, none⟩) len len (zs.set q (bits .xor .u8 x0 (2 ^ s % 256))) := by rw [← hw2]; exact H1.out.2.store8 q _
      have hb2 : Below wb.heap.size wb w2 := by rw [← hw2]; exact (H1.out.1.setCell hbg _).drew
      have HW2 := Lib.hid hw2
      clear hw2
      go_region
      rw [HW2.out]
      generalize bits .xor .u8 x0 (2 ^ s % 256) = xa at hrow2 hby HW2
      have hset : zs.set q xa ≠ zs := by
        intro h
        have h1 : (zs.set q xa)[q]? = zs[q]? := by rw [h]
        rw [List.getElem?_set_self (by omega), GX.out.1] at h1
        exact hby.1 (Option.some.inj h1)
      have hbz := HR.out.2.1.set q hby.2.1 hby.2.2
      have hx1 : (zs.set q xa)[q]? = some xa := List.getElem?_set_self (by omega)
      have cs1 := msame_any (some ⟨b0, o0, none⟩) (some ⟨g, 0, none⟩) len cap len len zs (zs.set q xa) w2 (HR.out.1.below hb2) hrow2.reads HR.out.2.1 hbz (by omega) (by omega)
      rw [show decide (zs = zs.set q xa) = false by simp only [decide_eq_false_iff_not]; exact fun h => hset h.symm] at cs1
      have hpart : Reads w2 (some ⟨b0, o0, none⟩) q (zs.take q) := by
        have := (HR.out.1.below hb2).part 0 q (by omega)
        simpa using this
      have cs2 := msame_any (some ⟨b0, o0, none⟩) (some ⟨b0, o0, none⟩) len cap cap q zs (zs.take q) w2 (HR.out.1.below hb2) hpart HR.out.2.1 (HR.out.2.1.take q) (by omega) (by omega)
      rw [show decide (zs = zs.take q) = false by
        simp only [decide_eq_false_iff_not]
        intro h
        have := congrArg List.length h
        simp at this
        omega] at cs2
      have hgw : g ≠ w.heap.size := by have := HBW.out.2.1; omega
      have d0 := (hb2.cell (p := ⟨w.heap.size, 0, none⟩) (by have := HBW.out.2.1; simp; omega)).trans HBW.out.2.2.1
      have d3 := (hb2.cell (p := ⟨w.heap.size, 3, none⟩) (by have := HBW.out.2.1; simp; omega)).trans HBW.out.2.2.2.2.2
      have ca2 := hrow2.cell8 hx1
      have cf2 := hrow2.free8 q
      have hcq : (q : Int) ≤ (cap : Int) := by have := HR.out.2.2.1; omega
      have HC1 := Lib.hid (And.intro cs1 cs2)
      have H2 := Lib.hid (And.intro hrow2 (And.intro hb2 (And.intro hbz hby)))
      clear cs1 cs2 hpart hset hbz hby hx1 hrow2 hb2 ca cf c0 c3 HW2 H1 hgl
      go_wp2_with fail
      refine HC1.out.1.mono ?_
      rintro e w' ⟨rfl, rfl⟩
      go_wp2_with fail
      refine HC1.out.2.mono ?_
      rintro e w' ⟨rfl, rfl⟩
      go_upto_region 12 with fail
      have hby := bit_turned H2.out.2.2.2.2.1 H2.out.2.2.2.2.2 hsl
      obtain ⟨w3, hw3⟩ : ∃ w3, (w2.setCell ⟨g, q, none⟩ (.int .u8 (bits .xor .u8 xa (2 ^ s % 256)))).drew = w3 := ⟨_, rfl⟩
      have hrow3 : Row8 wb.heap.size w3 (some ⟨g, 0, none⟩) len len ((zs.set q xa).set q (bits .xor .u8 xa (2 ^ s % 256))) := by rw [← hw3]; exact H2.out.1.store8 q _
      have hb3 : Below wb.heap.size wb w3 := by rw [← hw3]; exact (H2.out.2.1.setCell hbg _).drew
      have hbz3 := H2.out.2.2.1.set q hby.2.1 hby.2.2
      have HW3 := Lib.hid hw3
      clear hw3 hby
      go_region
      rw [HW3.out]
      obtain ⟨E, hE⟩ : ∃ E, E = (zs.set q xa).set q (bits .xor .u8 xa (2 ^ s % 256)) := ⟨_, rfl⟩
      rw [← hE] at hrow3 hbz3
      have H3 := Lib.hid (And.intro hrow3 (And.intro hb3 (And.intro hbz3 (show E.length = len by rw [hE]; simp; omega))))
      clear hrow3 hb3 hbz3 hE HW3 ca2 cf2 d0 d3
      have hlD : (E).length = len := H3.out.2.2.2
      obtain ⟨a6, c6, W9, happ, H9⟩ := (H3.out.1).append (H3.out.2.1).size (by omega) 0
      have hb9 : Below wb.heap.size wb W9 := (H3.out.2.1).trans H9.out.2
      have csm := msame_any (some ⟨b0, o0, none⟩) a6 len cap c6 (len + 1) zs (E ++ [0]) W9 (HR.out.1.below hb9) H9.out.1.reads HR.out.2.1 ((H3.out.2.2.1).append (Byt.one (by omega) (by omega))) (by omega) (by omega)
      rw [show decide (zs = E ++ [0]) = false by
        simp only [decide_eq_false_iff_not]
        intro h
        have := congrArg List.length h
        simp at this <;> omega] at csm
      have HS := Lib.hid csm
      have HB9 := Lib.hid hb9
      clear csm hb9 hlD e1 e2 e3 e4
      go_wp2_with (at_builtin; refine wpList_append_run rfl _ _ _ rfl _ _ _ _ rfl rfl happ ?_)
      clear happ
      refine HS.out.mono ?_
      rintro e w' ⟨rfl, rfl⟩
      go_wp2_with fail
      refine (works_any W9 (HT.out.below HB9.out HT.out.lt)).mono ?_
      rintro e w8 ⟨rfl, hb8⟩
      have HE := Lib.hid (HBW.out.1.trans ((HB9.out.trans (hb8.mono HB9.out.size)).mono HBW.out.1.size))
      clear hb8
      go_wp2
      go_ret
      exact ⟨rfl, HE.out⟩
    · have hw8 : IntKind.i64.wrap (8 * (len : Int)) = 8 * (len : Int) := by rw [IntKind.wrap_i64]; omega
      have hno : 0 ≤ at_ → ¬ at_ < 8 * (len : Int) := fun h1 h2 => hat ⟨h1, h2⟩
      by_cases h0 : 0 ≤ at_
      · have h1 := hno h0
        clear hno hat
        have hlD : (zs).length = len := hlz
        obtain ⟨a6, c6, W9, happ, H9⟩ := (H1.out.2).append (H1.out.1).size (by omega) 0
        have hb9 : Below wb.heap.size wb W9 := (H1.out.1).trans H9.out.2
        have csm := msame_any a a6 len cap c6 (len + 1) zs (zs ++ [0]) W9 (HR.out.1.below hb9) H9.out.1.reads HR.out.2.1 ((HR.out.2.1).append (Byt.one (by omega) (by omega))) (by omega) (by omega)
        rw [show decide (zs = zs ++ [0]) = false by
          simp only [decide_eq_false_iff_not]
          intro h
          have := congrArg List.length h
          simp at this <;> omega] at csm
        have HS := Lib.hid csm
        have HB9 := Lib.hid hb9
        clear csm hb9 hlD
        go_wp2_with (at_builtin; refine wpList_append_run rfl _ _ _ rfl _ _ _ _ rfl rfl happ ?_)
        clear happ
        refine HS.out.mono ?_
        rintro e w' ⟨rfl, rfl⟩
        go_wp2_with fail
        refine (works_any W9 (HT.out.below HB9.out HT.out.lt)).mono ?_
        rintro e w8 ⟨rfl, hb8⟩
        have HE := Lib.hid (HBW.out.1.trans ((HB9.out.trans (hb8.mono HB9.out.size)).mono HBW.out.1.size))
        clear hb8
        go_wp2
        go_ret
        exact ⟨rfl, HE.out⟩
      · clear hno hat
        have hlD : (zs).length = len := hlz
        obtain ⟨a6, c6, W9, happ, H9⟩ := (H1.out.2).append (H1.out.1).size (by omega) 0
        have hb9 : Below wb.heap.size wb W9 := (H1.out.1).trans H9.out.2
        have csm := msame_any a a6 len cap c6 (len + 1) zs (zs ++ [0]) W9 (HR.out.1.below hb9) H9.out.1.reads HR.out.2.1 ((HR.out.2.1).append (Byt.one (by omega) (by omega))) (by omega) (by omega)
        rw [show decide (zs = zs ++ [0]) = false by
          simp only [decide_eq_false_iff_not]
          intro h
          have := congrArg List.length h
          simp at this <;> omega] at csm
        have HS := Lib.hid csm
        have HB9 := Lib.hid hb9
        clear csm hb9 hlD
        go_wp2_with (at_builtin; refine wpList_append_run rfl _ _ _ rfl _ _ _ _ rfl rfl happ ?_)
        clear happ
        refine HS.out.mono ?_
        rintro e w' ⟨rfl, rfl⟩
        go_wp2_with fail
        refine (works_any W9 (HT.out.below HB9.out HT.out.lt)).mono ?_
        rintro e w8 ⟨rfl, hb8⟩
        have HE := Lib.hid (HBW.out.1.trans ((HB9.out.trans (hb8.mono HB9.out.size)).mono HBW.out.1.size))
        clear hb8
        go_wp2
        go_ret
        exact ⟨rfl, HE.out⟩
end Go.Proofs.YtlgcplopibblbaaDoor
