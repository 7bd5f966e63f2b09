/-
  Stage 9: GetForward, the program's and the reference's. Written by gengetf.py.
-/
import Derived.Test.YtlihcckgnnnekaaBdRows
import Derived.Test.YtlihcckgnnnekaaGoodL
namespace Go.Proofs.Ytlihcckgnnnekaa
open Go.RowKit
set_option linter.unusedVariables false
set_option linter.unusedSimpArgs false
set_option linter.unnecessarySimpa false

/-- What GetForward answers: a value, or none. -/
def GotF (w : World) (b : Bool) (x0 : Int) (ps : List (Int × Int)) (e : Ending) (w' : World) : Prop :=
  ∃ a1 c1, Chose b (.agg #[.int .u32 x0, .slice a1 ps.length c1]) (.agg #[.int .u32 0, .slice none 0 0]) e ∧ Below w.heap.size w w' ∧ Prs w' a1 ps.length ps

set_option maxRecDepth 100000 in
set_option maxHeartbeats 1600000 in
theorem pgetForward' (k f : Int) (p : Option Addr) (n c : Nat) (zs : List Int) (w : World) (hr : Reads w p n zs) (hz : Byt zs) (hc : n ≤ c) (hn : n ≤ 1000000) (x0 : Int) (hxx0 : natAt zs 0 4 = x0) :
    Calls Try.prog 35 #[.agg #[.int .u8 k, .int .u8 f, .slice p n c]] w fun e w' => GotF w (eqC k f zs 192 0 (fwdB x0 (pairsAt zs 4 ((n - 4 + 3) / 4)))) x0 (pairsAt zs 4 ((n - 4 + 3) / 4)) e w' := by
  have hzn : zs.length = n := hr.1
  have HNx0 := Lib.hid (show ∀ W, Reads W p n zs → Calls Try.prog 50 #[.slice p n c, .int .i64 0, .int .i64 4] W fun e w' => e = .returned (.int .u64 x0) ∧ W = w' from fun W h => hxx0 ▸ num_any p n c 0 4 zs W h hz (by omega) (by omega) rfl)
  obtain ⟨lox0, hix0⟩ : 0 ≤ x0 ∧ x0 < 4294967296 := hxx0 ▸ natAt4 hz 0
  obtain ⟨wa, hwa⟩ : ∃ wa, w.alloc (.cells #[.int .u8 k, .int .u8 f, .slice p n c] 28) = wa := ⟨_, rfl⟩
  have hba : Below w.heap.size w wa := by rw [← hwa]; exact chunkBelow w k f _
  have hsa : wa.heap.size = w.heap.size + 1 := by rw [← hwa]; simp
  have hca : Arr wa w.heap.size 28 [.int .u8 k, .int .u8 f, .slice p n c] := by rw [← hwa]; exact chunkBox w k f _
  obtain ⟨wE, hwE⟩ : ∃ wE, wa.alloc (.cells #[.int .u32 0, .slice none 0 0] 56) = wE := ⟨_, rfl⟩
  have hbE0 : Below wa.heap.size wa wE := by rw [← hwE]; exact (Below.refl _ _).alloc (Nat.le_refl _) _
  have hsE : wE.heap.size = w.heap.size + 2 := by rw [← hwE]; simp; omega
  have hzE : Arr wE (w.heap.size + 1) 56 [.int .u32 0, .slice none 0 0] := by rw [← hwE, ← hsa]; exact arr_new _ _ _
  have hcE := hca.keep hbE0
  have hbE := hba.trans (hbE0.mono hba.size)
  have hr2 := hr.below hbE
  have HRW := Lib.hid (show ∀ W, Below wE.heap.size wE W → Reads W p n zs from fun W h => hr2.below h)
  have HC := Lib.hid hcE
  have HZ := Lib.hid hzE
  have HBE := Lib.hid (And.intro hbE hsE)
  have hb0 : Below wE.heap.size wE (wE.alloc (.cells #[.int .u32 x0, .slice none 0 0] 56)) := (Below.refl _ _).alloc (Nat.le_refl _) _
  have hs0 : (wE.alloc (.cells #[.int .u32 x0, .slice none 0 0] 56)).heap.size = w.heap.size + 3 := by simp; omega
  have ha0 : Arr (wE.alloc (.cells #[.int .u32 x0, .slice none 0 0] 56)) (w.heap.size + 2) 56 [.int .u32 x0, .slice none 0 0] := by rw [← hsE]; exact arr_new _ _ _
  obtain ⟨ps, hps⟩ : ∃ ps, ps = pairsAt zs 4 ((n - 4 + 3) / 4) := ⟨_, rfl⟩
  obtain ⟨bb, hbb⟩ : ∃ bb, bb = eqC k f zs 192 0 (fwdB x0 ps) := ⟨_, rfl⟩
  rw [← hps, ← hbb]
  have HPS := Lib.hid (And.intro hps hbb)
  have HV := Lib.hid (And.intro hb0 (And.intro hs0 ha0))
  obtain ⟨K, hK⟩ : ∃ K, K = (n - 4 + 3) / 4 := ⟨_, rfl⟩
  have HKK := Lib.hid hK
  have c0 := hcE.cell (i := 0) rfl
  have c1 := hcE.cell (i := 1) rfl
  have c2 := hcE.cell (i := 2) rfl
  have e0 := (hcE.keep hb0).cell (i := 0) rfl
  have e1 := (hcE.keep hb0).cell (i := 1) rfl
  have e2 := (hcE.keep hb0).cell (i := 2) rfl
  clear hba hca hbE0 hzE hcE hbE hr hr2 hxx0 hps hbb hb0 ha0 hK hzn
  go_enter Try.func35, Try.ntmps35
  go_wp2_with fail
  refine (HNx0.out _ (HRW.out _ (Below.refl _ _))).mono ?_
  rintro e w' ⟨rfl, rfl⟩
  go_wp2
  generalize (wE.alloc (.cells #[.int .u32 x0, .slice none 0 0] 56)) = v0 at HV ⊢
  clear c0 c1 c2 e0 e1 e2
  have e0 := (HC.out.keep HV.out.1).cell (i := 0) rfl
  have e1 := (HC.out.keep HV.out.1).cell (i := 1) rfl
  have e2 := (HC.out.keep HV.out.1).cell (i := 2) rfl
  go_loopw [5] (fun ii wr => ∃ (j t : Nat) (a2 : Option Addr) (c2 : Nat), j ≤ K ∧ RowKit.Hid (t = 4 + 4 * j) ∧ ii = .int .i64 (t : Int) ∧ Arr wr (w.heap.size + 2) 56 [.int .u32 x0, .slice a2 j c2] ∧ RowP 100 v0.heap.size wr a2 j c2 (pairsAt zs 4 j) ∧ Turn [w.heap.size + 2] v0 wr) (fun ii _ => n - (intOf ii).toNat)
  case atStart => exact ⟨0, 4, none, 0, Nat.zero_le _, Lib.hid rfl, rfl, HV.out.2.2, World.ownsRow_nil _ _ _ _, Turn.refl _ _⟩
  case round =>
    clear e0 e1 e2
    obtain ⟨j, t, a2, c2, hj, hT, rfl, hA, hO, ht⟩ := hrel
    have hBr : Below wE.heap.size wE wr := HV.out.1.trans (ht.below HV.out.1.size (by intro k hk; simp at hk; have := HBE.out.2; omega))
    have cl0 := (HC.out.keep hBr).cell (i := 0) rfl
    have cl1 := (HC.out.keep hBr).cell (i := 1) rfl
    have cl2 := (HC.out.keep hBr).cell (i := 2) rfl
    have d0 := hA.cell (i := 0) rfl
    have d1 := hA.cell (i := 1) rfl
    have hrd := HRW.out wr hBr
    have HS := Lib.hid (And.intro hA (And.intro hO (And.intro ht hBr)))
    clear hA hO ht hBr
    by_cases hlt : t < n
    · have hkn : j < K := by have := hT.out; have := HKK.out; omega
      obtain ⟨px, hpx⟩ : ∃ x, x = natAt zs t 2 := ⟨_, rfl⟩
      obtain ⟨py, hpy⟩ : ∃ x, x = natAt zs (t + 2) 2 := ⟨_, rfl⟩
      have HQ1 := Lib.hid (fun jj => quiet_of (num_any p n c (t) 2 zs (wr.drewN jj) (hrd.below (Below.of_drewN _ jj)) hz (by omega) (by omega) rfl))
      have HQ2 := Lib.hid (fun jj => quiet_of (num_any p n c (t + 2) 2 zs (wr.drewN jj) (hrd.below (Below.of_drewN _ jj)) hz (by omega) (by omega) rfl))
      rw [show (((t + 2 : Nat)) : Int) = (t : Int) + 2 from rfl, show ((2 : Nat) : Int) = 2 from rfl, ← hpy] at HQ2
      rw [show ((2 : Nat) : Int) = 2 from rfl, ← hpx] at HQ1
      obtain ⟨q0, q1⟩ : 0 ≤ px ∧ px < 65536 := hpx ▸ natAt2 hz t
      obtain ⟨q2, q3⟩ : 0 ≤ py ∧ py < 65536 := hpy ▸ natAt2 hz (t + 2)
      have HP := Lib.hid (And.intro hpx hpy)
      have HKN := Lib.hid hkn
      clear hpx hpy hrd hkn
      go_wp2_with fail
      go_quiet (first | with_reducible exact HQ1.out _ | with_reducible exact HQ2.out _)
      have hA2 : Arr (wr.drewN nq) (w.heap.size + 2) 56 [.int .u32 x0, .slice a2 j c2] := HS.out.1
      have hO2 : RowP 100 v0.heap.size (wr.drewN nq) a2 j c2 (pairsAt zs 4 j) := owns_keep HS.out.2.1 (Below.of_drewN wr nq)
      have ht2 : Turn [w.heap.size + 2] v0 (wr.drewN nq) := HS.out.2.2.1.drewN nq
      clear cl0 cl1 cl2 d0 d1
      generalize wr.drewN nq = w2 at hA2 hO2 ht2 ⊢
      have d0 := hA2.cell (i := 0) rfl
      have d1 := hA2.cell (i := 1) rfl
      have hal : Below w2.heap.size w2 (w2.alloc (.cells #[.int .u16 px, .int .u16 py] 100)) := (Below.refl _ _).alloc (Nat.le_refl _) _
      have hO3 := owns_keep hO2 hal
      have hA3 := hA2.keep hal
      have ht3 := ht2.alloc (.cells #[.int .u16 px, .int .u16 py] 100)
      have hN3 : Arr (w2.alloc (.cells #[.int .u16 px, .int .u16 py] 100)) w2.heap.size 100 [.int .u16 px, .int .u16 py] := arr_new _ _ _
      obtain ⟨a5, c5, w5, hrun, H5⟩ := owns_append1 Try.infoSkip Try.underlying54 rfl (by decide) (by decide) hO3 ht3.size (by have := HKN.out; have := HKK.out; omega) w2.heap.size [.int .u16 px, .int .u16 py] rfl hN3 (by intro u hu; simp at hu; rcases hu with rfl | rfl <;> rfl)
      have hA5 := grown_arr hO3 H5.out.2 hA3 (by have := HV.out.2.1; omega)
      have ht5 := grown_turn hO3 H5.out.2 ht3 (Nat.le_refl _)
      have HRUN := Lib.hid hrun
      obtain ⟨w6, hw6⟩ : ∃ w6, w5.setCell ⟨w.heap.size + 2, 1, none⟩ (.slice a5 (j + 1) c5) = w6 := ⟨_, rfl⟩
      have hA6 : Arr w6 (w.heap.size + 2) 56 [.int .u32 x0, .slice a5 (j + 1) c5] := by rw [← hw6]; exact hA5.set 1 _
      have ht6 : Turn [w.heap.size + 2] v0 w6 := by rw [← hw6]; exact ht5.setCell (p := ⟨w.heap.size + 2, 1, none⟩) (by simp) _
      have hO6 : RowP 100 v0.heap.size w6 a5 (j + 1) c5 (pairsAt zs 4 (j + 1)) := by
        have h := H5.out.1
        have e : pairC (pairsAt zs 4 (j + 1)) = pairC (pairsAt zs 4 j) ++ [.int .u16 px, .int .u16 py] := by
          rw [pairsAt_succ, pairC_snoc, ← hT.out, ← HP.out.1, ← HP.out.2]
        unfold RowP
        rw [e, ← hw6]
        exact ownsRow_turn h ((Turn.refl [w.heap.size + 2] w5).setCell (p := ⟨w.heap.size + 2, 1, none⟩) (by simp) _) (by have := HV.out.2.1; simp; omega)
      have fr := hA5.free 1
      have y1 := hA5.cell (i := 1) rfl
      have H6 := Lib.hid (And.intro hA6 (And.intro hO6 ht6))
      have HT6 := Lib.hid (show t + 4 = 4 + 4 * (j + 1) by have := hT.out; omega)
      clear hal hO3 hA3 ht3 hN3 hrun hA5 ht5 hA6 ht6 hO6 hO2 hA2 ht2 H5
      go_wp2_with (at_builtin; refine wpList_append_run rfl (.tmp 30) (.tmp 36) 54 rfl _ _ _ _ rfl rfl HRUN.out ?_)
      exact ⟨⟨j + 1, t + 4, a5, c5, HKN.out, HT6, congrArg (Value.int .i64) (by omega), H6.out⟩, by simp [intOf]; omega⟩
    · have hjK : j = K := by have := hT.out; have := HKK.out; omega
      obtain ⟨hA, hO, ht, hBr⟩ := HS.out
      have hps : ps = pairsAt zs 4 j := by rw [HPS.out.1, ← HKK.out, hjK]
      have hin := pairsAt_in hz 4 j
      have hpr : Prs wr a2 j ps := by rw [hps]; exact RowP.prs hO hin
      have hpl : ps.length = j := hpr.1
      have hck := checkedForward k f 192 0 p n c zs (fwdB x0 ps) true x0 a2 j c2 wr hrd hz (fwdB_byt _ _) (by omega) (by rw [fwdB_len, hpl]; have := hT.out; have := HKK.out; omega) (fun W h => pputForward x0 a2 j c2 ps W (hpr.below h (Nat.le_refl _)) (by have := hT.out; have := HKK.out; omega) lox0 hix0)
      rw [Bool.true_and, ← HPS.out.2] at hck
      have HCK := Lib.hid hck
      have hrp : RowP 100 v0.heap.size wr a2 j c2 ps := by rw [hps]; exact hO
      have hin2 : ∀ p ∈ ps, InP p := by rw [hps]; exact hin
      have HPR := Lib.hid (And.intro hrp (And.intro hpl hin2))
      have HZr := Lib.hid (HZ.out.keep hBr)
      have HBr := Lib.hid (HBE.out.1.trans (hBr.mono HBE.out.1.size))
      clear hck hpr hps hin hrp hin2 hA hO ht hBr hrd hpl HS hjK
      go_wp2_with fail
      refine HCK.out.mono ?_
      rintro e w7 ⟨hch, hb7⟩
      have hz7 := HZr.out.keep hb7
      have hB7 := HBr.out.trans (hb7.mono HBr.out.size)
      have hp7 : RowP _ _ _ _ _ _ _ := owns_keep HPR.out.1 hb7
      rcases hch with ⟨hch, rfl⟩ | ⟨hch, rfl⟩
      · have HCH := Lib.hid hch
        clear hch
        have hp8 := RowP.setAt hp7 (g := w.heap.size + 1) (by have := HV.out.2.1; omega) 0 (.int .u32 x0)
        have hp9 := RowP.setAt hp8 (g := w.heap.size + 1) (by have := HV.out.2.1; omega) 1 (.slice a2 j c2)
        have HP9 := Lib.hid (hp9.prs HPR.out.2.2)
        clear hp8 hp9 hp7
        obtain ⟨w8, hw8⟩ : ∃ x, ((w7.setCell ⟨(w.heap.size + 1), 0, none⟩ (.int .u32 x0)).setCell ⟨(w.heap.size + 1), 1, none⟩ (.slice a2 j c2)) = x := ⟨_, rfl⟩
        have hA4 : Arr _ (w.heap.size + 1) 56 [.int .u32 x0, .slice a2 j c2] := ((hz7.set 0 (.int .u32 x0)).set 1 (.slice a2 j c2))
        have hB4 := ((hB7.setCell (p := ⟨(w.heap.size + 1), 0, none⟩) (by simp) (.int .u32 x0)).setCell (p := ⟨(w.heap.size + 1), 1, none⟩) (by simp) (.slice a2 j c2))
        rw [hw8] at hA4 hB4
        have fs0 := hz7.free 0
        have fs1 := hz7.free 1
        have yy0 := hz7.cell (i := 0) rfl
        have yy1 := hz7.cell (i := 1) rfl
        have zz0 := hA4.cell (i := 0) rfl
        have zz1 := hA4.cell (i := 1) rfl
        have HE := Lib.hid hB4
        clear hA4 hB4 hz7 hB7
        go_wp2
        refine bodyPost_ret (by simp [results, Try.results35, go_sem, zz0, zz1] <;> rfl) rfl ?_
        have hpl := HPR.out.2.1
        have hp10 := HP9.out
        rw [hw8] at hp10
        exact ⟨a2, c2, .inl ⟨HCH.out, by rw [hpl]⟩, HE.out, by rw [hpl]; exact hp10⟩
      · have HCH := Lib.hid hch
        clear hch
        have hp8 := RowP.setAt hp7 (g := w.heap.size + 1) (by have := HV.out.2.1; omega) 0 (.int .u32 0)
        have hp9 := RowP.setAt hp8 (g := w.heap.size + 1) (by have := HV.out.2.1; omega) 1 (.slice none 0 0)
        have HP9 := Lib.hid (hp9.prs HPR.out.2.2)
        clear hp8 hp9 hp7
        obtain ⟨w8, hw8⟩ : ∃ x, ((w7.setCell ⟨(w.heap.size + 1), 0, none⟩ (.int .u32 0)).setCell ⟨(w.heap.size + 1), 1, none⟩ (.slice none 0 0)) = x := ⟨_, rfl⟩
        have hA4 : Arr _ (w.heap.size + 1) 56 [.int .u32 0, .slice none 0 0] := ((hz7.set 0 (.int .u32 0)).set 1 (.slice none 0 0))
        have hB4 := ((hB7.setCell (p := ⟨(w.heap.size + 1), 0, none⟩) (by simp) (.int .u32 0)).setCell (p := ⟨(w.heap.size + 1), 1, none⟩) (by simp) (.slice none 0 0))
        rw [hw8] at hA4 hB4
        have fs0 := hz7.free 0
        have fs1 := hz7.free 1
        have yy0 := hz7.cell (i := 0) rfl
        have yy1 := hz7.cell (i := 1) rfl
        have zz0 := hA4.cell (i := 0) rfl
        have zz1 := hA4.cell (i := 1) rfl
        have HE := Lib.hid hB4
        clear hA4 hB4 hz7 hB7
        go_wp2
        refine bodyPost_ret (by simp [results, Try.results35, go_sem, zz0, zz1] <;> rfl) rfl ?_
        have hpl := HPR.out.2.1
        have hp10 := HP9.out
        rw [hw8] at hp10
        exact ⟨a2, c2, .inr ⟨HCH.out, rfl⟩, HE.out, by rw [hpl]; exact hp10⟩

set_option maxRecDepth 100000 in
set_option maxHeartbeats 1600000 in
theorem rgetForward_few (k f : Int) (p : Option Addr) (n c : Nat) (zs : List Int) (w : World) (hr : Reads w p n zs) (hz : Byt zs) (hc : n ≤ c) (hn : n ≤ 1000000) (hm : n < 4) :
    Calls Try.prog 36 #[.agg #[.int .u8 k, .int .u8 f, .slice p n c]] w fun e w' => e = .returned (.tuple #[.agg #[.int .u32 0, .slice none 0 0], .int .i64 7]) ∧ Below w.heap.size w w' := by
  obtain ⟨wa, hwa⟩ : ∃ wa, w.alloc (.cells #[.int .u8 k, .int .u8 f, .slice p n c] 28) = wa := ⟨_, rfl⟩
  have hba : Below w.heap.size w wa := by rw [← hwa]; exact chunkBelow w k f _
  have hsa : wa.heap.size = w.heap.size + 1 := by rw [← hwa]; simp
  have hca : Arr wa w.heap.size 28 [.int .u8 k, .int .u8 f, .slice p n c] := by rw [← hwa]; exact chunkBox w k f _
  obtain ⟨wE, hwE⟩ : ∃ wE, wa.alloc (.cells #[.int .u32 0, .slice none 0 0] 56) = wE := ⟨_, rfl⟩
  have hbE0 : Below wa.heap.size wa wE := by rw [← hwE]; exact (Below.refl _ _).alloc (Nat.le_refl _) _
  have hsE : wE.heap.size = w.heap.size + 2 := by rw [← hwE]; simp; omega
  have hzE : Arr wE (w.heap.size + 1) 56 [.int .u32 0, .slice none 0 0] := by rw [← hwE, ← hsa]; exact arr_new _ _ _
  have hcE := hca.keep hbE0
  have hbE := hba.trans (hbE0.mono hba.size)
  have hr2 := hr.below hbE
  have hmi : (n : Int) < 4 := by omega
  clear hm
  have cc0 := hcE.cell (i := 0) rfl
  have cc1 := hcE.cell (i := 1) rfl
  have cc2 := hcE.cell (i := 2) rfl
  have fs0 := hzE.free 0
  have fs1 := hzE.free 1
  have yy0 := hzE.cell (i := 0) rfl
  have yy1 := hzE.cell (i := 1) rfl
  obtain ⟨w8, hw8⟩ : ∃ x, ((wE.setCell ⟨(w.heap.size + 1), 0, none⟩ (.int .u32 0)).setCell ⟨(w.heap.size + 1), 1, none⟩ (.slice none 0 0)) = x := ⟨_, rfl⟩
  have hA4 : Arr _ (w.heap.size + 1) 56 [.int .u32 0, .slice none 0 0] := ((hzE.set 0 (.int .u32 0)).set 1 (.slice none 0 0))
  have hB4 := ((hbE.setCell (p := ⟨(w.heap.size + 1), 0, none⟩) (by simp) (.int .u32 0)).setCell (p := ⟨(w.heap.size + 1), 1, none⟩) (by simp) (.slice none 0 0))
  rw [hw8] at hA4 hB4
  have zz0 := hA4.cell (i := 0) rfl
  have zz1 := hA4.cell (i := 1) rfl
  have HE := Lib.hid hB4
  clear hba hca hbE0 hzE hcE hbE hr hr2 hA4 hB4
  go_enter Try.func36, Try.ntmps36
  go_wp2
  exact bodyPost_ret (by simp [results, Try.results36, go_sem, zz0, zz1] <;> rfl) rfl ⟨rfl, HE.out⟩

/-- What the operations of the drawn region leave behind. -/
def GFwR (w wr : World) (g base : Nat) (px py x0 : Int) (p : Option Addr) (n c j t : Nat) (a2 : Option Addr) (c2 : Nat) (zs : List Int) (i : Nat) (v : Value) (W : World) : Prop := match i with | 0 => v = .pointer (some ⟨g, 1, none⟩) | 1 => v = .slice a2 j c2 | 2 => v = .pointer (some ⟨w.heap.size, 2, none⟩) | 3 => v = .slice p n c | 4 => v = .int .i64 (t : Int) | 5 => v = .int .u64 px | 6 => v = .int .u16 px | 7 => v = .pointer (some ⟨w.heap.size, 2, none⟩) | 8 => v = .slice p n c | 9 => v = .int .i64 (t : Int) | 10 => v = .int .i64 ((t : Int) + 2) | 11 => v = .int .u64 py | 12 => v = .int .u16 py | 13 => v = .agg #[.int .u16 px, .int .u16 py] | 14 => ∃ gs, v = .slice (some ⟨gs, 0, none⟩) 1 1 ∧ wr.heap.size ≤ gs ∧ Arr W gs 100 [.int .u16 px, .int .u16 py] | 15 => ∃ a9 c9, v = .slice a9 (j + 1) c9 ∧ RowP 100 base W a9 (j + 1) c9 (pairsAt zs 4 (j + 1)) | 16 => v = .pointer (some ⟨g, 1, none⟩) | _ => True
theorem GFwR_mono {w wr : World} {g base : Nat} {px py x0 : Int} {p : Option Addr} {n c j t : Nat} {a2 : Option Addr} {c2 : Nat} {zs : List Int} {W W' : World} (hb : Below W.heap.size W W') (jo : Nat) (xo : Value) (h : GFwR w wr g base px py x0 p n c j t a2 c2 zs jo xo W) : GFwR w wr g base px py x0 p n c j t a2 c2 zs jo xo W' := by
  unfold GFwR at h ⊢
  split at h <;> try exact h
  · obtain ⟨gs, e0, h0_0, h0_1⟩ := h
    exact ⟨gs, e0, h0_0, h0_1.keep hb⟩
  · obtain ⟨a9, c9, e0, h0_0⟩ := h
    exact ⟨a9, c9, e0, owns_keep h0_0 hb⟩
theorem GFwR_app {w wr : World} {g base : Nat} {px py x0 : Int} {p : Option Addr} {n c j t : Nat} {a2 : Option Addr} {c2 : Nat} {zs : List Int} {W W9 : World} {jj : Nat} {x : Value} (hrb : ∀ k, (Value.slice a2 j c2).ownBlock = some k → k < wr.heap.size) (hg : W.grownBy W9 (Value.slice a2 j c2).ownBlock) (hj : jj ≠ 15) (h : GFwR w wr g base px py x0 p n c j t a2 c2 zs jj x W) : GFwR w wr g base px py x0 p n c j t a2 c2 zs jj x W9 := by
  unfold GFwR at h ⊢
  split at h <;> first | exact h | exact absurd rfl hj | skip
  obtain ⟨gs, e0, h1, h2⟩ := h
  exact ⟨gs, e0, h1, (hg.block gs h2.lt (fun e => by have := hrb gs e.symm; omega)).trans h2⟩

/-- What the operations of the drawn region leave behind. -/
def GFwS (w wr : World) (g : Nat) (k f x0 : Int) (p : Option Addr) (n c j : Nat) (a2 : Option Addr) (c2 : Nat) (ps : List (Int × Int)) (bb : Bool) (i : Nat) (v : Value) (W : World) : Prop := match i with | 0 => v = .agg #[.int .u32 x0, .slice a2 j c2] | 1 => ∃ a1 c1, v = .agg #[.int .u8 192, .int .u8 0, .slice a1 ((fwdB x0 ps)).length c1] ∧ Reads W a1 ((fwdB x0 ps)).length ((fwdB x0 ps)) | 2 => v = .agg #[.int .u8 k, .int .u8 f, .slice p n c] | 3 => v = .bool bb | 4 => v = .bool (!bb) | _ => True
theorem GFwS_mono {w wr : World} {g : Nat} {k f x0 : Int} {p : Option Addr} {n c j : Nat} {a2 : Option Addr} {c2 : Nat} {ps : List (Int × Int)} {bb : Bool} {W W' : World} (hb : Below W.heap.size W W') (jo : Nat) (xo : Value) (h : GFwS w wr g k f x0 p n c j a2 c2 ps bb jo xo W) : GFwS w wr g k f x0 p n c j a2 c2 ps bb jo xo W' := by
  unfold GFwS at h ⊢
  split at h <;> try exact h
  · obtain ⟨a1, c1, e0, h0_0⟩ := h
    exact ⟨a1, c1, e0, h0_0.below hb⟩

set_option maxRecDepth 100000 in
set_option maxHeartbeats 1600000 in
theorem rgetForward_more (k f : Int) (p : Option Addr) (n c : Nat) (zs : List Int) (w : World) (hr : Reads w p n zs) (hz : Byt zs) (hc : n ≤ c) (hn : n ≤ 1000000) (x0 : Int) (hxx0 : natAt zs 0 4 = x0) (hm : 4 ≤ n) :
    Calls Try.prog 36 #[.agg #[.int .u8 k, .int .u8 f, .slice p n c]] w fun e w' => GotF w (eqC 192 0 (fwdB x0 (pairsAt zs 4 ((n - 4) / 4))) k f zs) x0 (pairsAt zs 4 ((n - 4) / 4)) e w' := by
  have hzn : zs.length = n := hr.1
  have HNx0 := Lib.hid (show ∀ W, Reads W p n zs → Calls Try.prog 53 #[.slice p n c, .int .i64 0, .int .i64 4] W fun e w' => e = .returned (.int .u64 x0) ∧ Below W.heap.size W w' from fun W h => hxx0 ▸ numR_any p n c 0 4 zs W h hz hc (by omega) (by omega) rfl)
  obtain ⟨lox0, hix0⟩ : 0 ≤ x0 ∧ x0 < 4294967296 := hxx0 ▸ natAt4 hz 0
  obtain ⟨wa, hwa⟩ : ∃ wa, w.alloc (.cells #[.int .u8 k, .int .u8 f, .slice p n c] 28) = wa := ⟨_, rfl⟩
  have hba : Below w.heap.size w wa := by rw [← hwa]; exact chunkBelow w k f _
  have hsa : wa.heap.size = w.heap.size + 1 := by rw [← hwa]; simp
  have hca : Arr wa w.heap.size 28 [.int .u8 k, .int .u8 f, .slice p n c] := by rw [← hwa]; exact chunkBox w k f _
  obtain ⟨wE, hwE⟩ : ∃ wE, wa.alloc (.cells #[.int .u32 0, .slice none 0 0] 56) = wE := ⟨_, rfl⟩
  have hbE0 : Below wa.heap.size wa wE := by rw [← hwE]; exact (Below.refl _ _).alloc (Nat.le_refl _) _
  have hsE : wE.heap.size = w.heap.size + 2 := by rw [← hwE]; simp; omega
  have hzE : Arr wE (w.heap.size + 1) 56 [.int .u32 0, .slice none 0 0] := by rw [← hwE, ← hsa]; exact arr_new _ _ _
  have hcE := hca.keep hbE0
  have hbE := hba.trans (hbE0.mono hba.size)
  have hr2 := hr.below hbE
  have HRW0 := Lib.hid (show ∀ W, Below wE.heap.size wE W → Reads W p n zs from fun W h => hr2.below h)
  have HC := Lib.hid hcE
  have HZ := Lib.hid hzE
  have HBE := Lib.hid (And.intro hbE hsE)
  have hmi : ¬ (n : Int) < 4 := by omega
  obtain ⟨ps, hps⟩ : ∃ ps, ps = pairsAt zs 4 ((n - 4) / 4) := ⟨_, rfl⟩
  obtain ⟨bb, hbb⟩ : ∃ bb, bb = eqC 192 0 (fwdB x0 ps) k f zs := ⟨_, rfl⟩
  rw [← hps, ← hbb]
  have HPS := Lib.hid hps
  have HBB := Lib.hid hbb
  obtain ⟨K, hK⟩ : ∃ K, K = (n - 4) / 4 := ⟨_, rfl⟩
  have HKK := Lib.hid hK
  have cl0 := hcE.cell (i := 0) rfl
  have cl1 := hcE.cell (i := 1) rfl
  have cl2 := hcE.cell (i := 2) rfl
  clear hba hca hbE0 hzE hcE hbE hr hr2 hxx0 hps hbb hK hzn
  go_enter Try.func36, Try.ntmps36
  go_wp2_with fail
  refine (HNx0.out _ (HRW0.out _ (Below.refl _ _))).mono ?_
  rintro e w1 ⟨rfl, hb1⟩
  have HB1 := Lib.hid hb1
  obtain ⟨g, hg⟩ : ∃ g, g = w1.heap.size := ⟨_, rfl⟩
  clear cl0 cl1 cl2
  have cl0 := (HC.out.keep hb1).cell (i := 0) rfl
  have cl1 := (HC.out.keep hb1).cell (i := 1) rfl
  have cl2 := (HC.out.keep hb1).cell (i := 2) rfl
  have hb0 : Below w1.heap.size w1 (w1.alloc (.cells #[.int .u32 x0, .slice none 0 0] 56)) := (Below.refl _ _).alloc (Nat.le_refl _) _
  have hs0 : (w1.alloc (.cells #[.int .u32 x0, .slice none 0 0] 56)).heap.size = g + 1 := by rw [hg]; simp
  have ha0 : Arr (w1.alloc (.cells #[.int .u32 x0, .slice none 0 0] 56)) g 56 [.int .u32 x0, .slice none 0 0] := by rw [hg]; exact arr_new _ _ _
  have HV := Lib.hid (And.intro (hb1.trans (hb0.mono hb1.size)) (And.intro hs0 (And.intro ha0 (show w.heap.size + 2 ≤ g by rw [hg]; have := hb1.size; have := HBE.out.2; omega))))
  have hg' := hg.symm
  clear hg hb1 hb0 hs0 ha0
  go_wp2
  generalize (w1.alloc (.cells #[.int .u32 x0, .slice none 0 0] 56)) = v0 at HV ⊢
  try rw [hg']
  have hgs : g < v0.heap.size := by have := HV.out.2.1; omega
  have HGS := Lib.hid hgs
  clear hgs hg' cl0 cl1 cl2
  have e0 := (HC.out.keep HV.out.1).cell (i := 0) rfl
  have e1 := (HC.out.keep HV.out.1).cell (i := 1) rfl
  have e2 := (HC.out.keep HV.out.1).cell (i := 2) rfl
  go_loopw [5] (fun ii wr => ∃ (j t : Nat) (a2 : Option Addr) (c2 : Nat), j ≤ K ∧ RowKit.Hid (t = 4 + 4 * j) ∧ ii = .int .i64 (t : Int) ∧ Arr wr g 56 [.int .u32 x0, .slice a2 j c2] ∧ RowP 100 v0.heap.size wr a2 j c2 (pairsAt zs 4 j) ∧ Turn [g] v0 wr) (fun ii _ => n - (intOf ii).toNat)
  case atStart => exact ⟨0, 4, none, 0, Nat.zero_le _, Lib.hid rfl, rfl, HV.out.2.2.1, World.ownsRow_nil _ _ _ _, Turn.refl _ _⟩
  case round =>
    clear e0 e1 e2
    obtain ⟨j, t, a2, c2, hj, hT, rfl, hA, hO, ht⟩ := hrel
    obtain ⟨base, hbase⟩ : ∃ base, base = v0.heap.size := ⟨_, rfl⟩
    rw [← hbase] at hO
    have hBr : Below wE.heap.size wE wr := HV.out.1.trans (ht.below HV.out.1.size (by intro k hk; simp at hk; have := HBE.out.2; have := HV.out.2.2.2; omega))
    have cl0 := (HC.out.keep hBr).cell (i := 0) rfl
    have cl1 := (HC.out.keep hBr).cell (i := 1) rfl
    have cl2 := (HC.out.keep hBr).cell (i := 2) rfl
    have d0 := hA.cell (i := 0) rfl
    have d1 := hA.cell (i := 1) rfl
    have hrd := HRW0.out wr hBr
    have HCr := Lib.hid (HC.out.keep hBr)
    have HAr := Lib.hid hA
    have HOr := Lib.hid hO
    have HTr := Lib.hid ht
    have HBr := Lib.hid hBr
    have HBS := Lib.hid (show base ≤ wr.heap.size by rw [hbase]; exact ht.size)
    have HBL := Lib.hid (show w.heap.size < base ∧ g < base by rw [hbase]; exact ⟨by have := HGS.out; have := HV.out.2.2.2; omega, HGS.out⟩)
    have HRX := Lib.hid (show ∀ W, Below base wr W → Reads W p n zs from fun W h => HRW0.out W (hBr.trans (h.mono (by have := HBE.out.2; have := HV.out.2.2.2; have := HBL.out.2; omega))))
    have HSZ := Lib.hid (show ∀ W, Below base wr W → wr.heap.size ≤ W.heap.size from fun W h => h.size)
    have HBASE := Lib.hid hbase
    clear hA hO ht hBr hbase hrd
    have hj4 : (t : Int) ≤ 2000000 := by have := hT.out; have := HKK.out; omega
    by_cases hlt : t + 4 ≤ n
    · have hlti : (t : Int) + 4 ≤ (n : Int) := by omega
      have HW2 := Lib.hid (show IntKind.i64.wrap ((t : Int) + 2) = (t : Int) + 2 from by first | (show wrap64 _ = _; unfold wrap64; omega) | (simp [IntKind.wrap, IntKind.signed, IntKind.bits]; omega))
      have hkn : j < K := by have := hT.out; have := HKK.out; omega
      obtain ⟨px, hpx⟩ : ∃ x, x = natAt zs t 2 := ⟨_, rfl⟩
      obtain ⟨py, hpy⟩ : ∃ x, x = natAt zs (t + 2) 2 := ⟨_, rfl⟩
      have HQ1 := Lib.hid (show ∀ W, Reads W p n zs → _ from fun W h => numR_any p n c (t) 2 zs W h hz hc (by omega) (by omega) rfl)
      have HQ2 := Lib.hid (show ∀ W, Reads W p n zs → _ from fun W h => numR_any p n c (t + 2) 2 zs W h hz hc (by omega) (by omega) rfl)
      rw [show (((t + 2 : Nat)) : Int) = (t : Int) + 2 from rfl, show ((2 : Nat) : Int) = 2 from rfl, ← hpy] at HQ2
      rw [show ((2 : Nat) : Int) = 2 from rfl, ← hpx] at HQ1
      obtain ⟨q0, q1⟩ : 0 ≤ px ∧ px < 65536 := hpx ▸ natAt2 hz t
      obtain ⟨q2, q3⟩ : 0 ≤ py ∧ py < 65536 := hpy ▸ natAt2 hz (t + 2)
      have HKN := Lib.hid (show j < K ∧ j ≤ 1000000 from ⟨hkn, by have := hT.out; omega⟩)
      have HAPP := Lib.hid (show ∀ W9 a9 c9, W9.ownsRow base 100 2 (.slice a9 (j + 1) c9) (j + 1) (pairC (pairsAt zs 4 j) ++ [.int .u16 px, .int .u16 py]) → RowP 100 base W9 a9 (j + 1) c9 (pairsAt zs 4 (j + 1)) from by
        intro W9 a9 c9 h
        unfold RowP
        rw [pairsAt_succ, pairC_snoc, ← hT.out, ← hpx, ← hpy]
        exact h)
      have HRB := Lib.hid (show ∀ k, (Value.slice a2 j c2).ownBlock = some k → k < wr.heap.size from fun k hk => (World.ownsRow.lt HOr.out k hk).2)
      clear hpx hpy hkn
      go_wp2_with fail
      refine wp_region_any (by kernel_rfl) ?_
      refine Vals.wpAny_goodLastL (GFwR w wr g base px py x0 p n c j t a2 c2 zs) (fun listed W => Below base wr W ∧ base ≤ W.heap.size ∧ (listed.getD 15 false = false → RowP 100 base W a2 j c2 (pairsAt zs 4 j))) [some 24, some 25, some 26, some 27, some 28, some 29, some 30, some 31, some 32, some 33, some 34, some 35, some 36, some 37, some 38, some 39, some 40, none] 17 48 _ _ rfl (by kernel_rfl) (by kernel_rfl) (by kernel_rfl) (by decide) rfl ?step7 ?fin7 ⟨(Below.refl _ _).drew, HBS.out, fun _ => owns_keep HOr.out (Below.of_drewN wr 1)⟩
      case step7 =>
        intro i o d ho hd hiN listed a W hls hun hcl hJ hdf hdep hfr K hK
        match i, ho, hd with
        | 0, ho, hd =>
          have ho' := ho
          simp only [List.getElem?_toArray, List.getElem?_cons_zero, Option.some.injEq] at ho hd
          subst ho hd
          have r4 : a.eval (.tmp 4) = .pointer (some ⟨g, 0, none⟩) := hfr 4 (by decide)
          rw [Vals.eval_tmp] at r4
          refine Vals.wpOp_run ho' rfl ?_
          clear hdep hfr ho' hdf
          go_simp
          exact hK _ _ (fun _ _ _ _ h => h) ⟨hJ.1, hJ.2.1, fun h => hJ.2.2 (Vals.jlisted (i := 0) h (by decide))⟩ (fun _ => rfl)
        | 1, ho, hd =>
          have ho' := ho
          simp only [List.getElem?_toArray, List.getElem?_cons_zero, List.getElem?_cons_succ, Option.some.injEq] at ho hd
          subst ho hd
          have r24 : a.eval (.tmp 24) = .pointer (some ⟨g, 1, none⟩) := hdep ⟨0, .data⟩ (by simp) rfl 24 rfl
          rw [Vals.eval_tmp] at r24
          have c0 := (HAr.out.below hJ.1 HBL.out.2).cell (i := 1) rfl
          refine Vals.wpOp_run ho' rfl ?_
          clear hdep hfr ho' hdf
          go_simp
          exact hK _ _ (fun _ _ _ _ h => h) ⟨hJ.1, hJ.2.1, fun h => hJ.2.2 (Vals.jlisted (i := 1) h (by decide))⟩ (fun _ => rfl)
        | 2, ho, hd =>
          have ho' := ho
          simp only [List.getElem?_toArray, List.getElem?_cons_zero, List.getElem?_cons_succ, Option.some.injEq] at ho hd
          subst ho hd
          have r1 : a.eval (.tmp 1) = .pointer (some ⟨w.heap.size, 0, none⟩) := hfr 1 (by decide)
          rw [Vals.eval_tmp] at r1
          refine Vals.wpOp_run ho' rfl ?_
          clear hdep hfr ho' hdf
          go_simp
          exact hK _ _ (fun _ _ _ _ h => h) ⟨hJ.1, hJ.2.1, fun h => hJ.2.2 (Vals.jlisted (i := 2) h (by decide))⟩ (fun _ => rfl)
        | 3, ho, hd =>
          have ho' := ho
          simp only [List.getElem?_toArray, List.getElem?_cons_zero, List.getElem?_cons_succ, Option.some.injEq] at ho hd
          subst ho hd
          have r26 : a.eval (.tmp 26) = .pointer (some ⟨w.heap.size, 2, none⟩) := hdep ⟨2, .data⟩ (by simp) rfl 26 rfl
          rw [Vals.eval_tmp] at r26
          have c0 := (HCr.out.below hJ.1 HBL.out.1).cell (i := 2) rfl
          refine Vals.wpOp_run ho' rfl ?_
          clear hdep hfr ho' hdf
          go_simp
          exact hK _ _ (fun _ _ _ _ h => h) ⟨hJ.1, hJ.2.1, fun h => hJ.2.2 (Vals.jlisted (i := 3) h (by decide))⟩ (fun _ => rfl)
        | 4, ho, hd =>
          have ho' := ho
          simp only [List.getElem?_toArray, List.getElem?_cons_zero, List.getElem?_cons_succ, Option.some.injEq] at ho hd
          subst ho hd
          have r5 : a.eval (.tmp 5) = .int .i64 (t : Int) := hfr 5 (by decide)
          rw [Vals.eval_tmp] at r5
          refine Vals.wpOp_run ho' rfl ?_
          clear hdep hfr ho' hdf
          go_simp
          exact hK _ _ (fun _ _ _ _ h => h) ⟨hJ.1, hJ.2.1, fun h => hJ.2.2 (Vals.jlisted (i := 4) h (by decide))⟩ (fun _ => rfl)
        | 5, ho, hd =>
          have ho' := ho
          simp only [List.getElem?_toArray, List.getElem?_cons_zero, List.getElem?_cons_succ, Option.some.injEq] at ho hd
          subst ho hd
          have r27 : a.eval (.tmp 27) = .slice p n c := hdep ⟨3, .data⟩ (by simp) rfl 27 rfl
          rw [Vals.eval_tmp] at r27
          have r28 : a.eval (.tmp 28) = .int .i64 (t : Int) := hdep ⟨4, .data⟩ (by simp) rfl 28 rfl
          rw [Vals.eval_tmp] at r28
          refine Vals.wpOp_run ho' rfl ?_
          clear hdep hfr ho' hdf
          go_simp
          refine (HQ1.out W (HRX.out W hJ.1)).mono ?_
          rintro e w' ⟨rfl, hb3⟩
          exact hK _ _ (fun j x _ _ h => GFwR_mono hb3 j x h) ⟨hJ.1.trans (hb3.mono hJ.2.1), Nat.le_trans hJ.2.1 hb3.size, fun h => owns_keep (hJ.2.2 (Vals.jlisted (i := 5) h (by decide))) hb3⟩ (fun _ => rfl)
        | 6, ho, hd =>
          have ho' := ho
          simp only [List.getElem?_toArray, List.getElem?_cons_zero, List.getElem?_cons_succ, Option.some.injEq] at ho hd
          subst ho hd
          have r29 : a.eval (.tmp 29) = .int .u64 px := hdep ⟨5, .data⟩ (by simp) rfl 29 rfl
          rw [Vals.eval_tmp] at r29
          refine Vals.wpOp_run ho' rfl ?_
          clear hdep hfr ho' hdf
          go_simp
          exact hK _ _ (fun _ _ _ _ h => h) ⟨hJ.1, hJ.2.1, fun h => hJ.2.2 (Vals.jlisted (i := 6) h (by decide))⟩ (fun _ => (by first | rfl | exact congrArg (Value.int _) (Int.emod_eq_of_lt (by assumption) (by assumption))))
        | 7, ho, hd =>
          have ho' := ho
          simp only [List.getElem?_toArray, List.getElem?_cons_zero, List.getElem?_cons_succ, Option.some.injEq] at ho hd
          subst ho hd
          have r1 : a.eval (.tmp 1) = .pointer (some ⟨w.heap.size, 0, none⟩) := hfr 1 (by decide)
          rw [Vals.eval_tmp] at r1
          refine Vals.wpOp_run ho' rfl ?_
          clear hdep hfr ho' hdf
          go_simp
          exact hK _ _ (fun _ _ _ _ h => h) ⟨hJ.1, hJ.2.1, fun h => hJ.2.2 (Vals.jlisted (i := 7) h (by decide))⟩ (fun _ => rfl)
        | 8, ho, hd =>
          have ho' := ho
          simp only [List.getElem?_toArray, List.getElem?_cons_zero, List.getElem?_cons_succ, Option.some.injEq] at ho hd
          subst ho hd
          have r31 : a.eval (.tmp 31) = .pointer (some ⟨w.heap.size, 2, none⟩) := hdep ⟨7, .data⟩ (by simp) rfl 31 rfl
          rw [Vals.eval_tmp] at r31
          have c0 := (HCr.out.below hJ.1 HBL.out.1).cell (i := 2) rfl
          refine Vals.wpOp_run ho' rfl ?_
          clear hdep hfr ho' hdf
          go_simp
          exact hK _ _ (fun _ _ _ _ h => h) ⟨hJ.1, hJ.2.1, fun h => hJ.2.2 (Vals.jlisted (i := 8) h (by decide))⟩ (fun _ => rfl)
        | 9, ho, hd =>
          have ho' := ho
          simp only [List.getElem?_toArray, List.getElem?_cons_zero, List.getElem?_cons_succ, Option.some.injEq] at ho hd
          subst ho hd
          have r5 : a.eval (.tmp 5) = .int .i64 (t : Int) := hfr 5 (by decide)
          rw [Vals.eval_tmp] at r5
          refine Vals.wpOp_run ho' rfl ?_
          clear hdep hfr ho' hdf
          go_simp
          exact hK _ _ (fun _ _ _ _ h => h) ⟨hJ.1, hJ.2.1, fun h => hJ.2.2 (Vals.jlisted (i := 9) h (by decide))⟩ (fun _ => rfl)
        | 10, ho, hd =>
          have ho' := ho
          simp only [List.getElem?_toArray, List.getElem?_cons_zero, List.getElem?_cons_succ, Option.some.injEq] at ho hd
          subst ho hd
          have r33 : a.eval (.tmp 33) = .int .i64 (t : Int) := hdep ⟨9, .data⟩ (by simp) rfl 33 rfl
          rw [Vals.eval_tmp] at r33
          refine Vals.wpOp_run ho' rfl ?_
          clear hdep hfr ho' hdf
          go_simp
          exact hK _ _ (fun _ _ _ _ h => h) ⟨hJ.1, hJ.2.1, fun h => hJ.2.2 (Vals.jlisted (i := 10) h (by decide))⟩ (fun _ => congrArg (Value.int .i64) HW2.out)
        | 11, ho, hd =>
          have ho' := ho
          simp only [List.getElem?_toArray, List.getElem?_cons_zero, List.getElem?_cons_succ, Option.some.injEq] at ho hd
          subst ho hd
          have r32 : a.eval (.tmp 32) = .slice p n c := hdep ⟨8, .data⟩ (by simp) rfl 32 rfl
          rw [Vals.eval_tmp] at r32
          have r34 : a.eval (.tmp 34) = .int .i64 ((t : Int) + 2) := hdep ⟨10, .data⟩ (by simp) rfl 34 rfl
          rw [Vals.eval_tmp] at r34
          refine Vals.wpOp_run ho' rfl ?_
          clear hdep hfr ho' hdf
          go_simp
          refine (HQ2.out W (HRX.out W hJ.1)).mono ?_
          rintro e w' ⟨rfl, hb3⟩
          exact hK _ _ (fun j x _ _ h => GFwR_mono hb3 j x h) ⟨hJ.1.trans (hb3.mono hJ.2.1), Nat.le_trans hJ.2.1 hb3.size, fun h => owns_keep (hJ.2.2 (Vals.jlisted (i := 11) h (by decide))) hb3⟩ (fun _ => rfl)
        | 12, ho, hd =>
          have ho' := ho
          simp only [List.getElem?_toArray, List.getElem?_cons_zero, List.getElem?_cons_succ, Option.some.injEq] at ho hd
          subst ho hd
          have r35 : a.eval (.tmp 35) = .int .u64 py := hdep ⟨11, .data⟩ (by simp) rfl 35 rfl
          rw [Vals.eval_tmp] at r35
          refine Vals.wpOp_run ho' rfl ?_
          clear hdep hfr ho' hdf
          go_simp
          exact hK _ _ (fun _ _ _ _ h => h) ⟨hJ.1, hJ.2.1, fun h => hJ.2.2 (Vals.jlisted (i := 12) h (by decide))⟩ (fun _ => (by first | rfl | exact congrArg (Value.int _) (Int.emod_eq_of_lt (by assumption) (by assumption))))
        | 13, ho, hd =>
          have ho' := ho
          simp only [List.getElem?_toArray, List.getElem?_cons_zero, List.getElem?_cons_succ, Option.some.injEq] at ho hd
          subst ho hd
          have r30 : a.eval (.tmp 30) = .int .u16 px := hdep ⟨6, .data⟩ (by simp) rfl 30 rfl
          rw [Vals.eval_tmp] at r30
          have r36 : a.eval (.tmp 36) = .int .u16 py := hdep ⟨12, .data⟩ (by simp) rfl 36 rfl
          rw [Vals.eval_tmp] at r36
          refine Vals.wpOp_run ho' rfl ?_
          clear hdep hfr ho' hdf
          go_simp
          exact hK _ _ (fun _ _ _ _ h => h) ⟨hJ.1, hJ.2.1, fun h => hJ.2.2 (Vals.jlisted (i := 13) h (by decide))⟩ (fun _ => rfl)
        | 14, ho, hd =>
          have ho' := ho
          simp only [List.getElem?_toArray, List.getElem?_cons_zero, List.getElem?_cons_succ, Option.some.injEq] at ho hd
          subst ho hd
          have r37 : a.eval (.tmp 37) = .agg #[.int .u16 px, .int .u16 py] := hdep ⟨13, .data⟩ (by simp) rfl 37 rfl
          rw [Vals.eval_tmp] at r37
          refine Vals.wpOp_run ho' rfl ?_
          clear hdep hfr ho' hdf
          go_simp
          have hb3 : Below W.heap.size W (W.alloc (.cells #[.int .u16 px, .int .u16 py] 100)) := (Below.refl _ _).alloc (Nat.le_refl _) _
          exact hK _ _ (fun j x _ _ h => GFwR_mono hb3 j x h) ⟨hJ.1.trans (hb3.mono hJ.2.1), Nat.le_trans hJ.2.1 hb3.size, fun h => owns_keep (hJ.2.2 (Vals.jlisted (i := 14) h (by decide))) hb3⟩ (fun _ => ⟨_, rfl, HSZ.out W hJ.1, arr_new _ _ _⟩)
        | 15, ho, hd =>
          have ho' := ho
          simp only [List.getElem?_toArray, List.getElem?_cons_zero, List.getElem?_cons_succ, Option.some.injEq] at ho hd
          subst ho hd
          have r25 : a.eval (.tmp 25) = .slice a2 j c2 := hdep ⟨1, .data⟩ (by simp) rfl 25 rfl
          rw [Vals.eval_tmp] at r25
          have g38 : ∃ gs_38, a.eval (.tmp 38) = .slice (some ⟨gs_38, 0, none⟩) 1 1 ∧ wr.heap.size ≤ gs_38 ∧ Arr W gs_38 100 [.int .u16 px, .int .u16 py] := hdep ⟨14, .data⟩ (by simp) rfl 38 rfl
          rw [Vals.eval_tmp] at g38
          obtain ⟨gs_38, r38, h38_0, h38_1⟩ := g38
          obtain ⟨a9, c9, W9, hrun, H9⟩ := owns_append1 Try.infoSkip Try.underlying54 rfl (by decide) (by decide) (hJ.2.2 hun) hJ.2.1 (by have := HKN.out; omega) gs_38 [.int .u16 px, .int .u16 py] rfl h38_1 (by intro u hu; simp at hu; first | (rcases hu with rfl | rfl <;> rfl) | (subst hu; rfl))
          have hb9 : Below base W W9 := ⟨H9.out.2.os, H9.out.2.tape, H9.out.2.output, H9.out.2.size, fun k hk => H9.out.2.block k (Nat.lt_of_lt_of_le hk hJ.2.1) (fun e => by have := (World.ownsRow.lt (hJ.2.2 hun) k e.symm).1; omega)⟩
          have hrow9 := HAPP.out W9 a9 c9 H9.out.1
          refine Vals.wpOp_run ho' rfl ?_
          clear hdep hfr ho' hdf
          refine Vals.oper_append_run (.tmp 25) (.tmp 38) 54 rfl _ _ _ W9 (by rw [Vals.eval_tmp]; exact r25) (by rw [Vals.eval_tmp]; exact r38) hrun ?_
          exact hK _ _ (fun jj x hlj hji h => GFwR_app HRB.out H9.out.2 hji h) ⟨hJ.1.trans hb9, Nat.le_trans hJ.2.1 H9.out.2.size, fun h => (Vals.jself (by rw [hls]; decide) h).elim⟩ (fun _ => ⟨_, _, rfl, hrow9⟩)
        | 16, ho, hd =>
          have ho' := ho
          simp only [List.getElem?_toArray, List.getElem?_cons_zero, List.getElem?_cons_succ, Option.some.injEq] at ho hd
          subst ho hd
          have r4 : a.eval (.tmp 4) = .pointer (some ⟨g, 0, none⟩) := hfr 4 (by decide)
          rw [Vals.eval_tmp] at r4
          refine Vals.wpOp_run ho' rfl ?_
          clear hdep hfr ho' hdf
          go_simp
          exact hK _ _ (fun _ _ _ _ h => h) ⟨hJ.1, hJ.2.1, fun h => hJ.2.2 (Vals.jlisted (i := 16) h (by decide))⟩ (fun _ => rfl)
        | i + 17, ho, hd => omega
      case fin7 =>
        intro listed W fq hall hJ hG
        have q0 : fq 24 = .pointer (some ⟨g, 1, none⟩) := hG 0 24 rfl
        have q1 : fq 25 = .slice a2 j c2 := hG 1 25 rfl
        have q2 : fq 26 = .pointer (some ⟨w.heap.size, 2, none⟩) := hG 2 26 rfl
        have q3 : fq 27 = .slice p n c := hG 3 27 rfl
        have q4 : fq 28 = .int .i64 (t : Int) := hG 4 28 rfl
        have q5 : fq 29 = .int .u64 px := hG 5 29 rfl
        have q6 : fq 30 = .int .u16 px := hG 6 30 rfl
        have q7 : fq 31 = .pointer (some ⟨w.heap.size, 2, none⟩) := hG 7 31 rfl
        have q8 : fq 32 = .slice p n c := hG 8 32 rfl
        have q9 : fq 33 = .int .i64 (t : Int) := hG 9 33 rfl
        have q10 : fq 34 = .int .i64 ((t : Int) + 2) := hG 10 34 rfl
        have q11 : fq 35 = .int .u64 py := hG 11 35 rfl
        have q12 : fq 36 = .int .u16 py := hG 12 36 rfl
        have q13 : fq 37 = .agg #[.int .u16 px, .int .u16 py] := hG 13 37 rfl
        obtain ⟨gs_38, q14, hq38_0, hq38_1⟩ : ∃ gs_38, fq 38 = .slice (some ⟨gs_38, 0, none⟩) 1 1 ∧ wr.heap.size ≤ gs_38 ∧ Arr W gs_38 100 [.int .u16 px, .int .u16 py] := hG 14 38 rfl
        obtain ⟨a9_39, c9_39, q15, hq39_0⟩ : ∃ a9_39 c9_39, fq 39 = .slice a9_39 (j + 1) c9_39 ∧ RowP 100 base W a9_39 (j + 1) c9_39 (pairsAt zs 4 (j + 1)) := hG 15 39 rfl
        have q16 : fq 40 = .pointer (some ⟨g, 1, none⟩) := hG 16 40 rfl
        clear hG hall
        refine Vals.wpOp_run rfl rfl ?_
        simp only [Vals.puts, Vals.pairs, List.filterMap_cons, List.filterMap_nil, id, List.map_cons, List.map_nil, List.foldl_cons, List.foldl_nil, q0, q1, q2, q3, q4, q5, q6, q7, q8, q9, q10, q11, q12, q13, q14, q15, q16]
        clear q0 q1 q2 q3 q4 q5 q6 q7 q8 q9 q10 q11 q12 q13 q14 q15 q16
        go_frame
        have hj1 : Below base wr W := hJ.1
        have hA5 := HAr.out.below hj1 HBL.out.2
        have ht5 : Turn [g] v0 W := ⟨hj1.os.trans HTr.out.os, hj1.tape.trans HTr.out.tape, hj1.output.trans HTr.out.output, Nat.le_trans HTr.out.size hj1.size, fun i hi hn => (hj1.block i (by rw [HBASE.out]; exact hi)).trans (HTr.out.block i hi hn)⟩
        obtain ⟨w6, hw6⟩ : ∃ w6, W.setCell ⟨g, 1, none⟩ (.slice a9_39 (j + 1) c9_39) = w6 := ⟨_, rfl⟩
        have hA6 : Arr w6 g 56 [.int .u32 x0, .slice a9_39 (j + 1) c9_39] := by rw [← hw6]; exact hA5.set 1 _
        have ht6 : Turn [g] v0 w6 := by rw [← hw6]; exact ht5.setCell (p := ⟨g, 1, none⟩) (by simp) _
        have hO6 : RowP 100 v0.heap.size w6 a9_39 (j + 1) c9_39 (pairsAt zs 4 (j + 1)) := by rw [← hw6, ← HBASE.out]; exact RowP.setAt hq39_0 HBL.out.2 1 _
        have fr := hA5.free 1
        have y1 := hA5.cell (i := 1) rfl
        have H6 := Lib.hid (And.intro hA6 (And.intro hO6 ht6))
        have HT6 := Lib.hid (show t + 4 = 4 + 4 * (j + 1) by have := hT.out; omega)
        clear hj1 hA5 ht5 hA6 ht6 hO6 hJ hq39_0 hq38_0 hq38_1
        go_simp
        go_wp2
        exact ⟨⟨j + 1, t + 4, a9_39, c9_39, HKN.out.1, HT6, congrArg (Value.int .i64) (by omega), H6.out⟩, by simp [intOf]; omega⟩
    · have hlti : ¬ (t : Int) + 4 ≤ (n : Int) := by omega
      have hjK : j = K := by have := hT.out; have := HKK.out; omega
      have hps : ps = pairsAt zs 4 j := by rw [HPS.out, ← HKK.out, hjK]
      have hin := pairsAt_in hz 4 j
      have hrp : RowP 100 base wr a2 j c2 ps := by rw [hps]; exact HOr.out
      have hin2 : ∀ p ∈ ps, InP p := by rw [hps]; exact hin
      have hpr := RowP.prs hrp hin2
      have HPR := Lib.hid (And.intro hpr (show j ≤ 1048576 by have := hT.out; have := HKK.out; omega))
      have HRP := Lib.hid (And.intro hrp (And.intro hpr.1 hin2))
      have HRW := Lib.hid (show ∀ W, Below wr.heap.size wr W → Reads W p n zs from fun W h => HRX.out W (h.mono HBS.out))
      have HZr := Lib.hid (HZ.out.keep HBr.out)
      have HBw := Lib.hid (HBE.out.1.trans (HBr.out.mono HBE.out.1.size))
      clear hps hin hrp hin2 hpr HOr HRX HSZ hjK
      go_wp2_with fail
      refine wp_region_any (by kernel_rfl) ?_
      refine Vals.wpAny_goodW (GFwS w wr g k f x0 p n c j a2 c2 ps bb) (fun _ => (fun W => Below wr.heap.size wr W)) [some 41, some 42, some 43, some 44, some 45] 48 _ _ rfl (by kernel_rfl) (by kernel_rfl) (by decide) ?step8 ?fin8 (Below.refl _ _).drew
      case step8 =>
        intro i o d ho hd listed a W hls hun hcl hJ hdf hdep hfr K hK
        match i, ho, hd with
        | 0, ho, hd =>
          have ho' := ho
          simp only [List.getElem?_toArray, List.getElem?_cons_zero, Option.some.injEq] at ho hd
          subst ho hd
          have r4 : a.eval (.tmp 4) = .pointer (some ⟨g, 0, none⟩) := hfr 4 (by decide)
          rw [Vals.eval_tmp] at r4
          have c0 := (HAr.out.keep hJ).cell (i := 0) rfl
          have c1 := (HAr.out.keep hJ).cell (i := 1) rfl
          refine Vals.wpOp_run ho' rfl ?_
          clear hdep hfr ho' hdf hcl
          go_simp
          exact hK _ _ (fun _ _ h => h) hJ (fun _ => rfl)
        | 1, ho, hd =>
          have ho' := ho
          simp only [List.getElem?_toArray, List.getElem?_cons_zero, List.getElem?_cons_succ, Option.some.injEq] at ho hd
          subst ho hd
          have r41 : a.eval (.tmp 41) = .agg #[.int .u32 x0, .slice a2 j c2] := (hdep ⟨0, .data⟩ (by simp) rfl).2 41 rfl
          rw [Vals.eval_tmp] at r41
          refine Vals.wpOp_run ho' rfl ?_
          clear hdep hfr ho' hdf hcl
          go_simp
          refine (rputForward x0 a2 j c2 ps W (HPR.out.1.below hJ (Nat.le_refl _)) HPR.out.2 lox0 hix0).mono ?_
          rintro e w' ⟨a1, c1, rfl, hb3, hr3⟩
          exact hK _ _ (GFwS_mono hb3) (hJ.trans (hb3.mono hJ.size)) (fun _ => ⟨_, _, rfl, hr3.reads⟩)
        | 2, ho, hd =>
          have ho' := ho
          simp only [List.getElem?_toArray, List.getElem?_cons_zero, List.getElem?_cons_succ, Option.some.injEq] at ho hd
          subst ho hd
          have r1 : a.eval (.tmp 1) = .pointer (some ⟨w.heap.size, 0, none⟩) := hfr 1 (by decide)
          rw [Vals.eval_tmp] at r1
          have c0 := (HCr.out.keep hJ).cell (i := 0) rfl
          have c1 := (HCr.out.keep hJ).cell (i := 1) rfl
          have c2 := (HCr.out.keep hJ).cell (i := 2) rfl
          refine Vals.wpOp_run ho' rfl ?_
          clear hdep hfr ho' hdf hcl
          go_simp
          exact hK _ _ (fun _ _ h => h) hJ (fun _ => rfl)
        | 3, ho, hd =>
          have ho' := ho
          simp only [List.getElem?_toArray, List.getElem?_cons_zero, List.getElem?_cons_succ, Option.some.injEq] at ho hd
          subst ho hd
          have g42 : ∃ a1_42 c1_42, a.eval (.tmp 42) = .agg #[.int .u8 192, .int .u8 0, .slice a1_42 ((fwdB x0 ps)).length c1_42] ∧ Reads W a1_42 ((fwdB x0 ps)).length ((fwdB x0 ps)) := (hdep ⟨1, .data⟩ (by simp) rfl).2 42 rfl
          rw [Vals.eval_tmp] at g42
          obtain ⟨a1_42, c1_42, r42, h42_0⟩ := g42
          have r43 : a.eval (.tmp 43) = .agg #[.int .u8 k, .int .u8 f, .slice p n c] := (hdep ⟨2, .data⟩ (by simp) rfl).2 43 rfl
          rw [Vals.eval_tmp] at r43
          refine Vals.wpOp_run ho' rfl ?_
          clear hdep hfr ho' hdf hcl
          go_simp
          refine (rsame_any 192 0 k f a1_42 p _ n _ c ((fwdB x0 ps)) zs W h42_0 (HRW.out W hJ) (fwdB_byt _ _) hz (by rw [fwdB_len, HPR.out.1.1]; have := HPR.out.2; omega) (by omega)).mono ?_
          rintro e w' ⟨rfl, hb3⟩
          exact hK _ _ (GFwS_mono hb3) (hJ.trans (hb3.mono hJ.size)) (fun _ => by show Value.bool _ = Value.bool _; first | rfl | rw [HBB.out])
        | 4, ho, hd =>
          have ho' := ho
          simp only [List.getElem?_toArray, List.getElem?_cons_zero, List.getElem?_cons_succ, Option.some.injEq] at ho hd
          subst ho hd
          have r44 : a.eval (.tmp 44) = .bool bb := (hdep ⟨3, .data⟩ (by simp) rfl).2 44 rfl
          rw [Vals.eval_tmp] at r44
          refine Vals.wpOp_run ho' rfl ?_
          clear hdep hfr ho' hdf hcl
          go_simp
          exact hK _ _ (fun _ _ h => h) hJ (fun _ => rfl)
        | i + 5, ho, hd => simp at ho
      case fin8 =>
        intro listed W fq hall hJ hG
        have q0 : fq 41 = .agg #[.int .u32 x0, .slice a2 j c2] := hG 0 41 rfl
        obtain ⟨a1_42, c1_42, q1, hq42_0⟩ : ∃ a1_42 c1_42, fq 42 = .agg #[.int .u8 192, .int .u8 0, .slice a1_42 ((fwdB x0 ps)).length c1_42] ∧ Reads W a1_42 ((fwdB x0 ps)).length ((fwdB x0 ps)) := hG 1 42 rfl
        have q2 : fq 43 = .agg #[.int .u8 k, .int .u8 f, .slice p n c] := hG 2 43 rfl
        have q3 : fq 44 = .bool bb := hG 3 44 rfl
        have q4 : fq 45 = .bool (!bb) := hG 4 45 rfl
        clear hG hall
        simp only [Vals.puts, Vals.pairs, List.filterMap_cons, List.filterMap_nil, id, List.map_cons, List.map_nil, List.foldl_cons, List.foldl_nil, q0, q1, q2, q3, q4]
        clear q0 q1 q2 q3 q4
        go_frame
        have hz7 := HZr.out.keep hJ
        have hB7 := HBw.out.trans (hJ.mono HBw.out.size)
        have hp7 : RowP _ _ _ _ _ _ _ := owns_keep HRP.out.1 hJ
        have hd7 := HAr.out.keep hJ
        clear hJ HPR HRW HZr HBw HCr HAr
        cases bb with
        | false =>
          have hp8 := RowP.setAt hp7 (g := w.heap.size + 1) (by have := HBL.out.2; have := HV.out.2.2.2; omega) 0 (.int .u32 0)
          have hp9 := RowP.setAt hp8 (g := w.heap.size + 1) (by have := HBL.out.2; have := HV.out.2.2.2; omega) 1 (.slice none 0 0)
          have HP9 := Lib.hid (hp9.prs HRP.out.2.2)
          clear hp8 hp9 hp7
          obtain ⟨w8, hw8⟩ : ∃ x, ((W.setCell ⟨(w.heap.size + 1), 0, none⟩ (.int .u32 0)).setCell ⟨(w.heap.size + 1), 1, none⟩ (.slice none 0 0)) = x := ⟨_, rfl⟩
          have hA4 : Arr _ (w.heap.size + 1) 56 [.int .u32 0, .slice none 0 0] := ((hz7.set 0 (.int .u32 0)).set 1 (.slice none 0 0))
          have hB4 := ((hB7.setCell (p := ⟨(w.heap.size + 1), 0, none⟩) (by simp) (.int .u32 0)).setCell (p := ⟨(w.heap.size + 1), 1, none⟩) (by simp) (.slice none 0 0))
          rw [hw8] at hA4 hB4
          have fs0 := hz7.free 0
          have fs1 := hz7.free 1
          have yy0 := hz7.cell (i := 0) rfl
          have yy1 := hz7.cell (i := 1) rfl
          have zz0 := hA4.cell (i := 0) rfl
          have zz1 := hA4.cell (i := 1) rfl
          have HE := Lib.hid hB4
          clear hA4 hB4 hz7 hB7 hd7
          go_wp2
          refine bodyPost_ret (by simp [results, Try.results36, go_sem, zz0, zz1] <;> rfl) rfl ?_
          have hpl := HRP.out.2.1
          have hp10 := HP9.out
          rw [hw8] at hp10
          exact ⟨a2, c2, .inr ⟨rfl, rfl⟩, HE.out, by rw [hpl]; exact hp10⟩
        | true =>
          have hp8 := RowP.setAt hp7 (g := w.heap.size + 1) (by have := HBL.out.2; have := HV.out.2.2.2; omega) 0 (.int .u32 x0)
          have hp9 := RowP.setAt hp8 (g := w.heap.size + 1) (by have := HBL.out.2; have := HV.out.2.2.2; omega) 1 (.slice a2 j c2)
          have HP9 := Lib.hid (hp9.prs HRP.out.2.2)
          clear hp8 hp9 hp7
          have dd0 := hd7.cell (i := 0) rfl
          have dd1 := hd7.cell (i := 1) rfl
          obtain ⟨w8, hw8⟩ : ∃ x, ((W.setCell ⟨(w.heap.size + 1), 0, none⟩ (.int .u32 x0)).setCell ⟨(w.heap.size + 1), 1, none⟩ (.slice a2 j c2)) = x := ⟨_, rfl⟩
          have hA4 : Arr _ (w.heap.size + 1) 56 [.int .u32 x0, .slice a2 j c2] := ((hz7.set 0 (.int .u32 x0)).set 1 (.slice a2 j c2))
          have hB4 := ((hB7.setCell (p := ⟨(w.heap.size + 1), 0, none⟩) (by simp) (.int .u32 x0)).setCell (p := ⟨(w.heap.size + 1), 1, none⟩) (by simp) (.slice a2 j c2))
          rw [hw8] at hA4 hB4
          have fs0 := hz7.free 0
          have fs1 := hz7.free 1
          have yy0 := hz7.cell (i := 0) rfl
          have yy1 := hz7.cell (i := 1) rfl
          have zz0 := hA4.cell (i := 0) rfl
          have zz1 := hA4.cell (i := 1) rfl
          have HE := Lib.hid hB4
          clear hA4 hB4 hz7 hB7 hd7
          go_wp2
          refine bodyPost_ret (by simp [results, Try.results36, go_sem, zz0, zz1] <;> rfl) rfl ?_
          have hpl := HRP.out.2.1
          have hp10 := HP9.out
          rw [hw8] at hp10
          exact ⟨a2, c2, .inl ⟨rfl, by rw [hpl]⟩, HE.out, by rw [hpl]; exact hp10⟩

end Go.Proofs.Ytlihcckgnnnekaa
