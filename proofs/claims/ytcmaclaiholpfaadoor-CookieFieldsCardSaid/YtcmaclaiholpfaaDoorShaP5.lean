/-
  The program's sha: a block is absorbed.
-/
import Derived.Test.YtcmaclaiholpfaaDoorShaP4
namespace Go.Proofs.YtcmaclaiholpfaaDoor
open Go.RowKit
set_option linter.unusedVariables false

section
variable {w w' : World} {sb : Nat} {A : List Nat} {B : List Int} {n : Nat}
theorem Raw.drewN (h : Raw w sb A B n) (k : Nat) : Raw (w.drewN k) sb A B n := ⟨h.row, h.a, h.b, h.byt⟩
theorem Raw.setA (h : Raw w sb A B n) {i x : Nat} (hi : i < 8) (h8 : Eight (A.set i x)) : Raw (w.setCell ⟨sb, i, none⟩ (word x)) sb (A.set i x) B n := by
  refine ⟨?_, h8, h.b, h.byt⟩
  have hr := h.row
  have e : (stCells A B n).set i (word x) = stCells (A.set i x) B n := by
    unfold stCells
    rw [List.set_append, if_pos (by rw [List.length_map, h.a.len]; exact hi), List.map_set]
  rw [← e]
  simp [World.setCell, Array.getElem?_modify, hr]
end
theorem eight_mix {hs vs : List Nat} (h : Eight hs) (h2 : Eight vs) {k : Nat} (hk : k ≤ 8) : Eight (mix hs vs k) := by
  obtain ⟨a, b, c, d, e, f, g, hh, rfl, l1, l2, l3, l4, l5, l6, l7, l8⟩ := h
  obtain ⟨a', b', c', d', e', f', g', hh', rfl, _⟩ := h2
  rcases k with _ | _ | _ | _ | _ | _ | _ | _ | _ | k
  all_goals first | exact ⟨_, _, _, _, _, _, _, _, rfl, by first | assumption | exact Nat.mod_lt _ (by omega), by first | assumption | exact Nat.mod_lt _ (by omega), by first | assumption | exact Nat.mod_lt _ (by omega), by first | assumption | exact Nat.mod_lt _ (by omega), by first | assumption | exact Nat.mod_lt _ (by omega), by first | assumption | exact Nat.mod_lt _ (by omega), by first | assumption | exact Nat.mod_lt _ (by omega), by first | assumption | exact Nat.mod_lt _ (by omega)⟩ | omega
theorem add_assoc {x y z : List Nat} (hx : Eight x) (hy : Eight y) (hz : Eight z) : addL x (addL y z) = addL (addL x y) z := by
  obtain ⟨a, b, c, d, e, f, g, hh, rfl, _⟩ := hx
  obtain ⟨a', b', c', d', e', f', g', hh', rfl, _⟩ := hy
  obtain ⟨a2, b2, c2, d2, e2, f2, g2, hh2, rfl, _⟩ := hz
  simp [addL, Nat.add_assoc]
theorem not_fact {E : Nat} (lE : E < 4294967296) : bits .xor .u32 IntKind.u32.max (E : Int) = ((E ^^^ 4294967295 : Nat) : Int) := by
  have h := u32_xor_nat 4294967295 E (by omega) lE
  rw [Nat.xor_comm] at h
  rw [← h]
  rfl
theorem mod_two (S x y : Nat) : (((S % 4294967296 : Nat) : Int) + ((x : Int) + (y : Int)) % 4294967296) % 4294967296 = (((S + (x + y)) % 4294967296 : Nat) : Int) := by omega
theorem mod_one (D S : Nat) : ((D : Int) + ((S % 4294967296 : Nat) : Int)) % 4294967296 = (((D + S) % 4294967296 : Nat) : Int) := by omega
theorem Tab.drew2 {w : World} (h : Tab w) (n : Nat) : Tab (w.drewN n) := h

set_option maxRecDepth 100000 in
set_option maxHeartbeats 3200000 in
theorem pabsorb_any (w : World) (sb : Nat) (A : List Nat) (B : List Int) (n : Nat) (hr : Raw w sb A B n) (ht : Tab w) :
    Calls Tryd.prog 54 #[.pointer (some ⟨sb, 0, none⟩)] w fun e w' => e = .returned (.tuple #[]) ∧ Raw w' sb (addL A (rounds (wlist B 64) (addL H0s A) 64)) B n ∧ Turn [sb] w w' := by
  have HR := Lib.hid hr
  have HT := Lib.hid ht
  have hlt := hr.lt
  have h8 := eight_add eight_H0 hr.a
  have hw := pwords_any w sb A B n hr ht
  have hwl := wlist_lt hr.byt 64
  have hwn := wlist_len B 64
  have hsc := fun W => psched_any W B hr.b hr.byt
  obtain ⟨hs, hhs⟩ : ∃ hs, hs = addL H0s A := ⟨_, rfl⟩
  obtain ⟨WW, hWW⟩ : ∃ WW, WW = wlist B 64 := ⟨_, rfl⟩
  rw [← hhs] at h8 hw
  rw [← hWW] at hwl hwn hsc
  rw [← hhs, ← hWW]
  have H8 := Lib.hid (And.intro h8 (And.intro hwl hwn))
  have HW := Lib.hid hw
  have HS := Lib.hid hsc
  clear hr ht h8 hwl hwn hw hsc hhs hWW
  obtain ⟨Y, hY⟩ : ∃ Y, Y = hs.map word := ⟨_, rfl⟩
  have hyl : Y.length = 8 := by rw [hY, List.length_map, H8.out.1.len]
  have infoY : (Tryd.prog.info? 75).map (·.size) = some Y.length := by rw [hyl]; exact info8
  have hone : Y.toArray.all (·.oneCell') = true := by rw [hY]; exact word_one _
  have HY := Lib.hid (And.intro hY (And.intro hyl (And.intro infoY hone)))
  clear hY hyl infoY hone
  go_enter Tryd.func54, Tryd.ntmps54
  go_wp2_with fail
  refine HW.out.mono ?_
  rintro e w1 ⟨rfl, hb1⟩
  rw [← HY.out.1]
  have hr1 := HR.out.below hb1
  have ht1 := HT.out.below hb1 HT.out.lt
  have H1 := Lib.hid (And.intro hr1 (And.intro ht1 hb1))
  clear hr1 ht1 hb1 HW
  go_wp2_with (refine wpList_store_fresh rfl 75 (.tmp 2) (.tmp 18) rfl _ _ rfl _ Y.toArray rfl rfl (by simpa using HY.out.2.2.1) (by simp [HY.out.2.1]) HY.out.2.2.2 ?_)
  have hvb := arr_new w1 75 Y
  have hb2 : Below w.heap.size w (w1.alloc (.cells Y.toArray 75)) := H1.out.2.2.alloc H1.out.2.2.size _
  have hr2 : Raw (w1.alloc (.cells Y.toArray 75)) sb A B n := H1.out.1.below ((Below.refl _ _).alloc (Nat.le_refl _) _)
  have ht2 : Tab (w1.alloc (.cells Y.toArray 75)) := H1.out.2.1.below ((Below.refl _ _).alloc (Nat.le_refl _) _) H1.out.2.1.lt
  generalize w1.heap.size = vb at *
  generalize w1.alloc (.cells Y.toArray 75) = w2 at *
  obtain ⟨a, b, c, d, e, f, g, h, hv, la, lb, lc, ld, le, lf, lg, lh⟩ := H8.out.1
  rw [HY.out.1, hv] at hvb
  have c0 := hvb.cell (i := 0) rfl
  have c1 := hvb.cell (i := 1) rfl
  have c2 := hvb.cell (i := 2) rfl
  have c3 := hvb.cell (i := 3) rfl
  have c4 := hvb.cell (i := 4) rfl
  have c5 := hvb.cell (i := 5) rfl
  have c6 := hvb.cell (i := 6) rfl
  have c7 := hvb.cell (i := 7) rfl
  unfold word at c0 c1 c2 c3 c4 c5 c6 c7
  have H2 := Lib.hid (And.intro hr2 (And.intro ht2 hb2))
  have HV := Lib.hid hv
  clear hvb hr2 ht2 hb2 hv la lb lc ld le lf lg lh
  go_wp2
  go_quiet (fail)
  clear c0 c1 c2 c3 c4 c5 c6 c7
  have h3 : Raw (w2.drewN nq) sb A B n ∧ Tab (w2.drewN nq) ∧ Below w.heap.size w (w2.drewN nq) := ⟨H2.out.1.drewN _, H2.out.2.1, below_drewN H2.out.2.2 nq⟩
  generalize w2.drewN nq = w3 at *
  have H3 := Lib.hid h3
  clear h3 H2 H1
  obtain ⟨X, hX⟩ : ∃ X, X = B.map (Value.int .u8) := ⟨_, rfl⟩
  have infoX : (Tryd.prog.info? 58).map (·.size) = some X.length := by rw [hX, List.length_map, HR.out.b]; exact infoB64
  have hrange : w3.rangeAt sb 8 X := by rw [hX]; exact H3.out.1.rangeB
  have HX := Lib.hid (And.intro hX (And.intro infoX hrange))
  clear hX infoX hrange
  go_wp2_with (refine wpList_load_mid rfl 58 (.tmp 37) rfl sb 8 rfl X (.array 64 5) HX.out.2.2 (by kernel_rfl) rfl HX.out.2.1 ?_)
  have hscX := HS.out w3
  rw [← HX.out.1] at hscX
  refine hscX.mono ?_
  rintro e w4 ⟨rfl, hb4⟩
  obtain ⟨Z, hZ⟩ : ∃ Z, Z = (WW.map word).toArray := ⟨_, rfl⟩
  rw [← hZ]
  have HZ := Lib.hid hZ
  have h4 : Raw w4 sb A B n ∧ Tab w4 ∧ Below w.heap.size w w4 := ⟨H3.out.1.below hb4, H3.out.2.1.below hb4 H3.out.2.1.lt, H3.out.2.2.trans (hb4.mono H3.out.2.2.size)⟩
  have H4 := Lib.hid h4
  clear hscX hb4 hZ h4 H3 HX HS
  go_wp2
  go_loopw [3, 4, 5, 6, 7, 8, 9, 10, 40] (fun va vb' vc vd ve vf vg vh i wr => ∃ t A1 B1 C1 D1 E1 F1 G1 I1 : Nat, t ≤ 64 ∧ i = .int .i64 t ∧ rounds WW hs t = [A1, B1, C1, D1, E1, F1, G1, I1] ∧ va = .int .u32 A1 ∧ vb' = .int .u32 B1 ∧ vc = .int .u32 C1 ∧ vd = .int .u32 D1 ∧ ve = .int .u32 E1 ∧ vf = .int .u32 F1 ∧ vg = .int .u32 G1 ∧ vh = .int .u32 I1 ∧
    Raw wr sb A B n ∧ Tab wr ∧ Below w.heap.size w wr) (fun _ _ _ _ _ _ _ _ i _ => 64 - (intOf i).toNat)
  case atStart => exact ⟨0, a, b, c, d, e, f, g, h, by omega, rfl, HV.out, rfl, rfl, rfl, rfl, rfl, rfl, rfl, rfl, H4.out⟩
  case round =>
    obtain ⟨t, A1, B1, C1, D1, E1, F1, G1, I1, ht, rfl, hv, rfl, rfl, rfl, rfl, rfl, rfl, rfl, rfl, hst⟩ := hrel
    obtain ⟨_, _, _, _, _, _, _, _, hv', lA, lB, lC, lD, lE, lF, lG, lH⟩ := eight_rounds H8.out.1 (ws := WW) t
    rw [hv] at hv'
    simp only [List.cons.injEq, and_true] at hv'
    obtain ⟨rfl, rfl, rfl, rfl, rfl, rfl, rfl, rfl⟩ := hv'
    by_cases ht64 : t < 64
    · have hstep : rounds WW hs (t + 1) = stepL (Ks[t]?.getD 0) (WW[t]?.getD 0) (rounds WW hs t) := rfl
      have hwt : t < WW.length := by rw [H8.out.2.2]; exact ht64
      have hkt : t < Ks.length := ht64
      have gw : WW[t]? = some WW[t] := by simp [hwt]
      have gkk : Ks[t]? = some Ks[t] := by simp [hkt]
      have lw := H8.out.2.1 WW[t] (List.getElem_mem hwt)
      have lk : Ks[t] < 4294967296 := ks_lt _ (List.getElem_mem hkt)
      rw [hv, gw, gkk] at hstep
      have ck := hst.2.1.1 t _ gkk
      have hix := idx64 WW t _ ht64 gw
      rw [← HZ.out] at hix
      simp only [Option.getD_some] at hstep
      generalize WW[t] = wt at *
      generalize Ks[t] = kt at *
      have gt : (t : Int) < 64 := by omega
      have gt0 : (0 : Int) ≤ t := by omega
      have HST := Lib.hid (And.intro hstep hst)
      obtain ⟨x1, x2, x3, x4, x5, x6⟩ := big_facts lE lF lG
      have xn := not_fact lE
      have hwa := wrap_add
      have hsg : IntKind.u32.signed = false := rfl
      have r1 : ∀ j, Calls Tryd.prog 59 #[.int .u32 (E1 : Int), .int .i64 6] (wr.drewN j) fun e w' => e = .returned (.int .u32 (rotr E1 6 : Nat)) ∧ ∃ m, w' = wr.drewN m := fun j => pright_q wr j E1 6 lE (by omega) (by omega)
      have r2 : ∀ j, Calls Tryd.prog 59 #[.int .u32 (E1 : Int), .int .i64 11] (wr.drewN j) fun e w' => e = .returned (.int .u32 (rotr E1 11 : Nat)) ∧ ∃ m, w' = wr.drewN m := fun j => pright_q wr j E1 11 lE (by omega) (by omega)
      have r3 : ∀ j, Calls Tryd.prog 59 #[.int .u32 (E1 : Int), .int .i64 25] (wr.drewN j) fun e w' => e = .returned (.int .u32 (rotr E1 25 : Nat)) ∧ ∃ m, w' = wr.drewN m := fun j => pright_q wr j E1 25 lE (by omega) (by omega)
      have r4 : ∀ W, Calls Tryd.prog 59 #[.int .u32 (A1 : Int), .int .i64 2] W fun e w' => e = .returned (.int .u32 (rotr A1 2 : Nat)) ∧ ∃ m, w' = W.drewN m := fun W => pright_any W A1 2 lA (by omega) (by omega)
      have r5 : ∀ W, Calls Tryd.prog 59 #[.int .u32 (A1 : Int), .int .i64 13] W fun e w' => e = .returned (.int .u32 (rotr A1 13 : Nat)) ∧ ∃ m, w' = W.drewN m := fun W => pright_any W A1 13 lA (by omega) (by omega)
      have r6 : ∀ W, Calls Tryd.prog 59 #[.int .u32 (A1 : Int), .int .i64 22] W fun e w' => e = .returned (.int .u32 (rotr A1 22 : Nat)) ∧ ∃ m, w' = W.drewN m := fun W => pright_any W A1 22 lA (by omega) (by omega)
      have RR := Lib.hid (And.intro r1 (And.intro r2 (And.intro r3 (And.intro r4 (And.intro r5 r6)))))
      have XB := Lib.hid (maj_facts lA lB lC)
      clear r1 r2 r3 r4 r5 r6 hstep hst gw gkk hwt hkt hv lA lB lC lD lE lF lG lH lw lk
      go_wp2
      go_quiet (first | with_reducible exact RR.out.1 _ | with_reducible exact RR.out.2.1 _ | with_reducible exact RR.out.2.2.1 _)
      rw [cast_one]
      obtain ⟨p, hp⟩ : ∃ p, p = (I1 + big1 E1 + cho E1 F1 G1 + kt + wt) % 4294967296 := ⟨_, rfl⟩
      rw [← hp]
      have HP := Lib.hid hp
      clear hp x1 x2 x3 x4 x5 x6 xn hix ck
      have h5 : Raw (wr.drewN nq) sb A B n ∧ Tab (wr.drewN nq) ∧ Below w.heap.size w (wr.drewN nq) := ⟨HST.out.2.1.drewN _, HST.out.2.2.1, below_drewN HST.out.2.2.2 nq⟩
      generalize wr.drewN nq = w5 at *
      obtain ⟨y1, y2, y3, y4, y5, y6, y7⟩ := XB.out
      have H5 := Lib.hid h5
      clear h5
      go_wp2_with fail
      refine (RR.out.2.2.2.1 w5).mono ?_
      rintro e6 w6 ⟨rfl, m6, rfl⟩
      go_wp2_with fail
      refine (RR.out.2.2.2.2.1 _).mono ?_
      rintro e7 w7 ⟨rfl, m7, rfl⟩
      go_wp2_with fail
      refine (RR.out.2.2.2.2.2 _).mono ?_
      rintro e8 w8 ⟨rfl, m8, rfl⟩
      go_wp2
      go_roundw
      case rel =>
        refine ⟨t + 1, _, _, _, _, _, _, _, _, by omega, by go_num, HST.out.1, ?_, rfl, rfl, rfl, ?_, rfl, rfl, rfl, H5.out.1.drewN _, H5.out.2.1, below_drewN H5.out.2.2 _⟩
        · rw [HP.out, mod_two]
        · rw [HP.out, mod_one]
      case measure => simp [intOf]; omega
    · obtain rfl : t = 64 := by omega
      rw [show ((64 : Nat) : Int) = 64 from rfl]
      have h8v : Eight (rounds WW hs 64) := eight_rounds H8.out.1 64
      obtain ⟨vs, hvs⟩ : ∃ vs, vs = rounds WW hs 64 := ⟨_, rfl⟩
      rw [← hvs] at hv h8v
      have HVS := Lib.hid (And.intro hvs (And.intro hv h8v))
      have H5 := Lib.hid hst
      clear hst hv hvs h8v lA lB lC lD lE lF lG lH
      obtain ⟨V, hV⟩ : ∃ V, V = #[Value.int .u32 (A1 : Int), .int .u32 (B1 : Int), .int .u32 (C1 : Int), .int .u32 (D1 : Int), .int .u32 (E1 : Int), .int .u32 (F1 : Int), .int .u32 (G1 : Int), .int .u32 (I1 : Int)] := ⟨_, rfl⟩
      have HVV := Lib.hid hV
      go_wp2
      rw [← hV]
      clear hV
      have hVw : V = (vs.map word).toArray := by rw [HVV.out, HVS.out.2.1]; rfl
      have HVW := Lib.hid hVw
      clear hVw
      go_loopw [111] (fun i wr => ∃ k : Nat, k ≤ 8 ∧ i = .int .i64 k ∧ Raw wr sb (mix A vs k) B n ∧ Turn [sb] w wr) (fun i _ => 8 - (intOf i).toNat)
      case atStart =>
        refine ⟨0, by omega, rfl, by rw [mix_zero HR.out.a]; exact H5.out.1, ?_⟩
        have hb := H5.out.2.2
        exact ⟨hb.os, hb.tape, hb.output, hb.size, fun j hj _ => hb.block j hj⟩
      case round =>
        obtain ⟨k, hk, rfl, hrw, htn⟩ := hrel
        by_cases hk8 : k < 8
        · obtain ⟨x, y, gx, gy, hset⟩ := mix_step HR.out.a HVS.out.2.2 hk8
          have cx := hrw.cell (stCells_a (B := B) (n := n) hrw.a.len gx)
          have fx := hrw.free k
          have hix := idx8 vs k y hk8 gy
          rw [← HVW.out] at hix
          have hs2 := hrw.setA hk8 (x := (x + y) % 4294967296) (by rw [hset]; exact eight_mix HR.out.a HVS.out.2.2 (by omega))
          have ht2 : Turn [sb] w (wr.setCell ⟨sb, k, none⟩ (word ((x + y) % 4294967296))) := htn.setCell (by simp) _
          rw [hset] at hs2
          rw [show word ((x + y) % 4294967296) = Value.int .u32 (((x : Int) + (y : Int)) % 4294967296) by unfold word; rw [cast_two]] at hs2 ht2
          unfold word at cx
          have gk : (k : Int) < 8 := by omega
          have gk0 : (0 : Int) ≤ k := by omega
          have HS2 := Lib.hid (And.intro hs2 ht2)
          clear hrw htn gx gy hset hs2 ht2
          go_wp2
          go_still_tail 11, (by kernel_rfl)
          change wpList _ _ _ _ _ wr.drew
          go_wp2
          go_roundw
          case rel => exact ⟨k + 1, by omega, by go_num, HS2.out.1.drewN 1, HS2.out.2.drew⟩
          case measure => simp [intOf]; omega
        · obtain rfl : k = 8 := by omega
          rw [mix_all HR.out.a HVS.out.2.2] at hrw
          have HE := Lib.hid (And.intro hrw htn)
          clear hrw htn
          go_wp2
          go_end0
          exact ⟨rfl, by rw [← HVS.out.1]; exact HE.out.1, HE.out.2⟩
end Go.Proofs.YtcmaclaiholpfaaDoor
