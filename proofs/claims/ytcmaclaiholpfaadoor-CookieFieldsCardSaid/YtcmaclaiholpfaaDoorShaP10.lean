/-
  The program's sha: Sum of a state, Sum of bytes, the contracts.
-/
import Derived.Test.YtcmaclaiholpfaaDoorShaP9
namespace Go.Proofs.YtcmaclaiholpfaaDoor
open Go.RowKit
set_option linter.unusedVariables false

theorem Row8.cap {base : Nat} {w : World} {a : Option Addr} {n c : Nat} {zs : List Int} (h : Row8 base w a n c zs) : n ≤ c ∧ c ≤ maxLen := by
  refine ⟨h.le, ?_⟩
  rcases h.2 with ⟨_, _, hv⟩ | ⟨g, sp, hv, hb, hg, _, hc, hm⟩
  · rw [hv]; unfold maxLen; omega
  · exact hm
theorem Row8.farOf {base : Nat} {w : World} {a : Option Addr} {n c : Nat} {zs : List Int} (h : Row8 base w a n c zs) (hn : 0 < n) : ∀ q, a = some q → base ≤ q.block := fun q hq => (h.far q hq).1
theorem arr_turn {w w' : World} {g : Nat} {T : TypeId} {cs : List Value} (h : Arr w g T cs) {bs : List Nat} (ht : Turn bs w w') (hn : g ∉ bs) : Arr w' g T cs := (ht.block g (Array.getElem?_eq_some_iff.1 h).1 hn).trans h
theorem stv_digest {w : World} {sb : Nat} {zs : List Int} (h : StV w sb (padded zs)) : ∃ A B, Raw w sb A B (padded zs).length ∧ digest (addL H0s A) = sha zs := by
  obtain ⟨A, B, h1, h2, _⟩ := h
  exact ⟨A, B, h1, by unfold sha; rw [h2]⟩

set_option maxRecDepth 100000 in
set_option maxHeartbeats 1600000 in
theorem psum_any (w : World) (sb : Nat) (zs : List Int) (hst : StV w sb zs) (hz : Byt zs) (hl : zs.length ≤ 1099511627776) (ht : Tab w) :
    Calls Tryd.prog 44 #[.pointer (some ⟨sb, 0, none⟩)] w fun e w' => e = .returned (dv (sha zs)) ∧ Below w.heap.size w w' := by
  obtain ⟨A, B, hraw, hinv⟩ := hst
  obtain ⟨n, hn⟩ : ∃ n, n = zs.length := ⟨_, rfl⟩
  rw [← hn] at hraw hl
  have hlt := hraw.lt
  obtain ⟨Y, hY⟩ : ∃ Y, Y = stCells A B n := ⟨_, rfl⟩
  have hyl : Y.length = 73 := by rw [hY]; exact stCells_len hraw.a.len hraw.b
  have infoY : (Tryd.prog.info? 77).map (·.size) = some Y.length := by rw [hyl]; exact infoS
  have hzr := zero_run
  have hone : Y.toArray.all (·.oneCell') = true := by rw [hY]; exact stCells_one _ _ _
  obtain ⟨Z, hZ⟩ : ∃ Z, Z = Z0.toArray := ⟨_, rfl⟩
  have hzl : Z.size = 73 := by rw [hZ]; simp [z0_len]
  rw [← hZ] at hzr
  -- the worlds ahead of the calls
  obtain ⟨O, hO⟩ : ∃ O, O = (List.replicate 32 (Value.int .u8 0)).toArray := ⟨_, rfl⟩
  obtain ⟨w1, hw1⟩ : ∃ w1, w1 = (w.alloc (.cells O 46)).alloc (.cells Y.toArray 77) := ⟨_, rfl⟩
  have hb1 : Below w.heap.size w w1 := by rw [hw1]; exact ((Below.refl _ _).alloc (Nat.le_refl _) _).alloc (by simp) _
  have ho1 : Arr w1 w.heap.size 46 (List.replicate 32 (.int .u8 0)) := by
    rw [hw1, hO]
    exact (arr_new w 46 (List.replicate 32 (Value.int .u8 0))).below ((Below.refl (w.heap.size + 1) _).alloc (by simp) _) (by omega)
  have hs1 : Raw w1 (w.heap.size + 1) A B n := by
    refine ⟨?_, hraw.a, hraw.b, hraw.byt⟩
    rw [hw1, ← hY]
    have := heap_alloc_new (w.alloc (.cells O 46)) (.cells Y.toArray 77)
    simpa using this
  have hsz1 : w1.heap.size = w.heap.size + 2 := by rw [hw1]; simp
  have cw := hraw.count
  have ht1 := ht.below hb1 ht.lt
  have HR := Lib.hid (hraw.below ((Below.refl _ _).alloc (Nat.le_refl _) (.cells O 46))).range
  rw [← hY] at HR
  have H1 := Lib.hid (And.intro hb1 (And.intro ho1 (And.intro hs1 (And.intro hsz1 (And.intro ht1 ht)))))
  have HN := Lib.hid (And.intro hn (And.intro hinv hz))
  have HY := Lib.hid (And.intro hyl (And.intro infoY (And.intro hone hzl)))
  have HO := Lib.hid hO
  have HW1 := Lib.hid hw1
  clear hraw hinv hn hY hyl infoY hone hZ hzl hO hb1 ho1 hs1 hsz1 ht1 ht hz hw1
  go_enter Tryd.func44, Tryd.ntmps44
  go_wp2_with (first
    | refine wpList_load_mid rfl 77 (.tmp 8) rfl sb 0 rfl Y _ (by have := HR.out; rw [HO.out] at this; exact this) Tryd.underlying77 rfl HY.out.2.1 ?_
    | refine wpList_store_fresh rfl 77 (.tmp 3) (.tmp 9) rfl _ _ (by simp) _ Y.toArray rfl rfl (by simpa using HY.out.2.1) (by simp [HY.out.1, HY.out.2.2.2]) HY.out.2.2.1 ?_)
  have hpad := ppad_any w1 n hl
  rw [HW1.out, HO.out] at hpad
  refine hpad.mono ?_
  rintro e w2 ⟨a', c', rfl, hrow, hb2⟩
  rw [← HO.out, ← HW1.out] at hrow hb2
  have hs2 := H1.out.2.2.1.below hb2
  have hb2w : Below w.heap.size w w2 := H1.out.1.trans (hb2.mono H1.out.1.size)
  have ho2 := H1.out.2.1.below hb2 (by rw [H1.out.2.2.2.1]; omega)
  have ht2 := H1.out.2.2.2.2.1.below hb2 H1.out.2.2.2.2.1.lt
  have hn1 := HN.out.1
  have hwr := pwrite_any w2 (w.heap.size + 1) zs a' (padOf n).length c' (padOf n) ⟨A, B, by rw [← hn1]; exact hs2, HN.out.2.1⟩ (byt_padOf n) hrow.reads hrow.cap.1 (by rw [padOf_len, ← hn1]; have := noughts_lt n; omega) ht2
    (fun g hg h => by have := H1.out.2.2.2.2.2.lt g hg; simp at h; omega) (fun h0 q hq h => by have := hrow.farOf h0 q hq; rw [H1.out.2.2.2.1] at this; simp at h; omega)
  rw [hn1, ← padded_padOf, ← hn1] at hwr
  have H2 := Lib.hid (And.intro ho2 (And.intro hb2w ht2))
  have HWR := Lib.hid hwr
  clear hpad hrow hb2 hs2 hb2w ho2 ht2 hwr hn1 cw
  go_wp2_with fail
  refine HWR.out.mono ?_
  rintro e w3 ⟨rfl, hs3, ht3⟩
  obtain ⟨A3, B3, hr3, hd3⟩ := stv_digest hs3
  have hb3 : Below w.heap.size w w3 := H2.out.2.1.trans (ht3.below H2.out.2.1.size (by simp))
  have ho3 := arr_turn H2.out.1 ht3 (by simp)
  have htb3 := tab_turn H2.out.2.2 ht3 (fun g hg h => by have := H1.out.2.2.2.2.2.lt g hg; simp at h; omega)
  have hdg := pdigest_any w3 (w.heap.size + 1) A3 B3 _ hr3 htb3
  rw [hd3] at hdg
  have H3 := Lib.hid (And.intro hb3 ho3)
  have HDG := Lib.hid hdg
  clear hs3 ht3 hr3 hd3 hb3 ho3 htb3 hdg HWR H2
  go_wp2_with fail
  refine HDG.out.mono ?_
  rintro e w4 ⟨rfl, hb4⟩
  obtain ⟨D, hD⟩ : ∃ D, D = (sha zs).map (Value.int .u8) := ⟨_, rfl⟩
  have hdl : D.length = 32 := by rw [hD, List.length_map, sha_len]
  have infoD : (Tryd.prog.info? 46).map (·.size) = some D.length := by rw [hdl]; exact info32
  have honed : D.toArray.all (·.oneCell') = true := by rw [hD]; exact dv_one _
  have ho4 := H3.out.2.below hb4 (by have := H3.out.1.size; have := H1.out.1.size; exact (Array.getElem?_eq_some_iff.1 H3.out.2).1)
  have hb4w : Below w.heap.size w w4 := H3.out.1.trans (hb4.mono H3.out.1.size)
  rw [← hD]
  have hth := there_of_arr (n := D.toArray.size) ho4 (by simp [hdl])
  have hend := World.rangeAt_setCells_same w4 w.heap.size 0 D (by simpa using hth)
  have hbl := below_setCells w.heap.size w.heap.size (Nat.le_refl _) D 0 w w4 hb4w
  have H4 := Lib.hid (And.intro hth (And.intro hend (And.intro hbl (And.intro infoD (And.intro honed hD)))))
  clear hb4 ho4 hb4w hth hend hbl hdl infoD honed hD HDG H3
  go_wp2_with (refine wpList_store_mid rfl 46 (.tmp 2) (.tmp 16) rfl w.heap.size 0 D.toArray rfl rfl H4.out.1 (by simpa using H4.out.2.2.2.1) H4.out.2.2.2.2.1 ?_)
  refine bodyPost_ret (v := .agg D.toArray) ?_ rfl ⟨by rw [H4.out.2.2.2.2.2], H4.out.2.2.1⟩
  rw [results_one rfl]
  show Result.andThen ((asAddr (.pointer (some ⟨w.heap.size, 0, none⟩))).run Tryd.prog _) _ = _
  simp only [asAddr, Sem.run_pure, Result.andThen_ok]
  exact run_loadVar_mid _ w.heap.size 0 46 D (.array 32 5) H4.out.2.1 (by kernel_rfl) rfl H4.out.2.2.2.1
end Go.Proofs.YtcmaclaiholpfaaDoor
