/-
  The program's mac: the block of a key.
-/
import Derived.Test.YtcmaclaiholpfaaDoorMacP1
import Derived.Test.YtcmaclaiholpfaaDoorShaP11
namespace Go.Proofs.YtcmaclaiholpfaaDoor
open Go.RowKit
set_option linter.unusedVariables false

theorem splice_block (k : List Int) : splice (List.replicate 64 (Value.int .u8 0)) 0 ((short k).map (Value.int .u8)) = (blockK k).map (Value.int .u8) := by
  unfold splice blockK
  rw [List.take_zero, List.nil_append, Nat.zero_add, List.length_map, List.drop_replicate, List.map_append, List.map_replicate]

set_option maxRecDepth 100000 in
set_option maxHeartbeats 1600000 in
theorem mblock_any (a : Option Addr) (len cap : Nat) (zs : List Int) (w : World) (hr : Reads w a len zs) (hz : Byt zs) (hl : len ≤ 1099511627776) (hc : len ≤ cap) (ht : Tab w) :
    Calls Tryd.prog 40 #[.slice a len cap] w fun e w' => e = .returned (dv (blockK zs)) ∧ Below w.heap.size w w' := by
  obtain ⟨O, hO⟩ : ∃ O, O = List.replicate 64 (Value.int .u8 0) := ⟨_, rfl⟩
  have hol : O.length = 64 := by rw [hO]; simp
  obtain ⟨X, hX⟩ : ∃ X, X = (blockK zs).map (Value.int .u8) := ⟨_, rfl⟩
  have hxl : X.length = 64 := by rw [hX, List.length_map, blockK_len]
  have infoX : (Tryd.prog.info? 58).map (·.size) = some X.length := by rw [hxl]; exact infoB64
  have honeX : X.toArray.all (·.oneCell') = true := by rw [hX]; exact dv_one _
  obtain ⟨C, hC⟩ : ∃ C, C = (short zs).map (Value.int .u8) := ⟨_, rfl⟩
  have hcl : C.length ≤ 64 := by rw [hC, List.length_map]; exact short_len _
  have hcx : splice O 0 C = X := by rw [hO, hC, hX]; exact splice_block zs
  obtain ⟨w0, hw0⟩ : ∃ w0, w0 = w.alloc (.cells O.toArray 58) := ⟨_, rfl⟩
  have hb0 : Below w.heap.size w w0 := by rw [hw0]; exact (Below.refl _ _).alloc (Nat.le_refl _) _
  have hr0 : Arr w0 w.heap.size 58 O := by rw [hw0]; exact arr_new w 58 O
  have hsz0 : w0.heap.size = w.heap.size + 1 := by rw [hw0]; simp
  obtain ⟨w1, hw1⟩ : ∃ w1, w1 = w0.alloc (.cells O.toArray 58) := ⟨_, rfl⟩
  have hb1 : Below w.heap.size w w1 := by rw [hw1]; exact hb0.alloc (by omega) _
  have hr1 : Arr w1 w.heap.size 58 O := by rw [hw1]; exact hr0.below ((Below.refl w0.heap.size _).alloc (Nat.le_refl _) _) (by omega)
  have ha1 : Arr w1 (w.heap.size + 1) 58 O := by rw [hw1, ← hsz0]; exact arr_new w0 58 O
  have hsz1 : w1.heap.size = w.heap.size + 2 := by rw [hw1]; simp [hsz0]
  have hrd1 : Reads w1 a len zs := hr.below hb1
  have ht1 : Tab w1 := ht.below hb1 ht.lt
  have H1 := Lib.hid (And.intro hb1 (And.intro hr1 (And.intro ha1 (And.intro hsz1 (And.intro hrd1 ht1)))))
  have HW := Lib.hid (And.intro hw1 (And.intro hw0 hO))
  have HX := Lib.hid (And.intro hX (And.intro hxl (And.intro hol (And.intro hC (And.intro hcl hcx)))))
  have HZ := Lib.hid (And.intro hz hr.1)
  clear hb0 hr0 hsz0 hb1 hr1 ha1 hsz1 hrd1 ht1 hw0 hw1 hO hX hxl hol hC hcl hcx hr hz ht
  by_cases hlong : 64 < len
  · have hg : (64 : Int) < len := by omega
    go_enter Tryd.func40, Tryd.ntmps40
    go_wp2_with fail
    have hs := sum_ok a len cap zs w1 H1.out.2.2.2.2.1 HZ.out.1 hl hc H1.out.2.2.2.2.2
    rw [HW.out.1, HW.out.2.1, HW.out.2.2] at hs
    refine hs.mono ?_
    rintro e w2 ⟨rfl, hb2⟩
    have e1 := HW.out.1
    rw [HW.out.2.1, HW.out.2.2] at e1
    rw [← e1] at hb2
    obtain ⟨D, hD⟩ : ∃ D, D = (sha zs).map (Value.int .u8) := ⟨_, rfl⟩
    have hdl : D.length = 32 := by rw [hD, List.length_map, sha_len]
    have infoD : (Tryd.prog.info? 46).map (·.size) = some D.length := by rw [hdl]; exact info32
    have honed : D.toArray.all (·.oneCell') = true := by rw [hD]; exact dv_one _
    have hcd : C = D := by rw [HX.out.2.2.2.1, hD]; unfold short; rw [if_pos (by rw [HZ.out.2]; exact hlong)]
    rw [show dv (sha zs) = .agg D.toArray by rw [hD]]
    obtain ⟨w3, hw3⟩ : ∃ w3, w3 = w2.alloc (.cells D.toArray 46) := ⟨_, rfl⟩
    have hsz2 := hb2.size
    rw [H1.out.2.2.2.1] at hsz2
    have hb3 : Below w1.heap.size w1 w3 := by rw [hw3]; exact hb2.alloc hb2.size _
    have hd3 : Arr w3 w2.heap.size 46 D := by rw [hw3]; exact arr_new w2 46 D
    have H3 := Lib.hid (And.intro hd3 (And.intro (H1.out.2.2.1.below hb3 (by rw [H1.out.2.2.2.1]; omega)) (And.intro (H1.out.2.1.below hb3 (by rw [H1.out.2.2.2.1]; omega)) (And.intro (H1.out.1.trans (hb3.mono H1.out.1.size)) hdl))))
    have HW3 := Lib.hid hw3
    have HD := Lib.hid (And.intro hcd infoD)
    clear hD hcd hdl hb2 hw3 hb3 hd3 hs e1
    go_wp2_with (first
      | refine wpList_store_fresh rfl 46 (.tmp 4) (.tmp 9) rfl w2 _ rfl _ D.toArray rfl rfl (by simpa using HD.out.2) (by simp [H3.out.2.2.2.2]) honed ?_
      | (refine wpList_copy_splice rfl (.tmp 11) (.tmp 12) 22 22 rfl 5 Tryd.underlying22 elemB (some ⟨w.heap.size + 1, 0, none⟩) (some ⟨w2.heap.size, 0, none⟩) 64 64 32 32 rfl rfl (w.heap.size + 1) 0 O 58 (by rw [← HW3.out]; exact H3.out.2.1) C (by rw [HD.out.1]; exact H3.out.2.2.2.2) (fun _ => ⟨rfl, _, rfl, fun j v hv => by rw [HD.out.1] at hv; have := H3.out.1.cell hv; rw [HW3.out] at this; rw [Addr.add_mid, Nat.zero_add]; exact this⟩) (by rw [HX.out.2.2.1]; have := HX.out.2.2.2.2.1; omega) (by rw [HX.out.2.2.2.1]; exact oneByte _) (w.heap.size + 1) w3 (by rw [HW3.out]; exact Below.refl _ _) (Nat.le_refl _) ?_
         intro w5 h5 hb5
         have h5' : Arr w5 (w.heap.size + 1) 58 X := by have := h5.out; rw [HX.out.2.2.2.2.2] at this; exact this
         have HC5 := Lib.hid (And.intro h5' (And.intro (H3.out.2.2.1.below hb5 (by omega)) (H3.out.2.2.2.1.trans (hb5.mono (by omega)))))
         clear h5 hb5 h5')
      | refine wpList_load_mid rfl 58 (.tmp 3) rfl (w.heap.size + 1) 0 rfl X (.array 64 5) HC5.out.1.range (by kernel_rfl) rfl infoX ?_
      | (refine wpList_store_mid rfl 58 (.tmp 2) (.tmp 14) rfl w.heap.size 0 X.toArray rfl rfl (there_of_arr HC5.out.2.1 (by simp [HX.out.2.1, HX.out.2.2.1])) (by simpa using infoX) honeX ?_
         have hend := World.rangeAt_setCells_same w5 w.heap.size 0 X (there_of_arr HC5.out.2.1 (by simp [HX.out.2.1, HX.out.2.2.1]))
         have hbl := below_setCells w.heap.size w.heap.size (Nat.le_refl _) X 0 w w5 HC5.out.2.2
         have HE := Lib.hid (And.intro hend hbl)
         clear hend hbl
         rw [show X.toArray.toList = X from rfl]
         generalize w5.setCells w.heap.size 0 X = wend at *))
    refine bodyPost_ret (v := .agg X.toArray) ?_ rfl ⟨by rw [HX.out.1], HE.out.2⟩
    rw [results_one rfl]
    show Result.andThen ((asAddr (.pointer (some ⟨w.heap.size, 0, none⟩))).run Tryd.prog _) _ = _
    simp only [asAddr, Sem.run_pure, Result.andThen_ok]
    exact run_loadVar_mid _ w.heap.size 0 58 X (.array 64 5) HE.out.1 (by kernel_rfl) rfl infoX
  · have hg : ¬ (64 : Int) < len := by omega
    have hcs : C.length = Nat.min len 64 := by
      rw [HX.out.2.2.2.1, List.length_map]
      unfold short
      rw [if_neg (by rw [HZ.out.2]; exact hlong), HZ.out.2]
      simp only [Nat.min_def]
      rw [if_pos (by omega)]
    have hsrc : 0 < C.length → (some ⟨w.heap.size + 1, 0, none⟩ : Option Addr) = some ⟨w.heap.size + 1, 0, none⟩ ∧ ∃ ad, a = some ad ∧ ∀ j v, C[j]? = some v → w1.cell? (ad.add j) = some v := by
      intro hpos
      have hrd := H1.out.2.2.2.2.1
      have hl0 : 0 < len := by rw [hcs] at hpos; simp only [Nat.min_def] at hpos; split at hpos <;> omega
      obtain ⟨b, off, rfl⟩ := hrd.some_of hl0
      refine ⟨rfl, _, rfl, fun j v hv => hrd.copied j v ?_⟩
      rw [HX.out.2.2.2.1] at hv
      unfold short at hv
      rwa [if_neg (by rw [HZ.out.2]; exact hlong)] at hv
    have HS := Lib.hid (And.intro hcs hsrc)
    clear hcs hsrc
    go_enter Tryd.func40, Tryd.ntmps40
    go_wp2_with (first
      | (refine wpList_copy_splice rfl (.tmp 11) (.tmp 12) 22 22 rfl 5 Tryd.underlying22 elemB (some ⟨w.heap.size + 1, 0, none⟩) a 64 64 len cap rfl rfl (w.heap.size + 1) 0 O 58 (by have h := H1.out.2.2.1; rw [HW.out.1, HW.out.2.1, HW.out.2.2] at h; rw [HW.out.2.2]; exact h) C HS.out.1 (by have h := HS.out.2; rw [HW.out.1, HW.out.2.1, HW.out.2.2] at h; exact h) (by rw [HX.out.2.2.1]; have := HX.out.2.2.2.2.1; omega) (by rw [HX.out.2.2.2.1]; exact oneByte _) (w.heap.size + 1) w1 (by rw [HW.out.1, HW.out.2.1, HW.out.2.2]; exact Below.refl _ _) (Nat.le_refl _) ?_
         intro w5 h5 hb5
         have h5' : Arr w5 (w.heap.size + 1) 58 X := by have := h5.out; rw [HX.out.2.2.2.2.2] at this; exact this
         have HC5 := Lib.hid (And.intro h5' (And.intro (H1.out.2.1.below hb5 (by omega)) (H1.out.1.trans (hb5.mono (by omega)))))
         clear h5 hb5 h5')
      | refine wpList_load_mid rfl 58 (.tmp 3) rfl (w.heap.size + 1) 0 rfl X (.array 64 5) HC5.out.1.range (by kernel_rfl) rfl infoX ?_
      | (refine wpList_store_mid rfl 58 (.tmp 2) (.tmp 14) rfl w.heap.size 0 X.toArray rfl rfl (there_of_arr HC5.out.2.1 (by simp [HX.out.2.1, HX.out.2.2.1])) (by simpa using infoX) honeX ?_
         have hend := World.rangeAt_setCells_same w5 w.heap.size 0 X (there_of_arr HC5.out.2.1 (by simp [HX.out.2.1, HX.out.2.2.1]))
         have hbl := below_setCells w.heap.size w.heap.size (Nat.le_refl _) X 0 w w5 HC5.out.2.2
         have HE := Lib.hid (And.intro hend hbl)
         clear hend hbl
         rw [show X.toArray.toList = X from rfl]
         generalize w5.setCells w.heap.size 0 X = wend at *))
    refine bodyPost_ret (v := .agg X.toArray) ?_ rfl ⟨by rw [HX.out.1], HE.out.2⟩
    rw [results_one rfl]
    show Result.andThen ((asAddr (.pointer (some ⟨w.heap.size, 0, none⟩))).run Tryd.prog _) _ = _
    simp only [asAddr, Sem.run_pure, Result.andThen_ok]
    exact run_loadVar_mid _ w.heap.size 0 58 X (.array 64 5) HE.out.1 (by kernel_rfl) rfl infoX
end Go.Proofs.YtcmaclaiholpfaaDoor
