/-
  The walk of MacWhole.
-/
import Derived.Test.YtlgcplopibblbaaDoorLMacSums
import Derived.Test.YtlgcplopibblbaaDoorTwo8
namespace Go.Proofs.YtlgcplopibblbaaDoor
open Go.RowKit
set_option linter.unusedVariables false

theorem take_turned (m : Int) (B : List Int) {i : Nat} {x : Int} (h : B[i]? = some x) : (turned m B).take i ++ [bits .xor .u8 x m] = (turned m B).take (i + 1) := by
  have hi := (List.getElem?_eq_some_iff.1 (turned_at m h)).1
  rw [List.take_succ_eq_append_getElem hi]
  have := turned_at m h
  simp [hi] at this
  rw [this]
theorem eql_hmac2 (W : World) (k t : List Int) : (binOp .eql 25 (dv (hmac k t)) (dv (sha (turned 92 (blockK k) ++ sha (turned 54 (blockK k) ++ t))))).run Tryd.prog W = .ok (.bool true) W := eql_hmac W k t

set_option maxRecDepth 100000 in
set_option maxHeartbeats 6400000 in
theorem macWhole_walk (a : Option Addr) (len cap : Nat) (z : List Int) (b : Option Addr) (len2 cap2 : Nat) (z2 : List Int) (w : World) (w0 : IsRow .u8 w a len cap z) (w1 : IsRow .u8 w b len2 cap2 z2) (ht : Tab w) :
    Calls Tryd.prog 4 #[.slice a len cap, .slice b len2 cap2] w fun e w' => e = .returned (.bool true) ∧ Below w.heap.size w w' := by
  obtain ⟨hr, hbyt, hcap, hmax⟩ := w0.reads
  obtain ⟨hr2, hbyt2, hcap2, hmax2⟩ := w1.reads
  clear w0 w1
  generalize z.take len = zs at hr hbyt
  generalize z2.take len2 = ys at hr2 hbyt2
  have HT := Lib.hid ht
  have HR := Lib.hid (And.intro hr (And.intro hbyt (And.intro hcap hmax)))
  have HR2 := Lib.hid (And.intro hr2 (And.intro hbyt2 (And.intro hcap2 hmax2)))
  clear hr hbyt hr2 hbyt2 ht hcap hcap2
  unfold maxLen at hmax hmax2
  by_cases hlong : 4096 < len
  · have hg : (4096 : Int) < len := by omega
    go_enter Tryd.func4, Tryd.ntmps4
    go_wp2_with (go_at_call 8; refine (works_any _ HT.out).mono ?_; rintro e w' ⟨rfl, hb⟩)
    go_ret
    exact ⟨rfl, hb⟩
  by_cases hlong2 : 4096 < len2
  · have hg : ¬ (4096 : Int) < len := by omega
    have hg2 : (4096 : Int) < len2 := by omega
    go_enter Tryd.func4, Tryd.ntmps4
    go_wp2_with (go_at_call 8; refine (works_any _ HT.out).mono ?_; rintro e w' ⟨rfl, hb⟩)
    go_ret
    exact ⟨rfl, hb⟩
  have hg : ¬ (4096 : Int) < len := by omega
  have hg2 : ¬ (4096 : Int) < len2 := by omega
  obtain ⟨B, hB⟩ : ∃ B, B = blockK zs := ⟨_, rfl⟩
  have hbl : B.length = 64 := by rw [hB]; exact blockK_len _
  have hbb : Byt B := by rw [hB]; exact byt_blockK HR.out.2.1
  have HB := Lib.hid (And.intro hB (And.intro hbl hbb))
  clear hB hbl hbb
  have hcp := copyBytes_any a len cap zs w HR.out.1 (by omega)
  by_cases h64 : 64 < len
  · have g64 : (64 : Int) < len := by omega
    have hsh : short zs = sha zs := by unfold short; rw [if_pos (by rw [HR.out.1.1]; exact h64)]
    have hn : (short zs).length = 32 := by rw [hsh]; exact sha_len _
    have HN := Lib.hid (And.intro hsh hn)
    clear hsh hn
    go_enter Tryd.func4, Tryd.ntmps4
    go_wp2_with fail
    refine hcp.mono ?_
    rintro e w1 ⟨a1, rfl, hb1, hr1⟩
    have hs := sum_ok a len cap zs w1 (HR.out.1.below hb1) HR.out.2.1 (by omega) HR.out.2.2.1 (HT.out.below hb1 HT.out.lt)
    obtain ⟨D, hD⟩ : ∃ D, D = (sha zs).map (Value.int .u8) := ⟨_, rfl⟩
    have hdl : D.length = 32 := by rw [hD, List.length_map, sha_len]
    have infoD : (Tryd.prog.info? 25).map (·.size) = some D.length := by rw [hdl]; exact infoA
    have honed : D.toArray.all (·.oneCell') = true := by rw [hD]; exact dv_one _
    rw [show dv (sha zs) = .agg D.toArray by rw [hD]] at hs
    have H1 := Lib.hid (And.intro hb1 (And.intro hD hdl))
    have HS := Lib.hid hs
    clear hcp hr1 hb1 hD hdl hs
    go_wp2_with fail
    refine HS.out.mono ?_
    rintro e w2 ⟨rfl, hb2⟩
    obtain ⟨wS, hwS⟩ : ∃ wS, w2.alloc (.cells D.toArray 25) = wS := ⟨_, rfl⟩
    have hbS : Below w.heap.size w wS := by rw [← hwS]; exact (H1.out.1.trans (hb2.mono H1.out.1.size)).alloc (Nat.le_trans H1.out.1.size hb2.size) _
    have hdS : Arr wS w2.heap.size 25 ((short zs).map (Value.int .u8)) := by rw [HN.out.1, ← H1.out.2.1, ← hwS]; exact arr_new w2 25 D
    have HS0 := Lib.hid (And.intro (hdS.reads' HN.out.2) hbS)
    have HWS := Lib.hid (And.intro hwS H1.out.2.2)
    clear hb2 hwS hbS hdS HS H1
    go_wp2_with (refine wpList_store_fresh rfl 25 (.tmp 6) (.tmp 27) rfl w2 _ rfl _ D.toArray rfl rfl (by simpa using infoD) (by simp [HWS.out.2]) honed ?_; rw [HWS.out.1])
    go_loopw [7, 8, 9] (fun u v i wr => ∃ (k : Nat) (a7 : Option Addr) (c7 : Nat) (a8 : Option Addr) (c8 : Nat), k ≤ 64 ∧ u = .slice a7 k c7 ∧ v = .slice a8 k c8 ∧ i = .int .i64 k ∧ Two wS a7 k c7 ((turned 54 B).take k) a8 k c8 ((turned 92 B).take k) wr) (fun _ _ i _ => 64 - (intOf i).toNat)
    case atStart => exact ⟨0, none, 0, none, 0, by omega, rfl, rfl, rfl, Two.nil wS wS (Below.refl _ _)⟩
    case round =>
      obtain ⟨k, a7, c7, a8, c8, hk, rfl, rfl, rfl, htwo⟩ := hrel
      by_cases hk64 : k < 64
      · have gk : (k : Int) < 64 := by omega
        have hat := blockK_at zs hk64
        rw [← HB.out.1, HN.out.2] at hat
        have hbw := htwo.below
        by_cases hkn : k < 32
        · have gn : (k : Int) < (32 : Int) := by omega
          rw [if_pos hkn] at hat
          obtain ⟨kb, ko, hka, hkc⟩ : ∃ kb ko, (some ⟨w2.heap.size, 0, none⟩ : Option Addr) = some ⟨kb, ko, none⟩ ∧ wr.cell? ⟨kb, ko + k, none⟩ = some (.int .u8 ((short zs)[k]?.getD 0)) := by
            rcases HS0.out.1.2 with h | ⟨kb, ko, h1, h2, h3⟩
            · omega
            · exact ⟨kb, ko, h1, (hbw.cell (p := ⟨kb, ko + k, none⟩) h2).trans (h3 k hkn)⟩
          obtain ⟨rfl, rfl⟩ : kb = w2.heap.size ∧ ko = 0 := by cases hka; exact ⟨rfl, rfl⟩
          rw [Nat.zero_add] at hkc
          generalize (short zs)[k]?.getD 0 = x at hat hkc
          have h54 := take_turned 54 B hat
          have h92 := take_turned 92 B hat
          obtain ⟨a7', c7', W1, happ1, H1⟩ := htwo.add1 (bits .xor .u8 x 54) (by omega)
          obtain ⟨a8', c8', W2, happ2, H2⟩ := H1.out.symm.add1 (bits .xor .u8 x 92) (by omega)
          rw [h54, h92] at H2
          clear htwo hbw hat h54 h92 H1
          go_wp2_with (first
            | (at_builtin; refine wpList_append_run rfl _ _ _ rfl _ _ _ _ rfl rfl happ1 ?_)
            | (at_builtin; refine wpList_append_run rfl _ _ _ rfl _ _ _ _ rfl rfl happ2 ?_))
          go_roundw
          case rel => exact ⟨k + 1, a7', c7', a8', c8', by omega, rfl, rfl, by go_num, H2.out.symm⟩
          case measure => simp [intOf]; omega
        · have gn : ¬ (k : Int) < (32 : Int) := by omega
          rw [if_neg hkn] at hat
          have h54 := take_turned 54 B hat
          have h92 := take_turned 92 B hat
          obtain ⟨a7', c7', W1, happ1, H1⟩ := htwo.add1 (bits .xor .u8 0 54) (by omega)
          obtain ⟨a8', c8', W2, happ2, H2⟩ := H1.out.symm.add1 (bits .xor .u8 0 92) (by omega)
          rw [h54, h92] at H2
          clear htwo hbw hat h54 h92 H1
          go_wp2_with (first
            | (at_builtin; refine wpList_append_run rfl _ _ _ rfl _ _ _ _ rfl rfl happ1 ?_)
            | (at_builtin; refine wpList_append_run rfl _ _ _ rfl _ _ _ _ rfl rfl happ2 ?_))
          go_roundw
          case rel => exact ⟨k + 1, a7', c7', a8', c8', by omega, rfl, rfl, by go_num, H2.out.symm⟩
          case measure => simp [intOf]; omega
      · obtain rfl : k = 64 := by omega
        rw [show ((64 : Nat) : Int) = 64 from rfl]
        rw [List.take_of_length_le (by rw [turned_len, HB.out.2.1]; exact Nat.le_refl _), List.take_of_length_le (by rw [turned_len, HB.out.2.1]; exact Nat.le_refl _)] at htwo
        have hbS := HS0.out.2
        have hbw : Below w.heap.size w wr := hbS.trans (htwo.below.mono hbS.size)
        obtain ⟨a7', c7', W1, happ, H1⟩ := htwo.add b len2 cap2 ys (HR2.out.1.below hbw) (by omega)
        have hb1 := H1.out.below
        have hb1w : Below w.heap.size w W1 := hbS.trans (hb1.mono hbS.size)
        have hs := sum_ok a7' (64 + len2) c7' (turned 54 B ++ ys) W1 H1.out.reads ((byt_turned (by omega) (by omega) HB.out.2.2).append HR2.out.2.1) (by omega) H1.out.le (HT.out.below hb1w HT.out.lt)
        obtain ⟨S1, hS1⟩ : ∃ S1, S1 = sha (turned 54 B ++ ys) := ⟨_, rfl⟩
        obtain ⟨E, hE⟩ : ∃ E, E = S1.map (Value.int .u8) := ⟨_, rfl⟩
        have hel : E.length = 32 := by rw [hE, hS1, List.length_map, sha_len]
        have infoE : (Tryd.prog.info? 25).map (·.size) = some E.length := by rw [hel]; exact infoA
        have honee : E.toArray.all (·.oneCell') = true := by rw [hE]; exact dv_one _
        rw [← hS1, show dv S1 = .agg E.toArray by rw [hE]] at hs
        have HSM := Lib.hid hs
        have HE := Lib.hid (And.intro hE (And.intro hel hS1))
        clear htwo hbS hbw hb1 hb1w hs hE hel hS1 hk hk64
        go_wp2_with (at_builtin; refine wpList_append_run rfl _ _ _ rfl _ _ _ _ rfl rfl happ ?_)
        clear happ
        refine HSM.out.mono ?_
        rintro e W3 ⟨rfl, hb3⟩
        obtain ⟨W4, hW4⟩ : ∃ W4, W3.alloc (.cells E.toArray 25) = W4 := ⟨_, rfl⟩
        have hb34 : Below W3.heap.size W3 W4 := by rw [← hW4]; exact (Below.refl _ _).alloc (Nat.le_refl _) _
        have htwo := (H1.out.keep (hb3.trans (hb34.mono hb3.size))).symm
        have he4 : Arr W4 W3.heap.size 25 (S1.map (Value.int .u8)) := by rw [← hW4, ← HE.out.1]; exact arr_new W3 25 E
        obtain ⟨a8', c8', W5, happ, H5⟩ := htwo.add (some ⟨W3.heap.size, 0, none⟩) 32 32 S1 (he4.reads' (by rw [HE.out.2.2]; exact sha_len _)) (by omega)
        rw [show 64 + 32 = 96 from rfl] at happ H5
        have hb5w : Below w.heap.size w W5 := HS0.out.2.trans (H5.out.below.mono HS0.out.2.size)
        have hm := msum_any a len cap zs b len2 cap2 ys W5 (HR.out.1.below hb5w) HR.out.2.1 (by omega) HR.out.2.2.1 (HR2.out.1.below hb5w) HR2.out.2.1 (by omega) HR2.out.2.2.1 (HT.out.below hb5w HT.out.lt)
        have H5w := Lib.hid hb5w
        have HM := Lib.hid hm
        have HW4 := Lib.hid hW4
        clear hb3 hb34 htwo he4 hb5w hm hW4 HSM H1
        go_wp2_with (first
          | (refine wpList_store_fresh rfl 25 (.tmp 11) (.tmp 55) rfl W3 _ rfl _ E.toArray rfl rfl (by simpa using infoE) (by simp [HE.out.2.1]) honee ?_; rw [HW4.out])
          | (at_builtin; refine wpList_append_run rfl _ _ _ rfl _ _ _ _ rfl rfl happ ?_))
        clear happ
        refine HM.out.mono ?_
        rintro e W6 ⟨rfl, hb6⟩
        have hb6w : Below w.heap.size w W6 := H5w.out.trans (hb6.mono H5w.out.size)
        have h6 := H5.out.keep hb6
        have hs := sum_ok a8' 96 c8' (turned 92 B ++ S1) W6 h6.reads ((byt_turned (by omega) (by omega) HB.out.2.2).append (by rw [HE.out.2.2]; exact sha_byt _)) (by omega) h6.le (HT.out.below hb6w HT.out.lt)
        rw [show sha (turned 92 B ++ S1) = hmac zs ys by unfold hmac; rw [HE.out.2.2, HB.out.1]] at hs
        have heq := fun W => eql_hmac W zs ys
        have hgd := fun W x y => guard_dv W x y ((hmac zs ys).map (Value.int .u8)).toArray ((hmac zs ys).map (Value.int .u8)).toArray
        have H6w := Lib.hid hb6w
        have HS6 := Lib.hid hs
        clear hb6 hb6w h6 hs HM H5
        go_wp2_with fail
        refine HS6.out.mono ?_
        rintro e W7 ⟨rfl, hb7⟩
        have H7w := Lib.hid (H6w.out.trans (hb7.mono H6w.out.size))
        clear hb7 HS6
        go_wp2_with fail
        clear heq hgd
        refine (works_any W7 (HT.out.below H7w.out HT.out.lt)).mono ?_
        rintro e W8 ⟨rfl, hb8⟩
        have H8 := Lib.hid (H7w.out.trans (hb8.mono H7w.out.size))
        clear hb8
        go_wp2
        go_ret
        exact ⟨rfl, H8.out⟩
  · have g64 : ¬ (64 : Int) < len := by omega
    have hsh : short zs = zs := by unfold short; rw [if_neg (by rw [HR.out.1.1]; exact h64)]
    have hn : (short zs).length = len := by rw [hsh]; exact HR.out.1.1
    have HN := Lib.hid (And.intro hsh hn)
    clear hsh hn
    go_enter Tryd.func4, Tryd.ntmps4
    go_wp2_with fail
    refine hcp.mono ?_
    rintro e wS ⟨a1, rfl, hb1, hr1⟩
    have HS0 := Lib.hid (And.intro (show Reads wS a1 len (short zs) by rw [HN.out.1]; exact hr1.reads) hb1)
    clear hcp hb1 hr1
    go_wp2
    go_loopw [7, 8, 9] (fun u v i wr => ∃ (k : Nat) (a7 : Option Addr) (c7 : Nat) (a8 : Option Addr) (c8 : Nat), k ≤ 64 ∧ u = .slice a7 k c7 ∧ v = .slice a8 k c8 ∧ i = .int .i64 k ∧ Two wS a7 k c7 ((turned 54 B).take k) a8 k c8 ((turned 92 B).take k) wr) (fun _ _ i _ => 64 - (intOf i).toNat)
    case atStart => exact ⟨0, none, 0, none, 0, by omega, rfl, rfl, rfl, Two.nil wS wS (Below.refl _ _)⟩
    case round =>
      obtain ⟨k, a7, c7, a8, c8, hk, rfl, rfl, rfl, htwo⟩ := hrel
      by_cases hk64 : k < 64
      · have gk : (k : Int) < 64 := by omega
        have hat := blockK_at zs hk64
        rw [← HB.out.1, HN.out.2] at hat
        have hbw := htwo.below
        by_cases hkn : k < len
        · have gn : (k : Int) < (len : Int) := by omega
          rw [if_pos hkn] at hat
          obtain ⟨kb, ko, hka, hkc⟩ : ∃ kb ko, a1 = some ⟨kb, ko, none⟩ ∧ wr.cell? ⟨kb, ko + k, none⟩ = some (.int .u8 ((short zs)[k]?.getD 0)) := by
            rcases HS0.out.1.2 with h | ⟨kb, ko, h1, h2, h3⟩
            · omega
            · exact ⟨kb, ko, h1, (hbw.cell (p := ⟨kb, ko + k, none⟩) h2).trans (h3 k hkn)⟩
          subst hka
          generalize (short zs)[k]?.getD 0 = x at hat hkc
          have h54 := take_turned 54 B hat
          have h92 := take_turned 92 B hat
          obtain ⟨a7', c7', W1, happ1, H1⟩ := htwo.add1 (bits .xor .u8 x 54) (by omega)
          obtain ⟨a8', c8', W2, happ2, H2⟩ := H1.out.symm.add1 (bits .xor .u8 x 92) (by omega)
          rw [h54, h92] at H2
          clear htwo hbw hat h54 h92 H1
          go_wp2_with (first
            | (at_builtin; refine wpList_append_run rfl _ _ _ rfl _ _ _ _ rfl rfl happ1 ?_)
            | (at_builtin; refine wpList_append_run rfl _ _ _ rfl _ _ _ _ rfl rfl happ2 ?_))
          go_roundw
          case rel => exact ⟨k + 1, a7', c7', a8', c8', by omega, rfl, rfl, by go_num, H2.out.symm⟩
          case measure => simp [intOf]; omega
        · have gn : ¬ (k : Int) < (len : Int) := by omega
          rw [if_neg hkn] at hat
          have h54 := take_turned 54 B hat
          have h92 := take_turned 92 B hat
          obtain ⟨a7', c7', W1, happ1, H1⟩ := htwo.add1 (bits .xor .u8 0 54) (by omega)
          obtain ⟨a8', c8', W2, happ2, H2⟩ := H1.out.symm.add1 (bits .xor .u8 0 92) (by omega)
          rw [h54, h92] at H2
          clear htwo hbw hat h54 h92 H1
          go_wp2_with (first
            | (at_builtin; refine wpList_append_run rfl _ _ _ rfl _ _ _ _ rfl rfl happ1 ?_)
            | (at_builtin; refine wpList_append_run rfl _ _ _ rfl _ _ _ _ rfl rfl happ2 ?_))
          go_roundw
          case rel => exact ⟨k + 1, a7', c7', a8', c8', by omega, rfl, rfl, by go_num, H2.out.symm⟩
          case measure => simp [intOf]; omega
      · obtain rfl : k = 64 := by omega
        rw [show ((64 : Nat) : Int) = 64 from rfl]
        rw [List.take_of_length_le (by rw [turned_len, HB.out.2.1]; exact Nat.le_refl _), List.take_of_length_le (by rw [turned_len, HB.out.2.1]; exact Nat.le_refl _)] at htwo
        have hbS := HS0.out.2
        have hbw : Below w.heap.size w wr := hbS.trans (htwo.below.mono hbS.size)
        obtain ⟨a7', c7', W1, happ, H1⟩ := htwo.add b len2 cap2 ys (HR2.out.1.below hbw) (by omega)
        have hb1 := H1.out.below
        have hb1w : Below w.heap.size w W1 := hbS.trans (hb1.mono hbS.size)
        have hs := sum_ok a7' (64 + len2) c7' (turned 54 B ++ ys) W1 H1.out.reads ((byt_turned (by omega) (by omega) HB.out.2.2).append HR2.out.2.1) (by omega) H1.out.le (HT.out.below hb1w HT.out.lt)
        obtain ⟨S1, hS1⟩ : ∃ S1, S1 = sha (turned 54 B ++ ys) := ⟨_, rfl⟩
        obtain ⟨E, hE⟩ : ∃ E, E = S1.map (Value.int .u8) := ⟨_, rfl⟩
        have hel : E.length = 32 := by rw [hE, hS1, List.length_map, sha_len]
        have infoE : (Tryd.prog.info? 25).map (·.size) = some E.length := by rw [hel]; exact infoA
        have honee : E.toArray.all (·.oneCell') = true := by rw [hE]; exact dv_one _
        rw [← hS1, show dv S1 = .agg E.toArray by rw [hE]] at hs
        have HSM := Lib.hid hs
        have HE := Lib.hid (And.intro hE (And.intro hel hS1))
        clear htwo hbS hbw hb1 hb1w hs hE hel hS1 hk hk64
        go_wp2_with (at_builtin; refine wpList_append_run rfl _ _ _ rfl _ _ _ _ rfl rfl happ ?_)
        clear happ
        refine HSM.out.mono ?_
        rintro e W3 ⟨rfl, hb3⟩
        obtain ⟨W4, hW4⟩ : ∃ W4, W3.alloc (.cells E.toArray 25) = W4 := ⟨_, rfl⟩
        have hb34 : Below W3.heap.size W3 W4 := by rw [← hW4]; exact (Below.refl _ _).alloc (Nat.le_refl _) _
        have htwo := (H1.out.keep (hb3.trans (hb34.mono hb3.size))).symm
        have he4 : Arr W4 W3.heap.size 25 (S1.map (Value.int .u8)) := by rw [← hW4, ← HE.out.1]; exact arr_new W3 25 E
        obtain ⟨a8', c8', W5, happ, H5⟩ := htwo.add (some ⟨W3.heap.size, 0, none⟩) 32 32 S1 (he4.reads' (by rw [HE.out.2.2]; exact sha_len _)) (by omega)
        rw [show 64 + 32 = 96 from rfl] at happ H5
        have hb5w : Below w.heap.size w W5 := HS0.out.2.trans (H5.out.below.mono HS0.out.2.size)
        have hm := msum_any a len cap zs b len2 cap2 ys W5 (HR.out.1.below hb5w) HR.out.2.1 (by omega) HR.out.2.2.1 (HR2.out.1.below hb5w) HR2.out.2.1 (by omega) HR2.out.2.2.1 (HT.out.below hb5w HT.out.lt)
        have H5w := Lib.hid hb5w
        have HM := Lib.hid hm
        have HW4 := Lib.hid hW4
        clear hb3 hb34 htwo he4 hb5w hm hW4 HSM H1
        go_wp2_with (first
          | (refine wpList_store_fresh rfl 25 (.tmp 11) (.tmp 55) rfl W3 _ rfl _ E.toArray rfl rfl (by simpa using infoE) (by simp [HE.out.2.1]) honee ?_; rw [HW4.out])
          | (at_builtin; refine wpList_append_run rfl _ _ _ rfl _ _ _ _ rfl rfl happ ?_))
        clear happ
        refine HM.out.mono ?_
        rintro e W6 ⟨rfl, hb6⟩
        have hb6w : Below w.heap.size w W6 := H5w.out.trans (hb6.mono H5w.out.size)
        have h6 := H5.out.keep hb6
        have hs := sum_ok a8' 96 c8' (turned 92 B ++ S1) W6 h6.reads ((byt_turned (by omega) (by omega) HB.out.2.2).append (by rw [HE.out.2.2]; exact sha_byt _)) (by omega) h6.le (HT.out.below hb6w HT.out.lt)
        rw [show sha (turned 92 B ++ S1) = hmac zs ys by unfold hmac; rw [HE.out.2.2, HB.out.1]] at hs
        have heq := fun W => eql_hmac W zs ys
        have hgd := fun W x y => guard_dv W x y ((hmac zs ys).map (Value.int .u8)).toArray ((hmac zs ys).map (Value.int .u8)).toArray
        have H6w := Lib.hid hb6w
        have HS6 := Lib.hid hs
        clear hb6 hb6w h6 hs HM H5
        go_wp2_with fail
        refine HS6.out.mono ?_
        rintro e W7 ⟨rfl, hb7⟩
        have H7w := Lib.hid (H6w.out.trans (hb7.mono H6w.out.size))
        clear hb7 HS6
        go_wp2_with fail
        clear heq hgd
        refine (works_any W7 (HT.out.below H7w.out HT.out.lt)).mono ?_
        rintro e W8 ⟨rfl, hb8⟩
        have H8 := Lib.hid (H7w.out.trans (hb8.mono H7w.out.size))
        clear hb8
        go_wp2
        go_ret
        exact ⟨rfl, H8.out⟩
end Go.Proofs.YtlgcplopibblbaaDoor
