/-
  The reference of layer 7: a key's block, turned.
-/
import Derived.Test.YtcmaclaiholpfaaDoorMacP1
import Derived.Test.YtcmaclaiholpfaaDoorShaWhole
import Derived.Test.YtcmaclaiholpfaaDoorShaSum
namespace Go.Proofs.YtcmaclaiholpfaaDoor
open Go.RowKit
set_option linter.unusedVariables false

theorem Row8.cell8 {base : Nat} {w : World} {g n c : Nat} {zs : List Int} (h : Row8 base w (some ⟨g, 0, none⟩) n c zs) {i : Nat} {x : Int} (hx : zs[i]? = some x) : w.cell? ⟨g, i, none⟩ = some (.int .u8 x) := by
  have hi := (List.getElem?_eq_some_iff.1 hx).1
  rw [World.ownsRow.cellAt h.owns i (by have := h.len; omega), List.getElem?_map, hx]
  rfl
theorem Row8.free8 {base : Nat} {w : World} {g n c : Nat} {zs : List Int} (h : Row8 base w (some ⟨g, 0, none⟩) n c zs) (i : Nat) : w.frozen? ⟨g, i, none⟩ = false := World.ownsRow.frozenAt h.owns i
theorem Row8.store8 {base : Nat} {w : World} {g n c : Nat} {zs : List Int} (h : Row8 base w (some ⟨g, 0, none⟩) n c zs) (i : Nat) (x : Int) (hi : i < n) : Row8 base (w.setCell ⟨g, i, none⟩ (.int .u8 x)) (some ⟨g, 0, none⟩) n c (zs.set i x) := by
  obtain ⟨hl, ⟨e, _⟩ | ⟨g', sp, e, hb, hk, hs, hc, hm⟩⟩ := h
  · cases e
  · cases e
    refine ⟨by simpa using hl, .inr ⟨g, sp, rfl, hb, ?_, hs, by simpa using hc, hm⟩⟩
    have := hk.set i x
    rw [List.set_append, if_pos (by omega)] at this
    exact this
theorem padded_block (k : List Int) {j : Nat} (h : (short k).length + j = 64) : short k ++ List.replicate j 0 = blockK k := by
  unfold blockK
  rw [show 64 - (short k).length = j by omega]

set_option maxRecDepth 100000 in
set_option maxHeartbeats 3200000 in
theorem runder_any (a : Option Addr) (len cap : Nat) (zs : List Int) (m : Int) (w : World) (hr : Reads w a len zs) (hz : Byt zs) (hl : len ≤ 1099511627776) :
    Calls Tryd.prog 36 #[.slice a len cap, .int .u8 m] w fun e w' => ∃ a' c', e = .returned (.slice a' 64 c') ∧ Row8 w.heap.size w' a' 64 c' (turned m (blockK zs)) ∧ Below w.heap.size w w' := by
  have HZ := Lib.hid (And.intro hz (And.intro hr.1 hr))
  have hcp := copyBytes_any a len cap zs w hr (by omega)
  clear hr hz
  by_cases hlong : 64 < len
  · have hg : (64 : Int) < len := by omega
    have hsh : short zs = sha zs := by unfold short; rw [if_pos (by rw [HZ.out.2.1]; exact hlong)]
    have hn : (short zs).length = 32 := by rw [hsh]; exact sha_len _
    have HN := Lib.hid (And.intro hsh hn)
    clear hsh hn
    go_enter Tryd.func36, Tryd.ntmps36
    go_wp2_with fail
    refine hcp.mono ?_
    rintro e w1 ⟨a1, rfl, hb1, hr1⟩
    have hs := sum_any a len cap zs w1 (HZ.out.2.2.below hb1) HZ.out.1 hl
    obtain ⟨D, hD⟩ : ∃ D, D = (sha zs).map (Value.int .u8) := ⟨_, rfl⟩
    have hdl : D.length = 32 := by rw [hD, List.length_map, sha_len]
    have infoD : (Tryd.prog.info? 46).map (·.size) = some D.length := by rw [hdl]; exact infoA
    have honed : D.toArray.all (·.oneCell') = true := by rw [hD]; exact dv_one _
    rw [← hD] at hs
    have H1 := Lib.hid (And.intro hb1 (And.intro hD hdl))
    have HS := Lib.hid hs
    clear hcp hr1 hb1 hD hdl hs
    go_wp2_with fail
    refine HS.out.mono ?_
    rintro e w2 ⟨rfl, hb2⟩
    obtain ⟨w3, hw3⟩ : ∃ w3, w3 = w2.alloc (.cells D.toArray 46) := ⟨_, rfl⟩
    have hb3 : Below w.heap.size w w3 := by rw [hw3]; exact (H1.out.1.trans (hb2.mono H1.out.1.size)).alloc (Nat.le_trans H1.out.1.size hb2.size) _
    have hd3 : Arr w3 w2.heap.size 46 ((sha zs).map (Value.int .u8)) := by rw [← H1.out.2.1, hw3]; exact arr_new w2 46 D
    have hrd3 : Reads w3 (some ⟨w2.heap.size, 0, none⟩) 32 (sha zs) := by
      refine ⟨sha_len _, .inr ⟨w2.heap.size, 0, rfl, (Array.getElem?_eq_some_iff.1 hd3).1, fun i hi => ?_⟩⟩
      rw [Nat.zero_add]
      exact hd3.cell (by simp [show i < (sha zs).length by rw [sha_len]; exact hi])
    have hcp := copyBytes_any (some ⟨w2.heap.size, 0, none⟩) 32 32 (sha zs) w3 hrd3 (by omega)
    rw [hw3] at hcp
    have H3 := Lib.hid (And.intro hb3 hw3)
    have HCP := Lib.hid hcp
    clear hb2 hw3 hb3 hd3 hrd3 hcp HS
    go_wp2_with (refine wpList_store_fresh rfl 46 (.tmp 6) (.tmp 14) rfl w2 _ rfl _ D.toArray rfl rfl (by simpa using infoD) (by simp [H1.out.2.2]) honed ?_)
    refine HCP.out.mono ?_
    rintro e w4 ⟨a4, rfl, hb4, hr4⟩
    rw [← H3.out.2] at hb4 hr4
    have hrow : Row8 w.heap.size w4 a4 32 32 (short zs) := by rw [HN.out.1]; exact hr4.lower H3.out.1.size
    have H4 := Lib.hid (And.intro (H3.out.1.trans (hb4.mono H3.out.1.size)) hrow)
    clear hb4 hr4 hrow HCP H3
    go_wp2
    go_loopw [5] (fun t wr => ∃ (j : Nat) (a' : Option Addr) (c' : Nat), 32 + j ≤ 64 ∧ t = .slice a' (32 + j) c' ∧ Row8 w.heap.size wr a' (32 + j) c' (short zs ++ List.replicate j 0) ∧ Below w.heap.size w wr) (fun t _ => 64 - lenV t)
    case atStart => exact ⟨0, a4, 32, by omega, rfl, by simpa using H4.out.2, H4.out.1⟩
    case round =>
      obtain ⟨j, a', c', hj, rfl, hrow, hb⟩ := hrel
      by_cases hlt : 32 + j < 64
      · have gl : ((32 + j : Nat) : Int) < 64 := by omega
        obtain ⟨a3, c3, w3, happ, H3⟩ := hrow.append hb.size (by omega) 0
        have HB := Lib.hid hb
        clear hrow hb
        go_wp2_with (at_builtin; refine wpList_append_run rfl _ _ _ rfl _ _ _ _ rfl rfl happ ?_)
        go_roundw
        case rel => exact ⟨j + 1, a3, c3, by omega, rfl, by have := H3.out.1; rw [List.append_assoc, replicate_snoc] at this; exact this, HB.out.trans H3.out.2⟩
        case measure => simp [lenV]; omega
      · have e64 : 32 + j = 64 := by omega
        rw [padded_block zs (by rw [HN.out.2]; exact e64), e64] at hrow
        rw [e64]
        obtain ⟨g, rfl, hbg, _, hgl⟩ := hrow.some_of (by omega)
        have HR := Lib.hid (And.intro hrow hb)
        clear hrow hb hj hlt e64
        go_wp2
        go_loopw [7] (fun i wr => ∃ k : Nat, k ≤ 64 ∧ i = .int .i64 k ∧ Row8 w.heap.size wr (some ⟨g, 0, none⟩) 64 c' (half m (blockK zs) k) ∧ Below w.heap.size w wr) (fun i _ => 64 - (intOf i).toNat)
        case atStart => exact ⟨0, by omega, rfl, by rw [half_zero]; exact HR.out.1, HR.out.2⟩
        case round =>
          obtain ⟨k, hk, rfl, hrow, hb⟩ := hrel
          by_cases hk64 : k < 64
          · obtain ⟨x, gx⟩ : ∃ x, (blockK zs)[k]? = some x := ⟨(blockK zs)[k]'(by rw [blockK_len]; exact hk64), by simp⟩
            have gk : (k : Int) < 64 := by omega
            have ca := hrow.cell8 (half_at m gx)
            have fa := hrow.free8 k
            have hr2 := hrow.store8 k (bits .xor .u8 x m) (by omega)
            rw [half_step m gx] at hr2
            have hb2 : Below w.heap.size w (wr.setCell ⟨g, k, none⟩ (.int .u8 (bits .xor .u8 x m))) := hb.setCell hbg _
            have HM := Lib.hid (And.intro hr2 hb2)
            clear hrow hb hr2 hb2 gx
            go_wp2
            go_roundw
            case rel => exact ⟨k + 1, by omega, by go_num, HM.out.1, HM.out.2⟩
            case measure => simp [intOf]; omega
          · obtain rfl : k = 64 := by omega
            rw [half_all m (blockK zs) (by rw [blockK_len]; exact Nat.le_refl _)] at hrow
            have HM := Lib.hid (And.intro hrow hb)
            clear hrow hb
            go_wp2
            go_ret
            exact ⟨_, _, rfl, HM.out.1, HM.out.2⟩
  · have hg : ¬ (64 : Int) < len := by omega
    have hsh : short zs = zs := by unfold short; rw [if_neg (by rw [HZ.out.2.1]; exact hlong)]
    have hn : (short zs).length = len := by rw [hsh]; exact HZ.out.2.1
    have HN := Lib.hid (And.intro hsh hn)
    clear hsh hn
    go_enter Tryd.func36, Tryd.ntmps36
    go_wp2_with fail
    refine hcp.mono ?_
    rintro e w4 ⟨a4, rfl, hb4, hr4⟩
    have hrow : Row8 w.heap.size w4 a4 len len (short zs) := by rw [HN.out.1]; exact hr4
    have H4 := Lib.hid (And.intro hb4 hrow)
    clear hcp hb4 hr4 hrow
    go_wp2
    go_loopw [5] (fun t wr => ∃ (j : Nat) (a' : Option Addr) (c' : Nat), len + j ≤ 64 ∧ t = .slice a' (len + j) c' ∧ Row8 w.heap.size wr a' (len + j) c' (short zs ++ List.replicate j 0) ∧ Below w.heap.size w wr) (fun t _ => 64 - lenV t)
    case atStart => exact ⟨0, a4, len, by omega, rfl, by simpa using H4.out.2, H4.out.1⟩
    case round =>
      obtain ⟨j, a', c', hj, rfl, hrow, hb⟩ := hrel
      by_cases hlt : len + j < 64
      · have gl : ((len + j : Nat) : Int) < 64 := by omega
        obtain ⟨a3, c3, w3, happ, H3⟩ := hrow.append hb.size (by omega) 0
        have HB := Lib.hid hb
        clear hrow hb
        go_wp2_with (at_builtin; refine wpList_append_run rfl _ _ _ rfl _ _ _ _ rfl rfl happ ?_)
        go_roundw
        case rel => exact ⟨j + 1, a3, c3, by omega, rfl, by have := H3.out.1; rw [List.append_assoc, replicate_snoc] at this; exact this, HB.out.trans H3.out.2⟩
        case measure => simp [lenV]; omega
      · have e64 : len + j = 64 := by omega
        rw [padded_block zs (by rw [HN.out.2]; exact e64), e64] at hrow
        rw [e64]
        obtain ⟨g, rfl, hbg, _, hgl⟩ := hrow.some_of (by omega)
        have HR := Lib.hid (And.intro hrow hb)
        clear hrow hb hj hlt e64
        go_wp2
        go_loopw [7] (fun i wr => ∃ k : Nat, k ≤ 64 ∧ i = .int .i64 k ∧ Row8 w.heap.size wr (some ⟨g, 0, none⟩) 64 c' (half m (blockK zs) k) ∧ Below w.heap.size w wr) (fun i _ => 64 - (intOf i).toNat)
        case atStart => exact ⟨0, by omega, rfl, by rw [half_zero]; exact HR.out.1, HR.out.2⟩
        case round =>
          obtain ⟨k, hk, rfl, hrow, hb⟩ := hrel
          by_cases hk64 : k < 64
          · obtain ⟨x, gx⟩ : ∃ x, (blockK zs)[k]? = some x := ⟨(blockK zs)[k]'(by rw [blockK_len]; exact hk64), by simp⟩
            have gk : (k : Int) < 64 := by omega
            have ca := hrow.cell8 (half_at m gx)
            have fa := hrow.free8 k
            have hr2 := hrow.store8 k (bits .xor .u8 x m) (by omega)
            rw [half_step m gx] at hr2
            have hb2 : Below w.heap.size w (wr.setCell ⟨g, k, none⟩ (.int .u8 (bits .xor .u8 x m))) := hb.setCell hbg _
            have HM := Lib.hid (And.intro hr2 hb2)
            clear hrow hb hr2 hb2 gx
            go_wp2
            go_roundw
            case rel => exact ⟨k + 1, by omega, by go_num, HM.out.1, HM.out.2⟩
            case measure => simp [intOf]; omega
          · obtain rfl : k = 64 := by omega
            rw [half_all m (blockK zs) (by rw [blockK_len]; exact Nat.le_refl _)] at hrow
            have HM := Lib.hid (And.intro hrow hb)
            clear hrow hb
            go_wp2
            go_ret
            exact ⟨_, _, rfl, HM.out.1, HM.out.2⟩
end Go.Proofs.YtcmaclaiholpfaaDoor
