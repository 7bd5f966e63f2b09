/-
  The walk of RingOrder. Written by wip/tools/genorder.py.
-/
import Derived.Test.YtdlcmmodhicieaaRingWorks
import Derived.Test.YtdlcmmodhicieaaRingWin
import Derived.Test.YtdlcmmodhicieaaNums
namespace Go.Proofs.Ytdlcmmodhicieaa
open Go.RowKit
set_option linter.unusedVariables false

theorem cells32_snoc {ws : List Int} {l f : Nat} (hl : ws.length = l) (hf : f ≤ l) (z : Int) : cells32 (ws.drop f) ++ [.int .u32 z] = cells32 ((ws ++ [z]).drop f) := by
  rw [List.drop_append_of_le_length (by omega)]
  simp [cells32]
theorem cells32_push (ws : List Int) (z : Int) : cells32 ws ++ [.int .u32 z] = cells32 (ws ++ [z]) := by simp [cells32]

set_option maxRecDepth 100000 in
set_option maxHeartbeats 6400000 in
theorem orderF (w : World) (room : Int) (n : Nat) (hr : 0 ≤ room ∧ room ≤ 255) (hn : 1 + room = (n : Int)) (a0 : Option Addr) (L cap0 : Nat) (zs : List Int) (ap : Option Addr) (M capp : Nat) (ps : List Int) (hz : Nums .u32 w a0 L zs) (hp : Nums .u8 w ap M ps) (hL : L ≤ 300) (hM : M ≤ 300) :
    Calls Try.prog 4 #[.int .u8 room, .slice a0 L cap0, .slice ap M capp] w fun e w' => e = .returned (.bool true) ∧ Below w.heap.size w w' := by
  have HZ := Lib.hid hz
  have HZL := Lib.hid hz.1
  have HP := Lib.hid hp
  have HPL := Lib.hid hp.1
  have hl0 : decide (300 < (L : Int)) = false := by rw [decide_eq_false_iff_not]; omega
  have hm0 : decide (300 < (M : Int)) = false := by rw [decide_eq_false_iff_not]; omega
  have hn1 : 1 ≤ n := by omega
  have hn2 : n ≤ 256 := by omega
  have HL300 := hL
  have HM300 := hM
  clear hz hp hL hM
  go_enter Try.func4, Try.ntmps4
  go_wp2_with fail
  refine (new_my_u32 w.heap.size w (Nat.le_refl _) n (by omega) (by omega)).mono ?_
  rintro e w1 ⟨rb, cb, rfl, hr1, hb1⟩
  have HR1 := Lib.hid (RingWin.start hr1)
  have HB1 := Lib.hid hb1
  have HN := Lib.hid (And.intro hn hr)
  clear hr1 hb1 hn hr
  go_wp2
  go_loopw [10, 11, 12] (fun want first t wr => ∃ (i f : Nat) (ws : List Int) (l : Nat) (a : Option Addr) (c : Nat), i ≤ L ∧ ws.length = l ∧ l ≤ i ∧ f ≤ l ∧ want = .slice a l c ∧ first = .int .i64 f ∧ t = .int .i64 i ∧ RingWin w.heap.size wr rb cb n (l - f) (cells32 (ws.drop f)) a l c (cells32 ws) ∧ Below w.heap.size w wr) (fun _ _ t _ => L - (intOf t).toNat)
  case atStart => exact ⟨0, 0, [], 0, none, 0, by omega, rfl, by omega, by omega, rfl, rfl, rfl, HR1.out, HB1.out⟩
  case round =>
    obtain ⟨i, f, ws, l, a, c, hi, hwl, hli, hf, rfl, rfl, rfl, hr, hb⟩ := hrel
    have hle := hr.ring.le
    by_cases hil : i < L
    · have hil' : i < zs.length := by rw [HZL.out]; exact hil
      have hz0 : zs[i]? = some zs[i] := by simp [hil']
      generalize zs[i] = z at *
      obtain ⟨g0, off0, rfl, hg0, hc0⟩ := (HZ.out.below hb (Nat.le_refl _)).2.2.2 i z hz0
      have HZ0 := Lib.hid hz0
      have HB0 := Lib.hid hb
      have HR0 := Lib.hid hr
      have HWL := Lib.hid hwl
      have gL : (i : Int) < (L : Int) := by omega
      by_cases hfit : l - f < n
      · have gfit : (l : Int) - (f : Int) < (n : Int) := by omega
        have hps := push_rwin hr z hfit
        clear hr hb hz0 hwl
        go_wp2_with fail
        refine hps.mono ?_
        rintro e w2 ⟨rfl, hr2, hb2⟩
        have hbb := HB0.out.trans hb2
        obtain ⟨g1, off1, e1, hg1, hc1⟩ := (HZ.out.below hbb (Nat.le_refl _)).2.2.2 i z HZ0.out
        cases e1
        obtain ⟨a1, c1, W3, happ, HA⟩ := hr2.append (by omega) z
        clear hr2 hb2 hps hc0 hg0
        have HBB := Lib.hid hbb
        clear hbb
        go_wp2_with (at_builtin; refine wpList_append_run rfl _ _ _ rfl _ _ _ _ rfl rfl happ ?_)
        clear happ
        obtain ⟨ws1, hws1⟩ : ∃ ws1, ws ++ [z] = ws1 := ⟨_, rfl⟩
        generalize hl1 : l + 1 = l1 at *
        have HL1 := Lib.hid (show ws1.length = l1 by rw [← hws1, List.length_append, HWL.out]; simpa using hl1)
        have HR1 := Lib.hid (HA.out.1.recast (show l - f + 1 = l1 - f by omega) ((cells32_snoc HWL.out hf z).trans (by rw [hws1])) rfl ((cells32_push ws z).trans (by rw [hws1])))
        have HB1 := Lib.hid (HBB.out.trans HA.out.2)
        have hli1 : l1 ≤ i + 1 := by omega
        have hf1 : f ≤ l1 := by omega
        clear hl1 hli hle hfit gfit hf
        go_loopw [11, 14] (fun first t wr => ∃ f k : Nat, f ≤ l1 ∧ first = .int .i64 f ∧ t = .int .i64 k ∧ RingWin w.heap.size wr rb cb n (l1 - f) (cells32 (ws1.drop f)) a1 l1 c1 (cells32 ws1) ∧ Below w.heap.size w wr) (fun _ t _ => 5 - (intOf t).toNat)
        case atStart => exact ⟨f, 0, by omega, rfl, rfl, HR1.out, HB1.out⟩
        case round =>
          obtain ⟨f, k, hf, rfl, rfl, hr, hb⟩ := hrel
          have HB := Lib.hid hb
          have HR := Lib.hid hr
          by_cases hM : i < M
          · have hip : i < ps.length := by rw [HPL.out]; exact hM
            obtain ⟨gp, offp, rfl, hgp, hcp⟩ := (HP.out.below hb (Nat.le_refl _)).2.2.2 i ps[i] (by simp [hip])
            have hp0 := wf_u8_in (HP.out.2.2.1 ps[i] (List.getElem_mem hip))
            generalize ps[i] = p at *
            have gM : (i : Int) < (M : Int) := by omega
            have gi0 : (0 : Int) ≤ (i : Int) := by omega
            by_cases hkp : (k : Int) < p % 5
            · have hk4 : k ≤ 4 := by omega
              by_cases hfl : f < l1
              · have hfw : f < ws1.length := by rw [HL1.out]; exact hfl
                have hz0 : ws1[f]? = some ws1[f] := by simp [hfw]
                generalize ws1[f] = v at *
                have hr1 := hr.recast (show l1 - f = (l1 - (f + 1)) + 1 by omega) (cells32_drop hz0) rfl rfl
                have hwl : (cells32 ws1)[f]? = some (.int .u32 v) := by unfold cells32; rw [List.getElem?_map, hz0]; rfl
                have gf : (f : Int) < (l1 : Int) := by omega
                clear hr hb
                go_wp2_with fail
                refine (pop_rwin hr1).mono ?_
                rintro e w2 ⟨rfl, hr2, hb2⟩
                obtain ⟨gw, offw, hga, hcw, _⟩ := hr2.at hwl
                subst hga
                have HR2 := Lib.hid hr2
                have HB2 := Lib.hid (HB.out.trans hb2)
                clear hr1 hr2 hb2 hwl hz0
                go_wp2
                go_roundw
                case rel => exact ⟨f + 1, k + 1, by omega, by go_num, by go_num, HR2.out, HB2.out⟩
                case measure => simp [intOf]; omega
              · obtain rfl : l1 = f := by omega
                have hr1 := hr.ring.recast (show l1 - l1 = 0 by omega) rfl
                clear hr hb
                go_wp2_with fail
                refine (pop_myno_u32 _ _ _ _ _ _ hr1).mono ?_
                rintro e w2 ⟨rfl, rfl⟩
                clear hr1
                go_wp2
                go_roundw
                case rel => exact ⟨l1, k + 1, by omega, by go_num, by go_num, HR.out, HB.out⟩
                case measure => simp [intOf]; omega
            · have gk : decide ((k : Int) < p % 5) = false := by rw [decide_eq_false_iff_not]; exact hkp
              clear hr hb
              go_wp2
              go_roundw
              case rel => exact ⟨i + 1, f, ws1, l1, a1, c1, by omega, HL1.out, by omega, hf, rfl, rfl, by go_num, HR.out, HB.out⟩
              case measure => simp [intOf]; omega
          · have gM : decide ((i : Int) < (M : Int)) = false := by rw [decide_eq_false_iff_not]; omega
            clear hr hb
            go_wp2
            go_roundw
            case rel => exact ⟨i + 1, f, ws1, l1, a1, c1, by omega, HL1.out, by omega, hf, rfl, rfl, by go_num, HR.out, HB.out⟩
            case measure => simp [intOf]; omega
      · have gfit : decide ((l : Int) - (f : Int) < (n : Int)) = false := by rw [decide_eq_false_iff_not]; omega
        have hps := push_myno_u32 _ _ _ _ _ _ _ hr.ring z (by omega)
        clear hr hb hz0 hwl
        go_wp2_with fail
        refine hps.mono ?_
        rintro e w2 ⟨rfl, rfl⟩
        clear hps hc0 hg0
        go_wp2
        obtain ⟨ws1, hws1⟩ : ∃ ws1, ws = ws1 := ⟨_, rfl⟩
        subst hws1
        have HL1 := HWL
        have HR1 := HR0
        have HB1 := HB0
        have hli1 : l ≤ i + 1 := by omega
        have hf1 : f ≤ l := hf
        clear hli hle hfit gfit hf
        go_loopw [11, 14] (fun first t wr => ∃ f k : Nat, f ≤ l ∧ first = .int .i64 f ∧ t = .int .i64 k ∧ RingWin w.heap.size wr rb cb n (l - f) (cells32 (ws.drop f)) a l c (cells32 ws) ∧ Below w.heap.size w wr) (fun _ t _ => 5 - (intOf t).toNat)
        case atStart => exact ⟨f, 0, by omega, rfl, rfl, HR1.out, HB1.out⟩
        case round =>
          obtain ⟨f, k, hf, rfl, rfl, hr, hb⟩ := hrel
          have HB := Lib.hid hb
          have HR := Lib.hid hr
          by_cases hM : i < M
          · have hip : i < ps.length := by rw [HPL.out]; exact hM
            obtain ⟨gp, offp, rfl, hgp, hcp⟩ := (HP.out.below hb (Nat.le_refl _)).2.2.2 i ps[i] (by simp [hip])
            have hp0 := wf_u8_in (HP.out.2.2.1 ps[i] (List.getElem_mem hip))
            generalize ps[i] = p at *
            have gM : (i : Int) < (M : Int) := by omega
            have gi0 : (0 : Int) ≤ (i : Int) := by omega
            by_cases hkp : (k : Int) < p % 5
            · have hk4 : k ≤ 4 := by omega
              by_cases hfl : f < l
              · have hfw : f < ws.length := by rw [HL1.out]; exact hfl
                have hz0 : ws[f]? = some ws[f] := by simp [hfw]
                generalize ws[f] = v at *
                have hr1 := hr.recast (show l - f = (l - (f + 1)) + 1 by omega) (cells32_drop hz0) rfl rfl
                have hwl : (cells32 ws)[f]? = some (.int .u32 v) := by unfold cells32; rw [List.getElem?_map, hz0]; rfl
                have gf : (f : Int) < (l : Int) := by omega
                clear hr hb
                go_wp2_with fail
                refine (pop_rwin hr1).mono ?_
                rintro e w2 ⟨rfl, hr2, hb2⟩
                obtain ⟨gw, offw, hga, hcw, _⟩ := hr2.at hwl
                subst hga
                have HR2 := Lib.hid hr2
                have HB2 := Lib.hid (HB.out.trans hb2)
                clear hr1 hr2 hb2 hwl hz0
                go_wp2
                go_roundw
                case rel => exact ⟨f + 1, k + 1, by omega, by go_num, by go_num, HR2.out, HB2.out⟩
                case measure => simp [intOf]; omega
              · obtain rfl : l = f := by omega
                have hr1 := hr.ring.recast (show l - l = 0 by omega) rfl
                clear hr hb
                go_wp2_with fail
                refine (pop_myno_u32 _ _ _ _ _ _ hr1).mono ?_
                rintro e w2 ⟨rfl, rfl⟩
                clear hr1
                go_wp2
                go_roundw
                case rel => exact ⟨l, k + 1, by omega, by go_num, by go_num, HR.out, HB.out⟩
                case measure => simp [intOf]; omega
            · have gk : decide ((k : Int) < p % 5) = false := by rw [decide_eq_false_iff_not]; exact hkp
              clear hr hb
              go_wp2
              go_roundw
              case rel => exact ⟨i + 1, f, ws, l, a, c, by omega, HL1.out, by omega, hf, rfl, rfl, by go_num, HR.out, HB.out⟩
              case measure => simp [intOf]; omega
          · have gM : decide ((i : Int) < (M : Int)) = false := by rw [decide_eq_false_iff_not]; omega
            clear hr hb
            go_wp2
            go_roundw
            case rel => exact ⟨i + 1, f, ws, l, a, c, by omega, HL1.out, by omega, hf, rfl, rfl, by go_num, HR.out, HB.out⟩
            case measure => simp [intOf]; omega
    · obtain rfl : L = i := by omega
      have gL : decide ((L : Int) < (L : Int)) = false := by simp
      have HB0 := Lib.hid hb
      have HR0 := Lib.hid hr
      have HWL := Lib.hid hwl
      clear hr hb hwl gL
      go_wp2
      go_loopw [11] (fun first wr => ∃ f : Nat, f ≤ l ∧ first = .int .i64 f ∧ RingWin w.heap.size wr rb cb n (l - f) (cells32 (ws.drop f)) a l c (cells32 ws) ∧ Below w.heap.size w wr) (fun t _ => l - (intOf t).toNat)
      case atStart => exact ⟨f, hf, rfl, HR0.out, HB0.out⟩
      case round =>
        obtain ⟨f, hf, rfl, hr, hb⟩ := hrel
        have HB := Lib.hid hb
        by_cases hfl : f < l
        · have hfw : f < ws.length := by rw [HWL.out]; exact hfl
          have hz0 : ws[f]? = some ws[f] := by simp [hfw]
          generalize ws[f] = v at *
          have hr1 := hr.recast (show l - f = (l - (f + 1)) + 1 by omega) (cells32_drop hz0) rfl rfl
          have hwl : (cells32 ws)[f]? = some (.int .u32 v) := by unfold cells32; rw [List.getElem?_map, hz0]; rfl
          have gf : (f : Int) < (l : Int) := by omega
          clear hr hb
          go_wp2_with fail
          refine (pop_rwin hr1).mono ?_
          rintro e w2 ⟨rfl, hr2, hb2⟩
          obtain ⟨gw, offw, hga, hcw, _⟩ := hr2.at hwl
          subst hga
          have HR2 := Lib.hid hr2
          have HB2 := Lib.hid (HB.out.trans hb2)
          clear hr1 hr2 hb2 hwl hz0
          go_wp2
          go_roundw
          case rel => exact ⟨f + 1, by omega, by go_num, HR2.out, HB2.out⟩
          case measure => simp [intOf]; omega
        · obtain rfl : l = f := by omega
          have hr1 := hr.ring.recast (show l - l = 0 by omega) rfl
          clear hr hb
          go_wp2_with fail
          refine (len_my_u32 _ _ _ _ _ _ _ hr1).mono ?_
          rintro e w2 ⟨rfl, rfl⟩
          go_wp2_with fail
          refine (room_my_u32 _ _ _ _ _ _ _ hr1).mono ?_
          rintro e w2 ⟨rfl, hr2, hb2⟩
          go_wp2_with fail
          refine (works_any _).mono ?_
          rintro e w3 ⟨rfl, hb3⟩
          go_wp2
          go_ret
          exact ⟨rfl, HB.out.trans (hb2.trans (hb3.mono (by have := hr2.size; omega)))⟩

set_option maxRecDepth 100000 in
set_option maxHeartbeats 800000 in
theorem ringOrder_walk (room : Int) (a0 : Option Addr) (L cap0 : Nat) (zs : List Int) (ap : Option Addr) (M capp : Nat) (ps : List Int) (w : World) (wr : (Lit.int .u8 room).wf = true) (hz : IsRow .u32 w a0 L cap0 zs) (hp : IsRow .u8 w ap M capp ps) :
    Calls Try.prog 4 #[.int .u8 room, .slice a0 L cap0, .slice ap M capp] w fun e w' => e = .returned (.bool true) ∧ Below w.heap.size w w' := by
  have hr := wf_u8_in wr
  obtain ⟨n, hn⟩ : ∃ n : Nat, 1 + room = (n : Int) := ⟨(1 + room).toNat, by omega⟩
  by_cases hL : L ≤ 300
  · by_cases hM : M ≤ 300
    · exact orderF w room n hr hn a0 L cap0 _ ap M capp _ hz.nums.1 hp.nums.1 hL hM
    · have g1 : decide (300 < (L : Int)) = false := by rw [decide_eq_false_iff_not]; omega
      have g2 : 300 < (M : Int) := by omega
      clear hz hp hL hM wr hr hn
      go_enter Try.func4, Try.ntmps4
      go_wp2_with fail
      refine (works_any _).mono ?_
      rintro e w3 ⟨rfl, hb3⟩
      go_wp2
      go_ret
      exact ⟨rfl, hb3⟩
  · have g1 : 300 < (L : Int) := by omega
    clear hz hp hL wr hr hn
    go_enter Try.func4, Try.ntmps4
    go_wp2_with fail
    refine (works_any _).mono ?_
    rintro e w3 ⟨rfl, hb3⟩
    go_wp2
    go_ret
    exact ⟨rfl, hb3⟩
end Go.Proofs.Ytdlcmmodhicieaa
