/-
  The walk of SpansGaps.
-/
import Derived.Test.YtjdkbcecnlfhjaaLSpOrder
import Derived.Test.YtjdkbcecnlfhjaaVals
import Derived.Maps.RangeWalk
namespace Go.Proofs.Ytjdkbcecnlfhjaa
open Go.RowKit
set_option linter.unusedVariables false

theorem IsGaps.lst {f : Nat → Bool} {lo : Nat} {L : List (Nat × Nat)} (h : IsGaps f lo L) : ∀ p (M : List (Nat × Nat)), L = M ++ [p] → ∀ d, lo ≤ d → f d = true → d ≤ p.2 := by
  induction L generalizing lo with
  | nil => intro p M e; simp at e
  | cons q L ih =>
    obtain ⟨a, b⟩ := q
    obtain ⟨h1, h2, h3, h4, h5, h6⟩ := h
    intro p M e d hd hf
    cases M with
    | nil =>
      simp at e
      obtain ⟨e1, e2⟩ := e
      subst e1 e2
      by_cases hb : d ≤ b
      · exact hb
      · exfalso
        by_cases hb1 : d = b + 1
        · subst hb1; rw [h5] at hf; cases hf
        · have := h6 d (by omega); rw [hf] at this; cases this
    | cons r M =>
      simp at e
      have hp : b ≤ p.2 := by
        have hm : p ∈ L := by rw [e.2]; simp
        have key : ∀ {lo : Nat} {L : List (Nat × Nat)}, IsGaps f lo L → ∀ q ∈ L, lo ≤ q.2 := by
          intro lo L h
          induction L generalizing lo with
          | nil => intro q hq; cases hq
          | cons q' L ih' =>
            obtain ⟨a', b'⟩ := q'
            obtain ⟨g1, g2, g3, g4, g5, g6⟩ := h
            intro q hq
            rcases List.mem_cons.1 hq with rfl | hq
            · show lo ≤ b'; omega
            · have := ih' g6 q hq; omega
        have := key h6 p hm
        omega
      by_cases hb : b + 2 ≤ d
      · exact ih h6 p M e.2 d hb hf
      · by_cases hb1 : d = b + 1
        · subst hb1; rw [h5] at hf; cases hf
        · omega

theorem IsGaps.last_in {f : Nat → Bool} {lo : Nat} {L : List (Nat × Nat)} (h : IsGaps f lo L) : ∀ p ∈ L, f p.2 = true := by
  induction L generalizing lo with
  | nil => intro p hp; cases hp
  | cons q L ih =>
    obtain ⟨a, b⟩ := q
    obtain ⟨h1, h2, h3, h4, h5, h6⟩ := h
    intro p hp
    rcases List.mem_cons.1 hp with rfl | hp
    · exact h4 _ h2 (Nat.le_refl _)
    · exact ih h6 p hp

theorem cnt_end {f : Nat → Bool} (hs : Sup f) (lo : Nat) (h1 : 1 ≤ lo) (h2 : lo ≤ 4098) (h : ∀ d, lo ≤ d → f d = false) : cntTo f (lo - 1) = cnt f := by
  unfold cnt
  by_cases e : lo - 1 ≤ 4096
  · exact (cntTo_pass f (lo - 1) 4096 e (fun d a b => h d (by omega))).symm
  · have : lo - 1 = 4097 := by omega
    rw [this, cntTo_succ, hs.far (by omega)]
    simp
theorem cnt_gap {f : Nat → Bool} (lo a b : Nat) (h0 : 1 ≤ lo) (h1 : lo ≤ a) (h2 : a ≤ b) (h3 : ∀ d, lo ≤ d → d < a → f d = false) (h4 : ∀ d, a ≤ d → d ≤ b → f d = true) (h5 : f (b + 1) = false) :
    ((cntTo f (b + 2 - 1) : Nat) : Int) = ((cntTo f (lo - 1) : Nat) : Int) + b - a + 1 := by
  have e1 : cntTo f (b + 2 - 1) = cntTo f b := by
    rw [show b + 2 - 1 = b + 1 by omega, cntTo_succ, h5]; simp
  have e2 := cntTo_run f (a - 1) b (by omega) (fun d x y => h4 d (by omega) y)
  have e3 := cntTo_pass f (lo - 1) (a - 1) (by omega) (fun d x y => h3 d (by omega) (by omega))
  omega

set_option maxRecDepth 100000 in
set_option maxHeartbeats 800000 in
theorem gapsF (w : World) (f : Nat → Bool) (hsup : Sup f) (base : Int) (hb : 0 ≤ base ∧ base ≤ 4294967295) (a : Option Addr) (len cap : Nat) (ys : List Int) (hu : ∀ w', Turn [] w w' → U32s w' a len ys) (hfy : ∀ d, f d = among ys d) (hcap : len ≤ cap) (hlen : len ≤ 200)
    (hf : Calls Try.prog 28 #[.int .u32 base, .slice a len cap] w (RetSet base f w)) :
    Calls Try.prog 4 #[.int .u32 base, .slice a len cap] w fun e w' => e = .returned (.bool true) ∧ Below w.heap.size w w' := by
  obtain ⟨m, hL⟩ := Lst.exist f hsup
  obtain ⟨G, hG⟩ := IsGaps.exist f hsup 1
  have hGl := (gaps_all hsup hG).2
  have hcl := cnt_le f
  have hshf0 : shf 0 f = f := shf_zero hsup
  have hbb : (base + ((0 : Nat) : Int)) % 4294967296 = base := by omega
  have HSH0 := Lib.hid hshf0
  have HBB := Lib.hid hbb
  have HL := Lib.hid hL
  have HG := Lib.hid hG
  have HU := Lib.hid hu
  have HFY := Lib.hid hfy
  clear hL hG hu hfy hshf0 hbb
  go_enter Try.func4, Try.ntmps4
  go_wp2_with fail
  refine hf.mono ?_
  rintro e w1 ⟨sb, bm, rfl, hsb, hbm, hs1, ht1⟩
  have HT1 := Lib.hid ht1
  have hg1 := gaps_full w1 sb bm base f hs1 m HL.out G HG.out
  clear ht1 hf
  go_wp2_with fail
  refine hg1.mono ?_
  rintro e w2 ⟨ag, cg, rfl, hcg, hrg, ht2⟩
  have hs2 := hs1.turn ht2 (by simp) (by simp)
  have HT2 := Lib.hid (HT1.out.trans ht2)
  have HS2 := Lib.hid hs2
  have HRG := Lib.hid hrg
  clear ht2 hg1 hs1 hs2 hrg
  go_wp2
  go_loop [7, 8, 9] (fun n l i => ∃ (pre rest : List (Nat × Nat)) (lo : Nat), Hid (pre ++ rest = G) ∧ 1 ≤ lo ∧ lo ≤ 4098 ∧ Hid (IsGaps f lo rest) ∧ n = .int .i64 ((cntTo f (lo - 1) : Nat) : Int) ∧ l = .int .i64 ((lo : Int) - 2) ∧ i = .int .i64 (pre.length : Int)) (fun _ _ i => G.length - (intOf i).toNat)
  case atStart => exact ⟨[], G, 1, Lib.hid rfl, by omega, by omega, HG, rfl, rfl, rfl⟩
  case round =>
    obtain ⟨pre, rest, lo, HPR, hlo1, hlo2, HREST, rfl, rfl, rfl⟩ := hrel
    cases rest with
    | cons q R =>
      obtain ⟨x, y⟩ := q
      obtain ⟨h1, h2, h3, h4, h5, h6⟩ := HREST.out
      have hGi : G[pre.length]? = some (x, y) := by rw [← HPR.out]; simp
      have hplt : pre.length < G.length := (List.getElem?_eq_some_iff.1 hGi).1
      obtain ⟨g, rfl, hg1, hg2, hg3⟩ := HRG.out pre.length (x, y) hGi
      have hy := hsup y (h4 y h2 (Nat.le_refl _))
      have hx := hsup x (h4 x (Nat.le_refl _) h2)
      have hcl2 := cntTo_le f (lo - 1)
      have HCG := Lib.hid (cnt_gap lo x y hlo1 h1 h2 h3 h4 h5)
      have H4 := Lib.hid h4
      have H5 := Lib.hid h5
      have H6 := Lib.hid h6
      have hPR2 : Hid ((pre ++ [(x, y)]) ++ R = G) := by show _ = _; rw [← HPR.out]; simp
      have hpl : (pre ++ [(x, y)]).length = pre.length + 1 := by simp
      have HPL := Lib.hid hpl
      clear h3 h4 h5 h6 hGi hpl
      generalize cntTo f (lo - 1) = cc at *
      generalize hpp : pre.length = p at *
      have HPP := Lib.hid hpp
      clear hpp
      have q1 : decide ((4096 : Int) < (y : Int)) = false := by simp; omega
      have q2 : decide ((x : Int) < 1) = false := by simp; omega
      go_wp2
      go_loop [12] (fun v => ∃ k : Nat, x ≤ k ∧ k ≤ y + 1 ∧ v = .int .i64 k) (fun v => y + 1 - (intOf v).toNat)
      case atStart => exact ⟨x, by omega, by omega, rfl⟩
      case round =>
        obtain ⟨k, hk1, hk2, rfl⟩ := hrel
        by_cases hlt : k ≤ y
        · go_wp2_with fail
          refine (within_at w2 _ k (by first | rfl | omega) (by omega) a len cap ys (HU.out w2 HT2.out) true (by rw [← HFY.out]; exact H4.out k hk1 hlt)).mono ?_
          rintro e w' ⟨rfl, rfl⟩
          go_wp2_with fail
          refine (has_at w2 sb bm base ((base + (k : Int)) % 4294967296) _ HS2.out (by omega) k (dist_add base k (by omega)) true (H4.out k hk1 hlt)).mono ?_
          rintro e w' ⟨rfl, rfl⟩
          go_wp2
          go_round
          case rel => exact ⟨k + 1, by omega, by omega, by go_num⟩
          case measure => simp [intOf]; omega
        · go_wp2
          go_round
          case rel =>
            refine ⟨pre ++ [(x, y)], R, y + 2, hPR2, by omega, by omega, H6, ?_, ?_, ?_⟩
            · rw [HCG.out]
            · congr 1; omega
            · rw [HPL.out]; congr 1
          case measure => simp [intOf]; omega
    | nil =>
      have hend := HREST.out
      have hcn := cnt_end hsup lo hlo1 hlo2 hend
      have hG0 : G = pre := by rw [← HPR.out]; simp
      subst hG0
      rw [hcn]
      clear hend hcn HPR HREST
      go_wp2
      go_loopw [13] (fun x wr => ∃ i : Nat, i ≤ len ∧ x = .int .i64 i ∧ IsSet wr sb bm base f ∧ Turn [] w wr ∧ GapRead wr ag G) (fun x _ => len - (intOf x).toNat)
      case atStart => exact ⟨0, by omega, rfl, HS2.out, HT2.out, HRG.out⟩
      case round =>
        obtain ⟨i, hi, rfl, hset, hturn, hgr⟩ := hrel
        have HSET := Lib.hid hset
        have HTURN := Lib.hid hturn
        have HGR := Lib.hid hgr
        clear hset hturn hgr
        by_cases hil : i < len
        · have hU := HU.out wr HTURN.out
          have hil' : i < ys.length := by rw [hU.1]; exact hil
          obtain ⟨g, off, rfl, hg1, hg2⟩ := hU.2.2.2 i ys[i] (by simp [hil'])
          have hz := hU.2.2.1 ys[i] (List.getElem_mem hil')
          have hfz : Hid (1 ≤ ys[i] → ys[i] ≤ 4096 → f ys[i].toNat = true) := by
            intro h1 h2
            rw [HFY.out]
            unfold among
            rw [(near_iff _).2 (by omega), Bool.true_and, List.any_eq_true]
            exact ⟨ys[i], List.getElem_mem hil', by simp⟩
          clear hU
          generalize ys[i] = z at *
          have hq := fun j b hbb => has_q wr j sb bm base ((base + z) % 4294967296) f HSET.out (by omega) b hbb
          rw [dist_addI base z ⟨hz.1, by omega⟩] at hq
          have HQ := Lib.hid hq
          clear hq
          by_cases h1 : 1 ≤ z
          · by_cases h2 : z ≤ 4096
            · have e1 : decide (1 ≤ z) = true := by simpa using h1
              have e2 : decide (z ≤ 4096) = true := by simpa using h2
              have hb9 : Hid (f z.toNat = true) := hfz.out h1 h2
              go_wp2
              go_quiet ((go_at_call 14; exact HQ.out _ true hb9.out))
              go_wp2
              go_roundw
              case rel => exact ⟨i + 1, by omega, by go_num, HSET.out.turn (bs := []) ((Turn.refl _ _).drewN _) (by simp) (by simp), HTURN.out.drewN _, HGR.out.turn ((Turn.refl _ _).drewN _)⟩
              case measure => simp [intOf]; omega
            · have e1 : decide (1 ≤ z) = true := by simpa using h1
              have e2 : decide (z ≤ 4096) = false := by simpa using h2
              have hb8 : 4096 < z.toNat := by omega
              have hb9 : Hid (f z.toNat = false) := Lib.hid (hsup.far hb8)
              clear hb8
              go_wp2
              go_quiet ((go_at_call 14; exact HQ.out _ false hb9.out))
              go_wp2
              go_roundw
              case rel => exact ⟨i + 1, by omega, by go_num, HSET.out.turn (bs := []) ((Turn.refl _ _).drewN _) (by simp) (by simp), HTURN.out.drewN _, HGR.out.turn ((Turn.refl _ _).drewN _)⟩
              case measure => simp [intOf]; omega
          · have e1 : decide (1 ≤ z) = false := by simpa using h1
            have hb9 : Hid (f z.toNat = false) := by
              have h0 : z.toNat = 0 := by omega
              rw [h0]; exact hsup.zero
            clear h1
            go_wp2
            go_quiet ((go_at_call 14; exact HQ.out _ false hb9.out))
            go_wp2
            go_roundw
            case rel => exact ⟨i + 1, by omega, by go_num, HSET.out.turn (bs := []) ((Turn.refl _ _).drewN _) (by simp) (by simp), HTURN.out.drewN _, HGR.out.turn ((Turn.refl _ _).drewN _)⟩
            case measure => simp [intOf]; omega
        · obtain rfl : i = len := by omega
          rcases List.eq_nil_or_concat G with hG0 | ⟨M, q, hG0⟩
          · have hm0 : (base + (m : Int)) % 4294967296 = base := by
              have hz : m = 0 := by
                rcases HL.out.1 with e | e
                · exact e
                · have hg := HG.out
                  rw [hG0] at hg
                  have := hg m (hsup m e).1
                  rw [e] at this; cases this
              rw [hz]; omega
            have hla : ∀ W, Turn [] wr W → Calls Try.prog 26 #[.pointer (some ⟨sb, 0, none⟩)] W _ := fun W ht => last_at W sb bm base f (HSET.out.turn ht (by simp) (by simp)) m HL.out base hm0
            have HLA := Lib.hid hla
            subst hG0
            clear hla hm0 hGl
            go_wp2
            refine wp_region_any (by kernel_rfl) ?_
            refine Vals.wpAny_vals [(114, .slice ag 0 cg), (115, .int .i64 0), (116, .bool false), (117, .bool false), (118, undef), (119, undef), (120, undef), (121, undef), (122, undef), (123, undef), (124, undef), (125, undef), (126, undef), (127, undef), (128, undef), (129, undef), (130, undef), (131, .bool false), (132, .bool false), (133, .slice ag 0 cg), (134, .int .i64 0), (135, .bool true), (136, .bool true), (137, .pointer (some ⟨sb, 0, none⟩)), (138, .int .u32 base), (139, .int .u32 base), (140, .bool false), (141, .bool false), (142, .bool false)] [114, 115, 116, 117, 118, 119, 120, 121, 122, 123, 124, 125, 126, 127, 128, 129, 130, 131, 132, 133, 134, 135, 136, 137, 138, 139, 140, 141, 142] 150 (fun W => Turn [] wr W) _ _ rfl (by kernel_rfl) rfl (by kernel_rfl) (by decide) ?step ?fin ((Turn.refl _ _).drew)
            case step =>
              intro i o p ho hp a W hI hdf hdep hfr K hK
              match i, ho, hp with
              | 0, ho, hp =>
                have ho' := ho
                simp only [List.getElem?_toArray, List.getElem?_cons_zero, Option.some.injEq] at ho hp
                subst ho hp
                have r6 : a.eval (.tmp 6) = .slice ag 0 cg := hfr 6 (by decide)
                rw [Vals.eval_tmp] at r6
                refine Vals.wpOp_run ho' rfl ?_
                clear hdf hdep hfr ho'
                go_simp
                exact hK _ hI
              | 1, ho, hp =>
                have ho' := ho
                simp only [List.getElem?_toArray, List.getElem?_cons_zero, List.getElem?_cons_succ, Option.some.injEq] at ho hp
                subst ho hp
                have r114 : a.eval (.tmp 114) = .slice ag 0 cg := hdep ⟨0, .data⟩ (by simp) rfl (114, .slice ag 0 cg) rfl
                rw [Vals.eval_tmp] at r114
                refine Vals.wpOp_run ho' rfl ?_
                clear hdf hdep hfr ho'
                go_simp
                exact hK _ hI
              | 2, ho, hp =>
                have ho' := ho
                simp only [List.getElem?_toArray, List.getElem?_cons_zero, List.getElem?_cons_succ, Option.some.injEq] at ho hp
                subst ho hp
                have r115 : a.eval (.tmp 115) = .int .i64 0 := hdep ⟨1, .data⟩ (by simp) rfl (115, .int .i64 0) rfl
                rw [Vals.eval_tmp] at r115
                refine Vals.wpOp_run ho' rfl ?_
                clear hdf hdep hfr ho'
                go_simp
                exact hK _ hI
              | 3, ho, hp =>
                have ho' := ho
                simp only [List.getElem?_toArray, List.getElem?_cons_zero, List.getElem?_cons_succ, Option.some.injEq] at ho hp
                subst ho hp
                have r116 : a.eval (.tmp 116) = .bool false := hdep ⟨2, .data⟩ (by simp) rfl (116, .bool false) rfl
                rw [Vals.eval_tmp] at r116
                refine Vals.wpOp_run ho' rfl ?_
                clear hdf hdep hfr ho'
                go_simp
                exact hK _ hI
              | 4, ho, hp =>
                have ho' := ho
                simp only [List.getElem?_toArray, List.getElem?_cons_zero, List.getElem?_cons_succ, Option.some.injEq] at ho hp
                subst ho hp
                have hg : a.eval (.tmp 117) = .bool false := hdep ⟨3, .guard⟩ (by simp) rfl (117, .bool false) rfl
                exact Vals.wpOp_skip ho' (by unfold Region.wanted; simp only []; rw [Vals.yielded_of (d := 117) rfl hg]; rfl) (hK _ hI)
              | 5, ho, hp =>
                have ho' := ho
                simp only [List.getElem?_toArray, List.getElem?_cons_zero, List.getElem?_cons_succ, Option.some.injEq] at ho hp
                subst ho hp
                have hg : a.eval (.tmp 117) = .bool false := hdep ⟨3, .guard⟩ (by simp) rfl (117, .bool false) rfl
                exact Vals.wpOp_skip ho' (by unfold Region.wanted; simp only []; rw [Vals.yielded_of (d := 117) rfl hg]; rfl) (hK _ hI)
              | 6, ho, hp =>
                have ho' := ho
                simp only [List.getElem?_toArray, List.getElem?_cons_zero, List.getElem?_cons_succ, Option.some.injEq] at ho hp
                subst ho hp
                have hg : a.eval (.tmp 117) = .bool false := hdep ⟨3, .guard⟩ (by simp) rfl (117, .bool false) rfl
                exact Vals.wpOp_skip ho' (by unfold Region.wanted; simp only []; rw [Vals.yielded_of (d := 117) rfl hg]; rfl) (hK _ hI)
              | 7, ho, hp =>
                have ho' := ho
                simp only [List.getElem?_toArray, List.getElem?_cons_zero, List.getElem?_cons_succ, Option.some.injEq] at ho hp
                subst ho hp
                have hg : a.eval (.tmp 117) = .bool false := hdep ⟨3, .guard⟩ (by simp) rfl (117, .bool false) rfl
                exact Vals.wpOp_skip ho' (by unfold Region.wanted; simp only []; rw [Vals.yielded_of (d := 117) rfl hg]; rfl) (hK _ hI)
              | 8, ho, hp =>
                have ho' := ho
                simp only [List.getElem?_toArray, List.getElem?_cons_zero, List.getElem?_cons_succ, Option.some.injEq] at ho hp
                subst ho hp
                have hg : a.eval (.tmp 117) = .bool false := hdep ⟨3, .guard⟩ (by simp) rfl (117, .bool false) rfl
                exact Vals.wpOp_skip ho' (by unfold Region.wanted; simp only []; rw [Vals.yielded_of (d := 117) rfl hg]; rfl) (hK _ hI)
              | 9, ho, hp =>
                have ho' := ho
                simp only [List.getElem?_toArray, List.getElem?_cons_zero, List.getElem?_cons_succ, Option.some.injEq] at ho hp
                subst ho hp
                have hg : a.eval (.tmp 117) = .bool false := hdep ⟨3, .guard⟩ (by simp) rfl (117, .bool false) rfl
                exact Vals.wpOp_skip ho' (by unfold Region.wanted; simp only []; rw [Vals.yielded_of (d := 117) rfl hg]; rfl) (hK _ hI)
              | 10, ho, hp =>
                have ho' := ho
                simp only [List.getElem?_toArray, List.getElem?_cons_zero, List.getElem?_cons_succ, Option.some.injEq] at ho hp
                subst ho hp
                have hg : a.eval (.tmp 117) = .bool false := hdep ⟨3, .guard⟩ (by simp) rfl (117, .bool false) rfl
                exact Vals.wpOp_skip ho' (by unfold Region.wanted; simp only []; rw [Vals.yielded_of (d := 117) rfl hg]; rfl) (hK _ hI)
              | 11, ho, hp =>
                have ho' := ho
                simp only [List.getElem?_toArray, List.getElem?_cons_zero, List.getElem?_cons_succ, Option.some.injEq] at ho hp
                subst ho hp
                have hg : a.eval (.tmp 117) = .bool false := hdep ⟨3, .guard⟩ (by simp) rfl (117, .bool false) rfl
                exact Vals.wpOp_skip ho' (by unfold Region.wanted; simp only []; rw [Vals.yielded_of (d := 117) rfl hg]; rfl) (hK _ hI)
              | 12, ho, hp =>
                have ho' := ho
                simp only [List.getElem?_toArray, List.getElem?_cons_zero, List.getElem?_cons_succ, Option.some.injEq] at ho hp
                subst ho hp
                have hg : a.eval (.tmp 117) = .bool false := hdep ⟨3, .guard⟩ (by simp) rfl (117, .bool false) rfl
                exact Vals.wpOp_skip ho' (by unfold Region.wanted; simp only []; rw [Vals.yielded_of (d := 117) rfl hg]; rfl) (hK _ hI)
              | 13, ho, hp =>
                have ho' := ho
                simp only [List.getElem?_toArray, List.getElem?_cons_zero, List.getElem?_cons_succ, Option.some.injEq] at ho hp
                subst ho hp
                have hg : a.eval (.tmp 117) = .bool false := hdep ⟨3, .guard⟩ (by simp) rfl (117, .bool false) rfl
                exact Vals.wpOp_skip ho' (by unfold Region.wanted; simp only []; rw [Vals.yielded_of (d := 117) rfl hg]; rfl) (hK _ hI)
              | 14, ho, hp =>
                have ho' := ho
                simp only [List.getElem?_toArray, List.getElem?_cons_zero, List.getElem?_cons_succ, Option.some.injEq] at ho hp
                subst ho hp
                have hg : a.eval (.tmp 117) = .bool false := hdep ⟨3, .guard⟩ (by simp) rfl (117, .bool false) rfl
                exact Vals.wpOp_skip ho' (by unfold Region.wanted; simp only []; rw [Vals.yielded_of (d := 117) rfl hg]; rfl) (hK _ hI)
              | 15, ho, hp =>
                have ho' := ho
                simp only [List.getElem?_toArray, List.getElem?_cons_zero, List.getElem?_cons_succ, Option.some.injEq] at ho hp
                subst ho hp
                have hg : a.eval (.tmp 117) = .bool false := hdep ⟨3, .guard⟩ (by simp) rfl (117, .bool false) rfl
                exact Vals.wpOp_skip ho' (by unfold Region.wanted; simp only []; rw [Vals.yielded_of (d := 117) rfl hg]; rfl) (hK _ hI)
              | 16, ho, hp =>
                have ho' := ho
                simp only [List.getElem?_toArray, List.getElem?_cons_zero, List.getElem?_cons_succ, Option.some.injEq] at ho hp
                subst ho hp
                have hg : a.eval (.tmp 117) = .bool false := hdep ⟨3, .guard⟩ (by simp) rfl (117, .bool false) rfl
                exact Vals.wpOp_skip ho' (by unfold Region.wanted; simp only []; rw [Vals.yielded_of (d := 117) rfl hg]; rfl) (hK _ hI)
              | 17, ho, hp =>
                have ho' := ho
                simp only [List.getElem?_toArray, List.getElem?_cons_zero, List.getElem?_cons_succ, Option.some.injEq] at ho hp
                subst ho hp
                have r117 : a.eval (.tmp 117) = .bool false := hdep ⟨3, .data⟩ (by simp) rfl (117, .bool false) rfl
                rw [Vals.eval_tmp] at r117
                have r130 : a.eval (.tmp 130) = undef := hdep ⟨16, .data⟩ (by simp) rfl (130, undef) rfl
                rw [Vals.eval_tmp] at r130
                refine Vals.wpOp_run ho' rfl ?_
                clear hdf hdep hfr ho'
                go_simp
                exact hK _ hI
              | 18, ho, hp =>
                have ho' := ho
                simp only [List.getElem?_toArray, List.getElem?_cons_zero, List.getElem?_cons_succ, Option.some.injEq] at ho hp
                subst ho hp
                have r131 : a.eval (.tmp 131) = .bool false := hdep ⟨17, .data⟩ (by simp) rfl (131, .bool false) rfl
                rw [Vals.eval_tmp] at r131
                refine Vals.wpOp_run ho' rfl ?_
                clear hdf hdep hfr ho'
                go_simp
                exact hK _ hI
              | 19, ho, hp =>
                have ho' := ho
                simp only [List.getElem?_toArray, List.getElem?_cons_zero, List.getElem?_cons_succ, Option.some.injEq] at ho hp
                subst ho hp
                have hg : a.eval (.tmp 132) = .bool false := hdep ⟨18, .guard⟩ (by simp) rfl (132, .bool false) rfl
                have r6 : a.eval (.tmp 6) = .slice ag 0 cg := hfr 6 (by decide)
                rw [Vals.eval_tmp] at r6
                refine Vals.wpOp_run ho' (by unfold Region.wanted; simp only []; rw [Vals.yielded_of (d := 132) rfl hg]; rfl) ?_
                clear hdf hdep hfr ho' hg
                go_simp
                exact hK _ hI
              | 20, ho, hp =>
                have ho' := ho
                simp only [List.getElem?_toArray, List.getElem?_cons_zero, List.getElem?_cons_succ, Option.some.injEq] at ho hp
                subst ho hp
                have hg : a.eval (.tmp 132) = .bool false := hdep ⟨18, .guard⟩ (by simp) rfl (132, .bool false) rfl
                have r133 : a.eval (.tmp 133) = .slice ag 0 cg := hdep ⟨19, .data⟩ (by simp) rfl (133, .slice ag 0 cg) rfl
                rw [Vals.eval_tmp] at r133
                refine Vals.wpOp_run ho' (by unfold Region.wanted; simp only []; rw [Vals.yielded_of (d := 132) rfl hg]; rfl) ?_
                clear hdf hdep hfr ho' hg
                go_simp
                exact hK _ hI
              | 21, ho, hp =>
                have ho' := ho
                simp only [List.getElem?_toArray, List.getElem?_cons_zero, List.getElem?_cons_succ, Option.some.injEq] at ho hp
                subst ho hp
                have hg : a.eval (.tmp 132) = .bool false := hdep ⟨18, .guard⟩ (by simp) rfl (132, .bool false) rfl
                have r134 : a.eval (.tmp 134) = .int .i64 0 := hdep ⟨20, .data⟩ (by simp) rfl (134, .int .i64 0) rfl
                rw [Vals.eval_tmp] at r134
                refine Vals.wpOp_run ho' (by unfold Region.wanted; simp only []; rw [Vals.yielded_of (d := 132) rfl hg]; rfl) ?_
                clear hdf hdep hfr ho' hg
                go_simp
                exact hK _ hI
              | 22, ho, hp =>
                have ho' := ho
                simp only [List.getElem?_toArray, List.getElem?_cons_zero, List.getElem?_cons_succ, Option.some.injEq] at ho hp
                subst ho hp
                have hg : a.eval (.tmp 132) = .bool false := hdep ⟨18, .guard⟩ (by simp) rfl (132, .bool false) rfl
                have r135 : a.eval (.tmp 135) = .bool true := hdep ⟨21, .data⟩ (by simp) rfl (135, .bool true) rfl
                rw [Vals.eval_tmp] at r135
                refine Vals.wpOp_run ho' (by unfold Region.wanted; simp only []; rw [Vals.yielded_of (d := 132) rfl hg]; rfl) ?_
                clear hdf hdep hfr ho' hg
                go_simp
                exact hK _ hI
              | 23, ho, hp =>
                have ho' := ho
                simp only [List.getElem?_toArray, List.getElem?_cons_zero, List.getElem?_cons_succ, Option.some.injEq] at ho hp
                subst ho hp
                have hg : a.eval (.tmp 136) = .bool true := hdep ⟨22, .guard⟩ (by simp) rfl (136, .bool true) rfl
                have r5 : a.eval (.tmp 5) = .pointer (some ⟨sb, 0, none⟩) := hfr 5 (by decide)
                rw [Vals.eval_tmp] at r5
                refine Vals.wpOp_run ho' (by unfold Region.wanted; simp only []; rw [Vals.yielded_of (d := 136) rfl hg]; rfl) ?_
                clear hdf hdep hfr ho' hg
                go_simp
                exact hK _ hI
              | 24, ho, hp =>
                have ho' := ho
                simp only [List.getElem?_toArray, List.getElem?_cons_zero, List.getElem?_cons_succ, Option.some.injEq] at ho hp
                subst ho hp
                have hg : a.eval (.tmp 136) = .bool true := hdep ⟨22, .guard⟩ (by simp) rfl (136, .bool true) rfl
                have r137 : a.eval (.tmp 137) = .pointer (some ⟨sb, 0, none⟩) := hdep ⟨23, .data⟩ (by simp) rfl (137, .pointer (some ⟨sb, 0, none⟩)) rfl
                rw [Vals.eval_tmp] at r137
                refine Vals.wpOp_run ho' (by unfold Region.wanted; simp only []; rw [Vals.yielded_of (d := 136) rfl hg]; rfl) ?_
                clear hdf hdep hfr ho' hg
                go_simp
                refine (HLA.out _ hI).mono ?_
                rintro e w' ⟨rfl, ht⟩
                exact hK _ (hI.trans ht)
              | 25, ho, hp =>
                have ho' := ho
                simp only [List.getElem?_toArray, List.getElem?_cons_zero, List.getElem?_cons_succ, Option.some.injEq] at ho hp
                subst ho hp
                have hg : a.eval (.tmp 136) = .bool true := hdep ⟨22, .guard⟩ (by simp) rfl (136, .bool true) rfl
                have r0 : a.eval (.tmp 0) = .int .u32 base := hfr 0 (by decide)
                rw [Vals.eval_tmp] at r0
                refine Vals.wpOp_run ho' (by unfold Region.wanted; simp only []; rw [Vals.yielded_of (d := 136) rfl hg]; rfl) ?_
                clear hdf hdep hfr ho' hg
                go_simp
                exact hK _ hI
              | 26, ho, hp =>
                have ho' := ho
                simp only [List.getElem?_toArray, List.getElem?_cons_zero, List.getElem?_cons_succ, Option.some.injEq] at ho hp
                subst ho hp
                have hg : a.eval (.tmp 136) = .bool true := hdep ⟨22, .guard⟩ (by simp) rfl (136, .bool true) rfl
                have r138 : a.eval (.tmp 138) = .int .u32 base := hdep ⟨24, .data⟩ (by simp) rfl (138, .int .u32 base) rfl
                rw [Vals.eval_tmp] at r138
                have r139 : a.eval (.tmp 139) = .int .u32 base := hdep ⟨25, .data⟩ (by simp) rfl (139, .int .u32 base) rfl
                rw [Vals.eval_tmp] at r139
                refine Vals.wpOp_run ho' (by unfold Region.wanted; simp only []; rw [Vals.yielded_of (d := 136) rfl hg]; rfl) ?_
                clear hdf hdep hfr ho' hg
                go_simp
                exact hK _ hI
              | 27, ho, hp =>
                have ho' := ho
                simp only [List.getElem?_toArray, List.getElem?_cons_zero, List.getElem?_cons_succ, Option.some.injEq] at ho hp
                subst ho hp
                have hg : a.eval (.tmp 132) = .bool false := hdep ⟨18, .guard⟩ (by simp) rfl (132, .bool false) rfl
                have r136 : a.eval (.tmp 136) = .bool true := hdep ⟨22, .data⟩ (by simp) rfl (136, .bool true) rfl
                rw [Vals.eval_tmp] at r136
                have r140 : a.eval (.tmp 140) = .bool false := hdep ⟨26, .data⟩ (by simp) rfl (140, .bool false) rfl
                rw [Vals.eval_tmp] at r140
                refine Vals.wpOp_run ho' (by unfold Region.wanted; simp only []; rw [Vals.yielded_of (d := 132) rfl hg]; rfl) ?_
                clear hdf hdep hfr ho' hg
                go_simp
                exact hK _ hI
              | 28, ho, hp =>
                have ho' := ho
                simp only [List.getElem?_toArray, List.getElem?_cons_zero, List.getElem?_cons_succ, Option.some.injEq] at ho hp
                subst ho hp
                have r132 : a.eval (.tmp 132) = .bool false := hdep ⟨18, .data⟩ (by simp) rfl (132, .bool false) rfl
                rw [Vals.eval_tmp] at r132
                have r141 : a.eval (.tmp 141) = .bool false := hdep ⟨27, .data⟩ (by simp) rfl (141, .bool false) rfl
                rw [Vals.eval_tmp] at r141
                refine Vals.wpOp_run ho' rfl ?_
                clear hdf hdep hfr ho'
                go_simp
                exact hK _ hI
              | i + 29, ho, hp => simp at ho
            case fin =>
              intro w5 ht5
              have HT5 := Lib.hid (HTURN.out.trans ht5)
              have HS5 := Lib.hid (HSET.out.turn ht5 (by simp) (by simp))
              clear ht5
              simp only [Vals.puts, List.foldl_cons, List.foldl_nil]
              go_frame
              have hc5 := count_any w5 sb bm base f HS5.out
              go_wp2_with fail
              refine hc5.mono ?_
              rintro e w' ⟨rfl, rfl⟩
              clear hc5
              go_wp2_with fail
              refine (works_any w5).mono ?_
              rintro e w6 ⟨rfl, ht6⟩
              have HT6 := Lib.hid (HT5.out.trans ht6)
              clear ht6
              go_wp2
              go_ret
              exact ⟨rfl, HT6.out.below (Nat.le_refl _) (by simp)⟩
          · obtain ⟨x, y⟩ := q
            obtain ⟨pn, hpn⟩ : ∃ pn, M.length = pn := ⟨_, rfl⟩
            have hGn : G.length = pn + 1 := by rw [hG0]; simp [hpn]
            have hGi : G[pn]? = some (x, y) := by rw [hG0]; simp [← hpn]
            have hmem : (x, y) ∈ G := List.mem_of_getElem? hGi
            obtain ⟨g, rfl, hgl, _, hgc⟩ := HGR.out pn (x, y) hGi
            have hyin := HG.out.last_in _ hmem
            have hy : y ≤ 4096 := (hsup _ hyin).2
            have hmy : m = y := by
              have h1 : y ≤ m := HL.out.2 y hyin
              have h2 : m ≤ y := by
                rcases HL.out.1 with e | e
                · omega
                · exact HG.out.lst (x, y) M (by rw [hG0]; simp) m (hsup m e).1 e
              omega
            have hla : ∀ W, Turn [] wr W → Calls Try.prog 26 #[.pointer (some ⟨sb, 0, none⟩)] W _ := fun W ht => last_at W sb bm base f (HSET.out.turn ht (by simp) (by simp)) m HL.out ((base + (y : Int)) % 4294967296) (by rw [hmy])
            have HLA := Lib.hid hla
            clear hla hmy hyin hmem hGi hG0 hpn
            have hpb : pn ≤ 4096 := by omega
            rw [hGn]
            clear hGn hGl
            go_wp2
            refine wp_region_any (by kernel_rfl) ?_
            refine Vals.wpAny_vals [(114, .slice (some ⟨g, 0, none⟩) (pn + 1) cg), (115, .int .i64 ((pn : Int) + 1)), (116, .bool true), (117, .bool true), (118, .pointer (some ⟨sb, 0, none⟩)), (119, .int .u32 ((base + (y : Int)) % 4294967296)), (120, .int .u32 base), (121, .slice (some ⟨g, 0, none⟩) (pn + 1) cg), (122, .slice (some ⟨g, 0, none⟩) (pn + 1) cg), (123, .int .i64 ((pn : Int) + 1)), (124, .int .i64 (pn : Int)), (125, .pointer (some ⟨g, pn * 2, none⟩)), (126, .pointer (some ⟨g, pn * 2 + 1, none⟩)), (127, .int .u16 (y : Int)), (128, .int .u32 (y : Int)), (129, .int .u32 ((base + (y : Int)) % 4294967296)), (130, .bool false), (131, .bool false), (132, .bool false), (133, .slice (some ⟨g, 0, none⟩) (pn + 1) cg), (134, .int .i64 ((pn : Int) + 1)), (135, .bool false), (136, .bool false), (137, undef), (138, undef), (139, undef), (140, undef), (141, .bool false), (142, .bool false)] [114, 115, 116, 117, 118, 119, 120, 121, 122, 123, 124, 125, 126, 127, 128, 129, 130, 131, 132, 133, 134, 135, 136, 137, 138, 139, 140, 141, 142] 150 (fun W => Turn [] wr W) _ _ rfl (by kernel_rfl) rfl (by kernel_rfl) (by decide) ?step ?fin ((Turn.refl _ _).drew)
            case step =>
              intro i o p ho hp a W hI hdf hdep hfr K hK
              match i, ho, hp with
              | 0, ho, hp =>
                have ho' := ho
                simp only [List.getElem?_toArray, List.getElem?_cons_zero, Option.some.injEq] at ho hp
                subst ho hp
                have r6 : a.eval (.tmp 6) = .slice (some ⟨g, 0, none⟩) (pn + 1) cg := hfr 6 (by decide)
                rw [Vals.eval_tmp] at r6
                refine Vals.wpOp_run ho' rfl ?_
                clear hdf hdep hfr ho'
                go_simp
                exact hK _ hI
              | 1, ho, hp =>
                have ho' := ho
                simp only [List.getElem?_toArray, List.getElem?_cons_zero, List.getElem?_cons_succ, Option.some.injEq] at ho hp
                subst ho hp
                have r114 : a.eval (.tmp 114) = .slice (some ⟨g, 0, none⟩) (pn + 1) cg := hdep ⟨0, .data⟩ (by simp) rfl (114, .slice (some ⟨g, 0, none⟩) (pn + 1) cg) rfl
                rw [Vals.eval_tmp] at r114
                refine Vals.wpOp_run ho' rfl ?_
                clear hdf hdep hfr ho'
                go_simp
                exact hK _ hI
              | 2, ho, hp =>
                have ho' := ho
                simp only [List.getElem?_toArray, List.getElem?_cons_zero, List.getElem?_cons_succ, Option.some.injEq] at ho hp
                subst ho hp
                have r115 : a.eval (.tmp 115) = .int .i64 ((pn : Int) + 1) := hdep ⟨1, .data⟩ (by simp) rfl (115, .int .i64 ((pn : Int) + 1)) rfl
                rw [Vals.eval_tmp] at r115
                refine Vals.wpOp_run ho' rfl ?_
                clear hdf hdep hfr ho'
                go_simp
                exact hK _ hI
              | 3, ho, hp =>
                have ho' := ho
                simp only [List.getElem?_toArray, List.getElem?_cons_zero, List.getElem?_cons_succ, Option.some.injEq] at ho hp
                subst ho hp
                have r116 : a.eval (.tmp 116) = .bool true := hdep ⟨2, .data⟩ (by simp) rfl (116, .bool true) rfl
                rw [Vals.eval_tmp] at r116
                refine Vals.wpOp_run ho' rfl ?_
                clear hdf hdep hfr ho'
                go_simp
                exact hK _ hI
              | 4, ho, hp =>
                have ho' := ho
                simp only [List.getElem?_toArray, List.getElem?_cons_zero, List.getElem?_cons_succ, Option.some.injEq] at ho hp
                subst ho hp
                have hg : a.eval (.tmp 117) = .bool true := hdep ⟨3, .guard⟩ (by simp) rfl (117, .bool true) rfl
                have r5 : a.eval (.tmp 5) = .pointer (some ⟨sb, 0, none⟩) := hfr 5 (by decide)
                rw [Vals.eval_tmp] at r5
                refine Vals.wpOp_run ho' (by unfold Region.wanted; simp only []; rw [Vals.yielded_of (d := 117) rfl hg]; rfl) ?_
                clear hdf hdep hfr ho' hg
                go_simp
                exact hK _ hI
              | 5, ho, hp =>
                have ho' := ho
                simp only [List.getElem?_toArray, List.getElem?_cons_zero, List.getElem?_cons_succ, Option.some.injEq] at ho hp
                subst ho hp
                have hg : a.eval (.tmp 117) = .bool true := hdep ⟨3, .guard⟩ (by simp) rfl (117, .bool true) rfl
                have r118 : a.eval (.tmp 118) = .pointer (some ⟨sb, 0, none⟩) := hdep ⟨4, .data⟩ (by simp) rfl (118, .pointer (some ⟨sb, 0, none⟩)) rfl
                rw [Vals.eval_tmp] at r118
                refine Vals.wpOp_run ho' (by unfold Region.wanted; simp only []; rw [Vals.yielded_of (d := 117) rfl hg]; rfl) ?_
                clear hdf hdep hfr ho' hg
                go_simp
                refine (HLA.out _ hI).mono ?_
                rintro e w' ⟨rfl, ht⟩
                exact hK _ (hI.trans ht)
              | 6, ho, hp =>
                have ho' := ho
                simp only [List.getElem?_toArray, List.getElem?_cons_zero, List.getElem?_cons_succ, Option.some.injEq] at ho hp
                subst ho hp
                have hg : a.eval (.tmp 117) = .bool true := hdep ⟨3, .guard⟩ (by simp) rfl (117, .bool true) rfl
                have r0 : a.eval (.tmp 0) = .int .u32 base := hfr 0 (by decide)
                rw [Vals.eval_tmp] at r0
                refine Vals.wpOp_run ho' (by unfold Region.wanted; simp only []; rw [Vals.yielded_of (d := 117) rfl hg]; rfl) ?_
                clear hdf hdep hfr ho' hg
                go_simp
                exact hK _ hI
              | 7, ho, hp =>
                have ho' := ho
                simp only [List.getElem?_toArray, List.getElem?_cons_zero, List.getElem?_cons_succ, Option.some.injEq] at ho hp
                subst ho hp
                have hg : a.eval (.tmp 117) = .bool true := hdep ⟨3, .guard⟩ (by simp) rfl (117, .bool true) rfl
                have r6 : a.eval (.tmp 6) = .slice (some ⟨g, 0, none⟩) (pn + 1) cg := hfr 6 (by decide)
                rw [Vals.eval_tmp] at r6
                refine Vals.wpOp_run ho' (by unfold Region.wanted; simp only []; rw [Vals.yielded_of (d := 117) rfl hg]; rfl) ?_
                clear hdf hdep hfr ho' hg
                go_simp
                exact hK _ hI
              | 8, ho, hp =>
                have ho' := ho
                simp only [List.getElem?_toArray, List.getElem?_cons_zero, List.getElem?_cons_succ, Option.some.injEq] at ho hp
                subst ho hp
                have hg : a.eval (.tmp 117) = .bool true := hdep ⟨3, .guard⟩ (by simp) rfl (117, .bool true) rfl
                have r6 : a.eval (.tmp 6) = .slice (some ⟨g, 0, none⟩) (pn + 1) cg := hfr 6 (by decide)
                rw [Vals.eval_tmp] at r6
                refine Vals.wpOp_run ho' (by unfold Region.wanted; simp only []; rw [Vals.yielded_of (d := 117) rfl hg]; rfl) ?_
                clear hdf hdep hfr ho' hg
                go_simp
                exact hK _ hI
              | 9, ho, hp =>
                have ho' := ho
                simp only [List.getElem?_toArray, List.getElem?_cons_zero, List.getElem?_cons_succ, Option.some.injEq] at ho hp
                subst ho hp
                have hg : a.eval (.tmp 117) = .bool true := hdep ⟨3, .guard⟩ (by simp) rfl (117, .bool true) rfl
                have r122 : a.eval (.tmp 122) = .slice (some ⟨g, 0, none⟩) (pn + 1) cg := hdep ⟨8, .data⟩ (by simp) rfl (122, .slice (some ⟨g, 0, none⟩) (pn + 1) cg) rfl
                rw [Vals.eval_tmp] at r122
                refine Vals.wpOp_run ho' (by unfold Region.wanted; simp only []; rw [Vals.yielded_of (d := 117) rfl hg]; rfl) ?_
                clear hdf hdep hfr ho' hg
                go_simp
                exact hK _ hI
              | 10, ho, hp =>
                have ho' := ho
                simp only [List.getElem?_toArray, List.getElem?_cons_zero, List.getElem?_cons_succ, Option.some.injEq] at ho hp
                subst ho hp
                have hg : a.eval (.tmp 117) = .bool true := hdep ⟨3, .guard⟩ (by simp) rfl (117, .bool true) rfl
                have r123 : a.eval (.tmp 123) = .int .i64 ((pn : Int) + 1) := hdep ⟨9, .data⟩ (by simp) rfl (123, .int .i64 ((pn : Int) + 1)) rfl
                rw [Vals.eval_tmp] at r123
                have hw : IntKind.i64.wrap (pn : Int) = pn := by rw [IntKind.wrap_i64]; omega
                refine Vals.wpOp_run ho' (by unfold Region.wanted; simp only []; rw [Vals.yielded_of (d := 117) rfl hg]; rfl) ?_
                clear hdf hdep hfr ho' hg
                go_simp
                exact hK _ hI
              | 11, ho, hp =>
                have ho' := ho
                simp only [List.getElem?_toArray, List.getElem?_cons_zero, List.getElem?_cons_succ, Option.some.injEq] at ho hp
                subst ho hp
                have hg : a.eval (.tmp 117) = .bool true := hdep ⟨3, .guard⟩ (by simp) rfl (117, .bool true) rfl
                have r121 : a.eval (.tmp 121) = .slice (some ⟨g, 0, none⟩) (pn + 1) cg := hdep ⟨7, .data⟩ (by simp) rfl (121, .slice (some ⟨g, 0, none⟩) (pn + 1) cg) rfl
                rw [Vals.eval_tmp] at r121
                have r124 : a.eval (.tmp 124) = .int .i64 (pn : Int) := hdep ⟨10, .data⟩ (by simp) rfl (124, .int .i64 (pn : Int)) rfl
                rw [Vals.eval_tmp] at r124
                have hb1 : (pn : Int) < (pn : Int) + 1 := by omega
                have hb0 : (0 : Int) ≤ (pn : Int) := by omega
                refine Vals.wpOp_run ho' (by unfold Region.wanted; simp only []; rw [Vals.yielded_of (d := 117) rfl hg]; rfl) ?_
                clear hdf hdep hfr ho' hg
                go_simp
                exact hK _ hI
              | 12, ho, hp =>
                have ho' := ho
                simp only [List.getElem?_toArray, List.getElem?_cons_zero, List.getElem?_cons_succ, Option.some.injEq] at ho hp
                subst ho hp
                have hg : a.eval (.tmp 117) = .bool true := hdep ⟨3, .guard⟩ (by simp) rfl (117, .bool true) rfl
                have r125 : a.eval (.tmp 125) = .pointer (some ⟨g, pn * 2, none⟩) := hdep ⟨11, .data⟩ (by simp) rfl (125, .pointer (some ⟨g, pn * 2, none⟩)) rfl
                rw [Vals.eval_tmp] at r125
                refine Vals.wpOp_run ho' (by unfold Region.wanted; simp only []; rw [Vals.yielded_of (d := 117) rfl hg]; rfl) ?_
                clear hdf hdep hfr ho' hg
                go_simp
                exact hK _ hI
              | 13, ho, hp =>
                have ho' := ho
                simp only [List.getElem?_toArray, List.getElem?_cons_zero, List.getElem?_cons_succ, Option.some.injEq] at ho hp
                subst ho hp
                have hg : a.eval (.tmp 117) = .bool true := hdep ⟨3, .guard⟩ (by simp) rfl (117, .bool true) rfl
                have r126 : a.eval (.tmp 126) = .pointer (some ⟨g, pn * 2 + 1, none⟩) := hdep ⟨12, .data⟩ (by simp) rfl (126, .pointer (some ⟨g, pn * 2 + 1, none⟩)) rfl
                rw [Vals.eval_tmp] at r126
                have hc := hI.cell (p := ⟨g, pn * 2 + 1, none⟩) hgl (by simp)
                rw [hgc] at hc
                refine Vals.wpOp_run ho' (by unfold Region.wanted; simp only []; rw [Vals.yielded_of (d := 117) rfl hg]; rfl) ?_
                clear hdf hdep hfr ho' hg
                go_simp
                exact hK _ hI
              | 14, ho, hp =>
                have ho' := ho
                simp only [List.getElem?_toArray, List.getElem?_cons_zero, List.getElem?_cons_succ, Option.some.injEq] at ho hp
                subst ho hp
                have hg : a.eval (.tmp 117) = .bool true := hdep ⟨3, .guard⟩ (by simp) rfl (117, .bool true) rfl
                have r127 : a.eval (.tmp 127) = .int .u16 (y : Int) := hdep ⟨13, .data⟩ (by simp) rfl (127, .int .u16 (y : Int)) rfl
                rw [Vals.eval_tmp] at r127
                have hw : IntKind.u32.wrap (y : Int) = y := by show (y : Int) % 4294967296 = y; omega
                refine Vals.wpOp_run ho' (by unfold Region.wanted; simp only []; rw [Vals.yielded_of (d := 117) rfl hg]; rfl) ?_
                clear hdf hdep hfr ho' hg
                go_simp
                exact hK _ hI
              | 15, ho, hp =>
                have ho' := ho
                simp only [List.getElem?_toArray, List.getElem?_cons_zero, List.getElem?_cons_succ, Option.some.injEq] at ho hp
                subst ho hp
                have hg : a.eval (.tmp 117) = .bool true := hdep ⟨3, .guard⟩ (by simp) rfl (117, .bool true) rfl
                have r120 : a.eval (.tmp 120) = .int .u32 base := hdep ⟨6, .data⟩ (by simp) rfl (120, .int .u32 base) rfl
                rw [Vals.eval_tmp] at r120
                have r128 : a.eval (.tmp 128) = .int .u32 (y : Int) := hdep ⟨14, .data⟩ (by simp) rfl (128, .int .u32 (y : Int)) rfl
                rw [Vals.eval_tmp] at r128
                refine Vals.wpOp_run ho' (by unfold Region.wanted; simp only []; rw [Vals.yielded_of (d := 117) rfl hg]; rfl) ?_
                clear hdf hdep hfr ho' hg
                go_simp
                exact hK _ hI
              | 16, ho, hp =>
                have ho' := ho
                simp only [List.getElem?_toArray, List.getElem?_cons_zero, List.getElem?_cons_succ, Option.some.injEq] at ho hp
                subst ho hp
                have hg : a.eval (.tmp 117) = .bool true := hdep ⟨3, .guard⟩ (by simp) rfl (117, .bool true) rfl
                have r119 : a.eval (.tmp 119) = .int .u32 ((base + (y : Int)) % 4294967296) := hdep ⟨5, .data⟩ (by simp) rfl (119, .int .u32 ((base + (y : Int)) % 4294967296)) rfl
                rw [Vals.eval_tmp] at r119
                have r129 : a.eval (.tmp 129) = .int .u32 ((base + (y : Int)) % 4294967296) := hdep ⟨15, .data⟩ (by simp) rfl (129, .int .u32 ((base + (y : Int)) % 4294967296)) rfl
                rw [Vals.eval_tmp] at r129
                refine Vals.wpOp_run ho' (by unfold Region.wanted; simp only []; rw [Vals.yielded_of (d := 117) rfl hg]; rfl) ?_
                clear hdf hdep hfr ho' hg
                go_simp
                exact hK _ hI
              | 17, ho, hp =>
                have ho' := ho
                simp only [List.getElem?_toArray, List.getElem?_cons_zero, List.getElem?_cons_succ, Option.some.injEq] at ho hp
                subst ho hp
                have r117 : a.eval (.tmp 117) = .bool true := hdep ⟨3, .data⟩ (by simp) rfl (117, .bool true) rfl
                rw [Vals.eval_tmp] at r117
                have r130 : a.eval (.tmp 130) = .bool false := hdep ⟨16, .data⟩ (by simp) rfl (130, .bool false) rfl
                rw [Vals.eval_tmp] at r130
                refine Vals.wpOp_run ho' rfl ?_
                clear hdf hdep hfr ho'
                go_simp
                exact hK _ hI
              | 18, ho, hp =>
                have ho' := ho
                simp only [List.getElem?_toArray, List.getElem?_cons_zero, List.getElem?_cons_succ, Option.some.injEq] at ho hp
                subst ho hp
                have r131 : a.eval (.tmp 131) = .bool false := hdep ⟨17, .data⟩ (by simp) rfl (131, .bool false) rfl
                rw [Vals.eval_tmp] at r131
                refine Vals.wpOp_run ho' rfl ?_
                clear hdf hdep hfr ho'
                go_simp
                exact hK _ hI
              | 19, ho, hp =>
                have ho' := ho
                simp only [List.getElem?_toArray, List.getElem?_cons_zero, List.getElem?_cons_succ, Option.some.injEq] at ho hp
                subst ho hp
                have hg : a.eval (.tmp 132) = .bool false := hdep ⟨18, .guard⟩ (by simp) rfl (132, .bool false) rfl
                have r6 : a.eval (.tmp 6) = .slice (some ⟨g, 0, none⟩) (pn + 1) cg := hfr 6 (by decide)
                rw [Vals.eval_tmp] at r6
                refine Vals.wpOp_run ho' (by unfold Region.wanted; simp only []; rw [Vals.yielded_of (d := 132) rfl hg]; rfl) ?_
                clear hdf hdep hfr ho' hg
                go_simp
                exact hK _ hI
              | 20, ho, hp =>
                have ho' := ho
                simp only [List.getElem?_toArray, List.getElem?_cons_zero, List.getElem?_cons_succ, Option.some.injEq] at ho hp
                subst ho hp
                have hg : a.eval (.tmp 132) = .bool false := hdep ⟨18, .guard⟩ (by simp) rfl (132, .bool false) rfl
                have r133 : a.eval (.tmp 133) = .slice (some ⟨g, 0, none⟩) (pn + 1) cg := hdep ⟨19, .data⟩ (by simp) rfl (133, .slice (some ⟨g, 0, none⟩) (pn + 1) cg) rfl
                rw [Vals.eval_tmp] at r133
                refine Vals.wpOp_run ho' (by unfold Region.wanted; simp only []; rw [Vals.yielded_of (d := 132) rfl hg]; rfl) ?_
                clear hdf hdep hfr ho' hg
                go_simp
                exact hK _ hI
              | 21, ho, hp =>
                have ho' := ho
                simp only [List.getElem?_toArray, List.getElem?_cons_zero, List.getElem?_cons_succ, Option.some.injEq] at ho hp
                subst ho hp
                have hg : a.eval (.tmp 132) = .bool false := hdep ⟨18, .guard⟩ (by simp) rfl (132, .bool false) rfl
                have r134 : a.eval (.tmp 134) = .int .i64 ((pn : Int) + 1) := hdep ⟨20, .data⟩ (by simp) rfl (134, .int .i64 ((pn : Int) + 1)) rfl
                rw [Vals.eval_tmp] at r134
                refine Vals.wpOp_run ho' (by unfold Region.wanted; simp only []; rw [Vals.yielded_of (d := 132) rfl hg]; rfl) ?_
                clear hdf hdep hfr ho' hg
                go_simp
                exact hK _ hI
              | 22, ho, hp =>
                have ho' := ho
                simp only [List.getElem?_toArray, List.getElem?_cons_zero, List.getElem?_cons_succ, Option.some.injEq] at ho hp
                subst ho hp
                have hg : a.eval (.tmp 132) = .bool false := hdep ⟨18, .guard⟩ (by simp) rfl (132, .bool false) rfl
                have r135 : a.eval (.tmp 135) = .bool false := hdep ⟨21, .data⟩ (by simp) rfl (135, .bool false) rfl
                rw [Vals.eval_tmp] at r135
                refine Vals.wpOp_run ho' (by unfold Region.wanted; simp only []; rw [Vals.yielded_of (d := 132) rfl hg]; rfl) ?_
                clear hdf hdep hfr ho' hg
                go_simp
                exact hK _ hI
              | 23, ho, hp =>
                have ho' := ho
                simp only [List.getElem?_toArray, List.getElem?_cons_zero, List.getElem?_cons_succ, Option.some.injEq] at ho hp
                subst ho hp
                have hg : a.eval (.tmp 136) = .bool false := hdep ⟨22, .guard⟩ (by simp) rfl (136, .bool false) rfl
                exact Vals.wpOp_skip ho' (by unfold Region.wanted; simp only []; rw [Vals.yielded_of (d := 136) rfl hg]; rfl) (hK _ hI)
              | 24, ho, hp =>
                have ho' := ho
                simp only [List.getElem?_toArray, List.getElem?_cons_zero, List.getElem?_cons_succ, Option.some.injEq] at ho hp
                subst ho hp
                have hg : a.eval (.tmp 136) = .bool false := hdep ⟨22, .guard⟩ (by simp) rfl (136, .bool false) rfl
                exact Vals.wpOp_skip ho' (by unfold Region.wanted; simp only []; rw [Vals.yielded_of (d := 136) rfl hg]; rfl) (hK _ hI)
              | 25, ho, hp =>
                have ho' := ho
                simp only [List.getElem?_toArray, List.getElem?_cons_zero, List.getElem?_cons_succ, Option.some.injEq] at ho hp
                subst ho hp
                have hg : a.eval (.tmp 136) = .bool false := hdep ⟨22, .guard⟩ (by simp) rfl (136, .bool false) rfl
                exact Vals.wpOp_skip ho' (by unfold Region.wanted; simp only []; rw [Vals.yielded_of (d := 136) rfl hg]; rfl) (hK _ hI)
              | 26, ho, hp =>
                have ho' := ho
                simp only [List.getElem?_toArray, List.getElem?_cons_zero, List.getElem?_cons_succ, Option.some.injEq] at ho hp
                subst ho hp
                have hg : a.eval (.tmp 136) = .bool false := hdep ⟨22, .guard⟩ (by simp) rfl (136, .bool false) rfl
                exact Vals.wpOp_skip ho' (by unfold Region.wanted; simp only []; rw [Vals.yielded_of (d := 136) rfl hg]; rfl) (hK _ hI)
              | 27, ho, hp =>
                have ho' := ho
                simp only [List.getElem?_toArray, List.getElem?_cons_zero, List.getElem?_cons_succ, Option.some.injEq] at ho hp
                subst ho hp
                have hg : a.eval (.tmp 132) = .bool false := hdep ⟨18, .guard⟩ (by simp) rfl (132, .bool false) rfl
                have r136 : a.eval (.tmp 136) = .bool false := hdep ⟨22, .data⟩ (by simp) rfl (136, .bool false) rfl
                rw [Vals.eval_tmp] at r136
                have r140 : a.eval (.tmp 140) = undef := hdep ⟨26, .data⟩ (by simp) rfl (140, undef) rfl
                rw [Vals.eval_tmp] at r140
                refine Vals.wpOp_run ho' (by unfold Region.wanted; simp only []; rw [Vals.yielded_of (d := 132) rfl hg]; rfl) ?_
                clear hdf hdep hfr ho' hg
                go_simp
                exact hK _ hI
              | 28, ho, hp =>
                have ho' := ho
                simp only [List.getElem?_toArray, List.getElem?_cons_zero, List.getElem?_cons_succ, Option.some.injEq] at ho hp
                subst ho hp
                have r132 : a.eval (.tmp 132) = .bool false := hdep ⟨18, .data⟩ (by simp) rfl (132, .bool false) rfl
                rw [Vals.eval_tmp] at r132
                have r141 : a.eval (.tmp 141) = .bool false := hdep ⟨27, .data⟩ (by simp) rfl (141, .bool false) rfl
                rw [Vals.eval_tmp] at r141
                refine Vals.wpOp_run ho' rfl ?_
                clear hdf hdep hfr ho'
                go_simp
                exact hK _ hI
              | i + 29, ho, hp => simp at ho
            case fin =>
              intro w5 ht5
              have HT5 := Lib.hid (HTURN.out.trans ht5)
              have HS5 := Lib.hid (HSET.out.turn ht5 (by simp) (by simp))
              clear ht5
              simp only [Vals.puts, List.foldl_cons, List.foldl_nil]
              go_frame
              have hc5 := count_any w5 sb bm base f HS5.out
              go_wp2_with fail
              refine hc5.mono ?_
              rintro e w' ⟨rfl, rfl⟩
              clear hc5
              go_wp2_with fail
              refine (works_any w5).mono ?_
              rintro e w6 ⟨rfl, ht6⟩
              have HT6 := Lib.hid (HT5.out.trans ht6)
              clear ht6
              go_wp2
              go_ret
              exact ⟨rfl, HT6.out.below (Nat.le_refl _) (by simp)⟩

set_option maxHeartbeats 800000 in
set_option maxRecDepth 100000 in
theorem spansGaps_walk (base : Int) (a : Option Addr) (len cap : Nat) (zs : List Int) (w : World) (wb : (Lit.int .u32 base).wf = true) (hz : IsRow .u32 w a len cap zs) :
    Calls Try.prog 4 #[.int .u32 base, .slice a len cap] w fun e w' => e = .returned (.bool true) ∧ Below w.heap.size w w' := by
  have hb := wf_u32_in wb
  obtain ⟨hu, hcap⟩ := hz.u32s
  clear hz wb
  by_cases hlen : len ≤ 200
  · exact gapsF w _ (fillF_sup _) base hb a len cap _ (fun w' ht => hu.turn (ht.below (Nat.le_refl _) (by simp)) (Nat.le_refl _)) (fillF_at _) hcap hlen (filled_any w base hb a len cap _ hu)
  · go_enter Try.func4, Try.ntmps4
    go_wp2_with fail
    refine (works_any w).mono ?_
    rintro e w1 ⟨rfl, ht⟩
    have HT := Lib.hid ht
    clear ht
    go_wp2
    go_ret
    exact ⟨rfl, HT.out.below (Nat.le_refl _) (by simp)⟩
end Go.Proofs.Ytjdkbcecnlfhjaa
