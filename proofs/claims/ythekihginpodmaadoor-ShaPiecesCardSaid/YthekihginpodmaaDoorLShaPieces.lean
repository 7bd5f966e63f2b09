/-
  The walk of ShaPieces, from the contracts.
-/
import Derived.Test.YthekihginpodmaaDoorShaHeld
namespace Go.Proofs.YthekihginpodmaaDoor
open Go.RowKit
set_option linter.unusedVariables false

theorem Reads.tail_at {w : World} {a : Option Addr} {len : Nat} {zs : List Int} (h : Reads w a len zs) (t l : Nat) (hl : t + l ≤ len) : Reads w (a.map fun x => x.add t) l ((zs.drop t).take l) := by
  by_cases h0 : l = 0
  · subst h0; exact ⟨by simp, .inl rfl⟩
  · rcases h.2 with h1 | ⟨b, off, rfl, _, _⟩
    · omega
    · have := h.part t l (by omega)
      rw [Option.map_some, Addr.add_mid]
      exact this
theorem held_row {St : World → Addr → List Nat → List Int → Prop} (K : StOk St) {w0 W W' : World} {p : Addr} {zs : List Int} (h : Own St w0 p zs W) (hb : Below W.heap.size W W') {a : Option Addr} {n c : Nat} {xs : List Int} (hr : Row8 W.heap.size W' a n c xs) :
    HeldB St w0 p zs a n c xs W' := by
  obtain ⟨bs, h1, h2, h3⟩ := h
  have hlt := K.lt _ _ _ _ h1
  have h1' := K.turn _ _ _ _ _ _ h1 (Turn.of_below hb) (fun b _ hn => by cases hn)
  by_cases h0 : n = 0
  · have hx : xs = [] := List.eq_nil_of_length_eq_zero (by rw [hr.len]; exact h0)
    subst h0
    subst hx
    rcases hr.2 with ⟨hv, _⟩ | ⟨g, cap, cur, hv, hbg, hg, hn, hm, hs, ht⟩
    · cases hv
      exact ⟨bs, held_new h1', h2, h3.trans (hb.mono h3.size)⟩
    · cases hv
      refine ⟨bs ++ (some g).toList, ⟨bs, some g, h1', ⟨by simp, hn, .inr ⟨g, 0, rfl, rfl, (Array.getElem?_eq_some_iff.1 hg).1, fun j hj => ?_, fun j u hu => by simp at hu, fun i => by simp [World.frozen?, hg]⟩⟩, fun x hx hn => ?_, rfl⟩, fun b hb' => ?_, h3.trans (hb.mono h3.size)⟩
      · rw [cell_of_row W' g _ _ _ (0, 0) hg]
        simp [hs]; omega
      · cases hx
        have := hlt _ hn; omega
      · rcases mem_foot.1 hb' with h7 | h7
        · exact h2 b h7
        · cases h7; exact Nat.le_trans h3.size hbg
  · obtain ⟨gb, c', hv, hge, hwin⟩ := Win.of_owns hr (by omega)
    cases hv
    refine ⟨bs ++ (some gb).toList, ⟨bs, some gb, h1', hwin, fun x hx hn => ?_, rfl⟩, fun b hb' => ?_, h3.trans (hb.mono h3.size)⟩
    · cases hx
      have := hlt _ hn; omega
    · rcases mem_foot.1 hb' with h7 | h7
      · exact h2 b h7
      · cases h7; exact Nat.le_trans h3.size hge
theorem HeldB.own {St : World → Addr → List Nat → List Int → Prop} {w0 W : World} {p : Addr} {zs xs : List Int} {a : Option Addr} {n c : Nat} (h : HeldB St w0 p zs a n c xs W) : Own St w0 p zs W := by
  obtain ⟨fs, ⟨bs, g, h1, _, _, rfl⟩, h2, h3⟩ := h
  exact ⟨bs, h1, fun b hb => h2 b (mem_foot.2 (.inl hb)), h3⟩
theorem heldB_write_own {St : World → Addr → List Nat → List Int → Prop} (K : StOk St) {w0 W : World} {p : Addr} {zs xs : List Int} {a : Option Addr} {n c : Nat} (h : HeldB St w0 p zs a n c xs W) (bz : Byt zs) (bx : Byt xs) (hm : c ≤ maxLen) (hl : zs.length + n ≤ 1099511627776) (ht : Tab w0) :
    Calls Tryd.prog 17 #[.pointer (some p), .slice a n c] W fun e W' => e = .returned (.tuple #[]) ∧ HeldB St w0 p (zs ++ xs) a n c xs W' := by
  obtain ⟨fs, h1, h2, h3⟩ := h
  refine (held_write_own K h1 bz bx hm hl (ht.below h3 ht.lt) (fun g hg hn => ?_)).mono ?_
  · have := h2 _ hn; have := ht.lt g hg; omega
  · rintro e W' ⟨rfl, fs', h4, h5, h6⟩
    exact ⟨rfl, heldB_of h2 h3 h4 h5 h6⟩
theorem heldB_set {St : World → Addr → List Nat → List Int → Prop} (K : StOk St) {w0 W : World} {p : Addr} {zs xs : List Int} {a : Option Addr} {n c : Nat} (h : HeldB St w0 p zs a n c xs W) {k : Nat} (hk : k < n) :
    ∃ gb off y, a = some ⟨gb, off, none⟩ ∧ xs[k]? = some y ∧ W.cell? ⟨gb, off + k, none⟩ = some (.int .u8 y) ∧ W.frozen? ⟨gb, off + k, none⟩ = false ∧
      RowKit.Hid (∀ x, HeldB St w0 p zs a n c (xs.set k x) (W.setCell ⟨gb, off + k, none⟩ (.int .u8 x))) := by
  obtain ⟨fs, h1, h2, h3⟩ := h
  obtain ⟨gb, off, y, e1, e2, e3, e4, _, _⟩ := held_set K h1 hk 0
  refine ⟨gb, off, y, e1, e2, e3, e4, Lib.hid fun x => ?_⟩
  obtain ⟨gb', off', y', e1', _, _, _, h4, h5⟩ := held_set K h1 hk x
  rw [e1] at e1'
  cases e1'
  exact heldB_of h2 h3 h4 (fun b hb => .inl hb) h5

set_option maxHeartbeats 25600000 in
set_option maxRecDepth 100000 in
theorem shaPieces_of {St : World → Addr → List Nat → List Int → Prop} (SO : SumOk) (KO : StOk St) (a : Option Addr) (len cap : Nat) (z : List Int) (a1 : Option Addr) (m cap1 : Nat) (z1 : List Int) (w : World) (w0 : IsRow .u8 w a len cap z) (w1 : IsRow .u8 w a1 m cap1 z1) (ht : Tab w) :
    Calls Tryd.prog 5 #[.slice a len cap, .slice a1 m cap1] w fun e w' => e = .returned (.bool true) ∧ Below w.heap.size w w' := by
  obtain ⟨hr, hbyt, hcap, hmax⟩ := w0.reads
  obtain ⟨hr1, hbyt1, hcap1, hmax1⟩ := w1.reads
  clear w0 w1
  generalize z.take len = zs at hr hbyt
  generalize z1.take m = ys at hr1 hbyt1
  have HT := Lib.hid ht
  have HR := Lib.hid (And.intro hr (And.intro hbyt hr.1))
  have HY := Lib.hid (And.intro hr1 (And.intro hbyt1 hr1.1))
  clear hr hbyt hr1 hbyt1 ht
  unfold maxLen at hmax hmax1
  by_cases hlong : 4096 < len
  · have hg : (4096 : Int) < len := by omega
    go_enter Tryd.func5, Tryd.ntmps5
    go_wp2_with (go_at_call 10; refine (works_any SO _ HT.out).mono ?_; rintro e w' ⟨rfl, hb⟩)
    go_ret
    exact ⟨rfl, hb⟩
  have hg : ¬ (4096 : Int) < len := by omega
  by_cases hlong2 : 200 < m
  · have hg2 : (200 : Int) < m := by omega
    go_enter Tryd.func5, Tryd.ntmps5
    go_wp2_with (go_at_call 10; refine (works_any SO _ HT.out).mono ?_; rintro e w' ⟨rfl, hb⟩)
    go_ret
    exact ⟨rfl, hb⟩
  have hg2 : ¬ (200 : Int) < m := by omega
  go_enter Tryd.func5, Tryd.ntmps5
  go_wp2_with fail
  refine (own_new KO w w (Below.refl _ _) HT.out).mono ?_
  rintro e w1 ⟨p, rfl, ho⟩
  have HO := Lib.hid ho
  clear ho
  go_wp2
  go_loopw [6, 7] (fun av iv W => ∃ k t : Nat, k ≤ m ∧ t ≤ len ∧ iv = .int .i64 k ∧ av = .int .i64 t ∧ Own St w p (zs.take t) W) (fun av iv _ => m - (intOf iv).toNat)
  case atStart => exact ⟨0, 0, by omega, by omega, rfl, rfl, HO.out⟩
  case round =>
    obtain ⟨k, t, hk, ht, rfl, rfl, ho⟩ := hrel
    have HO1 := Lib.hid ho
    by_cases hlt : k < m
    · have g1 : (k : Int) < m := by omega
      obtain ⟨b, off, rfl, hbl, hcy⟩ : ∃ b off, a1 = some ⟨b, off, none⟩ ∧ b < w.heap.size ∧ w.cell? ⟨b, off + k, none⟩ = some (.int .u8 (ys[k]?.getD 0)) := by
        rcases HY.out.1.2 with h | ⟨b, off, h1, h2, h3⟩
        · omega
        · exact ⟨b, off, h1, h2, h3 k hlt⟩
      obtain ⟨y0, y1⟩ := HY.out.2.1.getD k
      have hcy2 := ho.below.cell (p := ⟨b, off + k, none⟩) hbl
      rw [hcy] at hcy2
      generalize ys[k]?.getD 0 = y at *
      obtain ⟨y, rfl⟩ : ∃ n : Nat, y = n := ⟨y.toNat, by omega⟩
      clear ho hcy
      obtain ⟨h, hmin, hth, hhl⟩ : ∃ h : Nat, (if (len : Int) < (t : Int) + (y : Int) then (len : Int) else (t : Int) + (y : Int)) = (h : Int) ∧ t ≤ h ∧ h ≤ len := by
        by_cases hm : (len : Int) < (t : Int) + (y : Int)
        · exact ⟨len, by rw [if_pos hm], ht, Nat.le_refl _⟩
        · exact ⟨t + y, by rw [if_neg hm]; push_cast; rfl, by omega, by omega⟩
      have gsum : IntKind.i64.wrap ((t : Int) + (y : Int)) = (t : Int) + (y : Int) := by rw [IntKind.wrap_i64]; omega
      have gth : (t : Int) ≤ (h : Int) := by omega
      have ghc : (h : Int) ≤ (cap : Int) := by omega
      have HJ := Lib.hid (show zs.take t ++ (zs.drop t).take (h - t) = zs.take h by
        have e := List.take_add (l := zs) (i := t) (j := h - t)
        rw [show t + (h - t) = h by omega] at e
        exact e.symm)
      by_cases hct : cap = t
      · subst hct
        have HPA := Lib.hid (show Reads wr a (h - cap) ((zs.drop cap).take (h - cap)) by
          rw [show h - cap = 0 by omega]; exact ⟨by simp, .inl rfl⟩)
        go_wp2_with fail
        refine (copyBytes_any a (h - cap) 0 ((zs.drop cap).take (h - cap)) wr HPA.out (by omega)).mono ?_
        rintro e w2 ⟨a2, rfl, hb2, hr2⟩
        have hh2 := held_row KO HO1.out hb2 hr2
        have HH2 := Lib.hid hh2
        clear hb2 hr2 hh2 hcy2 hmin
        have gat : IntKind.i64.wrap ((cap : Int) + ((h - cap : Nat) : Int)) = (h : Int) := by rw [IntKind.wrap_i64]; omega
        go_wp2_with fail
        clear gat
        refine (heldB_write_own KO HH2.out (HR.out.2.1.take cap) ((HR.out.2.1.drop cap).take (h - cap)) (by unfold maxLen; omega) (by have := HR.out.2.2; simp; omega) HT.out).mono ?_
        rintro e w3 ⟨rfl, hh3⟩
        rw [HJ.out] at hh3
        have HH3 := Lib.hid hh3
        clear hh3
        go_wp2
        go_loopw [9] (fun j W => ∃ (i : Nat) (xs : List Int), i ≤ h - cap ∧ j = .int .i64 i ∧ HeldB St w p (zs.take h) a2 (h - cap) (h - cap) xs W) (fun j _ => (h - cap) - (intOf j).toNat)
        case atStart => exact ⟨0, _, Nat.zero_le _, rfl, HH3.out⟩
        case round =>
          obtain ⟨i, xs, hi, rfl, hh⟩ := hrel
          by_cases hil : i < h - cap
          · exact absurd hil (by omega)
          · obtain rfl : i = h - cap := by omega
            have HF := Lib.hid hh.own
            clear hh
            go_wp2
            go_roundw
            case rel => exact ⟨k + 1, h, by omega, by omega, by go_num, by go_num, HF.out⟩
            case measure => simp [intOf]; omega
      · have HPA := Lib.hid (show Reads wr (a.map fun x => x.add t) (h - t) ((zs.drop t).take (h - t)) from ((HR.out.1.tail_at t (h - t) (by omega)).below HO1.out.below))
        go_wp2_with fail
        refine (copyBytes_any _ (h - t) _ ((zs.drop t).take (h - t)) wr HPA.out (by omega)).mono ?_
        rintro e w2 ⟨a2, rfl, hb2, hr2⟩
        have hh2 := held_row KO HO1.out hb2 hr2
        have HH2 := Lib.hid hh2
        clear hb2 hr2 hh2 hcy2 hmin
        have gat : IntKind.i64.wrap ((t : Int) + ((h - t : Nat) : Int)) = (h : Int) := by rw [IntKind.wrap_i64]; omega
        go_wp2_with fail
        clear gat
        refine (heldB_write_own KO HH2.out (HR.out.2.1.take t) ((HR.out.2.1.drop t).take (h - t)) (by unfold maxLen; omega) (by have := HR.out.2.2; simp; omega) HT.out).mono ?_
        rintro e w3 ⟨rfl, hh3⟩
        rw [HJ.out] at hh3
        have HH3 := Lib.hid hh3
        clear hh3
        go_wp2
        go_loopw [9] (fun j W => ∃ (i : Nat) (xs : List Int), i ≤ h - t ∧ j = .int .i64 i ∧ HeldB St w p (zs.take h) a2 (h - t) (h - t) xs W) (fun j _ => (h - t) - (intOf j).toNat)
        case atStart => exact ⟨0, _, Nat.zero_le _, rfl, HH3.out⟩
        case round =>
          obtain ⟨i, xs, hi, rfl, hh⟩ := hrel
          by_cases hil : i < h - t
          · obtain ⟨gb, off2, y2, rfl, _, hcell, hfree, hset⟩ := heldB_set KO hh hil
            have gi : (i : Int) < ((h - t : Nat) : Int) := by omega
            clear hh
            go_wp2
            go_roundw
            case rel => exact ⟨i + 1, _, by omega, by go_num, hset.out _⟩
            case measure => simp [intOf]; omega
          · obtain rfl : i = h - t := by omega
            have HF := Lib.hid hh.own
            clear hh
            go_wp2
            go_roundw
            case rel => exact ⟨k + 1, h, by omega, by omega, by go_num, by go_num, HF.out⟩
            case measure => simp [intOf]; omega
    · obtain rfl : k = m := by omega
      clear ho
      by_cases hct : cap = t
      · have HPA := Lib.hid (show Reads w a (len - t) (zs.drop t) by
          have := HR.out.2.2
          rw [show len - t = 0 by omega, List.drop_eq_nil_of_le (by omega)]; exact ⟨by simp, .inl rfl⟩)
        go_wp2_with fail
        refine (own_write KO w wr p (zs.take t) (zs.drop t) a (len - t) 0 HO1.out (HR.out.2.1.take t) HPA.out (HR.out.2.1.drop t) (by omega) (by unfold maxLen; omega) (by have := HR.out.2.2; simp; omega) HT.out).mono ?_
        rintro e w2 ⟨rfl, ho2⟩
        rw [List.take_append_drop] at ho2
        have hs := own_sum KO w w2 p zs ho2 HR.out.2.1 (by have := HR.out.2.2; omega) HT.out
        have HS := Lib.hid hs
        have heq := fun W => eql_sha W zs
        have hgd := fun W x y => guard_dv W x y ((sha zs).map (Value.int .u8)).toArray ((sha zs).map (Value.int .u8)).toArray
        clear hs ho2
        go_wp2_with fail
        refine HS.out.mono ?_
        rintro e w3 ⟨rfl, ho3⟩
        have HO3 := Lib.hid ho3
        clear ho3
        go_wp2_with fail
        refine (SO a len _ zs w3 (HR.out.1.below HO3.out.below) HR.out.2.1 (by omega) (by omega) (HT.out.below HO3.out.below HT.out.lt)).mono ?_
        rintro e w4 ⟨rfl, hb4⟩
        have HO4 := Lib.hid (HO3.out.keep KO hb4)
        clear hb4
        go_wp2_with fail
        refine (own_sum KO w w4 p zs HO4.out HR.out.2.1 (by have := HR.out.2.2; omega) HT.out).mono ?_
        rintro e w5 ⟨rfl, ho5⟩
        have HO5 := Lib.hid ho5
        clear ho5
        go_wp2_with fail
        refine (SO a len _ zs w5 (HR.out.1.below HO5.out.below) HR.out.2.1 (by omega) (by omega) (HT.out.below HO5.out.below HT.out.lt)).mono ?_
        rintro e w6 ⟨rfl, hb6⟩
        have HB6 := Lib.hid ((HO5.out.keep KO hb6).below)
        clear hb6
        go_wp2_with fail
        clear heq hgd
        refine (works_any SO w6 (HT.out.below HB6.out HT.out.lt)).mono ?_
        rintro e w7 ⟨rfl, hb7⟩
        go_wp2
        go_ret
        exact ⟨rfl, HB6.out.trans (hb7.mono HB6.out.size)⟩
      · have HPA := Lib.hid (show Reads w (a.map fun x => x.add t) (len - t) (zs.drop t) by
          have := HR.out.1.tail_at t (len - t) (by omega)
          rwa [List.take_of_length_le (by have := HR.out.2.2; simp; omega)] at this)
        go_wp2_with fail
        refine (own_write KO w wr p (zs.take t) (zs.drop t) _ (len - t) _ HO1.out (HR.out.2.1.take t) HPA.out (HR.out.2.1.drop t) (by omega) (by unfold maxLen; omega) (by have := HR.out.2.2; simp; omega) HT.out).mono ?_
        rintro e w2 ⟨rfl, ho2⟩
        rw [List.take_append_drop] at ho2
        have hs := own_sum KO w w2 p zs ho2 HR.out.2.1 (by have := HR.out.2.2; omega) HT.out
        have HS := Lib.hid hs
        have heq := fun W => eql_sha W zs
        have hgd := fun W x y => guard_dv W x y ((sha zs).map (Value.int .u8)).toArray ((sha zs).map (Value.int .u8)).toArray
        clear hs ho2
        go_wp2_with fail
        refine HS.out.mono ?_
        rintro e w3 ⟨rfl, ho3⟩
        have HO3 := Lib.hid ho3
        clear ho3
        go_wp2_with fail
        refine (SO a len _ zs w3 (HR.out.1.below HO3.out.below) HR.out.2.1 (by omega) (by omega) (HT.out.below HO3.out.below HT.out.lt)).mono ?_
        rintro e w4 ⟨rfl, hb4⟩
        have HO4 := Lib.hid (HO3.out.keep KO hb4)
        clear hb4
        go_wp2_with fail
        refine (own_sum KO w w4 p zs HO4.out HR.out.2.1 (by have := HR.out.2.2; omega) HT.out).mono ?_
        rintro e w5 ⟨rfl, ho5⟩
        have HO5 := Lib.hid ho5
        clear ho5
        go_wp2_with fail
        refine (SO a len _ zs w5 (HR.out.1.below HO5.out.below) HR.out.2.1 (by omega) (by omega) (HT.out.below HO5.out.below HT.out.lt)).mono ?_
        rintro e w6 ⟨rfl, hb6⟩
        have HB6 := Lib.hid ((HO5.out.keep KO hb6).below)
        clear hb6
        go_wp2_with fail
        clear heq hgd
        refine (works_any SO w6 (HT.out.below HB6.out HT.out.lt)).mono ?_
        rintro e w7 ⟨rfl, hb7⟩
        go_wp2
        go_ret
        exact ⟨rfl, HB6.out.trans (hb7.mono HB6.out.size)⟩
end Go.Proofs.YthekihginpodmaaDoor
