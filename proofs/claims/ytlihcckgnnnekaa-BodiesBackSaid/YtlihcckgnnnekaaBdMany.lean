/-
  Stage 9: 'append' of pairs that came in onto nothing; the answers of GetForward in one form.
-/
import Derived.Test.YtlihcckgnnnekaaBdOne
import Derived.Test.YtlihcckgnnnekaaBdRows
import Derived.Test.YtlihcckgnnnekaaBdGetSR
namespace Go.Proofs.Ytlihcckgnnnekaa
open Go.RowKit
set_option linter.unusedVariables false

theorem pairC_cells {w : World} {a : Option Addr} {n : Nat} {ps : List (Int × Int)} (h : Prs w a n ps) {b off : Nat} (ha : a = some ⟨b, off, none⟩) (j : Nat) (u : Value) (hu : (pairC ps)[j]? = some u) : w.cell? ((⟨b, off, none⟩ : Addr).add j) = some u := by
  have hj : j < (pairC ps).length := (List.getElem?_eq_some_iff.1 hu).1
  rw [pairC_len] at hj
  obtain ⟨p, hp⟩ : ∃ p, ps[j / 2]? = some p := ⟨ps[j / 2]'(by omega), by simp [show j / 2 < ps.length by omega]⟩
  obtain ⟨g, o, hq, _, h0, h1⟩ := h.2.2 (j / 2) p hp
  rw [ha] at hq
  cases hq
  have h2 := pairC_at hp
  rw [show (⟨b, off, none⟩ : Addr).add j = ⟨b, off + j, none⟩ from Addr.add_mid _ _ _]
  rcases Nat.mod_two_eq_zero_or_one j with hm | hm
  · have e : j = j / 2 * 2 := by omega
    rw [e] at hu ⊢
    rw [h2.1] at hu
    rw [h0, Option.some.inj hu]
  · have e : j = j / 2 * 2 + 1 := by omega
    rw [e] at hu ⊢
    rw [h2.2] at hu
    rw [← Nat.add_assoc, h1, Option.some.inj hu]
/-- 'append' of pairs onto nothing. -/
theorem appendPairs {T ST : TypeId} (hinfo : (Try.prog.info? T).map (fun i => (i.zero, i.size, i.bytes)) = some (some (.agg #[.int .u16 0, .int .u16 0]), 2, 4)) (hST : Try.prog.underlying ST = some (.slice T)) {w : World} {base : Nat} (hb : base ≤ w.heap.size) (q : Option Addr) (n c : Nat) (ps : List (Int × Int)) (h : Prs w q n ps) (hn : n ≤ 1048576) :
    ∃ a' c' W3, (Builtin.append_ #[ST, ST] ST #[.slice none 0 0, .slice q n c]).run Try.prog w = .ok (.slice a' n c') W3 ∧ RowKit.Hid (RowP T base W3 a' n c' ps ∧ w.grownBy W3 none) := by
  obtain ⟨i0, hi0, hz⟩ := Option.map_eq_some_iff.1 hinfo
  simp only [Prod.mk.injEq] at hz
  obtain ⟨hz0, hz1, hz2⟩ := hz
  by_cases h0 : n = 0
  · subst h0
    have hp : ps = [] := List.eq_nil_of_length_eq_zero h.1
    subst hp
    exact ⟨none, 0, w, run_append_zero w _ _ i0 hST hi0 none q 0 0 c (Nat.le_refl _), Lib.hid ⟨World.ownsRow_nil _ _ _ _, grown_refl _ _⟩⟩
  · obtain ⟨p, hp⟩ : ∃ p, ps[0]? = some p := ⟨ps[0]'(by rw [h.1]; omega), by simp [show 0 < ps.length by rw [h.1]; omega]⟩
    obtain ⟨b, off, hq, _⟩ := h.2.2 0 p hp
    subst hq
    obtain ⟨v', W3, hrun, ho, hg, _⟩ := run_append_own (P := Try.prog) w base ST ST T i0 (.agg #[.int .u16 0, .int .u16 0]) 2 4 hST hi0 hz0 hz1 hz2 rfl (by decide) (.slice none 0 0) 0 [] (World.ownsRow_nil _ _ _ _) ⟨b, off, none⟩ n c (pairC ps) (by rw [pairC_len, h.1])
      (fun j u hu => pairC_cells h rfl j u hu) (by intro u hu; unfold pairC at hu; simp only [List.mem_flatten, List.mem_map] at hu; obtain ⟨l, ⟨p, _, rfl⟩, hu⟩ := hu; simp at hu; rcases hu with rfl | rfl <;> rfl) (by unfold maxLen; omega) (by omega) hb
    rw [Nat.zero_add, List.nil_append] at ho
    obtain ⟨a', c', rfl⟩ := slice_of_owns ho
    exact ⟨a', c', W3, hrun, Lib.hid ⟨ho, hg⟩⟩
theorem grown_none_arr {w w' : World} (hg : w.grownBy w' none) {g : Nat} {T : TypeId} {cs : List Value} (h : Arr w g T cs) : Arr w' g T cs := (hg.block g h.lt (by simp)).trans h
theorem grown_none_below {w w' : World} (hg : w.grownBy w' none) : Below w.heap.size w w' := ⟨hg.os, hg.tape, hg.output, hg.size, fun k hk => hg.block k hk (by simp)⟩

set_option maxRecDepth 100000 in
set_option maxHeartbeats 1600000 in
theorem many_any (s0 s1 : Int) (sa : Option Addr) (sn sk : Nat) (sb : Option Addr) (sm sl : Nat) (f0 : Int) (fa : Option Addr) (fn' fk : Nat) (w : World) :
    Calls Try.prog 28 #[.agg #[.int .u32 s0, .int .u32 s1, .slice sa sn sk, .slice sb sm sl], .agg #[.int .u32 f0, .slice fa fn' fk]] w fun e w' => e = .returned (.bool (decide (2048 < sn ∨ 2048 < sm ∨ 2048 < fn'))) ∧ Below w.heap.size w w' := by
  obtain ⟨w0, hw0⟩ : ∃ w0, w.alloc (.cells #[.int .u32 s0, .int .u32 s1, .slice sa sn sk, .slice sb sm sl] 52) = w0 := ⟨_, rfl⟩
  have hb0 : Below w.heap.size w w0 := by rw [← hw0]; exact (Below.refl _ _).alloc (Nat.le_refl _) _
  have hs0 : w0.heap.size = w.heap.size + 1 := by rw [← hw0]; simp
  have ha0 : Arr w0 w.heap.size 52 [.int .u32 s0, .int .u32 s1, .slice sa sn sk, .slice sb sm sl] := by rw [← hw0]; exact arr_new _ _ _
  obtain ⟨w1, hw1⟩ : ∃ w1, w0.alloc (.cells #[.int .u32 f0, .slice fa fn' fk] 56) = w1 := ⟨_, rfl⟩
  have hb1 : Below w0.heap.size w0 w1 := by rw [← hw1]; exact (Below.refl _ _).alloc (Nat.le_refl _) _
  have hk1 : Arr w1 (w.heap.size + 1) 56 [.int .u32 f0, .slice fa fn' fk] := by rw [← hw1, ← hs0]; exact arr_new _ _ _
  have ha1 := ha0.keep hb1
  have c2 := ha1.cell (i := 2) rfl
  have c3 := ha1.cell (i := 3) rfl
  have d1 := hk1.cell (i := 1) rfl
  have HB := Lib.hid (hb0.trans (hb1.mono hb0.size))
  clear hb0 hb1 ha0 ha1 hk1
  by_cases h1 : 2048 < sn
  · have g1 : (2048 : Int) < sn := by omega
    rw [decide_eq_true (by omega)]
    clear h1
    go_enter Try.func28, Try.ntmps28
    go_wp2; go_ret; exact ⟨rfl, HB.out⟩
  have g1 : ¬ (2048 : Int) < sn := by omega
  by_cases h2 : 2048 < sm
  · have g2 : (2048 : Int) < sm := by omega
    rw [decide_eq_true (by omega)]
    clear h1 h2
    go_enter Try.func28, Try.ntmps28
    go_wp2; go_ret; exact ⟨rfl, HB.out⟩
  have g2 : ¬ (2048 : Int) < sm := by omega
  by_cases h3 : 2048 < fn'
  · have g3 : (2048 : Int) < fn' := by omega
    rw [decide_eq_true (by omega)]
    clear h1 h2 h3
    go_enter Try.func28, Try.ntmps28
    go_wp2; go_ret; exact ⟨rfl, HB.out⟩
  have g3 : ¬ (2048 : Int) < fn' := by omega
  rw [decide_eq_false (by omega)]
  clear h1 h2 h3
  go_enter Try.func28, Try.ntmps28
  go_wp2; go_ret; exact ⟨rfl, HB.out⟩

/-- GetForward's answer, whatever it is. -/
theorem GotF.any {w : World} {b : Bool} {x0 : Int} {ps : List (Int × Int)} {e : Ending} {w' : World} (h : GotF w b x0 ps e w') :
    ∃ a1 c1, e = .returned (.tuple #[.agg #[.int .u32 (if b = true then x0 else 0), .slice a1 (if b = true then ps else []).length c1], .int .i64 (if b = true then 0 else 7)]) ∧ Below w.heap.size w w' ∧ Prs w' a1 (if b = true then ps else []).length (if b = true then ps else []) := by
  obtain ⟨a1, c1, h1, h2, h3⟩ := h
  rcases h1 with ⟨hb, h1⟩ | ⟨hb, h1⟩
  · subst hb; exact ⟨a1, c1, h1, h2, h3⟩
  · subst hb; exact ⟨none, 0, h1, h2, Prs.nil _ _⟩
theorem AnsF.any {w : World} {b : Bool} {x0 : Int} {ps : List (Int × Int)} {e : Ending} {w' : World} (h : AnsF w b x0 ps e w') :
    ∃ a1 c1, e = .returned (.tuple #[.agg #[.int .u32 (if b = true then x0 else 0), .slice a1 (if b = true then ps else []).length c1], .int .i64 (if b = true then 0 else 7)]) ∧ Below w.heap.size w w' ∧ Prs w' a1 (if b = true then ps else []).length (if b = true then ps else []) := by
  cases b with
  | true => exact (h.1 rfl).any
  | false => exact ⟨none, 0, (h.2 rfl).1, (h.2 rfl).2, Prs.nil _ _⟩
theorem nums_cells {w : World} {b off n : Nat} {zs : List Int} (h : Nums .u32 w (some ⟨b, off, none⟩) n zs) (j : Nat) (u : Value) (hu : (zs.map (Value.int .u32))[j]? = some u) : w.cell? ((⟨b, off, none⟩ : Addr).add j) = some u := by
  rw [List.getElem?_map] at hu
  obtain ⟨z, hz, rfl⟩ := Option.map_eq_some_iff.1 hu
  obtain ⟨g, o, hq, _, h0⟩ := h.2.2.2 j z hz
  cases hq
  rw [show (⟨b, off, none⟩ : Addr).add j = ⟨b, off + j, none⟩ from Addr.add_mid _ _ _]
  exact h0
/-- 'append' of numbers onto nothing. -/
theorem append32 {w : World} {base : Nat} (hb : base ≤ w.heap.size) (q : Option Addr) (n c : Nat) (zs : List Int) (h : Nums .u32 w q n zs) (hn : n ≤ 1048576) :
    ∃ a' c' W3, (Builtin.append_ #[50, 50] 50 #[.slice none 0 0, .slice q n c]).run Try.prog w = .ok (.slice a' n c') W3 ∧ RowKit.Hid (Row32 base W3 a' n c' zs ∧ w.grownBy W3 none) := by
  obtain ⟨i0, hi0, hz⟩ := Option.map_eq_some_iff.1 Try.infoU32
  simp only [Prod.mk.injEq] at hz
  obtain ⟨hz0, hz1, hz2⟩ := hz
  by_cases h0 : n = 0
  · subst h0
    have hp : zs = [] := List.eq_nil_of_length_eq_zero h.1
    subst hp
    exact ⟨none, 0, w, run_append_zero w _ _ i0 Try.underlying50 hi0 none q 0 0 c (Nat.le_refl _), Lib.hid ⟨World.ownsRow_nil _ _ _ _, grown_refl _ _⟩⟩
  · obtain ⟨p, hp⟩ : ∃ p, zs[0]? = some p := ⟨zs[0]'(by rw [h.1]; omega), by simp [show 0 < zs.length by rw [h.1]; omega]⟩
    obtain ⟨b, off, hq, _⟩ := h.2.2.2 0 p hp
    subst hq
    obtain ⟨v', W3, hrun, ho, hg, _⟩ := run_append_own (P := Try.prog) w base _ _ 22 i0 (.int .u32 0) 1 4 Try.underlying50 hi0 hz0 hz1 hz2 rfl (by decide) (.slice none 0 0) 0 [] (World.ownsRow_nil _ _ _ _) ⟨b, off, none⟩ n c (zs.map (Value.int .u32)) (by simp [h.1])
      (fun j u hu => nums_cells h j u hu) (by intro u hu; obtain ⟨z, _, rfl⟩ := List.mem_map.1 hu; rfl) (by unfold maxLen; omega) (by omega) hb
    rw [Nat.zero_add, List.nil_append] at ho
    obtain ⟨a', c', rfl⟩ := slice_of_owns ho
    exact ⟨a', c', W3, hrun, Lib.hid ⟨ho, hg⟩⟩
/-- GetSack's answer, whatever it is. -/
theorem GotS.any {w : World} {b : Bool} {x0 x1 : Int} {gs : List (Int × Int)} {ds : List Int} {e : Ending} {w' : World} (h : GotS w b x0 x1 gs ds e w') :
    ∃ a1 c1 a2 c2, e = .returned (.tuple #[.agg #[.int .u32 (if b = true then x0 else 0), .int .u32 (if b = true then x1 else 0), .slice a1 (if b = true then gs else []).length c1, .slice a2 (if b = true then ds else []).length c2], .int .i64 (if b = true then 0 else 7)]) ∧ Below w.heap.size w w' ∧ Prs w' a1 (if b = true then gs else []).length (if b = true then gs else []) ∧ Nums .u32 w' a2 (if b = true then ds else []).length (if b = true then ds else []) := by
  obtain ⟨a1, c1, a2, c2, h1, h2, h3, h4⟩ := h
  rcases h1 with ⟨hb, h1⟩ | ⟨hb, h1⟩
  · subst hb; exact ⟨a1, c1, a2, c2, h1, h2, h3, h4⟩
  · subst hb; exact ⟨none, 0, none, 0, h1, h2, Prs.nil _ _, ⟨rfl, by simp, by simp, by simp⟩⟩
theorem GotS.no {w : World} {b : Bool} {x0 x1 : Int} {gs : List (Int × Int)} {ds : List Int} {e : Ending} {w' : World} (h : e = .returned (.tuple #[.agg #[.int .u32 0, .int .u32 0, .slice none 0 0, .slice none 0 0], .int .i64 7]) ∧ Below w.heap.size w w') (hb : b = false) :
    ∃ a1 c1 a2 c2, e = .returned (.tuple #[.agg #[.int .u32 (if b = true then x0 else 0), .int .u32 (if b = true then x1 else 0), .slice a1 (if b = true then gs else []).length c1, .slice a2 (if b = true then ds else []).length c2], .int .i64 (if b = true then 0 else 7)]) ∧ Below w.heap.size w w' ∧ Prs w' a1 (if b = true then gs else []).length (if b = true then gs else []) ∧ Nums .u32 w' a2 (if b = true then ds else []).length (if b = true then ds else []) := by
  subst hb
  exact ⟨none, 0, none, 0, h.1, h.2, Prs.nil _ _, ⟨rfl, by simp, by simp, by simp⟩⟩
/-- An acknowledgement's body: its two counts. -/
theorem sackB_counts (x0 x1 : Int) (gs : List (Int × Int)) (ds : List Int) (hg : gs.length < 65536) (hd : ds.length < 65536) : natAt (sackB x0 x1 gs ds) 8 2 = (gs.length : Int) ∧ natAt (sackB x0 x1 gs ds) 10 2 = (ds.length : Int) := by
  constructor
  · exact natAt_at (a := enc x0 4 ++ enc x1 4) (b := enc (ds.length : Int) 2 ++ pairsB gs ++ encs ds 4) (m := 65536) (by omega) (by decide) (by omega) (by unfold sackB; simp only [List.append_assoc]) (by simp)
  · exact natAt_at (a := enc x0 4 ++ enc x1 4 ++ enc (gs.length : Int) 2) (b := pairsB gs ++ encs ds 4) (m := 65536) (by omega) (by decide) (by omega) (by unfold sackB; simp only [List.append_assoc]) (by simp)
theorem okSack_len {k f : Int} {zs : List Int} (h : okSack k f zs = true) (hn : zs.length ≤ 200000) {m q : Nat} (h2 : natAt zs 8 2 = (m : Int)) (h3 : natAt zs 10 2 = (q : Int)) : zs.length = 12 + 4 * m + 4 * q := by
  obtain ⟨_, _, e⟩ := okSack_eq h
  generalize sackG zs = gs at e
  generalize sackD zs = ds at e
  have hl := congrArg List.length e
  rw [sackB_len] at hl
  obtain ⟨e1, e2⟩ := sackB_counts (natAt zs 0 4) (natAt zs 4 4) gs ds (by omega) (by omega)
  rw [← e] at e1 e2
  omega
theorem rgetSack (k f : Int) (p : Option Addr) (n c : Nat) (zs : List Int) (w : World) (hr : Reads w p n zs) (hz : Byt zs) (hc : n ≤ c) (hn : n ≤ 200000) :
    Calls Try.prog 31 #[.agg #[.int .u8 k, .int .u8 f, .slice p n c]] w fun e w' =>
      ∃ a1 c1 a2 c2, e = .returned (.tuple #[.agg #[.int .u32 (if okSack k f zs = true then natAt zs 0 4 else 0), .int .u32 (if okSack k f zs = true then natAt zs 4 4 else 0), .slice a1 (if okSack k f zs = true then sackG zs else []).length c1, .slice a2 (if okSack k f zs = true then sackD zs else []).length c2], .int .i64 (if okSack k f zs = true then 0 else 7)]) ∧ Below w.heap.size w w' ∧ Prs w' a1 (if okSack k f zs = true then sackG zs else []).length (if okSack k f zs = true then sackG zs else []) ∧ Nums .u32 w' a2 (if okSack k f zs = true then sackD zs else []).length (if okSack k f zs = true then sackD zs else []) := by
  have hl := hr.1
  by_cases h12 : n < 12
  · refine (rgetSack_few k f p n c zs w hr hz hc hn h12).mono fun e w' h => GotS.no h ?_
    cases hb : okSack k f zs with
    | false => rfl
    | true =>
      have := congrArg List.length (okSack_eq hb).2.2
      rw [sackB_len] at this
      omega
  have hx2 := natAt2 hz 8
  have hx3 := natAt2 hz 10
  obtain ⟨m, hm⟩ : ∃ m : Nat, natAt zs 8 2 = (m : Int) := ⟨(natAt zs 8 2).toNat, by omega⟩
  obtain ⟨q, hq⟩ : ∃ q : Nat, natAt zs 10 2 = (q : Int) := ⟨(natAt zs 10 2).toNat, by omega⟩
  by_cases h4 : n = 12 + 4 * m + 4 * q
  · refine (rgetSack_more k f p n c zs w hr hz hc hn _ rfl _ rfl m q hm hq (by omega) h4).mono fun e w' h => ?_
    have hE : sackE zs = 12 + 4 * m := by unfold sackE; rw [hm]; rfl
    have e1 : sackG zs = pairsAt zs 12 m := by unfold sackG; rw [hE]; congr 1; omega
    have e2 : sackD zs = numsAt zs (12 + 4 * m) q := by unfold sackD; rw [hE]; congr 1; omega
    rw [← e1, ← e2, eqC_symm] at h
    exact h.any
  · refine (rgetSack_odd k f p n c zs w hr hz hc hn _ rfl _ rfl m q hm hq (by omega) h4).mono fun e w' h => GotS.no h ?_
    cases hb : okSack k f zs with
    | false => rfl
    | true =>
      have := okSack_len hb (by omega) hm hq
      omega
end Go.Proofs.Ytlihcckgnnnekaa
