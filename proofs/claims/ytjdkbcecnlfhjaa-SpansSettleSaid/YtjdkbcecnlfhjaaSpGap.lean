/-
  Slices of api.Gap that the call made; package spans: Gaps.
-/
import Derived.Test.YtjdkbcecnlfhjaaSpLast
import Derived.Deep.OwnRows
namespace Go.Proofs.Ytjdkbcecnlfhjaa
open Go.RowKit
set_option linter.unusedVariables false

def gapCells (L : List (Nat × Nat)) : List Value := L.flatMap fun p => [.int .u16 (p.1 : Int), .int .u16 (p.2 : Int)]
/-- A row of the call's own that holds these gaps; nil where there are none. -/
def GapRow (base : Nat) (w : World) (a : Option Addr) (c : Nat) (L : List (Nat × Nat)) : Prop := w.ownsRow base 45 2 (.slice a L.length c) L.length (gapCells L)
theorem gapCells_len (L : List (Nat × Nat)) : (gapCells L).length = L.length * 2 := by
  unfold gapCells
  induction L with
  | nil => rfl
  | cons p L ih => simp only [List.flatMap_cons, List.length_append, ih, List.length_cons, List.length_nil]; omega
theorem gapCells_snoc (L : List (Nat × Nat)) (a b : Nat) : gapCells (L ++ [(a, b)]) = gapCells L ++ [.int .u16 (a : Int), .int .u16 (b : Int)] := by
  unfold gapCells; simp
theorem gapCells_at (L : List (Nat × Nat)) (i : Nat) (p : Nat × Nat) (h : L[i]? = some p) : (gapCells L)[i * 2]? = some (.int .u16 (p.1 : Int)) ∧ (gapCells L)[i * 2 + 1]? = some (.int .u16 (p.2 : Int)) := by
  induction L generalizing i with
  | nil => simp at h
  | cons q L ih =>
    have e : gapCells (q :: L) = .int .u16 (q.1 : Int) :: .int .u16 (q.2 : Int) :: gapCells L := rfl
    rw [e]
    cases i with
    | zero => simp at h; subst h; exact ⟨rfl, rfl⟩
    | succ i =>
      simp at h
      obtain ⟨h1, h2⟩ := ih i h
      rw [show (i + 1) * 2 = i * 2 + 1 + 1 by omega]
      exact ⟨by simpa using h1, by simpa using h2⟩
theorem GapRow.nil (base : Nat) (w : World) : GapRow base w none 0 [] := World.ownsRow_nil _ _ _ _
theorem GapRow.turn {base : Nat} {w w' : World} {a : Option Addr} {c : Nat} {L : List (Nat × Nat)} (h : GapRow base w a c L) {bs : List Nat} (ht : Turn bs w w') (hn : ∀ j ∈ bs, j < base) : GapRow base w' a c L := ownsRow_turn h ht hn
theorem GapRow.of_owns {base : Nat} {w : World} {v : Value} {n : Nat} {xs : List Value} {L : List (Nat × Nat)} (h : w.ownsRow base 45 2 v n xs) (e : xs = gapCells L) : ∃ a c, v = .slice a L.length c ∧ GapRow base w a c L := by
  subst e
  have hn : n = L.length := by have := h.1; rw [gapCells_len] at this; omega
  subst hn
  rcases h.2 with ⟨rfl, h0⟩ | ⟨g, cap, cur, rfl, r⟩
  · refine ⟨none, 0, by rw [h0], ?_⟩
    unfold GapRow
    rw [h0] at h ⊢
    exact h
  · exact ⟨_, cap, rfl, h⟩
/-- Its cells, as the walk asks for them. -/
theorem GapRow.cell {base : Nat} {w : World} {a : Option Addr} {c : Nat} {L : List (Nat × Nat)} (h : GapRow base w a c L) (i : Nat) (p : Nat × Nat) (hp : L[i]? = some p) :
    ∃ g, a = some ⟨g, 0, none⟩ ∧ base ≤ g ∧ w.cell? ⟨g, i * 2, none⟩ = some (.int .u16 (p.1 : Int)) ∧ w.cell? ⟨g, i * 2 + 1, none⟩ = some (.int .u16 (p.2 : Int)) := by
  have hi : i < L.length := (List.getElem?_eq_some_iff.1 hp).1
  rcases h.2 with ⟨h1, h2⟩ | ⟨g, cap, cur, hv, hb, hg, r⟩
  · omega
  · cases hv
    obtain ⟨h1, h2⟩ := gapCells_at L i p hp
    exact ⟨g, rfl, hb, by rw [World.ownsRow.cellAt h _ (by omega)]; exact h1, by rw [World.ownsRow.cellAt h _ (by omega)]; exact h2⟩

def RetGap (base : Nat) (L : List (Nat × Nat)) (w : World) (e : Ending) (w' : World) : Prop := ∃ a c, e = .returned (.slice a L.length c) ∧ GapRow base w' a c L ∧ Turn [] w w'

theorem Try.infoG : (Try.prog.info? 45).map (fun i => (i.zero, i.size, i.bytes)) = some (some (.agg #[.int .u16 0, .int .u16 0]), 2, 4) := by kernel_rfl

theorem cells_two (w : World) (e : TypeId) (x y : Value) : ∀ (j : Nat) u, [x, y][j]? = some u → (w.alloc (.cells #[x, y] e)).cell? ((⟨w.heap.size, 0, none⟩ : Addr).add j) = some u := by
  intro j u hu
  have hadd : (⟨w.heap.size, 0, none⟩ : Addr).add j = ⟨w.heap.size, j, none⟩ := by unfold Addr.add; split <;> simp_all
  rw [hadd, cell_of_row _ w.heap.size j _ _ (0, 0) (heap_alloc_new _ _)]
  match j, hu with
  | 0, hu => simpa using hu
  | 1, hu => simpa using hu
theorem one_two (a b : Nat) : ∀ u ∈ [Value.int .u16 (a : Int), Value.int .u16 (b : Int)], u.oneCell' = true := by
  intro u hu
  simp at hu
  rcases hu with rfl | rfl <;> rfl

theorem has_at (w : World) (sb bm : Nat) (base x : Int) (f : Nat → Bool) (h : IsSet w sb bm base f) (hx : 0 ≤ x ∧ x ≤ 4294967295) (k : Nat) (hk : dist base x = k) (b : Bool) (hb : f k = b) :
    Calls Try.prog 14 #[.pointer (some ⟨sb, 0, none⟩), .int .u32 x] w fun e w' => e = .returned (.bool b) ∧ w = w' := by
  have := has_any w sb bm base x f h hx
  rw [hk, hb] at this
  exact this

theorem take_all {G l rest : List (Nat × Nat)} (h : l ++ rest = G) (m : Nat) (h1 : l.length ≤ m) (h2 : rest = [] ∨ m ≤ l.length) : G.take m = l := by
  subst h
  rcases h2 with rfl | h2
  · rw [List.append_nil, List.take_of_length_le h1]
  · have : m = l.length := by omega
    subst this
    simp

theorem gaps_nil (w : World) (n : Int) :
    Calls Try.prog 21 #[.pointer none, .int .i64 n] w fun e w' => e = .returned (.slice none 0 0) ∧ w = w' := by
  have hb := base_nil w
  have hl := last_nil w
  have ha : Calls Try.prog 34 #[.int .u32 0, .int .u32 0] w _ := ahead_any 0 0 w (by omega) (by omega)
  rw [dist_self] at ha
  go_enter Try.func21, Try.ntmps21
  go_wp2_with fail
  refine hb.mono ?_
  rintro e w' ⟨rfl, rfl⟩
  go_wp2_with fail
  refine hl.mono ?_
  rintro e w' ⟨rfl, rfl⟩
  go_wp2_with fail
  refine ha.mono ?_
  rintro e w' ⟨rfl, rfl⟩
  go_wp2
  refine wp_loop_rounds 1 ?_
  rw [rounds_succ]
  go_wp2
  go_ret
  exact ⟨rfl, rfl⟩

set_option maxHeartbeats 1600000 in
theorem gaps_any (w : World) (sb bm : Nat) (base : Int) (f : Nat → Bool) (h : IsSet w sb bm base f) (most : Int) (hmost : -9223372036854775808 ≤ most ∧ most ≤ 9223372036854775807) (m : Nat) (hm : Lst f m) (G : List (Nat × Nat)) (hG : IsGaps f 1 G) :
    Calls Try.prog 21 #[.pointer (some ⟨sb, 0, none⟩), .int .i64 most] w (RetGap w.heap.size (G.take most.toNat) w) := by
  have hb := base_any w sb bm base f h
  have hl := last_any w sb bm base f h m hm
  have hml := hm.le h.sup
  have hin := h.in
  have ha : ∀ W, Calls Try.prog 34 #[.int .u32 base, .int .u32 ((base + m) % 4294967296)] W _ := fun W => ahead_any base ((base + m) % 4294967296) W hin (by omega)
  have hdl : dist base ((base + m) % 4294967296) = m := dist_add base m (by omega)
  rw [hdl] at ha
  obtain ⟨i0, hi0, hz0, hz1, hz2⟩ := info_parts Try.infoG
  have hsup := Lib.hid h.sup
  have HS := Lib.hid h
  have HM := Lib.hid hm
  have HG := Lib.hid hG
  have HA := Lib.hid ha
  have HZ0 := Lib.hid hz0
  have HZ1 := Lib.hid hz1
  have HZ2 := Lib.hid hz2
  have HI0 := Lib.hid hi0
  clear h hm hG ha hdl hz0 hz1 hz2 hi0
  go_enter Try.func21, Try.ntmps21
  go_wp2_with fail
  refine hb.mono ?_
  rintro e w' ⟨rfl, rfl⟩
  go_wp2_with fail
  refine hl.mono ?_
  rintro e w1 ⟨rfl, ht1⟩
  have HT1 := Lib.hid ht1
  clear ht1 hb hl
  go_wp2_with fail
  refine (HA.out _).mono ?_
  rintro e w' ⟨rfl, rfl⟩
  go_wp2
  go_loopw [5, 7] (fun v x wr => ∃ (a : Option Addr) (c : Nat) (l rest : List (Nat × Nat)) (d : Nat), 1 ≤ d ∧ d ≤ 4098 ∧ v = .slice a l.length c ∧ x = .int .u32 d ∧ GapRow w.heap.size wr a c l ∧ l ++ rest = G ∧ IsGaps f d rest ∧ l.length ≤ most.toNat ∧ Turn [] w wr) (fun _ x _ => 5000 - (intOf x).toNat)
  case atStart => exact ⟨none, 0, [], G, 1, by omega, by omega, rfl, rfl, GapRow.nil _ _, rfl, HG.out, Nat.zero_le _, HT1.out⟩
  case round =>
    obtain ⟨a, c, l, rest, d, hd1, hd2, rfl, rfl, hrow, hlr, hrest, hll, hturn⟩ := hrel
    have hset := HS.out.turn hturn (by simp) (by simp)
    have c0 := hset.c0
    have HROW := Lib.hid hrow
    have HLR := Lib.hid hlr
    have HREST := Lib.hid hrest
    have HTURN := Lib.hid hturn
    have HSET := Lib.hid hset
    have hlen : l.length ≤ 4096 := by
      have h1 : l.length ≤ G.length := by rw [← hlr]; simp
      rcases HG.out.length hsup.out with h2 | h2
      · omega
      · rw [h2] at h1; simp at h1; simp [h1]
    clear hrow hlr hrest hturn hset
    by_cases hA : d ≤ m
    · by_cases hB : (l.length : Int) < most
      · cases hf : f d
        · -- no member: on
          have hh := has_at wr sb bm base ((base + d) % 4294967296) f HSET.out (by omega) d (dist_add base d (by omega)) false hf
          have HF := Lib.hid hf
          clear hf
          go_wp2_with fail
          refine hh.mono ?_
          rintro e w' ⟨rfl, rfl⟩
          go_wp2
          go_roundw
          case rel => exact ⟨a, c, l, rest, d + 1, by omega, by omega, rfl, by go_num, HROW.out, HLR.out, HREST.out.up HF.out, hll, HTURN.out⟩
          case measure => simp [intOf]; omega
        · -- a run begins
          obtain ⟨b, R, rfl, hb1, hb2, hb3, hR⟩ := HREST.out.first hf
          have hbs := (hsup.out b (hb2 b hb1 (Nat.le_refl _))).2
          have hh := has_at wr sb bm base ((base + d) % 4294967296) f HSET.out (by omega) d (dist_add base d (by omega)) true hf
          have HB2 := Lib.hid hb2
          have HB3 := Lib.hid hb3
          have HRR := Lib.hid hR
          clear hf hb2 hb3 hR
          go_wp2_with fail
          refine hh.mono ?_
          rintro e w' ⟨rfl, rfl⟩
          clear hh
          go_wp2
          go_loop [7] (fun x => ∃ k : Nat, d ≤ k ∧ k ≤ b ∧ x = .int .u32 k) (fun x => b - (intOf x).toNat)
          case atStart => exact ⟨d, Nat.le_refl _, hb1, rfl⟩
          case round =>
            obtain ⟨k, hk1, hk2, rfl⟩ := hrel
            by_cases hkb : k < b
            · go_wp2_with fail
              refine (has_at _ sb bm base _ f HSET.out (by omega) (k + 1) (by unfold dist; omega) true (HB2.out _ (by omega) (by omega))).mono ?_
              rintro e w' ⟨rfl, rfl⟩
              go_wp2
              go_round
              case rel => exact ⟨k + 1, by omega, by omega, by go_num⟩
              case measure => simp [intOf]; omega
            · obtain rfl : k = b := by omega
              go_wp2_with fail
              refine (has_at _ sb bm base _ f HSET.out (by omega) (k + 1) (by unfold dist; omega) false HB3.out).mono ?_
              rintro e w' ⟨rfl, rfl⟩
              have hown : wr.ownsRow w.heap.size 45 2 (.slice a l.length c) l.length (gapCells l) := HROW.out
              have hsz : w.heap.size ≤ wr.heap.size := HTURN.out.size
              go_wp2_with (at_builtin; refine wpList_append_own _ rfl (.tmp 46) (.tmp 52) 37 rfl w.heap.size 45 i0 (.agg #[.int .u16 0, .int .u16 0]) 2 4 Try.underlying37 HI0.out HZ0.out HZ1.out HZ2.out rfl (by decide) _ _ _ rfl (hown.alloc _) ⟨wr.heap.size, 0, none⟩ 1 1 [.int .u16 (d : Int), .int .u16 (k : Int)] rfl rfl ?d1 ?d2 ?d3 ?d4 ?d5 ?_)
              case d1 => exact cells_two wr _ _ _
              case d2 => exact one_two d k
              case d3 => unfold maxLen; omega
              case d4 => omega
              case d5 => simp; omega
              intro v' w2 hown' hgrow hnn
              have hB2 : Turn [] w w2 := (HTURN.out.alloc _).grown hgrow (fun g hg => .inr ((hown.lt g hg).1))
              obtain ⟨a2, c2, rfl, hrow2⟩ := GapRow.of_owns (L := l ++ [(d, k)]) hown' (by rw [gapCells_snoc])
              have HROW2 := Lib.hid hrow2
              have HT2 := Lib.hid hB2
              clear hown' hgrow hnn hrow2 hB2 hown hsz
              go_wp2
              go_roundw
              case rel => exact ⟨a2, c2, l ++ [(d, k)], R, k + 1, by omega, by omega, rfl, by go_num, HROW2.out, by rw [← HLR.out]; simp, HRR.out.down HB3.out, by simp; omega, HT2.out⟩
              case measure => simp [intOf]; omega
      · -- enough
        have hB' : decide ((l.length : Int) < most) = false := by simpa using hB
        go_wp2
        go_ret
        have hT := take_all HLR.out most.toNat hll (.inr (by omega))
        rw [hT]
        exact ⟨a, c, rfl, HROW.out, HTURN.out⟩
    · have hA' : decide (d ≤ m) = false := by simpa using hA
      go_wp2
      go_ret
      have hT := take_all HLR.out most.toNat hll (.inl (HREST.out.done fun k hk => by
        cases e : f k
        · rfl
        · have := HM.out.2 k e; omega))
      rw [hT]
      exact ⟨a, c, rfl, HROW.out, HTURN.out⟩
end Go.Proofs.Ytjdkbcecnlfhjaa
