/-
  The walk of RingPlaces.
-/
import Derived.Test.YtdlcmmodhicieaaRingWorks
import Derived.Test.YtdlcmmodhicieaaRingSkip
import Derived.Test.YtdlcmmodhicieaaStructs
namespace Go.Proofs.Ytdlcmmodhicieaa
open Go.RowKit
set_option linter.unusedVariables false

/-- Two numbers of 16 bits. -/
def SkipOk (s : Int × Int) : Prop := (0 ≤ s.1 ∧ s.1 ≤ 65535) ∧ (0 ≤ s.2 ∧ s.2 ≤ 65535)
/-- A slice of such that came in (or nil). -/
def SkipRow (w : World) (a : Option Addr) (len : Nat) (ss : List (Int × Int)) : Prop :=
  ss.length = len ∧ ∀ (i : Nat) s, ss[i]? = some s → SkipOk s ∧ ∃ g off, a = some ⟨g, off, none⟩ ∧ g < w.heap.size ∧ w.cell? ⟨g, off + i * 2, none⟩ = some (.int .u16 s.1) ∧ w.cell? ⟨g, off + i * 2 + 1, none⟩ = some (.int .u16 s.2)
def IsSkips (w : World) (a : Option Addr) (len cap : Nat) (ss : List (Int × Int)) : Prop := SkipRow w a len ss ∧ len ≤ cap
theorem SkipRow.below {w w' : World} {a : Option Addr} {len : Nat} {ss : List (Int × Int)} (h : SkipRow w a len ss) (hb : Below w.heap.size w w') : SkipRow w' a len ss := by
  refine ⟨h.1, fun i s hs => ?_⟩
  obtain ⟨ok, g, off, h1, h2, h3, h4⟩ := h.2 i s hs
  exact ⟨ok, g, off, h1, Nat.lt_of_lt_of_le h2 hb.size, (hb.cell (p := ⟨g, off + i * 2, none⟩) h2).trans h3, (hb.cell (p := ⟨g, off + i * 2 + 1, none⟩) h2).trans h4⟩

section
open Go.ChangeShapes Go.WideShapes Go.Deep
theorem skips_in {H : Type} {enc : TypeId × Value → H} {w : World} {base : Nat} {spare : Nat → Bool} {held : Bool} {fuel : Nat} {a : Option Addr} {len cap : Nat} {x : DataW H × List MemPlace}
    (h : DataW.trod enc Try.prog w base spare held fuel 52 [.slice a len cap] = some x) : ∃ ss, IsSkips w a len cap ss := by
  rcases open_int_structs (ks := [.u16, .u16]) Try.underlying52 Try.underlying58 (by kernel_rfl) (by kernel_rfl) (by kernel_rfl) h with h0 | ⟨y, len', cap', m, h0, hl, hm, hlm, hall⟩
  · simp only [List.cons.injEq, Value.slice.injEq, and_true] at h0
    obtain ⟨rfl, rfl, rfl⟩ := h0
    exact ⟨[], ⟨rfl, fun i s hs => by simp at hs⟩, Nat.le_refl _⟩
  · simp only [List.cons.injEq, Value.slice.injEq, and_true] at h0
    obtain ⟨rfl, rfl, rfl⟩ := h0
    have hp : ∀ i, i < len → ∃ s : Int × Int, SkipOk s ∧ ∃ g off, y = ⟨g, off, none⟩ ∧ g < w.heap.size ∧ w.cell? ⟨g, off + i * 2, none⟩ = some (.int .u16 s.1) ∧ w.cell? ⟨g, off + i * 2 + 1, none⟩ = some (.int .u16 s.2) := by
      intro i hi
      obtain ⟨z0, c0, _⟩ := hall 0 (by omega) 0 .u16 rfl
      obtain ⟨z1, c1, w1⟩ := hall i (by omega) 0 .u16 rfl
      obtain ⟨z2, c2, w2⟩ := hall i (by omega) 1 .u16 rfl
      obtain ⟨b, off, spot⟩ := y
      have hspot : spot = none := by simpa [Addr.add] using World.cell?_spot c0
      subst hspot
      have hadd : ∀ k, (⟨b, off, none⟩ : Addr).add k = ⟨b, off + k, none⟩ := by intro k; unfold Addr.add; split <;> simp_all
      rw [hadd] at c1 c2
      refine ⟨(z1, z2), ⟨wf_u16_in w1, wf_u16_in w2⟩, b, off, rfl, World.block_lt_of_cell? w _ c1, c1, c2⟩
    obtain ⟨ss, hss, hall2⟩ := choose_below len hp
    refine ⟨ss, ⟨hss, fun i s hs => ?_⟩, hl⟩
    obtain ⟨ok, g, off, h1, h2⟩ := hall2 i s hs
    exact ⟨ok, g, off, by rw [h1], h2⟩
end

/-- Their cells. -/
def cellsOf : List (Int × Int) → List Value
  | [] => []
  | s :: ss => .int .u16 s.1 :: .int .u16 s.2 :: cellsOf ss
theorem cellsOf_append (a b : List (Int × Int)) : cellsOf (a ++ b) = cellsOf a ++ cellsOf b := by
  induction a with
  | nil => rfl
  | cons s a ih => simp [cellsOf, ih]
theorem cellsOf_at : ∀ (ss : List (Int × Int)) (i : Nat) (s : Int × Int), ss[i]? = some s → (cellsOf ss)[i * 2]? = some (.int .u16 s.1) ∧ (cellsOf ss)[i * 2 + 1]? = some (.int .u16 s.2)
  | [], i, s, h => by simp at h
  | t :: ss, 0, s, h => by simp at h; subst h; exact ⟨rfl, rfl⟩
  | t :: ss, i + 1, s, h => by
    have := cellsOf_at ss i s (by simpa using h)
    have e : (i + 1) * 2 = i * 2 + 1 + 1 := by omega
    rw [e]
    exact this

theorem take_next {ss : List (Int × Int)} {k : Nat} {s : Int × Int} (h : ss[k]? = some s) : cellsOf (ss.take (k + 1)) = cellsOf (ss.take k) ++ [.int .u16 s.1, .int .u16 s.2] := by
  rw [List.take_add_one, h, cellsOf_append]
  rfl

set_option maxRecDepth 100000 in
set_option maxHeartbeats 3200000 in
theorem placesF (w : World) (n : Nat) (room : Int) (hr : 0 ≤ room ∧ room ≤ 255) (hn : 1 + room = (n : Int)) (a : Option Addr) (len cap : Nat) (ss : List (Int × Int)) (hs : SkipRow w a len ss) (hcap : len ≤ cap) (hlen : len ≤ 300) (i : Int) (hi : -9223372036854775808 ≤ i ∧ i ≤ 9223372036854775807) :
    Calls Try.prog 5 #[.int .u8 room, .slice a len cap, .int .i64 i] w fun e w' => e = .returned (.bool true) ∧ Below w.heap.size w w' := by
  have HS := Lib.hid hs
  have HSL := Lib.hid hs.1
  have hl0 : decide (300 < (len : Int)) = false := by rw [decide_eq_false_iff_not]; omega
  have hn1 : 1 ≤ n := by omega
  have hn2 : n ≤ 256 := by omega
  clear hs
  go_enter Try.func5, Try.ntmps5
  go_wp2_with fail
  refine (new_my_skip w.heap.size w (Nat.le_refl _) n (by omega) (by omega)).mono ?_
  rintro e w1 ⟨rb, cb, rfl, hr1, hb1⟩
  have HR1 := Lib.hid hr1
  have HB1 := Lib.hid hb1
  have HN := Lib.hid (And.intro hn hr)
  clear hr1 hb1 hn hr
  go_wp2
  go_loopw [10] (fun t wr => ∃ k : Nat, k ≤ len ∧ t = .int .i64 k ∧ MyRing 84 2 w.heap.size wr rb cb n (min n k) (cellsOf (ss.take (min n k))) ∧ Below w.heap.size w wr) (fun t _ => len - (intOf t).toNat)
  case atStart => exact ⟨0, by omega, rfl, by simpa [cellsOf] using HR1.out, HB1.out⟩
  case round =>
    obtain ⟨k, hk, rfl, hr, hb⟩ := hrel
    by_cases hlt : k < len
    · have hil' : k < ss.length := by rw [HSL.out]; exact hlt
      obtain ⟨hok, g, off, rfl, hg1, hg2, hg3⟩ := (HS.out.below hb).2 k ss[k] (by simp [hil'])
      have HSK := Lib.hid (show ss[k]? = some ss[k] by simp [hil'])
      generalize ss[k] = st at *
      obtain ⟨y0, y1⟩ := st
      simp only at hg2 hg3
      have HB := Lib.hid hb
      clear hb hok
      by_cases hkn : k < n
      · have e1 : min n k = k := by omega
        rw [e1] at hr
        clear e1
        go_wp2_with fail
        refine (push_my_skip _ _ rb cb n k _ hr y0 y1 hkn).mono ?_
        rintro e w2 ⟨rfl, hr2, hb2⟩
        have HR2 := Lib.hid hr2
        have HB2 := Lib.hid hb2
        clear hr hr2 hb2 hg1 hg2 hg3
        go_wp2
        go_roundw
        case rel =>
          refine ⟨k + 1, by omega, by go_num, ?_, HB.out.trans HB2.out⟩
          rw [show min n (k + 1) = k + 1 by omega, take_next HSK.out]
          exact HR2.out
        case measure => simp [intOf]; omega
      · have e1 : min n k = n := by omega
        rw [e1] at hr
        clear e1
        go_wp2_with fail
        refine (push_myno_skip _ _ rb cb n n _ hr y0 y1 (Nat.le_refl _)).mono ?_
        rintro e w2 ⟨rfl, hr2, hb2⟩
        have HR2 := Lib.hid hr2
        have HB2 := Lib.hid hb2
        clear hr hr2 hb2 hg1 hg2 hg3
        go_wp2
        go_roundw
        case rel =>
          refine ⟨k + 1, by omega, by go_num, ?_, HB.out.trans HB2.out⟩
          rw [show min n (k + 1) = n by omega]
          exact HR2.out
        case measure => simp [intOf]; omega
    · obtain rfl : len = k := by omega
      obtain ⟨h, hh⟩ : ∃ h : Nat, min n len = h := ⟨_, rfl⟩
      have hmin : (if len < n then (len : Int) else (n : Int)) = (h : Int) := by split <;> omega
      have hh1 : h ≤ len := by omega
      have hh2 : h ≤ n := by omega
      rw [hh] at hr
      have HB := Lib.hid hb
      have HR := Lib.hid hr
      have HH := Lib.hid hh
      clear hr hb hh
      go_wp2
      clear hmin
      go_loopw [12] (fun t wr => ∃ k : Nat, k ≤ h ∧ t = .int .i64 k ∧ MyRing 84 2 w.heap.size wr rb cb n h (cellsOf (ss.take h)) ∧ Below w.heap.size w wr) (fun t _ => h - (intOf t).toNat)
      case atStart => exact ⟨0, by omega, rfl, HR.out, HB.out⟩
      case round =>
        obtain ⟨k, hk, rfl, hr, hb⟩ := hrel
        by_cases hlt : k < h
        · have hil' : k < ss.length := by rw [HSL.out]; omega
          have hat : (ss.take h)[k]? = some ss[k] := by rw [List.getElem?_take, if_pos hlt]; simp [hil']
          obtain ⟨hc0, hc1⟩ := cellsOf_at _ _ _ hat
          have hk0 : ss[k]? = some ss[k] := by simp [hil']
          generalize ss[k] = st at *
          obtain ⟨y0, y1⟩ := st
          simp only at hc0 hc1
          have HB := Lib.hid hb
          clear hb hat
          go_wp2_with fail
          refine (at_my_skip _ _ rb cb n h _ hr y0 y1 k hc0 hc1 hlt).mono ?_
          rintro e w2 ⟨rfl, hr2, hb2⟩
          have hbb := HB.out.trans hb2
          obtain ⟨hok, g, off, rfl, hg1, hg2, hg3⟩ := (HS.out.below hbb).2 k _ hk0
          have gk : (k : Int) < (len : Int) := by omega
          simp only at hg2 hg3
          have HR2 := Lib.hid hr2
          have HB2 := Lib.hid hbb
          clear hr hr2 hb2 hbb hc0 hc1 hok hk0
          go_wp2
          go_quiet (fail)
          go_wp2
          go_roundw
          case rel =>
            refine ⟨k + 1, by omega, by go_num, ?_, ?_⟩
            · exact (HR2.out.turn ((Turn.refl [] _).alloc _)).turn ((Turn.refl [] _).drewN _)
            · exact below_drewN (HB2.out.alloc (by have := HR2.out.size; omega) _) _
          case measure => simp [intOf]; omega
        · obtain rfl : h = k := by omega
          have HB := Lib.hid hb
          by_cases hi2 : 0 ≤ i ∧ i < (h : Int)
          · obtain ⟨j, rfl⟩ : ∃ j : Nat, i = (j : Int) := ⟨i.toNat, by omega⟩
            have hlt : j < h := by omega
            have hil' : j < ss.length := by rw [HSL.out]; omega
            have hat : (ss.take h)[j]? = some ss[j] := by rw [List.getElem?_take, if_pos hlt]; simp [hil']
            obtain ⟨hc0, hc1⟩ := cellsOf_at _ _ _ hat
            generalize ss[j] = st at *
            obtain ⟨y0, y1⟩ := st
            simp only at hc0 hc1
            have g1 : (j : Int) < (h : Int) := by omega
            clear hb hat hi2
            go_wp2_with fail
            refine (at_my_skip _ _ rb cb n h _ hr y0 y1 j hc0 hc1 hlt).mono ?_
            rintro e w2 ⟨rfl, hr2, hb2⟩
            have HB2 := Lib.hid (HB.out.trans hb2)
            have hr3 := hr2.turn ((Turn.refl [] w2).alloc (.cells #[.int .u16 y0, .int .u16 y1] 58))
            clear hr hb2 hc0 hc1
            go_wp2_with fail
            refine (len_my_skip _ _ rb cb n h _ hr3).mono ?_
            rintro e w' ⟨rfl, rfl⟩
            go_wp2_with fail
            refine (works_any _).mono ?_
            rintro e w3 ⟨rfl, hb3⟩
            go_wp2
            go_ret
            refine ⟨rfl, (HB2.out.alloc (by have := hr2.size; omega) _).trans (hb3.mono (by have := hr2.size; simp; omega))⟩
          · by_cases hneg : i < 0
            · have g1 : decide (0 ≤ i) = false := by rw [decide_eq_false_iff_not]; omega
              clear hi2
              clear hb
              go_wp2_with fail
              refine (at_myno_skip _ _ rb cb n h _ hr i (.inl hneg)).mono ?_
              rintro e w2 ⟨rfl, hr2, hb2⟩
              have HB2 := Lib.hid (HB.out.trans hb2)
              have hr3 := hr2.turn ((Turn.refl [] w2).alloc (.cells #[.int .u16 0, .int .u16 0] 58))
              clear hr hb2
              go_wp2_with fail
              refine (len_my_skip _ _ rb cb n h _ hr3).mono ?_
              rintro e w' ⟨rfl, rfl⟩
              go_wp2_with fail
              refine (works_any _).mono ?_
              rintro e w3 ⟨rfl, hb3⟩
              go_wp2
              go_ret
              refine ⟨rfl, (HB2.out.alloc (by have := hr2.size; omega) _).trans (hb3.mono (by have := hr2.size; simp; omega))⟩
            · have g0 : 0 ≤ i := by omega
              have g1 : decide (i < (h : Int)) = false := by rw [decide_eq_false_iff_not]; exact fun e => hi2 ⟨g0, e⟩
              have g2 : (h : Int) ≤ i := by omega
              clear hi2 hneg
              clear hb
              go_wp2_with fail
              refine (at_myno_skip _ _ rb cb n h _ hr i (.inr g2)).mono ?_
              rintro e w2 ⟨rfl, hr2, hb2⟩
              have HB2 := Lib.hid (HB.out.trans hb2)
              have hr3 := hr2.turn ((Turn.refl [] w2).alloc (.cells #[.int .u16 0, .int .u16 0] 58))
              clear hr hb2
              go_wp2_with fail
              refine (len_my_skip _ _ rb cb n h _ hr3).mono ?_
              rintro e w' ⟨rfl, rfl⟩
              go_wp2_with fail
              refine (works_any _).mono ?_
              rintro e w3 ⟨rfl, hb3⟩
              go_wp2
              go_ret
              refine ⟨rfl, (HB2.out.alloc (by have := hr2.size; omega) _).trans (hb3.mono (by have := hr2.size; simp; omega))⟩

set_option maxRecDepth 100000 in
set_option maxHeartbeats 800000 in
theorem ringPlaces_walk (room : Int) (a : Option Addr) (len cap : Nat) (ss : List (Int × Int)) (i : Int) (w : World) (wr : (Lit.int .u8 room).wf = true) (hz : IsSkips w a len cap ss) (wi : (Lit.int .i64 i).wf = true) :
    Calls Try.prog 5 #[.int .u8 room, .slice a len cap, .int .i64 i] w fun e w' => e = .returned (.bool true) ∧ Below w.heap.size w w' := by
  have hr := wf_u8_in wr
  have hi := wf_i64_in wi
  obtain ⟨hs, hcap⟩ := hz
  obtain ⟨n, hn⟩ : ∃ n : Nat, 1 + room = (n : Int) := ⟨(1 + room).toNat, by omega⟩
  by_cases hlen : len ≤ 300
  · exact placesF w n room hr hn a len cap ss hs hcap hlen i hi
  · clear hs wr wi
    have hl0 : 300 < (len : Int) := by omega
    have HN := Lib.hid (And.intro hn hr)
    have hn1 : 1 ≤ n := by omega
    have hn2 : n ≤ 256 := by omega
    clear hlen
    go_enter Try.func5, Try.ntmps5
    go_wp2_with fail
    refine (new_my_skip w.heap.size w (Nat.le_refl _) n hn1 (by omega)).mono ?_
    rintro e w1 ⟨rb, cb, rfl, hr1, hb1⟩
    go_wp2_with fail
    refine (works_any _).mono ?_
    rintro e w3 ⟨rfl, hb3⟩
    go_wp2
    go_ret
    refine ⟨rfl, hb1.trans (hb3.mono (by have := hr1.size; omega))⟩
end Go.Proofs.Ytdlcmmodhicieaa
