/-
  The laws' 'long', and the bytes of the pieces, joined.
-/
import Derived.Test.YthekihginpodmaaDoorShaApi
import Derived.Test.YthekihginpodmaaDoorRows8
namespace Go.Proofs.YthekihginpodmaaDoor
open Go.RowKit
set_option linter.unusedVariables false

/-- The bytes of the first k pieces. -/
def cat (L : List Sl) (k : Nat) : List Int := ((L.take k).map Sl.zs).flatten
theorem cat_zero (L : List Sl) : cat L 0 = [] := by simp [cat]
theorem cat_succ {L : List Sl} {k : Nat} {r : Sl} (h : L[k]? = some r) : cat L (k + 1) = cat L k ++ r.zs := by
  unfold cat
  rw [List.take_add_one, h]
  simp
theorem cat_byt {w : World} {a : Option Addr} {len cap : Nat} {L : List Sl} (h : Rows8 w a len cap L) (k : Nat) : Byt (cat L k) := by
  intro z hz
  unfold cat at hz
  obtain ⟨l, hl, hz⟩ := List.mem_flatten.1 hz
  obtain ⟨r, hr, rfl⟩ := List.mem_map.1 hl
  exact (h.row r (List.mem_of_mem_take hr)).2.1 z hz
theorem cat_len {w : World} {a : Option Addr} {len cap : Nat} {L : List Sl} (h : Rows8 w a len cap L) (hs : ∀ r ∈ L, r.n ≤ 1024) : ∀ k, k ≤ len → (cat L k).length ≤ 1024 * k
  | 0, _ => by simp [cat]
  | k + 1, hk => by
    have hl : k < L.length := by rw [h.hlen]; omega
    have hg : L[k]? = some L[k] := by simp [hl]
    rw [cat_succ hg, List.length_append]
    have := cat_len h hs k (by omega)
    have h1 := (h.row _ (List.getElem_mem hl)).1.1
    have h2 := hs _ (List.getElem_mem hl)
    omega

/-- What 'long' hands back. -/
def LongPost (len : Nat) (L : List Sl) (w : World) (e : Ending) (w' : World) : Prop := ∃ b, e = .returned (.bool b) ∧ w' = w ∧ (b = false → len ≤ 50 ∧ ∀ r ∈ L, r.n ≤ 1024)
theorem longPost_yes (len : Nat) (L : List Sl) (w : World) : LongPost len L w (.returned (.bool true)) w := ⟨true, rfl, rfl, fun h => by cases h⟩
theorem longPost_no (len : Nat) (L : List Sl) (w : World) (h1 : len ≤ 50) (h2 : ∀ r ∈ L, r.n ≤ 1024) : LongPost len L w (.returned (.bool false)) w := ⟨false, rfl, rfl, fun _ => ⟨h1, h2⟩⟩
theorem long_any (w : World) (a : Option Addr) (len cap : Nat) (L : List Sl) (h : Rows8 w a len cap L) : Calls Tryd.prog 15 #[.slice a len cap] w (LongPost len L w) := by
  have hcap := h.hcap
  have hle := h.hle
  unfold maxLen at hcap
  have HH := Lib.hid h
  clear h
  by_cases hlong : 50 < len
  · have hg : (50 : Int) < len := by omega
    go_enter Tryd.func15, Tryd.ntmps15
    go_wp2
    go_ret
    exact longPost_yes _ _ _
  have hg : ¬ (50 : Int) < len := by omega
  go_enter Tryd.func15, Tryd.ntmps15
  go_wp2
  go_loop [3] (fun i => ∃ k : Nat, k ≤ len ∧ i = .int .i64 k ∧ ∀ (j : Nat) r, j < k → L[j]? = some r → r.n ≤ 1024) (fun i => len - (intOf i).toNat)
  case atStart => exact ⟨0, Nat.zero_le _, rfl, fun j r hj => by omega⟩
  case round =>
    obtain ⟨k, hk, rfl, hs⟩ := hrel
    by_cases hlt : k < len
    · obtain ⟨b, off, r, rfl, _, hr, hc, _⟩ := HH.out.get hlt
      have HS := Lib.hid (And.intro hs hr)
      have g1 : (k : Int) < len := by omega
      clear hs hr
      by_cases h10 : 1024 < r.n
      · have g2 : (1024 : Int) < r.n := by omega
        go_wp2
        go_ret
        exact longPost_yes _ _ _
      · have g2 : ¬ (1024 : Int) < r.n := by omega
        go_wp2
        go_round
        case rel =>
          refine ⟨k + 1, by omega, by go_num, fun j r' hj hr' => ?_⟩
          by_cases e : j = k
          · subst e
            rw [HS.out.2] at hr'
            cases hr'
            omega
          · exact HS.out.1 j r' (by omega) hr'
        case measure => simp [intOf]; omega
    · obtain rfl : k = len := by omega
      have HS := Lib.hid hs
      clear hs
      go_wp2
      go_ret
      refine longPost_no _ _ _ (by omega) fun r hr => ?_
      obtain ⟨i, hi⟩ := List.mem_iff_getElem?.1 hr
      have : i < L.length := (List.getElem?_eq_some_iff.1 hi).1
      exact HS.out i r (by rw [← HH.out.hlen]; exact this) hi
end Go.Proofs.YthekihginpodmaaDoor
