/-
  Package ring: its functions' contracts, of elements of one type.
-/
import Derived.Test.YtdlcmmodhicieaaRing
namespace Go.Proofs.Ytdlcmmodhicieaa
open Go.RowKit Go.Conc
set_option linter.unusedVariables false
set_option linter.unusedSimpArgs false

theorem new_no_bool (w : World) (most : Int) (h : most < 1 ∨ 1048576 < most) :
    Calls Try.prog 32 #[.int .i64 most] w fun e w' => e = .returned (.tuple #[.pointer none, .int .i64 1]) ∧ w = w' := by
  by_cases h1 : most < 1
  · clear h
    go_enter Try.func32, Try.ntmps32
    go_wp2
    go_ret2
    exact ⟨rfl, rfl⟩
  · have h2 : 1048576 < most := by omega
    clear h
    go_enter Try.func32, Try.ntmps32
    go_wp2
    go_ret2
    exact ⟨rfl, rfl⟩
theorem new_yes_bool (w : World) (n : Nat) (h1 : 1 ≤ n) (h2 : n ≤ 1048576) :
    Calls Try.prog 32 #[.int .i64 n] w fun e w' => e = .returned (.tuple #[.pointer (some ⟨w.heap.size + 1, 0, none⟩), .int .i64 0]) ∧ IsRing 87 1 w' (w.heap.size + 1) w.heap.size none n 0 [] ∧ Turn [] w w' := by
  have hmk := make_chan w n h2
  go_enter Try.func32, Try.ntmps32
  go_wp2
  go_ret2
  refine ⟨by simp, ⟨by omega, (fun k hk => by cases hk), h2, Nat.zero_le _, none, 0, #[], 0, 0, ?_, ?_, rfl, Win.nil _ _ _⟩, ((Turn.refl _ _).alloc _).alloc _⟩
  · have e : w.heap.size + 1 = (w.alloc (.chan n #[] false 0 0 false)).heap.size := by simp
    rw [e]
    exact heap_alloc_new _ _
  · rw [Below.heap_alloc _ _ _ (by simp)]
    exact heap_alloc_new _ _

theorem len_bool (w : World) (rb cb : Nat) (g : Option Nat) (n m : Nat) (flat : List Value) (h : IsRing 87 1 w rb cb g n m flat) :
    Calls Try.prog 33 #[.pointer (some ⟨rb, 0, none⟩)] w fun e w' => e = .returned (.int .i64 m) ∧ w = w' := by
  obtain ⟨h1, h2, h3, h4, a, c, buf, s, r, hb, hc, rfl, hw⟩ := h
  have c0 : w.cell? ⟨rb, 0, none⟩ = some (.chan (some cb)) := by rw [cell_of_row w rb 0 _ _ (0, 0) hb]; rfl
  have hl := fun ty => chan_len (P := Try.prog) 76 ty Try.underlying76 hc
  clear hb hc hw h1 h2 h3 h4
  go_enter Try.func33, Try.ntmps33
  go_wp2
  go_ret
  exact ⟨rfl, rfl⟩

theorem room_bool (w : World) (rb cb : Nat) (g : Option Nat) (n m : Nat) (flat : List Value) (h : IsRing 87 1 w rb cb g n m flat) :
    Calls Try.prog 34 #[.pointer (some ⟨rb, 0, none⟩)] w fun e w' => e = .returned (.int .i64 ((n - m : Nat) : Int)) ∧ Turn [] w w' := by
  obtain ⟨h1, h2, h3, h4, a, c, buf, s, r, hb, hc, rfl, hw⟩ := h
  have c0 : w.cell? ⟨rb, 0, none⟩ = some (.chan (some cb)) := by rw [cell_of_row w rb 0 _ _ (0, 0) hb]; rfl
  have hl := fun ty => chan_len (P := Try.prog) (w := w.drew) 76 ty Try.underlying76 hc
  have hr := fun ty => chan_cap (P := Try.prog) (w := w.drew) 76 ty Try.underlying76 hc
  have hsub : ((n - buf.size : Nat) : Int) = (n : Int) - (buf.size : Int) := by omega
  rw [hsub]
  have hw0 : IntKind.i64.wrap ((n : Int) - (buf.size : Int)) = (n : Int) - (buf.size : Int) := by rw [IntKind.wrap_i64]; omega
  clear hb hc hw h1 h2 h3 h4 hsub
  go_enter Try.func34, Try.ntmps34
  go_wp2
  go_region
  go_wp2
  go_ret
  exact ⟨rfl, (Turn.refl _ _).drew⟩

theorem new_my_bool (B : Nat) (w : World) (hB : B ≤ w.heap.size) (n : Nat) (h1 : 1 ≤ n) (h2 : n ≤ 1048576) :
    Calls Try.prog 32 #[.int .i64 n] w fun e w' => ∃ rb cb, e = .returned (.tuple #[.pointer (some ⟨rb, 0, none⟩), .int .i64 0]) ∧ MyRing 87 1 B w' rb cb n 0 [] ∧ Below B w w' :=
  (new_yes_bool w n h1 h2).mono fun e w' ⟨he, h, ht⟩ => ⟨_, _, he, my_new hB h ht⟩
theorem len_my_bool (B : Nat) (w : World) (rb cb n m : Nat) (flat : List Value) (h : MyRing 87 1 B w rb cb n m flat) : Calls Try.prog 33 #[.pointer (some ⟨rb, 0, none⟩)] w fun e w' => e = .returned (.int .i64 m) ∧ w = w' := by
  obtain ⟨g, h1, h2⟩ := h
  exact len_bool w rb cb g n m flat h1
theorem room_my_bool (B : Nat) (w : World) (rb cb n m : Nat) (flat : List Value) (h : MyRing 87 1 B w rb cb n m flat) : Calls Try.prog 34 #[.pointer (some ⟨rb, 0, none⟩)] w fun e w' => e = .returned (.int .i64 ((n - m : Nat) : Int)) ∧ MyRing 87 1 B w' rb cb n m flat ∧ Below B w w' := by
  have hs := h.size
  have hh := h
  obtain ⟨g, h1, h2⟩ := h
  exact (room_bool w rb cb g n m flat h1).mono fun e w' ⟨he, ht⟩ => ⟨he, hh.turn ht, ht.below (by omega) (fun _ hk => by cases hk)⟩

end Go.Proofs.Ytdlcmmodhicieaa
