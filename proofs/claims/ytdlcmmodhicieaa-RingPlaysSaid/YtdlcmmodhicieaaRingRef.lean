/-
  The reference of layer 5: contracts.
-/
import Derived.Test.YtdlcmmodhicieaaRingStr
import Derived.BigQuiet
import Derived.Deep.QuietTactic
namespace Go.Proofs.Ytdlcmmodhicieaa
open Go.RowKit
set_option linter.unusedVariables false

/-- A contract that leaves the world, where a region wants calls that at most draw. -/
theorem still_quiet {P : Program} {f : FuncId} {args : Array Value} {w : World} {n : Nat} {v : Value}
    (h : Calls P f args (w.drewN n) fun e w' => e = .returned v ∧ w.drewN n = w') : Calls P f args (w.drewN n) fun e w'' => e = .returned v ∧ ∃ m, w'' = w.drewN m :=
  h.mono fun _ _ ⟨he, hm⟩ => ⟨he, n, hm.symm⟩
theorem draw_quiet {P : Program} {f : FuncId} {args : Array Value} {w : World} {n : Nat} {v : Value}
    (h : Calls P f args (w.drewN n) fun e w' => e = .returned v ∧ (w.drewN n).drew = w') : Calls P f args (w.drewN n) fun e w'' => e = .returned v ∧ ∃ m, w'' = w.drewN m :=
  h.mono fun _ _ ⟨he, hm⟩ => ⟨he, n + 1, hm.symm⟩

theorem room_draw (w : World) (rb cb : Nat) (g : Option Nat) (n m : Nat) (flat : List Value) (h : IsRing 78 1 w rb cb g n m flat) :
    Calls Try.prog 21 #[.pointer (some ⟨rb, 0, none⟩)] w fun e w' => e = .returned (.int .i64 ((n : Int) - (m : Int))) ∧ w.drew = w' := by
  obtain ⟨h1, h2, h3, h4, a, c, buf, s, r, hb, hc, rfl, hw⟩ := h
  have c0 : w.cell? ⟨rb, 0, none⟩ = some (.chan (some cb)) := by rw [cell_of_row w rb 0 _ _ (0, 0) hb]; rfl
  have hl := fun ty => chan_len (P := Try.prog) (w := w.drew) 76 ty Try.underlying76 hc
  have hr := fun ty => chan_cap (P := Try.prog) (w := w.drew) 76 ty Try.underlying76 hc
  have hw0 : IntKind.i64.wrap ((n : Int) - (buf.size : Int)) = (n : Int) - (buf.size : Int) := by rw [IntKind.wrap_i64]; omega
  clear hb hc hw h1 h2 h3 h4
  go_enter Try.func21, Try.ntmps21
  go_wp2
  go_region
  go_wp2
  go_ret
  exact ⟨rfl, rfl⟩

/-- The pointer to block qb leads to a reference's ring. -/
structure IsRR (w : World) (qb : Nat) (g : Option Nat) (n m : Nat) (flat : List Value) : Prop where
  g1 : ∀ k, g = some k → k ≠ qb
  small : n ≤ 1048576
  le : m ≤ n
  body : ∃ a c, w.heap[qb]? = some (.cells #[.int .i64 n, .slice a m c] 39 (0, 0)) ∧ Win w 1 g a m c flat
/-- Its blocks. -/
def rblocks (qb : Nat) (g : Option Nat) : List Nat := qb :: g.toList
theorem mem_rblocks {qb k : Nat} {g : Option Nat} : k ∈ rblocks qb g ↔ k = qb ∨ g = some k := by
  unfold rblocks
  cases g <;> simp [eq_comm]
section
variable {w : World} {qb : Nat} {g : Option Nat} {n m : Nat} {flat : List Value}
theorem IsRR.turn (h : IsRR w qb g n m flat) {w' : World} {bs : List Nat} (ht : Turn bs w w') (hn : ∀ k ∈ rblocks qb g, k ∉ bs) : IsRR w' qb g n m flat := by
  obtain ⟨h1, h2, h3, a, c, hb, hw⟩ := h
  refine ⟨h1, h2, h3, a, c, ?_, hw.turn ht (fun k hk => hn k (mem_rblocks.2 (.inr hk)))⟩
  rw [ht.block qb (Array.getElem?_eq_some_iff.1 hb).1 (hn qb (mem_rblocks.2 (.inl rfl)))]; exact hb
theorem IsRR.lt (h : IsRR w qb g n m flat) : ∀ k ∈ rblocks qb g, k < w.heap.size := by
  obtain ⟨h1, h2, h3, a, c, hb, hw⟩ := h
  intro k hk
  rcases mem_rblocks.1 hk with rfl | hk
  · exact (Array.getElem?_eq_some_iff.1 hb).1
  · exact hw.lt k hk
theorem IsRR.len (h : IsRR w qb g n m flat) : flat.length = m := by
  obtain ⟨h1, h2, h3, a, c, hb, hw⟩ := h
  have := hw.1
  omega
/-- What is found, and what comes of another slice in it. -/
theorem IsRR.open (h : IsRR w qb g n m flat) : ∃ a c, w.cell? ⟨qb, 0, none⟩ = some (.int .i64 n) ∧ w.cell? ⟨qb, 1, none⟩ = some (.slice a m c) ∧ w.frozen? ⟨qb, 1, none⟩ = false ∧ Win w 1 g a m c flat ∧ qb < w.heap.size := by
  obtain ⟨h1, h2, h3, a, c, hb, hw⟩ := h
  exact ⟨a, c, by rw [cell_of_row w qb 0 _ _ (0, 0) hb]; rfl, by rw [cell_of_row w qb 1 _ _ (0, 0) hb]; rfl, by simp [World.frozen?, hb], hw, (Array.getElem?_eq_some_iff.1 hb).1⟩
theorem IsRR.put (h : IsRR w qb g n m flat) {g' : Option Nat} {a' : Option Addr} {m' c' : Nat} {flat' : List Value} (hw : Win w 1 g' a' m' c' flat') (hg : ∀ k, g' = some k → k ≠ qb) (hm : m' ≤ n) :
    IsRR (w.setCell ⟨qb, 1, none⟩ (.slice a' m' c')) qb g' n m' flat' ∧ Turn [qb] w (w.setCell ⟨qb, 1, none⟩ (.slice a' m' c')) := by
  obtain ⟨h1, h2, h3, a, c, hb, _⟩ := h
  have hT : Turn [qb] w (w.setCell ⟨qb, 1, none⟩ (.slice a' m' c')) := (Turn.refl _ _).setCell (p := ⟨qb, 1, none⟩) (by simp) _
  exact ⟨⟨hg, h2, hm, a', c', by simp [World.setCell, Array.getElem?_modify, hb], hw.turn hT (fun k hk => by have := hg k hk; simpa using this)⟩, hT⟩
theorem IsRR.append (h : IsRR w qb g n m flat) (hm : m < n) (x : ByteArray) : ∃ a c a' c' W3, w.cell? ⟨qb, 1, none⟩ = some (.slice a m c) ∧ w.frozen? ⟨qb, 1, none⟩ = false ∧ qb < w.heap.size ∧
    (Builtin.append_ #[37, 37] 37 #[.slice a m c, .slice (some ⟨w.heap.size, 0, none⟩) 1 1]).run Try.prog (w.alloc (.cells #[.string x] 9)) = .ok (.slice a' (m + 1) c') W3 ∧
      W3.cell? ⟨qb, 1, none⟩ = some (.slice a m c) ∧ W3.frozen? ⟨qb, 1, none⟩ = false ∧
      RowKit.Hid ((∃ g', IsRR (W3.setCell ⟨qb, 1, none⟩ (.slice a' (m + 1) c')) qb g' n (m + 1) (flat ++ [.string x]) ∧ ∀ k, g' = some k → g = some k ∨ w.heap.size ≤ k) ∧ Turn (rblocks qb g) w (W3.setCell ⟨qb, 1, none⟩ (.slice a' (m + 1) c'))) := by
  have hsm := h.small
  have hh := h
  obtain ⟨h1, h2, h3, a, c, hb, hw⟩ := h
  have hlt : qb < w.heap.size := (Array.getElem?_eq_some_iff.1 hb).1
  obtain ⟨i, z, hi, hz, hs1, hby, hzs, hs0⟩ := infoB_at (P := Try.prog) (e := 9) (sz := 1) (by kernel_rfl)
  have hTa : Turn [] w (w.alloc (.cells #[.string x] 9)) := (Turn.refl _ _).alloc _
  obtain ⟨a', c', W3, g', happ, hw3, hT3, hg'⟩ := (hw.turn hTa (fun k _ => by simp)).append 37 9 i z i.bytes Try.underlying37 hi hz hs1 rfl hby hzs hs0 ⟨w.heap.size, 0, none⟩ 1 [.string x] rfl (cell_one_new _ _ _) (by simp [Value.oneCell']) (by omega) (fun _ _ => trivial)
  have hbo : W3.heap[qb]? = some (.cells #[.int .i64 n, .slice a m c] 39 (0, 0)) := by
    rw [hT3.block qb (by simp; omega) (fun h => h1 qb (by simpa using h) rfl), hTa.block qb hlt (by simp)]; exact hb
  have hT03 : Turn g.toList w W3 := (hTa.mono (fun _ h => by cases h)).trans hT3
  have hg2 : ∀ k, g' = some k → k ≠ qb := by
    intro k hk
    rcases hg' k hk with h | h
    · exact h1 k h
    · simp at h; omega
  have hT : Turn [qb] W3 (W3.setCell ⟨qb, 1, none⟩ (.slice a' (m + 1) c')) := (Turn.refl _ _).setCell (p := ⟨qb, 1, none⟩) (by simp) _
  refine ⟨a, c, a', c', W3, by rw [cell_of_row w qb 1 _ _ (0, 0) hb]; rfl, by simp [World.frozen?, hb], hlt, happ, by rw [cell_of_row W3 qb 1 _ _ (0, 0) hbo]; rfl, by simp [World.frozen?, hbo], Lib.hid ⟨⟨g', ⟨hg2, h2, by omega, a', c', by simp [World.setCell, Array.getElem?_modify, hbo], hw3.turn hT (fun k hk => by have := hg2 k hk; simpa using this)⟩, fun k hk => ?_⟩, ?_⟩⟩
  · rcases hg' k hk with h | h
    · exact .inl h
    · simp at h; exact .inr (by omega)
  · refine (hT03.mono (fun k hk => ?_)).trans (hT.mono (fun k hk => ?_))
    · exact mem_rblocks.2 (.inr (by simpa using hk))
    · exact mem_rblocks.2 (.inl (by simpa using hk))
end

theorem rnew_no (w : World) (most : Int) (h : most < 1 ∨ 1048576 < most) :
    Calls Try.prog 12 #[.int .i64 most] w fun e w' => e = .returned (.tuple #[.pointer none, .int .i64 1]) ∧ w = w' := by
  by_cases h1 : most < 1
  · clear h
    go_enter Try.func12, Try.ntmps12
    go_wp2
    go_ret2
    exact ⟨rfl, rfl⟩
  · have h2 : 1048576 < most := by omega
    clear h
    go_enter Try.func12, Try.ntmps12
    go_wp2
    go_ret2
    exact ⟨rfl, rfl⟩
theorem rnew_yes (w : World) (n : Nat) (h1 : 1 ≤ n) (h2 : n ≤ 1048576) :
    Calls Try.prog 12 #[.int .i64 n] w fun e w' => e = .returned (.tuple #[.pointer (some ⟨w.heap.size, 0, none⟩), .int .i64 0]) ∧ IsRR w' w.heap.size none n 0 [] ∧ Turn [] w w' := by
  go_enter Try.func12, Try.ntmps12
  go_wp2
  go_ret2
  exact ⟨rfl, ⟨(fun k hk => by cases hk), h2, Nat.zero_le _, none, 0, heap_alloc_new _ _, Win.nil _ _ _⟩, (Turn.refl _ _).alloc _⟩
theorem rpush_yes (w : World) (qb : Nat) (g : Option Nat) (n m : Nat) (flat : List Value) (h : IsRR w qb g n m flat) (x : ByteArray) (hm : m < n) :
    Calls Try.prog 14 #[.pointer (some ⟨qb, 0, none⟩), .string x] w fun e w' => e = .returned (.bool true) ∧ (∃ g', IsRR w' qb g' n (m + 1) (flat ++ [.string x]) ∧ ∀ k, g' = some k → g = some k ∨ w.heap.size ≤ k) ∧ Turn (rblocks qb g) w w' := by
  obtain ⟨a, c, c0, c1, _, _, _⟩ := h.open
  have HH := Lib.hid h
  clear h
  go_enter Try.func14, Try.ntmps14
  go_wp2
  go_quiet (fail)
  have hq := HH.out.turn ((Turn.refl [] w).drewN nq) (fun _ _ => by simp)
  have HT := Lib.hid ((Turn.refl [] w).drewN nq)
  have HSZ := Lib.hid (show (w.drewN nq).heap.size = w.heap.size from rfl)
  generalize w.drewN nq = W at *
  obtain ⟨a, c, a', c', W3, d1, f1, hlt, happ, e1, g1, HR⟩ := hq.append hm x
  clear hq c0 c1
  go_wp2_with (at_builtin; refine wpList_append_run rfl _ _ _ rfl _ _ _ _ rfl rfl happ ?_)
  obtain ⟨⟨g', h6, h7⟩, ht⟩ := HR.out
  go_ret
  refine ⟨rfl, ⟨g', h6, fun k hk => ?_⟩, (HT.out.mono (fun _ h => by cases h)).trans ht⟩
  have := HSZ.out
  rw [← this]
  exact h7 k hk
theorem rpush_no (w : World) (qb : Nat) (g : Option Nat) (n m : Nat) (flat : List Value) (h : IsRR w qb g n m flat) (x : ByteArray) (hm : n ≤ m) :
    Calls Try.prog 14 #[.pointer (some ⟨qb, 0, none⟩), .string x] w fun e w' => e = .returned (.bool false) ∧ Turn [] w w' := by
  obtain ⟨a, c, c0, c1, _, _, _⟩ := h.open
  have hmn : m = n := by have := h.le; omega
  subst hmn
  clear h
  go_enter Try.func14, Try.ntmps14
  go_wp2
  go_quiet (fail)
  go_wp2
  go_ret
  exact ⟨rfl, (Turn.refl _ _).drewN _⟩
theorem rpop_no (w : World) (qb : Nat) (g : Option Nat) (n : Nat) (flat : List Value) (h : IsRR w qb g n 0 flat) :
    Calls Try.prog 16 #[.pointer (some ⟨qb, 0, none⟩)] w fun e w' => e = .returned (.tuple #[.string ⟨#[]⟩, .bool false]) ∧ w = w' := by
  obtain ⟨a, c, c0, c1, _, _, _⟩ := h.open
  clear h
  go_enter Try.func16, Try.ntmps16
  go_wp2
  go_ret2
  exact ⟨rfl, rfl⟩
theorem rpop_yes (w : World) (qb : Nat) (g : Option Nat) (n m : Nat) (v : Value) (vs : List Value) (h : IsRR w qb g n (m + 1) (v :: vs)) :
    Calls Try.prog 16 #[.pointer (some ⟨qb, 0, none⟩)] w fun e w' => e = .returned (.tuple #[v, .bool true]) ∧ (∃ g', IsRR w' qb g' n m vs ∧ ∀ k, g' = some k → g = some k) ∧ Turn (rblocks qb g) w w' := by
  obtain ⟨a, c, c0, c1, f1, hw, hlt⟩ := h.open
  obtain ⟨gb, off, rfl, rfl, hgl, hcs, hfl, hfz⟩ := hw.some_of (by omega)
  have cv : w.cell? ⟨gb, off, none⟩ = some v := by simpa using hfl 0 v rfl
  have hmc := hw.2.1
  have HH := Lib.hid h
  have HW := Lib.hid hw
  have gm : (0 : Int) ≤ m := by omega
  clear h hw hcs hfl hfz hgl c0
  go_enter Try.func16, Try.ntmps16
  go_wp2
  all_goals
    obtain ⟨g', hw3, hg'⟩ := HW.out.tail
    have hle := HH.out.le
    obtain ⟨hr, ht⟩ := HH.out.put (m' := m) hw3 (fun k hk => HH.out.g1 k (hg' k hk)) (by omega)
    have ht2 : Turn (rblocks qb (some gb)) w _ := ht.mono (fun k hk => mem_rblocks.2 (.inl (by simpa using hk)))
  · obtain rfl : c = 1 := by assumption
    go_ret2
    exact ⟨rfl, ⟨g', hr, fun k hk => by simpa using hg' k hk⟩, ht2⟩
  · have hcc : ¬ c = 1 := by assumption
    rw [if_neg hcc] at hr ht2
    go_ret2
    exact ⟨rfl, ⟨g', hr, fun k hk => by simpa using hg' k hk⟩, ht2⟩
theorem rat_yes (w : World) (qb : Nat) (g : Option Nat) (n m : Nat) (flat : List Value) (h : IsRR w qb g n m flat) (x : Value) (i : Nat) (hx : flat[i]? = some x) (hi : i < m) :
    Calls Try.prog 18 #[.pointer (some ⟨qb, 0, none⟩), .int .i64 i] w fun e w' => e = .returned (.tuple #[x, .bool true]) ∧ w = w' := by
  obtain ⟨a, c, c0, c1, f1, hw, hlt⟩ := h.open
  obtain ⟨gb, off, rfl, rfl, hgl, hcs, hfl, hfz⟩ := hw.some_of (by omega)
  have cx : w.cell? ⟨gb, off + i, none⟩ = some x := hfl i x hx
  have g0 : (0 : Int) ≤ i := by omega
  have g1 : (i : Int) < m := by omega
  clear h hw hcs hfl hfz hgl c0
  go_enter Try.func18, Try.ntmps18
  go_wp2
  go_ret2
  exact ⟨rfl, rfl⟩
theorem rat_no (w : World) (qb : Nat) (g : Option Nat) (n m : Nat) (flat : List Value) (h : IsRR w qb g n m flat) (i : Int) (hi : i < 0 ∨ (m : Int) ≤ i) :
    Calls Try.prog 18 #[.pointer (some ⟨qb, 0, none⟩), .int .i64 i] w fun e w' => e = .returned (.tuple #[.string ⟨#[]⟩, .bool false]) ∧ w = w' := by
  obtain ⟨a, c, c0, c1, f1, hw, hlt⟩ := h.open
  clear h hw c0
  by_cases h1 : i < 0
  · clear hi
    go_enter Try.func18, Try.ntmps18
    go_wp2
    go_ret2
    exact ⟨rfl, rfl⟩
  · have h2 : (m : Int) ≤ i := by omega
    have h3 : (0 : Int) ≤ i := by omega
    clear hi h1
    go_enter Try.func18, Try.ntmps18
    go_wp2
    go_ret2
    exact ⟨rfl, rfl⟩
end Go.Proofs.Ytdlcmmodhicieaa
