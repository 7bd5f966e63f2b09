/-
  Package ring: its functions' contracts, of elements that are structs of two cells (boxed where they are parameters and results).
-/
import Derived.Test.YtdlcmmodhicieaaRing
import Derived.Deep.RegionLaw
namespace Go.Proofs.Ytdlcmmodhicieaa
open Go.RowKit Go.Conc
set_option linter.unusedVariables false
set_option linter.unusedSimpArgs false

theorem new_no_skip (w : World) (most : Int) (h : most < 1 ∨ 1048576 < most) :
    Calls Try.prog 27 #[.int .i64 most] w fun e w' => e = .returned (.tuple #[.pointer none, .int .i64 1]) ∧ w = w' := by
  by_cases h1 : most < 1
  · clear h
    go_enter Try.func27, Try.ntmps27
    go_wp2
    go_ret2
    exact ⟨rfl, rfl⟩
  · have h2 : 1048576 < most := by omega
    clear h
    go_enter Try.func27, Try.ntmps27
    go_wp2
    go_ret2
    exact ⟨rfl, rfl⟩
theorem new_yes_skip (w : World) (n : Nat) (h1 : 1 ≤ n) (h2 : n ≤ 1048576) :
    Calls Try.prog 27 #[.int .i64 n] w fun e w' => e = .returned (.tuple #[.pointer (some ⟨w.heap.size + 1, 0, none⟩), .int .i64 0]) ∧ IsRing 84 2 w' (w.heap.size + 1) w.heap.size none n 0 [] ∧ Turn [] w w' := by
  have hmk := make_chan w n h2
  go_enter Try.func27, Try.ntmps27
  go_wp2
  go_ret2
  refine ⟨by simp, ⟨by omega, (fun k hk => by cases hk), h2, Nat.zero_le _, none, 0, #[], 0, 0, ?_, ?_, rfl, Win.nil _ _ _⟩, ((Turn.refl _ _).alloc _).alloc _⟩
  · have e : w.heap.size + 1 = (w.alloc (.chan n #[] false 0 0 false)).heap.size := by simp
    rw [e]
    exact heap_alloc_new _ _
  · rw [Below.heap_alloc _ _ _ (by simp)]
    exact heap_alloc_new _ _

theorem len_skip (w : World) (rb cb : Nat) (g : Option Nat) (n m : Nat) (flat : List Value) (h : IsRing 84 2 w rb cb g n m flat) :
    Calls Try.prog 30 #[.pointer (some ⟨rb, 0, none⟩)] w fun e w' => e = .returned (.int .i64 m) ∧ w = w' := by
  obtain ⟨h1, h2, h3, h4, a, c, buf, s, r, hb, hc, rfl, hw⟩ := h
  have c0 : w.cell? ⟨rb, 0, none⟩ = some (.chan (some cb)) := by rw [cell_of_row w rb 0 _ _ (0, 0) hb]; rfl
  have hl := fun ty => chan_len (P := Try.prog) 76 ty Try.underlying76 hc
  clear hb hc hw h1 h2 h3 h4
  go_enter Try.func30, Try.ntmps30
  go_wp2
  go_ret
  exact ⟨rfl, rfl⟩


theorem push_yes_skip (w : World) (rb cb : Nat) (g : Option Nat) (n m : Nat) (flat : List Value) (h : IsRing 84 2 w rb cb g n m flat) (x0 x1 : Int) (hm : m < n) :
    Calls Try.prog 28 #[.pointer (some ⟨rb, 0, none⟩), .agg #[.int .u16 x0, .int .u16 x1]] w fun e w' => e = .returned (.bool true) ∧ (∃ g', IsRing 84 2 w' rb cb g' n (m + 1) (flat ++ [.int .u16 x0, .int .u16 x1]) ∧ ∀ k, g' = some k → g = some k ∨ w.heap.size ≤ k) ∧ Turn (blocks rb cb g) w w' := by
  obtain ⟨w0, hw0⟩ : ∃ w0, w.alloc (.cells #[.int .u16 x0, .int .u16 x1] 58) = w0 := ⟨_, rfl⟩
  have hT0 : Turn [] w w0 := by rw [← hw0]; exact (Turn.refl _ _).alloc _
  have hb0 : w0.heap[w.heap.size]? = some (.cells #[.int .u16 x0, .int .u16 x1] 58 (0, 0)) := by rw [← hw0]; exact heap_alloc_new _ _
  have hlt0 := h.lt
  have h' := h.turn hT0 (fun _ _ => by simp)
  obtain ⟨buf, s, r, W, a, c, a', c', W3, hc, hroom, c0, hW, c1, f1, hlt, happ, d1, e1, HR⟩ := h'.push_drawn hm 52 58 Try.underlying52 (by kernel_rfl) [.int .u16 x0, .int .u16 x1] rfl (by simp [Value.oneCell'])
  have hTW : Turn [cb] w0 W := by rw [← hW]; exact (Turn.refl _ _).setChan (by simp) _ _ _ _ _ _
  have hbW : W.heap[w.heap.size]? = some (.cells #[.int .u16 x0, .int .u16 x1] 58 (0, 0)) := (hTW.block _ (Array.getElem?_eq_some_iff.1 hb0).1 (by have := hlt0 cb (mem_blocks.2 (.inr (.inl rfl))); simp; omega)).trans hb0
  have b0 : W.cell? ⟨w.heap.size, 0, none⟩ = some (.int .u16 x0) := by rw [cell_of_row W _ 0 _ _ (0, 0) hbW]; rfl
  have b1 : W.cell? ⟨w.heap.size, 1, none⟩ = some (.int .u16 x1) := by rw [cell_of_row W _ 1 _ _ (0, 0) hbW]; rfl
  have hbs : w.heap.size < W.heap.size := (Array.getElem?_eq_some_iff.1 hbW).1
  have HT0 := Lib.hid hT0
  clear h h' hT0 hb0 hTW hbW hlt0
  refine calls_of_wpN Try.func28 rfl ?_
  simp only [Try.ntmps28, List.size_toArray, List.length_cons, List.length_nil, Nat.reduceAdd, Nat.reduceSub, Array.replicate_succ,
    Array.replicate_zero, List.push_toArray, List.append_toArray, List.nil_append, List.cons_append]
  refine WpN.seq_wp (fun K hK => ?_)
  go_wp2
  refine WpN.seq_wp (fun K hK => ?_)
  go_wp2
  refine WpN.seq_wp (fun K hK => ?_)
  go_wp2
  refine WpN.seq (WpN.region ?_)
  simp only [List.size_toArray, List.length_cons, List.length_nil, Nat.reduceAdd, Nat.zero_add, List.range, List.range.loop]
  refine WpR.send_room (c := cb) (cap := n) (buf := buf) (s := s) (r := r) (tm := false) (v := .agg #[]) (z := .agg #[]) rfl rfl (by simp [go_sem, execOp, scase, Act.eval]) hc hroom ?_
  rw [hW]
  refine WpR.op (v := .int .i64 0) (w' := W) rfl rfl (by simp [go_sem, execOp, Act.eval, Act.put]) ?_
  refine WpR.op (v := .bool true) (w' := W) rfl rfl (by simp [go_sem, execOp, Act.eval, Act.put]) ?_
  refine WpR.nil ?_
  simp only [Exit.then]
  clear hc hW c0 hroom hw0
  refine WpN.of_wp ?_
  go_wp2
  go_region_law (refine step_append_run rfl (.tmp 19) (.tmp 21) 52 rfl _ _ _ _ (by simp [Act.eval, Act.put]) (by simp [Act.eval, Act.put]) happ ?_)
  all_goals go_wp2
  all_goals
    obtain ⟨⟨g', hr, hg⟩, ht⟩ := HR.out
    have hs0 := HT0.out.size
    go_ret
    exact ⟨rfl, ⟨g', hr, fun k hk => (hg k hk).imp id (fun h => by omega)⟩, (HT0.out.mono (fun _ h => by cases h)).trans ht⟩

theorem push_no_skip (w : World) (rb cb : Nat) (g : Option Nat) (n m : Nat) (flat : List Value) (h : IsRing 84 2 w rb cb g n m flat) (x0 x1 : Int) (hm : n ≤ m) :
    Calls Try.prog 28 #[.pointer (some ⟨rb, 0, none⟩), .agg #[.int .u16 x0, .int .u16 x1]] w fun e w' => e = .returned (.bool false) ∧ Turn [] w w' := by
  obtain ⟨w0, hw0⟩ : ∃ w0, w.alloc (.cells #[.int .u16 x0, .int .u16 x1] 58) = w0 := ⟨_, rfl⟩
  have hT0 : Turn [] w w0 := by rw [← hw0]; exact (Turn.refl _ _).alloc _
  have h' := h.turn hT0 (fun _ _ => by simp)
  obtain ⟨h1, h2, h3, h4, a, c, buf, s, r, hb, hc, hsz, hw⟩ := h'
  have c0 : w0.cell? ⟨rb, 0, none⟩ = some (.chan (some cb)) := by rw [cell_of_row w0 rb 0 _ _ (0, 0) hb]; rfl
  have HT0 := Lib.hid hT0
  clear h1 h2 h3 h4 hw hb h hT0
  refine calls_of_wpN Try.func28 rfl ?_
  simp only [Try.ntmps28, List.size_toArray, List.length_cons, List.length_nil, Nat.reduceAdd, Nat.reduceSub, Array.replicate_succ,
    Array.replicate_zero, List.push_toArray, List.append_toArray, List.nil_append, List.cons_append]
  refine WpN.seq_wp (fun K hK => ?_)
  go_wp2
  refine WpN.seq_wp (fun K hK => ?_)
  go_wp2
  refine WpN.seq_wp (fun K hK => ?_)
  go_wp2
  refine WpN.seq (WpN.region ?_)
  simp only [List.size_toArray, List.length_cons, List.length_nil, Nat.reduceAdd, Nat.zero_add, List.range, List.range.loop]
  refine WpR.send_full (c := cb) (cap := n) (buf := buf) (s := s) (r := r) (tm := false) (v := .agg #[]) (z := .agg #[]) rfl rfl (by simp [go_sem, execOp, scase, Act.eval]) hc (by omega) ?_
  refine WpR.op (v := .int .i64 (-1)) (w' := w0) rfl rfl (by simp [go_sem, execOp, Act.eval, Act.put]) ?_
  refine WpR.op (v := .bool false) (w' := w0) rfl rfl (by simp [go_sem, execOp, Act.eval, Act.put]) ?_
  refine WpR.nil ?_
  simp only [Exit.then]
  clear hc c0
  refine WpN.of_wp ?_
  go_wp2
  go_ret
  exact ⟨rfl, HT0.out⟩

theorem at_yes_skip (w : World) (rb cb : Nat) (g : Option Nat) (n m : Nat) (flat : List Value) (h : IsRing 84 2 w rb cb g n m flat) (x0 x1 : Int) (i : Nat) (hx0 : flat[i * 2]? = some (.int .u16 x0)) (hx1 : flat[i * 2 + 1]? = some (.int .u16 x1)) (hi : i < m) :
    Calls Try.prog 29 #[.pointer (some ⟨rb, 0, none⟩), .int .i64 i] w fun e w' => e = .returned (.tuple #[.agg #[.int .u16 x0, .int .u16 x1], .bool true]) ∧ Turn [] w w' := by
  obtain ⟨w0, hw0⟩ : ∃ w0, w.alloc (.cells #[.int .u16 0, .int .u16 0] 58) = w0 := ⟨_, rfl⟩
  have hT0 : Turn [] w w0 := by rw [← hw0]; exact (Turn.refl _ _).alloc _
  have hb0 : w0.heap[w.heap.size]? = some (.cells #[.int .u16 0, .int .u16 0] 58 (0, 0)) := by rw [← hw0]; exact heap_alloc_new _ _
  have hlt0 := h.lt
  have h' := h.turn hT0 (fun _ _ => by simp)
  have hl := len_skip _ _ _ _ _ _ _ h'
  obtain ⟨h1, h2, h3, h4, a, c, buf, s, r, hb, hc, hsz, hw⟩ := h'
  obtain ⟨gb, off, rfl, rfl, hgl, hcs, hfl, hfz⟩ := hw.some_of (by omega)
  have c1 : w0.cell? ⟨rb, 1, none⟩ = some (.slice (some ⟨gb, off, none⟩) m c) := by rw [cell_of_row w0 rb 1 _ _ (0, 0) hb]; rfl
  have cx0 : w0.cell? ⟨gb, off + i * 2, none⟩ = some (.int .u16 x0) := hfl _ _ hx0
  have cx1 : w0.cell? ⟨gb, off + i * 2 + 1, none⟩ = some (.int .u16 x1) := hfl _ _ hx1
  have b0 : w0.cell? ⟨w.heap.size, 0, none⟩ = some (.int .u16 0) := by rw [cell_of_row w0 _ 0 _ _ (0, 0) hb0]; rfl
  have b1 : w0.cell? ⟨w.heap.size, 1, none⟩ = some (.int .u16 0) := by rw [cell_of_row w0 _ 1 _ _ (0, 0) hb0]; rfl
  have f0 : w0.frozen? ⟨w.heap.size, 0, none⟩ = false := by simp [World.frozen?, hb0]
  have f1 : w0.frozen? ⟨w.heap.size, 1, none⟩ = false := by simp [World.frozen?, hb0]
  have g0 : (0 : Int) ≤ i := by omega
  have g1 : (i : Int) < m := by omega
  have HT0 := Lib.hid hT0
  clear hx0 hx1 h1 h2 h3 h4 hw hb hc hcs hfl hfz hgl hsz h hT0 hb0 hlt0
  go_enter Try.func29, Try.ntmps29
  go_wp2_with fail
  refine hl.mono ?_
  rintro e w' ⟨rfl, rfl⟩
  go_wp2
  refine bodyPost_ret (by simp [results, Try.results29, go_sem, b0, b1]; rfl) rfl ?_
  refine ⟨rfl, HT0.out.over (((Turn.refl [w.heap.size] w0).setCell (by simp) _).setCell (by simp) _) (fun j hj => .inr (by simp at hj; omega))⟩

theorem at_no_skip (w : World) (rb cb : Nat) (g : Option Nat) (n m : Nat) (flat : List Value) (h : IsRing 84 2 w rb cb g n m flat) (i : Int) (hi : i < 0 ∨ (m : Int) ≤ i) :
    Calls Try.prog 29 #[.pointer (some ⟨rb, 0, none⟩), .int .i64 i] w fun e w' => e = .returned (.tuple #[.agg #[.int .u16 0, .int .u16 0], .bool false]) ∧ Turn [] w w' := by
  obtain ⟨w0, hw0⟩ : ∃ w0, w.alloc (.cells #[.int .u16 0, .int .u16 0] 58) = w0 := ⟨_, rfl⟩
  have hT0 : Turn [] w w0 := by rw [← hw0]; exact (Turn.refl _ _).alloc _
  have hb0 : w0.heap[w.heap.size]? = some (.cells #[.int .u16 0, .int .u16 0] 58 (0, 0)) := by rw [← hw0]; exact heap_alloc_new _ _
  have h' := h.turn hT0 (fun _ _ => by simp)
  have hl := len_skip _ _ _ _ _ _ _ h'
  have b0 : w0.cell? ⟨w.heap.size, 0, none⟩ = some (.int .u16 0) := by rw [cell_of_row w0 _ 0 _ _ (0, 0) hb0]; rfl
  have b1 : w0.cell? ⟨w.heap.size, 1, none⟩ = some (.int .u16 0) := by rw [cell_of_row w0 _ 1 _ _ (0, 0) hb0]; rfl
  have f0 : w0.frozen? ⟨w.heap.size, 0, none⟩ = false := by simp [World.frozen?, hb0]
  have f1 : w0.frozen? ⟨w.heap.size, 1, none⟩ = false := by simp [World.frozen?, hb0]
  have HT0 := Lib.hid hT0
  clear h hT0 hb0 h'
  by_cases h1 : i < 0
  · clear hi
    go_enter Try.func29, Try.ntmps29
    go_wp2
    refine bodyPost_ret (by simp [results, Try.results29, go_sem, b0, b1]; rfl) rfl ?_
    refine ⟨rfl, HT0.out.over (((Turn.refl [w.heap.size] w0).setCell (by simp) _).setCell (by simp) _) (fun j hj => .inr (by simp at hj; omega))⟩
  · have h2 : (m : Int) ≤ i := by omega
    have h3 : (0 : Int) ≤ i := by omega
    clear hi h1
    go_enter Try.func29, Try.ntmps29
    go_wp2_with fail
    refine hl.mono ?_
    rintro e w' ⟨rfl, rfl⟩
    go_wp2
    refine bodyPost_ret (by simp [results, Try.results29, go_sem, b0, b1]; rfl) rfl ?_
    refine ⟨rfl, HT0.out.over (((Turn.refl [w.heap.size] w0).setCell (by simp) _).setCell (by simp) _) (fun j hj => .inr (by simp at hj; omega))⟩

theorem new_my_skip (B : Nat) (w : World) (hB : B ≤ w.heap.size) (n : Nat) (h1 : 1 ≤ n) (h2 : n ≤ 1048576) :
    Calls Try.prog 27 #[.int .i64 n] w fun e w' => ∃ rb cb, e = .returned (.tuple #[.pointer (some ⟨rb, 0, none⟩), .int .i64 0]) ∧ MyRing 84 2 B w' rb cb n 0 [] ∧ Below B w w' :=
  (new_yes_skip w n h1 h2).mono fun e w' ⟨he, h, ht⟩ => ⟨_, _, he, my_new hB h ht⟩
theorem len_my_skip (B : Nat) (w : World) (rb cb n m : Nat) (flat : List Value) (h : MyRing 84 2 B w rb cb n m flat) : Calls Try.prog 30 #[.pointer (some ⟨rb, 0, none⟩)] w fun e w' => e = .returned (.int .i64 m) ∧ w = w' := by
  obtain ⟨g, h1, h2⟩ := h
  exact len_skip w rb cb g n m flat h1
theorem push_my_skip (B : Nat) (w : World) (rb cb n m : Nat) (flat : List Value) (h : MyRing 84 2 B w rb cb n m flat) (x0 x1 : Int) (hm : m < n) :
    Calls Try.prog 28 #[.pointer (some ⟨rb, 0, none⟩), .agg #[.int .u16 x0, .int .u16 x1]] w fun e w' => e = .returned (.bool true) ∧ MyRing 84 2 B w' rb cb n (m + 1) (flat ++ [.int .u16 x0, .int .u16 x1]) ∧ Below B w w' := by
  obtain ⟨g, h1, h2⟩ := h
  exact (push_yes_skip w rb cb g n m flat h1 x0 x1 hm).mono fun e w' ⟨he, hr⟩ => ⟨he, my_after h1 h2 hr⟩
theorem push_myno_skip (B : Nat) (w : World) (rb cb n m : Nat) (flat : List Value) (h : MyRing 84 2 B w rb cb n m flat) (x0 x1 : Int) (hm : n ≤ m) :
    Calls Try.prog 28 #[.pointer (some ⟨rb, 0, none⟩), .agg #[.int .u16 x0, .int .u16 x1]] w fun e w' => e = .returned (.bool false) ∧ MyRing 84 2 B w' rb cb n m flat ∧ Below B w w' := by
  have hs := h.size
  have hh := h
  obtain ⟨g, h1, h2⟩ := h
  exact (push_no_skip w rb cb g n m flat h1 x0 x1 hm).mono fun e w' ⟨he, ht⟩ => ⟨he, hh.turn ht, ht.below (by omega) (fun _ hk => by cases hk)⟩
theorem at_my_skip (B : Nat) (w : World) (rb cb n m : Nat) (flat : List Value) (h : MyRing 84 2 B w rb cb n m flat) (x0 x1 : Int) (i : Nat) (hx0 : flat[i * 2]? = some (.int .u16 x0)) (hx1 : flat[i * 2 + 1]? = some (.int .u16 x1)) (hi : i < m) : Calls Try.prog 29 #[.pointer (some ⟨rb, 0, none⟩), .int .i64 i] w fun e w' => e = .returned (.tuple #[.agg #[.int .u16 x0, .int .u16 x1], .bool true]) ∧ MyRing 84 2 B w' rb cb n m flat ∧ Below B w w' := by
  have hs := h.size
  have hh := h
  obtain ⟨g, h1, h2⟩ := h
  exact (at_yes_skip w rb cb g n m flat h1 x0 x1 i hx0 hx1 hi).mono fun e w' ⟨he, ht⟩ => ⟨he, hh.turn ht, ht.below (by omega) (fun _ hk => by cases hk)⟩
theorem at_myno_skip (B : Nat) (w : World) (rb cb n m : Nat) (flat : List Value) (h : MyRing 84 2 B w rb cb n m flat) (i : Int) (hi : i < 0 ∨ (m : Int) ≤ i) : Calls Try.prog 29 #[.pointer (some ⟨rb, 0, none⟩), .int .i64 i] w fun e w' => e = .returned (.tuple #[.agg #[.int .u16 0, .int .u16 0], .bool false]) ∧ MyRing 84 2 B w' rb cb n m flat ∧ Below B w w' := by
  have hs := h.size
  have hh := h
  obtain ⟨g, h1, h2⟩ := h
  exact (at_no_skip w rb cb g n m flat h1 i hi).mono fun e w' ⟨he, ht⟩ => ⟨he, hh.turn ht, ht.below (by omega) (fun _ hk => by cases hk)⟩

end Go.Proofs.Ytdlcmmodhicieaa
