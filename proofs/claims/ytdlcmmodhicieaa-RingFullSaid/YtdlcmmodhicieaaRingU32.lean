/-
  Package ring: its functions' contracts, of elements of one type.
-/
import Derived.Test.YtdlcmmodhicieaaRing
namespace Go.Proofs.Ytdlcmmodhicieaa
open Go.RowKit Go.Conc
set_option linter.unusedVariables false
set_option linter.unusedSimpArgs false

theorem new_no_u32 (w : World) (most : Int) (h : most < 1 ∨ 1048576 < most) :
    Calls Try.prog 22 #[.int .i64 most] w fun e w' => e = .returned (.tuple #[.pointer none, .int .i64 1]) ∧ w = w' := by
  by_cases h1 : most < 1
  · clear h
    go_enter Try.func22, Try.ntmps22
    go_wp2
    go_ret2
    exact ⟨rfl, rfl⟩
  · have h2 : 1048576 < most := by omega
    clear h
    go_enter Try.func22, Try.ntmps22
    go_wp2
    go_ret2
    exact ⟨rfl, rfl⟩
theorem new_yes_u32 (w : World) (n : Nat) (h1 : 1 ≤ n) (h2 : n ≤ 1048576) :
    Calls Try.prog 22 #[.int .i64 n] w fun e w' => e = .returned (.tuple #[.pointer (some ⟨w.heap.size + 1, 0, none⟩), .int .i64 0]) ∧ IsRing 81 1 w' (w.heap.size + 1) w.heap.size none n 0 [] ∧ Turn [] w w' := by
  have hmk := make_chan w n h2
  go_enter Try.func22, Try.ntmps22
  go_wp2
  go_ret2
  refine ⟨by simp, ⟨by omega, (fun k hk => by cases hk), h2, Nat.zero_le _, none, 0, #[], 0, 0, ?_, ?_, rfl, Win.nil _ _ _⟩, ((Turn.refl _ _).alloc _).alloc _⟩
  · have e : w.heap.size + 1 = (w.alloc (.chan n #[] false 0 0 false)).heap.size := by simp
    rw [e]
    exact heap_alloc_new _ _
  · rw [Below.heap_alloc _ _ _ (by simp)]
    exact heap_alloc_new _ _

theorem len_u32 (w : World) (rb cb : Nat) (g : Option Nat) (n m : Nat) (flat : List Value) (h : IsRing 81 1 w rb cb g n m flat) :
    Calls Try.prog 25 #[.pointer (some ⟨rb, 0, none⟩)] w fun e w' => e = .returned (.int .i64 m) ∧ w = w' := by
  obtain ⟨h1, h2, h3, h4, a, c, buf, s, r, hb, hc, rfl, hw⟩ := h
  have c0 : w.cell? ⟨rb, 0, none⟩ = some (.chan (some cb)) := by rw [cell_of_row w rb 0 _ _ (0, 0) hb]; rfl
  have hl := fun ty => chan_len (P := Try.prog) 76 ty Try.underlying76 hc
  clear hb hc hw h1 h2 h3 h4
  go_enter Try.func25, Try.ntmps25
  go_wp2
  go_ret
  exact ⟨rfl, rfl⟩

theorem room_u32 (w : World) (rb cb : Nat) (g : Option Nat) (n m : Nat) (flat : List Value) (h : IsRing 81 1 w rb cb g n m flat) :
    Calls Try.prog 26 #[.pointer (some ⟨rb, 0, none⟩)] w fun e w' => e = .returned (.int .i64 ((n - m : Nat) : Int)) ∧ Turn [] w w' := by
  obtain ⟨h1, h2, h3, h4, a, c, buf, s, r, hb, hc, rfl, hw⟩ := h
  have c0 : w.cell? ⟨rb, 0, none⟩ = some (.chan (some cb)) := by rw [cell_of_row w rb 0 _ _ (0, 0) hb]; rfl
  have hl := fun ty => chan_len (P := Try.prog) (w := w.drew) 76 ty Try.underlying76 hc
  have hr := fun ty => chan_cap (P := Try.prog) (w := w.drew) 76 ty Try.underlying76 hc
  have hsub : ((n - buf.size : Nat) : Int) = (n : Int) - (buf.size : Int) := by omega
  rw [hsub]
  have hw0 : IntKind.i64.wrap ((n : Int) - (buf.size : Int)) = (n : Int) - (buf.size : Int) := by rw [IntKind.wrap_i64]; omega
  clear hb hc hw h1 h2 h3 h4 hsub
  go_enter Try.func26, Try.ntmps26
  go_wp2
  go_region
  go_wp2
  go_ret
  exact ⟨rfl, (Turn.refl _ _).drew⟩

theorem push_yes_u32 (w : World) (rb cb : Nat) (g : Option Nat) (n m : Nat) (flat : List Value) (h : IsRing 81 1 w rb cb g n m flat) (x : Int) (hm : m < n) :
    Calls Try.prog 23 #[.pointer (some ⟨rb, 0, none⟩), .int .u32 x] w fun e w' => e = .returned (.bool true) ∧ (∃ g', IsRing 81 1 w' rb cb g' n (m + 1) (flat ++ [.int .u32 x]) ∧ ∀ k, g' = some k → g = some k ∨ w.heap.size ≤ k) ∧ Turn (blocks rb cb g) w w' := by
  obtain ⟨buf, s, r, W, a, c, a', c', W3, hc, hroom, c0, hW, c1, f1, hlt, happ, d1, e1, HR⟩ := h.push hm 42 47 Try.underlying42 (by kernel_rfl) [.int .u32 x] rfl (by simp [Value.oneCell'])
  clear h
  refine calls_of_wpN Try.func23 rfl ?_
  simp only [Try.ntmps23, List.size_toArray, List.length_cons, List.length_nil, Nat.reduceAdd, Nat.reduceSub, Array.replicate_succ,
    Array.replicate_zero, List.push_toArray, List.append_toArray, List.nil_append, List.cons_append]
  refine WpN.seq_wp (fun K hK => ?_)
  go_wp2
  refine WpN.seq_wp (fun K hK => ?_)
  go_wp2
  refine WpN.seq_wp (fun K hK => ?_)
  go_wp2
  refine WpN.seq (WpN.region ?_)
  simp only [List.size_toArray, List.length_cons, List.length_nil, Nat.reduceAdd, Nat.zero_add, List.range, List.range.loop]
  refine WpR.send_room (c := cb) (cap := n) (buf := buf) (s := s) (r := r) (tm := false) (v := .agg #[]) (z := .agg #[]) rfl rfl (by simp [go_sem, execOp, scase, Act.eval]) hc hroom ?_
  rw [hW]
  refine WpR.op (v := .int .i64 0) (w' := W) rfl rfl (by simp [go_sem, execOp, Act.eval, Act.put]) ?_
  refine WpR.op (v := .bool true) (w' := W) rfl rfl (by simp [go_sem, execOp, Act.eval, Act.put]) ?_
  refine WpR.nil ?_
  simp only [Exit.then]
  clear hc hW c0 hroom
  refine WpN.of_wp ?_
  go_wp2_with (at_builtin; refine wpList_append_run rfl _ _ _ rfl _ _ _ _ rfl rfl happ ?_)
  go_ret
  exact ⟨rfl, HR.out⟩

theorem push_no_u32 (w : World) (rb cb : Nat) (g : Option Nat) (n m : Nat) (flat : List Value) (h : IsRing 81 1 w rb cb g n m flat) (x : Int) (hm : n ≤ m) :
    Calls Try.prog 23 #[.pointer (some ⟨rb, 0, none⟩), .int .u32 x] w fun e w' => e = .returned (.bool false) ∧ w = w' := by
  obtain ⟨h1, h2, h3, h4, a, c, buf, s, r, hb, hc, hsz, hw⟩ := h
  have c0 : w.cell? ⟨rb, 0, none⟩ = some (.chan (some cb)) := by rw [cell_of_row w rb 0 _ _ (0, 0) hb]; rfl
  clear h1 h2 h3 h4 hw hb
  refine calls_of_wpN Try.func23 rfl ?_
  simp only [Try.ntmps23, List.size_toArray, List.length_cons, List.length_nil, Nat.reduceAdd, Nat.reduceSub, Array.replicate_succ,
    Array.replicate_zero, List.push_toArray, List.append_toArray, List.nil_append, List.cons_append]
  refine WpN.seq_wp (fun K hK => ?_)
  go_wp2
  refine WpN.seq_wp (fun K hK => ?_)
  go_wp2
  refine WpN.seq_wp (fun K hK => ?_)
  go_wp2
  refine WpN.seq (WpN.region ?_)
  simp only [List.size_toArray, List.length_cons, List.length_nil, Nat.reduceAdd, Nat.zero_add, List.range, List.range.loop]
  refine WpR.send_full (c := cb) (cap := n) (buf := buf) (s := s) (r := r) (tm := false) (v := .agg #[]) (z := .agg #[]) rfl rfl (by simp [go_sem, execOp, scase, Act.eval]) hc (by omega) ?_
  refine WpR.op (v := .int .i64 (-1)) (w' := w) rfl rfl (by simp [go_sem, execOp, Act.eval, Act.put]) ?_
  refine WpR.op (v := .bool false) (w' := w) rfl rfl (by simp [go_sem, execOp, Act.eval, Act.put]) ?_
  refine WpR.nil ?_
  simp only [Exit.then]
  clear hc c0
  refine WpN.of_wp ?_
  go_wp2
  go_ret
  exact ⟨rfl, rfl⟩

theorem at_yes_u32 (w : World) (rb cb : Nat) (g : Option Nat) (n m : Nat) (flat : List Value) (h : IsRing 81 1 w rb cb g n m flat) (x : Value) (i : Nat) (hx : flat[i]? = some x) (hi : i < m) :
    Calls Try.prog 41 #[.pointer (some ⟨rb, 0, none⟩), .int .i64 i] w fun e w' => e = .returned (.tuple #[x, .bool true]) ∧ w = w' := by
  have hl := len_u32 w rb cb g n m flat h
  obtain ⟨h1, h2, h3, h4, a, c, buf, s, r, hb, hc, hsz, hw⟩ := h
  obtain ⟨gb, off, rfl, rfl, hgl, hcs, hfl, hfz⟩ := hw.some_of (by omega)
  have c1 : w.cell? ⟨rb, 1, none⟩ = some (.slice (some ⟨gb, off, none⟩) m c) := by rw [cell_of_row w rb 1 _ _ (0, 0) hb]; rfl
  have cx : w.cell? ⟨gb, off + i, none⟩ = some x := hfl i x hx
  have g0 : (0 : Int) ≤ i := by omega
  have g1 : (i : Int) < m := by omega
  clear h1 h2 h3 h4 hw hb hc hcs hfl hfz hgl hsz
  go_enter Try.func41, Try.ntmps41
  go_wp2_with fail
  refine hl.mono ?_
  rintro e w' ⟨rfl, rfl⟩
  go_wp2
  go_ret2
  exact ⟨rfl, rfl⟩
theorem at_no_u32 (w : World) (rb cb : Nat) (g : Option Nat) (n m : Nat) (flat : List Value) (h : IsRing 81 1 w rb cb g n m flat) (i : Int) (hi : i < 0 ∨ (m : Int) ≤ i) :
    Calls Try.prog 41 #[.pointer (some ⟨rb, 0, none⟩), .int .i64 i] w fun e w' => e = .returned (.tuple #[.int .u32 0, .bool false]) ∧ w = w' := by
  have hl := len_u32 w rb cb g n m flat h
  clear h
  by_cases h1 : i < 0
  · clear hi
    go_enter Try.func41, Try.ntmps41
    go_wp2
    go_ret2
    exact ⟨rfl, rfl⟩
  · have h2 : (m : Int) ≤ i := by omega
    have h3 : (0 : Int) ≤ i := by omega
    clear hi h1
    go_enter Try.func41, Try.ntmps41
    go_wp2_with fail
    refine hl.mono ?_
    rintro e w' ⟨rfl, rfl⟩
    go_wp2
    go_ret2
    exact ⟨rfl, rfl⟩

theorem pop_no_u32 (w : World) (rb cb : Nat) (g : Option Nat) (n : Nat) (flat : List Value) (h : IsRing 81 1 w rb cb g n 0 flat) :
    Calls Try.prog 24 #[.pointer (some ⟨rb, 0, none⟩)] w fun e w' => e = .returned (.tuple #[.int .u32 0, .bool false]) ∧ w = w' := by
  have ha := at_no_u32 w rb cb g n 0 flat h 0 (by omega)
  clear h
  refine calls_of_wpN Try.func24 rfl ?_
  simp only [Try.ntmps24, List.size_toArray, List.length_cons, List.length_nil, Nat.reduceAdd, Nat.reduceSub, Array.replicate_succ,
    Array.replicate_zero, List.push_toArray, List.append_toArray, List.nil_append, List.cons_append]
  refine WpN.seq_wp (fun K hK => ?_)
  go_wp2
  refine WpN.seq_wp (fun K hK => ?_)
  go_wp2_with fail
  refine ha.mono ?_
  rintro e w' ⟨rfl, rfl⟩
  clear ha
  go_wp2
  refine WpN.seq_wp (fun K hK => ?_)
  go_wp2
  go_ret2
  exact ⟨rfl, rfl⟩
theorem pop_yes_u32 (w : World) (rb cb : Nat) (g : Option Nat) (n m : Nat) (v : Value) (vs : List Value) (h : IsRing 81 1 w rb cb g n (m + 1) (v :: vs)) :
    Calls Try.prog 24 #[.pointer (some ⟨rb, 0, none⟩)] w fun e w' => e = .returned (.tuple #[v, .bool true]) ∧ (∃ g', IsRing 81 1 w' rb cb g' n m vs ∧ ∀ k, g' = some k → g = some k) ∧ Turn (blocks rb cb g) w w' := by
  have ha := at_yes_u32 w rb cb g n (m + 1) (v :: vs) h v 0 rfl (by omega)
  obtain ⟨buf, s, r, W, gb, off, c, W2, hc, hsome, c0, hW, c1, hmc, cv, fv, hW2, d1, e1, HR⟩ := h.pop (.int .u32 0)
  clear h
  refine calls_of_wpN Try.func24 rfl ?_
  simp only [Try.ntmps24, List.size_toArray, List.length_cons, List.length_nil, Nat.reduceAdd, Nat.reduceSub, Array.replicate_succ,
    Array.replicate_zero, List.push_toArray, List.append_toArray, List.nil_append, List.cons_append]
  refine WpN.seq_wp (fun K hK => ?_)
  go_wp2
  refine WpN.seq_wp (fun K hK => ?_)
  go_wp2_with fail
  refine ha.mono ?_
  rintro e w' ⟨rfl, rfl⟩
  clear ha
  go_wp2
  refine WpN.seq_wp (fun K hK => ?_)
  go_wp2
  refine WpN.seq (WpN.region ?_)
  simp only [List.size_toArray, List.length_cons, List.length_nil, Nat.reduceAdd, Nat.zero_add, List.range, List.range.loop]
  refine WpR.op (v := .pointer (some ⟨rb, 0, none⟩)) (w' := w) rfl rfl (by simp [go_sem, execOp, Act.eval, Act.put]) ?_
  refine WpR.op (v := .pointer (some ⟨rb, 0, none⟩)) (w' := w) rfl rfl (by simp [go_sem, execOp, Act.eval, Act.put]) ?_
  refine WpR.op (v := .pointer (some ⟨rb, 0, none⟩)) (w' := w) rfl rfl (by simp [go_sem, execOp, Act.eval, Act.put]) ?_
  refine WpR.op (v := .chan (some cb)) (w' := w) rfl rfl (by simp [go_sem, execOp, Act.eval, Act.put, c0]) ?_
  refine WpR.recv (c := cb) (cap := n) (buf := buf) (s := s) (r := r) (tm := false) (closed := false) (z := .agg #[]) rfl rfl (by simp [go_sem, execOp, rcase, Act.eval, Act.put]) hc hsome ?_
  rw [hW]
  refine WpR.nil ?_
  simp only [Exit.then]
  clear hc hW c0 hsome
  generalize buf.getD 0 undef = tok
  refine WpN.seq_wp (fun K hK => ?_)
  go_wp2
  refine WpN.seq_wp (fun K hK => ?_)
  go_wp2
  clear hW2 c1 cv fv
  have gm : (0 : Int) ≤ m := by omega
  refine WpN.of_wp ?_
  go_wp2
  · obtain rfl : c = 1 := by assumption
    go_ret2
    exact ⟨rfl, HR.out⟩
  · have hcc : ¬ c = 1 := by assumption
    have HR' := HR.out
    rw [if_neg hcc] at HR'
    go_ret2
    exact ⟨rfl, HR'⟩

theorem clear_u32 (w : World) (rb cb : Nat) (g : Option Nat) (n m : Nat) (flat : List Value) (h : IsRing 81 1 w rb cb g n m flat) :
    Calls Try.prog 31 #[.pointer (some ⟨rb, 0, none⟩)] w fun e w' => e = .returned (.tuple #[]) ∧ (∃ g', IsRing 81 1 w' rb cb g' n 0 [] ∧ ∀ k, g' = some k → g = some k) ∧ Turn (blocks rb cb g) w w' := by
  have HH := Lib.hid h
  clear h
  go_enter Try.func31, Try.ntmps31
  go_wp2
  go_loopw [] (fun wr => ∃ (k : Nat) (vs : List Value) (g' : Option Nat), IsRing 81 1 wr rb cb g' n k vs ∧ (∀ j, g' = some j → g = some j) ∧ Turn (blocks rb cb g) w wr) (fun wr => toks wr cb)
  case atStart => exact ⟨m, flat, g, HH.out, fun _ h => h, Turn.refl _ _⟩
  case round =>
    obtain ⟨k, vs, g', hr, hg, ht⟩ := hrel
    have hl := len_u32 _ _ _ _ _ _ _ hr
    have hlen := hr.len
    have HG := Lib.hid hg
    have HT := Lib.hid ht
    have HR := Lib.hid hr
    cases k with
    | zero =>
      obtain rfl : vs = [] := List.eq_nil_of_length_eq_zero (by omega)
      clear hr hg ht hlen
      go_wp2_with fail
      refine hl.mono ?_
      rintro e w' ⟨rfl, rfl⟩
      go_wp2
      go_end0
      exact ⟨rfl, ⟨g', HR.out, HG.out⟩, HT.out⟩
    | succ k =>
      obtain ⟨v, vs', rfl⟩ : ∃ v vs', vs = v :: vs' := by
        cases vs with
        | nil => simp at hlen
        | cons v vs' => exact ⟨v, vs', rfl⟩
      have hp := pop_yes_u32 _ _ _ _ _ _ _ _ hr
      have gk : (0 : Int) < ((k + 1 : Nat) : Int) := by omega
      clear hr hg ht hlen
      go_wp2_with fail
      refine hl.mono ?_
      rintro e w' ⟨rfl, rfl⟩
      go_wp2_with fail
      refine hp.mono ?_
      rintro e w2 ⟨rfl, ⟨g2, hr2, hg2⟩, ht2⟩
      have HR2 := Lib.hid (And.intro hr2 (And.intro hg2 ht2))
      clear hr2 hg2 ht2 hp hl
      go_wp2
      go_roundw
      case rel => exact ⟨k, vs', g2, HR2.out.1, fun j hj => HG.out j (HR2.out.2.1 j hj), HT.out.over HR2.out.2.2 (fun j hj => .inl (by
        rcases mem_blocks.1 hj with h | h | h
        · exact mem_blocks.2 (.inl h)
        · exact mem_blocks.2 (.inr (.inl h))
        · exact mem_blocks.2 (.inr (.inr (HG.out j h)))))⟩
      case measure => rw [HR.out.toks, HR2.out.1.toks]; omega

theorem new_my_u32 (B : Nat) (w : World) (hB : B ≤ w.heap.size) (n : Nat) (h1 : 1 ≤ n) (h2 : n ≤ 1048576) :
    Calls Try.prog 22 #[.int .i64 n] w fun e w' => ∃ rb cb, e = .returned (.tuple #[.pointer (some ⟨rb, 0, none⟩), .int .i64 0]) ∧ MyRing 81 1 B w' rb cb n 0 [] ∧ Below B w w' :=
  (new_yes_u32 w n h1 h2).mono fun e w' ⟨he, h, ht⟩ => ⟨_, _, he, my_new hB h ht⟩
theorem len_my_u32 (B : Nat) (w : World) (rb cb n m : Nat) (flat : List Value) (h : MyRing 81 1 B w rb cb n m flat) : Calls Try.prog 25 #[.pointer (some ⟨rb, 0, none⟩)] w fun e w' => e = .returned (.int .i64 m) ∧ w = w' := by
  obtain ⟨g, h1, h2⟩ := h
  exact len_u32 w rb cb g n m flat h1
theorem room_my_u32 (B : Nat) (w : World) (rb cb n m : Nat) (flat : List Value) (h : MyRing 81 1 B w rb cb n m flat) : Calls Try.prog 26 #[.pointer (some ⟨rb, 0, none⟩)] w fun e w' => e = .returned (.int .i64 ((n - m : Nat) : Int)) ∧ MyRing 81 1 B w' rb cb n m flat ∧ Below B w w' := by
  have hs := h.size
  have hh := h
  obtain ⟨g, h1, h2⟩ := h
  exact (room_u32 w rb cb g n m flat h1).mono fun e w' ⟨he, ht⟩ => ⟨he, hh.turn ht, ht.below (by omega) (fun _ hk => by cases hk)⟩
theorem push_my_u32 (B : Nat) (w : World) (rb cb n m : Nat) (flat : List Value) (h : MyRing 81 1 B w rb cb n m flat) (x : Int) (hm : m < n) :
    Calls Try.prog 23 #[.pointer (some ⟨rb, 0, none⟩), .int .u32 x] w fun e w' => e = .returned (.bool true) ∧ MyRing 81 1 B w' rb cb n (m + 1) (flat ++ [.int .u32 x]) ∧ Below B w w' := by
  obtain ⟨g, h1, h2⟩ := h
  exact (push_yes_u32 w rb cb g n m flat h1 x hm).mono fun e w' ⟨he, hr⟩ => ⟨he, my_after h1 h2 hr⟩
theorem push_myno_u32 (B : Nat) (w : World) (rb cb n m : Nat) (flat : List Value) (h : MyRing 81 1 B w rb cb n m flat) (x : Int) (hm : n ≤ m) :
    Calls Try.prog 23 #[.pointer (some ⟨rb, 0, none⟩), .int .u32 x] w fun e w' => e = .returned (.bool false) ∧ w = w' := by
  have hs := h.size
  have hh := h
  obtain ⟨g, h1, h2⟩ := h
  exact (push_no_u32 w rb cb g n m flat h1 x hm)
theorem at_my_u32 (B : Nat) (w : World) (rb cb n m : Nat) (flat : List Value) (h : MyRing 81 1 B w rb cb n m flat) (x : Value) (i : Nat) (hx : flat[i]? = some x) (hi : i < m) : Calls Try.prog 41 #[.pointer (some ⟨rb, 0, none⟩), .int .i64 i] w fun e w' => e = .returned (.tuple #[x, .bool true]) ∧ w = w' := by
  have hs := h.size
  have hh := h
  obtain ⟨g, h1, h2⟩ := h
  exact (at_yes_u32 w rb cb g n m flat h1 x i hx hi)
theorem at_myno_u32 (B : Nat) (w : World) (rb cb n m : Nat) (flat : List Value) (h : MyRing 81 1 B w rb cb n m flat) (i : Int) (hi : i < 0 ∨ (m : Int) ≤ i) : Calls Try.prog 41 #[.pointer (some ⟨rb, 0, none⟩), .int .i64 i] w fun e w' => e = .returned (.tuple #[.int .u32 0, .bool false]) ∧ w = w' := by
  have hs := h.size
  have hh := h
  obtain ⟨g, h1, h2⟩ := h
  exact (at_no_u32 w rb cb g n m flat h1 i hi)
theorem pop_my_u32 (B : Nat) (w : World) (rb cb n m : Nat) (v : Value) (vs : List Value) (h : MyRing 81 1 B w rb cb n (m + 1) (v :: vs)) :
    Calls Try.prog 24 #[.pointer (some ⟨rb, 0, none⟩)] w fun e w' => e = .returned (.tuple #[v, .bool true]) ∧ MyRing 81 1 B w' rb cb n m vs ∧ Below B w w' := by
  obtain ⟨g, h1, h2⟩ := h
  exact (pop_yes_u32 w rb cb g n m v vs h1).mono fun e w' ⟨he, ⟨g', h3, h4⟩, ht⟩ => ⟨he, my_after h1 h2 ⟨⟨g', h3, fun k hk => .inl (h4 k hk)⟩, ht⟩⟩
theorem pop_myno_u32 (B : Nat) (w : World) (rb cb n : Nat) (flat : List Value) (h : MyRing 81 1 B w rb cb n 0 flat) :
    Calls Try.prog 24 #[.pointer (some ⟨rb, 0, none⟩)] w fun e w' => e = .returned (.tuple #[.int .u32 0, .bool false]) ∧ w = w' := by
  obtain ⟨g, h1, h2⟩ := h
  exact pop_no_u32 w rb cb g n flat h1
theorem clear_my_u32 (B : Nat) (w : World) (rb cb n m : Nat) (flat : List Value) (h : MyRing 81 1 B w rb cb n m flat) : Calls Try.prog 31 #[.pointer (some ⟨rb, 0, none⟩)] w fun e w' => e = .returned (.tuple #[]) ∧ MyRing 81 1 B w' rb cb n 0 [] ∧ Below B w w' := by
  obtain ⟨g, h1, h2⟩ := h
  exact (clear_u32 w rb cb g n m flat h1).mono fun e w' ⟨he, ⟨g', h3, h4⟩, ht⟩ => ⟨he, my_after h1 h2 ⟨⟨g', h3, fun k hk => .inl (h4 k hk)⟩, ht⟩⟩

end Go.Proofs.Ytdlcmmodhicieaa
