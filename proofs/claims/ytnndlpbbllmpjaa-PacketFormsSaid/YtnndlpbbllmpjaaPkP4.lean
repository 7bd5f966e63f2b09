/-
  Stage 10: what the program's Read leans on: numbers that are read, rows that stay, what is so between two rounds.
-/
import Derived.Test.YtnndlpbbllmpjaaPkIt
import Derived.Test.YtnndlpbbllmpjaaPkTie
namespace Go.Proofs.Ytnndlpbbllmpjaa
open Go.RowKit
set_option linter.unusedVariables false

theorem num_inj : ∀ {xs ys : List Int}, Byt xs → Byt ys → xs.length = ys.length → num xs = num ys → xs = ys
  | [], [], _, _, _, _ => rfl
  | [], _ :: _, _, _, h, _ => by simp at h
  | _ :: _, [], _, _, h, _ => by simp at h
  | x :: xs, y :: ys, hx, hy, hl, h => by
    have hl' : xs.length = ys.length := by simpa using hl
    have bx : Byt xs := fun z hz => hx z (by simp [hz])
    have by' : Byt ys := fun z hz => hy z (by simp [hz])
    rw [num_cons, num_cons, ← hl'] at h
    have a0 := num_lo xs bx
    have a1 := num_hi xs bx
    have b0 := num_lo ys by'
    have b1 := num_hi ys by'
    rw [← hl'] at b1
    have hp : (0 : Int) < 256 ^ xs.length := Int.pow_pos (by omega)
    have e : x = y := by
      have h2 : (x * 256 ^ xs.length + num xs) / 256 ^ xs.length = (y * 256 ^ xs.length + num ys) / 256 ^ xs.length := by rw [h]
      rw [Int.add_comm, Int.add_mul_ediv_right _ _ (by omega), Int.add_comm (y * _), Int.add_mul_ediv_right _ _ (by omega), Int.ediv_eq_zero_of_lt a0 a1, Int.ediv_eq_zero_of_lt b0 b1] at h2
      omega
    subst e
    rw [num_inj bx by' hl' (by omega)]
theorem enc_num {xs : List Int} (h : Byt xs) : enc (num xs) xs.length = xs := by
  refine num_inj (enc_byt _ _) h (by simp) ?_
  rw [num_enc _ (num_lo _ h)]
  exact Int.emod_eq_of_lt (num_lo _ h) (num_hi _ h)
theorem enc_num' {b : List Int} (h : Byt b) {i k : Nat} (hk : i + k ≤ b.length) {x : Int} (hx : num ((b.drop i).take k) = x) : (b.drop i).take k = enc x k := by
  have h1 := enc_num ((h.drop i).take k)
  rw [hx, show ((b.drop i).take k).length = k by simp; omega] at h1
  exact h1.symm
/-- Both ports, the chunks: these bytes are that packet's. -/
theorem isP_of {b : List Int} {M : List PC} (hz : Byt b) (h12 : 12 ≤ b.length) (h0 : num ((b.drop 0).take 2) = 5000) (h2 : num ((b.drop 2).take 2) = 5000) (hm : mayB M = true) (hb : b.drop 12 = bodyP M) : IsP b M := by
  refine ⟨hm, ?_⟩
  have e0 := enc_num' hz (i := 0) (k := 2) (by omega) h0
  have e2 := enc_num' hz (i := 2) (k := 2) (by omega) h2
  have e4 := enc_num' hz (i := 4) (k := 4) (by omega) (x := tagB b) rfl
  have e8 := enc_num' hz (i := 8) (k := 4) (by omega) (x := sumB b) rfl
  have hq : b = (b.drop 0).take 2 ++ (b.drop 2).take 2 ++ (b.drop 4).take 4 ++ (b.drop 8).take 4 ++ b.drop 12 := by
    have q8 : (b.drop 8).take 4 ++ b.drop 12 = b.drop 8 := by rw [show b.drop 12 = (b.drop 8).drop 4 by rw [List.drop_drop], List.take_append_drop]
    have q4 : (b.drop 4).take 4 ++ b.drop 8 = b.drop 4 := by rw [show b.drop 8 = (b.drop 4).drop 4 by rw [List.drop_drop], List.take_append_drop]
    have q2 : (b.drop 2).take 2 ++ b.drop 4 = b.drop 2 := by rw [show b.drop 4 = (b.drop 2).drop 2 by rw [List.drop_drop], List.take_append_drop]
    rw [List.append_assoc, q8, List.append_assoc, q4, List.append_assoc, q2, List.drop_zero, List.take_append_drop]
  refine hq.trans ?_
  rw [e0, e2, e4, e8, hb]
  rfl
/-- A packet's ports. -/
theorem isP_ports {b : List Int} {M : List PC} (h : IsP b M) : num ((b.drop 0).take 2) = 5000 ∧ num ((b.drop 2).take 2) = 5000 := by
  have e : (b.take 8) = enc 5000 2 ++ enc 5000 2 ++ enc (tagB b) 4 := by
    conv => lhs; rw [h.2]
    exact (laidP_parts _ _ _).1
  have e1 : (b.drop 0).take 2 = enc 5000 2 := by
    have := congrArg (List.take 2) e
    rw [List.take_take] at this
    simpa using this
  have e2 : (b.drop 2).take 2 = enc 5000 2 := by
    have h3 := congrArg (fun l => (l.drop 2).take 2) e
    simp only [List.drop_take, List.take_take] at h3
    simpa using h3
  rw [e1, e2]
  decide +kernel

theorem cells_of_cell {w : World} {p : Addr} {v : Value} (h : w.cell? p = some v) : ∃ cs T q, w.heap[p.block]? = some (.cells cs T q) := by
  unfold World.cell? at h
  split at h
  · next c T q hq => exact ⟨_, _, _, hq⟩
  · cases h
/-- Blocks of cells lie as they lay. -/
structure CellsLie (A B : World) : Prop where
  size : A.heap.size ≤ B.heap.size
  same : ∀ (k : Nat) cs T q, A.heap[k]? = some (.cells cs T q) → B.heap[k]? = A.heap[k]?
theorem CellsLie.of_below {A B : World} (h : Below A.heap.size A B) : CellsLie A B := ⟨h.size, fun k cs T q hk => h.block k (Array.getElem?_eq_some_iff.1 hk).1⟩
theorem CellsLie.of_put {A : World} {l : Nat} {o : Obj} (o' : Obj) (h : A.heap[l]? = some o) (ho : o.isCells = false) : CellsLie A (A.putObj l o') := ⟨by simp, fun k cs T q hk => World.putObj_heap_other (fun e => by subst e; rw [hk] at h; cases h; cases ho)⟩
theorem CellsLie.trans {A B C : World} (h : CellsLie A B) (k : CellsLie B C) : CellsLie A C := ⟨Nat.le_trans h.size k.size, fun i cs T q hi => (k.same i cs T q ((h.same i cs T q hi).trans hi)).trans (h.same i cs T q hi)⟩
theorem Arr.lie {A B : World} {g : Nat} {T : TypeId} {cs : List Value} (h : Arr A g T cs) (hc : CellsLie A B) : Arr B g T cs := (hc.same g _ _ _ h).trans h
theorem Reads.lie {A B : World} {a : Option Addr} {n : Nat} {zs : List Int} (h : Reads A a n zs) (hc : CellsLie A B) : Reads B a n zs :=
  h.of_block hc.size fun hn p hp => by
    rcases h.2 with h0 | ⟨b, off, ha, hlt, hcl⟩
    · omega
    · rw [ha] at hp
      cases hp
      obtain ⟨cs, T, q, hk⟩ := cells_of_cell (hcl 0 hn)
      exact hc.same _ _ _ _ hk
theorem Row8.lie {A B : World} {base : Nat} {a : Option Addr} {n c : Nat} {zs : List Int} (h : Row8 base A a n c zs) (hc : CellsLie A B) : Row8 base B a n c zs := h.keep_of fun g _ _ cs hk => hc.same g _ _ _ hk
theorem RowC.lie {A B : World} {b0 base : Nat} {a : Option Addr} {n c : Nat} {L : List Ck} (h : RowC b0 base A a n c L) (hc : CellsLie A B) : RowC b0 base B a n c L := by
  refine ⟨⟨h.own.1, ?_⟩, fun r hr => ⟨(h.row r hr).k, (h.row r hr).f, (h.row r hr).reads.lie hc, (h.row r hr).byt, (h.row r hr).le, (h.row r hr).cap⟩, fun r hr => (h.off r hr).of (fun k cs hk => hc.same k _ _ _ hk), h.le⟩
  rcases h.own.2 with h2 | ⟨g', cap, cur, hv, hb, hk, r⟩
  · exact .inl h2
  · exact .inr ⟨g', cap, cur, hv, hb, (hc.same _ _ _ _ hk).trans hk, r⟩
theorem OwnBodies.lie {A B : World} {base : Nat} {L : List Ck} (h : OwnBodies base A L) (hc : CellsLie A B) : OwnBodies base B L := ⟨fun r hr => (h.1 r hr).lie hc, h.2⟩
theorem OwnBodies.of_rows {A B : World} {base : Nat} {L : List Ck} (h : OwnBodies base A L) (hc : ∀ (k : Nat) cs, A.heap[k]? = some (.cells cs 5 (0, 0)) → B.heap[k]? = A.heap[k]?) : OwnBodies base B L := ⟨fun r hr => (h.1 r hr).keep_of fun g _ _ cs hk => hc g cs hk, h.2⟩
theorem OwnBodies.nil (base : Nat) (w : World) : OwnBodies base w [] := ⟨fun r hr => (by cases hr), fun i j ri rj hi => (by simp at hi)⟩
/-- One more body, in a block behind all of them. -/
theorem OwnBodies.snoc {W0 W1 : World} {base : Nat} {L : List Ck} {r : Ck} (h : OwnBodies base W0 L) (hc : CellsLie W0 W1) (hb : base ≤ W0.heap.size) {g : Nat} (ha : r.a = some ⟨g, 0, none⟩) (hg : W0.heap.size ≤ g) (hr : Row8 base W1 r.a r.n r.c r.zs) : OwnBodies base W1 (L ++ [r]) := by
  have far : ∀ q ∈ L, q.a = none ∨ q.a ≠ r.a := fun q hq => by
    cases hqa : q.a with
    | none => exact .inl rfl
    | some p =>
      refine .inr fun e => ?_
      rw [ha] at e
      cases e
      have := ((h.1 q hq).far _ hqa).2.1
      simp at this
      omega
  refine ⟨fun q hq => ?_, fun i j ri rj hi hj hij => ?_⟩
  · rcases List.mem_append.1 hq with hq | hq
    · exact (h.1 q hq).lie hc
    · simp at hq
      subst hq
      exact hr
  · rw [List.getElem?_append] at hi hj
    split at hi
    · split at hj
      · exact h.2 i j ri rj hi hj hij
      · next h1 h2 =>
        have : rj = r := by
          have h3 := (List.getElem?_eq_some_iff.1 hj).1
          simp at h3
          rw [show j - L.length = 0 by omega] at hj
          simpa using hj.symm
        subst this
        exact far ri (List.mem_of_getElem? hi)
    · split at hj
      · next h1 h2 =>
        have : ri = r := by
          have h3 := (List.getElem?_eq_some_iff.1 hi).1
          simp at h3
          rw [show i - L.length = 0 by omega] at hi
          simpa using hi.symm
        subst this
        rcases far rj (List.mem_of_getElem? hj) with h0 | h0
        · exact .inr (fun e => by rw [h0, ha] at e; cases e)
        · exact .inr (fun e => h0 e.symm)
      · next h1 h2 =>
        have h3 := (List.getElem?_eq_some_iff.1 hi).1
        have h4 := (List.getElem?_eq_some_iff.1 hj).1
        simp at h3 h4
        omega

/-- What is so between two rounds of Read's loop: the packet's box gp, the iterator's box gb, the results' boxes; the loop's own blocks end at 'base'. -/
structure RdI (w : World) (gp gb base : Nat) (T : Int) (a2 : Option Addr) (m c2 : Nat) (zs : List Int) (pre : List (Option Ck)) (W : World) : Prop where
  ex : ∃ (M : List Ck) (a' : Option Addr) (c' : Nat), pre = M.map some ∧ Firsts zs M ∧ RowC 0 base W a' M.length c' M ∧ Arr W gp 25 [.int .u32 T, .slice a' M.length c'] ∧ OwnBodies w.heap.size W M
  res : Arr W w.heap.size 25 [.int .u32 0, .slice none 0 0]
  err : Arr W (w.heap.size + 1) 37 [.int .i64 0]
  box : Arr W gb 29 [.slice a2 m c2]
  rd : Reads W a2 m zs
  bel : Below w.heap.size w W
theorem RdI.lie {w : World} {gp gb base : Nat} {T : Int} {a2 : Option Addr} {m c2 : Nat} {zs : List Int} {pre : List (Option Ck)} {A B : World} (h : RdI w gp gb base T a2 m c2 zs pre A) (hc : CellsLie A B) (hb : Below w.heap.size A B) : RdI w gp gb base T a2 m c2 zs pre B := by
  obtain ⟨M, a', c', e, hf, hr, hp, ho⟩ := h.ex
  exact ⟨⟨M, a', c', e, hf, hr.lie hc, hp.lie hc, ho.lie hc⟩, h.res.lie hc, h.err.lie hc, h.box.lie hc, h.rd.lie hc, h.bel.trans hb⟩
/-- What is so when a round has found that there is no chunk. -/
structure RdX (w : World) (b : List Int) (c : Code) (pre : List (Option Ck)) (W : World) : Prop where
  code : c = .ret
  res : Arr W w.heap.size 25 [.int .u32 0, .slice none 0 0]
  err : Arr W (w.heap.size + 1) 37 [.int .i64 7]
  bel : Below w.heap.size w W
  no : ∀ M, ¬ IsP b M
theorem RdX.lie {w : World} {b : List Int} {c : Code} {pre : List (Option Ck)} {A B : World} (h : RdX w b c pre A) (hc : CellsLie A B) (hb : Below w.heap.size A B) : RdX w b c pre B := ⟨h.code, h.res.lie hc, h.err.lie hc, h.bel.trans hb, h.no⟩
theorem below_put {n₀ : Nat} {A : World} {l : Nat} {o : Obj} (o' : Obj) (hl : n₀ ≤ l) (h : A.heap[l]? = some o) : Below n₀ A (A.putObj l o') :=
  (Below.refl n₀ A).grown (grownBy_putObj' A l o') (by have := (Array.getElem?_eq_some_iff.1 h).1; omega) (fun k e => by cases e; omega)
theorem RdI.stays {w : World} {gp gb base : Nat} {T : Int} {a2 : Option Addr} {m c2 : Nat} {zs : List Int} : Iter.Stays (RdI w gp gb base T a2 m c2 zs) := fun s A B h hb => h.lie (.of_below hb) (hb.mono h.bel.size)
theorem RdI.turns {w : World} {gp gb base D : Nat} {T : Int} {a2 : Option Addr} {m c2 : Nat} {zs : List Int} (hD : w.heap.size ≤ D) : Iter.Turns D (RdI w gp gb base T a2 m c2 zs) := fun s A o o' h ho hc => h.lie (.of_put o' ho hc) (below_put o' (by omega) ho)
theorem RdX.turns {w : World} {b : List Int} {D : Nat} (hD : w.heap.size ≤ D) (c : Code) : Iter.Turns D (RdX w b c) := fun s A o o' h ho hc => h.lie (.of_put o' ho hc) (below_put o' (by omega) ho)

set_option maxHeartbeats 400000 in
theorem chunksF_any (a2 : Option Addr) (m c2 : Nat) (w : World) : Calls Try.prog 43 #[.slice a2 m c2] w fun e w' => e = .returned (.func (.func 56) #[] #[.pointer (some ⟨w.heap.size, 0, none⟩)]) ∧ w' = w.alloc (.cells #[.slice a2 m c2] 29) := by
  go_enter Try.func43, Try.ntmps43
  go_wp2
  go_ret
  exact ⟨rfl, rfl⟩
end Go.Proofs.Ytnndlpbbllmpjaa
