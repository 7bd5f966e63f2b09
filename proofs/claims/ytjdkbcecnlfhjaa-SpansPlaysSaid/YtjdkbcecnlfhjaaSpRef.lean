/-
  The document's own answers for layer 4: what its set is in memory; the contracts of its functions.
-/
import Derived.Test.YtjdkbcecnlfhjaaSpLast
import Derived.Laws.Tables
namespace Go.Proofs.Ytjdkbcecnlfhjaa
open Go.RowKit
set_option linter.unusedVariables false

/-- The cells of a set of that base in which no distance is. -/
def refCellsN (base : Int) (n : Nat) : Array Value := ⟨.int .u32 base :: List.replicate n (.bool false)⟩
theorem refCellsN_0 (base : Int) (n : Nat) : (refCellsN base n)[0]? = some (.int .u32 base) := by unfold refCellsN; simp
theorem refCellsN_s (base : Int) (n d : Nat) (h : d < n) : (refCellsN base n)[d + 1]? = some (.bool false) := by unfold refCellsN; simp [h]
def refCells (base : Int) : Array Value := refCellsN base 4097
theorem built_ref (base : Int) : Try.prog.built 30 [(0, .int .u32 base)] = some (refCells base) := by kernel_rfl
theorem run_ref (base : Int) (w : World) : (Instr.build 30 #[(0, .int .u32 base)]).run Try.prog w = .ok (.agg (refCells base)) w := run_build w _ _ _ (built_ref base)

/-- Block rb is the document's set of that base, with these distances. -/
structure IsRef (w : World) (rb : Nat) (base : Int) (f : Nat → Bool) : Prop where
  lt : rb < w.heap.size
  lo : 0 ≤ base
  hi : base < 4294967296
  sup : Sup f
  c0 : w.cell? ⟨rb, 0, none⟩ = some (.int .u32 base)
  cell : ∀ d, d ≤ 4096 → w.cell? ⟨rb, 1 + d, none⟩ = some (.bool (f d))
  free : ∀ i, w.frozen? ⟨rb, i, none⟩ = false

section
variable {w : World} {rb : Nat} {base : Int} {f : Nat → Bool}
theorem IsRef.turn (h : IsRef w rb base f) {w' : World} {bs : List Nat} (ht : Turn bs w w') (h1 : rb ∉ bs) : IsRef w' rb base f :=
  ⟨Nat.lt_of_lt_of_le h.lt ht.size, h.lo, h.hi, h.sup, (ht.cell (p := ⟨rb, 0, none⟩) h.lt h1).trans h.c0, fun d hd => (ht.cell (p := ⟨rb, 1 + d, none⟩) h.lt h1).trans (h.cell d hd), fun i => (ht.frozen (p := ⟨rb, i, none⟩) h.lt h1).trans (h.free i)⟩
theorem IsRef.in (h : IsRef w rb base f) : 0 ≤ base ∧ base ≤ 4294967295 := ⟨h.lo, by have := h.hi; omega⟩
end

theorem IsRef.made (w : World) (base : Int) (hb : 0 ≤ base ∧ base < 4294967296) (e : TypeId) : IsRef (w.alloc (.cells (refCells base) e)) w.heap.size base none0 := by
  have hblk : (w.alloc (.cells (refCells base) e)).heap[w.heap.size]? = some (.cells (refCells base) e (0, 0)) := heap_alloc_new _ _
  refine ⟨by simp, hb.1, hb.2, Sup.none0, ?_, fun d hd => ?_, fun i => ?_⟩
  · rw [cell_of_row _ w.heap.size 0 _ _ (0, 0) hblk]; exact refCellsN_0 base 4097
  · rw [Nat.add_comm, cell_of_row _ w.heap.size (d + 1) _ _ (0, 0) hblk]
    exact refCellsN_s base 4097 d (by omega)
  · unfold World.frozen?
    rw [hblk]
    simp

theorem rin_any (x base : Int) (w : World) (hx : 0 ≤ x ∧ x ≤ 4294967295) (hb : 0 ≤ base ∧ base ≤ 4294967295) :
    Calls Try.prog 31 #[.int .u32 x, .int .u32 base, .int .i64 4096] w fun e w' => e = .returned (.bool (near (dist base x))) ∧ w = w' := by
  have hr := dist_lt base x
  have hd : (x - base) % 4294967296 = (dist base x : Int) := by unfold dist; omega
  by_cases h1 : x = base
  · have hn : near (dist base x) = false := by subst h1; rw [dist_self]; rfl
    have HN := Lib.hid hn
    have e1 : (x != base) = false := by simpa using h1
    clear hn hd h1
    go_enter Try.func31, Try.ntmps31
    go_wp2
    go_ret
    exact ⟨by rw [HN.out]; rfl, rfl⟩
  · have e1 : (x != base) = true := by simpa using h1
    have h0 : 1 ≤ dist base x := by unfold dist; omega
    have hle : ((x - base) % 4294967296 ≤ 4096) ↔ near (dist base x) = true := by rw [near_iff]; omega
    cases hn : near (dist base x)
    · have e2 : decide ((x - base) % 4294967296 ≤ 4096) = false := by
        rw [hn] at hle; simpa using hle
      have hrr : 0 ≤ (x - base) % 4294967296 ∧ (x - base) % 4294967296 ≤ 4294967295 := by omega
      clear hd h0 hle hn h1
      go_enter Try.func31, Try.ntmps31
      go_wp2
      go_ret
      exact ⟨by first | rfl | simp [e2], rfl⟩
    · have e2 : decide ((x - base) % 4294967296 ≤ 4096) = true := by
        rw [hn] at hle; simpa using hle
      have hrr : 0 ≤ (x - base) % 4294967296 ∧ (x - base) % 4294967296 ≤ 4294967295 := by omega
      clear hd h0 hle hn h1
      go_enter Try.func31, Try.ntmps31
      go_wp2
      go_ret
      exact ⟨by first | rfl | simp [e2], rfl⟩

theorem rhas_any (w : World) (rb : Nat) (base x : Int) (f : Nat → Bool) (h : IsRef w rb base f) (hx : 0 ≤ x ∧ x ≤ 4294967295) :
    Calls Try.prog 15 #[.pointer (some ⟨rb, 0, none⟩), .int .u32 x] w fun e w' => e = .returned (.bool (f (dist base x))) ∧ ∃ n, w' = w.drewN n := by
  have c0 := h.c0
  have hin := fun j => rin_any x base (w.drewN j) hx h.in
  have hb := h.in
  have hsup := h.sup
  cases hn : near (dist base x)
  · rw [hn] at hin
    have hf : f (dist base x) = false := by
      cases e : f (dist base x)
      · rfl
      · have := (near_iff _).2 (hsup _ e); rw [hn] at this; cases this
    have HF := Lib.hid hf
    have HIN := Lib.hid hin
    have HH := Lib.hid h
    clear h hf hn hin hsup
    go_enter Try.func15, Try.ntmps15
    go_wp2
    go_quiet ((go_at_call 31; exact quiet_left (HIN.out _)))
    go_wp2
    go_ret
    exact ⟨by rw [HF.out]; rfl, _, rfl⟩
  · rw [hn] at hin
    have hd := (near_iff _).1 hn
    have hcell := h.cell (dist base x) hd.2
    have hdd : IntKind.u32.wrap (x - base) = (dist base x : Int) := by show (x - base) % 4294967296 = _; unfold dist; omega
    have hb1 : ((dist base x : Nat) : Int) < 4097 := by omega
    have hb0 : (0 : Int) ≤ ((dist base x : Nat) : Int) := by omega
    generalize hD : dist base x = D at *
    have HIN := Lib.hid hin
    have HH := Lib.hid h
    have HDD := Lib.hid hD
    clear h hn hin hsup hD
    go_enter Try.func15, Try.ntmps15
    go_wp2
    go_quiet ((go_at_call 31; exact quiet_left (HIN.out _)))
    go_wp2
    go_ret
    exact ⟨rfl, _, rfl⟩
end Go.Proofs.Ytjdkbcecnlfhjaa
