/-
  Package spans: what a set is in memory; its functions' contracts.
-/
import Derived.Test.YtjdkbcecnlfhjaaChecked
import Derived.Test.YtjdkbcecnlfhjaaSpMath
import Derived.Test.YtjdkbcecnlfhjaaTurn
import Derived.Handy
import Derived.Outline
import Derived.StillTailTactics
import Derived.RegionTactic
namespace Go.Proofs.Ytjdkbcecnlfhjaa
open Go.RowKit
open Go.Maps (Keyed int_keyed)
set_option linter.unusedVariables false

theorem key32 : Keyed Try.prog 22 := int_keyed Try.underlying22
theorem zeroB (w : World) : (zeroValue 4).run Try.prog w = .ok (.bool false) w := by kernel_rfl
theorem wf32 {x : Int} (h : 0 ≤ x ∧ x < 4294967296) : (Lit.int .u32 x).wf = true := by
  simp [Lit.wf, IntKind.min, IntKind.max, IntKind.signed, IntKind.bits]; omega
theorem isKey32 (x : Int) : WideAt.IsKeyLit (.int .u32 x) := trivial
theorem keyOf32 {x : Int} (h : 0 ≤ x ∧ x < 4294967296) : keyOf Try.prog 22 (.int .u32 x) = some (.int .u32 x) := Maps.keyOf_int_mk Try.underlying22 (wf32 h)

/-- Block bm is a map whose keys are the numbers at the distances that are in. -/
def IsMem (w : World) (bm : Nat) (base : Int) (f : Nat → Bool) : Prop :=
  ∃ D : DataW Unit, w.ownsMap Try.prog 22 (plainElem Try.prog 4) bm 4096 D ∧ Maps.size D = cnt f ∧
    ∀ x : Int, 0 ≤ x → x < 4294967296 → Maps.has D (.int .u32 x) = f (dist base x) ∧ D.atKey (.int .u32 x) (.lit (.bool false)) = .lit (.bool (f (dist base x)))

/-- The pointer to block sb leads to a set of that base, with these distances. -/
structure IsSet (w : World) (sb bm : Nat) (base : Int) (f : Nat → Bool) : Prop where
  lo : 0 ≤ base
  hi : base < 4294967296
  sup : Sup f
  ne : sb ≠ bm
  blk : w.heap[sb]? = some (.cells #[.int .u32 base, .map (some bm)] 54 (0, 0))
  mem : IsMem w bm base f

theorem IsMem.lt {w : World} {bm : Nat} {base : Int} {f : Nat → Bool} (h : IsMem w bm base f) : bm < w.heap.size := by
  obtain ⟨D, h, _⟩ := h; exact h.lt
theorem IsMem.turn {w w' : World} {bm : Nat} {base : Int} {f : Nat → Bool} (h : IsMem w bm base f) {bs : List Nat} (ht : Turn bs w w') (hn : bm ∉ bs) : IsMem w' bm base f := by
  obtain ⟨D, h, r⟩ := h; exact ⟨D, ownsMap_turn h ht hn, r⟩
section
variable {w : World} {sb bm : Nat} {base : Int} {f : Nat → Bool}
theorem IsSet.lt (h : IsSet w sb bm base f) : sb < w.heap.size := (Array.getElem?_eq_some_iff.1 h.blk).1
theorem IsSet.turn (h : IsSet w sb bm base f) {w' : World} {bs : List Nat} (ht : Turn bs w w') (h1 : sb ∉ bs) (h2 : bm ∉ bs) : IsSet w' sb bm base f :=
  ⟨h.lo, h.hi, h.sup, h.ne, (ht.block sb h.lt h1).trans h.blk, h.mem.turn ht h2⟩
theorem IsSet.c0 (h : IsSet w sb bm base f) : w.cell? ⟨sb, 0, none⟩ = some (.int .u32 base) := by rw [cell_of_row w sb 0 _ _ (0, 0) h.blk]; rfl
theorem IsSet.c1 (h : IsSet w sb bm base f) : w.cell? ⟨sb, 1, none⟩ = some (.map (some bm)) := by rw [cell_of_row w sb 1 _ _ (0, 0) h.blk]; rfl
theorem IsSet.f0 (h : IsSet w sb bm base f) (i : Nat) : w.frozen? ⟨sb, i, none⟩ = false := by have := h.blk; simp [World.frozen?, this]
theorem IsSet.in (h : IsSet w sb bm base f) : 0 ≤ base ∧ base ≤ 4294967295 := ⟨h.lo, by have := h.hi; omega⟩

theorem IsMem.look (h : IsMem w bm base f) {x : Int} (hx : 0 ≤ x ∧ x < 4294967296) : (Instr.lookup 52 (.map (some bm)) (.int .u32 x) false).run Try.prog w = .ok (.bool (f (dist base x))) w := by
  obtain ⟨D, hown, _, hat⟩ := h
  exact look_bool hown key32 Try.underlying52 Try.underlying4 (zeroB w) (keyOf32 hx) (hat x hx.1 hx.2).2

theorem IsMem.put (h : IsMem w bm base f) {x : Int} (hx : 0 ≤ x ∧ x < 4294967296) (h0 : f (dist base x) = false) (h1 : 1 ≤ dist base x) (h2 : dist base x ≤ 4096) (hb : 0 ≤ base ∧ base < 4294967296) :
    ∃ w', (Instr.mapUpdate 52 (.map (some bm)) (.int .u32 x) (.bool true)).run Try.prog w = .ok () w' ∧ IsMem w' bm base (ins f (dist base x)) ∧ Turn [bm] w w' := by
  obtain ⟨D, hown, hsz, hat⟩ := h
  obtain ⟨w', hrun, ho, ht⟩ := hown.store key32 Try.underlying52 (by unfold maxLen; omega) (keyOf32 hx) (plainElem_bool Try.underlying4 true)
  have hs : Maps.size (D.put (.int .u32 x) (.lit (.bool true))) = cnt (ins f (dist base x)) := by
    rw [Maps.size_put (hown.tidy key32), (hat x hx.1 hx.2).1, h0, hsz, cnt_ins h0 h1 h2]; rfl
  refine ⟨w', hrun, ⟨_, ownsMap_tight ho (by rw [hs]; exact cnt_le _), hs, fun y hy0 hy1 => ?_⟩, mapTurned_turn ht⟩
  by_cases e : y = x
  · subst e
    rw [Maps.has_put_same hown.isMap (isKey32 _), Maps.atKey_put_same hown.isMap (isKey32 _)]
    simp [ins]
  · have hne : (Lit.int .u32 y) ≠ .int .u32 x := fun h => e (by cases h; rfl)
    rw [Maps.has_put_other hne, Maps.atKey_put_other hne, (hat y hy0 hy1).1, (hat y hy0 hy1).2]
    have : dist base y ≠ dist base x := fun h => e (dist_inj ⟨hy0, hy1⟩ hx h)
    simp [ins, this]

theorem IsMem.del (h : IsMem w bm base f) (hs : Sup f) (hb : 0 ≤ base ∧ base < 4294967296) :
    ∃ w', (∀ ty, (Builtin.delete_ #[52, 22] ty #[.map (some bm), .int .u32 ((base + 1) % 4294967296)]).run Try.prog w = .ok (.tuple #[]) w') ∧ IsMem w' bm ((base + 1) % 4294967296) (shf 1 f) ∧ Turn [bm] w w' := by
  obtain ⟨D, hown, hsz, hat⟩ := h
  have hx : 0 ≤ (base + 1) % 4294967296 ∧ (base + 1) % 4294967296 < 4294967296 := by omega
  have hd1 : dist base ((base + 1) % 4294967296) = 1 := by unfold dist; omega
  obtain ⟨w', hrun, ho, ht⟩ := hown.drop key32 Try.underlying52 (keyOf32 hx) 0
  have hs' : Maps.size (D.del (.int .u32 ((base + 1) % 4294967296))) = cnt (shf 1 f) := by
    have h1 := Maps.size_del (k := .int .u32 ((base + 1) % 4294967296)) (hown.tidy key32)
    have h2 := cnt_shf hs
    rw [(hat _ hx.1 hx.2).1, hd1, hsz] at h1
    omega
  refine ⟨w', fun ty => hrun, ⟨_, ownsMap_tight ho (by rw [hs']; exact cnt_le _), hs', fun y hy0 hy1 => ?_⟩, mapTurned_turn ht⟩
  rw [shf_dist hs]
  by_cases e : y = (base + 1) % 4294967296
  · subst e
    rw [Maps.has_del_same, Maps.atKey_del_same, hd1]
    simp
  · have hne : (Lit.int .u32 y) ≠ .int .u32 ((base + 1) % 4294967296) := fun h => e (by cases h; rfl)
    rw [Maps.has_del_other hne, Maps.atKey_del_other hne, (hat y hy0 hy1).1, (hat y hy0 hy1).2]
    have : dist base y ≠ 1 := fun h => e (dist_inj (base := base) ⟨hy0, hy1⟩ hx (by rw [h, hd1]))
    simp [this]

theorem IsMem.len (h : IsMem w bm base f) (ty : TypeId) : (Builtin.len_ #[52] ty #[.map (some bm)]).run Try.prog w = .ok (.int .i64 (cnt f)) w := by
  obtain ⟨D, hown, hsz, _⟩ := h
  rw [hown.len Try.underlying52 ty, hsz]

theorem IsMem.made (w : World) (base : Int) : IsMem (w.alloc (.map #[] 0)) w.heap.size base none0 :=
  ⟨.map [], (World.ownsMap_made w _ _ _).mono (Nat.zero_le _), cnt_none0.symm, fun x _ _ => ⟨rfl, rfl⟩⟩
end

theorem ahead_any (a b : Int) (w : World) (ha : 0 ≤ a ∧ a ≤ 4294967295) (hb : 0 ≤ b ∧ b ≤ 4294967295) :
    Calls Try.prog 34 #[.int .u32 a, .int .u32 b] w fun e w' => e = .returned (.int .u32 (dist a b)) ∧ w = w' := by
  have hd : (dist a b : Int) = (b - a) % 4294967296 := by unfold dist; omega
  rw [hd]
  clear hd
  go_enter Try.func34, Try.ntmps34
  go_wp2
  go_ret
  exact ⟨rfl, rfl⟩

def near (d : Nat) : Bool := decide (1 ≤ d) && decide (d ≤ 4096)
theorem near_iff (d : Nat) : near d = true ↔ 1 ≤ d ∧ d ≤ 4096 := by unfold near; simp

theorem in_any (x base : Int) (w : World) (hx : 0 ≤ x ∧ x ≤ 4294967295) (hb : 0 ≤ base ∧ base ≤ 4294967295) :
    Calls Try.prog 35 #[.int .u32 x, .int .u32 base, .int .i64 4096] w fun e w' => e = .returned (.bool (near (dist base x))) ∧ w = w' := by
  have ha0 := ahead_any base x w hb hx
  have hr := dist_lt base x
  generalize dist base x = d at *
  by_cases h1 : 1 ≤ d
  · by_cases h2 : d ≤ 4096
    · rw [show near d = true by simp [near, h1, h2]]
      have g2 : (d : Int) ≤ 4096 := by omega
      go_enter Try.func35, Try.ntmps35
      go_wp2_with fail
      refine ha0.mono ?_
      rintro e w' ⟨rfl, rfl⟩
      go_wp2
      all_goals
        go_ret
        exact ⟨rfl, rfl⟩
    · rw [show near d = false by simp [near, h2]]
      have g2 : decide ((d : Int) ≤ 4096) = false := by simp; omega
      go_enter Try.func35, Try.ntmps35
      go_wp2_with fail
      refine ha0.mono ?_
      rintro e w' ⟨rfl, rfl⟩
      go_wp2
      all_goals
        go_ret
        exact ⟨rfl, rfl⟩
  · rw [show near d = false by simp [near, h1]]
    go_enter Try.func35, Try.ntmps35
    go_wp2_with fail
    refine ha0.mono ?_
    rintro e w' ⟨rfl, rfl⟩
    go_wp2
    all_goals
      go_ret
      exact ⟨rfl, rfl⟩
end Go.Proofs.Ytjdkbcecnlfhjaa
