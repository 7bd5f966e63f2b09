/-
  The statements' own small functions: same, filled, within.
-/
import Derived.Test.YtjdkbcecnlfhjaaSpGap
namespace Go.Proofs.Ytjdkbcecnlfhjaa
open Go.RowKit
set_option linter.unusedVariables false

/-- The slice reads as these gaps. -/
def GapRead (w : World) (a : Option Addr) (L : List (Nat × Nat)) : Prop :=
  ∀ (i : Nat) p, L[i]? = some p → ∃ g, a = some ⟨g, 0, none⟩ ∧ g < w.heap.size ∧ w.cell? ⟨g, i * 2, none⟩ = some (.int .u16 (p.1 : Int)) ∧ w.cell? ⟨g, i * 2 + 1, none⟩ = some (.int .u16 (p.2 : Int))
theorem GapRow.read {base : Nat} {w : World} {a : Option Addr} {c : Nat} {L : List (Nat × Nat)} (h : GapRow base w a c L) : GapRead w a L := by
  intro i p hp
  obtain ⟨g, h1, _, h2, h3⟩ := h.cell i p hp
  exact ⟨g, h1, World.block_lt_of_cell? w _ h2, h2, h3⟩
theorem GapRead.take {w : World} {a : Option Addr} {L : List (Nat × Nat)} (h : GapRead w a L) (k : Nat) : GapRead w a (L.take k) := by
  intro i p hp
  refine h i p ?_
  rw [List.getElem?_take] at hp
  split at hp
  · exact hp
  · cases hp
theorem GapRead.turn {w w' : World} {a : Option Addr} {L : List (Nat × Nat)} (h : GapRead w a L) (ht : Turn [] w w') : GapRead w' a L := by
  intro i p hp
  obtain ⟨g, h1, h2, h3, h4⟩ := h i p hp
  exact ⟨g, h1, Nat.lt_of_lt_of_le h2 ht.size, (ht.cell (p := ⟨g, i * 2, none⟩) h2 (by simp)).trans h3, (ht.cell (p := ⟨g, i * 2 + 1, none⟩) h2 (by simp)).trans h4⟩

theorem same_any (w : World) (a b : Option Addr) (n c d : Nat) (L : List (Nat × Nat)) (hn : L.length = n) (ha : GapRead w a L) (hb : GapRead w b L) (hm : n ≤ 8192) :
    Calls Try.prog 20 #[.slice a n c, .slice b n d] w fun e w' => e = .returned (.bool true) ∧ Turn [] w w' := by
  have HA := Lib.hid ha
  have HB := Lib.hid hb
  have HN := Lib.hid hn
  clear ha hb hn
  go_enter Try.func20, Try.ntmps20
  go_wp2
  go_loopw [5] (fun i wr => ∃ k m : Nat, k ≤ n ∧ i = .int .i64 k ∧ wr = w.drewN m) (fun i _ => n - (intOf i).toNat)
  case atStart => exact ⟨0, 0, by omega, rfl, rfl⟩
  case round =>
    obtain ⟨k, m, hk, rfl, rfl⟩ := hrel
    by_cases hlt : k < n
    · have hkl : k < L.length := by rw [HN.out]; exact hlt
      obtain ⟨g, rfl, hg1, hg2, hg3⟩ := HA.out k L[k] (by simp [hkl])
      obtain ⟨g', rfl, hg1', hg2', hg3'⟩ := HB.out k L[k] (by simp [hkl])
      generalize L[k] = p at *
      go_wp2
      go_quiet (fail)
      go_wp2
      go_roundw
      case rel => exact ⟨k + 1, _, by omega, by go_num, rfl⟩
      case measure => simp [intOf]; omega
    · go_wp2
      go_ret
      exact ⟨rfl, (Turn.refl _ _).drewN _⟩

/-- A slice of numbers that came in (or nil). -/
def U32s (w : World) (a : Option Addr) (len : Nat) (zs : List Int) : Prop :=
  zs.length = len ∧ len ≤ 9223372036854775807 ∧ (∀ z ∈ zs, 0 ≤ z ∧ z ≤ 4294967295) ∧ ∀ (i : Nat) z, zs[i]? = some z → ∃ g off, a = some ⟨g, off, none⟩ ∧ g < w.heap.size ∧ w.cell? ⟨g, off + i, none⟩ = some (.int .u32 z)
theorem U32s.turn {w w' : World} {a : Option Addr} {len : Nat} {zs : List Int} (h : U32s w a len zs) {B : Nat} (ht : Below B w w') (hB : w.heap.size ≤ B) : U32s w' a len zs := by
  refine ⟨h.1, h.2.1, h.2.2.1, fun i z hz => ?_⟩
  obtain ⟨g, off, h1, h2, h3⟩ := h.2.2.2 i z hz
  exact ⟨g, off, h1, Nat.lt_of_lt_of_le h2 ht.size, (ht.cell (p := ⟨g, off + i, none⟩) (by show g < B; omega)).trans h3⟩

/-- What is in, when these have been added one after another. -/
def fills : List Int → (Nat → Bool) → Nat → Bool
  | [], f => f
  | z :: zs, f => fills zs (addF f z.toNat)
theorem fills_snoc (zs : List Int) (z : Int) (f : Nat → Bool) : fills (zs ++ [z]) f = addF (fills zs f) z.toNat := by
  induction zs generalizing f with
  | nil => rfl
  | cons y zs ih => exact ih _
/-- Among these numbers, and from 1 to 4096. -/
def among (zs : List Int) (d : Nat) : Bool := near d && zs.any (fun z => z.toNat == d)
theorem addF_at (f : Nat → Bool) (hs : Sup f) (d k : Nat) : addF f d k = (f k || (near d && d == k)) := by
  unfold addF
  cases hn : near d
  · simp
  · cases hf : f d
    · simp only [Bool.not_false, Bool.and_true, Bool.true_and]
      show (f k || k == d) = _
      rw [Bool.beq_comm]
    · simp
      rintro rfl; exact hf
theorem addF_sup {f : Nat → Bool} (hs : Sup f) (d : Nat) : Sup (addF f d) := by
  unfold addF
  split
  · rename_i h
    have := (near_iff d).1 (by simpa using (Bool.and_eq_true _ _ ▸ h : _ ∧ _).1)
    exact hs.ins this.1 this.2
  · exact hs
theorem fills_at (zs : List Int) (f : Nat → Bool) (hs : Sup f) (k : Nat) : fills zs f k = (f k || among zs k) ∧ Sup (fills zs f) := by
  induction zs generalizing f with
  | nil => exact ⟨by simp [fills, among], hs⟩
  | cons z zs ih =>
    obtain ⟨h1, h2⟩ := ih (addF f z.toNat) (addF_sup hs _)
    refine ⟨?_, h2⟩
    show fills zs (addF f z.toNat) k = _
    rw [h1, addF_at f hs]
    unfold among
    by_cases e : z.toNat = k
    · have e' : (z.toNat == k) = true := by simpa using e
      rw [List.any_cons, e', e]
      cases f k <;> cases near k <;> simp
    · have e' : (z.toNat == k) = false := by simpa using e
      simp [e']
/-- Which distances are in, when these have been added to nothing. -/
def fillF (zs : List Int) : Nat → Bool := fills zs none0
theorem fillF_at (zs : List Int) (k : Nat) : fillF zs k = among zs k := by
  have := (fills_at zs none0 Sup.none0 k).1
  unfold fillF; rw [this]; rfl
theorem fillF_sup (zs : List Int) : Sup (fillF zs) := (fills_at zs none0 Sup.none0 0).2

def RetSet (base : Int) (f : Nat → Bool) (w : World) (e : Ending) (w' : World) : Prop :=
  ∃ sb bm, e = .returned (.pointer (some ⟨sb, 0, none⟩)) ∧ w.heap.size ≤ sb ∧ w.heap.size ≤ bm ∧ IsSet w' sb bm base f ∧ Turn [] w w'

theorem filled_any (w : World) (base : Int) (hbase : 0 ≤ base ∧ base ≤ 4294967295) (a : Option Addr) (len cap : Nat) (zs : List Int) (hz : U32s w a len zs) :
    Calls Try.prog 28 #[.int .u32 base, .slice a len cap] w (RetSet base (fillF zs) w) := by
  have hn := new_any w base ⟨hbase.1, by omega⟩
  have HZ := Lib.hid hz
  have hlen : len ≤ 9223372036854775807 := hz.2.1
  have HZL := Lib.hid hz.1
  clear hz
  go_enter Try.func28, Try.ntmps28
  go_wp2_with fail
  refine hn.mono ?_
  rintro e w1 ⟨rfl, hs1, ht1⟩
  have HS1 := Lib.hid hs1
  have HT1 := Lib.hid ht1
  clear hs1 ht1 hn
  go_wp2
  go_loopw [6] (fun i wr => ∃ k : Nat, k ≤ len ∧ i = .int .i64 k ∧ IsSet wr (w.heap.size + 1) w.heap.size base (fillF (zs.take k)) ∧ Turn [] w wr) (fun i _ => len - (intOf i).toNat)
  case atStart => exact ⟨0, by omega, rfl, HS1.out, HT1.out⟩
  case round =>
    obtain ⟨k, hk, rfl, hset, hturn⟩ := hrel
    have HSET := Lib.hid hset
    have HTURN := Lib.hid hturn
    clear hset hturn
    by_cases hlt : k < len
    · have hkl : k < zs.length := by rw [HZL.out]; exact hlt
      obtain ⟨g, off, rfl, hg1, hg2⟩ := HZ.out.2.2.2 k zs[k] (by simp [hkl])
      have hzk := HZ.out.2.2.1 zs[k] (List.getElem_mem hkl)
      have hg3 : wr.cell? ⟨g, off + k, none⟩ = some (.int .u32 zs[k]) := (HTURN.out.cell (p := ⟨g, off + k, none⟩) hg1 (by simp)).trans hg2
      have hts : fillF (zs.take (k + 1)) = addF (fillF (zs.take k)) zs[k].toNat := by
        unfold fillF
        rw [List.take_succ_eq_append_getElem hkl, fills_snoc]
      have hd : dist base ((base + zs[k]) % 4294967296) = zs[k].toNat := dist_addI base _ ⟨hzk.1, by omega⟩
      have ha := add_any wr _ _ base ((base + zs[k]) % 4294967296) _ HSET.out (by omega)
      rw [hd, ← hts] at ha
      clear hg2 hts hd
      generalize zs[k] = z at *
      go_wp2_with fail
      refine ha.mono ?_
      rintro e w2 ⟨rfl, hs2, ht2⟩
      have HS2 := Lib.hid hs2
      have HT2 := Lib.hid ht2
      clear hs2 ht2 ha
      go_wp2
      go_roundw
      case rel => exact ⟨k + 1, by omega, by go_num, HS2.out, HTURN.out.over HT2.out (by intro j hj; simp at hj; omega)⟩
      case measure => simp [intOf]; omega
    · obtain rfl : k = len := by omega
      go_wp2
      go_ret
      have e : zs.take k = zs := List.take_of_length_le (Nat.le_of_eq HZL.out)
      exact ⟨_, _, rfl, by omega, Nat.le_refl _, by rw [← e]; exact HSET.out, HTURN.out⟩

theorem within_any (w : World) (x : Int) (hx : 0 ≤ x ∧ x ≤ 4294967295) (a : Option Addr) (len cap : Nat) (zs : List Int) (hz : U32s w a len zs) :
    Calls Try.prog 29 #[.slice a len cap, .int .u32 x] w fun e w' => e = .returned (.bool (among zs x.toNat)) ∧ w = w' := by
  have HZ := Lib.hid hz
  have hlen : len ≤ 9223372036854775807 := hz.2.1
  have HZL := Lib.hid hz.1
  clear hz
  have hno : ∀ k, k < len → (h : k < zs.length) → ¬ (zs[k] = x ∧ near x.toNat = true) → (near x.toNat = true → x ∉ zs.take k) → near x.toNat = true → x ∉ zs.take (k + 1) := by
    intro k _ hk h1 h2 h3
    rw [List.take_succ_eq_append_getElem hk, List.mem_append]
    rintro (h4 | h4)
    · exact h2 h3 h4
    · simp at h4; exact h1 ⟨h4.symm, h3⟩
  have HNO := Lib.hid hno
  clear hno
  go_enter Try.func29, Try.ntmps29
  go_wp2
  go_loop [5] (fun i => ∃ k : Nat, k ≤ len ∧ i = .int .i64 k ∧ Hid (near x.toNat = true → x ∉ zs.take k)) (fun i => len - (intOf i).toNat)
  case atStart => exact ⟨0, by omega, rfl, Lib.hid (by simp)⟩
  case round =>
    obtain ⟨k, hk, rfl, hnot⟩ := hrel
    by_cases hlt : k < len
    · have hkl : k < zs.length := by rw [HZL.out]; exact hlt
      obtain ⟨g, off, rfl, hg1, hg2⟩ := HZ.out.2.2.2 k zs[k] (by simp [hkl])
      have hzk := HZ.out.2.2.1 zs[k] (List.getElem_mem hkl)
      have HNK := Lib.hid (fun h => HNO.out k hlt hkl h hnot.out)
      have HMEM : Hid (zs[k] ∈ zs) := List.getElem_mem hkl
      generalize zs[k] = z at *
      by_cases e : z = x
      · have e1 : (z == x) = true := by simpa using e
        by_cases h1 : 1 ≤ x
        · have e2 : decide (1 ≤ x) = true := by simpa using h1
          by_cases h2 : x ≤ 4096
          · have e3 : decide (x ≤ 4096) = true := by simpa using h2
            have ham : among zs x.toNat = true := by
              unfold among
              rw [(near_iff _).2 (by omega), Bool.true_and, List.any_eq_true]
              exact ⟨z, HMEM.out, by simp [e]⟩
            have HAM := Lib.hid ham
            clear e ham
            go_wp2
            go_ret
            exact ⟨by rw [HAM.out]; rfl, rfl⟩
          · have e3 : decide (x ≤ 4096) = false := by simpa using h2
            have hn : Hid (¬ (z = x ∧ near x.toNat = true)) := by rintro ⟨_, hh⟩; have := (near_iff _).1 hh; omega
            clear e
            go_wp2
            go_round
            case rel => exact ⟨k + 1, by omega, by go_num, Lib.hid (HNK.out hn.out)⟩
            case measure => simp [intOf]; omega
        · have e2 : decide (1 ≤ x) = false := by simpa using h1
          have hn : Hid (¬ (z = x ∧ near x.toNat = true)) := by rintro ⟨_, hh⟩; have := (near_iff _).1 hh; omega
          clear e
          go_wp2
          go_round
          case rel => exact ⟨k + 1, by omega, by go_num, Lib.hid (HNK.out hn.out)⟩
          case measure => simp [intOf]; omega
      · have e1 : (z == x) = false := by simpa using e
        have hn : Hid (¬ (z = x ∧ near x.toNat = true)) := fun h => e h.1
        go_wp2
        go_round
        case rel => exact ⟨k + 1, by omega, by go_num, Lib.hid (HNK.out hn.out)⟩
        case measure => simp [intOf]; omega
    · obtain rfl : k = len := by omega
      have ham : among zs x.toNat = false := by
        cases e : among zs x.toNat
        · rfl
        · exfalso
          unfold among at e
          simp at e
          obtain ⟨h1, z, h2, h3⟩ := e
          have hz := HZ.out.2.2.1 z h2
          obtain rfl : z = x := by omega
          have := hnot.out h1
          rw [List.take_of_length_le (Nat.le_of_eq HZL.out)] at this
          exact this h2
      have HAM := Lib.hid ham
      clear ham
      go_wp2
      go_ret
      exact ⟨by rw [HAM.out]; rfl, rfl⟩
end Go.Proofs.Ytjdkbcecnlfhjaa
