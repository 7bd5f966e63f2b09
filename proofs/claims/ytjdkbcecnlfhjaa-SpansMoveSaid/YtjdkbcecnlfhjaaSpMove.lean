/-
  Package spans: Settle and Move.
-/
import Derived.Test.YtjdkbcecnlfhjaaSpOps
namespace Go.Proofs.Ytjdkbcecnlfhjaa
open Go.RowKit
set_option linter.unusedVariables false

theorem mod_add (base : Int) (n : Nat) : ((base + n) % 4294967296 + 1) % 4294967296 = (base + ((n + 1 : Nat) : Int)) % 4294967296 := by omega

theorem settle_any (w : World) (sb bm : Nat) (base : Int) (f : Nat → Bool) (h : IsSet w sb bm base f) (n : Nat) (hn : Run f n) :
    Calls Try.prog 16 #[.pointer (some ⟨sb, 0, none⟩)] w fun e w' => e = .returned (.int .i64 n) ∧ IsSet w' sb bm ((base + n) % 4294967296) (shf n f) ∧ Turn [sb, bm] w w' := by
  have hle := hn.le h.sup
  have h0 : IsSet w sb bm ((base + (0 : Nat)) % 4294967296) (shf 0 f) := by
    rw [shf_zero h.sup]
    have e : (base + (0 : Nat)) % 4294967296 = base := by have := h.lo; have := h.hi; omega
    rw [e]; exact h
  have HS := Lib.hid h0
  have HR := Lib.hid hn
  clear h h0 hn
  go_enter Try.func16, Try.ntmps16
  go_wp2
  go_loopw [3] (fun c wr => ∃ k : Nat, k ≤ n ∧ c = .int .i64 k ∧ IsSet wr sb bm ((base + k) % 4294967296) (shf k f) ∧ Turn [sb, bm] w wr) (fun c _ => n - (intOf c).toNat)
  case atStart => exact ⟨0, Nat.zero_le _, rfl, HS.out, Turn.refl _ _⟩
  case round =>
    obtain ⟨k, hk, rfl, hset, hturn⟩ := hrel
    generalize hbk : (base + (k : Int)) % 4294967296 = b at hset
    have HBK := Lib.hid hbk
    have HSET := Lib.hid hset
    have HTURN := Lib.hid hturn
    have hb := base_any _ _ _ _ _ hset
    have hin := hset.in
    have hh := has_any _ sb bm _ ((b + 1) % 4294967296) _ hset (by omega)
    have hd : dist b ((b + 1) % 4294967296) = 1 := by unfold dist; omega
    rw [hd, shf_at _ _ _ (Nat.le_refl _)] at hh
    have hst := step_any _ _ _ _ _ hset
    rw [shf_shf] at hst
    clear hset hturn hd hbk
    by_cases hlt : k < n
    · have e1 : f (1 + k) = true := HR.out.1 _ (by omega) (by omega)
      rw [e1] at hh
      clear e1
      go_wp2_with fail
      refine hb.mono ?_
      rintro e w' ⟨rfl, rfl⟩
      go_wp2_with fail
      refine hh.mono ?_
      rintro e w' ⟨rfl, rfl⟩
      go_wp2_with fail
      refine hst.mono ?_
      rintro e w2 ⟨rfl, hs2, ht2⟩
      have HS2 := Lib.hid hs2
      have HT2 := Lib.hid ht2
      clear hs2 ht2 hb hh hst
      go_wp2
      go_roundw
      case rel => exact ⟨k + 1, by omega, by go_num, by rw [← mod_add, HBK.out]; exact HS2.out, HTURN.out.trans HT2.out⟩
      case measure => simp [intOf]; omega
    · obtain rfl : k = n := by omega
      have e1 : f (1 + k) = false := by rw [Nat.add_comm]; exact HR.out.2
      rw [e1] at hh
      clear e1
      go_wp2_with fail
      refine hb.mono ?_
      rintro e w' ⟨rfl, rfl⟩
      go_wp2_with fail
      refine hh.mono ?_
      rintro e w' ⟨rfl, rfl⟩
      go_wp2
      go_ret
      exact ⟨rfl, by rw [HBK.out]; exact HSET.out, HTURN.out⟩

theorem settle_nil (w : World) :
    Calls Try.prog 16 #[.pointer none] w fun e w' => e = .returned (.int .i64 0) ∧ w = w' := by
  have hb := base_nil w
  have hh := has_nil w 1
  go_enter Try.func16, Try.ntmps16
  go_wp2
  refine wp_loop_rounds 1 ?_
  rw [rounds_succ]
  go_wp2_with fail
  refine hb.mono ?_
  rintro e w' ⟨rfl, rfl⟩
  go_wp2_with fail
  refine hh.mono ?_
  rintro e w' ⟨rfl, rfl⟩
  go_wp2
  go_ret
  exact ⟨rfl, rfl⟩

theorem move_no (w : World) (sb bm : Nat) (base x : Int) (f : Nat → Bool) (h : IsSet w sb bm base f) (hx : 0 ≤ x ∧ x ≤ 4294967295) (hn : near (dist base x) = false) :
    Calls Try.prog 18 #[.pointer (some ⟨sb, 0, none⟩), .int .u32 x] w fun e w' => e = .returned (.int .i64 0) ∧ w = w' := by
  have ha := accepts_any w sb bm base x f h hx
  rw [hn] at ha
  have HH := Lib.hid h
  clear h hn
  go_enter Try.func18, Try.ntmps18
  go_wp2_with fail
  refine ha.mono ?_
  rintro e w' ⟨rfl, rfl⟩
  go_wp2
  go_ret
  exact ⟨rfl, rfl⟩
theorem move_nil (w : World) (x : Int) :
    Calls Try.prog 18 #[.pointer none, .int .u32 x] w fun e w' => e = .returned (.int .i64 0) ∧ w = w' := by
  have ha := accepts_nil w x
  go_enter Try.func18, Try.ntmps18
  go_wp2_with fail
  refine ha.mono ?_
  rintro e w' ⟨rfl, rfl⟩
  go_wp2
  go_ret
  exact ⟨rfl, rfl⟩

theorem shf_add (f : Nat → Bool) (n m : Nat) : shf n (shf m f) = shf (m + n) f := by
  funext k
  unfold shf
  by_cases h : 1 ≤ k
  · rw [show k + n + m = k + (m + n) by omega]; simp [h]; omega
  · simp [h]

theorem move_yes (w : World) (sb bm : Nat) (base x : Int) (f : Nat → Bool) (h : IsSet w sb bm base f) (hx : 0 ≤ x ∧ x ≤ 4294967295) (d : Nat) (hd : dist base x = d) (hn : near d = true) (n : Nat) (hr : Run (shf d f) n) :
    Calls Try.prog 18 #[.pointer (some ⟨sb, 0, none⟩), .int .u32 x] w fun e w' => e = .returned (.int .i64 ((d + n : Nat) : Int)) ∧ IsSet w' sb bm ((base + ((d + n : Nat) : Int)) % 4294967296) (shf (d + n) f) ∧ Turn [sb, bm] w w' := by
  have ha := accepts_any w sb bm base x f h hx
  rw [hd, hn] at ha
  have hd2 := (near_iff _).1 hn
  have hn2 := hr.le (h.sup.shf d)
  have h0 : IsSet w sb bm ((base + (0 : Nat)) % 4294967296) (shf 0 f) := by
    rw [shf_zero h.sup]
    have e : (base + (0 : Nat)) % 4294967296 = base := by have := h.lo; have := h.hi; omega
    rw [e]; exact h
  have hx2 : x = (base + d) % 4294967296 := by unfold dist at hd; have := h.lo; have := h.hi; omega
  have hlo := h.in
  subst hx2
  have HS := Lib.hid h0
  have HR := Lib.hid hr
  clear h h0 hn hr hd hx
  go_enter Try.func18, Try.ntmps18
  go_wp2_with fail
  refine ha.mono ?_
  rintro e w' ⟨rfl, rfl⟩
  clear ha
  go_wp2
  go_loopw [5] (fun c wr => ∃ k : Nat, k ≤ d ∧ c = .int .i64 k ∧ IsSet wr sb bm ((base + k) % 4294967296) (shf k f) ∧ Turn [sb, bm] w wr) (fun c _ => d - (intOf c).toNat)
  case atStart => exact ⟨0, Nat.zero_le _, rfl, HS.out, Turn.refl _ _⟩
  case round =>
    obtain ⟨k, hk, rfl, hset, hturn⟩ := hrel
    have hne : k < d → (((base + (k : Int)) % 4294967296) != ((base + (d : Int)) % 4294967296)) = true := by
      intro _; simp; omega
    generalize hbk : (base + (k : Int)) % 4294967296 = b at hset hne
    have HBK := Lib.hid hbk
    have HSET := Lib.hid hset
    have HTURN := Lib.hid hturn
    have c0 := hset.c0
    have hin := hset.in
    by_cases hlt : k < d
    · have hst := step_any _ _ _ _ _ hset
      rw [shf_shf] at hst
      replace hne := hne hlt
      clear hset hturn hbk
      go_wp2_with fail
      refine hst.mono ?_
      rintro e w2 ⟨rfl, hs2, ht2⟩
      have HS2 := Lib.hid hs2
      have HT2 := Lib.hid ht2
      clear hs2 ht2 hst
      go_wp2
      go_roundw
      case rel => exact ⟨k + 1, by omega, by go_num, by rw [← mod_add, HBK.out]; exact HS2.out, HTURN.out.trans HT2.out⟩
      case measure => simp [intOf]; omega
    · obtain rfl : k = d := by omega
      have hse := settle_any _ _ _ _ _ hset n HR.out
      rw [shf_add] at hse
      have hee : (b != ((base + (k : Int)) % 4294967296)) = false := by rw [← hbk]; simp
      clear hset hturn hne hbk
      go_wp2_with fail
      refine hse.mono ?_
      rintro e w2 ⟨rfl, hs2, ht2⟩
      have HS2 := Lib.hid hs2
      have HT2 := Lib.hid ht2
      clear hs2 ht2 hse
      go_wp2
      go_ret
      have e1 : (b + (n : Int)) % 4294967296 = (base + ((k + n : Nat) : Int)) % 4294967296 := by have := HBK.out; omega
      exact ⟨by first | rfl | simp, by rw [← e1]; exact HS2.out, HTURN.out.trans HT2.out⟩
end Go.Proofs.Ytjdkbcecnlfhjaa
