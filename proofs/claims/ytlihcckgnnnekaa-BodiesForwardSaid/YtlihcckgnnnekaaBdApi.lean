/-
  Stage 9: what the Get functions answer, the program's and the reference's, in one form.
-/
import Derived.Test.YtlihcckgnnnekaaBdGets
import Derived.Test.YtlihcckgnnnekaaBdGetD
import Derived.Test.YtlihcckgnnnekaaBdGetI
import Derived.Test.YtlihcckgnnnekaaBdGetF
import Derived.Test.YtlihcckgnnnekaaBdGetS
import Derived.Test.YtlihcckgnnnekaaBdSames
namespace Go.Proofs.Ytlihcckgnnnekaa
open Go.RowKit
set_option linter.unusedVariables false

theorem eqC_symm (k f : Int) (zs : List Int) (k' f' : Int) (ys : List Int) : eqC k f zs k' f' ys = eqC k' f' ys k f zs := by
  unfold eqC
  congr 1
  simp only [eq_iff_iff]
  constructor
  · rintro ⟨rfl, rfl, rfl⟩; exact ⟨rfl, rfl, rfl⟩
  · rintro ⟨rfl, rfl, rfl⟩; exact ⟨rfl, rfl, rfl⟩
theorem eqC_true {k f k' f' : Int} {zs ys : List Int} (h : eqC k f zs k' f' ys = true) : k = k' ∧ f = f' ∧ zs = ys := by unfold eqC at h; exact of_decide_eq_true h
theorem eqC_mk {k f k' f' : Int} {zs ys : List Int} (h : k = k' ∧ f = f' ∧ zs = ys) : eqC k f zs k' f' ys = true := by unfold eqC; exact decide_eq_true h
theorem eqC_len {k f k' f' : Int} {zs ys : List Int} (h : zs.length ≠ ys.length) : eqC k f zs k' f' ys = false := by
  unfold eqC
  exact decide_eq_false (fun ⟨_, _, e⟩ => h (by rw [e]))
theorem eqC_kind {k f k' f' : Int} {zs ys : List Int} (h : k ≠ k') : eqC k f zs k' f' ys = false := by
  unfold eqC
  exact decide_eq_false (fun ⟨e, _, _⟩ => h e)

-- Cum
def okCum (k f : Int) (zs : List Int) : Bool := eqC k f zs 7 0 (enc (natAt zs 0 4) 4)
theorem pgetCum (k f : Int) (p : Option Addr) (n c : Nat) (zs : List Int) (w : World) (hr : Reads w p n zs) (hz : Byt zs) (hc : n ≤ c) (hn : n ≤ 200000) :
    Calls Try.prog 41 #[.agg #[.int .u8 k, .int .u8 f, .slice p n c]] w fun e w' => Chose (okCum k f zs) (.int .u32 (natAt zs 0 4)) (.int .u32 0) e ∧ Below w.heap.size w w' := pgetCum' k f p n c zs w hr hz hc (by omega) _ rfl
theorem rgetCum (k f : Int) (p : Option Addr) (n c : Nat) (zs : List Int) (w : World) (hr : Reads w p n zs) (hz : Byt zs) (hc : n ≤ c) (hn : n ≤ 200000) :
    Calls Try.prog 42 #[.agg #[.int .u8 k, .int .u8 f, .slice p n c]] w fun e w' => Chose (okCum k f zs) (.int .u32 (natAt zs 0 4)) (.int .u32 0) e ∧ Below w.heap.size w w' := by
  have h := rgetCum' k f p n c zs w hr hz hc (by omega) _ rfl
  rw [eqC_symm] at h
  exact h
-- Time
def timeV (zs : List Int) : Int := wrap64 (natAt zs 4 8)
def timeB (x : Int) : List Int := enc 1 2 ++ enc 12 2 ++ enc x 8
def okTime (k f : Int) (zs : List Int) : Bool := (decide (k = 4) || decide (k = 5)) && eqC k f zs k 0 (timeB (timeV zs))
theorem pgetTime (k f : Int) (p : Option Addr) (n c : Nat) (zs : List Int) (w : World) (hr : Reads w p n zs) (hz : Byt zs) (hc : n ≤ c) (hn : n ≤ 200000) :
    Calls Try.prog 39 #[.agg #[.int .u8 k, .int .u8 f, .slice p n c]] w fun e w' => Chose (okTime k f zs) (.int .i64 (timeV zs)) (.int .i64 0) e ∧ Below w.heap.size w w' := by
  by_cases h4 : k = 4
  · subst h4; have h := pgetTime4 f p n c zs w hr hz hc (by omega) _ rfl; exact h
  by_cases h5 : k = 5
  · subst h5; have h := pgetTime5 f p n c zs w hr hz hc (by omega) _ rfl; exact h
  have h := pgetTimeN k f p n c zs w hr hz hc (by omega) h4 h5 _ rfl
  have e : okTime k f zs = false := by simp [okTime, h4, h5]
  rw [e]; exact h
theorem rgetTime (k f : Int) (p : Option Addr) (n c : Nat) (zs : List Int) (w : World) (hr : Reads w p n zs) (hz : Byt zs) (hc : n ≤ c) (hn : n ≤ 200000) :
    Calls Try.prog 40 #[.agg #[.int .u8 k, .int .u8 f, .slice p n c]] w fun e w' => Chose (okTime k f zs) (.int .i64 (timeV zs)) (.int .i64 0) e ∧ Below w.heap.size w w' := by
  by_cases h4 : k = 4
  · subst h4; have h := rgetTime4 f p n c zs w hr hz hc (by omega) _ rfl; rw [eqC_symm] at h; exact h
  by_cases h5 : k = 5
  · subst h5; have h := rgetTime5 f p n c zs w hr hz hc (by omega) _ rfl; rw [eqC_symm] at h; exact h
  have h := rgetTimeN k f p n c zs w hr hz hc (by omega) h4 h5 _ rfl
  have e : okTime k f zs = false := by simp [okTime, h4, h5]
  rw [e]; exact h
-- Data
def bitB (f v : Int) : Bool := bits .and .u8 f v != 0
def dataV (f : Int) (zs : List Int) (a : Option Addr) (c : Nat) : Value := .agg #[.int .u32 (natAt zs 0 4), .int .u16 (natAt zs 4 2), .int .u16 (natAt zs 6 2), .bool (bitB f 4), .bool (bitB f 2), .bool (bitB f 1), .slice a (zs.length - 12) c]
def dataZ : Value := .agg #[.int .u32 0, .int .u16 0, .int .u16 0, .bool false, .bool false, .bool false, .slice none 0 0]
def okData (k f : Int) (zs : List Int) : Bool := decide (12 < zs.length) && eqC k f zs 0 (dflags (bitB f 4) (bitB f 2) (bitB f 1)) (dataB (natAt zs 0 4) (natAt zs 4 2) (natAt zs 6 2) (zs.drop 12))
def GotD (w : World) (k f : Int) (zs : List Int) (e : Ending) (w' : World) : Prop := ∃ a1 c1, Chose (okData k f zs) (dataV f zs a1 c1) dataZ e ∧ Below w.heap.size w w' ∧ Row8 w.heap.size w' a1 (zs.length - 12) c1 (zs.drop 12)
theorem pgetData (k f : Int) (p : Option Addr) (n c : Nat) (zs : List Int) (w : World) (hr : Reads w p n zs) (hz : Byt zs) (hc : n ≤ c) (hn : n ≤ 200000) :
    Calls Try.prog 16 #[.agg #[.int .u8 k, .int .u8 f, .slice p n c]] w (GotD w k f zs) := by
  have hl := hr.1
  by_cases h : 0 < n - 12
  · refine (pgetData_pos k f p n c zs w hr hz hc (by omega) _ rfl _ rfl _ rfl _ rfl _ rfl _ rfl h).mono ?_
    rintro e w' ⟨a1, c1, h1, h2, h3⟩
    rw [← hl] at h1 h3
    have e2 : okData k f zs = eqC k f zs 0 (dflags (bitB f 4) (bitB f 2) (bitB f 1)) (dataB (natAt zs 0 4) (natAt zs 4 2) (natAt zs 6 2) (zs.drop 12)) := by unfold okData; rw [decide_eq_true (by omega), Bool.true_and]
    exact ⟨a1, c1, by rw [e2]; exact h1, h2, h3⟩
  · refine (pgetData_nil k f p n c zs w hr hz hc (by omega) _ rfl _ rfl _ rfl _ rfl _ rfl _ rfl (by omega)).mono ?_
    rintro e w' ⟨a1, c1, h1, h2, h3⟩
    rw [← hl] at h1 h3
    have e2 : okData k f zs = false := by unfold okData; rw [decide_eq_false (by omega), Bool.false_and]
    exact ⟨a1, c1, by rw [e2]; exact h1, h2, h3⟩
theorem rgetData (k f : Int) (p : Option Addr) (n c : Nat) (zs : List Int) (w : World) (hr : Reads w p n zs) (hz : Byt zs) (hc : n ≤ c) (hn : n ≤ 200000) :
    Calls Try.prog 17 #[.agg #[.int .u8 k, .int .u8 f, .slice p n c]] w (GotD w k f zs) := by
  have hl := hr.1
  by_cases h : 13 ≤ n
  · refine (rgetData_more k f p n c zs w hr hz hc (by omega) _ rfl _ rfl _ rfl _ rfl _ rfl _ rfl h).mono ?_
    rintro e w' ⟨a1, c1, h1, h2, h3⟩
    rw [← hl] at h1 h3
    have e2 : okData k f zs = eqC 0 (dflags (bitB f 4) (bitB f 2) (bitB f 1)) (dataB (natAt zs 0 4) (natAt zs 4 2) (natAt zs 6 2) (zs.drop 12)) k f zs := by unfold okData; rw [decide_eq_true (by omega), Bool.true_and, eqC_symm]
    exact ⟨a1, c1, by rw [e2]; exact h1, h2, h3⟩
  · refine (rgetData_few k f p n c zs w hr hz hc (by omega) _ rfl _ rfl _ rfl _ rfl _ rfl _ rfl (by omega)).mono ?_
    rintro e w' ⟨a1, c1, h1, h2⟩
    have e2 : okData k f zs = false := by unfold okData; rw [decide_eq_false (by omega), Bool.false_and]
    have e0 : zs.drop 12 = [] := List.drop_eq_nil_of_le (by omega)
    have e1 : zs.length - 12 = 0 := by omega
    refine ⟨none, 0, ?_, h2, by rw [e0, e1]; exact Row8.nil _ _⟩
    rw [e2]
    rcases h1 with ⟨h1, _⟩ | ⟨_, h1⟩
    · cases h1
    · exact .inr ⟨rfl, h1⟩
-- Init
def ckK (k : Int) (zs : List Int) : List Int := if k = 2 then ckOf zs (natAt zs 18 2) else []
def initV (zs : List Int) (a : Option Addr) (l c : Nat) : Value := .agg #[.int .u32 (natAt zs 0 4), .int .u32 (natAt zs 4 4), .int .u16 (natAt zs 8 2), .int .u16 (natAt zs 10 2), .int .u32 (natAt zs 12 4), .slice a l c]
def initZ : Value := .agg #[.int .u32 0, .int .u32 0, .int .u16 0, .int .u16 0, .int .u32 0, .slice none 0 0]
def initBk (k : Int) (zs ck : List Int) : List Int := initB k (natAt zs 0 4) (natAt zs 4 4) (natAt zs 8 2) (natAt zs 10 2) (natAt zs 12 4) ck
def okInit (k f : Int) (zs : List Int) : Bool := initOk k (natAt zs 0 4) (natAt zs 8 2) (natAt zs 10 2) (ckK k zs).length && eqC k f zs k 0 (initBk k zs (ckK k zs))
def GotI (w : World) (k f : Int) (zs : List Int) (e : Ending) (w' : World) : Prop := ∃ a1 c1, Chose (okInit k f zs) (initV zs a1 (ckK k zs).length c1) initZ e ∧ Below w.heap.size w w' ∧ Row8 w.heap.size w' a1 (ckK k zs).length c1 (ckK k zs)
theorem pgetInit (k f : Int) (p : Option Addr) (n c : Nat) (zs : List Int) (w : World) (hr : Reads w p n zs) (hz : Byt zs) (hc : n ≤ c) (hn : n ≤ 200000) :
    Calls Try.prog 24 #[.agg #[.int .u8 k, .int .u8 f, .slice p n c]] w (GotI w k f zs) := by
  by_cases hk : k = 2
  · subst hk; exact pgetInit_ack f p n c zs w hr hz hc (by omega) _ rfl _ rfl _ rfl _ rfl _ rfl _ rfl
  · have h := pgetInit_no k f p n c zs w hr hz hc (by omega) hk _ rfl _ rfl _ rfl _ rfl _ rfl
    have e : ckK k zs = [] := by unfold ckK; rw [if_neg hk]
    unfold GotI okInit
    rw [e]
    exact h
theorem rgetInit (k f : Int) (p : Option Addr) (n c : Nat) (zs : List Int) (w : World) (hr : Reads w p n zs) (hz : Byt zs) (hc : n ≤ c) (hn : n ≤ 200000) :
    Calls Try.prog 25 #[.agg #[.int .u8 k, .int .u8 f, .slice p n c]] w (GotI w k f zs) := by
  have hl := hr.1
  have few : n < 16 → (k = 1 ∨ k = 2) → okInit k f zs = false := by
    intro h1 h2
    unfold okInit
    rw [eqC_len, Bool.and_false]
    rw [hl]
    unfold initBk initB
    have := up4_ge (20 + (ckK k zs).length)
    split
    · rw [initA_len]; omega
    · rw [initH_len]; omega
  have none : okInit k f zs = false → ∀ {e : Ending} {w' : World}, e = .returned (.tuple #[initZ, .int .i64 7]) ∧ Below w.heap.size w w' → (ckK k zs = [] ∨ n < 16) → GotI w k f zs e w' := by
    intro h0 e w' h1 h2
    have e0 : ckK k zs = [] := by
      rcases h2 with h2 | h2
      · exact h2
      · unfold ckK ckOf; split
        · rw [if_neg (by omega)]
        · rfl
    refine ⟨Option.none, 0, ?_, h1.2, by rw [e0]; exact Row8.nil _ _⟩
    rw [h0]
    exact .inr ⟨rfl, h1.1⟩
  by_cases h2 : k = 2
  · subst h2
    by_cases hm : 16 ≤ n
    · have h := rgetInit_ack f p n c zs w hr hz hc (by omega) _ rfl _ rfl _ rfl _ rfl _ rfl _ rfl hm
      rw [eqC_symm] at h
      exact h
    · exact (rgetInit_few2 f p n c zs w hr hz hc (by omega) (by omega)).mono fun e w' h => none (few (by omega) (.inr rfl)) h (.inr (by omega))
  · have e : ckK k zs = [] := by unfold ckK; rw [if_neg h2]
    by_cases h1 : k = 1
    · subst h1
      by_cases hm : 16 ≤ n
      · have h := rgetInit_ini f p n c zs w hr hz hc (by omega) _ rfl _ rfl _ rfl _ rfl _ rfl hm
        rw [eqC_symm] at h
        unfold GotI okInit
        rw [e]
        exact h
      · exact (rgetInit_few1 f p n c zs w hr hz hc (by omega) (by omega)).mono fun e' w' h => none (few (by omega) (.inl rfl)) h (.inl e)
    · exact (rgetInit_oth k f p n c zs w hr hz hc (by omega) h1 h2).mono fun e' w' h => none (by simp [okInit, initOk, h1, h2]) h (.inl e)
-- Forward
def okFwd (k f : Int) (zs : List Int) : Bool := eqC k f zs 192 0 (fwdB (natAt zs 0 4) (pairsAt zs 4 ((zs.length - 4 + 3) / 4)))
theorem pgetForward (k f : Int) (p : Option Addr) (n c : Nat) (zs : List Int) (w : World) (hr : Reads w p n zs) (hz : Byt zs) (hc : n ≤ c) (hn : n ≤ 200000) :
    Calls Try.prog 35 #[.agg #[.int .u8 k, .int .u8 f, .slice p n c]] w (GotF w (okFwd k f zs) (natAt zs 0 4) (pairsAt zs 4 ((zs.length - 4 + 3) / 4))) := by
  obtain rfl : zs.length = n := hr.1
  exact pgetForward' k f p zs.length c zs w hr hz hc (by omega) _ rfl
/-- A value of another length where there is none at all. -/
theorem GotF.no {w : World} {b : Bool} {x0 : Int} {ps : List (Int × Int)} {e : Ending} {w' : World} (h : GotF w b x0 ps e w') (hb : b = false) : e = .returned (.tuple #[.agg #[.int .u32 0, .slice none 0 0], .int .i64 7]) ∧ Below w.heap.size w w' := by
  obtain ⟨a1, c1, h1, h2, _⟩ := h
  subst hb
  rcases h1 with ⟨h1, _⟩ | ⟨_, h1⟩
  · cases h1
  · exact ⟨h1, h2⟩
/-- The same answers: the same value, or none. -/
def AnsF (w : World) (b : Bool) (x0 : Int) (ps : List (Int × Int)) (e : Ending) (w' : World) : Prop := (b = true → GotF w true x0 ps e w') ∧ (b = false → e = .returned (.tuple #[.agg #[.int .u32 0, .slice none 0 0], .int .i64 7]) ∧ Below w.heap.size w w')
theorem GotF.ans {w : World} {b : Bool} {x0 : Int} {ps : List (Int × Int)} {e : Ending} {w' : World} (h : GotF w b x0 ps e w') : AnsF w b x0 ps e w' := ⟨fun hb => hb ▸ h, fun hb => h.no hb⟩
theorem rgetForward (k f : Int) (p : Option Addr) (n c : Nat) (zs : List Int) (w : World) (hr : Reads w p n zs) (hz : Byt zs) (hc : n ≤ c) (hn : n ≤ 200000) :
    Calls Try.prog 36 #[.agg #[.int .u8 k, .int .u8 f, .slice p n c]] w (AnsF w (okFwd k f zs) (natAt zs 0 4) (pairsAt zs 4 ((zs.length - 4 + 3) / 4))) := by
  have hl := hr.1
  have odd : ¬ (4 ≤ n ∧ n % 4 = 0) → okFwd k f zs = false := by
    intro h
    exact eqC_len (by rw [fwdB_len, pairsAt_len, hl]; omega)
  by_cases hm : 4 ≤ n
  · refine (rgetForward_more k f p n c zs w hr hz hc (by omega) _ rfl hm).mono ?_
    intro e w' h
    rw [eqC_symm] at h
    by_cases h4 : n % 4 = 0
    · have e4 : (n - 4) / 4 = (zs.length - 4 + 3) / 4 := by rw [hl]; omega
      rw [e4] at h
      exact h.ans
    · refine ⟨fun hb => ?_, fun _ => h.no (eqC_len (by rw [fwdB_len, pairsAt_len, hl]; omega))⟩
      rw [odd (by omega)] at hb; cases hb
  · refine (rgetForward_few k f p n c zs w hr hz hc (by omega) (by omega)).mono ?_
    intro e w' h
    refine ⟨fun hb => ?_, fun _ => h⟩
    rw [odd (by omega)] at hb; cases hb
-- Sack: the program's
def sackE (zs : List Int) : Nat := 12 + 4 * (natAt zs 8 2).toNat
def sackG (zs : List Int) : List (Int × Int) := pairsAt zs 12 ((min (sackE zs) zs.length - 12 + 3) / 4)
def sackD (zs : List Int) : List Int := numsAt zs (sackE zs) ((zs.length - sackE zs + 3) / 4)
def okSack (k f : Int) (zs : List Int) : Bool := apartF 0 (sackG zs) && eqC k f zs 3 0 (sackB (natAt zs 0 4) (natAt zs 4 4) (sackG zs) (sackD zs))
theorem pgetSack (k f : Int) (p : Option Addr) (n c : Nat) (zs : List Int) (w : World) (hr : Reads w p n zs) (hz : Byt zs) (hc : n ≤ c) (hn : n ≤ 200000) :
    Calls Try.prog 30 #[.agg #[.int .u8 k, .int .u8 f, .slice p n c]] w (GotS w (okSack k f zs) (natAt zs 0 4) (natAt zs 4 4) (sackG zs) (sackD zs)) := by
  have h2 := natAt2 hz 8
  obtain rfl : zs.length = n := hr.1
  exact pgetSack' k f p zs.length c zs w hr hz hc hn _ rfl _ rfl (natAt zs 8 2).toNat (sackE zs) (by omega) rfl
end Go.Proofs.Ytlihcckgnnnekaa
