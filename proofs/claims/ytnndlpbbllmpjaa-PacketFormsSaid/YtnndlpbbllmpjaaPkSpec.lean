/-
  Stage 10: what reading a packet has to answer. Plain facts.
-/
import Derived.Test.YtnndlpbbllmpjaaPkRef3
import Derived.Test.YtnndlpbbllmpjaaPkRows
namespace Go.Proofs.Ytnndlpbbllmpjaa
open Go.RowKit
set_option linter.unusedVariables false

def tagB (b : List Int) : Int := num ((b.drop 4).take 4)
def sumB (b : List Int) : Int := num ((b.drop 8).take 4)
/-- The bytes with noughts from 8 to j. -/
def zeroTo (b : List Int) (j : Nat) : List Int := b.take 8 ++ List.replicate (j - 8) 0 ++ b.drop j
def zero4 (b : List Int) : List Int := zeroTo b 12
theorem zeroTo_8 (b : List Int) : zeroTo b 8 = b := by simp [zeroTo]
theorem zeroTo_len {b : List Int} {j : Nat} (h : 8 ≤ j) (hj : j ≤ b.length) : (zeroTo b j).length = b.length := by simp [zeroTo]; omega
theorem zeroTo_set {b : List Int} {j : Nat} (h8 : 8 ≤ j) (hj : j < b.length) : (zeroTo b j).set j 0 = zeroTo b (j + 1) := by
  unfold zeroTo
  rw [List.drop_eq_getElem_cons hj, set_mid _ _ _ _ _ (by simp; omega), show j + 1 - 8 = (j - 8) + 1 by omega, List.replicate_succ']
  simp
theorem zeroTo_byt {b : List Int} (h : Byt b) (j : Nat) : Byt (zeroTo b j) := ((h.take 8).append (Byt.rep (by omega) (by omega) _)).append (h.drop j)
theorem tagB_in {b : List Int} (h : Byt b) (hl : 12 ≤ b.length) : 0 ≤ tagB b ∧ tagB b < 4294967296 := by
  have h1 := num_lo _ ((h.drop 4).take 4)
  have h2 := num_hi _ ((h.drop 4).take 4)
  have h3 : ((b.drop 4).take 4).length = 4 := by simp; omega
  rw [h3] at h2
  exact ⟨h1, h2⟩
theorem sumB_in {b : List Int} (h : Byt b) (hl : 12 ≤ b.length) : 0 ≤ sumB b ∧ sumB b < 4294967296 := by
  have h1 := num_lo _ ((h.drop 8).take 4)
  have h2 := num_hi _ ((h.drop 8).take 4)
  have h3 : ((b.drop 8).take 4).length = 4 := by simp; omega
  rw [h3] at h2
  exact ⟨h1, h2⟩
/-- The sum is right. -/
def sumOk (b : List Int) : Bool := decide (((ext 0 (zero4 b) : Nat) : Int) = sumB b)
/-- These are the chunks of these bytes. -/
def IsP (b : List Int) (M : List PC) : Prop := mayB M = true ∧ b = laidP (tagB b) (sumB b) M
def rdNo (er : Int) : Value := .tuple #[.agg #[.int .u32 0, .slice none 0 0], .int .i64 er]
/-- What reading these bytes answers. -/
def RdP (b : List Int) (w w' : World) (e : Ending) : Prop :=
  (b.length < 12 ∧ e = .returned (rdNo 7)) ∨
  (12 ≤ b.length ∧ sumOk b = false ∧ e = .returned (rdNo 8)) ∨
  (12 ≤ b.length ∧ sumOk b = true ∧ (∀ M, ¬ IsP b M) ∧ e = .returned (rdNo 7)) ∨
  (12 ≤ b.length ∧ sumOk b = true ∧ ∃ L a n c, IsP b (pcs L) ∧ e = .returned (.tuple #[.agg #[.int .u32 (tagB b), .slice a n c], .int .i64 0]) ∧ RowsCk w' a n c L ∧ n ≤ 1048576)
theorem laidP_drop (tag sum : Int) (L : List PC) : (laidP tag sum L).drop 12 = bodyP L := by
  unfold laidP
  exact List.drop_left' (headP_len _ _)
theorem IsP.body {b : List Int} {M : List PC} (h : IsP b M) : b.drop 12 = bodyP M := by
  rw [h.2, laidP_drop]
theorem IsP.le {b : List Int} {M : List PC} (h : IsP b M) : ∀ c ∈ M, c.zs.length ≤ 65531 := fun c hc => mayB_len h.1 hc
/-- Chunks that a row of bytes begins with are its first ones. -/
theorem bodyP_prefix {L : List PC} : ∀ {M : List PC} {r : List Int}, (∀ c ∈ L, c.zs.length ≤ 65531) → (∀ c ∈ M, c.zs.length ≤ 65531) → bodyP L ++ r = bodyP M → ∃ M', M = L ++ M' ∧ r = bodyP M' := by
  induction L with
  | nil => intro M r _ _ h; exact ⟨M, rfl, by simpa [bodyP_nil] using h⟩
  | cons c L ih =>
    intro M r hL hM h
    cases M with
    | nil =>
      exfalso
      have := congrArg List.length h
      rw [bodyP_nil, bodyP_cons, List.length_append, List.length_append, encOf_size (hL c (by simp))] at this
      simp [sizeC] at this
    | cons d M =>
      have hc := hL c (by simp)
      have hd := hM d (by simp)
      rw [bodyP_cons, bodyP_cons, encOf_yes hc, encOf_yes hd, List.append_assoc] at h
      obtain ⟨e1, e2, e3⟩ := encC_pre (r := encC c.k c.f c.zs ++ (bodyP L ++ r)) ⟨_, rfl⟩ ⟨bodyP M, h.symm⟩ hc hd
      obtain rfl : c = d := by cases c; cases d; simp_all
      have h2 := List.append_cancel_left h
      obtain ⟨M', e, e'⟩ := ih (fun x hx => hL x (by simp [hx])) (fun x hx => hM x (by simp [hx])) h2
      exact ⟨M', by rw [e]; rfl, e'⟩
/-- Behind so many chunks there is none: then these bytes are no packet. -/
theorem isP_stop {b : List Int} {L : List PC} {at' : Nat} (hL : ∀ c ∈ L, c.zs.length ≤ 65531) (ha : at' = 12 + (bodyP L).length) (hlt : at' < b.length) (hb : (b.drop 12).take (at' - 12) = bodyP L)
    (hno : ∀ (k f : Int) (body : List Int), body.length ≤ 65531 → ¬ encC k f body <+: b.drop at') : ∀ M, ¬ IsP b M := by
  intro M hM
  have h1 := hM.body
  have h2 : bodyP L ++ b.drop at' = bodyP M := by
    rw [← h1, ← hb]
    conv => rhs; rw [← List.take_append_drop (at' - 12) (b.drop 12), List.drop_drop, show 12 + (at' - 12) = at' by omega]
  obtain ⟨M', e, e'⟩ := bodyP_prefix hL hM.le h2
  cases M' with
  | nil =>
    have := congrArg List.length e'
    rw [bodyP_nil, List.length_drop] at this
    simp at this
    omega
  | cons c M' =>
    have hc : c.zs.length ≤ 65531 := hM.le c (by rw [e]; simp)
    rw [bodyP_cons, encOf_yes hc] at e'
    exact hno c.k c.f c.zs hc ⟨_, e'.symm⟩
/-- All bytes are chunks' : then these bytes are this packet or none. -/
theorem isP_all {b : List Int} {L : List PC} (hL : ∀ c ∈ L, c.zs.length ≤ 65531) (hb : b.drop 12 = bodyP L) (hno : ¬ IsP b L) : ∀ M, ¬ IsP b M := by
  intro M hM
  have : L = M := bodyP_inj hL hM.le (by rw [← hb, hM.body])
  subst this
  exact hno hM
end Go.Proofs.Ytnndlpbbllmpjaa
