/-
  Stage 10: packets as bytes. Plain facts.
-/
import Derived.Test.YtnndlpbbllmpjaaMgB
import Derived.Test.YtnndlpbbllmpjaaMgA
namespace Go.Proofs.Ytnndlpbbllmpjaa
open Go.RowKit
set_option linter.unusedVariables false

/-- A chunk as it is told: its kind, its flags, its body. -/
structure PC where
  k : Int
  f : Int
  zs : List Int
/-- A kind that stands alone. -/
def aloneK (k : Int) : Bool := decide (k = 1) || (decide (k = 2) || decide (k = 14))
/-- May this chunk stand in a packet of n? -/
def may1 (n : Nat) (c : PC) : Bool := decide (c.zs.length ≤ 65531) && !(aloneK c.k && decide (1 < n))
/-- May these chunks stand in one packet? -/
def mayB (L : List PC) : Bool := L.all (may1 L.length) && decide (0 < L.length)
def sizeC (c : PC) : Nat := 4 + up4 c.zs.length
def sizeP (L : List PC) : Nat := 12 + (L.map sizeC).sum
def bodyP (L : List PC) : List Int := (L.map fun c => encOf c.k c.f c.zs).flatten
def headP (tag sum : Int) : List Int := enc 5000 2 ++ enc 5000 2 ++ enc tag 4 ++ enc sum 4
/-- A packet's bytes with this sum. -/
def laidP (tag sum : Int) (L : List PC) : List Int := headP tag sum ++ bodyP L
def sumP (tag : Int) (L : List PC) : Nat := ext 0 (laidP tag 0 L)
/-- What is written of a packet. -/
def writeP (tag : Int) (L : List PC) : List Int := if mayB L = true then laidP tag (sumP tag L : Nat) L else []

theorem up4_add4 (n : Nat) : up4 (4 + n) = 4 + up4 n := by unfold up4; omega
theorem headP_len (tag sum : Int) : (headP tag sum).length = 12 := by simp [headP]
theorem headP_byt (tag sum : Int) : Byt (headP tag sum) := ((((enc_byt _ _).append (enc_byt _ _)).append (enc_byt _ _)).append (enc_byt _ _))
theorem bodyP_nil : bodyP [] = [] := rfl
theorem bodyP_cons (c : PC) (L : List PC) : bodyP (c :: L) = encOf c.k c.f c.zs ++ bodyP L := by simp [bodyP]
theorem bodyP_app (L M : List PC) : bodyP (L ++ M) = bodyP L ++ bodyP M := by simp [bodyP]
theorem sizeP_nil : sizeP [] = 12 := rfl
theorem sizeP_app (L M : List PC) : sizeP (L ++ M) = sizeP L + (sizeP M - 12) := by simp [sizeP]; omega
theorem sizeP_ge (L : List PC) : 12 ≤ sizeP L := by simp [sizeP]
theorem sizeP_one (c : PC) : sizeP [c] = 12 + sizeC c := by simp [sizeP]
theorem take_next {α : Type} {L : List α} {i : Nat} {c : α} (h : L[i]? = some c) : L.take (i + 1) = L.take i ++ [c] := by
  rw [List.take_add_one, h]; rfl
theorem sizeP_next {L : List PC} {i : Nat} {c : PC} (h : L[i]? = some c) : sizeP (L.take (i + 1)) = sizeP (L.take i) + sizeC c := by
  rw [take_next h, sizeP_app, sizeP_one]; omega
theorem sizeP_take (L : List PC) (i : Nat) : sizeP (L.take i) ≤ sizeP L := by
  conv => rhs; rw [← List.take_append_drop i L, sizeP_app]
  omega
theorem bodyP_next {L : List PC} {i : Nat} {c : PC} (h : L[i]? = some c) : bodyP (L.take (i + 1)) = bodyP (L.take i) ++ encOf c.k c.f c.zs := by
  rw [take_next h, bodyP_app, bodyP_cons, bodyP_nil, List.append_nil]
theorem encOf_size {c : PC} (h : c.zs.length ≤ 65531) : (encOf c.k c.f c.zs).length = sizeC c := by
  rw [encOf_yes h, encC_len]; exact up4_add4 _
theorem may1_len {n : Nat} {c : PC} (h : may1 n c = true) : c.zs.length ≤ 65531 := by
  unfold may1 at h
  rw [Bool.and_eq_true] at h
  exact of_decide_eq_true h.1
theorem mayB_len {L : List PC} (h : mayB L = true) {c : PC} (hc : c ∈ L) : c.zs.length ≤ 65531 := by
  unfold mayB at h
  rw [Bool.and_eq_true, List.all_eq_true] at h
  exact may1_len (h.1 c hc)
theorem bodyP_size {L : List PC} (h : ∀ c ∈ L, c.zs.length ≤ 65531) : (bodyP L).length = sizeP L - 12 := by
  induction L with
  | nil => rfl
  | cons c L ih =>
    rw [bodyP_cons, List.length_append, encOf_size (h c (by simp)), ih (fun d hd => h d (by simp [hd]))]
    simp [sizeP]
theorem laidP_len {tag sum : Int} {L : List PC} (h : ∀ c ∈ L, c.zs.length ≤ 65531) : (laidP tag sum L).length = sizeP L := by
  unfold laidP
  rw [List.length_append, headP_len, bodyP_size h]
  have := sizeP_ge L
  omega
/-- Kinds and flags are bytes, bodies are of bytes. -/
def PC.ok (c : PC) : Prop := (0 ≤ c.k ∧ c.k < 256) ∧ (0 ≤ c.f ∧ c.f < 256) ∧ Byt c.zs
theorem bodyP_byt {L : List PC} (h : ∀ c ∈ L, c.ok) : Byt (bodyP L) := by
  induction L with
  | nil => exact Byt.nil
  | cons c L ih =>
    rw [bodyP_cons]
    obtain ⟨hk, hf, hz⟩ := h c (by simp)
    exact (encOf_byt hk.1 hk.2 hf.1 hf.2 hz).append (ih (fun d hd => h d (by simp [hd])))
theorem laidP_byt {tag sum : Int} {L : List PC} (h : ∀ c ∈ L, c.ok) : Byt (laidP tag sum L) := (headP_byt _ _).append (bodyP_byt h)
theorem mayB_next {L : List PC} {n i : Nat} {c : PC} (h : L[i]? = some c) : (L.take (i + 1)).all (may1 n) = ((L.take i).all (may1 n) && may1 n c) := by
  rw [take_next h]; simp
/-- Two bodies of chunks that begin the same bytes begin with the same chunk. -/
theorem encC_pre {k f k' f' : Int} {zs zs' r : List Int} (h : encC k f zs <+: r) (h' : encC k' f' zs' <+: r) (hl : zs.length ≤ 65531) (hl' : zs'.length ≤ 65531) : k = k' ∧ f = f' ∧ zs = zs' := by
  obtain ⟨_, e1, _, e2, e3, e4, _⟩ := pre_parts h hl
  obtain ⟨_, g1, _, g2, g3, g4, _⟩ := pre_parts h' hl'
  have hn : zs.length = zs'.length := by omega
  refine ⟨e2.symm.trans g2, e3.symm.trans g3, ?_⟩
  rw [← e4, ← g4, hn]
theorem bodyP_inj {L : List PC} : ∀ {M : List PC}, (∀ c ∈ L, c.zs.length ≤ 65531) → (∀ c ∈ M, c.zs.length ≤ 65531) → bodyP L = bodyP M → L = M := by
  induction L with
  | nil =>
    intro M _ hM h
    cases M with
    | nil => rfl
    | cons c M =>
      exfalso
      have := congrArg List.length h
      rw [bodyP_nil, bodyP_cons, List.length_append, encOf_size (hM c (by simp))] at this
      simp [sizeC] at this
      omega
  | cons c L ih =>
    intro M hL hM h
    cases M with
    | nil =>
      exfalso
      have := congrArg List.length h
      rw [bodyP_nil, bodyP_cons, List.length_append, encOf_size (hL c (by simp))] at this
      simp [sizeC] at this
    | cons d M =>
      have hc := hL c (by simp)
      have hd := hM d (by simp)
      rw [bodyP_cons, bodyP_cons, encOf_yes hc, encOf_yes hd] at h
      obtain ⟨e1, e2, e3⟩ := encC_pre (r := encC c.k c.f c.zs ++ bodyP L) ⟨_, rfl⟩ ⟨bodyP M, h.symm⟩ hc hd
      obtain rfl : c = d := by cases c; cases d; simp_all
      have h2 := List.append_cancel_left h
      rw [ih (fun x hx => hL x (by simp [hx])) (fun x hx => hM x (by simp [hx])) h2]
end Go.Proofs.Ytnndlpbbllmpjaa
