/-
  What the laws of layer 6 lean on, as contracts: the states.
-/
import Derived.Test.YtcmaclaiholpfaaDoorShaApi
import Derived.Test.YtcmaclaiholpfaaDoorMgA
namespace Go.Proofs.YtcmaclaiholpfaaDoor
open Go.RowKit
set_option linter.unusedVariables false

/-- The states do as the document says. St W p bs zs: in W the state at p has absorbed zs; all its memory are the blocks bs. -/
structure StOk (St : World → Addr → List Nat → List Int → Prop) : Prop where
  new : ∀ w, Tab w → Calls Tryd.prog 42 #[] w fun e w' => ∃ p bs, e = .returned (.pointer (some p)) ∧ St w' p bs [] ∧ (∀ b ∈ bs, w.heap.size ≤ b) ∧ Below w.heap.size w w'
  write : ∀ w p bs zs (a : Option Addr) (len cap : Nat) ys, St w p bs zs → Byt zs → Reads w a len ys → Byt ys → len ≤ cap → cap ≤ maxLen → zs.length + len ≤ 1099511627776 → Tab w → (∀ g ∈ tabs, g ∉ bs) →
    (0 < len → ∀ q, a = some q → q.block ∉ bs) → Calls Tryd.prog 43 #[.pointer (some p), .slice a len cap] w fun e w' =>
      e = .returned (.tuple #[]) ∧ ∃ bs', St w' p bs' (zs ++ ys) ∧ (∀ b ∈ bs', b ∈ bs ∨ w.heap.size ≤ b) ∧ Turn bs w w'
  sum : ∀ w p bs zs, St w p bs zs → Byt zs → zs.length ≤ 1099511627776 → Tab w → (∀ g ∈ tabs, g ∉ bs) → Calls Tryd.prog 44 #[.pointer (some p)] w fun e w' =>
      e = .returned (dv (sha zs)) ∧ ∃ bs', St w' p bs' zs ∧ (∀ b ∈ bs', b ∈ bs ∨ w.heap.size ≤ b) ∧ Turn bs w w'
  turn : ∀ w w' p bs cs zs, St w p bs zs → Turn cs w w' → (∀ b ∈ bs, b ∉ cs) → St w' p bs zs
  lt : ∀ w p bs zs, St w p bs zs → ∀ b ∈ bs, b < w.heap.size
/-- No state. -/
structure NilOk : Prop where
  write : ∀ w (a : Option Addr) (len cap : Nat), Calls Tryd.prog 43 #[.pointer none, .slice a len cap] w fun e w' => e = .returned (.tuple #[]) ∧ Below w.heap.size w w'
  sum : ∀ w, Calls Tryd.prog 44 #[.pointer none] w fun e w' => e = .returned (dv (List.replicate 32 0)) ∧ Below w.heap.size w w'

/-- A state that the call has made and keeps. -/
def Own (St : World → Addr → List Nat → List Int → Prop) (w0 : World) (p : Addr) (zs : List Int) (W : World) : Prop := ∃ bs, St W p bs zs ∧ (∀ b ∈ bs, w0.heap.size ≤ b) ∧ Below w0.heap.size w0 W
section
variable {St : World → Addr → List Nat → List Int → Prop}
theorem Own.below {w0 W : World} {p : Addr} {zs : List Int} (h : Own St w0 p zs W) : Below w0.heap.size w0 W := by obtain ⟨bs, _, _, hb⟩ := h; exact hb
theorem Own.keep (K : StOk St) {w0 W W' : World} {p : Addr} {zs : List Int} (h : Own St w0 p zs W) (hb : Below W.heap.size W W') : Own St w0 p zs W' := by
  obtain ⟨bs, h1, h2, h3⟩ := h
  exact ⟨bs, K.turn _ _ _ _ _ _ h1 (Turn.of_below hb) (fun b _ hn => by cases hn), h2, h3.trans (hb.mono h3.size)⟩
theorem Own.drew (K : StOk St) {w0 W : World} {p : Addr} {zs : List Int} (h : Own St w0 p zs W) : Own St w0 p zs W.drew := h.keep K (Below.refl _ _).drew
theorem own_new (K : StOk St) (w0 W : World) (hb : Below w0.heap.size w0 W) (ht : Tab w0) : Calls Tryd.prog 42 #[] W fun e W' => ∃ p, e = .returned (.pointer (some p)) ∧ Own St w0 p [] W' := by
  refine (K.new W (ht.below hb ht.lt)).mono ?_
  rintro e W' ⟨p, bs, rfl, h1, h2, h3⟩
  exact ⟨p, rfl, bs, h1, fun b hb' => Nat.le_trans hb.size (h2 b hb'), hb.trans (h3.mono hb.size)⟩
theorem own_write (K : StOk St) (w0 W : World) (p : Addr) (zs ys : List Int) (a : Option Addr) (len cap : Nat) (h : Own St w0 p zs W) (bz : Byt zs) (hr : Reads w0 a len ys) (hy : Byt ys) (hc : len ≤ cap) (hm : cap ≤ maxLen)
    (hl : zs.length + len ≤ 1099511627776) (ht : Tab w0) : Calls Tryd.prog 43 #[.pointer (some p), .slice a len cap] W fun e W' => e = .returned (.tuple #[]) ∧ Own St w0 p (zs ++ ys) W' := by
  obtain ⟨bs, h1, h2, h3⟩ := h
  refine (K.write W p bs zs a len cap ys h1 bz (hr.below h3) hy hc hm hl (ht.below h3 ht.lt) (fun g hg hn => ?_) (fun h0 q hq hn => ?_)).mono ?_
  · have := h2 _ hn
    have := ht.lt g hg
    omega
  · rcases hr.2 with h4 | ⟨b, off, ha, hlt, _⟩
    · omega
    · rw [ha] at hq
      cases hq
      have := h2 _ hn
      simp at this
      omega
  · rintro e W' ⟨rfl, bs', h4, h5, h6⟩
    have hb : Below w0.heap.size W W' := h6.below h3.size h2
    refine ⟨rfl, bs', h4, fun b hb' => ?_, h3.trans hb⟩
    rcases h5 b hb' with h7 | h7
    · exact h2 b h7
    · exact Nat.le_trans h3.size h7
theorem own_sum (K : StOk St) (w0 W : World) (p : Addr) (zs : List Int) (h : Own St w0 p zs W) (bz : Byt zs) (hl : zs.length ≤ 1099511627776) (ht : Tab w0) :
    Calls Tryd.prog 44 #[.pointer (some p)] W fun e W' => e = .returned (dv (sha zs)) ∧ Own St w0 p zs W' := by
  obtain ⟨bs, h1, h2, h3⟩ := h
  refine (K.sum W p bs zs h1 bz hl (ht.below h3 ht.lt) (fun g hg hn => ?_)).mono ?_
  · have := h2 _ hn
    have := ht.lt g hg
    omega
  · rintro e W' ⟨rfl, bs', h4, h5, h6⟩
    have hb : Below w0.heap.size W W' := h6.below h3.size h2
    refine ⟨rfl, bs', h4, fun b hb' => ?_, h3.trans hb⟩
    rcases h5 b hb' with h7 | h7
    · exact h2 b h7
    · exact Nat.le_trans h3.size h7
end
theorem eql_zero (W : World) : (binOp .eql 46 (dv (List.replicate 32 0)) (dv (List.replicate 32 0))).run Tryd.prog W = .ok (.bool true) W := by
  have hb : Byt (List.replicate 32 (0 : Int)) := Byt.rep (by omega) (by omega) _
  rw [eql_dv W (by simp) (by simp) hb hb]
  simp
theorem eqi_zero (W : World) : (Op.equalIn 10000 46 (.agg #[.int .u8 0, .int .u8 0, .int .u8 0, .int .u8 0, .int .u8 0, .int .u8 0, .int .u8 0, .int .u8 0, .int .u8 0, .int .u8 0, .int .u8 0, .int .u8 0, .int .u8 0, .int .u8 0, .int .u8 0, .int .u8 0, .int .u8 0, .int .u8 0, .int .u8 0, .int .u8 0, .int .u8 0, .int .u8 0, .int .u8 0, .int .u8 0, .int .u8 0, .int .u8 0, .int .u8 0, .int .u8 0, .int .u8 0, .int .u8 0, .int .u8 0, .int .u8 0]) (.agg #[.int .u8 0, .int .u8 0, .int .u8 0, .int .u8 0, .int .u8 0, .int .u8 0, .int .u8 0, .int .u8 0, .int .u8 0, .int .u8 0, .int .u8 0, .int .u8 0, .int .u8 0, .int .u8 0, .int .u8 0, .int .u8 0, .int .u8 0, .int .u8 0, .int .u8 0, .int .u8 0, .int .u8 0, .int .u8 0, .int .u8 0, .int .u8 0, .int .u8 0, .int .u8 0, .int .u8 0, .int .u8 0, .int .u8 0, .int .u8 0, .int .u8 0, .int .u8 0])).run Tryd.prog W = .ok true W := by
  have hb : Byt (List.replicate 32 (0 : Int)) := Byt.rep (by omega) (by omega) _
  have := run_equalIn_bytes (P := Tryd.prog) W 9998 46 5 32 (by kernel_rfl) (by kernel_rfl) cell_size (octs (List.replicate 32 0)) (octs (List.replicate 32 0)) (by simp [octs]) (by simp [octs])
  rw [octs_cells hb, octs_eq hb hb] at this
  exact this
end Go.Proofs.YtcmaclaiholpfaaDoor
