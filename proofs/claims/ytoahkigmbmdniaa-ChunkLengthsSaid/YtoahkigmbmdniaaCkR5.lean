/-
  The contract of package chunk's Read, whatever the bytes are.
-/
import Derived.Test.YtoahkigmbmdniaaCkR4
namespace Go.Proofs.Ytoahkigmbmdniaa
open Go.RowKit
set_option linter.unusedVariables false

theorem read_any (a : Option Addr) (n c : Nat) (zs : List Int) (w : World) (hr : Reads w a n zs) (hb : Byt zs) (hc : n ≤ c) (hn : n ≤ 140737488355328) :
    Calls Try.prog 18 #[.slice a n c] w fun e w' => ReadOk zs w w' e ∧ Below w.heap.size w w' := by
  have hl := hr.1
  by_cases h4 : n < 4
  · exact (read_no1 a n c w h4).mono fun e w' ⟨h1, h2⟩ => ⟨.inr ⟨fun k f body hb' hp => by have := (pre_parts hp hb').1; omega, h1⟩, h2⟩
  · by_cases hL : lenOf zs < 4
    · exact (read_no2 a n c zs w hr hb (by omega) hn hL).mono fun e w' ⟨h1, h2⟩ => ⟨.inr ⟨fun k f body hb' hp => by have := (pre_parts hp hb').2.1; omega, h1⟩, h2⟩
    · exact read_main a n c (lenOf zs - 4).toNat zs w hr hb hc (by omega) hn (by omega)

/-- A chunk with which the bytes begin is read, and no other one. -/
theorem pre_unique {k f k' f' : Int} {body body' zs : List Int} (h : encC k f body <+: zs) (h' : encC k' f' body' <+: zs) (hl : body.length ≤ 65531) (hl' : body'.length ≤ 65531) : k = k' ∧ f = f' ∧ body = body' := by
  obtain ⟨_, a2, _, a4, a5, a6, _⟩ := pre_parts h hl
  obtain ⟨_, b2, _, b4, b5, b6, _⟩ := pre_parts h' hl'
  have e : body.length = body'.length := by omega
  exact ⟨a4.symm.trans b4, a5.symm.trans b5, by rw [← a6, ← b6, e]⟩
theorem ReadOk.yes {zs : List Int} {w w' : World} {e : Ending} (h : ReadOk zs w w' e) {k f : Int} {body : List Int} (hp : encC k f body <+: zs) (hl : body.length ≤ 65531) :
    ∃ g, e = .returned (.tuple #[.agg #[.int .u8 k, .int .u8 f, .slice (some ⟨g, 0, none⟩) body.length body.length], .int .i64 (up4 (4 + body.length) : Nat), .int .i64 0]) ∧ w.heap.size ≤ g ∧ Blk w' g body := by
  rcases h with ⟨k', f', body', g, hl', hp', he, hg, hk⟩ | ⟨hn, _⟩
  · obtain ⟨rfl, rfl, rfl⟩ := pre_unique hp hp' hl hl'
    exact ⟨g, he, hg, hk⟩
  · exact absurd hp (hn k f body hl)
theorem ReadOk.no {zs : List Int} {w w' : World} {e : Ending} (h : ReadOk zs w w' e) (hn : ∀ (k f : Int) (body : List Int), body.length ≤ 65531 → ¬ encC k f body <+: zs) : e = .returned noChunk := by
  rcases h with ⟨k', f', body', g, hl', hp', he, hg, hk⟩ | ⟨_, he⟩
  · exact absurd hp' (hn k' f' body' hl')
  · exact he
end Go.Proofs.Ytoahkigmbmdniaa
