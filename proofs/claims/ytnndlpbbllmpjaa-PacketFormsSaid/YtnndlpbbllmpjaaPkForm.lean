/-
  Stage 10: bytes that were given their own sum, and what they are. Plain facts.
-/
import Derived.Test.YtnndlpbbllmpjaaPkTie
import Derived.Test.YtnndlpbbllmpjaaPkSummed
import Derived.Test.YtnndlpbbllmpjaaPkP4
import Derived.Test.YtnndlpbbllmpjaaLPkBack
namespace Go.Proofs.Ytnndlpbbllmpjaa
open Go.RowKit
set_option linter.unusedVariables false

/-- Bytes with their own sum. -/
def smB (b : List Int) : List Int := withSum b ((ext 0 (zero4 b) : Nat) : Int)
theorem smB_parts (b : List Int) : smB b = b.take 8 ++ enc ((ext 0 (zero4 b) : Nat) : Int) 4 ++ b.drop 12 := rfl
theorem smB_len {b : List Int} (h : 12 ≤ b.length) : (smB b).length = b.length := by rw [smB_parts]; simp; omega
theorem smB_byt {b : List Int} (h : Byt b) : Byt (smB b) := by rw [smB_parts]; exact ((h.take 8).append (enc_byt _ _)).append (h.drop 12)
theorem smB_take {b : List Int} (h : 12 ≤ b.length) : (smB b).take 8 = b.take 8 := by
  rw [smB_parts, List.append_assoc, List.take_left' (by simp; omega)]
theorem smB_drop {b : List Int} (h : 12 ≤ b.length) : (smB b).drop 12 = b.drop 12 := by
  rw [smB_parts, List.drop_left' (by simp; omega)]
theorem smB_front {b : List Int} (h : 12 ≤ b.length) {i k : Nat} (hi : i + k ≤ 8) : ((smB b).drop i).take k = (b.drop i).take k := by
  have e : ∀ l : List Int, (l.drop i).take k = ((l.take 8).drop i).take k := fun l => by
    rw [List.drop_take, List.take_take, Nat.min_eq_left (by omega)]
  rw [e (smB b), e b, smB_take h]
theorem smB_sumOk {b : List Int} (h : 12 ≤ b.length) : sumOk (smB b) = true := by
  have hx : ext 0 (zero4 b) < 4294967296 := ext_lt _ (by decide)
  have h1 : zero4 (smB b) = zero4 b := by rw [zero4_parts (by rw [smB_len h]; exact h), smB_take h, smB_drop h, zero4_parts h]
  have h2 : sumB (smB b) = ((ext 0 (zero4 b) : Nat) : Int) := by
    unfold sumB
    rw [smB_parts, List.append_assoc, List.drop_left' (by simp; omega), List.take_left' (by simp), num_enc _ (Int.natCast_nonneg _)]
    exact Int.emod_eq_of_lt (Int.natCast_nonneg _) (by omega)
  unfold sumOk
  rw [h1, h2]
  exact decide_eq_true rfl
theorem smB_tag {b : List Int} (h : 12 ≤ b.length) : tagB (smB b) = tagB b := by unfold tagB; rw [smB_front h (by omega)]
theorem smB_is {b : List Int} (h : 12 ≤ b.length) (hz : Byt b) {M : List PC} (h0 : (b.drop 0).take 2 = enc 5000 2) (h2 : (b.drop 2).take 2 = enc 5000 2) (hm : mayB M = true) (hb : b.drop 12 = bodyP M) : IsP (smB b) M :=
  isP_of (smB_byt hz) (by rw [smB_len h]; exact h) (by rw [smB_front h (by omega), h0]; decide +kernel) (by rw [smB_front h (by omega), h2]; decide +kernel) hm (by rw [smB_drop h]; exact hb)
theorem smB_ports {b : List Int} (h : 12 ≤ b.length) (hz : Byt b) {M : List PC} (hp : IsP (smB b) M) : (b.drop 0).take 2 = enc 5000 2 ∧ (b.drop 2).take 2 = enc 5000 2 := by
  obtain ⟨h0, h2⟩ := isP_ports hp
  rw [smB_front h (by omega)] at h0 h2
  exact ⟨enc_num' hz (by omega) h0, enc_num' hz (by omega) h2⟩
/-- What Read answers of them. -/
theorem RdPr.no {b : List Int} {w w' : World} {e : Ending} (h : 12 ≤ b.length) (hr : RdPr (smB b) w w' e) (hno : ∀ M, ¬ IsP (smB b) M) : e = .returned (rdNo 7) := by
  have hl := smB_len h
  rcases hr with ⟨h1, _⟩ | ⟨_, h1, _⟩ | ⟨_, _, _, h1⟩ | ⟨_, _, L, _, _, _, h1, _⟩
  · omega
  · rw [smB_sumOk h] at h1; cases h1
  · exact h1
  · exact absurd h1 (hno _)
theorem RdPr.yes {b : List Int} {w w' : World} {e : Ending} (h : 12 ≤ b.length) (hr : RdPr (smB b) w w' e) {M : List PC} (hp : IsP (smB b) M) : ∃ a n c, e = .returned (.tuple #[.agg #[.int .u32 (tagB b), .slice a n c], .int .i64 0]) := by
  have hl := smB_len h
  rcases hr with ⟨h1, _⟩ | ⟨_, h1, _⟩ | ⟨_, _, h1, _⟩ | ⟨_, _, L, a, n, c, _, h1, _⟩
  · omega
  · rw [smB_sumOk h] at h1; cases h1
  · exact absurd hp (h1 _)
  · rw [smB_tag h] at h1
    exact ⟨a, n, c, h1⟩

/-- A byte of the first eight is set. -/
theorem front_same {b : List Int} {k : Nat} {V : Int} {i n : Nat} (h : k < i ∨ i + n ≤ k) : ((b.set k V).drop i).take n = (b.drop i).take n := by
  refine List.ext_getElem? fun q => ?_
  simp only [List.getElem?_take, List.getElem?_drop]
  by_cases hq : q < n
  · rw [if_pos hq, if_pos hq, List.getElem?_set_ne (by omega)]
  · rw [if_neg hq, if_neg hq]
theorem front_in {b : List Int} {k : Nat} {V : Int} {i n : Nat} (hk : k < b.length) (h : i ≤ k ∧ k < i + n) (e : ((b.set k V).drop i).take n = (b.drop i).take n) : V = b[k]?.getD 0 := by
  have h1 := congrArg (fun l => l[k - i]?) e
  simp only [List.getElem?_take, List.getElem?_drop] at h1
  rw [if_pos (by omega), if_pos (by omega), show i + (k - i) = k by omega, List.getElem?_set_self hk] at h1
  rw [← h1]
  rfl
theorem set_was {b : List Int} {k : Nat} (hk : k < b.length) : b.set k (b[k]?.getD 0) = b := by
  refine List.ext_getElem? fun q => ?_
  by_cases e : q = k
  · subst e
    rw [List.getElem?_set_self hk]
    simp [hk]
  · rw [List.getElem?_set_ne (fun h => e h.symm)]
/-- What the law asks of the packet with one byte turned. -/
theorem turned_ask {b : List Int} {M : List PC} {k : Nat} {V tag : Int} {w w' : World} {e : Ending} (hz : Byt b) (h12 : 12 ≤ b.length) (hp : IsP b M) (ht : tagB b = tag) (hk : k < 8) (hV0 : 0 ≤ V) (hV1 : V < 256) (hr : RdPr (smB (b.set k V)) w w' e) :
    ∃ (er T : Int) (a : Option Addr) (n c : Nat), e = .returned (.tuple #[.agg #[.int .u32 T, .slice a n c], .int .i64 er]) ∧ (er = 0 ∨ er = 7) ∧ (k < 4 → (er = 0 ↔ V = b[k]?.getD 0)) ∧ (4 ≤ k → er = 0 ∧ (T = tag ↔ V = b[k]?.getD 0)) := by
  obtain ⟨p0, p2⟩ := isP_ports hp
  have q0 := enc_num' hz (i := 0) (k := 2) (by omega) p0
  have q2 := enc_num' hz (i := 2) (k := 2) (by omega) p2
  have hl : (b.set k V).length = b.length := List.length_set
  have h12' : 12 ≤ (b.set k V).length := by omega
  have hz' : Byt (b.set k V) := hz.set k hV0 hV1
  have hbd : (b.set k V).drop 12 = bodyP M := by
    rw [← hp.body]
    have h := front_same (b := b) (k := k) (V := V) (i := 12) (n := b.length) (by omega)
    rwa [List.take_of_length_le (by simp), List.take_of_length_le (by simp)] at h
  by_cases h4 : k < 4
  · by_cases hV : V = b[k]?.getD 0
    · have hb : b.set k V = b := by rw [hV]; exact set_was (by omega)
      rw [hb] at hr
      obtain ⟨a, n, c, he⟩ := hr.yes h12 (smB_is h12 hz q0 q2 hp.1 hp.body.symm.symm)
      exact ⟨0, _, a, n, c, he, .inl rfl, fun _ => ⟨fun _ => hV, fun _ => rfl⟩, fun h => by omega⟩
    · have he := hr.no h12' (fun M' hp' => hV (by
        obtain ⟨r0, r2⟩ := smB_ports h12' hz' hp'
        by_cases h2 : k < 2
        · exact front_in (i := 0) (n := 2) (by omega) (by omega) (r0.trans q0.symm)
        · exact front_in (i := 2) (n := 2) (by omega) (by omega) (r2.trans q2.symm)))
      exact ⟨7, 0, none, 0, 0, he, .inr rfl, fun _ => ⟨fun h => by omega, fun h => absurd h hV⟩, fun h => by omega⟩
  · have hpp : IsP (smB (b.set k V)) M := smB_is h12' hz' ((front_same (by omega)).trans q0) ((front_same (by omega)).trans q2) hp.1 hbd
    obtain ⟨a, n, c, he⟩ := hr.yes h12' hpp
    refine ⟨0, _, a, n, c, he, .inl rfl, fun h => absurd h h4, fun _ => ⟨rfl, fun hT => ?_, fun hV => ?_⟩⟩
    · rw [← ht] at hT
      have h5 : ((b.set k V).drop 4).take 4 = (b.drop 4).take 4 := num_inj ((hz'.drop 4).take 4) ((hz.drop 4).take 4) (by simp) hT
      exact front_in (i := 4) (n := 4) (by omega) (by omega) h5
    · rw [hV, set_was (by omega)]
      exact ht
/-- A head alone is no packet. -/
theorem head_ask {b : List Int} {w w' : World} {e : Ending} (h12 : b.length = 12) (hr : RdPr (smB b) w w' e) : e = .returned (rdNo 7) := by
  refine hr.no (by omega) fun M hM => ?_
  have h1 := hM.body
  rw [smB_drop (by omega), List.drop_eq_nil_of_le (by omega)] at h1
  have h2 := hM.1
  have hne : M ≠ [] := fun e => by rw [e] at h2; exact absurd h2 (by decide)
  obtain ⟨c, L, rfl⟩ := List.exists_cons_of_ne_nil hne
  have h3 := congrArg List.length h1
  rw [bodyP_cons, List.length_append, encOf_size (hM.le c (by simp))] at h3
  unfold sizeC at h3
  rw [List.length_nil] at h3
  omega
/-- Three bytes more are no packet's. -/
theorem more_ask {b : List Int} {M0 : List PC} {w w' : World} {e : Ending} (h12 : 12 ≤ b.length) (hp : IsP b M0) (hr : RdPr (smB (b ++ [0, 0, 0])) w w' e) : e = .returned (rdNo 7) := by
  have hl : (b ++ [0, 0, 0]).length = b.length + 3 := by simp
  have hb : b.length = sizeP M0 := by rw [hp.2, laidP_len hp.le]
  refine hr.no (by omega) fun M hM => ?_
  have h1 : (smB (b ++ [0, 0, 0])).length = sizeP M := by rw [hM.2, laidP_len hM.le]
  rw [smB_len (by omega), hl, hb] at h1
  have h2 := sizeP_mod M
  have h3 := sizeP_mod M0
  omega
end Go.Proofs.Ytnndlpbbllmpjaa
