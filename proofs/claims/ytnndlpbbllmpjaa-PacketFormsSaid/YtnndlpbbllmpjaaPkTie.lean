/-
  Stage 10: bytes that are written are read, and bytes that are read are those that are written.
-/
import Derived.Test.YtnndlpbbllmpjaaPkSums
namespace Go.Proofs.Ytnndlpbbllmpjaa
open Go.RowKit
set_option linter.unusedVariables false

theorem laidP_parts (tag sum : Int) (L : List PC) : (laidP tag sum L).take 8 = enc 5000 2 ++ enc 5000 2 ++ enc tag 4 ∧ ((laidP tag sum L).drop 4).take 4 = enc tag 4 ∧ ((laidP tag sum L).drop 8).take 4 = enc sum 4 := by
  unfold laidP headP
  have l4 : (enc 5000 2 ++ enc 5000 2).length = 4 := by simp
  have l8 : (enc 5000 2 ++ enc 5000 2 ++ enc tag 4).length = 8 := by simp
  refine ⟨?_, ?_, ?_⟩
  · rw [List.append_assoc (enc 5000 2 ++ enc 5000 2 ++ enc tag 4), List.take_left' l8]
  · rw [List.append_assoc (enc 5000 2 ++ enc 5000 2 ++ enc tag 4), List.append_assoc (enc 5000 2 ++ enc 5000 2), List.drop_left' l4, List.take_left' (by simp)]
  · rw [List.append_assoc (enc 5000 2 ++ enc 5000 2 ++ enc tag 4), List.drop_left' l8, List.take_left' (by simp)]
theorem laidP_tag {tag sum : Int} {L : List PC} (h0 : 0 ≤ tag) (h1 : tag < 4294967296) : tagB (laidP tag sum L) = tag := by
  unfold tagB
  rw [(laidP_parts tag sum L).2.1]
  rw [num_enc tag h0 4]; exact Int.emod_eq_of_lt h0 h1
theorem laidP_sumB {tag sum : Int} {L : List PC} (h0 : 0 ≤ sum) (h1 : sum < 4294967296) : sumB (laidP tag sum L) = sum := by
  unfold sumB
  rw [(laidP_parts tag sum L).2.2]
  rw [num_enc sum h0 4]; exact Int.emod_eq_of_lt h0 h1
theorem laidP_zero4 (tag sum : Int) (L : List PC) : zero4 (laidP tag sum L) = laidP tag 0 L := by
  unfold zero4 zeroTo
  rw [(laidP_parts tag sum L).1, laidP_drop]
  have e : laidP tag 0 L = enc 5000 2 ++ enc 5000 2 ++ enc tag 4 ++ enc 0 4 ++ bodyP L := rfl
  rw [e, show (enc 0 4 : List Int) = List.replicate (12 - 8) 0 from by decide]
/-- What is written is a packet, and its sum is right. -/
theorem written_is {tag : Int} {L : List PC} (h0 : 0 ≤ tag) (h1 : tag < 4294967296) (hm : mayB L = true) : 12 ≤ (writeP tag L).length ∧ sumOk (writeP tag L) = true ∧ IsP (writeP tag L) L ∧ tagB (writeP tag L) = tag := by
  have e : writeP tag L = laidP tag ((sumP tag L : Nat) : Int) L := by unfold writeP; rw [if_pos hm]
  have hs : sumP tag L < 4294967296 := by unfold sumP; exact ext_lt _ (by decide)
  have h2 : sumB (laidP tag ((sumP tag L : Nat) : Int) L) = ((sumP tag L : Nat) : Int) := laidP_sumB (by omega) (by omega)
  have h3 : tagB (laidP tag ((sumP tag L : Nat) : Int) L) = tag := laidP_tag h0 h1
  rw [e]
  refine ⟨by rw [laidP_len (fun c hc => mayB_len hm hc)]; exact sizeP_ge _, ?_, ⟨hm, by rw [h2, h3]⟩, h3⟩
  unfold sumOk
  rw [h2, laidP_zero4]
  exact decide_eq_true rfl
/-- Bytes of which a packet is read are those that are written of it. -/
theorem read_is {b : List Int} {M : List PC} (h : IsP b M) (hs : sumOk b = true) : writeP (tagB b) M = b := by
  have e : writeP (tagB b) M = laidP (tagB b) ((sumP (tagB b) M : Nat) : Int) M := by unfold writeP; rw [if_pos h.1]
  have h1 : zero4 b = laidP (tagB b) 0 M := by
    have h2 := congrArg zero4 h.2
    rw [h2, laidP_zero4]
  have h2 := of_decide_eq_true hs
  rw [h1] at h2
  have h3 : ((sumP (tagB b) M : Nat) : Int) = sumB b := h2
  rw [e, h3]
  exact h.2.symm
/-- One row of bytes holds but one row of chunks. -/
theorem IsP.one {b : List Int} {M M' : List PC} (h : IsP b M) (h' : IsP b M') : M = M' := bodyP_inj h.le h'.le (by rw [← h.body, h'.body])
end Go.Proofs.Ytnndlpbbllmpjaa
