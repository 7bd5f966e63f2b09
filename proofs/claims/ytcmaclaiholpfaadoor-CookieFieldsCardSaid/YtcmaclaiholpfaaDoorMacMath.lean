/-
  HMAC by its definition, on bytes. Program apart.
-/
import Derived.Test.YtcmaclaiholpfaaDoorShaApi
import Derived.Laws.BitsAllLaws
namespace Go.Proofs.YtcmaclaiholpfaaDoor
open Go.RowKit
set_option linter.unusedVariables false

/-- What of a key goes into its block. -/
def short (k : List Int) : List Int := if 64 < k.length then sha k else k
/-- A key's block. -/
def blockK (k : List Int) : List Int := short k ++ List.replicate (64 - (short k).length) 0
/-- Each byte turned by b. -/
def turned (b : Int) (zs : List Int) : List Int := zs.map fun z => bits .xor .u8 z b
/-- The sum. -/
def hmac (k t : List Int) : List Int := sha (turned 92 (blockK k) ++ sha (turned 54 (blockK k) ++ t))

theorem short_len (k : List Int) : (short k).length ≤ 64 := by
  unfold short
  split
  · rw [sha_len]; omega
  · omega
theorem blockK_len (k : List Int) : (blockK k).length = 64 := by have := short_len k; simp [blockK]; omega
theorem turned_len (b : Int) (zs : List Int) : (turned b zs).length = zs.length := by simp [turned]
theorem hmac_len (k t : List Int) : (hmac k t).length = 32 := sha_len _
theorem hmac_byt (k t : List Int) : Byt (hmac k t) := sha_byt _
theorem byt_short {k : List Int} (h : Byt k) : Byt (short k) := by
  unfold short
  split
  · exact sha_byt _
  · exact h
theorem byt_blockK {k : List Int} (h : Byt k) : Byt (blockK k) := (byt_short h).append (Byt.rep (by omega) (by omega) _)
theorem xor_byt {x b : Int} (h0 : 0 ≤ x) (h1 : x < 256) (h2 : 0 ≤ b) (h3 : b < 256) : 0 ≤ bits .xor .u8 x b ∧ bits .xor .u8 x b < 256 := by
  rw [u8_xor x b h0 h1 h2 h3]
  have : x.toNat ^^^ b.toNat < 256 := Nat.xor_lt_two_pow (n := 8) (by omega) (by omega)
  omega
theorem byt_turned {b : Int} (h0 : 0 ≤ b) (h1 : b < 256) {zs : List Int} (h : Byt zs) : Byt (turned b zs) := by
  intro z hz
  obtain ⟨x, hx, rfl⟩ := List.mem_map.1 hz
  exact xor_byt (h x hx).1 (h x hx).2 h0 h1
theorem short_sha {k : List Int} (h : 64 < k.length) : short (sha k) = short k := by
  unfold short
  rw [if_pos h, sha_len, if_neg (by omega)]
theorem hmac_sha {k t : List Int} (h : 64 < k.length) : hmac (sha k) t = hmac k t := by unfold hmac blockK; rw [short_sha h]
theorem blockK_pad {k : List Int} {j : Nat} (h : k.length + j ≤ 64) : blockK (k ++ List.replicate j 0) = blockK k := by
  unfold blockK short
  rw [if_neg (by simp; omega), if_neg (by omega), List.append_assoc, List.replicate_append_replicate]
  congr 2
  simp
  omega
theorem hmac_pad {k t : List Int} {j : Nat} (h : k.length + j ≤ 64) : hmac (k ++ List.replicate j 0) t = hmac k t := by unfold hmac; rw [blockK_pad h]
/-- The block at a place. -/
theorem blockK_at (k : List Int) {i : Nat} (hi : i < 64) : (blockK k)[i]? = some (if i < (short k).length then (short k)[i]?.getD 0 else 0) := by
  unfold blockK
  by_cases h : i < (short k).length
  · rw [if_pos h, List.getElem?_append_left h]
    simp [h]
  · rw [if_neg h, List.getElem?_append_right (by omega), List.getElem?_replicate, if_pos (by omega)]
theorem turned_at (b : Int) {zs : List Int} {i : Nat} {x : Int} (h : zs[i]? = some x) : (turned b zs)[i]? = some (bits .xor .u8 x b) := by simp [turned, h]

def jefe : List Int := [74, 101, 102, 101]
def jefeText : List Int := [119, 104, 97, 116, 32, 100, 111, 32, 121, 97, 32, 119, 97, 110, 116, 32, 102, 111, 114, 32, 110, 111, 116, 104, 105, 110, 103, 63]
theorem turned_nat {b : Nat} (hb : b < 256) (zs : List Nat) (h : ∀ z ∈ zs, z < 256) : turned (b : Int) (List.map (fun z : Nat => (z : Int)) zs) = List.map (fun z : Nat => ((z ^^^ b : Nat) : Int)) zs := by
  unfold turned
  rw [List.map_map]
  exact List.map_congr_left fun z hz => u8_xor_nat z b (h z hz) hb
set_option maxRecDepth 100000 in
theorem hmac_jefe : (hmac jefe jefeText)[0]? = some 91 ∧ (hmac jefe jefeText)[1]? = some 220 ∧ (hmac jefe jefeText)[31]? = some 67 := by
  have e : blockK jefe = ([74, 101, 102, 101] ++ List.replicate 60 0).map fun z : Nat => (z : Int) := by decide +kernel
  unfold hmac
  rw [e, show (92 : Int) = ((92 : Nat) : Int) from rfl, show (54 : Int) = ((54 : Nat) : Int) from rfl, turned_nat (by omega) _ (by decide +kernel), turned_nat (by omega) _ (by decide +kernel)]
  decide +kernel
end Go.Proofs.YtcmaclaiholpfaaDoor
