/-
  The reference of layer 6: the padding.
-/
import Derived.Test.YtcmaclaiholpfaaDoorShaRef
import Derived.Test.YtcmaclaiholpfaaDoorMgA
namespace Go.Proofs.YtcmaclaiholpfaaDoor
open Go.RowKit
set_option linter.unusedVariables false

theorem Row8.append {base : Nat} {w : World} {a : Option Addr} {n c : Nat} {zs : List Int} (h : Row8 base w a n c zs) (hb : base ≤ w.heap.size) (hn : n ≤ 2199023255552) (x : Int) :
    ∃ a' c' W3, (Builtin.append_ #[22, 22] 22 #[.slice a n c, .slice (some ⟨w.heap.size, 0, none⟩) 1 1]).run Tryd.prog (w.alloc (.cells #[.int .u8 x] 5)) = .ok (.slice a' (n + 1) c') W3 ∧
      RowKit.Hid (Row8 base W3 a' (n + 1) c' (zs ++ [x]) ∧ Below base w W3) := by
  have hown : Row8 base (w.alloc (.cells #[.int .u8 x] 5)) a n c zs := h.keep ((Below.refl _ _).alloc (Nat.le_refl _) _)
  obtain ⟨a', c', W3, hrun, hr, hg⟩ := hown.grow (by simp; omega) ⟨w.heap.size, 0, none⟩ 1 1 [x] rfl (cell_one_new _ _ _) (by omega) (by omega)
  refine ⟨a', c', W3, hrun, Lib.hid ⟨hr, ?_⟩⟩
  have h1 : Below base w (w.alloc (.cells #[.int .u8 x] 5)) := (Below.refl _ _).alloc hb _
  refine h1.trans ⟨hg.os, hg.tape, hg.output, hg.size, fun k hk => hg.block k (by simp; omega) (fun e => ?_)⟩
  rcases h.2 with ⟨hv, _⟩ | ⟨g, sp, hv, hbg, _⟩
  · subst hv; simp [Value.ownBlock] at e
  · subst hv; simp [Value.ownBlock] at e; omega

def lenV : Value → Nat
  | .slice _ n _ => n
  | _ => 0

theorem lenBytes_snoc (n j : Nat) (hj : j < 8) : (lenBytes n).take (j + 1) = (lenBytes n).take j ++ [((8 * n / 2 ^ (8 * (7 - j)) % 256 : Nat) : Int)] := by
  have h : j < (lenBytes n).length := by simp [lenBytes]; omega
  rw [List.take_succ_eq_append_getElem h]
  simp [lenBytes]
theorem replicate_snoc (k : Nat) : (List.replicate k (0 : Int)) ++ [0] = List.replicate (k + 1) 0 := by rw [List.replicate_succ']

set_option maxRecDepth 100000 in
set_option maxHeartbeats 1600000 in
theorem whole_any (a : Option Addr) (len cap : Nat) (zs : List Int) (w : World) (hr : Reads w a len zs) (hl : len ≤ 1099511627776) :
    Calls Tryd.prog 48 #[.slice a len cap] w fun e w' => ∃ a' c', e = .returned (.slice a' (padded zs).length c') ∧ Row8 w.heap.size w' a' (padded zs).length c' (padded zs) ∧ Below w.heap.size w w' := by
  have HZ := Lib.hid hr.1
  have hcp := copyBytes_any a len cap zs w hr (by omega)
  clear hr
  go_enter Tryd.func48, Tryd.ntmps48
  go_wp2_with fail
  refine hcp.mono ?_
  rintro e w1 ⟨a1, rfl, hb1, hr1⟩
  obtain ⟨a2, c2, w2, happ, H2⟩ := hr1.append hb1.size (by omega) 128
  have HB1 := Lib.hid hb1
  clear hcp hr1 hb1
  go_wp2_with (at_builtin; refine wpList_append_run rfl _ _ _ rfl _ _ _ _ rfl rfl happ ?_)
  clear happ
  have hk64 := noughts_lt len
  go_loopw [3] (fun t wr => ∃ (k : Nat) (a' : Option Addr) (c' : Nat), k ≤ noughts len ∧ t = .slice a' (len + 1 + k) c' ∧ Row8 w.heap.size wr a' (len + 1 + k) c' (zs ++ 128 :: List.replicate k 0) ∧ Below w.heap.size w wr) (fun t _ => len + 1 + noughts len - lenV t)
  case atStart => exact ⟨0, a2, c2, Nat.zero_le _, rfl, H2.out.1, HB1.out.trans H2.out.2⟩
  case round =>
    obtain ⟨k, a', c', hk, rfl, hrow, hb⟩ := hrel
    by_cases hlt : k < noughts len
    · have hmod : ((len : Int) + 1 + (k : Int)) % 64 ≠ 56 := noughts_not len k hlt
      obtain ⟨a3, c3, w3, happ, H3⟩ := hrow.append hb.size (by omega) 0
      have HB := Lib.hid hb
      clear hrow hb
      go_wp2_with (at_builtin; refine wpList_append_run rfl _ _ _ rfl _ _ _ _ rfl rfl happ ?_)
      go_roundw
      case rel => exact ⟨k + 1, a3, c3, by omega, rfl, by have := H3.out.1; rw [show len + 1 + (k + 1) = len + 1 + k + 1 by omega]; simpa [replicate_snoc] using this, HB.out.trans H3.out.2⟩
      case measure => simp [lenV]; omega
    · have hkk : noughts len = k := by omega
      have hmod : ((len : Int) + 1 + (k : Int)) % 64 = 56 := by rw [← hkk]; exact noughts_at len
      have HK := Lib.hid hkk
      have HB := Lib.hid hb
      have HR := Lib.hid hrow
      clear hrow hb hkk
      go_wp2
      clear hmod
      go_loopw [3, 4] (fun t i wr => ∃ (j : Nat) (a' : Option Addr) (c' : Nat), j ≤ 8 ∧ t = .slice a' (len + 1 + k + j) c' ∧ i = .int .i64 (7 - (j : Int)) ∧ Row8 w.heap.size wr a' (len + 1 + k + j) c' (zs ++ 128 :: List.replicate k 0 ++ (lenBytes len).take j) ∧ Below w.heap.size w wr) (fun t _ _ => len + 1 + k + 8 - lenV t)
      case atStart => exact ⟨0, a', c', by omega, rfl, rfl, by simpa using HR.out, HB.out⟩
      case round =>
        obtain ⟨j, a', c', hj, rfl, rfl, hrow, hb⟩ := hrel
        by_cases hlt : j < 8
        · obtain ⟨a3, c3, w3, happ, H3⟩ := hrow.append hb.size (by omega) (8 * (len : Int) / 2 ^ (8 * (7 - j)) % 256)
          have hx : (8 * (len : Int) / 2 ^ (8 * (7 - j)) % 256) = ((8 * len / 2 ^ (8 * (7 - j)) % 256 : Nat) : Int) := by push_cast; rfl
          have HX := Lib.hid hx
          have HB := Lib.hid hb
          clear hrow hb hx
          go_wp2_with (at_builtin; refine wpList_append_run rfl _ _ _ rfl _ _ _ _ rfl rfl happ ?_)
          go_roundw
          case rel =>
            refine ⟨j + 1, a3, c3, by omega, rfl, by go_num, ?_, HB.out.trans H3.out.2⟩
            have h1 := H3.out.1
            rw [HX.out, List.append_assoc, ← lenBytes_snoc len j hlt] at h1
            exact h1
          case measure => simp [lenV]; omega
        · obtain rfl : j = 8 := by omega
          have HR := Lib.hid hrow
          have HB := Lib.hid hb
          clear hrow hb
          go_wp2
          go_ret
          have hlen : (padded zs).length = len + 1 + k + 8 := by
            simp [padded, lenBytes, HZ.out, HK.out]; omega
          have hz : zs ++ 128 :: List.replicate k 0 ++ (lenBytes len).take 8 = padded zs := by
            unfold padded
            rw [HZ.out, HK.out, List.take_of_length_le (by simp [lenBytes])]
          rw [hlen]
          refine ⟨a', c', rfl, ?_, HB.out⟩
          rw [← hz]
          exact HR.out
end Go.Proofs.YtcmaclaiholpfaaDoor
