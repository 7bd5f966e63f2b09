/-
  The walk of ChunkLengths.
-/
import Derived.Test.YtoahkigmbmdniaaLChCom
import Derived.Test.YtoahkigmbmdniaaZeros
namespace Go.Proofs.Ytoahkigmbmdniaa
open Go.RowKit
set_option linter.unusedVariables false

/-- Noughts behind a head. -/
def headed (k : Int) (l n : Nat) : List Int := [k, 0, (l : Int) / 256, (l : Int) % 256] ++ List.replicate n 0
theorem headed_len (k : Int) (l n : Nat) : (headed k l n).length = 4 + n := by simp [headed]; omega
theorem headed_byt {k : Int} {l n : Nat} (k0 : 0 ≤ k) (k1 : k ≤ 255) (hl : l ≤ 65535) : Byt (headed k l n) := by
  unfold headed
  refine Byt.append ?_ (Byt.rep (by omega) (by omega) _)
  intro z h
  simp at h
  omega
theorem headed_lenOf (k : Int) (l n : Nat) : lenOf (headed k l n) = l := by
  have e : ((headed k l n).drop 2).take 2 = [(l : Int) / 256, (l : Int) % 256] := rfl
  unfold lenOf
  rw [e, num2]
  omega
theorem headed_pre {k : Int} {l n : Nat} (k0 : 0 ≤ k) (k1 : k ≤ 255) (hl : l ≤ 65535) (h4 : 4 ≤ l) (hu : up4 l ≤ 4 + n) : encC k 0 (((headed k l n).drop 4).take (l - 4)) <+: headed k l n := by
  have e : 4 + (l - 4) = l := by omega
  refine pre_mk (headed_byt k0 k1 hl) (l - 4) (by rw [headed_len]; omega) (by rw [headed_lenOf]; omega) (by rw [e, headed_len]; exact hu) ?_
  rw [e]
  have hge := up4_ge l
  have : ((headed k l n).drop l).take (up4 l - l) = List.replicate (up4 l - l) 0 := by
    obtain ⟨m, rfl⟩ : ∃ m, l = 4 + m := ⟨l - 4, by omega⟩
    rw [← List.drop_drop]
    rw [show (headed k (4 + m) n).drop 4 = List.replicate n 0 from rfl]
    rw [List.drop_replicate, List.take_replicate]
    congr 1
    omega
  rw [this, zeroB_iff]
  simp
theorem headed_no {k : Int} {l n : Nat} (h : l < 4 ∨ 4 + n < up4 l) : ∀ (k' f' : Int) (body : List Int), body.length ≤ 65531 → ¬ encC k' f' body <+: headed k l n := by
  intro k' f' body hb hp
  obtain ⟨_, p2, p3, _⟩ := pre_parts hp hb
  rw [headed_lenOf] at p2
  rw [headed_len] at p3
  have e : l = 4 + body.length := by omega
  rw [← e] at p3
  omega

set_option maxRecDepth 100000 in
set_option maxHeartbeats 3200000 in
theorem chunkLengths_walk (k L M : Int) (w : World) (wk : (Lit.int .u8 k).wf = true) (wl : (Lit.int .u16 L).wf = true) (wm : (Lit.int .u16 M).wf = true) :
    Calls Try.prog 9 #[.int .u8 k, .int .u16 L, .int .u16 M] w fun e w' => e = .returned (.bool true) ∧ Below w.heap.size w w' := by
  obtain ⟨k0, k1⟩ := wf_u8_in wk
  obtain ⟨l0, l1⟩ := wf_u16_in wl
  obtain ⟨m0, m1⟩ := wf_u16_in wm
  clear wk wl wm
  obtain ⟨n, rfl⟩ := Int.eq_ofNat_of_zero_le m0
  obtain ⟨l, rfl⟩ := Int.eq_ofNat_of_zero_le l0
  have hn : n ≤ 65535 := by omega
  have hl : l ≤ 65535 := by omega
  obtain ⟨w0, hw0⟩ : ∃ w0, w.alloc (.cells #[.int .u8 k, .int .u8 0, .int .u8 ((l : Int) / 256), .int .u8 ((l : Int) % 256)] 5) = w0 := ⟨_, rfl⟩
  have hb0 : Below w.heap.size w w0 := by rw [← hw0]; exact (Below.refl _ _).alloc (Nat.le_refl _) _
  have hk0 : Blk w0 w.heap.size [k, 0, (l : Int) / 256, (l : Int) % 256] := by rw [← hw0]; exact heap_alloc_new _ _
  obtain ⟨a1, c1, w1, happ, H1⟩ := appendZeros w0 w.heap.size 4 n _ hk0 rfl (by omega)
  rw [show [k, 0, (l : Int) / 256, (l : Int) % 256] ++ List.replicate n 0 = headed k l n from rfl] at H1
  have hrd := read_any a1 (4 + n) c1 (headed k l n) w1 H1.out.1 (headed_byt k0 k1 hl) H1.out.2.1 (by omega)
  have HB := Lib.hid (hb0.trans (H1.out.2.2.mono hb0.size))
  have HR := Lib.hid hrd
  have h4n : ((4 + n : Nat) : Int) = 4 + (n : Int) := by omega
  clear hb0 hk0 H1 hrd
  go_enter Try.func9, Try.ntmps9
  go_wp2_with (at_builtin; refine Go.Lib.wpList_append_run _ rfl _ _ _ _ rfl _ _ rfl rfl _ _ happ ?_)
  clear happ hw0
  refine HR.out.mono ?_
  rintro e w2 ⟨hok, hb2⟩
  have HB2 := Lib.hid (HB.out.trans (hb2.mono HB.out.size))
  clear hb2 HR HB h4n
  by_cases hyes : 4 ≤ l ∧ up4 l ≤ 4 + n
  · obtain ⟨h4, hu⟩ := hyes
    have hpre := headed_pre k0 k1 hl h4 hu
    have hbl : (((headed k l n).drop 4).take (l - 4)).length = l - 4 := by
      have := headed_len k l n
      have := up4_ge l
      simp; omega
    obtain ⟨g, rfl, hg, hk⟩ := hok.yes hpre (by omega)
    rw [hbl, show 4 + (l - 4) = l by omega]
    have hup : ((up4 l : Nat) : Int) = ((l : Int) + 3) / 4 * 4 := by unfold up4; omega
    have hu2 : ((l : Int) + 3) / 4 * 4 ≤ 4 + (n : Int) := by omega
    rw [hup]
    have g1 : ¬ (l : Int) < 4 := by omega
    have hm : (l : Int) - 4 = ((l - 4 : Nat) : Int) := by omega
    have hb3 := chunkBelow w2 k 0 (.slice (some ⟨g, 0, none⟩) (l - 4) (l - 4))
    have ha3 := chunkBox w2 k 0 (.slice (some ⟨g, 0, none⟩) (l - 4) (l - 4))
    have c0 := ha3.cell (i := 0) rfl
    have c2 := ha3.cell (i := 2) rfl
    have HB3 := Lib.hid (HB2.out.trans (hb3.mono HB2.out.size))
    have HM := Lib.hid hm
    have h4' : (4 : Int) ≤ l := by omega
    clear hb3 ha3 hok hpre hbl hk hg hup hu HB2 h4
    generalize l - 4 = m at *
    go_wp2_with fail
    refine (works_any _).mono ?_
    rintro e w' ⟨rfl, hb⟩
    have HB4 := Lib.hid (HB3.out.trans (hb.mono HB3.out.size))
    clear hb HB3
    go_wp2
    go_ret
    exact ⟨rfl, HB4.out⟩
  · have hno : l < 4 ∨ 4 + n < up4 l := by omega
    obtain rfl := hok.no (headed_no hno)
    unfold noChunk
    have HB3 := Lib.hid (HB2.out.trans ((chunkBelow w2 0 0 (.slice none 0 0)).mono HB2.out.size))
    clear hok HB2 hyes
    by_cases h4 : (l : Int) < 4
    · clear hno
      go_wp2_with (go_at_call 11; refine (works_any _).mono ?_; rintro e w' ⟨rfl, hb⟩)
      go_ret
      exact ⟨rfl, HB3.out.trans (hb.mono HB3.out.size)⟩
    · have hu : 4 + (n : Int) < ((l : Int) + 3) / 4 * 4 := by
        rcases hno with h | h
        · omega
        · unfold up4 at h; omega
      clear hno
      go_wp2_with (go_at_call 11; refine (works_any _).mono ?_; rintro e w' ⟨rfl, hb⟩)
      go_ret
      exact ⟨rfl, HB3.out.trans (hb.mono HB3.out.size)⟩
end Go.Proofs.Ytoahkigmbmdniaa
