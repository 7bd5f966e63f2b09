/-
  The program's sha: Write.
-/
import Derived.Test.YtcmaclaiholpfaaDoorShaP7
import Derived.Test.YtcmaclaiholpfaaDoorShaApi
namespace Go.Proofs.YtcmaclaiholpfaaDoor
open Go.RowKit
set_option linter.unusedVariables false

theorem turn_setRow (w : World) (g : Nat) (cs : Array Value) : Turn [g] w (w.setRow g cs) :=
  ⟨rfl, rfl, rfl, by simp [World.setRow], fun k hk hn => setRow_other w g k cs (by simpa using hn)⟩
theorem Raw.copied {w : World} {sb : Nat} {A : List Nat} {B : List Int} {n : Nat} (h : Raw w sb A B n) {o : Nat} {c : List Int} (ho : o + c.length ≤ 64) (hc : Byt c) :
    Raw (w.setRow sb ((stCells A B n).take (8 + o) ++ (c.map (Value.int .u8) ++ (stCells A B n).drop (8 + o + (c.map (Value.int .u8)).length))).toArray) sb A (YtcmaclaiholpfaaDoor.laid B o c) n := by
  rw [h.laid ho hc]
  exact ⟨setRow_heap w sb _ _ _ _ h.row, h.a, laid_len h.b ho, laid_byt h.byt hc⟩
theorem Reads.cut {w : World} {b off l k c : Nat} {zs : List Int} (h : Reads w (some ⟨b, off, none⟩) l zs) (hk : k ≤ l) (hc : l ≤ c) : Reads w (if c = k then some ⟨b, off, none⟩ else some ⟨b, off + k, none⟩) (l - k) (zs.drop k) := by
  by_cases e : c = k
  · have : l - k = 0 := by omega
    refine ⟨by have := h.1; simp; omega, .inl this⟩
  · rw [if_neg e]
    have h2 := h.part k (l - k) (by omega)
    rwa [List.take_of_length_le (by have := h.1; simp; omega)] at h2
theorem cut_run (b off l k c : Nat) (hk : k ≤ l) (W : World) : (Instr.slice 22 (.slice (some ⟨b, off, none⟩) l c) (some (.int .i64 (k : Int))) none none).run Tryd.prog W = .ok (.slice (if c = k then some ⟨b, off, none⟩ else some ⟨b, off + k, none⟩) (l - k) (c - k)) W := by
  have h := run_slice_l (P := Tryd.prog) W 22 (some ⟨b, off, none⟩) l c (by kernel_rfl) .i64 (k : Int) (by omega) (by omega)
  have he : Tryd.prog.elem 22 = 5 := by kernel_rfl
  rw [h, he, cell_size]
  simp [Result.andThen, sliced, Addr.add_mid]
theorem elemB : (Tryd.prog.info? 5).map (·.size) = some 1 := by kernel_rfl
set_option maxRecDepth 100000 in
set_option maxHeartbeats 3200000 in
theorem pwrite_any (w : World) (sb : Nat) (zs : List Int) (a : Option Addr) (len cap : Nat) (ys : List Int) (hst : StV w sb zs) (hby : Byt ys) (hr : Reads w a len ys) (hc : len ≤ cap) (hl : zs.length + len ≤ 2199023255552)
    (ht : Tab w) (hT : ∀ g ∈ tabs, g ∉ [sb]) (hfar : 0 < len → ∀ q, a = some q → q.block ∉ [sb]) :
    Calls Tryd.prog 43 #[.pointer (some ⟨sb, 0, none⟩), .slice a len cap] w fun e w' => e = .returned (.tuple #[]) ∧ StV w' sb (zs ++ ys) ∧ Turn [sb] w w' := by
  have HIN := Lib.hid (And.intro hst (And.intro hr (And.intro ht hfar)))
  have HC := Lib.hid (And.intro hby hT)
  have hlen := hr.1
  have HL := Lib.hid (And.intro hlen hl)
  clear hst hr ht hfar hby hT hlen hl
  go_enter Tryd.func43, Tryd.ntmps43
  go_wp2
  go_loopw [1] (fun b wr => ∃ (j l : Nat) (a' : Option Addr) (c' : Nat), j + l = len ∧ b = .slice a' l c' ∧ l ≤ c' ∧ c' ≤ cap ∧ Reads wr a' l (ys.drop j) ∧ (0 < l → ∀ q, a' = some q → q.block ∉ [sb]) ∧ StV wr sb (zs ++ ys.take j) ∧ Turn [sb] w wr ∧ Tab wr) (fun b _ => lenV b)
  case atStart => exact ⟨0, len, a, cap, by omega, rfl, hc, Nat.le_refl _, by simpa using HIN.out.2.1, HIN.out.2.2.2, by simpa using HIN.out.1, Turn.refl _ _, HIN.out.2.2.1⟩
  case round =>
    obtain ⟨j, l, a', c', hj, rfl, hc', hcc, hrd, hfar, hst, htn, htb⟩ := hrel
    by_cases hlt : 0 < l
    · obtain ⟨b, off, rfl⟩ := hrd.some_of hlt
      obtain ⟨A, B, hraw, hinv⟩ := hst
      have hm1 : (zs ++ ys.take j).length = zs.length + j := by have := HL.out.1; simp; omega
      obtain ⟨xs, hxs⟩ : ∃ xs, xs = zs ++ ys.take j := ⟨_, rfl⟩
      rw [← hxs] at hraw hinv hm1
      obtain ⟨m, hm⟩ : ∃ m, m = xs.length := ⟨_, rfl⟩
      obtain ⟨o, ho⟩ : ∃ o, o = m % 64 := ⟨_, rfl⟩
      have ho64 : o < 64 := by rw [ho]; exact Nat.mod_lt _ (by omega)
      obtain ⟨k, hk⟩ : ∃ k, k = Nat.min l (64 - o) := ⟨_, rfl⟩
      have hk1 : 1 ≤ k ∧ k ≤ l ∧ k ≤ 64 - o ∧ (k = l ∨ k = 64 - o) := by rw [hk]; simp only [Nat.min_def]; split <;> omega
      obtain ⟨ch, hch⟩ : ∃ ch, ch = (ys.drop j).take k := ⟨_, rfl⟩
      have hcl : ch.length = k := by rw [hch]; have := HL.out.1; simp; omega
      have hcb : Byt ch := by rw [hch]; exact (HC.out.1.drop _).take _
      rw [← hm] at hraw
      have ccnt := hraw.count
      have fcnt := hraw.free 72
      have hmod : (m : Int) % 64 = (o : Int) := by omega
      have hmodt : (m : Int).tmod 64 = (o : Int) := by rw [Int.tmod_eq_emod_of_nonneg (by omega)]; exact hmod
      have g3 : (o : Int) ≤ 64 := by omega
      have g4 : ¬ (64 = o) := by omega
      have g0 : (o : Int) < 64 := by omega
      have g1 : (0 : Int) ≤ (o : Int) := by omega
      have g2 : (0 : Int) < (l : Int) := by omega
      have hlong : m + k ≤ 2199023255552 := by have := HL.out.2; omega
      have HQ := Lib.hid (And.intro hxs (And.intro hm (And.intro ho (And.intro hk (And.intro hk1 (And.intro hch (And.intro hcl hcb)))))))
      have HS := Lib.hid (And.intro hraw (And.intro hinv (And.intro htn (And.intro htb (And.intro hrd hfar)))))
      clear hxs hm ho hk hk1 hch hcl hcb hraw hinv htn htb hrd hfar hm1
      go_wp2
      go_still_tail 10, (by kernel_rfl)
      change wpList _ _ _ _ _ wr.drew
      have hkk := HQ.out.2.2.2.2.1
      have hcl : (ch.map (Value.int .u8)).length = k := by rw [List.length_map]; exact HQ.out.2.2.2.2.2.2.1
      have hcl0 := HQ.out.2.2.2.2.2.2.1
      have HCL := Lib.hid (And.intro hcl hcl0)
      have hcp := (show Raw wr.drew sb A B m from HS.out.1.drewN 1).copied (o := o) (c := ch) (by omega) HQ.out.2.2.2.2.2.2.2
      obtain ⟨W1, hW1⟩ : ∃ W1, W1 = wr.drew.setRow sb ((stCells A B m).take (8 + o) ++ (ch.map (Value.int .u8) ++ (stCells A B m).drop (8 + o + (ch.map (Value.int .u8)).length))).toArray := ⟨_, rfl⟩
      have htn1 : Turn [sb] wr W1 := by rw [hW1]; exact (Turn.refl _ _).drew.trans (turn_setRow _ _ _)
      rw [← hW1] at hcp
      have HW1 := Lib.hid hW1
      have H1 := Lib.hid (And.intro hcp htn1)
      clear hW1 hcp htn1
      refine wpList_copy_own rfl (.tmp 18) (.tmp 19) 22 22 rfl 5 Tryd.underlying22 elemB sb (8 + o) (64 - o) (64 - o) ⟨b, off, none⟩ l c' rfl rfl (stCells A B m).toArray 77 HS.out.1.row (ch.map (Value.int .u8)) (by rw [hcl]; exact HQ.out.2.2.2.1)
        (fun i v hv => ?_) (by rw [hcl]; have := HS.out.1.a.len; have := HS.out.1.b; simp [stCells]; omega) (oneByte _) ?_
      · rw [Addr.add_mid]
        rw [List.getElem?_map] at hv
        obtain ⟨y, hy, rfl⟩ := Option.map_eq_some_iff.1 hv
        have hik : i < k := by have := (List.getElem?_eq_some_iff.1 hy).1; omega
        rcases HS.out.2.2.2.2.1.2 with h0 | ⟨b2, off2, e2, _, hc2⟩
        · omega
        · cases e2
          have := hc2 i (by omega)
          rw [HQ.out.2.2.2.2.2.1, List.getElem?_take, if_pos hik] at hy
          rw [hy] at this
          exact this
      change wpList _ _ _ _ _ (wr.drew.setRow sb ((stCells A B m).take (8 + o) ++ (ch.map (Value.int .u8) ++ (stCells A B m).drop (8 + o + (ch.map (Value.int .u8)).length))).toArray)
      rw [← HW1.out, hcl]
      clear ccnt fcnt hcl hcl0 hmod hmodt HW1
      have ccnt := H1.out.1.count
      have fcnt := H1.out.1.free 72
      have g5 : (0 : Int) ≤ (k : Int) := by omega
      have hsl := cut_run b off l k c' (by omega)
      have hblk : ∀ q, (if c' = k then some (⟨b, off, none⟩ : Addr) else some ⟨b, off + k, none⟩) = some q → q.block = b := by
        intro q hq
        split at hq <;> (cases hq; rfl)
      have hcut := fun W h => Reads.cut (w := W) (b := b) (off := off) (l := l) (k := k) (c := c') (zs := ys.drop j) h (by omega) hc'
      generalize (if c' = k then some (⟨b, off, none⟩ : Addr) else some ⟨b, off + k, none⟩) = aa at *
      have HCUT := Lib.hid (And.intro hcut hblk)
      clear hcut hblk
      have g7 : IntKind.u64.wrap (k : Int) = (k : Int) := by rw [IntKind.wrap_u64]; omega
      have g8 : IntKind.u64.wrap ((m : Int) + (k : Int)) = (m : Int) + (k : Int) := by rw [IntKind.wrap_u64]; omega
      by_cases hfull : o + k = 64
      · have g9 : ((m : Int) + (k : Int)).tmod 64 = 0 := by rw [Int.tmod_eq_emod_of_nonneg (by omega)]; have := HQ.out.2.2.1; omega
        have HKK := Lib.hid hkk
        clear hkk
        have hr2 : Raw (W1.setCell ⟨sb, 72, none⟩ (.int .u64 ((m : Int) + (k : Int)))) sb A (laid B o ch) (m + k) := by
          have := H1.out.1.setN (m + k)
          rwa [show ((m + k : Nat) : Int) = (m : Int) + (k : Int) by push_cast; rfl] at this
        have ht2 : Turn [sb] wr (W1.setCell ⟨sb, 72, none⟩ (.int .u64 ((m : Int) + (k : Int)))) := H1.out.2.setCell (by simp) _
        have tb2 := tab_turn HS.out.2.2.2.1 ht2 HC.out.2
        have hab := pabsorb_any _ sb A (laid B o ch) (m + k) hr2 tb2
        have HAB := Lib.hid hab
        have HT2 := Lib.hid ht2
        clear hr2 ht2 tb2 hab
        go_wp2_with fail
        refine HAB.out.mono ?_
        rintro e w3 ⟨rfl, hr3, ht3⟩
        have H3 := Lib.hid (And.intro hr3 (HT2.out.trans ht3))
        clear hr3 ht3 HAB
        go_wp2
        go_roundw
        case rel =>
          have hkk := HKK.out
          have hxk : (zs ++ ys.take (j + k)) = xs ++ ch := by rw [HQ.out.1, HQ.out.2.2.2.2.2.1, List.append_assoc, List.take_add]
          refine ⟨j + k, l - k, aa, c' - k, by omega, rfl, by omega, by omega, ?_, ?_, ?_, HS.out.2.2.1.trans H3.out.2, tab_turn HS.out.2.2.2.1 H3.out.2 HC.out.2⟩
          · have h1 := HCUT.out.1 wr HS.out.2.2.2.2.1
            rw [List.drop_drop] at h1
            exact reads_turn h1 H3.out.2 (fun _ q hq => by rw [HCUT.out.2 q hq]; exact HS.out.2.2.2.2.2 hlt _ rfl)
          · intro _ q hq
            rw [HCUT.out.2 q hq]
            exact HS.out.2.2.2.2.2 hlt _ rfl
          · rw [hxk]
            refine ⟨_, _, ?_, inv_full (A := A) (B := B) (zs := xs) (c := ch) HS.out.2.1 HS.out.1.a HS.out.1.b (by rw [HCL.out.2]; have := HQ.out.2.1; have := HQ.out.2.2.1; omega)⟩
            have := H3.out.1
            rw [show (xs ++ ch).length = m + k by rw [List.length_append, HCL.out.2, HQ.out.2.1], show xs.length % 64 = o by have := HQ.out.2.1; have := HQ.out.2.2.1; omega]
            exact this
        case measure => have hkk := HKK.out; simp [lenV]; omega
      · have g9 : ((m : Int) + (k : Int)).tmod 64 = ((o + k : Nat) : Int) := by rw [Int.tmod_eq_emod_of_nonneg (by omega)]; have := HQ.out.2.2.1; omega
        have g10 : ¬ (o + k = 0) := by omega
        have g11 : (((o + k : Nat) : Int) == 0) = false := by simp; omega
        have g12 : decide (((o + k : Nat) : Int) = 0) = false := by simp; omega
        have hr2 : Raw (W1.setCell ⟨sb, 72, none⟩ (.int .u64 ((m : Int) + (k : Int)))) sb A (laid B o ch) (m + k) := by
          have := H1.out.1.setN (m + k)
          rwa [show ((m + k : Nat) : Int) = (m : Int) + (k : Int) by push_cast; rfl] at this
        have ht2 : Turn [sb] wr (W1.setCell ⟨sb, 72, none⟩ (.int .u64 ((m : Int) + (k : Int)))) := H1.out.2.setCell (by simp) _
        have H3 := Lib.hid (And.intro hr2 ht2)
        have HKK := Lib.hid (And.intro hkk hfull)
        clear hr2 ht2 hkk hfull
        generalize o + k = ok at g9 g10 g11 g12
        go_wp2
        go_roundw
        case rel =>
          have hkk := HKK.out.1
          have hfl := HKK.out.2
          have hxk : (zs ++ ys.take (j + k)) = xs ++ ch := by rw [HQ.out.1, HQ.out.2.2.2.2.2.1, List.append_assoc, List.take_add]
          refine ⟨j + k, l - k, aa, c' - k, by omega, rfl, by omega, by omega, ?_, ?_, ?_, HS.out.2.2.1.trans H3.out.2, tab_turn HS.out.2.2.2.1 H3.out.2 HC.out.2⟩
          · have h1 := HCUT.out.1 wr HS.out.2.2.2.2.1
            rw [List.drop_drop] at h1
            exact reads_turn h1 H3.out.2 (fun _ q hq => by rw [HCUT.out.2 q hq]; exact HS.out.2.2.2.2.2 hlt _ rfl)
          · intro _ q hq
            rw [HCUT.out.2 q hq]
            exact HS.out.2.2.2.2.2 hlt _ rfl
          · rw [hxk]
            refine ⟨_, _, ?_, inv_more (A := A) (B := B) (zs := xs) (c := ch) HS.out.2.1 HS.out.1.b (by rw [HCL.out.2]; have := HQ.out.2.1; have := HQ.out.2.2.1; omega)⟩
            have := H3.out.1
            rw [show (xs ++ ch).length = m + k by rw [List.length_append, HCL.out.2, HQ.out.2.1], show xs.length % 64 = o by have := HQ.out.2.1; have := HQ.out.2.2.1; omega]
            exact this
        case measure => have hkk := HKK.out.1; simp [lenV]; omega
    · obtain rfl : l = 0 := by omega
      have hys : ys.take j = ys := List.take_of_length_le (by have := HL.out.1; omega)
      rw [hys] at hst
      have HE := Lib.hid (And.intro hst htn)
      clear hst htn hrd hfar htb hys
      go_wp2
      go_end0
      exact ⟨rfl, HE.out.1, HE.out.2⟩
end Go.Proofs.YtcmaclaiholpfaaDoor
