/-
  Stage 10: the iterator over the chunks of bytes.
-/
import Derived.Test.YtnndlpbbllmpjaaPkP2
import Derived.Test.YtnndlpbbllmpjaaPkRef4
import Derived.Test.YtnndlpbbllmpjaaIter
import Derived.Shelf.Abstract
import Derived.Shelf.RegionOpen
import Derived.WalkKit
import Derived.OwnWalkIn
import Derived.TacticsInMore
import Derived.LoopNIn
import Derived.LoopIn
namespace Go.Proofs.Ytnndlpbbllmpjaa
open Go.RowKit Go.Shelf
set_option linter.unusedVariables false
set_option linter.unusedSimpArgs false
attribute [local go_sem] Oper.semAt_some

/-- What yield is handed. -/
def ckEnc : Option Ck → Array Value
  | some r => #[.agg #[.int .u8 r.k, .int .u8 r.f, .slice r.a r.n r.c], .int .i64 0]
  | none => #[.agg #[.int .u8 0, .int .u8 0, .slice none 0 0], .int .i64 7]
def PkMem (Bb : Nat) (a2 : Option Addr) (m c2 : Nat) (zs : List Int) (A : World) : Prop := A.cell? ⟨Bb, 0, none⟩ = some (.slice a2 m c2) ∧ Reads A a2 m zs
/-- These chunks are the first of these bytes. -/
def Firsts (zs : List Int) (M : List Ck) : Prop := (∀ c ∈ pcs M, c.zs.length ≤ 65531) ∧ (bodyP (pcs M)).length ≤ zs.length ∧ zs.take (bodyP (pcs M)).length = bodyP (pcs M)
/-- A chunk that was read: its body lies in a block of its own. -/
def CkNew (W0 W1 : World) (r : Ck) : Prop := ∃ g, r.a = some ⟨g, 0, none⟩ ∧ W0.heap.size ≤ g ∧ Blk W1 g r.zs ∧ r.n = r.zs.length ∧ r.c = r.zs.length ∧ (0 ≤ r.k ∧ r.k < 256) ∧ (0 ≤ r.f ∧ r.f < 256) ∧ Byt r.zs
def PkX (zs : List Int) (pre : List (Option Ck)) (x : Option Ck) (W0 W1 : World) : Prop := ∃ M, pre = M.map some ∧ Firsts zs M ∧ match x with
  | some r => CkNew W0 W1 r ∧ Firsts zs (M ++ [r])
  | none => (bodyP (pcs M)).length < zs.length ∧ ∀ (k f : Int) (body : List Int), body.length ≤ 65531 → ¬ encC k f body <+: zs.drop (bodyP (pcs M)).length
def PkS (zs : List Int) (xs : List (Option Ck)) : Prop := ∃ M, Firsts zs M ∧ ((xs = M.map some ∧ bodyP (pcs M) = zs) ∨ xs = M.map some ++ [none])
theorem pcs_snoc (M : List Ck) (r : Ck) : pcs (M ++ [r]) = pcs M ++ [r.pc] := by simp [pcs]
theorem Firsts.next {zs : List Int} {M : List Ck} (h : Firsts zs M) {r : Ck} (hl : r.zs.length ≤ 65531) (hp : encC r.k r.f r.zs <+: zs.drop (bodyP (pcs M)).length) : Firsts zs (M ++ [r]) ∧ (bodyP (pcs (M ++ [r]))).length = (bodyP (pcs M)).length + up4 (4 + r.zs.length) := by
  have hb : bodyP (pcs (M ++ [r])) = bodyP (pcs M) ++ encC r.k r.f r.zs := by
    rw [pcs_snoc, bodyP_app, bodyP_cons, bodyP_nil, List.append_nil]
    show _ ++ encOf r.k r.f r.zs = _
    rw [encOf_yes hl]
  have hlen : (bodyP (pcs (M ++ [r]))).length = (bodyP (pcs M)).length + (encC r.k r.f r.zs).length := by rw [hb, List.length_append]
  have hle := hp.length_le
  rw [List.length_drop] at hle
  refine ⟨⟨fun c hc => ?_, by rw [hlen]; have := h.2.1; omega, ?_⟩, by rw [hlen, encC_len]⟩
  · rw [pcs_snoc] at hc
    rcases List.mem_append.1 hc with hc | hc
    · exact h.1 c hc
    · simp at hc
      subst hc
      exact hl
  · rw [hlen, hb, List.take_add, h.2.2]
    obtain ⟨t, ht⟩ := hp
    rw [← ht, List.take_left]

set_option maxRecDepth 100000 in
set_option maxHeartbeats 1600000 in
theorem chunks_seq (Bb : Nat) (a2 : Option Addr) (m c2 : Nat) (zs : List Int) (hz : Byt zs) (hm : m ≤ c2) (hmm : m ≤ 1048576) (n : Nat) (hn : 3 ≤ n) :
    Iter.Seq Fence.wide n Try.prog 56 #[.pointer (some ⟨Bb, 0, none⟩)] ckEnc (PkMem Bb a2 m c2 zs) (PkX zs) (PkS zs) := by
  intro l J Jx W hJ hM hY h0
  have HJ := Lib.hid hJ
  have HM := Lib.hid hM
  have HY := Lib.hid hY
  have hd : 1 ≤ n - 1 := by omega
  clear hJ hM hY
  refine callsIn_of_wp Try.func56 rfl trivial ?_ rfl
  simp only [Try.ntmps56, List.size_toArray, List.length_cons, List.length_nil, Nat.reduceAdd, Nat.reduceSub, Array.replicate_succ, Array.replicate_zero, List.push_toArray, List.append_toArray, List.nil_append, List.cons_append]
  gi_wp2
  gi_loopw [3] (fun i wr => ∃ (M : List Ck) (at' : Nat), i = .int .i64 (at' : Int) ∧ at' = (bodyP (pcs M)).length ∧ Firsts zs M ∧ J (M.map some) wr) (fun i _ => m - (intOf i).toNat)
  case atStart => exact ⟨[], 0, rfl, rfl, ⟨by simp [pcs], by simp [pcs, bodyP_nil], by simp [pcs, bodyP_nil]⟩, h0⟩
  case round =>
    obtain ⟨M, at', rfl, hat, hfi, hj⟩ := hrel
    have hmem := HM.out _ _ hj
    have hzl : zs.length = m := hmem.2.1
    have hc1 := hmem.1
    by_cases hlt : at' < m
    · have hcut := cut_l a2 m c2 at' (by omega) wr
      have hrd := reads_from hmem.2 (lo := at') (by omega) hm
      have HRD := Lib.hid (read_any (cutA a2 at' c2) (m - at') (c2 - at') (zs.drop at') wr hrd (hz.drop at') (by omega) (by omega))
      have hl1 : (at' : Int) < (m : Int) := by omega
      have HH := Lib.hid (And.intro hat (And.intro hfi (And.intro hj hzl)))
      clear hat hfi hj hrd hmem hzl
      gi_wp2_with fail
      refine ⟨trivial, fun _ => by omega, ?_⟩
      refine (callsIn_wide.2 HRD.out).mono ?_
      rintro e w2 ⟨hok, hb2⟩
      rcases hok with ⟨k, f, body, g, hl, hp, rfl, hg, hk⟩ | ⟨hno, rfl⟩
      · obtain ⟨hkb, hfb, hzb⟩ := pre_bytes hp hl (hz.drop at')
        obtain ⟨r, hr⟩ : ∃ r, Ck.mk k f (some ⟨g, 0, none⟩) body.length body.length body = r := ⟨_, rfl⟩
        obtain ⟨w3, hw3⟩ : ∃ w3, w2.alloc (.cells #[.int .u8 k, .int .u8 f, .slice (some ⟨g, 0, none⟩) body.length body.length] 41) = w3 := ⟨_, rfl⟩
        have hb3 : Below w2.heap.size w2 w3 := by rw [← hw3]; exact (Below.refl _ _).alloc (Nat.le_refl _) _
        have hA3 : Arr w3 w2.heap.size 41 [.int .u8 k, .int .u8 f, .slice (some ⟨g, 0, none⟩) body.length body.length] := by rw [← hw3]; exact arr_new _ _ _
        have d0 := hA3.cell (i := 0) rfl
        have d1 := hA3.cell (i := 1) rfl
        have d2 := hA3.cell (i := 2) rfl
        have hp' : encC r.k r.f r.zs <+: zs.drop (bodyP (pcs M)).length := by rw [← hr, ← HH.out.1]; exact hp
        obtain ⟨hfn, hln⟩ := HH.out.2.1.next (r := r) (by rw [← hr]; exact hl) hp'
        have hx : PkX zs (M.map some) (some r) wr w3 := ⟨M, rfl, HH.out.2.1, by rw [← hr]; exact ⟨g, rfl, hg, hk.below hb3, rfl, rfl, hkb, hfb, hzb⟩, hfn⟩
        obtain ⟨fn, tmps, assign, bd, hy, hR⟩ := HY.out _ _ _ _ HH.out.2.2.1 (hb2.trans (hb3.mono hb2.size)) hx
        rw [← hr] at hy
        dsimp only [ckEnc] at hy
        have hlen : (bodyP (pcs (M ++ [r]))).length = at' + up4 (4 + body.length) := by rw [hln, ← HH.out.1, ← hr]
        have hup := up4_ge (4 + body.length)
        have HQ := Lib.hid (And.intro hfn hlen)
        have hub : at' + up4 (4 + body.length) ≤ m := by rw [← hlen, ← HH.out.2.2.2]; exact hfn.2.1
        clear hp hp' hg hk hkb hfb hzb hb2 hb3 hA3 hx hfn hln hlen hl hm
        obtain ⟨U, hU⟩ : ∃ U, up4 (4 + body.length) = U := ⟨_, rfl⟩
        rw [hU] at hup hub HQ ⊢
        clear hU
        gi_wp2
        refine ⟨fun _ => by omega, hR.mono ?_⟩
        rintro e W3 (⟨rfl, hJ3⟩ | ⟨rfl, hJx3⟩)
        · gi_wp2
          go_roundw
          case rel => exact ⟨M ++ [r], at' + U, congrArg (Value.int .i64) (by omega), HQ.out.2.symm, HQ.out.1, by rw [List.map_append]; exact hJ3⟩
          case measure => simp [intOf]; omega
        · gi_wp2
          refine bodyPost_ret (results_none rfl _ _ _) rfl ?_
          exact ⟨⟨_, rfl⟩, .inr ⟨_, hJx3⟩⟩
      · have hb3 : Below w2.heap.size w2 (w2.alloc (.cells #[.int .u8 0, .int .u8 0, .slice none 0 0] 41)) := (Below.refl _ _).alloc (Nat.le_refl _) _
        have hA3 : Arr (w2.alloc (.cells #[.int .u8 0, .int .u8 0, .slice none 0 0] 41)) w2.heap.size 41 [.int .u8 0, .int .u8 0, .slice none 0 0] := arr_new _ _ _
        have d0 := hA3.cell (i := 0) rfl
        have d1 := hA3.cell (i := 1) rfl
        have d2 := hA3.cell (i := 2) rfl
        have hx : PkX zs (M.map some) none wr (w2.alloc (.cells #[.int .u8 0, .int .u8 0, .slice none 0 0] 41)) := ⟨M, rfl, HH.out.2.1, by rw [← HH.out.1, HH.out.2.2.2]; exact hlt, fun k f body hl hp => hno k f body hl (by rw [HH.out.1]; exact hp)⟩
        obtain ⟨fn, tmps, assign, bd, hy, hR⟩ := HY.out _ _ _ _ HH.out.2.2.1 (hb2.trans (hb3.mono hb2.size)) hx
        dsimp only [ckEnc] at hy
        clear hno hb2 hb3 hA3 hx hm
        unfold noChunk
        gi_wp2
        refine ⟨fun _ => by omega, hR.mono ?_⟩
        rintro e W3 (⟨rfl, hJ3⟩ | ⟨rfl, hJx3⟩)
        · gi_wp2
          refine bodyPost_ret (results_none rfl _ _ _) rfl ?_
          exact ⟨⟨_, rfl⟩, .inl ⟨_, ⟨M, HH.out.2.1, .inr rfl⟩, hJ3⟩⟩
        · gi_wp2
          refine bodyPost_ret (results_none rfl _ _ _) rfl ?_
          exact ⟨⟨_, rfl⟩, .inr ⟨_, hJx3⟩⟩
    · obtain rfl : at' = m := by have := hfi.2.1; omega
      have he : bodyP (pcs M) = zs := by rw [← hfi.2.2, ← hat, List.take_of_length_le (by omega)]
      have HS := Lib.hid (show PkS zs (M.map some) from ⟨M, hfi, .inl ⟨rfl, he⟩⟩)
      have HJ2 := Lib.hid hj
      clear hfi he hj hmem hat
      gi_wp2
      go_end0
      exact ⟨⟨_, rfl⟩, .inl ⟨_, HS.out, HJ2.out⟩⟩
end Go.Proofs.Ytnndlpbbllmpjaa
